/- The program's without on clauses. -/
import Derived.Test.YtolfjkdkbiicmaaLitT
namespace Go.Proofs.Ytolfjkdkbiicmaa
open Go.ChangeShapes Go.WideShapes Go.ChangeAt Go.RowKit Go.Deep Go.Shelf
set_option linter.unusedVariables false
set_option linter.unusedSimpArgs false

set_option maxRecDepth 100000 in
set_option maxHeartbeats 2000000 in
theorem negation_any (l : Lit) (w : World) :
    Calls Try.prog 130 #[.agg #[.int .i64 l.var, .int .i64 l.val, .bool l.neg]] w fun e w' => e = .returned (.agg #[.int .i64 (negL l).var, .int .i64 (negL l).val, .bool (negL l).neg]) ∧ Below w.heap.size w w' := by
  go_enter Try.func130, Try.ntmps130
  go_wp2
  refine bodyPost_ret (v := .agg #[.int .i64 l.var, .int .i64 l.val, .bool !l.neg]) (by simp [results, Try.results130, go_sem]) rfl ⟨rfl, below2 _ _ _⟩

set_option maxRecDepth 100000 in
theorem eql_lit' (w : World) (l k : Lit) : (binOp .eql 47 (.agg #[.int .i64 l.var, .int .i64 l.val, .bool l.neg]) (.agg #[.int .i64 k.var, .int .i64 k.val, .bool k.neg])).run Try.prog w = .ok (.bool (decide (l = k))) w := by
  obtain ⟨a, b, c⟩ := l
  obtain ⟨p, q, r⟩ := k
  go_simp
  by_cases h1 : a = p
  · by_cases h2 : b = q
    · by_cases h3 : c = r <;> simp [h1, h2, h3]
    · simp [h1, h2]
  · simp [h1]
set_option maxRecDepth 100000 in
set_option maxHeartbeats 2000000 in
theorem wo1_any (o l : Lit) (bx : Nat) (w : World) (hb : LitCs bx l w) :
    Calls Try.prog 175 #[.agg #[.int .i64 o.var, .int .i64 o.val, .bool o.neg], .pointer (some ⟨bx, 0, none⟩)] w fun e w' => e = .returned (.bool (decide (o = l))) ∧ Below w.heap.size w w' := by
  have hq := fun w => eql_lit' w o l
  obtain ⟨t, ht⟩ : ∃ t, t = decide (o = l) := ⟨_, rfl⟩
  rw [← ht]
  simp only [← ht] at hq
  obtain ⟨W, hW⟩ : ∃ W, w.alloc (.cells #[.int .i64 o.var, .int .i64 o.val, .bool o.neg] 47) = W := ⟨_, rfl⟩
  have b1 : Below w.heap.size w W := by rw [← hW]; exact below1 _ _
  obtain ⟨d0, d1, d2⟩ := litCells_below hb b1
  rw [← hW] at d0 d1 d2
  clear hb b1 hW ht
  go_enter Try.func175, Try.ntmps175
  go_wp2
  go_ret
  exact ⟨rfl, below1 _ _⟩

set_option maxRecDepth 100000 in
set_option maxHeartbeats 4000000 in
theorem woIx_any (v : Value) (ls : List Lit) (l : Lit) (bx : Nat) (w : World) (h : RdLits w v ls) (hb : LitCs bx l w) :
    Calls Try.prog 152 #[v, .func (.func 175) #[] #[.pointer (some ⟨bx, 0, none⟩)]] w fun e w' => ∃ r : Int, e = .returned (.int .i64 r) ∧ ((r = -1 ∧ l ∉ ls) ∨ ∃ i : Nat, r = (i : Int) ∧ i < ls.length ∧ ls[i]? = some l ∧ wioL (ls.take (i + 1)) l = ls.take i) ∧ Below w.heap.size w w' := by
  have HC := Lib.hid h
  have HBX := Lib.hid hb
  obtain ⟨a, cap, ev, hl, hm, _⟩ := h
  obtain ⟨m, hm'⟩ : ∃ m, m = ls.length := ⟨_, rfl⟩
  have HN := Lib.hid hm'
  rw [ev] at HC ⊢
  rw [← hm'] at hl HC ⊢
  clear hm' ev hb
  unfold maxLen at hm
  go_enter Try.func152, Try.ntmps152
  go_wp2
  go_loopw [8] (fun i wr => ∃ k : Nat, k ≤ m ∧ i = .int .i64 k ∧ Hid (∀ (j : Nat) (o : Lit), j < k → ls[j]? = some o → ¬ o = l) ∧ Below w.heap.size w wr) (fun i _ => m - (intOf i).toNat)
  case atStart => exact ⟨0, Nat.zero_le _, rfl, Lib.hid (fun j l hj => by omega), Below.refl _ _⟩
  case round =>
    obtain ⟨k, hk, rfl, HS, hbel⟩ := hrel
    by_cases hlt : k < m
    · obtain ⟨b, off, o, rfl, hck, k0, k1, k2⟩ := rdLits_at (HC.out.below hbel) hlt
      have HE := Lib.hid (wo1_any o l bx wr (litCells_below HBX.out hbel))
      have HCK := Lib.hid hck
      have HB : Hid (Below w.heap.size w wr) := Lib.hid hbel
      clear hck hbel
      by_cases he : o = l
      · rw [decide_eq_true he] at HE
        have HF : Hid (ls[k]? = some l ∧ wioL (ls.take (k + 1)) l = ls.take k) := Lib.hid ⟨by rw [HCK.out, he], by
          rw [wioL_step ls l k o HCK.out, decide_eq_true he, if_neg (by simp), List.append_nil]
          exact List.filter_eq_self.2 (fun x hx => by
            obtain ⟨i, hi⟩ := List.getElem?_of_mem hx
            have hik : i < k := by have := (List.getElem?_eq_some_iff.1 hi).1; simp at this; omega
            rw [List.getElem?_take_of_lt hik] at hi
            simp
            exact HS.out i x hik hi)⟩
        clear he
        go_wp2_with (go_at_call 175; refine HE.out.mono ?_; rintro e w9 ⟨rfl, b9⟩; have B9 := Lib.hid (HB.out.trans (b9.mono HB.out.size)); clear b9)
        go_ret
        exact ⟨k, rfl, .inr ⟨k, rfl, hlt, HF.out.1, HF.out.2⟩, B9.out⟩
      · rw [decide_eq_false he] at HE
        have HE2 := Lib.hid he
        clear he
        go_wp2_with (go_at_call 175; refine HE.out.mono ?_; rintro e w9 ⟨rfl, b9⟩; have B9 := Lib.hid (HB.out.trans (b9.mono HB.out.size)); clear b9)
        go_roundw
        case rel => exact ⟨k + 1, by omega, by go_num, Lib.hid (fun i q hi hl => by by_cases e : i = k; (· subst e; rw [HCK.out] at hl; obtain rfl := Option.some.inj hl; exact HE2.out); (· exact HS.out i q (by omega) hl)), B9.out⟩
        case measure => simp [intOf]; omega
    · obtain rfl : k = m := by omega
      have HF : Hid (l ∉ ls) := Lib.hid (fun hmem => by
        obtain ⟨j, hj⟩ := List.getElem?_of_mem hmem
        exact HS.out j l (by rw [HN.out]; exact (List.getElem?_eq_some_iff.1 hj).1) hj rfl)
      go_wp2
      go_ret
      exact ⟨-1, rfl, .inl ⟨rfl, HF.out⟩, hbel⟩
end Go.Proofs.Ytolfjkdkbiicmaa
