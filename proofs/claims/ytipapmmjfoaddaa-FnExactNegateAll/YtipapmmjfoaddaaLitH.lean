/- ClauseHolds, in both packages. -/
import Derived.Test.YtipapmmjfoaddaaLitX
import Derived.Test.YtipapmmjfoaddaaLitP
import Derived.Test.YtipapmmjfoaddaaSolA
namespace Go.Proofs.Ytipapmmjfoaddaa
open Go.ChangeShapes Go.WideShapes Go.ChangeAt Go.RowKit Go.Deep
set_option linter.unusedVariables false
set_option linter.unusedSimpArgs false

/-- One literal. -/
def lhB (xs : List Int) (l : Lit) : Bool := (decide (xs[l.var.toNat]?.getD 0 = l.val)) != l.neg
theorem hoB_true {ls : List Lit} {xs : List Int} {k : Nat} {l : Lit} (h : ls[k]? = some l) (hl : lhB xs l = true) : hoB ls xs = true :=
  List.any_eq_true.2 ⟨l, List.mem_of_getElem? h, hl⟩
theorem hoB_false {ls : List Lit} {xs : List Int} (h : ∀ (j : Nat) (l : Lit), ls[j]? = some l → lhB xs l = false) : hoB ls xs = false := by
  rw [hoB, List.any_eq_false]
  intro l hl
  obtain ⟨i, hi⟩ := List.getElem?_of_mem hl
  have := h i l hi
  unfold lhB at this
  rw [this]
  exact Bool.false_ne_true
/-- Every literal is on one of n variables. -/
def VarsIn (ls : List Lit) (n : Nat) : Prop := ∀ l ∈ ls, 0 ≤ l.var ∧ l.var < n
theorem clB_vars {ls : List Lit} {n : Nat} (h : clB ls n = true) : VarsIn ls n := fun l hl => by
  have := clB_lit h hl
  unfold litOk at this
  rw [Bool.and_eq_true] at this
  have := wiB_in this.1
  omega

set_option maxRecDepth 100000 in
set_option maxHeartbeats 4000000 in
theorem ch1_any (l : Lit) (xs : List Int) (bx : Nat) (xv : Value) (w : World) (hb : Boxed w bx 22 xv) (hx : RdInts w xv xs) (hv0 : 0 ≤ l.var) (hv1 : l.var < xs.length) :
    Calls Try.prog 48 #[.agg #[.int .i64 l.var, .int .i64 l.val, .bool l.neg], .pointer (some ⟨bx, 0, none⟩)] w fun e w' => e = .returned (.bool (lhB xs l)) ∧ Below w.heap.size w w' := by
  obtain ⟨lv, la, ln⟩ := l
  simp only at hv0 hv1 ⊢
  obtain ⟨j, rfl⟩ : ∃ j : Nat, lv = j := ⟨lv.toNat, by omega⟩
  obtain ⟨ax, cx, ex, -⟩ := id hx
  rw [ex] at hx hb
  obtain ⟨n, hn'⟩ : ∃ n, n = xs.length := ⟨_, rfl⟩
  rw [← hn'] at hx hb hv1
  have hcx := (rdInts_cap hx).2
  obtain ⟨b1, o1, rfl, q0⟩ := rdInts_at hx (show j < n by omega)
  obtain ⟨y, hy⟩ : ∃ y, y = xs[j]?.getD 0 := ⟨_, rfl⟩
  rw [← hy] at q0
  have HL : Hid (lhB xs ⟨j, la, ln⟩ = (!((y == la) == ln))) := Lib.hid (by rw [hy]; rfl)
  obtain ⟨W, hW⟩ : ∃ W, w.alloc (.cells #[.int .i64 j, .int .i64 la, .bool ln] 64) = W := ⟨_, rfl⟩
  have b1' : Below w.heap.size w W := by rw [← hW]; exact below1 _ _
  have c0 : W.cell? ⟨bx, 0, none⟩ = some (.slice (some ⟨b1, o1, none⟩) n cx) := (b1'.cell (World.block_lt_of_cell? w _ hb.cell)).trans hb.cell
  have d0 : W.cell? ⟨b1, o1 + j, none⟩ = some (.int .i64 y) := (b1'.cell (World.block_lt_of_cell? w _ q0)).trans q0
  have bl : Blk3 W w.heap.size 64 (.int .i64 j) (.int .i64 la) (.bool ln) := by rw [← hW]; exact Blk3.new _ _ _ _ _
  obtain ⟨e0, e1, e2⟩ := bl.cell
  have HB := Lib.hid b1'
  have HW := Lib.hid hW
  clear b1' hW bl q0 hb hx ex hy hn'
  go_enter Try.func48, Try.ntmps48
  go_wp2_with fail
  rw [HW.out]
  go_quiet (fail)
  all_goals go_wp2
  all_goals go_ret
  all_goals exact ⟨ret_bool HL.out.symm, below_drewN' HB.out _⟩

set_option maxRecDepth 100000 in
set_option maxHeartbeats 4000000 in
theorem chIx_any (v xv : Value) (ls : List Lit) (xs : List Int) (bx : Nat) (w : World) (h : RdLits w v ls) (hb : Boxed w bx 22 xv) (hx : RdInts w xv xs) (hok : VarsIn ls xs.length) :
    Calls Try.prog 74 #[v, .func (.func 48) #[] #[.pointer (some ⟨bx, 0, none⟩)]] w fun e w' => ∃ r : Int, e = .returned (.int .i64 r) ∧ (0 ≤ r ↔ hoB ls xs = true) ∧ Below w.heap.size w w' := by
  have HC := Lib.hid h
  have HX := Lib.hid hx
  have HO := Lib.hid hok
  have HBX := Lib.hid hb
  obtain ⟨a, cap, ev, hl, hm, _⟩ := h
  obtain ⟨m, hm'⟩ : ∃ m, m = ls.length := ⟨_, rfl⟩
  have HN := Lib.hid hm'
  rw [ev] at HC ⊢
  rw [← hm'] at hl HC ⊢
  clear hm' ev hok hx hb
  unfold maxLen at hm
  go_enter Try.func74, Try.ntmps74
  go_wp2
  go_loopw [8] (fun i wr => ∃ k : Nat, k ≤ m ∧ i = .int .i64 k ∧ Hid (∀ (j : Nat) (l : Lit), j < k → ls[j]? = some l → lhB xs l = false) ∧ Below w.heap.size w wr) (fun i _ => m - (intOf i).toNat)
  case atStart => exact ⟨0, Nat.zero_le _, rfl, Lib.hid (fun j l hj => by omega), Below.refl _ _⟩
  case round =>
    obtain ⟨k, hk, rfl, HS, hbel⟩ := hrel
    by_cases hlt : k < m
    · obtain ⟨b, off, l, rfl, hck, k0, k1, k2⟩ := rdLits_at (HC.out.below hbel) hlt
      obtain ⟨hv0, hv1⟩ := HO.out l (List.mem_of_getElem? hck)
      have HE := Lib.hid (ch1_any l xs bx xv wr ((hbel.block bx HBX.out.lt).trans HBX.out) (HX.out.below hbel) hv0 hv1)
      have HCK := Lib.hid hck
      have HB : Hid (Below w.heap.size w wr) := Lib.hid hbel
      clear hck hbel hv0 hv1
      cases h3 : lhB xs l
      · rw [h3] at HE
        go_wp2_with (go_at_call 48; refine HE.out.mono ?_; rintro e w9 ⟨rfl, b9⟩; have B9 := Lib.hid (HB.out.trans (b9.mono HB.out.size)); clear b9)
        go_roundw
        case rel => exact ⟨k + 1, by omega, by go_num, Lib.hid (fun i l hi hl => by by_cases e : i = k; (· subst e; rw [HCK.out] at hl; obtain rfl := Option.some.inj hl; exact h3); (· exact HS.out i l (by omega) hl)), B9.out⟩
        case measure => simp [intOf]; omega
      · have HF : Hid (hoB ls xs = true) := Lib.hid (hoB_true HCK.out h3)
        rw [h3] at HE
        go_wp2_with (go_at_call 48; refine HE.out.mono ?_; rintro e w9 ⟨rfl, b9⟩; have B9 := Lib.hid (HB.out.trans (b9.mono HB.out.size)); clear b9)
        go_ret
        exact ⟨k, rfl, ⟨fun _ => HF.out, fun _ => by omega⟩, B9.out⟩
    · obtain rfl : k = m := by omega
      have HF : Hid (hoB ls xs = false) := Lib.hid (hoB_false (fun j l hj => HS.out j l (by rw [HN.out]; exact (List.getElem?_eq_some_iff.1 hj).1) hj))
      go_wp2
      go_ret
      exact ⟨-1, rfl, ⟨fun h => by omega, fun h => by rw [HF.out] at h; cases h⟩, hbel⟩

set_option maxRecDepth 100000 in
theorem chCf_any (v xv : Value) (ls : List Lit) (xs : List Int) (bx : Nat) (w : World) (h : RdLits w v ls) (hb : Boxed w bx 22 xv) (hx : RdInts w xv xs) (hok : VarsIn ls xs.length) :
    Calls Try.prog 47 #[v, .func (.func 48) #[] #[.pointer (some ⟨bx, 0, none⟩)]] w (BoolPost (hoB ls xs) w) := by
  have HC := Lib.hid (chIx_any v xv ls xs bx w h hb hx hok)
  obtain ⟨a, cap, ev, hl, hm, _⟩ := h
  rw [ev] at HC ⊢
  clear ev hb hx hok
  unfold BoolPost
  go_enter Try.func47, Try.ntmps47
  go_wp2_with fail
  refine HC.out.mono ?_
  rintro e w9 ⟨r, rfl, hr, b⟩
  have HR := Lib.hid hr
  have HB := Lib.hid b
  clear hr b
  go_wp2
  go_ret
  refine ⟨ret_bool ?_, HB.out⟩
  cases hh : hoB ls xs
  · rw [hh] at HR
    exact decide_eq_false (fun h => by have := HR.out.1 h; cases this)
  · exact decide_eq_true (HR.out.2 hh)

set_option maxRecDepth 100000 in
set_option maxHeartbeats 4000000 in
theorem iClauseHolds_any (v xv : Value) (ls : List Lit) (xs : List Int) (w : World) (h : RdLits w v ls) (hx : RdInts w xv xs) :
    Calls Try.prog 20 #[v, xv] w (BoolPost (chB ls xs) w) := by
  obtain ⟨ax, cx, ex, -⟩ := id hx
  rw [ex] at hx ⊢
  obtain ⟨n, hn'⟩ : ∃ n, n = xs.length := ⟨_, rfl⟩
  have HNL := Lib.hid hn'
  have HF : Hid (chB ls xs = (wiB n 1 4 && allB xs 0 5 && clB ls n && hoB ls xs)) := Lib.hid (by rw [hn']; rfl)
  rw [← hn'] at hx ⊢
  have hcx := (rdInts_cap hx).2
  obtain ⟨W, hW⟩ : ∃ W, w.alloc (.cells #[.slice ax n cx] 22) = W := ⟨_, rfl⟩
  have b1 : Below w.heap.size w W := by rw [← hW]; exact below1 _ _
  have HBX : Hid (Boxed W w.heap.size 22 (.slice ax n cx)) := Lib.hid (by rw [← hW]; exact World.alloc_heap_new _ _)
  have HC := Lib.hid (h.below b1)
  have HX := Lib.hid (hx.below b1)
  have HB := Lib.hid b1
  have HW := Lib.hid hW
  have c0 := HBX.out.cell
  have HVC := Lib.hid (iValidClause_any v ls n W HC.out)
  unfold BoolPost at HVC ⊢
  clear h hx ex hn' b1 hW
  cases h1 : vclB ls n
  · have HF2 : Hid (chB ls xs = false) := Lib.hid (by
      rw [HF.out]
      unfold vclB at h1
      cases e1 : wiB n 1 4
      · rfl
      · rw [e1] at h1
        rw [show clB ls n = false from h1]
        simp)
    rw [h1] at HVC
    go_enter Try.func20, Try.ntmps20
    go_wp2_with fail
    rw [HW.out]
    refine HVC.out.mono ?_
    rintro e w2 ⟨rfl, b⟩
    have HB2 := Lib.hid (HB.out.trans (b.mono HB.out.size))
    clear b c0
    go_wp2
    go_ret
    exact ⟨ret_bool HF2.out.symm, HB2.out⟩
  rw [h1] at HVC
  have h1' := h1
  unfold vclB at h1'
  rw [Bool.and_eq_true] at h1'
  obtain ⟨e1, e2⟩ := h1'
  rw [e1, e2] at HF
  have HVI : Hid (VarsIn ls xs.length) := Lib.hid (by rw [← HNL.out]; exact clB_vars e2)
  have hb := wiB_in e1
  clear e1 e2 h1
  cases h2 : allB xs 0 5
  · rw [h2] at HF
    go_enter Try.func20, Try.ntmps20
    go_wp2_with fail
    rw [HW.out]
    refine HVC.out.mono ?_
    rintro e w2 ⟨rfl, b⟩
    have HB2 := Lib.hid (HB.out.trans (b.mono HB.out.size))
    have c0' := (b.cell (World.block_lt_of_cell? W _ c0)).trans c0
    have HX2 := Lib.hid (HX.out.below b)
    clear b c0
    go_wp2_with fail
    refine (isAssignment_any _ xs n w2 HX2.out (by omega)).mono ?_
    rintro e w' ⟨rfl, rfl⟩
    rw [h2, Bool.and_false]
    go_wp2
    go_ret
    exact ⟨ret_bool HF.out.symm, HB2.out⟩
  rw [h2] at HF
  go_enter Try.func20, Try.ntmps20
  go_wp2_with fail
  rw [HW.out]
  refine HVC.out.mono ?_
  rintro e w2 ⟨rfl, b⟩
  have HB2 := Lib.hid (HB.out.trans (b.mono HB.out.size))
  have c0' := (b.cell (World.block_lt_of_cell? W _ c0)).trans c0
  have HX2 := Lib.hid (HX.out.below b)
  have HC2 := Lib.hid (HC.out.below b)
  have HBX2 : Hid (Boxed w2 w.heap.size 22 (.slice ax n cx)) := Lib.hid ((b.block _ HBX.out.lt).trans HBX.out)
  have hda : (decide (xs.length = n) && allB xs 0 5) = true := by rw [h2, HNL.out]; simp
  clear b c0
  go_wp2_with fail
  refine (isAssignment_any _ xs n w2 HX2.out (by omega)).mono ?_
  rintro e w' ⟨rfl, rfl⟩
  rw [hda]
  go_wp2_with fail
  refine (chCf_any _ _ ls xs w.heap.size w2 HC2.out HBX2.out HX2.out HVI.out).mono ?_
  rintro e w3 ⟨rfl, b⟩
  have HB3 := Lib.hid (HB2.out.trans (b.mono HB2.out.size))
  clear b
  go_wp2
  go_ret
  exact ⟨ret_bool HF.out.symm, HB3.out⟩
end Go.Proofs.Ytipapmmjfoaddaa
