/- The laws' own functions on slices of integers: are two equal; mark a slice with numbers of its own; does it still hold the marks. -/
import Derived.Test.YtklecdjbhgfglaaVals
namespace Go.Proofs.Ytklecdjbhgfglaa
open Go.ChangeShapes Go.WideShapes Go.ChangeAt Go.RowKit

/-- The slice value v reads as xs. -/
def RdInts (w : World) (v : Value) (xs : List Int) : Prop :=
  ∃ a cap, v = .slice a xs.length cap ∧ xs.length ≤ 1000000000 ∧ (xs.length = 0 ∨ ∃ b off, a = some ⟨b, off, none⟩ ∧ ∀ i, i < xs.length → w.cell? ⟨b, off + i, none⟩ = some (.int .i64 (xs[i]?.getD 0)))

theorem rdInts_of_owns {w : World} {B : Nat} {v : Value} {xs : List Int} (h : w.ownsRow B 3 1 v xs.length (xs.map (Value.int .i64))) (hl : xs.length ≤ 1000000000) : RdInts w v xs := by
  rcases h.2 with ⟨rfl, h0⟩ | ⟨g, cap, cur, rfl, hb, hg, h1, h2, h3, h4⟩
  · exact ⟨none, 0, by rw [h0], hl, .inl h0⟩
  · refine ⟨some ⟨g, 0, none⟩, cap, rfl, hl, .inr ⟨g, 0, rfl, fun i hi => ?_⟩⟩
    have := h.cellAt i (by omega)
    rw [Nat.zero_add, this]
    simp [hi]

theorem RdInts.drewN {w : World} {v : Value} {xs : List Int} (h : RdInts w v xs) (k : Nat) : RdInts (w.drewN k) v xs := h

theorem getD_ext {xs ys : List Int} (hl : xs.length = ys.length) (h : ∀ j, j < xs.length → xs[j]?.getD 0 = ys[j]?.getD 0) : xs = ys := by
  apply List.ext_getElem hl
  intro i h1 h2
  have := h i h1
  simpa [h1, h2] using this

theorem ret_bool {a b : Bool} (h : a = b) : Ending.returned (.bool a) = .returned (.bool b) := by rw [h]

/-- What eqIntS leaves. -/
def EqPost (xs ys : List Int) (w : World) (e : Ending) (w' : World) : Prop := e = .returned (.bool (decide (xs = ys))) ∧ ∃ k, w' = w.drewN k

set_option maxRecDepth 100000 in
set_option maxHeartbeats 1000000 in
theorem eqIntS_any (v1 v2 : Value) (xs ys : List Int) (w : World) (h1 : RdInts w v1 xs) (h2 : RdInts w v2 ys) :
    Calls Try.prog 18 #[v1, v2] w (EqPost xs ys w) := by
  obtain ⟨a1, c1, rfl, hl1, h1⟩ := h1
  obtain ⟨a2, c2, rfl, hl2, h2⟩ := h2
  by_cases hl : xs.length = ys.length
  · have hne : ((xs.length : Int) != (ys.length : Int)) = false := by simp [hl]
    by_cases h0 : xs.length = 0
    · have hx : xs = [] := List.eq_nil_of_length_eq_zero h0
      have hy : ys = [] := List.eq_nil_of_length_eq_zero (by omega)
      subst hx hy
      clear h1 h2
      go_enter Try.func18, Try.ntmps18
      go_wp2
      go_loop [5] (fun i => i = .int .i64 0) (fun _ => 0)
      case atStart => rfl
      case round =>
        subst hrel
        go_wp2
        go_ret
        exact ⟨rfl, 0, rfl⟩
    · rcases h1 with h1 | ⟨b1, o1, rfl, g1⟩
      · omega
      rcases h2 with h2 | ⟨b2, o2, rfl, g2⟩
      · omega
      have HL := Lib.hid hl
      rw [← hl] at g2 hne ⊢
      obtain ⟨n, hn⟩ : ∃ n, n = xs.length := ⟨_, rfl⟩
      rw [← hn] at g1 g2 hne hl1 h0 ⊢
      have HN := Lib.hid hn
      clear hl hn
      go_enter Try.func18, Try.ntmps18
      go_wp2
      go_loopw [5] (fun i wr => ∃ k nq : Nat, k ≤ n ∧ i = .int .i64 k ∧ Hid (∀ j, j < k → xs[j]?.getD 0 = ys[j]?.getD 0) ∧ wr = w.drewN nq) (fun i _ => n - (intOf i).toNat)
      case atStart => exact ⟨0, 0, Nat.zero_le _, rfl, fun j hj => by omega, rfl⟩
      case round =>
        obtain ⟨k, nq, hk, rfl, HE, rfl⟩ := hrel
        by_cases hlt : k < n
        · have q1 := g1 k hlt
          have q2 := g2 k hlt
          clear g1 g2
          by_cases he : xs[k]?.getD 0 = ys[k]?.getD 0
          · have hb : (xs[k]?.getD 0 != ys[k]?.getD 0) = false := by simp [he]
            have HX := Lib.hid he
            clear he
            go_wp2_with fail
            go_quiet (fail)
            go_wp2
            go_roundw
            case rel => exact ⟨k + 1, _, by omega, by go_num, fun j hj => by by_cases e : j = k; (· subst e; exact HX.out); (· exact HE.out j (by omega)), rfl⟩
            case measure => simp [intOf]; omega
          · have hb : (xs[k]?.getD 0 != ys[k]?.getD 0) = true := by simp [he]
            go_wp2_with fail
            go_quiet (fail)
            go_wp2
            go_ret
            refine ⟨ret_bool (decide_eq_false (fun e => he (by rw [e]))).symm, ?_⟩
            rw [World.drewN_drewN]
            exact ⟨_, rfl⟩
        · obtain rfl : k = n := by omega
          have hfin : decide (xs = ys) = true := by rw [decide_eq_true_iff]; exact getD_ext HL.out (fun j hj => HE.out j (by have := HN.out; omega))
          have HF := Lib.hid hfin
          clear hfin g1 g2
          go_wp2
          go_ret
          exact ⟨ret_bool HF.out.symm, _, rfl⟩
  · have hne : ((xs.length : Int) != (ys.length : Int)) = true := by simp; omega
    clear h1 h2
    go_enter Try.func18, Try.ntmps18
    go_wp2
    go_ret
    exact ⟨ret_bool (decide_eq_false (fun e => hl (by rw [e]))).symm, 0, rfl⟩

/-- The marks k, k + 1, .. of n cells. -/
def marks (k : Int) : Nat → List Int
  | 0 => []
  | n + 1 => marks k n ++ [k + n]
theorem marks_length (k : Int) (n : Nat) : (marks k n).length = n := by induction n with
  | zero => rfl
  | succ n ih => simp [marks, ih]
theorem marks_get (k : Int) (n j : Nat) (h : j < n) : (marks k n)[j]?.getD 0 = k + j := by
  induction n with
  | zero => omega
  | succ n ih =>
    simp only [marks]
    by_cases e : j = n
    · subst e; rw [List.getElem?_append_right (by rw [marks_length]; omega), marks_length]; simp
    · rw [List.getElem?_append_left (by rw [marks_length]; omega)]; exact ih (by omega)

/-- A slice of the call's own reads xs; nothing is said of nil. -/
abbrev OwnInts (w : World) (B : Nat) (v : Value) (xs : List Int) : Prop := w.ownsRow B 3 1 v xs.length (xs.map (Value.int .i64))

/-- What markIntS leaves. -/
def MarkPost (B : Nat) (v : Value) (k : Int) (n : Nat) (w : World) (e : Ending) (w' : World) : Prop :=
  e = .returned (.int .i64 (k + n)) ∧ OwnInts w' B v (marks k n) ∧ w.grownBy w' v.ownBlock ∧ w'.heap.size = w.heap.size

/-- Cells marked so far: the first i are marks, the rest as they were. -/
def half (k : Int) (xs : List Int) (i : Nat) : List Int := marks k i ++ xs.drop i
theorem half_length (k : Int) (xs : List Int) (i : Nat) (h : i ≤ xs.length) : (half k xs i).length = xs.length := by simp [half, marks_length]; omega
theorem half_step (k : Int) (xs : List Int) (i : Nat) (h : i < xs.length) : (half k xs i).set i (k + i) = half k xs (i + 1) := by
  unfold half
  rw [List.set_append_right _ _ (by rw [marks_length]; omega), marks_length, Nat.sub_self]
  obtain ⟨x, r, hx⟩ : ∃ x r, xs.drop i = x :: r := by
    cases hd : xs.drop i with
    | nil => have := congrArg List.length hd; simp at this; omega
    | cons x r => exact ⟨x, r, rfl⟩
  have h2 : xs.drop (i + 1) = r := by rw [← List.drop_drop, hx]; rfl
  rw [hx, h2]
  simp [marks]

set_option maxRecDepth 100000 in
set_option maxHeartbeats 1000000 in
theorem markIntS_any (B : Nat) (v : Value) (xs : List Int) (k : Int) (w : World) (h : OwnInts w B v xs) (hl : xs.length ≤ 1000000000) (hk0 : 0 ≤ k) (hk1 : k ≤ 1000000000) :
    Calls Try.prog 19 #[v, .int .i64 k] w (MarkPost B v k xs.length w) := by
  rcases h.2 with ⟨rfl, h0⟩ | ⟨g, cap, cur, rfl, hb, hg, h1, h2, h3, h4⟩
  · have hx : xs = [] := List.eq_nil_of_length_eq_zero h0
    subst hx
    go_enter Try.func19, Try.ntmps19
    go_wp2
    go_loop [1, 5] (fun q i => q = .int .i64 k ∧ i = .int .i64 0) (fun _ _ => 0)
    case atStart => exact ⟨rfl, rfl⟩
    case round =>
      obtain ⟨rfl, rfl⟩ := hrel
      go_wp2
      go_ret
      exact ⟨by simp, by simpa [marks] using h, ⟨rfl, rfl, rfl, Nat.le_refl _, fun _ _ _ => rfl⟩, rfl⟩
  · obtain ⟨n, hn⟩ : ∃ n, n = xs.length := ⟨_, rfl⟩
    have HH : Hid (w.ownsRow B 3 1 (.slice (some ⟨g, 0, none⟩) n cap) n ((half k xs 0).map (Value.int .i64))) := Lib.hid (by rw [hn]; simpa [half, marks] using h)
    rw [← hn] at hl ⊢
    have HN := Lib.hid hn
    clear h hg h1 h2 h3 h4 hn
    go_enter Try.func19, Try.ntmps19
    go_wp2
    go_loopw [1, 5] (fun q i wr => ∃ j : Nat, j ≤ n ∧ i = .int .i64 j ∧ q = .int .i64 (k + j) ∧ Hid (wr.ownsRow B 3 1 (.slice (some ⟨g, 0, none⟩) n cap) n ((half k xs j).map (Value.int .i64))) ∧ Hid (w.grownBy wr (some g) ∧ wr.heap.size = w.heap.size)) (fun _ i _ => n - (intOf i).toNat)
    case atStart => exact ⟨0, Nat.zero_le _, rfl, by simp, HH, ⟨rfl, rfl, rfl, Nat.le_refl _, fun _ _ _ => rfl⟩, rfl⟩
    case round =>
      obtain ⟨j, hj, rfl, rfl, HO, HG⟩ := hrel
      by_cases hlt : j < n
      · have hc := HO.out.cellAt j (by omega)
        have hf := HO.out.frozenAt j
        obtain ⟨u, hu⟩ : ∃ u, ((half k xs j).map (Value.int .i64))[j]? = some (.int .i64 u) := by
          have hl2 := half_length k xs j (by have := HN.out; omega)
          refine ⟨(half k xs j)[j]'(by rw [hl2]; have := HN.out; omega), ?_⟩
          rw [List.getElem?_map, List.getElem?_eq_getElem (by rw [hl2]; have := HN.out; omega)]; rfl
        rw [hu] at hc
        clear hu
        have HS := Lib.hid (HO.out.stored j (.int .i64 (k + j)))
        have HT := Lib.hid (half_step k xs j (by have := HN.out; omega))
        go_wp2
        go_roundw
        case rel =>
          refine ⟨j + 1, by omega, by go_num, by go_num, Lib.hid ?_, Lib.hid ⟨?_, ?_⟩⟩
          · have := HS.out.1
            rw [← HT.out, List.map_set]
            exact this
          · have g1 := HG.out.1
            have g2 := HS.out.2
            exact ⟨g2.os.trans g1.os, g2.tape.trans g1.tape, g2.output.trans g1.output, Nat.le_trans g1.size g2.size, fun q hq hne => (g2.block q (Nat.lt_of_lt_of_le hq g1.size) hne).trans (g1.block q hq hne)⟩
          · rw [World.size_setCell]; exact HG.out.2
        case measure => simp [intOf]; omega
      · obtain rfl : j = n := by omega
        go_wp2
        go_ret
        refine ⟨rfl, ?_, HG.out.1, HG.out.2⟩
        have e : half k xs j = marks k j := by unfold half; rw [List.drop_of_length_le (by have := HN.out; omega)]; simp
        have := HO.out
        rw [e] at this
        unfold OwnInts
        rw [marks_length]
        exact this

set_option maxRecDepth 100000 in
set_option maxHeartbeats 1000000 in
theorem heldIntS_any (v : Value) (k : Int) (n : Nat) (w : World) (h : RdInts w v (marks k n)) (hk0 : 0 ≤ k) (hk1 : k ≤ 1000000000) :
    Calls Try.prog 20 #[v, .int .i64 k] w fun e w' => e = .returned (.int .i64 (k + n)) ∧ w = w' := by
  obtain ⟨a, cap, rfl, hl, h⟩ := h
  rw [marks_length] at hl h ⊢
  by_cases h0 : n = 0
  · subst h0
    go_enter Try.func20, Try.ntmps20
    go_wp2
    go_loop [1, 5] (fun q i => q = .int .i64 k ∧ i = .int .i64 0) (fun _ _ => 0)
    case atStart => exact ⟨rfl, rfl⟩
    case round =>
      obtain ⟨rfl, rfl⟩ := hrel
      go_wp2
      go_ret
      exact ⟨by simp, rfl⟩
  · rcases h with h | ⟨b, off, rfl, g⟩
    · omega
    go_enter Try.func20, Try.ntmps20
    go_wp2
    go_loop [1, 5] (fun q i => ∃ j : Nat, j ≤ n ∧ i = .int .i64 j ∧ q = .int .i64 (k + j)) (fun _ i => n - (intOf i).toNat)
    case atStart => exact ⟨0, Nat.zero_le _, rfl, by simp⟩
    case round =>
      obtain ⟨j, hj, rfl, rfl⟩ := hrel
      by_cases hlt : j < n
      · have hc := g j hlt
        rw [marks_get k n j hlt] at hc
        have hb : ((k + (j : Int)) != (k + (j : Int))) = false := by simp
        clear g
        go_wp2
        go_round
        case rel => exact ⟨j + 1, by omega, by go_num, by go_num⟩
        case measure => simp [intOf]; omega
      · obtain rfl : j = n := by omega
        go_wp2
        go_ret
        exact ⟨rfl, rfl⟩

/-! What a slice of the call's own holds through later steps. -/
theorem own_below {w w' : World} {B : Nat} {v : Value} {xs : List Int} (h : OwnInts w B v xs) (hb : Below w.heap.size w w') : OwnInts w' B v xs := by
  have hg : w.grownBy w' none := ⟨hb.os, hb.tape, hb.output, hb.size, fun k hk _ => hb.block k hk⟩
  refine World.ownsRow.kept h hg ?_
  cases e : v.ownBlock
  · exact .inl rfl
  · exact .inr (by simp)
theorem own_drewN {w : World} {B : Nat} {v : Value} {xs : List Int} (h : OwnInts w B v xs) (k : Nat) : OwnInts (w.drewN k) B v xs := h
theorem own_other {w w' : World} {B B1 : Nat} {v v1 : Value} {xs ys : List Int} (h : OwnInts w B v xs) (hg : w.grownBy w' v1.ownBlock) (hlt : ∀ j, v.ownBlock = some j → j < B1) (h1 : OwnInts w B1 v1 ys) : OwnInts w' B v xs := by
  refine World.ownsRow.kept h hg ?_
  cases e : v.ownBlock with
  | none => exact .inl rfl
  | some j =>
    refine .inr fun e' => ?_
    have := hlt j e
    have := (World.ownsRow.lt h1 j e'.symm).1
    omega
theorem below_drewN {B : Nat} {a w : World} (h : Below B a w) (k : Nat) : Below B a (w.drewN k) := ⟨h.os, h.tape, h.output, h.size, h.block⟩
end Go.Proofs.Ytklecdjbhgfglaa
