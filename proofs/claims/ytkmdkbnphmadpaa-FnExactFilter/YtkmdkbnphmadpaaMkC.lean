/- The laws' copies and marks, each kind of argument told alike: what is copied reads the same, lies in new blocks and may be written. -/
import Derived.Test.YtkmdkbnphmadpaaMk
namespace Go.Proofs.Ytkmdkbnphmadpaa
open Go.ChangeShapes Go.WideShapes Go.ChangeAt Go.RowKit
set_option linter.unusedVariables false
set_option linter.unusedSimpArgs false

/-- A slice of numbers that may be written. -/
def ShInts (lo hi : Nat) (w : World) (v : Value) : Prop := ∃ n, ShI lo hi w v n ∧ n ≤ 1048576
theorem ShInts.marked {lo hi lo' hi' : Nat} {w w' : World} {v : Value} (h : ShInts lo hi w v) (hm : Marked lo' hi' w w') : ShInts lo hi w' v := by
  obtain ⟨n, h1, h2⟩ := h; exact ⟨n, h1.marked hm, h2⟩
theorem ShInts.below {lo hi : Nat} {w w' : World} {v : Value} (h : ShInts lo hi w v) (hb : Below w.heap.size w w') : ShInts lo hi w' v := h.marked (Marked.of_below (lo := 0) (hi := 0) hb)
/-- A model that may be written. -/
def ShM (lo hi : Nat) (w : World) (v : Value) : Prop := ∃ u1 u2 n, v = .agg #[u1, u2] ∧ ShI lo hi w u1 n ∧ n ≤ 1048576 ∧ ShCs lo hi w u2
theorem ShM.marked {lo hi lo' hi' : Nat} {w w' : World} {v : Value} (h : ShM lo hi w v) (hm : Marked lo' hi' w w') : ShM lo hi w' v := by
  obtain ⟨u1, u2, n, e, h1, h2, h3⟩ := h; exact ⟨u1, u2, n, e, h1.marked hm, h2, h3.marked hm⟩
theorem ShM.below {lo hi : Nat} {w w' : World} {v : Value} (h : ShM lo hi w v) (hb : Below w.heap.size w w') : ShM lo hi w' v := h.marked (Marked.of_below (lo := 0) (hi := 0) hb)
/-- A constraint that may be written. -/
def ShC (lo hi : Nat) (w : World) (v : Value) : Prop := ∃ (x y : Int) (u2 u3 u5 : Value) (n2 n3 : Nat), v = .agg #[.int .i64 x, u2, u3, .int .i64 y, u5] ∧ ShI lo hi w u2 n2 ∧ n2 ≤ 1048576 ∧ ShI lo hi w u3 n3 ∧ n3 ≤ 1048576 ∧ ShR lo hi w u5
theorem ShC.marked {lo hi lo' hi' : Nat} {w w' : World} {v : Value} (h : ShC lo hi w v) (hm : Marked lo' hi' w w') : ShC lo hi w' v := by
  obtain ⟨x, y, u2, u3, u5, n2, n3, e, s2, l2, s3, l3, s5⟩ := h; exact ⟨x, y, u2, u3, u5, n2, n3, e, s2.marked hm, l2, s3.marked hm, l3, s5.marked hm⟩
theorem ShC.below {lo hi : Nat} {w w' : World} {v : Value} (h : ShC lo hi w v) (hb : Below w.heap.size w w') : ShC lo hi w' v := h.marked (Marked.of_below (lo := 0) (hi := 0) hb)

theorem toIntS_sh (v : Value) (xs : List Int) (w : World) (h : RdInts w v xs) (hx : xs.length ≤ 1048576) :
    Calls Try.prog 26 #[v] w fun e w' => ∃ v', e = .returned v' ∧ RdInts w' v' xs ∧ ShInts w.heap.size w'.heap.size w' v' ∧ Below w.heap.size w w' := by
  refine (toIntS_any v xs w h hx).mono ?_
  rintro e w' ⟨rfl, rx, b, zz, fz⟩
  exact ⟨_, rfl, rx, ⟨_, shI_of rx (Nat.le_refl _) fz, hx⟩, b⟩
theorem toModel_sh (v : Value) (m : Mod) (w : World) (h : RdModel w v m) (hm : ModLe m 1048576) :
    Calls Try.prog 22 #[v] w fun e w' => ∃ v', e = .returned v' ∧ RdModel w' v' m ∧ ShM w.heap.size w'.heap.size w' v' ∧ Below w.heap.size w w' := by
  refine (toModel_in v m w h hm).mono ?_
  rintro e w' ⟨v', rfl, mi, b⟩
  refine ⟨_, rfl, mi.rd, ?_, b⟩
  obtain ⟨s, u, eq, l1, l2, l3, l4, l5⟩ := mi
  exact ⟨_, _, _, eq, shI_of l4 l1 l3, hm.1, shCs_of l5 hm.2⟩
theorem shC_of {B : Nat} {w : World} {v : Value} {c : Con} (h : RdCon w v c) (hA : ConAbove B w v) (hU : ConUn w v) (hL : ConLe c 1048576) : ShC B w.heap.size w v := by
  obtain ⟨u2, u3, u5, e, r2, r3, r5⟩ := h
  obtain ⟨kA, bA, s2, n2, c2, s3, n3, c3, s5, n5, c5, eA, q2, q3, q5⟩ := hA
  obtain ⟨kU, bU, t2, m2, d2, t3, m3, d3, t5, m5, d5, eU, z2, f2, z3, f3, g5⟩ := hU
  have e1 := e.symm.trans eA
  have e2 := e.symm.trans eU
  simp at e1 e2
  obtain ⟨rfl, rfl, rfl, rfl, rfl⟩ := e1
  obtain ⟨-, ⟨rfl, rfl, rfl⟩, ⟨rfl, rfl, rfl⟩, -, ⟨rfl, rfl, rfl⟩⟩ := e2
  refine ⟨_, _, _, _, _, _, _, e, shI_any r2 (fun b off n c e => ?_), hL.1, shI_any r3 (fun b off n c e => ?_), hL.2.1, shR_of r5 q5 g5 hL.2.2⟩
  · simp at e
    obtain ⟨⟨rfl, rfl⟩, _⟩ := e
    exact ⟨q2, f2⟩
  · simp at e
    obtain ⟨⟨rfl, rfl⟩, _⟩ := e
    exact ⟨q3, f3⟩
theorem toConstraint_sh (v : Value) (c : Con) (w : World) (h : RdCon w v c) (hm : ConLe c 1048576) :
    Calls Try.prog 17 #[v] w fun e w' => ∃ v', e = .returned v' ∧ RdCon w' v' c ∧ ShC w.heap.size w'.heap.size w' v' ∧ Below w.heap.size w w' := by
  refine (toConstraint_full v c w h hm).mono ?_
  rintro e w' ⟨v', rfl, r, b, hA, hU⟩
  exact ⟨_, rfl, r, shC_of r hA hU hm, b⟩

theorem markIntS_sh (lo hi : Nat) (v : Value) (k : Int) (w : World) (h : ShInts lo hi w v) (h0 : 0 ≤ k) (h1 : k ≤ 4000000000000000000) :
    Calls Try.prog 32 #[v, .int .i64 k] w (MarksPost lo hi k 1048576 w) := by
  obtain ⟨n, h, hn⟩ := h
  refine (markIntS_any lo hi v n k w h hn h0 (by omega)).mono ?_
  rintro e w' ⟨rfl, m, -⟩
  exact ⟨_, rfl, by omega, by omega, m⟩
theorem markModel_sh (lo hi : Nat) (v : Value) (k : Int) (w : World) (h : ShM lo hi w v) (h0 : 0 ≤ k) (h1 : k ≤ 1000) :
    Calls Try.prog 31 #[v, .int .i64 k] w (MarksPost lo hi k 1300000000000000000 w) := by
  obtain ⟨u1, u2, n, e, s1, hn, s2⟩ := h
  exact markModel_any lo hi v u1 u2 n k w e s1 hn s2 h0 h1

set_option maxRecDepth 100000 in
set_option maxHeartbeats 1000000 in
theorem markConstraint_sh (lo hi : Nat) (v : Value) (k : Int) (w : World) (h : ShC lo hi w v) (h0 : 0 ≤ k) (hk : k ≤ 1000000000000000000) :
    Calls Try.prog 36 #[v, .int .i64 k] w (MarksPost lo hi k 1300000000000 w) := by
  obtain ⟨x, y, u2, u3, u5, n2, n3, rfl, s2, l2, s3, l3, s5⟩ := h
  obtain ⟨a2, c2, rfl⟩ := shI_form s2
  obtain ⟨a3, c3, rfl⟩ := shI_form s3
  obtain ⟨a5, n5, c5, rfl⟩ := shR_form s5
  obtain ⟨W1, hW1⟩ : ∃ W1, w.alloc (.cells #[.int .i64 x, .slice a2 n2 c2, .slice a3 n3 c3, .int .i64 y, .slice a5 n5 c5] 28) = W1 := ⟨_, rfl⟩
  have B1 : Below w.heap.size w W1 := by rw [← hW1]; exact (Below.refl _ _).alloc (Nat.le_refl _) _
  have bP : Blk5 W1 w.heap.size 28 (.int .i64 x) (.slice a2 n2 c2) (.slice a3 n3 c3) (.int .i64 y) (.slice a5 n5 c5) := by rw [← hW1]; exact Blk5.new w _ _ _ _ _ _
  have M1 := Lib.hid (Marked.of_below (lo := lo) (hi := hi) B1)
  have S2 := Lib.hid (s2.marked M1.out)
  have S3 := Lib.hid (s3.marked M1.out)
  have S5 := Lib.hid (s5.marked M1.out)
  have HW := Lib.hid hW1
  obtain ⟨-, p1, p2, -, p4⟩ := bP.cell
  clear s2 s3 s5 hW1 B1 bP
  go_enter Try.func36, Try.ntmps36
  go_wp2_with fail
  rw [HW.out]
  refine (markIntS_any lo hi _ n2 k W1 S2.out l2 h0 (by omega)).mono ?_
  rintro e w2 ⟨rfl, m2, -⟩
  have M2 := Lib.hid (M1.out.trans m2)
  have T3 := Lib.hid (S3.out.marked m2)
  have T5 := Lib.hid (S5.out.marked m2)
  obtain ⟨z2, q2, _, e2⟩ := m2.cell _ _ p2
  rw [e2 (fun i e => by cases e)] at q2
  obtain ⟨z4, q4, _, e4⟩ := m2.cell _ _ p4
  rw [e4 (fun i e => by cases e)] at q4
  clear m2 M1 S2 S3 S5 p1 p2 p4 e2 e4
  go_wp2_with fail
  refine (markIntS_any lo hi _ n3 (k + n2) w2 T3.out l3 (by omega) (by omega)).mono ?_
  rintro e w3 ⟨rfl, m3, -⟩
  have M3 := Lib.hid (M2.out.trans m3)
  have U5 := Lib.hid (T5.out.marked m3)
  obtain ⟨z4', r4, _, e4⟩ := m3.cell _ _ q4
  rw [e4 (fun i e => by cases e)] at r4
  clear m3 M2 T3 T5 q2 q4 e4
  go_wp2_with fail
  refine (markIntSS_any lo hi _ (k + n2 + n3) w3 U5.out (by omega) (by omega)).mono ?_
  rintro e w4 ⟨k4, rfl, r1, r2, m4⟩
  have M4 := Lib.hid (M3.out.trans m4)
  clear m4 M3 U5 r4
  go_wp2
  go_ret
  exact ⟨k4, rfl, by omega, by omega, M4.out⟩
end Go.Proofs.Ytkmdkbnphmadpaa
