/- The reference's solve, CountSolutions, Solve and SolveAll. -/
import Derived.Test.YtjdbfiiaadphhaaSrcB
namespace Go.Proofs.Ytjdbfiiaadphhaa
open Go.ChangeShapes Go.WideShapes Go.ChangeAt Go.RowKit
set_option linter.unusedVariables false
set_option linter.unusedSimpArgs false

/-- The first L solutions, and the nodes visited for them. -/
def slvR (m : Mod) (L : Nat) : List (List Int) := (solL m.cons m.doms).take L
def slvN (m : Mod) (L : Nat) : Nat := (cutV L (visL m.cons m.doms)).length
theorem okD_mod {m : Mod} (hv : vmB m = true) : OkD m.cons m.doms.length m.doms := okD_of (doms_small' hv).1 (fun c hc => okC_mem hv hc)
theorem slvN_le {m : Mod} (hv : vmB m = true) (L : Nat) : slvN m L ≤ 2591 := Nat.le_trans (cutV_le _ _) (visL_len (okD_mod hv) (doms_small' hv).2.1)
theorem slvR_le {m : Mod} (hv : vmB m = true) (L : Nat) : (slvR m L).length ≤ 2591 := by
  unfold slvR
  rw [List.length_take]
  have := solL_len (okD_mod hv) (doms_small' hv).2.1
  omega
/-- What solve leaves. -/
def SlvPost (m : Mod) (L : Nat) (w : World) (e : Ending) (w' : World) : Prop :=
  ∃ fa fc, e = .returned (.tuple #[.slice fa (slvR m L).length fc, .int .i64 (slvN m L : Nat)]) ∧ OwnRows w' w.heap.size (.slice fa (slvR m L).length fc) (slvR m L) ∧ Below w.heap.size w w'

set_option maxRecDepth 100000 in
set_option maxHeartbeats 4000000 in
theorem solve_any (m : Mod) (v : Value) (Li : Int) (L : Nat) (w : World) (h : RdModel w v m) (hv : vmB m = true) (hLi : Li = (L : Nat)) (h1 : 1 ≤ L) (h2 : L ≤ 4096) :
    Calls Try.prog 162 #[v, .int .i64 Li] w (SlvPost m L w) := by
  subst hLi
  obtain ⟨a1, a2, c1, c2, rfl, g1, g2⟩ := rdModel_slices h
  obtain ⟨W1, hW1⟩ : ∃ W1, w.alloc (.cells #[.slice a1 m.doms.length c1, .slice a2 m.cons.length c2] 68) = W1 := ⟨_, rfl⟩
  obtain ⟨W2, hW2⟩ : ∃ W2, W1.alloc (.cells #[.slice a1 m.doms.length c1, .slice a2 m.cons.length c2, .int .i64 (L : Nat), .int .i64 0, .slice none 0 0] 196) = W2 := ⟨_, rfl⟩
  have B1 : Below w.heap.size w W1 := by rw [← hW1]; exact (Below.refl _ _).alloc (Nat.le_refl _) _
  have bP : Blk2 W1 w.heap.size 68 (.slice a1 m.doms.length c1) (.slice a2 m.cons.length c2) := by rw [← hW1]; exact Blk2.new w _ _ _
  have s1 : W1.heap.size = w.heap.size + 1 := by rw [← hW1, World.size_alloc]
  have B12 : Below W1.heap.size W1 W2 := by rw [← hW2]; exact (Below.refl _ _).alloc (Nat.le_refl _) _
  have B2 : Below w.heap.size w W2 := B1.trans (B12.mono B1.size)
  have bP2 := bP.below B12
  have hF : W2.heap[W1.heap.size]? = some (.cells #[.slice a1 m.doms.length c1, .slice a2 m.cons.length c2, .int .i64 (L : Nat), .int .i64 0, .slice none 0 0] 196) := by rw [← hW2]; exact World.alloc_heap_new _ _
  have hst : FSt w W1.heap.size m.doms.length m.cons.length a1 a2 c1 c2 L ([], 0) W2 := ⟨B2, B1.size, _, hF, ownRows_nil _ _⟩
  obtain ⟨d1, d2, d3, d4⟩ := doms_small' hv
  have HC := Lib.hid (branch_any (F := W1.heap.size) (L := L) h d3 d2 (fun c hc => okC_mem hv hc) d4 h2 (bitsD m.doms + 1) m.doms (.slice a1 m.doms.length c1) ([], 0) W2 (by omega) rfl d1 hst (by show 0 < L; omega) (by
    have := visL_len (okD_mod hv) d2
    unfold visL at this
    show 0 + _ ≤ _
    omega) (fun u => g1.below (B2.setCell (p := ⟨W1.heap.size, 3, none⟩) B1.size u)))
  have HR : Hid (brF m.cons L (bitsD m.doms + 1) m.doms ([], 0) = (slvR m L, slvN m L)) := Lib.hid (by
    rw [brF_eq _ _ _ _ _ (by show 0 < L; omega)]
    simp [slvR, slvN, solL, visL])
  rw [HR.out] at HC
  have HW1 := Lib.hid hW1
  have HW2 := Lib.hid hW2
  have HBP := Lib.hid bP
  have HBP2 := Lib.hid bP2
  have HB2 := Lib.hid B2
  have HS1 := Lib.hid s1
  have hnn := slvN_le hv L
  clear h hv g1 g2 hW1 hW2 B1 B2 B12 bP bP2 hst hF d1 d2 d3 d4 h1 h2
  obtain ⟨p0, p1⟩ := HBP.out.cell
  rw [← HW1.out] at p0 p1
  obtain ⟨r0, r1⟩ := HBP2.out.cell
  rw [← HW2.out, ← HW1.out] at r0 r1
  go_enter Try.func162, Try.ntmps162
  go_wp2_with fail
  rw [HW1.out, HW2.out]
  clear p0 p1 r0 r1
  rw [← HS1.out]
  refine HC.out.mono ?_
  rintro e w3 ⟨⟨ve, rfl⟩, st3, fk3⟩
  obtain ⟨fa, fc, z0, z1, z2, z3, z4, hrows, hz5, hz6, -⟩ := st3.cell
  simp only at z3 z4 hrows hz5
  rw [HS1.out] at z3 z4
  have HRW := Lib.hid hrows
  have HB3 := Lib.hid st3.b
  clear st3 fk3 hrows z0 z1 z2 HC
  obtain ⟨rl, hrl⟩ : ∃ rl, rl = (slvR m L).length := ⟨_, rfl⟩
  have HRL := Lib.hid hrl
  rw [← hrl] at z4 hz5
  clear hrl
  go_wp2_with fail
  go_quiet (fail)
  go_wp2
  go_ret2
  exact ⟨fa, fc, by rw [HRL.out]; rfl, HRW.out.below (drewN_below' _ _), HB3.out.trans ((drewN_below' _ _).mono HB3.out.size)⟩

/-- The number of solutions. -/
def cntM (m : Mod) : Int := if vmB m then ((solL m.cons m.doms).length : Nat) else -1
theorem slvR_all {m : Mod} (hv : vmB m = true) : slvR m 4096 = solL m.cons m.doms := List.take_of_length_le (by have := solL_len (okD_mod hv) (doms_small' hv).2.1; omega)

/-- What Solve returns. -/
def solX (m : Mod) : List Int := if vmB m then (solL m.cons m.doms).headD [] else []
def solN (m : Mod) : Int := if vmB m then (slvN m 1 : Nat) else 0
/-- What a function leaves that returns a row and a value. -/
def IntsPost2 (ys : List Int) (z : Value) (w : World) (e : Ending) (w' : World) : Prop := ∃ v, e = .returned (.tuple #[v, z]) ∧ w'.ownsRow w.heap.size 3 1 v ys.length (ys.map (Value.int .i64)) ∧ Below w.heap.size w w'

end Go.Proofs.Ytjdbfiiaadphhaa
