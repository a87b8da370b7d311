/- The program's propagator of a constraint, as a value. -/
import Derived.Test.YtkmdkbnphmadpaaSu1
namespace Go.Proofs.Ytkmdkbnphmadpaa
open Go.ChangeShapes Go.WideShapes Go.ChangeAt Go.RowKit Go.Shelf
set_option linter.unusedVariables false
set_option linter.unusedSimpArgs false

theorem accL_sup (c : Con) (ds : List Int) : accL c c.vars.length (tups ds c.vars) = supL c ds := by
  simp [accL, supL, supP]

set_option maxRecDepth 100000 in
set_option maxHeartbeats 4000000 in
theorem propagatorOf_any (c : Con) (cv : Value) (F : Nat) (w : World) (h : RdCon w cv c)
    (ht : ∀ (w : World), RdCon w cv c → Calls Try.prog 121 #[cv] w (fun e w' => e = .returned (.func (.func F) #[cv] #[]) ∧ Below w.heap.size w w')) :
    Calls Try.prog 87 #[cv] w fun e w' => ∃ vv, e = .returned (.agg #[vv, .func (.func F) #[cv] #[]]) ∧ (∀ w', RdCon w' cv c → RdInts w' vv c.vars) ∧ Below w.heap.size w w' := by
  obtain ⟨a2, a3, a5, c2, c3, c5, rfl, h2, -⟩ := rdCon_slices h
  obtain ⟨W1, hW1⟩ : ∃ W1, w.alloc (.cells #[.int .i64 c.kind, .slice a2 c.vars.length c2, .slice a3 c.args.length c3, .int .i64 c.bound, .slice a5 c.rows.length c5] 28) = W1 := ⟨_, rfl⟩
  have B1 : Below w.heap.size w W1 := by rw [← hW1]; exact (Below.refl _ _).alloc (Nat.le_refl _) _
  have bP : Blk5 W1 w.heap.size 28 (.int .i64 c.kind) (.slice a2 c.vars.length c2) (.slice a3 c.args.length c3) (.int .i64 c.bound) (.slice a5 c.rows.length c5) := by rw [← hW1]; exact Blk5.new w _ _ _ _ _ _
  have s1 : W1.heap.size = w.heap.size + 1 := by rw [← hW1]; simp
  obtain ⟨W2, hW2⟩ : ∃ W2, W1.alloc (.cells #[.slice none 0 0, .nilFunc] 95) = W2 := ⟨_, rfl⟩
  have B2 : Below W1.heap.size W1 W2 := by rw [← hW2]; exact (Below.refl _ _).alloc (Nat.le_refl _) _
  have bQ : W2.heap[w.heap.size + 1]? = some (.cells #[.slice none 0 0, .nilFunc] 95) := by rw [← hW2, ← s1]; exact World.alloc_heap_new _ _
  have B3 : Below w.heap.size w W2.drew := (B1.trans (B2.mono (by omega))).drew
  have bP2 : Blk5 W2 w.heap.size 28 (.int .i64 c.kind) (.slice a2 c.vars.length c2) (.slice a3 c.args.length c3) (.int .i64 c.bound) (.slice a5 c.rows.length c5) := bP.below B2
  obtain ⟨y0, y1, y2, y3, y4⟩ := bP2.cell
  have lt2 : w.heap.size + 1 < W2.heap.size := (Array.getElem?_eq_some_iff.1 bQ).1
  have HC : Hid (Calls Try.prog 121 #[.agg #[.int .i64 c.kind, .slice a2 c.vars.length c2, .slice a3 c.args.length c3, .int .i64 c.bound, .slice a5 c.rows.length c5]] W2.drew (fun e X => e = .returned (.func (.func F) #[.agg #[.int .i64 c.kind, .slice a2 c.vars.length c2, .slice a3 c.args.length c3, .int .i64 c.bound, .slice a5 c.rows.length c5]] #[]) ∧ Below w.heap.size w X
      ∧ X.cell? ⟨w.heap.size, 0, none⟩ = some (.int .i64 c.kind) ∧ X.cell? ⟨w.heap.size, 1, none⟩ = some (.slice a2 c.vars.length c2) ∧ X.cell? ⟨w.heap.size, 2, none⟩ = some (.slice a3 c.args.length c3) ∧ X.cell? ⟨w.heap.size, 3, none⟩ = some (.int .i64 c.bound) ∧ X.cell? ⟨w.heap.size, 4, none⟩ = some (.slice a5 c.rows.length c5)
      ∧ X.cell? ⟨w.heap.size + 1, 0, none⟩ = some (.slice none 0 0) ∧ X.cell? ⟨w.heap.size + 1, 1, none⟩ = some .nilFunc ∧ X.frozen? ⟨w.heap.size + 1, 0, none⟩ = false ∧ X.frozen? ⟨w.heap.size + 1, 1, none⟩ = false)) := by
    refine Lib.hid ((ht W2.drew (h.below B3)).mono ?_)
    rintro e X ⟨rfl, bx⟩
    have bq := (bx.block (w.heap.size + 1) lt2).trans bQ
    obtain ⟨k0, k1, k2, k3, k4⟩ := ((show Blk5 X w.heap.size 28 _ _ _ _ _ from (bx.block (w.heap.size) (by show _ < W2.heap.size; omega)).trans bP2)).cell
    exact ⟨rfl, B3.trans (bx.mono (by show _ ≤ W2.heap.size; omega)), k0, k1, k2, k3, k4, by simp [World.cell?, bq], by simp [World.cell?, bq], by simp [World.frozen?, bq], by simp [World.frozen?, bq]⟩
  have HW := Lib.hid hW1
  have HW2 := Lib.hid hW2
  have H2 := Lib.hid h2
  clear hW1 hW2 s1 B1 B2 B3 bP bP2 h h2 ht bQ lt2
  go_enter Try.func87, Try.ntmps87
  go_wp2
  rw [HW.out, HW2.out]
  go_region_held3 (fun w' => w'.cell? ⟨w.heap.size, 0, none⟩ = some (.int .i64 c.kind) ∧ w'.cell? ⟨w.heap.size, 1, none⟩ = some (.slice a2 c.vars.length c2) ∧ w'.cell? ⟨w.heap.size, 2, none⟩ = some (.slice a3 c.args.length c3) ∧ w'.cell? ⟨w.heap.size, 3, none⟩ = some (.int .i64 c.bound) ∧ w'.cell? ⟨w.heap.size, 4, none⟩ = some (.slice a5 c.rows.length c5)) (first | go_keep | exact ⟨y0, y1, y2, y3, y4⟩ | exact ⟨z0, z1, z2, z3, z4⟩) ((go_at_call 121; refine HC.out.mono ?_; rintro e X3 ⟨rfl, bX, z0, z1, z2, z3, z4, q0, q1, f0, f1⟩))
  go_wp2
  refine bodyPost_ret (v := .agg #[.slice a2 c.vars.length c2, .func (.func F) #[.agg #[.int .i64 c.kind, .slice a2 c.vars.length c2, .slice a3 c.args.length c3, .int .i64 c.bound, .slice a5 c.rows.length c5]] #[]]) (by simp [results, Try.results87, go_sem, q0, q1]) rfl ⟨_, rfl, fun w' h => ?_, ?_⟩
  · obtain ⟨b2, b3, b5, d2, d3, d5, e, h2, -⟩ := rdCon_slices h
    simp at e
    rw [e.1.1, e.1.2]
    exact h2
  exact (bX.setCell (by show _ ≤ w.heap.size + 1; omega) _).setCell (by show _ ≤ w.heap.size + 1; omega) _
end Go.Proofs.Ytkmdkbnphmadpaa
