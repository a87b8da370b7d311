/- The program's iterator over the tuples of a propagator. -/
import Derived.Test.YtkmdkbnphmadpaaEx3
import Derived.Test.YtkmdkbnphmadpaaSupS
namespace Go.Proofs.Ytkmdkbnphmadpaa
open Go.ChangeShapes Go.WideShapes Go.ChangeAt Go.RowKit Go.Shelf
set_option linter.unusedVariables false
set_option linter.unusedSimpArgs false

set_option maxRecDepth 100000 in
set_option maxHeartbeats 4000000 in
theorem tuples1_any (l Bp Bd nv : Nat) (vv fv dv : Value) (ds vars : List Int) (hn : vars.length = nv) (hn4 : nv ≤ 4) (hds : Small ds 0 63) (hvr : Small vars 0 ((ds.length : Int) - 1)) (W : World)
    (J : List (List Int) → World → Prop) (Jx : World → Prop) (hJ : ∀ T X Y, J T X → Below W.heap.size X Y → J T Y) (hJx : ∀ X Y, Jx X → Below W.heap.size X Y → Jx Y)
    (hJr : ∀ T X, J T X → RdInts X vv vars ∧ RdInts X dv ds) (hJk : ∀ T X, J T X → X.heap[Bp]? = some (.cells #[vv, fv] 95) ∧ Boxed X Bd 22 dv) (hJxk : ∀ X, Jx X → X.heap[Bp]? = some (.cells #[vv, fv] 95) ∧ Boxed X Bd 22 dv)
    (hY : ∀ T t W1, J T W1 → XT W.heap.size nv t W1 → t.length = nv → Small t 0 5 → YieldAt Fence.wide 5 Try.prog l #[.slice (some ⟨W.heap.size, 0, none⟩) nv nv] W1 fun e W' => (e = .returned (.bool true) ∧ J (T ++ [t]) W' ∧ Kq W.heap.size W1 W') ∨ (e = .returned (.bool false) ∧ Jx W' ∧ Kq W.heap.size W1 W'))
    (h0 : J [] W) :
    Calls Try.prog 156 #[.func (.yield l) #[] #[], .pointer (some ⟨Bp, 0, none⟩), .pointer (some ⟨Bd, 0, none⟩)] W fun e W' => (∃ v, e = .returned v) ∧ (J (tups ds vars) W' ∨ Jx W') := by
  obtain ⟨r1, r2⟩ := hJr _ _ h0
  obtain ⟨av, cv, ev, -⟩ := id r1
  obtain ⟨ad, cd, ed, -⟩ := id r2
  have hcv := (rdInts_cap (ev ▸ r1)).2
  obtain ⟨i0, hi, hz0, hz1, hz2⟩ := info_parts Try.info3
  obtain ⟨wA, hA, oA, gA⟩ := run_make_own (P := Try.prog) W.drew W.heap.size 22 3 i0 (.int .i64 0) 1 Try.underlying22 hi hz0 hz1 .i64 .i64 nv (by rw [hz2]; omega) (by unfold maxLen; omega) (Nat.le_refl _)
  have bA : Below W.heap.size W wA := (show Below W.heap.size W W.drew from (Below.refl _ _).drew).trans (below_of_grown gA)
  have hcall := ext_all l W.heap.size nv vv fv dv ds vars hn hn4 hds hvr J Jx hJ hJx hJr hY vars [] rfl (Nat.zero_le _) (fun j hj => by simp at hj) [] wA (hJ _ _ _ h0 bA) oA
  have hcall2 : Calls Try.prog 157 #[.agg #[vv, fv], dv, .slice (some ⟨W.heap.size, 0, none⟩) 0 nv, .func (.yield l) #[] #[]] wA fun e X' => ∃ b : Bool, e = .returned (.bool b) ∧ (J (tups ds vars) X' ∨ Jx X') ∧ X'.cell? ⟨Bp, 0, none⟩ = some vv ∧ X'.cell? ⟨Bp, 1, none⟩ = some fv ∧ X'.cell? ⟨Bd, 0, none⟩ = some dv := by
    refine hcall.mono ?_
    rintro e X' (⟨rfl, h1, _⟩ | ⟨rfl, h1, _⟩)
    · obtain ⟨k1, k2⟩ := hJk _ _ h1
      exact ⟨true, rfl, .inl (by simpa using h1), by simp [World.cell?, k1], by simp [World.cell?, k1], k2.cell⟩
    · obtain ⟨k1, k2⟩ := hJxk _ h1
      exact ⟨false, rfl, .inr h1, by simp [World.cell?, k1], by simp [World.cell?, k1], k2.cell⟩
  obtain ⟨k1, k2⟩ := hJk _ _ h0
  obtain ⟨k3, k4⟩ := hJk _ _ (hJ _ _ _ h0 bA)
  have p0 : W.cell? ⟨Bp, 0, none⟩ = some vv := by simp [World.cell?, k1]
  have p1 : W.cell? ⟨Bp, 1, none⟩ = some fv := by simp [World.cell?, k1]
  have pd := k2.cell
  have y0 : wA.cell? ⟨Bp, 0, none⟩ = some vv := by simp [World.cell?, k3]
  have y1 : wA.cell? ⟨Bp, 1, none⟩ = some fv := by simp [World.cell?, k3]
  have yd := k4.cell
  obtain ⟨g, hg⟩ : ∃ g, g = W.heap.size := ⟨_, rfl⟩
  have hA2 : (Instr.makeSlice 22 (.int .i64 0) (.int .i64 (nv : Int))).run Try.prog W.drew = .ok (.slice (some ⟨g, 0, none⟩) 0 nv) wA := by rw [hg]; exact hA
  rw [← hg] at hcall2
  rw [ev, ed] at hcall2
  rw [ev] at p0 y0
  rw [ed] at pd yd
  rw [hn] at p0 y0 hcall2 hcv
  have HC := Lib.hid hcall2
  clear hcall hcall2 hJ hJx hJr hJk hJxk hY h0 r1 r2 ev ed hn hA oA gA bA hi hz0 hz1 hz2 hg k1 k2 k3 k4 hds hvr
  go_enter Try.func156, Try.ntmps156
  go_wp2
  go_region_held3 (fun w' => w'.cell? ⟨Bp, 0, none⟩ = some (.slice av nv cv) ∧ w'.cell? ⟨Bp, 1, none⟩ = some fv ∧ w'.cell? ⟨Bd, 0, none⟩ = some (.slice ad ds.length cd)) (first | go_keep | exact ⟨y0, y1, yd⟩ | exact ⟨z0, z1, zd⟩) ((go_at_call 157; refine HC.out.mono ?_; rintro e X3 ⟨b, rfl, hor, z0, z1, zd⟩))
  go_end0
  exact ⟨⟨_, rfl⟩, hor⟩
end Go.Proofs.Ytkmdkbnphmadpaa
