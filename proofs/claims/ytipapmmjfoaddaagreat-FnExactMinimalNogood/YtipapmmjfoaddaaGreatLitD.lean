/- The values that make a literal true; whether some value of its variable's domain does. -/
import Derived.Test.YtipapmmjfoaddaaGreatLitU
import Derived.Test.YtipapmmjfoaddaaGreatLitH
namespace Go.Proofs.YtipapmmjfoaddaaGreat
open Go.ChangeShapes Go.WideShapes Go.ChangeAt Go.RowKit Go.Deep Go.Shelf
set_option linter.unusedVariables false
set_option linter.unusedSimpArgs false

/-- The values that make a literal true. -/
def domL (l : Lit) : Int := if l.neg then 63 - 2 ^ l.val.toNat else 2 ^ l.val.toNat
def andI (x y : Int) : Int := bits .and .i64 x y
/-- Some value of the domain makes it true. -/
def posB (ds : List Int) (l : Lit) : Bool := andI (ds[l.var.toNat]?.getD 0) (domL l) != 0

set_option maxRecDepth 100000 in
set_option maxHeartbeats 4000000 in
theorem sdomL_any (l : Lit) (w : World) (h0 : 0 ≤ l.val) (h5 : l.val ≤ 5) :
    Calls Tryz.prog 114 #[.agg #[.int .i64 l.var, .int .i64 l.val, .bool l.neg]] w fun e w' => e = .returned (.int .i64 (domL l)) ∧ Below w.heap.size w w' := by
  obtain ⟨lv, la, ln⟩ := l
  simp only at h0 h5 ⊢
  rcases (show la = 0 ∨ la = 1 ∨ la = 2 ∨ la = 3 ∨ la = 4 ∨ la = 5 by omega) with rfl | rfl | rfl | rfl | rfl | rfl <;> cases ln
  all_goals go_enter Tryz.func114, Tryz.ntmps114
  all_goals go_wp2
  all_goals go_ret
  all_goals exact ⟨rfl, below1 _ _⟩
set_option maxRecDepth 100000 in
set_option maxHeartbeats 4000000 in
theorem idomL_any (l : Lit) (w : World) (h0 : 0 ≤ l.val) (h5 : l.val ≤ 5) :
    Calls Tryz.prog 157 #[.agg #[.int .i64 l.var, .int .i64 l.val, .bool l.neg]] w fun e w' => e = .returned (.int .i64 (domL l)) ∧ Below w.heap.size w w' := by
  obtain ⟨lv, la, ln⟩ := l
  simp only at h0 h5 ⊢
  rcases (show la = 0 ∨ la = 1 ∨ la = 2 ∨ la = 3 ∨ la = 4 ∨ la = 5 by omega) with rfl | rfl | rfl | rfl | rfl | rfl <;> cases ln
  all_goals go_enter Tryz.func157, Tryz.ntmps157
  all_goals go_wp2
  all_goals go_ret
  all_goals exact ⟨rfl, below1 _ _⟩

theorem clB_vals {ls : List Lit} {n : Int} (h : clB ls n = true) {l : Lit} (hl : l ∈ ls) : 0 ≤ l.val ∧ l.val ≤ 5 := by
  have := clB_lit h hl
  unfold litOk at this
  rw [Bool.and_eq_true] at this
  have := wiB_in this.2
  omega

set_option maxRecDepth 100000 in
set_option maxHeartbeats 4000000 in
theorem isPossible_any (l : Lit) (ds : List Int) (dv : Value) (w : World) (hd : RdInts w dv ds) (h0 : 0 ≤ l.val) (h5 : l.val ≤ 5) (hv0 : 0 ≤ l.var) (hv1 : l.var < ds.length) :
    Calls Tryz.prog 204 #[.agg #[.int .i64 l.var, .int .i64 l.val, .bool l.neg], dv] w fun e w' => e = .returned (.bool (posB ds l)) ∧ Below w.heap.size w w' := by
  obtain ⟨ax, cx, ex, -⟩ := id hd
  rw [ex] at hd ⊢
  obtain ⟨n, hn'⟩ : ∃ n, n = ds.length := ⟨_, rfl⟩
  rw [← hn'] at hd hv1 ⊢
  have hcx := (rdInts_cap hd).2
  have HD := fun w => Lib.hid (idomL_any l w h0 h5)
  obtain ⟨dm, hdm⟩ : ∃ dm, dm = domL l := ⟨_, rfl⟩
  rw [← hdm] at HD
  have HP : Hid (posB ds l = (andI (ds[l.var.toNat]?.getD 0) dm != 0)) := Lib.hid (by rw [hdm]; rfl)
  obtain ⟨lv, la, ln⟩ := l
  simp only at hv0 hv1 HP HD ⊢
  obtain ⟨j, rfl⟩ : ∃ j : Nat, lv = j := ⟨lv.toNat, by omega⟩
  obtain ⟨b1, o1, rfl, q0⟩ := rdInts_at hd (show j < n by omega)
  obtain ⟨y, hy⟩ : ∃ y, y = ds[j]?.getD 0 := ⟨_, rfl⟩
  rw [← hy] at q0
  have HP2 : Hid (posB ds ⟨j, la, ln⟩ = !(bits .and .i64 y dm == 0)) := Lib.hid (by rw [HP.out, hy]; rfl)
  obtain ⟨W, hW⟩ : ∃ W, w.alloc (.cells #[.int .i64 j, .int .i64 la, .bool ln] 91) = W := ⟨_, rfl⟩
  have b1' : Below w.heap.size w W := by rw [← hW]; exact below1 _ _
  have d0 : W.cell? ⟨b1, o1 + j, none⟩ = some (.int .i64 y) := (b1'.cell (World.block_lt_of_cell? w _ q0)).trans q0
  have bl : Blk3 W w.heap.size 91 (.int .i64 j) (.int .i64 la) (.bool ln) := by rw [← hW]; exact Blk3.new _ _ _ _ _
  obtain ⟨e0, e1, e2⟩ := bl.cell
  have HB := Lib.hid b1'.drew
  have HW := Lib.hid hW
  have HE := Lib.hid (HD W.drew).out
  clear b1' hW bl q0 hd ex hy hn' HP HD hdm
  go_enter Tryz.func204, Tryz.ntmps204
  go_wp2_with fail
  rw [HW.out]
  go_region_held3 (fun w' => w'.cell? ⟨w.heap.size, 0, none⟩ = some (.int .i64 j) ∧ w'.cell? ⟨w.heap.size, 1, none⟩ = some (.int .i64 la) ∧ w'.cell? ⟨w.heap.size, 2, none⟩ = some (.bool ln) ∧ w'.cell? ⟨b1, o1 + j, none⟩ = some (.int .i64 y)) (first | exact ⟨e0, e1, e2, d0⟩ | exact ⟨f0, f1, f2, f3⟩) (first | (go_at_call 157; refine HE.out.mono ?_; rintro e w9 ⟨rfl, b9⟩; have B9 := Lib.hid (HB.out.trans (b9.mono HB.out.size)); have f0 := (b9.cell (World.block_lt_of_cell? W.drew _ e0)).trans e0; have f1 := (b9.cell (World.block_lt_of_cell? W.drew _ e1)).trans e1; have f2 := (b9.cell (World.block_lt_of_cell? W.drew _ e2)).trans e2; have f3 := (b9.cell (World.block_lt_of_cell? W.drew _ d0)).trans d0; clear b9))
  all_goals go_wp2
  all_goals go_ret
  all_goals exact ⟨ret_bool HP2.out.symm, B9.out⟩
end Go.Proofs.YtipapmmjfoaddaaGreat
