/- The value of an objective, in both packages, and its law. -/
import Derived.Test.YtnkbcciigdjcnaaGreatDoorSatI
import Derived.Test.YtnkbcciigdjcnaaGreatDoorSolA
import Derived.Test.YtnkbcciigdjcnaaGreatDoorToE
namespace Go.Proofs.YtnkbcciigdjcnaaGreatDoor
open Go.ChangeShapes Go.WideShapes Go.ChangeAt Go.RowKit
set_option linter.unusedVariables false
set_option linter.unusedSimpArgs false

/-- The value that both packages return. -/
def objL (o x : List Int) : Int := if o.length = x.length ∧ x.length ≤ 4 ∧ allB o (-9) 9 = true ∧ allB x 0 5 = true then linS o x x.length else 0
theorem objL_ok {o x : List Int} (h1 : o.length = x.length) (h2 : x.length ≤ 4) (h3 : allB o (-9) 9 = true) (h4 : allB x 0 5 = true) : objL o x = linS o x x.length := if_pos ⟨h1, h2, h3, h4⟩
theorem objL_no {o x : List Int} (h : ¬ (o.length = x.length ∧ x.length ≤ 4 ∧ allB o (-9) 9 = true ∧ allB x 0 5 = true)) : objL o x = 0 := if_neg h
theorem small_of_all {xs : List Int} {lo hi : Int} (h : allB xs lo hi = true) : Small xs lo hi := fun j hj => allB_at h hj

theorem ret_i {a b : Int} (h : a = b) : Ending.returned (.int .i64 a) = .returned (.int .i64 b) := by rw [h]
def IntPost (v : Int) (w : World) : Ending → World → Prop := fun e w' => e = .returned (.int .i64 v) ∧ Below w.heap.size w w'

set_option maxRecDepth 100000 in
theorem isObjective_any (xv : Value) (xs : List Int) (n : Nat) (w : World) (hx : RdInts w xv xs) (hn : n ≤ 9223372036854775807) :
    Calls Tryz.prog 38 #[xv, .int .i64 n] w fun e w' => e = .returned (.bool (decide (xs.length = n) && allB xs (-9) 9)) ∧ w = w' := by
  have HX := Lib.hid hx
  obtain ⟨ax, cx, e2, -⟩ := id hx
  rw [e2] at HX ⊢
  have hc := (rdInts_cap HX.out).2
  clear e2 hx
  by_cases hl : xs.length = n
  · have hd : ((xs.length : Int) == (n : Int)) = true := by simp [hl]
    have HL := Lib.hid hl
    clear hl
    go_enter Tryz.func38, Tryz.ntmps38
    go_wp2_with fail
    refine (allWithin_any _ xs _ _ _ HX.out).mono ?_
    rintro e w' ⟨rfl, rfl⟩
    go_wp2
    go_ret
    exact ⟨ret_bool (by rw [decide_eq_true HL.out]; simp), rfl⟩
  · have hd : ((xs.length : Int) == (n : Int)) = false := by simp; omega
    have HL := Lib.hid hl
    clear hl
    go_enter Tryz.func38, Tryz.ntmps38
    go_wp2
    go_ret
    exact ⟨ret_bool (by rw [decide_eq_false HL.out]; simp), rfl⟩

end Go.Proofs.YtnkbcciigdjcnaaGreatDoor
