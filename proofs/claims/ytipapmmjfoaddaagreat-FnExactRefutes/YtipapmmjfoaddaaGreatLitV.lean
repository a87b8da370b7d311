/- ValidClause as plain data; pieces for its walks. -/
import Derived.Test.YtipapmmjfoaddaaGreatLitS
namespace Go.Proofs.YtipapmmjfoaddaaGreat
open Go.ChangeShapes Go.WideShapes Go.ChangeAt Go.RowKit Go.Deep
set_option linter.unusedVariables false
set_option linter.unusedSimpArgs false

/-- The literal at i is one for n variables, and behind the one before it. -/
def stB (ls : List Lit) (n : Int) (i : Nat) : Bool := match ls[i]? with
  | none => true
  | some l => litOk l n && (i == 0 || match ls[i - 1]? with | none => true | some p => litLt p l)
def clB (ls : List Lit) (n : Int) : Bool := decide (ls.length ≤ 12) && (List.range ls.length).all (stB ls n)
def vclB (ls : List Lit) (n : Int) : Bool := wiB n 1 4 && clB ls n
theorem st_zero {ls : List Lit} {n : Int} {l : Lit} (h : ls[0]? = some l) : stB ls n 0 = litOk l n := by simp [stB, h]
theorem st_succ {ls : List Lit} {n : Int} {j : Nat} {l p : Lit} (h : ls[j + 1]? = some l) (hp : ls[j]? = some p) : stB ls n (j + 1) = (litOk l n && litLt p l) := by simp [stB, h, hp]
theorem clB_false {ls : List Lit} {n : Int} {k : Nat} (hk : k < ls.length) (h : stB ls n k = false) : clB ls n = false := by
  unfold clB
  rw [Bool.and_eq_false_iff]
  right
  rw [List.all_eq_false]
  exact ⟨k, List.mem_range.2 hk, by simp [h]⟩
theorem clB_all {ls : List Lit} {n : Int} (h : ∀ k, k < ls.length → stB ls n k = true) : clB ls n = decide (ls.length ≤ 12) := by
  unfold clB
  rw [show (List.range ls.length).all (stB ls n) = true from List.all_eq_true.2 (fun k hk => h k (List.mem_range.1 hk)), Bool.and_true]

theorem wrap_n1 {n : Int} (h1 : 1 ≤ n) (h4 : n ≤ 4) : IntKind.i64.wrap (n - 1) = n - 1 := by
  rcases (show n = 1 ∨ n = 2 ∨ n = 3 ∨ n = 4 by omega) with rfl | rfl | rfl | rfl <;> rfl
theorem inR1 {n : Int} (h1 : 1 ≤ n) (h4 : n ≤ 4) {x : Int} {c : Bool} (h : wiB x 0 (n - 1) = c) (w : World) : Calls Tryz.prog 45 #[.int .i64 x, .int .i64 0, .int .i64 (IntKind.i64.wrap (n - 1))] w fun e w' => e = .returned (.bool c) ∧ w = w' := by
  rw [wrap_n1 h1 h4, ← h]
  exact inRange_any _ _ _ _
theorem inR2 {x : Int} {c : Bool} (h : wiB x 0 5 = c) (w : World) : Calls Tryz.prog 45 #[.int .i64 x, .int .i64 0, .int .i64 5] w fun e w' => e = .returned (.bool c) ∧ w = w' := by
  rw [← h]
  exact inRange_any _ _ _ _

end Go.Proofs.YtipapmmjfoaddaaGreat
