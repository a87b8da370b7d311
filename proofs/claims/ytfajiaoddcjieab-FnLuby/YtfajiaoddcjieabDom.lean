/- Plain facts on domains as numbers in 0..63, and contracts of the small functions on domains of both packages: within, inRange, ValidDomain, has, domainHas, DomainHas. -/
import Derived.Test.YtfajiaoddcjieabRows
import Derived.WalkKit
import Derived.WalkSpells
import Derived.WalkLawsBesides
import Derived.ProofKit
import Derived.Outline
import Derived.Lib.Hide
import Derived.BigQuiet
import Derived.Deep.QuietTactic
namespace Go.Proofs.Ytfajiaoddcjieab
open Go.ChangeShapes Go.WideShapes Go.ChangeAt Go.RowKit
set_option linter.unusedVariables false
set_option linter.unusedSimpArgs false

/-- lo ≤ v ≤ hi, as a test. -/
def wiB (v lo hi : Int) : Bool := decide (lo ≤ v ∧ v ≤ hi)
/-- v is a value in the domain d. -/
def hasB (d v : Int) : Bool := decide (0 ≤ v ∧ v ≤ 5 ∧ d / 2 ^ v.toNat % 2 = 1)

theorem wiB_true {v lo hi : Int} (h1 : lo ≤ v) (h2 : v ≤ hi) : wiB v lo hi = true := by simp [wiB, h1, h2]
theorem wiB_false1 {v lo hi : Int} (h1 : ¬ lo ≤ v) : wiB v lo hi = false := by simp [wiB, h1]
theorem wiB_false2 {v lo hi : Int} (h1 : ¬ v ≤ hi) : wiB v lo hi = false := by simp [wiB, h1]
theorem wiB_out {v lo hi : Int} (h : wiB v lo hi = false) : v < lo ∨ hi < v := by simp [wiB] at h; omega
theorem wiB_in {v lo hi : Int} (h : wiB v lo hi = true) : lo ≤ v ∧ v ≤ hi := by simpa [wiB] using h

theorem within_any (v lo hi : Int) (w : World) :
    Calls Try.prog 10 #[.int .i64 v, .int .i64 lo, .int .i64 hi] w fun e w' => e = .returned (.bool (wiB v lo hi)) ∧ w = w' := by
  by_cases h1 : lo ≤ v
  · by_cases h2 : v ≤ hi
    · rw [wiB_true h1 h2]
      go_enter Try.func10, Try.ntmps10
      go_wp2
      go_ret
      exact ⟨rfl, rfl⟩
    · rw [wiB_false2 h2]
      go_enter Try.func10, Try.ntmps10
      go_wp2
      go_ret
      exact ⟨rfl, rfl⟩
  · rw [wiB_false1 h1]
    go_enter Try.func10, Try.ntmps10
    go_wp2
    go_ret
    exact ⟨rfl, rfl⟩

theorem inRange_any (v lo hi : Int) (w : World) :
    Calls Try.prog 8 #[.int .i64 v, .int .i64 lo, .int .i64 hi] w fun e w' => e = .returned (.bool (wiB v lo hi)) ∧ w = w' := by
  by_cases h1 : lo ≤ v
  · by_cases h2 : v ≤ hi
    · rw [wiB_true h1 h2]
      go_enter Try.func8, Try.ntmps8
      go_wp2
      go_ret
      exact ⟨rfl, rfl⟩
    · rw [wiB_false2 h2]
      go_enter Try.func8, Try.ntmps8
      go_wp2
      go_ret
      exact ⟨rfl, rfl⟩
  · rw [wiB_false1 h1]
    go_enter Try.func8, Try.ntmps8
    go_wp2
    go_ret
    exact ⟨rfl, rfl⟩

theorem and_pow_fin : ∀ n : Fin 64, ∀ k : Fin 6, (bits .and .i64 ((n.val : Nat) : Int) (wrap64 (2 ^ k.val)) != 0) = decide (((n.val : Nat) : Int) / 2 ^ k.val % 2 = 1) := by decide +kernel
theorem and_one_fin : ∀ n : Fin 64, ∀ k : Fin 6, (bits .and .i64 (((n.val : Nat) : Int) / 2 ^ k.val) 1 == 1) = decide (((n.val : Nat) : Int) / 2 ^ k.val % 2 = 1) := by decide +kernel

/-- v is a value in the valid domain d. -/
def domB (d v : Int) : Bool := wiB d 0 63 && hasB d v

end Go.Proofs.Ytfajiaoddcjieab
