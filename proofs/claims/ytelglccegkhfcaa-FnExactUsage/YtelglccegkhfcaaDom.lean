/- Plain facts on domains as numbers in 0..63, and contracts of the small functions on domains of both packages: within, inRange, ValidDomain, has, domainHas, DomainHas. -/
import Derived.Test.YtelglccegkhfcaaRows
import Derived.WalkKit
import Derived.WalkSpells
import Derived.WalkLawsBesides
import Derived.ProofKit
import Derived.Outline
import Derived.Lib.Hide
import Derived.BigQuiet
import Derived.Deep.QuietTactic
namespace Go.Proofs.Ytelglccegkhfcaa
open Go.ChangeShapes Go.WideShapes Go.ChangeAt Go.RowKit
set_option linter.unusedVariables false
set_option linter.unusedSimpArgs false

/-- lo ≤ v ≤ hi, as a test. -/
def wiB (v lo hi : Int) : Bool := decide (lo ≤ v ∧ v ≤ hi)
/-- v is a value in the domain d. -/
def hasB (d v : Int) : Bool := decide (0 ≤ v ∧ v ≤ 5 ∧ d / 2 ^ v.toNat % 2 = 1)

theorem wiB_true {v lo hi : Int} (h1 : lo ≤ v) (h2 : v ≤ hi) : wiB v lo hi = true := by simp [wiB, h1, h2]
theorem wiB_false1 {v lo hi : Int} (h1 : ¬ lo ≤ v) : wiB v lo hi = false := by simp [wiB, h1]
theorem wiB_false2 {v lo hi : Int} (h1 : ¬ v ≤ hi) : wiB v lo hi = false := by simp [wiB, h1]
theorem wiB_out {v lo hi : Int} (h : wiB v lo hi = false) : v < lo ∨ hi < v := by simp [wiB] at h; omega
theorem wiB_in {v lo hi : Int} (h : wiB v lo hi = true) : lo ≤ v ∧ v ≤ hi := by simpa [wiB] using h

theorem within_any (v lo hi : Int) (w : World) :
    Calls Try.prog 81 #[.int .i64 v, .int .i64 lo, .int .i64 hi] w fun e w' => e = .returned (.bool (wiB v lo hi)) ∧ w = w' := by
  by_cases h1 : lo ≤ v
  · by_cases h2 : v ≤ hi
    · rw [wiB_true h1 h2]
      go_enter Try.func81, Try.ntmps81
      go_wp2
      go_ret
      exact ⟨rfl, rfl⟩
    · rw [wiB_false2 h2]
      go_enter Try.func81, Try.ntmps81
      go_wp2
      go_ret
      exact ⟨rfl, rfl⟩
  · rw [wiB_false1 h1]
    go_enter Try.func81, Try.ntmps81
    go_wp2
    go_ret
    exact ⟨rfl, rfl⟩

theorem inRange_any (v lo hi : Int) (w : World) :
    Calls Try.prog 91 #[.int .i64 v, .int .i64 lo, .int .i64 hi] w fun e w' => e = .returned (.bool (wiB v lo hi)) ∧ w = w' := by
  by_cases h1 : lo ≤ v
  · by_cases h2 : v ≤ hi
    · rw [wiB_true h1 h2]
      go_enter Try.func91, Try.ntmps91
      go_wp2
      go_ret
      exact ⟨rfl, rfl⟩
    · rw [wiB_false2 h2]
      go_enter Try.func91, Try.ntmps91
      go_wp2
      go_ret
      exact ⟨rfl, rfl⟩
  · rw [wiB_false1 h1]
    go_enter Try.func91, Try.ntmps91
    go_wp2
    go_ret
    exact ⟨rfl, rfl⟩

theorem ivalid_any (d : Int) (w : World) :
    Calls Try.prog 162 #[.int .i64 d] w fun e w' => e = .returned (.bool (wiB d 0 63)) ∧ w = w' := by
  go_enter Try.func162, Try.ntmps162
  go_wp2_with fail
  refine (within_any d 0 63 _).mono ?_
  rintro e w' ⟨rfl, rfl⟩
  go_wp2
  go_ret
  exact ⟨rfl, rfl⟩

theorem svalid_any (d : Int) (w : World) :
    Calls Try.prog 120 #[.int .i64 d] w fun e w' => e = .returned (.bool (wiB d 0 63)) ∧ w = w' := by
  go_enter Try.func120, Try.ntmps120
  go_wp2_with fail
  refine (inRange_any d 0 63 _).mono ?_
  rintro e w' ⟨rfl, rfl⟩
  go_wp2
  go_ret
  exact ⟨rfl, rfl⟩

theorem isValue_any (d : Int) (w : World) :
    Calls Try.prog 145 #[.int .i64 d] w fun e w' => e = .returned (.bool (wiB d 0 5)) ∧ w = w' := by
  go_enter Try.func145, Try.ntmps145
  go_wp2_with fail
  refine (within_any d 0 5 _).mono ?_
  rintro e w' ⟨rfl, rfl⟩
  go_wp2
  go_ret
  exact ⟨rfl, rfl⟩

theorem and_pow_fin : ∀ n : Fin 64, ∀ k : Fin 6, (bits .and .i64 ((n.val : Nat) : Int) (wrap64 (2 ^ k.val)) != 0) = decide (((n.val : Nat) : Int) / 2 ^ k.val % 2 = 1) := by decide +kernel
theorem and_one_fin : ∀ n : Fin 64, ∀ k : Fin 6, (bits .and .i64 (((n.val : Nat) : Int) / 2 ^ k.val) 1 == 1) = decide (((n.val : Nat) : Int) / 2 ^ k.val % 2 = 1) := by decide +kernel

theorem has_any (d v : Int) (w : World) (h1 : 0 ≤ d) (h2 : d ≤ 63) :
    Calls Try.prog 166 #[.int .i64 d, .int .i64 v] w fun e w' => e = .returned (.bool (hasB d v)) ∧ w = w' := by
  cases hv : wiB v 0 5
  · have H : hasB d v = false := by have := wiB_out hv; simp [hasB]; omega
    rw [H]
    go_enter Try.func166, Try.ntmps166
    go_wp2_with fail
    refine (isValue_any v _).mono ?_
    rintro e w' ⟨rfl, rfl⟩
    go_wp2
    go_ret
    exact ⟨rfl, rfl⟩
  · have hv' := wiB_in hv
    obtain ⟨n, rfl⟩ := Int.eq_ofNat_of_zero_le h1
    obtain ⟨k, rfl⟩ := Int.eq_ofNat_of_zero_le hv'.1
    have H : hasB n k = (bits .and .i64 (n : Int) (wrap64 (2 ^ k)) != 0) := by
      rw [and_pow_fin ⟨n, by omega⟩ ⟨k, by omega⟩]; simp [hasB]; omega
    rw [H]
    have hk : k ≤ 5 := by omega
    clear hv'
    go_enter Try.func166, Try.ntmps166
    go_wp2_with fail
    refine (isValue_any k _).mono ?_
    rintro e w' ⟨rfl, rfl⟩
    go_wp2
    go_ret
    exact ⟨rfl, rfl⟩

theorem shas_any (d v : Int) (w : World) (h1 : 0 ≤ d) (h2 : d ≤ 63) :
    Calls Try.prog 164 #[.int .i64 d, .int .i64 v] w fun e w' => e = .returned (.bool (hasB d v)) ∧ w = w' := by
  cases hv : wiB v 0 5
  · have H : hasB d v = false := by have := wiB_out hv; simp [hasB]; omega
    rw [H]
    go_enter Try.func164, Try.ntmps164
    go_wp2_with fail
    refine (inRange_any v 0 5 _).mono ?_
    rintro e w' ⟨rfl, rfl⟩
    go_wp2
    go_ret
    exact ⟨rfl, rfl⟩
  · have hv' := wiB_in hv
    obtain ⟨n, rfl⟩ := Int.eq_ofNat_of_zero_le h1
    obtain ⟨k, rfl⟩ := Int.eq_ofNat_of_zero_le hv'.1
    have H : hasB n k = (bits .and .i64 ((n : Int) / 2 ^ k) 1 == 1) := by
      rw [and_one_fin ⟨n, by omega⟩ ⟨k, by omega⟩]; simp [hasB]; omega
    rw [H]
    have hk : k ≤ 5 := by omega
    clear hv'
    go_enter Try.func164, Try.ntmps164
    go_wp2_with fail
    refine (inRange_any k 0 5 _).mono ?_
    rintro e w' ⟨rfl, rfl⟩
    go_wp2
    go_ret
    exact ⟨rfl, rfl⟩

/-- v is a value in the valid domain d. -/
def domB (d v : Int) : Bool := wiB d 0 63 && hasB d v

end Go.Proofs.Ytelglccegkhfcaa
