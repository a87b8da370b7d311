/- DomainRange of both packages: the domain of the values between two numbers, as a sum of powers of two. -/
import Derived.Test.YtjdbfiiaadphhaaDom
namespace Go.Proofs.Ytjdbfiiaadphhaa
open Go.ChangeShapes Go.WideShapes Go.ChangeAt Go.RowKit
set_option linter.unusedVariables false
set_option linter.unusedSimpArgs false

/-- The domain of the values below k between lo and hi. -/
def rngD (lo hi : Int) : Nat → Int
  | 0 => 0
  | k + 1 => rngD lo hi k + if wiB k lo hi then 2 ^ k else 0

theorem rngD_bd (lo hi : Int) (k : Nat) : 0 ≤ rngD lo hi k ∧ rngD lo hi k < 2 ^ k := by
  induction k with
  | zero => simp [rngD]
  | succ k ih =>
    have : (2 : Int) ^ (k + 1) = 2 * 2 ^ k := by rw [Int.pow_succ]; omega
    simp only [rngD]
    split <;> omega

theorem or_pow_finR : ∀ k : Fin 6, ∀ n : Fin 32, n.val < 2 ^ k.val → bits .or .i64 ((n.val : Nat) : Int) (wrap64 (2 ^ k.val)) = (n.val : Int) + 2 ^ k.val := by decide +kernel
theorem add_pow_fin : ∀ k : Fin 6, ∀ n : Fin 32, n.val < 2 ^ k.val → wrap64 (((n.val : Nat) : Int) + wrap64 (2 ^ k.val)) = (n.val : Int) + 2 ^ k.val := by decide +kernel

theorem pow_le (k : Nat) (h : k ≤ 5) : (2 : Int) ^ k ≤ 32 ∧ 1 ≤ (2 : Int) ^ k := by
  have : ∀ k : Fin 6, (2 : Int) ^ k.val ≤ 32 ∧ 1 ≤ (2 : Int) ^ k.val := by decide
  exact this ⟨k, by omega⟩

theorem or_powR (x : Int) (k : Nat) (hk : k ≤ 5) (h0 : 0 ≤ x) (h1 : x < 2 ^ k) : bits .or .i64 x (wrap64 (2 ^ k)) = x + 2 ^ k := by
  obtain ⟨n, rfl⟩ := Int.eq_ofNat_of_zero_le h0
  have hp := pow_le k hk
  have hn : n < 2 ^ k := by
    have e : ((2 ^ k : Nat) : Int) = (2 : Int) ^ k := by simp
    omega
  exact or_pow_finR ⟨k, by omega⟩ ⟨n, by omega⟩ hn
theorem add_pow (x : Int) (k : Nat) (hk : k ≤ 5) (h0 : 0 ≤ x) (h1 : x < 2 ^ k) : wrap64 (x + wrap64 (2 ^ k)) = x + 2 ^ k := by
  obtain ⟨n, rfl⟩ := Int.eq_ofNat_of_zero_le h0
  have hp := pow_le k hk
  have hn : n < 2 ^ k := by
    have e : ((2 ^ k : Nat) : Int) = (2 : Int) ^ k := by simp
    omega
  exact add_pow_fin ⟨k, by omega⟩ ⟨n, by omega⟩ hn




set_option maxHeartbeats 400000 in
theorem sRange_any (lo hi : Int) (w : World) :
    Calls Try.prog 167 #[.int .i64 lo, .int .i64 hi] w fun e w' => e = .returned (.int .i64 (rngD lo hi 6)) ∧ w = w' := by
  go_enter Try.func167, Try.ntmps167
  go_wp2
  go_loop [5, 6] (fun d v => ∃ k : Nat, k ≤ 6 ∧ v = .int .i64 k ∧ d = .int .i64 (rngD lo hi k)) (fun _ v => 6 - (intOf v).toNat)
  case atStart => exact ⟨0, by omega, rfl, rfl⟩
  case round =>
    obtain ⟨k, hk, rfl, rfl⟩ := hrel
    by_cases hlt : k < 6
    · have hb := rngD_bd lo hi k
      have HO := Lib.hid (add_pow _ k (by omega) hb.1 hb.2)
      have HS := Lib.hid (show rngD lo hi (k + 1) = rngD lo hi k + if wiB k lo hi then 2 ^ k else 0 from rfl)
      clear hb
      by_cases h1 : lo ≤ (k : Int)
      · by_cases h2 : (k : Int) ≤ hi
        · rw [wiB_true h1 h2] at HS
          go_wp2
          go_round
          case rel => exact ⟨k + 1, by omega, by go_num, by rw [HS.out]; rw [HO.out]; simp⟩
          case measure => simp [intOf]; omega
        · rw [wiB_false2 h2] at HS
          go_wp2
          go_round
          case rel => exact ⟨k + 1, by omega, by go_num, by rw [HS.out]; simp⟩
          case measure => simp [intOf]; omega
      · rw [wiB_false1 h1] at HS
        go_wp2
        go_round
        case rel => exact ⟨k + 1, by omega, by go_num, by rw [HS.out]; simp⟩
        case measure => simp [intOf]; omega
    · obtain rfl : k = 6 := by omega
      go_wp2
      go_ret
      exact ⟨rfl, rfl⟩
end Go.Proofs.Ytjdbfiiaadphhaa
