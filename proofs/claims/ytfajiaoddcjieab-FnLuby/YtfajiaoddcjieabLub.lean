/- The Luby sequence, in both packages. -/
import Derived.Test.YtfajiaoddcjieabDom
import Derived.Test.YtfajiaoddcjieabShelf
namespace Go.Proofs.Ytfajiaoddcjieab
open Go.ChangeShapes Go.WideShapes Go.ChangeAt Go.RowKit
set_option linter.unusedVariables false
set_option linter.unusedSimpArgs false

theorem ret_intL {k : IntKind} {a b : Int} (h : a = b) : Ending.returned (.int k a) = .returned (.int k b) := by rw [h]
def lubF : Nat → Nat → Nat
  | 0, _ => 0
  | f + 1, i => if i + 1 = 2 * 2 ^ Nat.log2 i then 2 ^ Nat.log2 i else lubF f (i + 1 - 2 ^ Nat.log2 i)
/-- Element i of the sequence, 1 <= i <= 127. -/
def lubP (i : Nat) : Nat := lubF 8 i
/-- What Luby returns. -/
def lubN (i : Int) : Int := if 1 ≤ i ∧ i ≤ 127 then (lubP i.toNat : Nat) else 0

def pows : List Nat := [1, 2, 4, 8, 16, 32, 64, 128]
theorem lub_i : ∀ n : Nat, n ≤ 127 → 1 ≤ n → ∃ L p : Nat, L < 8 ∧ Lib.bitLen n = L + 1 ∧ p = 2 ^ L ∧ p ≤ n ∧ n < 2 * p ∧ (n = 2 * p - 1 → lubP n = p) ∧ (n ≠ 2 * p - 1 → lubP n = lubP (n - p + 1) ∧ n - p + 1 < n) := by
  intro n h1 h2
  have : ∀ n : Nat, n < 128 → 1 ≤ n → Lib.bitLen n - 1 < 8 ∧ Lib.bitLen n = (Lib.bitLen n - 1) + 1 ∧ 2 ^ (Lib.bitLen n - 1) ≤ n ∧ n < 2 * 2 ^ (Lib.bitLen n - 1) ∧ (n = 2 * 2 ^ (Lib.bitLen n - 1) - 1 → lubP n = 2 ^ (Lib.bitLen n - 1)) ∧ (n ≠ 2 * 2 ^ (Lib.bitLen n - 1) - 1 → lubP n = lubP (n - 2 ^ (Lib.bitLen n - 1) + 1) ∧ n - 2 ^ (Lib.bitLen n - 1) + 1 < n) := by decide +kernel
  obtain ⟨q1, q2, q3, q3', q4, q5⟩ := this n (by omega) h2
  exact ⟨Lib.bitLen n - 1, 2 ^ (Lib.bitLen n - 1), q1, q2, rfl, q3, q3', q4, q5⟩
theorem lub_s (n : Nat) (h1 : n < 128) (h2 : 1 ≤ n) (s : Nat) (hs : s ∈ pows) (h3 : n + 1 ≤ s) (h4 : s = 1 ∨ s / 2 < n + 1) : (s = n + 1 → lubP n = s / 2) ∧ (s ≠ n + 1 → lubP n = lubP (n - s / 2 + 1) ∧ n - s / 2 + 1 < n ∧ s / 2 ≤ n ∧ 1 ≤ s / 2) := by
  have : ∀ s ∈ pows, ∀ n : Nat, n < 128 → (1 ≤ n ∧ n + 1 ≤ s ∧ (s = 1 ∨ s / 2 < n + 1)) → (s = n + 1 → lubP n = s / 2) ∧ (s ≠ n + 1 → lubP n = lubP (n - s / 2 + 1) ∧ n - s / 2 + 1 < n ∧ s / 2 ≤ n ∧ 1 ≤ s / 2) := by decide +kernel
  exact this s hs n h1 ⟨h2, h3, h4⟩
theorem pows_le {s : Nat} (h : s ∈ pows) : 1 ≤ s ∧ s ≤ 128 := by simp [pows] at h; omega
theorem pows_step {s : Nat} (h : s ∈ pows) (h2 : s < 128) : 2 * s ∈ pows := by simp [pows] at h ⊢; omega

set_option maxRecDepth 100000 in
set_option maxHeartbeats 40000000 in
theorem iLuby_in : ∀ (n : Nat), n ≤ 127 → 1 ≤ n → ∀ w : World, Calls Try.prog 6 #[.int .i64 n] w fun e w' => e = .returned (.int .i64 (lubP n : Nat)) ∧ w = w' := by
  intro n
  induction n using Nat.strongRecOn with
  | _ n ih =>
    intro h127 h1 w
    obtain ⟨L, p, hL, hb, hp, hpn, hpn2, q1, q2⟩ := lub_i n h127 h1
    have hv : wiB (n : Int) 1 127 = true := wiB_true (by omega) (by omega)
    have HBL := Lib.hid hb
    have h8 : L = 0 ∨ L = 1 ∨ L = 2 ∨ L = 3 ∨ L = 4 ∨ L = 5 ∨ L = 6 ∨ L = 7 := by omega
    clear hb hL
    by_cases e : n = 2 * p - 1
    · have HF : Hid (lubP n = p) := Lib.hid (q1 e)
      have HV := Lib.hid hv
      clear q1 q2 ih hv
      rcases h8 with rfl | rfl | rfl | rfl | rfl | rfl | rfl | rfl
      · have hp' : p = 1 := hp
        subst hp'
        have heq : ((n : Int) == 1) = true := by simp; omega
        have HBN := Lib.hid e
        clear e hp
        go_enter Try.func6, Try.ntmps6
        go_wp2_with (first
          | (go_at_call 10; refine (within_any _ _ _ _).mono ?_; rintro e w' ⟨rfl, rfl⟩; rw [HV.out])
          | (go_at_call 11; refine (Try.bits_Len _ _ (by omega) (by omega)).mono ?_; rintro e w' ⟨rfl, rfl⟩; first | rw [HBL.out] | (rw [show ((n : Int)).toNat = n from rfl, HBL.out]) | skip)
          | (go_at_call 6; refine HIH.out.mono ?_; rintro e w' ⟨rfl, rfl⟩))
        go_ret
        exact ⟨ret_intL (by rw [HF.out]; rfl), rfl⟩
      · have hp' : p = 2 := hp
        subst hp'
        have heq : ((n : Int) == 3) = true := by simp; omega
        have HBN := Lib.hid e
        clear e hp
        go_enter Try.func6, Try.ntmps6
        go_wp2_with (first
          | (go_at_call 10; refine (within_any _ _ _ _).mono ?_; rintro e w' ⟨rfl, rfl⟩; rw [HV.out])
          | (go_at_call 11; refine (Try.bits_Len _ _ (by omega) (by omega)).mono ?_; rintro e w' ⟨rfl, rfl⟩; first | rw [HBL.out] | (rw [show ((n : Int)).toNat = n from rfl, HBL.out]) | skip)
          | (go_at_call 6; refine HIH.out.mono ?_; rintro e w' ⟨rfl, rfl⟩))
        go_ret
        exact ⟨ret_intL (by rw [HF.out]; rfl), rfl⟩
      · have hp' : p = 4 := hp
        subst hp'
        have heq : ((n : Int) == 7) = true := by simp; omega
        have HBN := Lib.hid e
        clear e hp
        go_enter Try.func6, Try.ntmps6
        go_wp2_with (first
          | (go_at_call 10; refine (within_any _ _ _ _).mono ?_; rintro e w' ⟨rfl, rfl⟩; rw [HV.out])
          | (go_at_call 11; refine (Try.bits_Len _ _ (by omega) (by omega)).mono ?_; rintro e w' ⟨rfl, rfl⟩; first | rw [HBL.out] | (rw [show ((n : Int)).toNat = n from rfl, HBL.out]) | skip)
          | (go_at_call 6; refine HIH.out.mono ?_; rintro e w' ⟨rfl, rfl⟩))
        go_ret
        exact ⟨ret_intL (by rw [HF.out]; rfl), rfl⟩
      · have hp' : p = 8 := hp
        subst hp'
        have heq : ((n : Int) == 15) = true := by simp; omega
        have HBN := Lib.hid e
        clear e hp
        go_enter Try.func6, Try.ntmps6
        go_wp2_with (first
          | (go_at_call 10; refine (within_any _ _ _ _).mono ?_; rintro e w' ⟨rfl, rfl⟩; rw [HV.out])
          | (go_at_call 11; refine (Try.bits_Len _ _ (by omega) (by omega)).mono ?_; rintro e w' ⟨rfl, rfl⟩; first | rw [HBL.out] | (rw [show ((n : Int)).toNat = n from rfl, HBL.out]) | skip)
          | (go_at_call 6; refine HIH.out.mono ?_; rintro e w' ⟨rfl, rfl⟩))
        go_ret
        exact ⟨ret_intL (by rw [HF.out]; rfl), rfl⟩
      · have hp' : p = 16 := hp
        subst hp'
        have heq : ((n : Int) == 31) = true := by simp; omega
        have HBN := Lib.hid e
        clear e hp
        go_enter Try.func6, Try.ntmps6
        go_wp2_with (first
          | (go_at_call 10; refine (within_any _ _ _ _).mono ?_; rintro e w' ⟨rfl, rfl⟩; rw [HV.out])
          | (go_at_call 11; refine (Try.bits_Len _ _ (by omega) (by omega)).mono ?_; rintro e w' ⟨rfl, rfl⟩; first | rw [HBL.out] | (rw [show ((n : Int)).toNat = n from rfl, HBL.out]) | skip)
          | (go_at_call 6; refine HIH.out.mono ?_; rintro e w' ⟨rfl, rfl⟩))
        go_ret
        exact ⟨ret_intL (by rw [HF.out]; rfl), rfl⟩
      · have hp' : p = 32 := hp
        subst hp'
        have heq : ((n : Int) == 63) = true := by simp; omega
        have HBN := Lib.hid e
        clear e hp
        go_enter Try.func6, Try.ntmps6
        go_wp2_with (first
          | (go_at_call 10; refine (within_any _ _ _ _).mono ?_; rintro e w' ⟨rfl, rfl⟩; rw [HV.out])
          | (go_at_call 11; refine (Try.bits_Len _ _ (by omega) (by omega)).mono ?_; rintro e w' ⟨rfl, rfl⟩; first | rw [HBL.out] | (rw [show ((n : Int)).toNat = n from rfl, HBL.out]) | skip)
          | (go_at_call 6; refine HIH.out.mono ?_; rintro e w' ⟨rfl, rfl⟩))
        go_ret
        exact ⟨ret_intL (by rw [HF.out]; rfl), rfl⟩
      · have hp' : p = 64 := hp
        subst hp'
        have heq : ((n : Int) == 127) = true := by simp; omega
        have HBN := Lib.hid e
        clear e hp
        go_enter Try.func6, Try.ntmps6
        go_wp2_with (first
          | (go_at_call 10; refine (within_any _ _ _ _).mono ?_; rintro e w' ⟨rfl, rfl⟩; rw [HV.out])
          | (go_at_call 11; refine (Try.bits_Len _ _ (by omega) (by omega)).mono ?_; rintro e w' ⟨rfl, rfl⟩; first | rw [HBL.out] | (rw [show ((n : Int)).toNat = n from rfl, HBL.out]) | skip)
          | (go_at_call 6; refine HIH.out.mono ?_; rintro e w' ⟨rfl, rfl⟩))
        go_ret
        exact ⟨ret_intL (by rw [HF.out]; rfl), rfl⟩
      · have hp' : p = 128 := hp
        subst hp'
        have heq : ((n : Int) == 255) = true := by simp; omega
        have HBN := Lib.hid e
        clear e hp
        go_enter Try.func6, Try.ntmps6
        go_wp2_with (first
          | (go_at_call 10; refine (within_any _ _ _ _).mono ?_; rintro e w' ⟨rfl, rfl⟩; rw [HV.out])
          | (go_at_call 11; refine (Try.bits_Len _ _ (by omega) (by omega)).mono ?_; rintro e w' ⟨rfl, rfl⟩; first | rw [HBL.out] | (rw [show ((n : Int)).toNat = n from rfl, HBL.out]) | skip)
          | (go_at_call 6; refine HIH.out.mono ?_; rintro e w' ⟨rfl, rfl⟩))
        go_ret
        exact ⟨ret_intL (by rw [HF.out]; rfl), rfl⟩
    · obtain ⟨q3, q4⟩ := q2 e
      obtain ⟨q, hq⟩ : ∃ q, q = lubP n := ⟨_, rfl⟩
      rw [← hq] at q3 ⊢
      have HIH : Hid (Calls Try.prog 6 #[.int .i64 ((n : Int) - (p : Int) + 1)] w fun e w' => e = .returned (.int .i64 (q : Nat)) ∧ w = w') := Lib.hid (by rw [q3, show (n : Int) - (p : Int) + 1 = ((n - p + 1 : Nat) : Int) by omega]; exact ih (n - p + 1) q4 (by omega) (by omega) w)
      have HV := Lib.hid hv
      clear q1 q2 ih q3 q4 hv hq
      rcases h8 with rfl | rfl | rfl | rfl | rfl | rfl | rfl | rfl
      · have hp' : p = 1 := hp
        omega
      · have hp' : p = 2 := hp
        subst hp'
        have HI2 : Hid (Calls Try.prog 6 #[.int .i64 ((n : Int) - 2 + 1)] w fun e w' => e = .returned (.int .i64 (q : Nat)) ∧ w = w') := HIH
        have heq : ((n : Int) == 3) = false := by simp; omega
        have HBN := Lib.hid e
        clear e hp HIH
        go_enter Try.func6, Try.ntmps6
        go_wp2_with (first
          | (go_at_call 10; refine (within_any _ _ _ _).mono ?_; rintro e w' ⟨rfl, rfl⟩; rw [HV.out])
          | (go_at_call 11; refine (Try.bits_Len _ _ (by omega) (by omega)).mono ?_; rintro e w' ⟨rfl, rfl⟩; first | rw [HBL.out] | (rw [show ((n : Int)).toNat = n from rfl, HBL.out]) | skip)
          | (go_at_call 6; refine HI2.out.mono ?_; rintro e w' ⟨rfl, rfl⟩))
        go_ret
        exact ⟨rfl, rfl⟩
      · have hp' : p = 4 := hp
        subst hp'
        have HI2 : Hid (Calls Try.prog 6 #[.int .i64 ((n : Int) - 4 + 1)] w fun e w' => e = .returned (.int .i64 (q : Nat)) ∧ w = w') := HIH
        have heq : ((n : Int) == 7) = false := by simp; omega
        have HBN := Lib.hid e
        clear e hp HIH
        go_enter Try.func6, Try.ntmps6
        go_wp2_with (first
          | (go_at_call 10; refine (within_any _ _ _ _).mono ?_; rintro e w' ⟨rfl, rfl⟩; rw [HV.out])
          | (go_at_call 11; refine (Try.bits_Len _ _ (by omega) (by omega)).mono ?_; rintro e w' ⟨rfl, rfl⟩; first | rw [HBL.out] | (rw [show ((n : Int)).toNat = n from rfl, HBL.out]) | skip)
          | (go_at_call 6; refine HI2.out.mono ?_; rintro e w' ⟨rfl, rfl⟩))
        go_ret
        exact ⟨rfl, rfl⟩
      · have hp' : p = 8 := hp
        subst hp'
        have HI2 : Hid (Calls Try.prog 6 #[.int .i64 ((n : Int) - 8 + 1)] w fun e w' => e = .returned (.int .i64 (q : Nat)) ∧ w = w') := HIH
        have heq : ((n : Int) == 15) = false := by simp; omega
        have HBN := Lib.hid e
        clear e hp HIH
        go_enter Try.func6, Try.ntmps6
        go_wp2_with (first
          | (go_at_call 10; refine (within_any _ _ _ _).mono ?_; rintro e w' ⟨rfl, rfl⟩; rw [HV.out])
          | (go_at_call 11; refine (Try.bits_Len _ _ (by omega) (by omega)).mono ?_; rintro e w' ⟨rfl, rfl⟩; first | rw [HBL.out] | (rw [show ((n : Int)).toNat = n from rfl, HBL.out]) | skip)
          | (go_at_call 6; refine HI2.out.mono ?_; rintro e w' ⟨rfl, rfl⟩))
        go_ret
        exact ⟨rfl, rfl⟩
      · have hp' : p = 16 := hp
        subst hp'
        have HI2 : Hid (Calls Try.prog 6 #[.int .i64 ((n : Int) - 16 + 1)] w fun e w' => e = .returned (.int .i64 (q : Nat)) ∧ w = w') := HIH
        have heq : ((n : Int) == 31) = false := by simp; omega
        have HBN := Lib.hid e
        clear e hp HIH
        go_enter Try.func6, Try.ntmps6
        go_wp2_with (first
          | (go_at_call 10; refine (within_any _ _ _ _).mono ?_; rintro e w' ⟨rfl, rfl⟩; rw [HV.out])
          | (go_at_call 11; refine (Try.bits_Len _ _ (by omega) (by omega)).mono ?_; rintro e w' ⟨rfl, rfl⟩; first | rw [HBL.out] | (rw [show ((n : Int)).toNat = n from rfl, HBL.out]) | skip)
          | (go_at_call 6; refine HI2.out.mono ?_; rintro e w' ⟨rfl, rfl⟩))
        go_ret
        exact ⟨rfl, rfl⟩
      · have hp' : p = 32 := hp
        subst hp'
        have HI2 : Hid (Calls Try.prog 6 #[.int .i64 ((n : Int) - 32 + 1)] w fun e w' => e = .returned (.int .i64 (q : Nat)) ∧ w = w') := HIH
        have heq : ((n : Int) == 63) = false := by simp; omega
        have HBN := Lib.hid e
        clear e hp HIH
        go_enter Try.func6, Try.ntmps6
        go_wp2_with (first
          | (go_at_call 10; refine (within_any _ _ _ _).mono ?_; rintro e w' ⟨rfl, rfl⟩; rw [HV.out])
          | (go_at_call 11; refine (Try.bits_Len _ _ (by omega) (by omega)).mono ?_; rintro e w' ⟨rfl, rfl⟩; first | rw [HBL.out] | (rw [show ((n : Int)).toNat = n from rfl, HBL.out]) | skip)
          | (go_at_call 6; refine HI2.out.mono ?_; rintro e w' ⟨rfl, rfl⟩))
        go_ret
        exact ⟨rfl, rfl⟩
      · have hp' : p = 64 := hp
        subst hp'
        have HI2 : Hid (Calls Try.prog 6 #[.int .i64 ((n : Int) - 64 + 1)] w fun e w' => e = .returned (.int .i64 (q : Nat)) ∧ w = w') := HIH
        have heq : ((n : Int) == 127) = false := by simp; omega
        have HBN := Lib.hid e
        clear e hp HIH
        go_enter Try.func6, Try.ntmps6
        go_wp2_with (first
          | (go_at_call 10; refine (within_any _ _ _ _).mono ?_; rintro e w' ⟨rfl, rfl⟩; rw [HV.out])
          | (go_at_call 11; refine (Try.bits_Len _ _ (by omega) (by omega)).mono ?_; rintro e w' ⟨rfl, rfl⟩; first | rw [HBL.out] | (rw [show ((n : Int)).toNat = n from rfl, HBL.out]) | skip)
          | (go_at_call 6; refine HI2.out.mono ?_; rintro e w' ⟨rfl, rfl⟩))
        go_ret
        exact ⟨rfl, rfl⟩
      · have hp' : p = 128 := hp
        subst hp'
        have HI2 : Hid (Calls Try.prog 6 #[.int .i64 ((n : Int) - 128 + 1)] w fun e w' => e = .returned (.int .i64 (q : Nat)) ∧ w = w') := HIH
        have heq : ((n : Int) == 255) = false := by simp; omega
        have HBN := Lib.hid e
        clear e hp HIH
        go_enter Try.func6, Try.ntmps6
        go_wp2_with (first
          | (go_at_call 10; refine (within_any _ _ _ _).mono ?_; rintro e w' ⟨rfl, rfl⟩; rw [HV.out])
          | (go_at_call 11; refine (Try.bits_Len _ _ (by omega) (by omega)).mono ?_; rintro e w' ⟨rfl, rfl⟩; first | rw [HBL.out] | (rw [show ((n : Int)).toNat = n from rfl, HBL.out]) | skip)
          | (go_at_call 6; refine HI2.out.mono ?_; rintro e w' ⟨rfl, rfl⟩))
        go_ret
        exact ⟨rfl, rfl⟩

theorem lub_zero {x : Int} (h : wiB x 1 127 = false) : lubN x = 0 := by
  unfold lubN
  have := wiB_out h
  rw [if_neg (by omega)]
theorem lub_in {n : Nat} (h1 : 1 ≤ n) (h2 : n ≤ 127) : lubN n = (lubP n : Nat) := by
  unfold lubN
  rw [if_pos (by omega)]
  rfl
theorem iLuby_any (x : Int) (w : World) : Calls Try.prog 6 #[.int .i64 x] w fun e w' => e = .returned (.int .i64 (lubN x)) ∧ w = w' := by
  cases hv : wiB x 1 127
  · have HF := Lib.hid (lub_zero hv)
    go_enter Try.func6, Try.ntmps6
    go_wp2_with (go_at_call 10; refine (within_any _ _ _ _).mono ?_; rintro e w' ⟨rfl, rfl⟩; rw [hv])
    go_ret
    exact ⟨ret_intL HF.out.symm, rfl⟩
  · have h := wiB_in hv
    obtain ⟨n, rfl⟩ := Int.eq_ofNat_of_zero_le (show 0 ≤ x by omega)
    rw [lub_in (by omega) (by omega)]
    exact iLuby_in n (by omega) (by omega) w

set_option maxRecDepth 100000 in
set_option maxHeartbeats 4000000 in
theorem sluby_in : ∀ (n : Nat), n ≤ 127 → 1 ≤ n → ∀ w : World, Calls Try.prog 9 #[.int .i64 n] w fun e w' => e = .returned (.int .i64 (lubP n : Nat)) ∧ w = w' := by
  intro n
  induction n using Nat.strongRecOn with
  | _ n ih =>
    intro h127 h1 w
    have HIH := Lib.hid ih
    clear ih
    go_enter Try.func9, Try.ntmps9
    go_wp2
    go_loop [3] (fun q => ∃ s : Nat, q = .int .i64 s ∧ 1 ≤ s ∧ s ≤ 128 ∧ Hid (s ∈ pows) ∧ Hid (s = 1 ∨ s / 2 < n + 1)) (fun q => 129 - (intOf q).toNat)
    case atStart => exact ⟨1, rfl, by omega, by omega, Lib.hid (by simp [pows]), Lib.hid (.inl rfl)⟩
    case round =>
      obtain ⟨s, rfl, hs1, hs2, HP, HH⟩ := hrel
      by_cases hlt : s < n + 1
      · have hlt' : ((s : Int) < (n : Int) + 1) := by omega
        go_wp2
        go_round
        case rel => exact ⟨2 * s, by simp, by omega, by have := pows_le (pows_step HP.out (by omega)); omega, Lib.hid (pows_step HP.out (by omega)), Lib.hid (.inr (by omega))⟩
        case measure => simp [intOf]; omega
      · have hge : ¬ ((s : Int) < (n : Int) + 1) := by omega
        obtain ⟨q1, q2⟩ := lub_s n (by omega) h1 s HP.out (by omega) HH.out
        by_cases e : s = n + 1
        · have HF := Lib.hid (q1 e)
          have heq : ((s : Int) == (n : Int) + 1) = true := by simp; omega
          clear q1 q2 e
          go_wp2
          go_ret
          exact ⟨ret_intL (by rw [HF.out]; omega), rfl⟩
        · obtain ⟨q3, q4, q5, q6⟩ := q2 e
          have HF := Lib.hid q3
          have heq : ((s : Int) == (n : Int) + 1) = false := by simp; omega
          have HC : Hid (Calls Try.prog 9 #[.int .i64 ((n : Int) - (s : Int) / 2 + 1)] w fun e w' => e = .returned (.int .i64 (lubP (n - s / 2 + 1) : Nat)) ∧ w = w') := Lib.hid (by rw [show (n : Int) - (s : Int) / 2 + 1 = ((n - s / 2 + 1 : Nat) : Int) by omega]; exact HIH.out (n - s / 2 + 1) q4 (by omega) (by omega) w)
          clear q1 q2 q3 e
          go_wp2_with (go_at_call 9; refine HC.out.mono ?_; rintro e w' ⟨rfl, rfl⟩)
          go_ret
          exact ⟨ret_intL (by rw [HF.out]), rfl⟩

theorem sLuby_any (x : Int) (w : World) : Calls Try.prog 5 #[.int .i64 x] w fun e w' => e = .returned (.int .i64 (lubN x)) ∧ w = w' := by
  cases hv : wiB x 1 127
  · have HF := Lib.hid (lub_zero hv)
    go_enter Try.func5, Try.ntmps5
    go_wp2_with (go_at_call 8; refine (inRange_any _ _ _ _).mono ?_; rintro e w' ⟨rfl, rfl⟩; rw [hv])
    go_ret
    exact ⟨ret_intL HF.out.symm, rfl⟩
  · have h := wiB_in hv
    obtain ⟨n, rfl⟩ := Int.eq_ofNat_of_zero_le (show 0 ≤ x by omega)
    rw [lub_in (by omega) (by omega)]
    have HC := Lib.hid (sluby_in n (by omega) (by omega) w)
    clear h
    go_enter Try.func5, Try.ntmps5
    go_wp2_with (first | (go_at_call 8; refine (inRange_any _ _ _ _).mono ?_; rintro e w' ⟨rfl, rfl⟩; rw [hv]) | (go_at_call 9; refine HC.out.mono ?_; rintro e w' ⟨rfl, rfl⟩))
    go_ret
    exact ⟨rfl, rfl⟩
end Go.Proofs.Ytfajiaoddcjieab
