/- The laws of Luby. -/
import Derived.Test.YtfajiaoddcjieabLub
import Derived.Test.YtfajiaoddcjieabPick
import Derived.Below
namespace Go.Proofs.Ytfajiaoddcjieab
open Go.ChangeShapes Go.WideShapes Go.ChangeAt Go.RowKit
set_option linter.unusedVariables false
set_option linter.unusedSimpArgs false

theorem ret_boolL {a b : Bool} (h : a = b) : Ending.returned (.bool a) = .returned (.bool b) := by rw [h]
set_option maxRecDepth 100000 in
theorem law_lub (x : Int) (w : World) : Calls Try.prog 3 #[.int .i64 x] w fun e w' => e = .returned (.bool true) ∧ Below w.heap.size w w' := by
  obtain ⟨z, hz⟩ : ∃ z, z = lubN x := ⟨_, rfl⟩
  have HS := Lib.hid (sLuby_any x w)
  have HI := Lib.hid (iLuby_any x w)
  rw [← hz] at HS HI
  have hne : (z != z) = false := by simp
  clear hz
  go_enter Try.func3, Try.ntmps3
  go_wp2_with (first | (go_at_call 5; refine HS.out.mono ?_; rintro e w' ⟨rfl, rfl⟩) | (go_at_call 6; refine HI.out.mono ?_; rintro e w' ⟨rfl, rfl⟩))
  go_ret
  exact ⟨rfl, Below.refl _ _⟩

theorem lub_law (n : Nat) (h1 : n < 128) (h2 : 1 ≤ n) (s : Nat) (hs : s ∈ pows) (h3 : s ≤ n + 1) (h4 : n + 1 < 2 * s) : (n + 1 = s → lubP n = s / 2) ∧ (n + 1 ≠ s → lubP n = lubP (n - s + 1) ∧ 1 ≤ n - s + 1) := by
  have : ∀ s ∈ pows, ∀ n : Nat, n < 128 → (1 ≤ n ∧ s ≤ n + 1 ∧ n + 1 < 2 * s) → (n + 1 = s → lubP n = s / 2) ∧ (n + 1 ≠ s → lubP n = lubP (n - s + 1) ∧ 1 ≤ n - s + 1) := by decide +kernel
  exact this s hs n h1 ⟨h2, h3, h4⟩

set_option maxRecDepth 100000 in
set_option maxHeartbeats 1000000 in
theorem drawLuby_any (n0 : Nat) (a : Option Addr) (len cap : Nat) (w : World) (hn : n0 ≤ w.heap.size) (h : CodeOk n0 w a len cap) :
    Calls Try.prog 7 #[.slice a len cap] w fun e w' => ∃ x : Int, e = .returned (.int .i64 x) ∧ -1 ≤ x ∧ x ≤ 130 ∧ Below w.heap.size w w' := by
  go_enter Try.func7, Try.ntmps7
  go_wp2_with fail
  refine (newReader_any n0 a len cap w hn h).mono ?_
  rintro e w1 ⟨rfl, hr, hb, hz⟩
  have HZ := Lib.hid hz
  clear hz h
  go_wp2_with fail
  refine (rpick_any n0 w.heap.size 0 131 w1 hr (by omega) (by omega) (by omega)).mono ?_
  rintro e w2 ⟨x, k, rfl, hx0, hx1, hw2⟩
  have hb2 : Below w.heap.size w w2 := hb.trans (by rw [hw2]; exact below_picked (Nat.le_refl _) k)
  clear hw2
  go_wp2
  go_ret
  exact ⟨_, rfl, by omega, by omega, hb2⟩

set_option maxRecDepth 100000 in
set_option maxHeartbeats 4000000 in
theorem law_flub (a : Option Addr) (len cap : Nat) (w : World) (h : CodeOk w.heap.size w a len cap) :
    Calls Try.prog 4 #[.slice a len cap] w fun e w' => e = .returned (.bool true) ∧ Below w.heap.size w w' := by
  have hl0 := h.1
  have hm0 := h.2.1
  unfold maxLen at hm0
  have HK := Lib.hid h
  clear h
  by_cases hbig : 1048576 < len
  · go_enter Try.func4, Try.ntmps4
    go_wp2
    go_ret
    exact ⟨rfl, Below.refl _ _⟩
  go_enter Try.func4, Try.ntmps4
  go_wp2_with fail
  refine (drawLuby_any w.heap.size a len cap w (Nat.le_refl _) HK.out).mono ?_
  rintro e w1 ⟨x, rfl, hx1, hx2, b1⟩
  have HB := Lib.hid b1
  clear b1
  obtain ⟨z, hz⟩ : ∃ z, z = lubN x := ⟨_, rfl⟩
  have HZ := Lib.hid hz
  have HS := Lib.hid (sLuby_any x w1)
  have HI := Lib.hid (iLuby_any x w1)
  rw [← hz] at HS HI
  have hne : (z != z) = false := by simp
  have heq : (z == z) = true := by simp
  clear hz
  by_cases h1 : x < 1
  · go_wp2_with (first | (go_at_call 5; refine HS.out.mono ?_; rintro e w' ⟨rfl, rfl⟩) | (go_at_call 6; refine HI.out.mono ?_; rintro e w' ⟨rfl, rfl⟩))
    go_ret
    exact ⟨rfl, HB.out⟩
  by_cases h2 : x > 127
  · go_wp2_with (first | (go_at_call 5; refine HS.out.mono ?_; rintro e w' ⟨rfl, rfl⟩) | (go_at_call 6; refine HI.out.mono ?_; rintro e w' ⟨rfl, rfl⟩))
    go_ret
    exact ⟨rfl, HB.out⟩
  obtain ⟨n, rfl⟩ := Int.eq_ofNat_of_zero_le (show 0 ≤ x by omega)
  have HN : Hid (z = (lubP n : Nat)) := Lib.hid (by rw [HZ.out, lub_in (by omega) (by omega)])
  have hn1 : 1 ≤ n := by omega
  have hn2 : n ≤ 127 := by omega
  clear hx1 hx2
  go_wp2_with (first | (go_at_call 5; refine HS.out.mono ?_; rintro e w' ⟨rfl, rfl⟩) | (go_at_call 6; refine HI.out.mono ?_; rintro e w' ⟨rfl, rfl⟩))
  go_loop [5] (fun q => ∃ s : Nat, q = .int .i64 s ∧ 1 ≤ s ∧ s ≤ 128 ∧ s ≤ n + 1 ∧ Hid (s ∈ pows)) (fun q => 129 - (intOf q).toNat)
  case atStart => exact ⟨1, rfl, by omega, by omega, by omega, Lib.hid (by simp [pows])⟩
  case round =>
    obtain ⟨s, rfl, hs1, hs2, hs3, HP⟩ := hrel
    by_cases hlt : 2 * s ≤ n + 1
    · have hlt' : (2 * (s : Int) - 1 ≤ (n : Int)) := by omega
      go_wp2
      go_round
      case rel => exact ⟨2 * s, by simp, by omega, by have := pows_le (pows_step HP.out (by omega)); omega, by omega, Lib.hid (pows_step HP.out (by omega))⟩
      case measure => simp [intOf]; omega
    · have hge : ¬ (2 * (s : Int) - 1 ≤ (n : Int)) := by omega
      obtain ⟨q1, q2⟩ := lub_law n (by omega) hn1 s HP.out (by omega) (by omega)
      by_cases e : n + 1 = s
      · have hq : (z == (s : Int) / 2) = true := by rw [HN.out, q1 e]; simp
        have hcmp : ((n : Int) == (s : Int) - 1) = true := by simp; omega
        clear q1 q2 e
        go_wp2
        go_ret
        exact ⟨rfl, HB.out⟩
      · obtain ⟨q3, q4⟩ := q2 e
        have hcmp : ((n : Int) == (s : Int) - 1) = false := by simp; omega
        have HC : Hid (Calls Try.prog 6 #[.int .i64 ((n : Int) - (s : Int) + 1)] w1 fun e w' => e = .returned (.int .i64 z) ∧ w1 = w') := Lib.hid (by
          rw [HN.out, q3, ← lub_in q4 (by omega), show (n : Int) - (s : Int) + 1 = ((n - s + 1 : Nat) : Int) by omega]
          exact iLuby_any _ w1)
        clear q1 q2 q3 e
        go_wp2_with (go_at_call 6; refine HC.out.mono ?_; rintro e w' ⟨rfl, rfl⟩)
        go_ret
        exact ⟨rfl, HB.out⟩
end Go.Proofs.Ytfajiaoddcjieab
