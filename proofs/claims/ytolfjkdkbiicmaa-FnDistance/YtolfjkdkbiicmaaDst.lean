/- Distance, in both packages. -/
import Derived.Test.YtolfjkdkbiicmaaSolA
namespace Go.Proofs.Ytolfjkdkbiicmaa
open Go.ChangeShapes Go.WideShapes Go.ChangeAt Go.RowKit
set_option linter.unusedVariables false
set_option linter.unusedSimpArgs false

/-- At how many of the first n places two lists differ. -/
def dstN (a b : List Int) : Nat → Nat
  | 0 => 0
  | n + 1 => dstN a b n + (if a[n]?.getD 0 = b[n]?.getD 0 then 0 else 1)
/-- The answer of both packages. -/
def dstL (a b : List Int) : Int := if a.length = b.length then (dstN a b a.length : Int) else -1
theorem dstN_le (a b : List Int) : ∀ n, dstN a b n ≤ n
  | 0 => Nat.le_refl _
  | n + 1 => by have := dstN_le a b n; unfold dstN; split <;> omega
theorem dstN_comm (a b : List Int) : ∀ n, dstN a b n = dstN b a n
  | 0 => rfl
  | n + 1 => by unfold dstN; rw [dstN_comm a b n]; split <;> split <;> omega
theorem dstN_tri (a b c : List Int) : ∀ n, dstN a b n ≤ dstN a c n + dstN c b n
  | 0 => Nat.zero_le _
  | n + 1 => by have := dstN_tri a b c n; unfold dstN; split <;> split <;> split <;> omega
theorem dstN_zero {a b : List Int} : ∀ {n}, dstN a b n = 0 → ∀ i, i < n → a[i]?.getD 0 = b[i]?.getD 0
  | 0, _, i, h => by omega
  | n + 1, h, i, hi => by
    unfold dstN at h
    split at h
    · rename_i he
      by_cases e : i = n
      · subst e; exact he
      · exact dstN_zero (by omega) i (by omega)
    · omega
theorem dstN_same (a : List Int) : ∀ n, dstN a a n = 0
  | 0 => rfl
  | n + 1 => by unfold dstN; rw [dstN_same a n, if_pos rfl]
theorem eq_of_dst {a b : List Int} (hl : a.length = b.length) (h : dstN a b a.length = 0) : a = b := by
  refine List.ext_getElem hl (fun i h1 h2 => ?_)
  have := dstN_zero h i h1
  rw [List.getElem?_eq_getElem h1, List.getElem?_eq_getElem h2] at this
  exact this
theorem dst_iff {a b : List Int} (hl : a.length = b.length) : decide ((dstN a b a.length : Int) = 0) = decide (a = b) := by
  by_cases h : a = b
  · subst h; simp [dstN_same]
  · have : dstN a b a.length ≠ 0 := fun h0 => h (eq_of_dst hl h0)
    simp [h]; omega
theorem dstN_step_same {a b : List Int} {k : Nat} (h : a[k]?.getD 0 = b[k]?.getD 0) : dstN a b (k + 1) = dstN a b k := by
  rw [show dstN a b (k + 1) = dstN a b k + (if a[k]?.getD 0 = b[k]?.getD 0 then 0 else 1) from rfl, if_pos h, Nat.add_zero]
theorem dstN_step_other {a b : List Int} {k : Nat} (h : ¬ a[k]?.getD 0 = b[k]?.getD 0) : dstN a b (k + 1) = dstN a b k + 1 := by
  rw [show dstN a b (k + 1) = dstN a b k + (if a[k]?.getD 0 = b[k]?.getD 0 then 0 else 1) from rfl, if_neg h]
theorem dst_no {a b : List Int} (h : ¬ a.length = b.length) : dstL a b = -1 := if_neg h
theorem dst_ok {a b : List Int} (h : a.length = b.length) : dstL a b = (dstN a b a.length : Int) := if_pos h
def DisPost (v : Int) (w : World) : Ending → World → Prop := fun e w' => e = .returned (.int .i64 v) ∧ Below w.heap.size w w'

set_option maxRecDepth 100000 in
set_option maxHeartbeats 4000000 in
theorem sdistance_any (av bv : Value) (a b : List Int) (w : World) (ha : RdInts w av a) (hb : RdInts w bv b) (hl : a.length = b.length) :
    Calls Try.prog 107 #[av, bv] w (DisPost (dstN a b a.length) w) := by
  unfold DisPost
  obtain ⟨aa, ca, ea, -⟩ := id ha
  obtain ⟨ab, cb, eb, -⟩ := id hb
  rw [ea] at ha ⊢
  rw [eb] at hb ⊢
  have HA := Lib.hid ha
  have HB := Lib.hid hb
  have hca := (rdInts_cap ha).2
  have hcb := (rdInts_cap hb).2
  obtain ⟨n, hn⟩ : ∃ n, n = a.length := ⟨_, rfl⟩
  rw [← hl] at HB hcb ⊢
  rw [← hn] at HA HB hca hcb ⊢
  clear ha hb ea eb hl hn
  go_enter Try.func107, Try.ntmps107
  go_wp2
  go_loopw [5, 6] (fun s i wr => ∃ k nq : Nat, k ≤ n ∧ i = .int .i64 k ∧ s = .int .i64 (dstN a b k : Nat) ∧ wr = w.drewN nq) (fun _ i _ => n - (intOf i).toNat)
  case atStart => exact ⟨0, 0, Nat.zero_le _, rfl, rfl, rfl⟩
  case round =>
    obtain ⟨k, nq, hk, rfl, rfl, rfl⟩ := hrel
    have hdk := dstN_le a b k
    by_cases hlt : k < n
    · obtain ⟨b1, o1, rfl, q1⟩ := rdInts_at HA.out hlt
      obtain ⟨b2, o2, rfl, q2⟩ := rdInts_at HB.out hlt
      by_cases he : a[k]?.getD 0 = b[k]?.getD 0
      · have HS := Lib.hid (dstN_step_same he)
        have hd : (a[k]?.getD 0 != b[k]?.getD 0) = false := by rw [he]; simp
        generalize a[k]?.getD 0 = u1 at q1 hd
        generalize b[k]?.getD 0 = u2 at q2 hd
        clear he
        go_wp2_with fail
        go_quiet (fail)
        go_wp2
        go_roundw
        case rel => exact ⟨k + 1, _, by omega, by go_num, by rw [HS.out], rfl⟩
        case measure => simp [intOf]; omega
      · have HS := Lib.hid (dstN_step_other he)
        have hd : (a[k]?.getD 0 != b[k]?.getD 0) = true := by simp [he]
        generalize a[k]?.getD 0 = u1 at q1 hd
        generalize b[k]?.getD 0 = u2 at q2 hd
        clear he
        go_wp2_with fail
        go_quiet (fail)
        go_wp2
        go_roundw
        case rel => exact ⟨k + 1, _, by omega, by go_num, by rw [HS.out]; rfl, rfl⟩
        case measure => simp [intOf]; omega
    · obtain rfl : k = n := by omega
      go_wp2
      go_ret
      exact ⟨rfl, below_drewN' (Below.refl _ _) _⟩

set_option maxRecDepth 100000 in
set_option maxHeartbeats 4000000 in
theorem sDst_any (av bv : Value) (a b : List Int) (w : World) (ha : RdInts w av a) (hb : RdInts w bv b) :
    Calls Try.prog 41 #[av, bv] w (DisPost (dstL a b) w) := by
  unfold DisPost
  obtain ⟨aa, ca, ea, -⟩ := id ha
  obtain ⟨ab, cb, eb, -⟩ := id hb
  rw [ea] at ha ⊢
  rw [eb] at hb ⊢
  by_cases hl : a.length = b.length
  · have HV := Lib.hid (sdistance_any _ _ a b w ha hb hl)
    rw [dst_ok hl]
    have hd : ((a.length : Int) != (b.length : Int)) = false := by simp [hl]
    obtain ⟨n, hn⟩ : ∃ n, n = a.length := ⟨_, rfl⟩
    obtain ⟨m, hm⟩ : ∃ m, m = b.length := ⟨_, rfl⟩
    rw [← hn] at HV hd ⊢
    rw [← hm] at HV hd ⊢
    clear ha hb ea eb hl hn hm
    go_enter Try.func41, Try.ntmps41
    go_wp2_with fail
    refine HV.out.mono ?_
    rintro e w' ⟨rfl, b⟩
    go_wp2
    go_ret
    exact ⟨rfl, b⟩
  · have hd : ((a.length : Int) != (b.length : Int)) = true := by simp; omega
    rw [dst_no hl]
    generalize a.length = n at hd ⊢
    generalize b.length = m at hd ⊢
    clear hl ea eb ha hb
    go_enter Try.func41, Try.ntmps41
    go_wp2
    go_ret
    exact ⟨rfl, Below.refl _ _⟩

set_option maxRecDepth 100000 in
set_option maxHeartbeats 4000000 in
theorem iDst_any (av bv : Value) (a b : List Int) (w : World) (ha : RdInts w av a) (hb : RdInts w bv b) :
    Calls Try.prog 40 #[av, bv] w (DisPost (dstL a b) w) := by
  unfold DisPost
  obtain ⟨aa, ca, ea, -⟩ := id ha
  obtain ⟨ab, cb, eb, -⟩ := id hb
  rw [ea] at ha ⊢
  rw [eb] at hb ⊢
  by_cases hl : a.length = b.length
  · rw [dst_ok hl]
    have HA := Lib.hid ha
    have HB := Lib.hid hb
    have hca := (rdInts_cap ha).2
    have hcb := (rdInts_cap hb).2
    obtain ⟨n, hn⟩ : ∃ n, n = a.length := ⟨_, rfl⟩
    rw [← hl] at HB hcb ⊢
    rw [← hn] at HA HB hca hcb ⊢
    clear ha hb ea eb hl hn
    have hd0 : ((n : Int) != (n : Int)) = false := by simp
    go_enter Try.func40, Try.ntmps40
    go_wp2
    go_loop [5, 15] (fun s i => ∃ k : Nat, k ≤ n ∧ i = .int .i64 k ∧ s = .int .i64 (dstN a b k : Nat)) (fun _ i => n - (intOf i).toNat)
    case atStart => exact ⟨0, Nat.zero_le _, rfl, rfl⟩
    case round =>
      obtain ⟨k, hk, rfl, rfl⟩ := hrel
      have hdk := dstN_le a b k
      by_cases hlt : k < n
      · obtain ⟨b1, o1, rfl, q1⟩ := rdInts_at HA.out hlt
        obtain ⟨b2, o2, rfl, q2⟩ := rdInts_at HB.out hlt
        by_cases he : a[k]?.getD 0 = b[k]?.getD 0
        · have HS := Lib.hid (dstN_step_same he)
          have hd : (a[k]?.getD 0 != b[k]?.getD 0) = false := by rw [he]; simp
          generalize a[k]?.getD 0 = u1 at q1 hd
          generalize b[k]?.getD 0 = u2 at q2 hd
          clear he
          go_wp2
          go_round
          case rel => exact ⟨k + 1, by omega, by go_num, by rw [HS.out]⟩
          case measure => simp [intOf]; omega
        · have HS := Lib.hid (dstN_step_other he)
          have hd : (a[k]?.getD 0 != b[k]?.getD 0) = true := by simp [he]
          generalize a[k]?.getD 0 = u1 at q1 hd
          generalize b[k]?.getD 0 = u2 at q2 hd
          clear he
          go_wp2
          go_round
          case rel => exact ⟨k + 1, by omega, by go_num, by rw [HS.out]; rfl⟩
          case measure => simp [intOf]; omega
      · obtain rfl : k = n := by omega
        go_wp2
        go_ret
        exact ⟨rfl, Below.refl _ _⟩
  · have hd : ((a.length : Int) != (b.length : Int)) = true := by simp; omega
    rw [dst_no hl]
    generalize a.length = n at hd ⊢
    generalize b.length = m at hd ⊢
    clear hl ea eb ha hb
    go_enter Try.func40, Try.ntmps40
    go_wp2
    go_ret
    exact ⟨rfl, Below.refl _ _⟩
end Go.Proofs.Ytolfjkdkbiicmaa
