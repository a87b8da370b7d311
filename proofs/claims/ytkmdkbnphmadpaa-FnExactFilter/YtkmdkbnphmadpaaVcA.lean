/- Ranges and distinctness of lists, in both packages. -/
import Derived.Test.YtkmdkbnphmadpaaData
import Derived.OwnWalk
namespace Go.Proofs.Ytkmdkbnphmadpaa
open Go.ChangeShapes Go.WideShapes Go.ChangeAt Go.RowKit
set_option linter.unusedVariables false
set_option linter.unusedSimpArgs false

/-- Every number is between lo and hi. -/
def allB (xs : List Int) (lo hi : Int) : Bool := xs.all fun v => wiB v lo hi
theorem allB_true {xs : List Int} {lo hi : Int} (h : ∀ j, j < xs.length → wiB (xs[j]?.getD 0) lo hi = true) : allB xs lo hi = true := by
  unfold allB
  rw [List.all_eq_true]
  intro x hx
  obtain ⟨j, hj, rfl⟩ := List.mem_iff_getElem.1 hx
  simpa [hj] using h j hj
theorem allB_false {xs : List Int} {lo hi : Int} {j : Nat} (hj : j < xs.length) (h : wiB (xs[j]?.getD 0) lo hi = false) : allB xs lo hi = false := by
  unfold allB
  rw [List.all_eq_false]
  refine ⟨xs[j], List.getElem_mem hj, ?_⟩
  simpa [hj] using h
theorem allB_at {xs : List Int} {lo hi : Int} (h : allB xs lo hi = true) {j : Nat} (hj : j < xs.length) : lo ≤ xs[j]?.getD 0 ∧ xs[j]?.getD 0 ≤ hi := by
  unfold allB at h
  rw [List.all_eq_true] at h
  have := wiB_in (h xs[j] (List.getElem_mem hj))
  simpa [hj] using this

set_option maxRecDepth 100000 in
set_option maxHeartbeats 1000000 in
theorem allInRange_any (v : Value) (xs : List Int) (lo hi : Int) (w : World) (h : RdInts w v xs) :
    Calls Try.prog 89 #[v, .int .i64 lo, .int .i64 hi] w fun e w' => e = .returned (.bool (allB xs lo hi)) ∧ w = w' := by
  obtain ⟨a, cap, rfl, hl, hm, h⟩ := h
  obtain ⟨n, hn⟩ : ∃ n, n = xs.length := ⟨_, rfl⟩
  have HN := Lib.hid hn
  rw [← hn] at hl h ⊢
  clear hn
  unfold maxLen at hm
  go_enter Try.func89, Try.ntmps89
  go_wp2
  go_loop [7] (fun i => ∃ k : Nat, k ≤ n ∧ i = .int .i64 k ∧ Hid (∀ j, j < k → wiB (xs[j]?.getD 0) lo hi = true)) (fun i => n - (intOf i).toNat)
  case atStart => exact ⟨0, Nat.zero_le _, rfl, fun j hj => by omega⟩
  case round =>
    obtain ⟨k, hk, rfl, HE⟩ := hrel
    by_cases hlt : k < n
    · rcases h with h | ⟨b, off, rfl, g⟩
      · omega
      have q1 := g k hlt
      clear g
      cases hw : wiB (xs[k]?.getD 0) lo hi
      · have HF := Lib.hid (allB_false (by have := HN.out; omega) hw)
        go_wp2_with (go_at_call 57; refine (inRange_any _ _ _ _).mono ?_; rintro e w' ⟨rfl, rfl⟩)
        go_ret
        exact ⟨ret_bool HF.out.symm, rfl⟩
      · have HX := Lib.hid hw
        go_wp2_with (go_at_call 57; refine (inRange_any _ _ _ _).mono ?_; rintro e w' ⟨rfl, rfl⟩)
        go_round
        case rel => exact ⟨k + 1, by omega, by go_num, fun j hj => by by_cases e : j = k; (· subst e; exact HX.out); (· exact HE.out j (by omega))⟩
        case measure => simp [intOf]; omega
    · obtain rfl : k = n := by omega
      have HF := Lib.hid (allB_true (xs := xs) (lo := lo) (hi := hi) (fun j hj => HE.out j (by have := HN.out; omega)))
      clear h
      go_wp2
      go_ret
      exact ⟨ret_bool HF.out.symm, rfl⟩

set_option maxRecDepth 100000 in
set_option maxHeartbeats 1000000 in
theorem allWithin_any (v : Value) (xs : List Int) (lo hi : Int) (w : World) (h : RdInts w v xs) :
    Calls Try.prog 115 #[v, .int .i64 lo, .int .i64 hi] w fun e w' => e = .returned (.bool (allB xs lo hi)) ∧ w = w' := by
  obtain ⟨a, cap, rfl, hl, hm, h⟩ := h
  obtain ⟨n, hn⟩ : ∃ n, n = xs.length := ⟨_, rfl⟩
  have HN := Lib.hid hn
  rw [← hn] at hl h ⊢
  clear hn
  unfold maxLen at hm
  go_enter Try.func115, Try.ntmps115
  go_wp2
  go_loop [11] (fun i => ∃ k : Nat, k ≤ n ∧ i = .int .i64 k ∧ Hid (∀ j, j < k → wiB (xs[j]?.getD 0) lo hi = true)) (fun i => n - (intOf i).toNat)
  case atStart => exact ⟨0, Nat.zero_le _, rfl, fun j hj => by omega⟩
  case round =>
    obtain ⟨k, hk, rfl, HE⟩ := hrel
    by_cases hlt : k < n
    · rcases h with h | ⟨b, off, rfl, g⟩
      · omega
      have q1 := g k hlt
      clear g
      cases hw : wiB (xs[k]?.getD 0) lo hi
      · have HF := Lib.hid (allB_false (by have := HN.out; omega) hw)
        go_wp2_with (go_at_call 60; refine (within_any _ _ _ _).mono ?_; rintro e w' ⟨rfl, rfl⟩)
        go_ret
        exact ⟨ret_bool HF.out.symm, rfl⟩
      · have HX := Lib.hid hw
        go_wp2_with (go_at_call 60; refine (within_any _ _ _ _).mono ?_; rintro e w' ⟨rfl, rfl⟩)
        go_round
        case rel => exact ⟨k + 1, by omega, by go_num, fun j hj => by by_cases e : j = k; (· subst e; exact HX.out); (· exact HE.out j (by omega))⟩
        case measure => simp [intOf]; omega
    · obtain rfl : k = n := by omega
      have HF := Lib.hid (allB_true (xs := xs) (lo := lo) (hi := hi) (fun j hj => HE.out j (by have := HN.out; omega)))
      clear h
      go_wp2
      go_ret
      exact ⟨ret_bool HF.out.symm, rfl⟩

/-- No number occurs twice. -/
def dstB (xs : List Int) : Bool := decide (∀ i, i < xs.length → ∀ k, k < i → xs[i]?.getD 0 ≠ xs[k]?.getD 0)

/-- What distinct leaves. -/
def DstPost (xs : List Int) (w : World) (e : Ending) (w' : World) : Prop := e = .returned (.bool (dstB xs)) ∧ ∃ k, w' = w.drewN k

set_option maxRecDepth 100000 in
set_option maxHeartbeats 1000000 in
theorem distinct_any (v : Value) (xs : List Int) (w : World) (h : RdInts w v xs) :
    Calls Try.prog 112 #[v] w (DstPost xs w) := by
  obtain ⟨a, cap, rfl, hl, hm, h⟩ := h
  obtain ⟨n, hn⟩ : ∃ n, n = xs.length := ⟨_, rfl⟩
  have HN := Lib.hid hn
  rw [← hn] at hl h ⊢
  clear hn
  unfold maxLen at hm
  go_enter Try.func112, Try.ntmps112
  go_wp2
  go_loopw [3] (fun i wr => ∃ k nq : Nat, k ≤ n ∧ i = .int .i64 k ∧ Hid (∀ i, i < k → ∀ j, j < i → xs[i]?.getD 0 ≠ xs[j]?.getD 0) ∧ wr = w.drewN nq) (fun i _ => n - (intOf i).toNat)
  case atStart => exact ⟨0, 0, Nat.zero_le _, rfl, fun j hj => by omega, rfl⟩
  case round =>
    obtain ⟨k, nq, hk, rfl, HE, rfl⟩ := hrel
    by_cases hlt : k < n
    · rcases h with h | ⟨b, off, rfl, g⟩
      · omega
      have q1 := g k hlt
      have HG := Lib.hid g
      clear g
      go_wp2
      go_loopw [4] (fun i wr => ∃ m nq : Nat, m ≤ k ∧ i = .int .i64 m ∧ Hid (∀ j, j < m → xs[k]?.getD 0 ≠ xs[j]?.getD 0) ∧ wr = w.drewN nq) (fun i _ => k - (intOf i).toNat)
      case atStart => exact ⟨0, nq, Nat.zero_le _, rfl, fun j hj => by omega, rfl⟩
      case round =>
        obtain ⟨m, nq2, hmk, rfl, HI, rfl⟩ := hrel
        by_cases hlt2 : m < k
        · have q2 := HG.out m (by omega)
          by_cases he : xs[k]?.getD 0 = xs[m]?.getD 0
          · have hb : (xs[k]?.getD 0 == xs[m]?.getD 0) = true := by simp [he]
            have HF := Lib.hid (show dstB xs = false from decide_eq_false (fun e => e k (by have := HN.out; omega) m hlt2 he))
            clear he
            go_wp2_with fail
            go_quiet (fail)
            go_wp2
            go_ret
            refine ⟨ret_bool HF.out.symm, ?_⟩
            rw [World.drewN_drewN]
            exact ⟨_, rfl⟩
          · have hb : (xs[k]?.getD 0 == xs[m]?.getD 0) = false := by simp [he]
            have HX := Lib.hid he
            clear he
            go_wp2_with fail
            go_quiet (fail)
            go_wp2
            go_roundw
            case rel => exact ⟨m + 1, _, by omega, by go_num, fun j hj => by by_cases e : j = m; (· subst e; exact HX.out); (· exact HI.out j (by omega)), rfl⟩
            case measure => simp [intOf]; omega
        · obtain rfl : m = k := by omega
          go_wp2
          go_roundw
          case rel => exact ⟨m + 1, _, by omega, by go_num, fun i hi => by by_cases e : i = m; (· subst e; exact HI.out); (· exact HE.out i (by omega)), rfl⟩
          case measure => simp [intOf]; omega
    · obtain rfl : k = n := by omega
      have HF := Lib.hid (show dstB xs = true from decide_eq_true (fun i hi => HE.out i (by have := HN.out; omega)))
      clear h
      go_wp2
      go_ret
      exact ⟨ret_bool HF.out.symm, _, rfl⟩
end Go.Proofs.Ytkmdkbnphmadpaa
