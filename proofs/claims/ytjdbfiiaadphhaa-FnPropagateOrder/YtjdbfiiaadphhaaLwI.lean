/- The laws' own helpers on lists of numbers: equalInts, isSubset. -/
import Derived.Test.YtjdbfiiaadphhaaSolA
namespace Go.Proofs.Ytjdbfiiaadphhaa
open Go.ChangeShapes Go.WideShapes Go.ChangeAt Go.RowKit
set_option linter.unusedVariables false
set_option linter.unusedSimpArgs false

theorem ne_at {a b : List Int} {k : Nat} (h : ¬ a[k]?.getD 0 = b[k]?.getD 0) : ¬ a = b := fun e => h (by rw [e])
theorem eq_all {a b : List Int} (hl : a.length = b.length) (h : ∀ i, i < a.length → a[i]?.getD 0 = b[i]?.getD 0) : a = b := by
  refine List.ext_getElem hl (fun i h1 h2 => ?_)
  have := h i h1
  rw [List.getElem?_eq_getElem h1, List.getElem?_eq_getElem h2] at this
  exact this
set_option maxRecDepth 100000 in
set_option maxHeartbeats 4000000 in
theorem equalInts_any (av bv : Value) (a b : List Int) (w : World) (ha : RdInts w av a) (hb : RdInts w bv b) :
    Calls Try.prog 55 #[av, bv] w fun e w' => e = .returned (.bool (decide (a = b))) ∧ Below w.heap.size w w' := by
  obtain ⟨aa, ca, ea, -⟩ := id ha
  obtain ⟨ab, cb, eb, -⟩ := id hb
  rw [ea] at ha ⊢
  rw [eb] at hb ⊢
  by_cases hl : a.length = b.length
  · have HA := Lib.hid ha
    have HB := Lib.hid hb
    have hca := (rdInts_cap ha).2
    have hcb := (rdInts_cap hb).2
    have HL := Lib.hid hl
    obtain ⟨n, hn⟩ : ∃ n, n = a.length := ⟨_, rfl⟩
    have HN := Lib.hid hn
    rw [← hl] at HB hcb ⊢
    rw [← hn] at HA HB hca hcb ⊢
    clear ha hb ea eb hl hn
    have hd0 : ((n : Int) != (n : Int)) = false := by simp
    go_enter Try.func55, Try.ntmps55
    go_wp2
    go_loopw [5] (fun i wr => ∃ k nq : Nat, k ≤ n ∧ i = .int .i64 k ∧ Hid (∀ j, j < k → a[j]?.getD 0 = b[j]?.getD 0) ∧ wr = w.drewN nq) (fun i _ => n - (intOf i).toNat)
    case atStart => exact ⟨0, 0, Nat.zero_le _, rfl, Lib.hid (fun j hj => by omega), rfl⟩
    case round =>
      obtain ⟨k, nq, hk, rfl, HS, rfl⟩ := hrel
      by_cases hlt : k < n
      · obtain ⟨b1, o1, rfl, q1⟩ := rdInts_at HA.out hlt
        obtain ⟨b2, o2, rfl, q2⟩ := rdInts_at HB.out hlt
        by_cases he : a[k]?.getD 0 = b[k]?.getD 0
        · have HS2 : Hid (∀ j, j < k + 1 → a[j]?.getD 0 = b[j]?.getD 0) := Lib.hid (fun j hj => by by_cases e : j = k; (· subst e; exact he); (· exact HS.out j (by omega)))
          have hd : (a[k]?.getD 0 != b[k]?.getD 0) = false := by rw [he]; simp
          generalize a[k]?.getD 0 = u1 at q1 hd
          generalize b[k]?.getD 0 = u2 at q2 hd
          clear he
          go_wp2_with fail
          go_quiet (fail)
          go_wp2
          go_roundw
          case rel => exact ⟨k + 1, _, by omega, by go_num, HS2, rfl⟩
          case measure => simp [intOf]; omega
        · have HF : Hid (decide (a = b) = false) := Lib.hid (decide_eq_false (ne_at he))
          have hd : (a[k]?.getD 0 != b[k]?.getD 0) = true := by simp [he]
          generalize a[k]?.getD 0 = u1 at q1 hd
          generalize b[k]?.getD 0 = u2 at q2 hd
          clear he
          go_wp2_with fail
          go_quiet (fail)
          go_wp2
          go_ret
          exact ⟨ret_bool HF.out.symm, below_drewN' (below_drewN' (Below.refl _ _) _) _⟩
      · obtain rfl : n = k := by omega
        have HF : Hid (decide (a = b) = true) := Lib.hid (decide_eq_true (eq_all HL.out (fun i hi => HS.out i (by rw [HN.out]; exact hi))))
        go_wp2
        go_ret
        exact ⟨ret_bool HF.out.symm, below_drewN' (Below.refl _ _) _⟩
  · have hd : ((a.length : Int) != (b.length : Int)) = true := by simp; omega
    have HF : Hid (decide (a = b) = false) := Lib.hid (decide_eq_false (fun e => hl (by rw [e])))
    clear hl ea eb
    go_enter Try.func55, Try.ntmps55
    go_wp2
    go_ret
    exact ⟨ret_bool HF.out.symm, Below.refl _ _⟩

/-- The law's test of domains within domains. -/
def subB (a b : List Int) : Bool := decide (a.length = b.length) && (List.range a.length).all fun i => decide (bits .and .i64 (a[i]?.getD 0) (b[i]?.getD 0) = a[i]?.getD 0)
theorem subB_of {a b : List Int} (hl : a.length = b.length) (h : ∀ i, i < a.length → bits .and .i64 (a[i]?.getD 0) (b[i]?.getD 0) = a[i]?.getD 0) : subB a b = true := by
  unfold subB
  rw [decide_eq_true hl, Bool.true_and, List.all_eq_true]
  intro i hi
  exact decide_eq_true (h i (List.mem_range.1 hi))
theorem subB_not {a b : List Int} {k : Nat} (hk : k < a.length) (h : ¬ bits .and .i64 (a[k]?.getD 0) (b[k]?.getD 0) = a[k]?.getD 0) : subB a b = false := by
  unfold subB
  have : ((List.range a.length).all fun i => decide (bits .and .i64 (a[i]?.getD 0) (b[i]?.getD 0) = a[i]?.getD 0)) = false := by
    rw [List.all_eq_false]
    exact ⟨k, List.mem_range.2 hk, by simp [h]⟩
  rw [this, Bool.and_false]
set_option maxRecDepth 100000 in
set_option maxHeartbeats 4000000 in
theorem isSubset_any (av bv : Value) (a b : List Int) (w : World) (ha : RdInts w av a) (hb : RdInts w bv b) :
    Calls Try.prog 57 #[av, bv] w fun e w' => e = .returned (.bool (subB a b)) ∧ Below w.heap.size w w' := by
  obtain ⟨aa, ca, ea, -⟩ := id ha
  obtain ⟨ab, cb, eb, -⟩ := id hb
  rw [ea] at ha ⊢
  rw [eb] at hb ⊢
  by_cases hl : a.length = b.length
  · have HA := Lib.hid ha
    have HB := Lib.hid hb
    have hca := (rdInts_cap ha).2
    have hcb := (rdInts_cap hb).2
    have HL := Lib.hid hl
    obtain ⟨n, hn⟩ : ∃ n, n = a.length := ⟨_, rfl⟩
    have HN := Lib.hid hn
    rw [← hl] at HB hcb ⊢
    rw [← hn] at HA HB hca hcb ⊢
    clear ha hb ea eb hl hn
    have hd0 : ((n : Int) != (n : Int)) = false := by simp
    go_enter Try.func57, Try.ntmps57
    go_wp2
    go_loopw [5] (fun i wr => ∃ k nq : Nat, k ≤ n ∧ i = .int .i64 k ∧ Hid (∀ j, j < k → bits .and .i64 (a[j]?.getD 0) (b[j]?.getD 0) = a[j]?.getD 0) ∧ wr = w.drewN nq) (fun i _ => n - (intOf i).toNat)
    case atStart => exact ⟨0, 0, Nat.zero_le _, rfl, Lib.hid (fun j hj => by omega), rfl⟩
    case round =>
      obtain ⟨k, nq, hk, rfl, HS, rfl⟩ := hrel
      by_cases hlt : k < n
      · obtain ⟨b1, o1, rfl, q1⟩ := rdInts_at HA.out hlt
        obtain ⟨b2, o2, rfl, q2⟩ := rdInts_at HB.out hlt
        by_cases he : bits .and .i64 (a[k]?.getD 0) (b[k]?.getD 0) = a[k]?.getD 0
        · have HS2 : Hid (∀ j, j < k + 1 → bits .and .i64 (a[j]?.getD 0) (b[j]?.getD 0) = a[j]?.getD 0) := Lib.hid (fun j hj => by by_cases e : j = k; (· subst e; exact he); (· exact HS.out j (by omega)))
          have hd : (bits .and .i64 (a[k]?.getD 0) (b[k]?.getD 0) != a[k]?.getD 0) = false := by rw [he]; simp
          generalize a[k]?.getD 0 = u1 at q1 hd
          generalize b[k]?.getD 0 = u2 at q2 hd
          clear he
          go_wp2_with fail
          go_quiet (fail)
          go_wp2
          go_roundw
          case rel => exact ⟨k + 1, _, by omega, by go_num, HS2, rfl⟩
          case measure => simp [intOf]; omega
        · have HF : Hid (subB a b = false) := Lib.hid (subB_not (by rw [← HN.out]; exact hlt) he)
          have hd : (bits .and .i64 (a[k]?.getD 0) (b[k]?.getD 0) != a[k]?.getD 0) = true := by simp [he]
          generalize a[k]?.getD 0 = u1 at q1 hd
          generalize b[k]?.getD 0 = u2 at q2 hd
          clear he
          go_wp2_with fail
          go_quiet (fail)
          go_wp2
          go_ret
          exact ⟨ret_bool HF.out.symm, below_drewN' (below_drewN' (Below.refl _ _) _) _⟩
      · obtain rfl : n = k := by omega
        have HF : Hid (subB a b = true) := Lib.hid (subB_of HL.out (fun i hi => HS.out i (by rw [HN.out]; exact hi)))
        go_wp2
        go_ret
        exact ⟨ret_bool HF.out.symm, below_drewN' (Below.refl _ _) _⟩
  · have hd : ((a.length : Int) != (b.length : Int)) = true := by simp; omega
    have HF : Hid (subB a b = false) := Lib.hid (by unfold subB; rw [decide_eq_false hl]; rfl)
    clear hl ea eb
    go_enter Try.func57, Try.ntmps57
    go_wp2
    go_ret
    exact ⟨ret_bool HF.out.symm, Below.refl _ _⟩
end Go.Proofs.Ytjdbfiiaadphhaa
