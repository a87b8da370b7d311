/- The value of an objective, in both packages, and its law. -/
import Derived.Test.YtkmdkbnphmadpaaSatI
import Derived.Test.YtkmdkbnphmadpaaSolA
import Derived.Test.YtkmdkbnphmadpaaToE
namespace Go.Proofs.Ytkmdkbnphmadpaa
open Go.ChangeShapes Go.WideShapes Go.ChangeAt Go.RowKit
set_option linter.unusedVariables false
set_option linter.unusedSimpArgs false

/-- The value that both packages return. -/
def objL (o x : List Int) : Int := if o.length = x.length ∧ x.length ≤ 4 ∧ allB o (-9) 9 = true ∧ allB x 0 5 = true then linS o x x.length else 0
theorem objL_ok {o x : List Int} (h1 : o.length = x.length) (h2 : x.length ≤ 4) (h3 : allB o (-9) 9 = true) (h4 : allB x 0 5 = true) : objL o x = linS o x x.length := if_pos ⟨h1, h2, h3, h4⟩
theorem objL_no {o x : List Int} (h : ¬ (o.length = x.length ∧ x.length ≤ 4 ∧ allB o (-9) 9 = true ∧ allB x 0 5 = true)) : objL o x = 0 := if_neg h
theorem small_of_all {xs : List Int} {lo hi : Int} (h : allB xs lo hi = true) : Small xs lo hi := fun j hj => allB_at h hj

theorem ret_i {a b : Int} (h : a = b) : Ending.returned (.int .i64 a) = .returned (.int .i64 b) := by rw [h]
def IntPost (v : Int) (w : World) : Ending → World → Prop := fun e w' => e = .returned (.int .i64 v) ∧ Below w.heap.size w w'

set_option maxRecDepth 100000 in
set_option maxHeartbeats 2000000 in
theorem value_any (ov xv : Value) (o x : List Int) (w : World) (ho : RdInts w ov o) (hx : RdInts w xv x) (hl : o.length = x.length) (hn4 : x.length ≤ 4) (ha : Small o (-9) 9) (hv : Small x 0 5) :
    Calls Try.prog 90 #[ov, xv] w (IntPost (linS o x x.length) w) := by
  unfold IntPost
  obtain ⟨ax, cx, ev, -⟩ := id hx
  obtain ⟨ao, co, eo, -⟩ := id ho
  rw [ev] at hx ⊢
  rw [eo] at ho ⊢
  have HX := Lib.hid hx
  have HA := Lib.hid ho
  obtain ⟨n, hn⟩ : ∃ n, n = x.length := ⟨_, rfl⟩
  have HN := Lib.hid hn
  have HS := Lib.hid (linS_le ha hv hl)
  have HAL := Lib.hid ha
  have HVL := Lib.hid hv
  rw [← hn] at HX hl ⊢
  have HLN := Lib.hid hl
  rw [hl] at HA ⊢
  have hca := (rdInts_cap HA.out).2
  have hcx := (rdInts_cap HX.out).2
  have hn5 : n ≤ 4 := by have := HN.out; omega
  clear ho hx eo ev hn hl hn4 ha hv
  go_enter Try.func90, Try.ntmps90
  go_wp2
  go_loopw [5, 6] (fun s i wr => ∃ k nq : Nat, k ≤ n ∧ i = .int .i64 k ∧ s = .int .i64 (linS o x k) ∧ wr = w.drewN nq) (fun _ i _ => n - (intOf i).toNat)
  case atStart => exact ⟨0, 0, Nat.zero_le _, rfl, rfl, rfl⟩
  case round =>
    obtain ⟨k, nq, hk, rfl, rfl, rfl⟩ := hrel
    have s1 := HS.out k (by have := HN.out; omega)
    by_cases hlt : k < n
    · obtain ⟨b1, o1, rfl, q1⟩ := rdInts_at HA.out hlt
      obtain ⟨b2, o2, rfl, q2⟩ := rdInts_at HX.out hlt
      have a1 := HAL.out k (by have := HN.out; have := HLN.out; omega)
      have a2 := HVL.out k (by have := HN.out; omega)
      have m1 := mul_small a1.1 a1.2 a2.1 a2.2
      go_wp2_with fail
      go_quiet (fail)
      go_wp2
      go_roundw
      case rel => exact ⟨k + 1, _, by omega, by go_num, rfl, rfl⟩
      case measure => simp [intOf]; omega
    · obtain rfl : k = n := by omega
      go_wp2
      go_ret
      exact ⟨ret_i rfl, below_drewN' (Below.refl _ _) _⟩

set_option maxRecDepth 100000 in
set_option maxHeartbeats 2000000 in
theorem sObj_any (ov xv : Value) (o x : List Int) (w : World) (ho : RdInts w ov o) (hx : RdInts w xv x) :
    Calls Try.prog 42 #[ov, xv] w (IntPost (objL o x) w) := by
  unfold IntPost
  obtain ⟨ax, cx, ev, -⟩ := id hx
  obtain ⟨ao, co, eo, -⟩ := id ho
  rw [ev] at hx ⊢
  rw [eo] at ho ⊢
  have HX := Lib.hid hx
  have HO := Lib.hid ho
  obtain ⟨n, hn⟩ : ∃ n, n = x.length := ⟨_, rfl⟩
  obtain ⟨p, hp⟩ : ∃ p, p = o.length := ⟨_, rfl⟩
  have HN := Lib.hid hn
  have HP := Lib.hid hp
  rw [← hn] at HX ⊢
  rw [← hp] at HO ⊢
  have hca := (rdInts_cap HO.out).2
  have hcx := (rdInts_cap HX.out).2
  clear ho hx eo ev hn hp
  by_cases hl : p = n
  · subst hl
    have hd : ((p : Int) != (p : Int)) = false := by simp
    by_cases h4 : p ≤ 4
    · cases h9 : allB o (-9) 9
      · have HR := Lib.hid (objL_no (o := o) (x := x) (fun ⟨_, _, q, _⟩ => by rw [h9] at q; cases q))
        go_enter Try.func42, Try.ntmps42
        go_wp2_with fail
        refine (allInRange_any _ o _ _ _ HO.out).mono ?_
        rintro e w' ⟨rfl, rfl⟩
        rw [h9]
        go_wp2
        go_ret
        exact ⟨ret_i HR.out.symm, Below.refl _ _⟩
      · cases h5 : allB x 0 5
        · have HR := Lib.hid (objL_no (o := o) (x := x) (fun ⟨_, _, _, q⟩ => by rw [h5] at q; cases q))
          go_enter Try.func42, Try.ntmps42
          go_wp2_with fail
          refine (allInRange_any _ o _ _ _ HO.out).mono ?_
          rintro e w' ⟨rfl, rfl⟩
          rw [h9]
          go_wp2_with fail
          refine (allInRange_any _ x _ _ _ HX.out).mono ?_
          rintro e w' ⟨rfl, rfl⟩
          rw [h5]
          go_wp2
          go_ret
          exact ⟨ret_i HR.out.symm, Below.refl _ _⟩
        · have HR := Lib.hid (objL_ok (o := o) (x := x) (by rw [← HN.out, ← HP.out]) (by rw [← HN.out]; exact h4) h9 h5)
          have HV := Lib.hid (value_any _ _ o x w HO.out HX.out (by rw [← HN.out, ← HP.out]) (by rw [← HN.out]; exact h4) (small_of_all h9) (small_of_all h5))
          go_enter Try.func42, Try.ntmps42
          go_wp2_with fail
          refine (allInRange_any _ o _ _ _ HO.out).mono ?_
          rintro e w' ⟨rfl, rfl⟩
          rw [h9]
          go_wp2_with fail
          refine (allInRange_any _ x _ _ _ HX.out).mono ?_
          rintro e w' ⟨rfl, rfl⟩
          rw [h5]
          go_wp2_with fail
          refine HV.out.mono ?_
          rintro e w' ⟨rfl, b⟩
          go_wp2
          go_ret
          exact ⟨ret_i HR.out.symm, b⟩
    · have HR := Lib.hid (objL_no (o := o) (x := x) (fun ⟨_, q, _⟩ => h4 (by rw [HN.out]; exact q)))
      go_enter Try.func42, Try.ntmps42
      go_wp2
      go_ret
      exact ⟨ret_i HR.out.symm, Below.refl _ _⟩
  · have hd : ((p : Int) != (n : Int)) = true := by simp; omega
    have HR := Lib.hid (objL_no (o := o) (x := x) (fun ⟨q, _⟩ => hl (by rw [HN.out, HP.out]; exact q)))
    have HLL := Lib.hid hl
    clear hl
    go_enter Try.func42, Try.ntmps42
    go_wp2
    go_ret
    exact ⟨ret_i HR.out.symm, Below.refl _ _⟩

set_option maxRecDepth 100000 in
theorem isObjective_any (xv : Value) (xs : List Int) (n : Nat) (w : World) (hx : RdInts w xv xs) (hn : n ≤ 9223372036854775807) :
    Calls Try.prog 91 #[xv, .int .i64 n] w fun e w' => e = .returned (.bool (decide (xs.length = n) && allB xs (-9) 9)) ∧ w = w' := by
  have HX := Lib.hid hx
  obtain ⟨ax, cx, e2, -⟩ := id hx
  rw [e2] at HX ⊢
  have hc := (rdInts_cap HX.out).2
  clear e2 hx
  by_cases hl : xs.length = n
  · have hd : ((xs.length : Int) == (n : Int)) = true := by simp [hl]
    have HL := Lib.hid hl
    clear hl
    go_enter Try.func91, Try.ntmps91
    go_wp2_with fail
    refine (allWithin_any _ xs _ _ _ HX.out).mono ?_
    rintro e w' ⟨rfl, rfl⟩
    go_wp2
    go_ret
    exact ⟨ret_bool (by rw [decide_eq_true HL.out]; simp), rfl⟩
  · have hd : ((xs.length : Int) == (n : Int)) = false := by simp; omega
    have HL := Lib.hid hl
    clear hl
    go_enter Try.func91, Try.ntmps91
    go_wp2
    go_ret
    exact ⟨ret_bool (by rw [decide_eq_false HL.out]; simp), rfl⟩

set_option maxRecDepth 100000 in
set_option maxHeartbeats 2000000 in
theorem iObj_any (ov xv : Value) (o x : List Int) (w : World) (ho : RdInts w ov o) (hx : RdInts w xv x) :
    Calls Try.prog 43 #[ov, xv] w (IntPost (objL o x) w) := by
  unfold IntPost
  obtain ⟨ax, cx, ev, -⟩ := id hx
  obtain ⟨ao, co, eo, -⟩ := id ho
  rw [ev] at hx ⊢
  rw [eo] at ho ⊢
  have HX := Lib.hid hx
  have HO := Lib.hid ho
  obtain ⟨n, hn⟩ : ∃ n, n = x.length := ⟨_, rfl⟩
  obtain ⟨p, hp⟩ : ∃ p, p = o.length := ⟨_, rfl⟩
  have HN := Lib.hid hn
  have HP := Lib.hid hp
  rw [← hn] at HX ⊢
  rw [← hp] at HO ⊢
  have hca := (rdInts_cap HO.out).2
  have hcx := (rdInts_cap HX.out).2
  clear ho hx eo ev hn hp
  by_cases h4 : n ≤ 4
  · cases hA : (decide (x.length = p) && allB x 0 5)
    · have HR := Lib.hid (objL_no (o := o) (x := x) (fun ⟨q1, _, _, q2⟩ => by rw [q2, HP.out, decide_eq_true q1.symm] at hA; cases hA))
      go_enter Try.func43, Try.ntmps43
      go_wp2_with fail
      refine (isAssignment_any _ x p _ HX.out (by omega)).mono ?_
      rintro e w' ⟨rfl, rfl⟩
      rw [hA]
      go_wp2
      go_ret
      exact ⟨ret_i HR.out.symm, Below.refl _ _⟩
    · cases hB : (decide (o.length = n) && allB o (-9) 9)
      · have HR := Lib.hid (objL_no (o := o) (x := x) (fun ⟨q1, _, q2, _⟩ => by rw [q2, HN.out, decide_eq_true q1] at hB; cases hB))
        go_enter Try.func43, Try.ntmps43
        go_wp2_with fail
        refine (isAssignment_any _ x p _ HX.out (by omega)).mono ?_
        rintro e w' ⟨rfl, rfl⟩
        rw [hA]
        go_wp2_with fail
        refine (isObjective_any _ o n _ HO.out (by omega)).mono ?_
        rintro e w' ⟨rfl, rfl⟩
        rw [hB]
        go_wp2
        go_ret
        exact ⟨ret_i HR.out.symm, Below.refl _ _⟩
      · have q1 : o.length = x.length := by
          simp at hB; rw [hB.1, HN.out]
        have q2 : allB x 0 5 = true := by simp at hA; exact hA.2
        have q3 : allB o (-9) 9 = true := by simp at hB; exact hB.2
        have HR := Lib.hid (objL_ok q1 (by rw [← HN.out]; exact h4) q3 q2)
        have HV := Lib.hid (wsum_any _ _ o x w HO.out HX.out q1 (by rw [← HN.out]; exact h4) (small_of_all q3) (small_of_all q2))
        clear q1 q2 q3
        go_enter Try.func43, Try.ntmps43
        go_wp2_with fail
        refine (isAssignment_any _ x p _ HX.out (by omega)).mono ?_
        rintro e w' ⟨rfl, rfl⟩
        rw [hA]
        go_wp2_with fail
        refine (isObjective_any _ o n _ HO.out (by omega)).mono ?_
        rintro e w' ⟨rfl, rfl⟩
        rw [hB]
        go_wp2_with fail
        refine HV.out.mono ?_
        rintro e w' ⟨rfl, rfl⟩
        go_wp2
        go_ret
        exact ⟨ret_i HR.out.symm, Below.refl _ _⟩
  · have HR := Lib.hid (objL_no (o := o) (x := x) (fun ⟨_, q, _⟩ => h4 (by rw [HN.out]; exact q)))
    go_enter Try.func43, Try.ntmps43
    go_wp2
    go_ret
    exact ⟨ret_i HR.out.symm, Below.refl _ _⟩

set_option maxRecDepth 100000 in
set_option maxHeartbeats 4000000 in
theorem law_ov (ov xv : Value) (o x : List Int) (w : World) (ho : RdInts w ov o) (hx : RdInts w xv x) :
    Calls Try.prog 10 #[ov, xv] w (SamePostB w) := by
  obtain ⟨ax, cx, ev, -⟩ := id hx
  obtain ⟨ao, co, eo, -⟩ := id ho
  rw [ev] at hx ⊢
  rw [eo] at ho ⊢
  have HX := Lib.hid hx
  have HO := Lib.hid ho
  have hca := (rdInts_cap HO.out).2
  have hcx := (rdInts_cap HX.out).2
  clear ho hx eo ev
  by_cases hb1 : (o.length : Int) > 1048576
  · go_enter Try.func10, Try.ntmps10
    go_wp2
    go_ret
    exact ⟨rfl, Below.refl _ _⟩
  by_cases hb2 : (x.length : Int) > 1048576
  · go_enter Try.func10, Try.ntmps10
    go_wp2
    go_ret
    exact ⟨rfl, Below.refl _ _⟩
  have hol : o.length ≤ 1048576 := by omega
  have hxl : x.length ≤ 1048576 := by omega
  go_enter Try.func10, Try.ntmps10
  go_wp2_with fail
  refine (toIntS_any _ o _ HO.out hol).mono ?_
  rintro e w1 ⟨rfl, ro1, b1, -⟩
  have HB1 := Lib.hid b1
  have HO1 := Lib.hid (HO.out.below b1)
  have HX1 := Lib.hid (HX.out.below b1)
  have RO1 := Lib.hid ro1
  clear b1 HO HX ro1
  go_wp2_with fail
  refine (toIntS_any _ x _ HX1.out hxl).mono ?_
  rintro e w2 ⟨rfl, rx2, b2, -⟩
  have HB2 := Lib.hid (HB1.out.trans (b2.mono HB1.out.size))
  have HO2 := Lib.hid (HO1.out.below b2)
  have HX2 := Lib.hid (HX1.out.below b2)
  have RO2 := Lib.hid (RO1.out.below b2)
  have RX2 := Lib.hid rx2
  clear b2 HO1 HX1 RO1 rx2 HB1
  go_wp2_with fail
  refine (sObj_any _ _ o x _ RO2.out RX2.out).mono ?_
  rintro e w3 ⟨rfl, b3⟩
  have HB3 := Lib.hid (HB2.out.trans (b3.mono HB2.out.size))
  have HO3 := Lib.hid (HO2.out.below b3)
  have HX3 := Lib.hid (HX2.out.below b3)
  clear b3 HO2 HX2 RO2 RX2 HB2
  go_wp2_with fail
  refine (toIntS_any _ o _ HO3.out hol).mono ?_
  rintro e w4 ⟨rfl, ro4, b4, -⟩
  have HB4 := Lib.hid (HB3.out.trans (b4.mono HB3.out.size))
  have HO4 := Lib.hid (HO3.out.below b4)
  have HX4 := Lib.hid (HX3.out.below b4)
  have RO4 := Lib.hid ro4
  obtain ⟨g1, hg1⟩ : ∃ g, g = w3.heap.size := ⟨_, rfl⟩
  rw [← hg1] at RO4 ⊢
  clear b4 HO3 HX3 ro4 HB3 hg1
  go_wp2_with fail
  refine (toIntS_any _ x _ HX4.out hxl).mono ?_
  rintro e w5 ⟨rfl, rx5, b5, -⟩
  have HB5 := Lib.hid (HB4.out.trans (b5.mono HB4.out.size))
  have HO5 := Lib.hid (HO4.out.below b5)
  have HX5 := Lib.hid (HX4.out.below b5)
  have RO5 := Lib.hid (RO4.out.below b5)
  have RX5 := Lib.hid rx5
  obtain ⟨g2, hg2⟩ : ∃ g, g = w4.heap.size := ⟨_, rfl⟩
  rw [← hg2] at RX5 ⊢
  clear b5 HO4 HX4 RO4 rx5 HB4 hg2
  go_wp2_with fail
  refine (iObj_any _ _ o x _ RO5.out RX5.out).mono ?_
  rintro e w6 ⟨rfl, b6⟩
  have HB6 := Lib.hid (HB5.out.trans (b6.mono HB5.out.size))
  have HO6 := Lib.hid (HO5.out.below b6)
  have HX6 := Lib.hid (HX5.out.below b6)
  have RO6 := Lib.hid (RO5.out.below b6)
  have RX6 := Lib.hid (RX5.out.below b6)
  clear b6 HO5 HX5 RO5 RX5 HB5
  obtain ⟨z, hz⟩ : ∃ z, z = objL o x := ⟨_, rfl⟩
  rw [← hz]
  have hzz : (z != z) = false := by simp
  clear hz
  go_wp2_with fail
  refine (toIntS_any _ o _ HO6.out hol).mono ?_
  rintro e w7 ⟨rfl, ro7, b7, -⟩
  have HB7 := Lib.hid (HB6.out.trans (b7.mono HB6.out.size))
  have HX7 := Lib.hid (HX6.out.below b7)
  have RO7 := Lib.hid (RO6.out.below b7)
  have RX7 := Lib.hid (RX6.out.below b7)
  have RO7' := Lib.hid ro7
  clear b7 HO6 HX6 RO6 RX6 HB6 ro7
  go_wp2_with fail
  refine (eqIntS_same _ _ o _ RO7.out RO7'.out).mono ?_
  rintro e w8 ⟨rfl, m8, rfl⟩
  have HB8 := Lib.hid (below_drewN' HB7.out m8)
  have HX8 := Lib.hid (HX7.out.drewN' m8)
  have RX8 := Lib.hid (RX7.out.drewN' m8)
  obtain ⟨W8, hW8⟩ : ∃ W8, W8 = w7.drewN m8 := ⟨_, rfl⟩
  rw [← hW8] at HB8 HX8 RX8 ⊢
  clear hW8 HB7 HX7 RX7 RO7 RO7'
  go_wp2_with fail
  refine (toIntS_any _ x _ HX8.out hxl).mono ?_
  rintro e w9 ⟨rfl, rx9, b9, -⟩
  have HB9 := Lib.hid (HB8.out.trans (b9.mono HB8.out.size))
  have RX9 := Lib.hid (RX8.out.below b9)
  have RX9' := Lib.hid rx9
  clear b9 HX8 RX8 HB8 rx9
  go_wp2_with fail
  refine (eqIntS_same _ _ x _ RX9.out RX9'.out).mono ?_
  rintro e w10 ⟨rfl, m10, rfl⟩
  go_wp2
  go_ret
  exact ⟨rfl, below_drewN' HB9.out _⟩
end Go.Proofs.Ytkmdkbnphmadpaa
