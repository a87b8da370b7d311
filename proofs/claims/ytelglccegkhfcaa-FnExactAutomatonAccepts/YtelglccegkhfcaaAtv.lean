/- Valid automata, both packages. -/
import Derived.Test.YtelglccegkhfcaaAut
import Derived.Test.YtelglccegkhfcaaSatK
import Derived.Test.YtelglccegkhfcaaIVd
namespace Go.Proofs.Ytelglccegkhfcaa
open Go.ChangeShapes Go.WideShapes Go.ChangeAt Go.RowKit Go.Deep
set_option linter.unusedVariables false
set_option linter.unusedSimpArgs false

/-- Strictly ascending; ascending. -/
def ascB (xs : List Int) : Bool := decide (∀ i, i < xs.length - 1 → xs[i]?.getD 0 < xs[i + 1]?.getD 0)
def srtB (xs : List Int) : Bool := decide (∀ i, i < xs.length - 1 → xs[i]?.getD 0 ≤ xs[i + 1]?.getD 0)
theorem asc_lt {xs : List Int} (h : ∀ i, i + 1 < xs.length → xs[i]?.getD 0 < xs[i + 1]?.getD 0) {k : Nat} : ∀ {i : Nat}, k < i → i < xs.length → xs[k]?.getD 0 < xs[i]?.getD 0
  | 0, h1, _ => by omega
  | i + 1, h1, h2 => by
    have h3 := h i h2
    by_cases e : k = i
    · subst e; exact h3
    · have := asc_lt h (k := k) (i := i) (by omega) (by omega)
      omega
theorem dst_srt (xs : List Int) : (dstB xs && srtB xs) = ascB xs := by
  rw [Bool.eq_iff_iff, Bool.and_eq_true]
  unfold dstB srtB ascB
  rw [decide_eq_true_iff, decide_eq_true_iff, decide_eq_true_iff]
  constructor
  · rintro ⟨h1, h2⟩ i hi
    have a := h1 (i + 1) (by omega) i (by omega)
    have b := h2 i hi
    omega
  · intro h
    refine ⟨fun i hi k hk => ?_, fun i hi => by have := h i hi; omega⟩
    have := asc_lt (fun i hi => h i (by omega)) hk hi
    omega
/-- A valid automaton. -/
def autB (a : Aut) : Bool := (rowsB a.next 6 (-1) ((a.next.length : Int) - 1) && wiB a.next.length 1 8) && (allB a.fin 0 ((a.next.length : Int) - 1) && ascB a.fin)
theorem autB_1 {a : Aut} (h : (rowsB a.next 6 (-1) ((a.next.length : Int) - 1) && wiB a.next.length 1 8) = false) : autB a = false := by unfold autB; rw [h]; rfl
theorem autB_2 {a : Aut} (h : allB a.fin 0 ((a.next.length : Int) - 1) = false) : autB a = false := by unfold autB; rw [h]; simp
theorem autB_3 {a : Aut} (h : ascB a.fin = false) : autB a = false := by unfold autB; rw [h]; simp
theorem autB_4 {a : Aut} (h1 : (rowsB a.next 6 (-1) ((a.next.length : Int) - 1) && wiB a.next.length 1 8) = true) (h2 : allB a.fin 0 ((a.next.length : Int) - 1) = true) (h3 : ascB a.fin = true) : autB a = true := by unfold autB; rw [h1, h2, h3]; rfl
theorem ascB_no {xs : List Int} {i : Nat} (hi : i + 1 < xs.length) (h : xs[i + 1]?.getD 0 ≤ xs[i]?.getD 0) : ascB xs = false := by
  unfold ascB
  rw [decide_eq_false_iff_not]
  intro h2
  have := h2 i (by omega)
  omega
theorem srtB_no {xs : List Int} {i : Nat} (hi : i + 1 < xs.length) (h : xs[i + 1]?.getD 0 < xs[i]?.getD 0) : srtB xs = false := by
  unfold srtB
  rw [decide_eq_false_iff_not]
  intro h2
  have := h2 i (by omega)
  omega

set_option maxRecDepth 100000 in
set_option maxHeartbeats 4000000 in
theorem svalidAutomaton_any (v : Value) (a : Aut) (w : World) (h : RdAut w v a) :
    Calls Try.prog 96 #[v] w (BoolPost (autB a) w) := by
  obtain ⟨a1, a2, c1, c2, rfl, h1, h2⟩ := rdAut_slices h
  obtain ⟨W1, hW1⟩ : ∃ W1, w.alloc (.cells #[.slice a1 a.next.length c1, .slice a2 a.fin.length c2] 67) = W1 := ⟨_, rfl⟩
  have B1 : Below w.heap.size w W1 := by rw [← hW1]; exact (Below.refl _ _).alloc (Nat.le_refl _) _
  have bP : Blk2 W1 w.heap.size 67 (.slice a1 a.next.length c1) (.slice a2 a.fin.length c2) := by rw [← hW1]; exact Blk2.new w _ _ _
  have HR := Lib.hid (h1.below B1)
  have HA := Lib.hid (h2.below B1)
  have HB1 := Lib.hid B1
  have HW := Lib.hid hW1
  obtain ⟨p0, p1⟩ := bP.cell
  have HF1 := Lib.hid (autB_1 (a := a))
  have HF2 := Lib.hid (autB_2 (a := a))
  have HF3 := Lib.hid (autB_3 (a := a))
  have HF4 := Lib.hid (autB_4 (a := a))
  have hca := (rdInts_cap HA.out).2
  have hcr := (rdRows_cap HR.out).2
  have hrl := rdRows_cap HR.out
  obtain ⟨m, hm⟩ : ∃ m, m = a.next.length := ⟨_, rfl⟩
  obtain ⟨n, hn⟩ : ∃ n, n = a.fin.length := ⟨_, rfl⟩
  rw [← hm] at HR HW p0 hcr hrl HF1 HF2 HF4 ⊢
  rw [← hn] at HA HW p1 hca ⊢
  have HN := Lib.hid hn
  have HM := Lib.hid hm
  clear h h1 h2 hW1 B1 bP hm hn
  cases g0 : (rowsB a.next 6 (-1) ((m : Int) - 1) && wiB m 1 8)
  · have HF := Lib.hid (HF1.out g0)
    go_enter Try.func96, Try.ntmps96
    go_wp2_with (first | rw [HW.out] | (go_at_call 135; refine (validRows_at _ _ _ a.next _ _ _ _ HR.out).mono ?_; rintro e w' ⟨rfl, rfl⟩; rw [g0]))
    go_ret
    exact ⟨ret_bool HF.out.symm, HB1.out⟩
  have hm8 : 1 ≤ m ∧ m ≤ 8 := by have := wiB_in (Bool.and_eq_true_iff.1 g0).2; omega
  have hz : ((m : Int) == 0) = false := by simp; omega
  cases g1 : allB a.fin 0 ((m : Int) - 1)
  · have HF := Lib.hid (HF2.out g1)
    go_enter Try.func96, Try.ntmps96
    go_wp2_with (first | rw [HW.out] | (go_at_call 135; refine (validRows_at _ _ _ a.next _ _ _ _ HR.out).mono ?_; rintro e w' ⟨rfl, rfl⟩; rw [g0]) | (go_at_call 121; refine (allInRange_any _ a.fin _ _ _ HA.out).mono ?_; rintro e w' ⟨rfl, rfl⟩; rw [g1]))
    go_ret
    exact ⟨ret_bool HF.out.symm, HB1.out⟩
  have HG0 := Lib.hid g0
  have HG1 := Lib.hid g1
  go_enter Try.func96, Try.ntmps96
  go_wp2_with (first | rw [HW.out] | (go_at_call 135; refine (validRows_at _ _ _ a.next _ _ _ _ HR.out).mono ?_; rintro e w' ⟨rfl, rfl⟩; rw [g0]) | (go_at_call 121; refine (allInRange_any _ a.fin _ _ _ HA.out).mono ?_; rintro e w' ⟨rfl, rfl⟩; rw [g1]))
  clear g0 g1
  go_loopw [3] (fun i wr => ∃ k nq : Nat, (k + 1 ≤ n ∨ k = 0) ∧ i = .int .i64 (k + 1) ∧ Hid (∀ j, j < k → a.fin[j]?.getD 0 < a.fin[j + 1]?.getD 0) ∧ wr = W1.drewN nq) (fun i _ => n + 1 - (intOf i).toNat)
  case atStart => exact ⟨0, 0, .inr rfl, rfl, Lib.hid (fun j hj => by omega), rfl⟩
  case round =>
    obtain ⟨k, nq, hk, rfl, HE, rfl⟩ := hrel
    by_cases hlt : k + 1 < n
    · obtain ⟨b2, o2, rfl, q2⟩ := rdInts_at HA.out (i := k) (by omega)
      obtain ⟨b3, o3, e3, q3⟩ := rdInts_at HA.out (i := k + 1) hlt
      simp at e3
      obtain ⟨rfl, rfl⟩ := e3
      have hlt' : (k : Int) + 1 < n := by omega
      obtain ⟨y, hy⟩ : ∃ y, y = a.fin[k]?.getD 0 := ⟨_, rfl⟩
      obtain ⟨z, hz2⟩ : ∃ z, z = a.fin[k + 1]?.getD 0 := ⟨_, rfl⟩
      rw [← hy] at q2
      rw [← hz2] at q3
      have e1 : (k : Int) + 1 - 1 = k := by omega
      have q3 : (W1.drewN nq).cell? ⟨b2, o2 + (k + 1), none⟩ = some (.int .i64 z) := q3
      have HY := Lib.hid hy
      have HZ := Lib.hid hz2
      clear hy hz2
      by_cases hge : z ≤ y
      · have HF : Hid (autB a = false) := Lib.hid (HF3.out (ascB_no (i := k) (by have := HN.out; omega) (by rw [← HY.out, ← HZ.out]; exact hge)))
        go_wp2_with fail
        go_quiet (fail)
        go_wp2
        go_ret
        exact ⟨ret_bool HF.out.symm, by first | exact below_drewN' HB1.out _ | exact below_drewN' (below_drewN' HB1.out _) _⟩
      · have HS : Hid (y < z) := Lib.hid (by omega)
        go_wp2_with fail
        go_quiet (fail)
        go_wp2
        go_roundw
        case rel => exact ⟨k + 1, _, .inl (by omega), by go_num, Lib.hid (fun j hj => by by_cases e : j = k; (· subst e; rw [← HY.out, ← HZ.out]; exact HS.out); (· exact HE.out j (by omega))), rfl⟩
        case measure => simp [intOf]; omega
    · have HF : Hid (autB a = true) := Lib.hid (HF4.out HG0.out HG1.out (by unfold ascB; exact decide_eq_true (fun i hi => HE.out i (by have := HN.out; omega))))
      have hlt' : ¬ (k : Int) + 1 < n := by omega
      go_wp2
      go_ret
      exact ⟨ret_bool HF.out.symm, by first | exact below_drewN' HB1.out _ | exact below_drewN' (below_drewN' HB1.out _) _⟩

set_option maxRecDepth 100000 in
theorem sValidAutomaton_any (v : Value) (a : Aut) (w : World) (h : RdAut w v a) :
    Calls Try.prog 48 #[v] w (BoolPost (autB a) w) := by
  have hB := fun (X : World) (b : Below w.heap.size w X) => svalidAutomaton_any v a X (h.below b)
  obtain ⟨a1, a2, c1, c2, rfl, h1, h2⟩ := rdAut_slices h
  unfold BoolPost at hB ⊢
  have HE := Lib.hid hB
  obtain ⟨W1, hW1⟩ : ∃ W1, w.alloc (.cells #[.slice a1 a.next.length c1, .slice a2 a.fin.length c2] 67) = W1 := ⟨_, rfl⟩
  have B1 : Below w.heap.size w W1 := by rw [← hW1]; exact (Below.refl _ _).alloc (Nat.le_refl _) _
  have bP : Blk2 W1 w.heap.size 67 (.slice a1 a.next.length c1) (.slice a2 a.fin.length c2) := by rw [← hW1]; exact Blk2.new w _ _ _
  have HB1 := Lib.hid B1
  have HW := Lib.hid hW1
  obtain ⟨p0, p1⟩ := bP.cell
  clear hB h h1 h2 hW1 B1 bP
  go_enter Try.func48, Try.ntmps48
  go_wp2_with (first | rw [HW.out] | (go_at_call 96; refine (HE.out _ HB1.out).mono ?_; rintro e w' ⟨rfl, b⟩; have B := Lib.hid (HB1.out.trans (b.mono HB1.out.size)); clear b))
  go_ret
  exact ⟨rfl, B.out⟩
theorem wrap_kA (n : Int) (h1 : -9223372036854775808 ≤ n) (h2 : n ≤ 9223372036854775807) : IntKind.i64.wrap n = n := by simp [IntKind.wrap, IntKind.bits, IntKind.signed]; omega
set_option maxRecDepth 100000 in
theorem isNaN_any (a : Int) (w : World) : Calls Try.prog 169 #[.int .i64 a] w fun e w' => e = .returned (.bool false) ∧ w = w' := by
  have q : (a != a) = false := by simp
  go_enter Try.func169, Try.ntmps169
  go_wp2
  go_ret
  exact ⟨rfl, rfl⟩
set_option maxRecDepth 100000 in
theorem cmpLess_any (a b : Int) (w : World) : Calls Try.prog 138 #[.int .i64 a, .int .i64 b] w fun e w' => e = .returned (.bool (decide (a < b))) ∧ w = w' := by
  go_enter Try.func138, Try.ntmps138
  go_wp2_with (go_at_call 169; refine (isNaN_any _ _).mono ?_; rintro e w' ⟨rfl, rfl⟩)
  go_ret
  exact ⟨rfl, rfl⟩
set_option maxRecDepth 100000 in
set_option maxHeartbeats 4000000 in
theorem isSorted_any (v : Value) (xs : List Int) (w : World) (h : RdInts w v xs) :
    Calls Try.prog 100 #[v] w fun e w' => e = .returned (.bool (srtB xs)) ∧ Below w.heap.size w w' := by
  have HX := Lib.hid h
  obtain ⟨ax, cx, e2, _⟩ := h
  rw [e2] at HX ⊢
  obtain ⟨n, hn⟩ : ∃ n, n = xs.length := ⟨_, rfl⟩
  have HN := Lib.hid hn
  rw [← hn] at HX ⊢
  clear e2 hn
  have hcn := (rdInts_cap HX.out).2
  go_enter Try.func100, Try.ntmps100
  go_wp2
  go_loopw [3] (fun i wr => ∃ k : Nat, ∃ z : Int, k ≤ n ∧ i = .int .i64 z ∧ z = (k : Int) - 1 ∧ Hid (∀ j, k ≤ j + 1 → j + 1 < n → xs[j]?.getD 0 ≤ xs[j + 1]?.getD 0) ∧ Hid (Below w.heap.size w wr)) (fun i _ => (intOf i).toNat)
  case atStart => exact ⟨n, _, Nat.le_refl _, rfl, rfl, Lib.hid (fun j h1 h2 => by omega), Lib.hid (Below.refl _ _)⟩
  case round =>
    obtain ⟨k, z, hk, rfl, hz, HE, HQ⟩ := hrel
    by_cases hpos : 0 < z
    · obtain ⟨i, rfl⟩ : ∃ i : Nat, z = (i : Int) + 1 := ⟨(z - 1).toNat, by omega⟩
      have hki : k = i + 2 := by omega
      subst hki
      obtain ⟨b2, o2, rfl, q2⟩ := rdInts_at (HX.out.below HQ.out) (i := i) (by omega)
      obtain ⟨b3, o3, e3, q3⟩ := rdInts_at (HX.out.below HQ.out) (i := i + 1) (by omega)
      simp at e3
      obtain ⟨rfl, rfl⟩ := e3
      obtain ⟨y, hy⟩ : ∃ y, y = xs[i]?.getD 0 := ⟨_, rfl⟩
      obtain ⟨u, hu⟩ : ∃ u, u = xs[i + 1]?.getD 0 := ⟨_, rfl⟩
      rw [← hy] at q2
      rw [← hu] at q3
      have e1 : (i : Int) + 1 - 1 = i := by omega
      have HY := Lib.hid hy
      have HU := Lib.hid hu
      clear hy hu hz
      have hin : (i : Int) + 1 < n := by omega
      have hin2 : i + 1 < n := by omega
      have hi0 : (0 : Int) ≤ (i : Int) + 1 := by omega
      have hin3 : i < n := by omega
      have hwi : IntKind.i64.wrap (i : Int) = i := wrap_kA _ (by omega) (by omega)
      by_cases hlt : u < y
      · have HF : Hid (srtB xs = false) := Lib.hid (srtB_no (i := i) (by have := HN.out; omega) (by rw [← HY.out, ← HU.out]; exact hlt))
        go_wp2_with fail
        go_quiet ((go_at_call 138; exact Calls.quiet_of ((cmpLess_any _ _ _).mono (fun e w' ⟨he, hw'⟩ => ⟨he, 0, hw'.symm⟩))))
        all_goals go_wp2
        all_goals go_ret
        all_goals exact ⟨ret_bool HF.out.symm, by first | exact below_drewN' HQ.out _ | exact HQ.out⟩
      · have HS : Hid (y ≤ u) := Lib.hid (by omega)
        go_wp2_with fail
        go_quiet ((go_at_call 138; exact Calls.quiet_of ((cmpLess_any _ _ _).mono (fun e w' ⟨he, hw'⟩ => ⟨he, 0, hw'.symm⟩))))
        all_goals go_wp2
        all_goals go_roundw
        case rel => exact ⟨i + 1, _, by omega, rfl, by go_num, Lib.hid (fun j h1 h2 => by by_cases e : j = i; (· subst e; rw [← HY.out, ← HU.out]; exact HS.out); (· exact HE.out j (by omega) h2)), Lib.hid (below_drewN' HQ.out _)⟩
        case measure => simp [intOf]
    · have HF : Hid (srtB xs = true) := Lib.hid (decide_eq_true (fun i hi => HE.out i (by have := HN.out; omega) (by have := HN.out; omega)))
      go_wp2
      go_ret
      exact ⟨ret_bool HF.out.symm, by first | exact below_drewN' HQ.out _ | exact HQ.out⟩
set_option maxRecDepth 100000 in
theorem rule_any (a : Aut) (a1 a2 : Option Addr) (c1 c2 : Nat) (w : World) :
    Calls Try.prog 98 #[.agg #[.slice a1 a.next.length c1, .slice a2 a.fin.length c2]] w fun e w' => e = .returned (.agg #[.int .i64 0, .slice none 0 0, .slice a2 a.fin.length c2, .int .i64 0, .slice a1 a.next.length c1]) ∧ Below w.heap.size w w' := by
  have hB : ∀ o1 o2, Below w.heap.size w ((w.alloc o1).alloc o2) := fun o1 o2 => ((Below.refl _ _).alloc (Nat.le_refl _) _).alloc (by simp) _
  have HB := Lib.hid hB
  clear hB
  go_enter Try.func98, Try.ntmps98
  go_wp2
  first
    | (go_ret; exact ⟨rfl, (HB.out _ _)⟩)
    | refine bodyPost_ret (v := .agg #[.int .i64 0, .slice none 0 0, .slice a2 a.fin.length c2, .int .i64 0, .slice a1 a.next.length c1]) (by simp [results, Try.results98, go_sem]) rfl ⟨rfl, ?_⟩
  all_goals exact HB.out _ _
/-- What wellFormed answers of an automaton's rule. -/
def wfB (a : Aut) : Bool := ((rowsB a.next 6 (-1) ((a.next.length : Int) - 1) && wiB a.next.length 1 8) && (allB a.fin 0 ((a.next.length : Int) - 1) && dstB a.fin)) && ((0 : Int) == 0)
theorem aut_wf (a : Aut) : autB a = (wfB a && srtB a.fin) := by
  unfold autB wfB
  rw [← dst_srt]
  simp [Bool.and_assoc]
set_option maxRecDepth 100000 in
set_option maxHeartbeats 2000000 in
theorem iwfA_any (a : Aut) (a1 a2 : Option Addr) (c1 c2 : Nat) (w : World) (h1 : RdRows w (.slice a1 a.next.length c1) a.next) (h2 : RdInts w (.slice a2 a.fin.length c2) a.fin) :
    Calls Try.prog 99 #[.agg #[.int .i64 0, .slice none 0 0, .slice a2 a.fin.length c2, .int .i64 0, .slice a1 a.next.length c1]] w (BoolPost (wfB a) w) := by
  have q1 := (rdRows_cap h1).2
  have q2 := (rdInts_cap h2).2
  exact iwf_8 0 none a2 a1 0 0 a.fin.length c2 a.next.length c1 [] a.fin 0 a.next w (by omega) (by omega) (by omega) ⟨none, 0, rfl, Nat.le_refl _, by unfold maxLen; omega, .inl rfl⟩ h2 h1
set_option maxRecDepth 100000 in
set_option maxHeartbeats 2000000 in
theorem iValidAutomaton_any (v : Value) (a : Aut) (w : World) (h : RdAut w v a) :
    Calls Try.prog 50 #[v] w (BoolPost (autB a) w) := by
  obtain ⟨a1, a2, c1, c2, rfl, h1, h2⟩ := rdAut_slices h
  unfold BoolPost
  obtain ⟨W1, hW1⟩ : ∃ W1, w.alloc (.cells #[.slice a1 a.next.length c1, .slice a2 a.fin.length c2] 67) = W1 := ⟨_, rfl⟩
  have B1 : Below w.heap.size w W1 := by rw [← hW1]; exact (Below.refl _ _).alloc (Nat.le_refl _) _
  have bP : Blk2 W1 w.heap.size 67 (.slice a1 a.next.length c1) (.slice a2 a.fin.length c2) := by rw [← hW1]; exact Blk2.new w _ _ _
  have HR := Lib.hid (h1.below B1)
  have HA := Lib.hid (h2.below B1)
  have HB1 := Lib.hid B1
  have HW := Lib.hid hW1
  have HP := Lib.hid bP
  obtain ⟨p0, p1⟩ := bP.cell
  have HF := Lib.hid (aut_wf a)
  have HRU := Lib.hid (rule_any a a1 a2 c1 c2)
  have HWF := Lib.hid (fun (X : World) (b : Below W1.heap.size W1 X) => iwfA_any a a1 a2 c1 c2 X (HR.out.below b) (HA.out.below b))
  unfold BoolPost at HWF
  have HSO := Lib.hid (fun (X : World) (b : Below W1.heap.size W1 X) => isSorted_any _ a.fin X (HA.out.below b))
  obtain ⟨m, hm⟩ : ∃ m, m = a.next.length := ⟨_, rfl⟩
  obtain ⟨n, hn⟩ : ∃ n, n = a.fin.length := ⟨_, rfl⟩
  rw [← hm, ← hn] at HW HRU HWF
  rw [← hm] at p0
  rw [← hn] at p1 HSO
  rw [← hm, ← hn] at HP ⊢
  clear h h1 h2 hW1 B1 bP hm hn
  cases g0 : wfB a
  · rw [g0] at HF HWF
    have HF : Hid (autB a = false) := Lib.hid HF.out
    rw [HF.out]
    go_enter Try.func50, Try.ntmps50
    go_wp2_with (first | rw [HW.out] | (go_at_call 98; refine (HRU.out _).mono ?_; rintro e w2 ⟨rfl, b2⟩; have HB2 := Lib.hid b2; clear b2) | (go_at_call 99; refine (HWF.out _ HB2.out).mono ?_; rintro e w3 ⟨rfl, b3⟩; have HB3 := Lib.hid (HB2.out.trans (b3.mono HB2.out.size)); clear b3))
    go_ret
    exact ⟨rfl, HB1.out.trans (HB3.out.mono HB1.out.size)⟩
  · rw [g0] at HF HWF
    have HF : Hid (autB a = srtB a.fin) := Lib.hid (HF.out.trans (Bool.true_and _))
    rw [HF.out]
    go_enter Try.func50, Try.ntmps50
    go_wp2_with (first | rw [HW.out] | (go_at_call 98; refine (HRU.out _).mono ?_; rintro e w2 ⟨rfl, b2⟩; have HB2 := Lib.hid b2; clear b2) | (go_at_call 99; refine (HWF.out _ HB2.out).mono ?_; rintro e w3 ⟨rfl, b3⟩; have HB3 := Lib.hid (HB2.out.trans (b3.mono HB2.out.size)); obtain ⟨p2, p3⟩ := (HP.out.below HB3.out).cell; clear b3) | (go_at_call 100; refine (HSO.out _ HB3.out).mono ?_; rintro e w4 ⟨rfl, b4⟩; have HB4 := Lib.hid (HB3.out.trans (b4.mono HB3.out.size)); clear b4))
    go_ret
    exact ⟨rfl, HB1.out.trans (HB4.out.mono HB1.out.size)⟩
end Go.Proofs.Ytelglccegkhfcaa
