/- Valid diagrams: the plain test, and what both packages return. -/
import Derived.Test.YtjdbfiiaadphhaaR3
namespace Go.Proofs.Ytjdbfiiaadphhaa
open Go.ChangeShapes Go.WideShapes Go.ChangeAt Go.RowKit Go.Deep
set_option linter.unusedVariables false
set_option linter.unusedSimpArgs false

abbrev Dg := List (List (List Int))
def nxtD (d : Dg) (i : Nat) : Nat := if i + 1 < d.length then (d[i + 1]?.getD []).length else 1
def layB (d : Dg) (i : Nat) : Bool := rowsB (d[i]?.getD []) 6 (-1) ((nxtD d i : Int) - 1) && wiB (d[i]?.getD []).length 1 216
def dgB (d : Dg) : Bool := wiB d.length 1 4 && decide ((d[0]?.getD []).length = 1) && (List.range d.length).all (layB d)
theorem dgB_no {d : Dg} {i : Nat} (hi : i < d.length) (h : layB d i = false) : dgB d = false := by
  have : (List.range d.length).all (layB d) = false := by
    rw [Bool.eq_false_iff]
    intro hx
    have := List.all_eq_true.1 hx i (List.mem_range.2 hi)
    rw [h] at this
    cases this
  unfold dgB
  rw [this, Bool.and_false]
theorem dgB_all {d : Dg} (h : ∀ j, j < d.length → layB d j = true) : dgB d = (wiB d.length 1 4 && decide ((d[0]?.getD []).length = 1)) := by
  have : (List.range d.length).all (layB d) = true := List.all_eq_true.2 (fun i hi => h i (List.mem_range.1 hi))
  unfold dgB
  rw [this, Bool.and_true]
theorem dgB_parts {d : Dg} (h : dgB d = true) : 1 ≤ d.length ∧ d.length ≤ 4 ∧ (d[0]?.getD []).length = 1 ∧ ∀ j, j < d.length → layB d j = true := by
  unfold dgB at h
  simp only [Bool.and_eq_true, decide_eq_true_eq, List.all_eq_true, List.mem_range] at h
  have := wiB_in h.1.1
  exact ⟨by omega, by omega, h.1.2, h.2⟩
/-- A layer of a diagram, loaded. -/
theorem rdR3_at {w : World} {a : Option Addr} {n cap : Nat} {d : Dg} (h : RdR3 w (.slice a n cap) d) {i : Nat} (hi : i < n) : ∃ (b off : Nat) (a2 : Option Addr) (r c2 : Nat), a = some ⟨b, off, none⟩ ∧ w.cell? ⟨b, off + i, none⟩ = some (.slice a2 r c2) ∧ r = (d[i]?.getD []).length ∧ r ≤ c2 ∧ c2 ≤ 9223372036854775807 ∧ RdRows w (.slice a2 r c2) (d[i]?.getD []) := by
  obtain ⟨a', cap', e, h1, h2, h3⟩ := h
  simp at e
  obtain ⟨rfl, rfl, rfl⟩ := e
  rcases h3 with h3 | ⟨b, off, rfl, h3⟩
  · omega
  · obtain ⟨u, hu, hr⟩ := h3 i hi
    have hr0 := hr
    obtain ⟨a2, c2, rfl, q1, q2, _⟩ := hr
    unfold maxLen at q2
    exact ⟨b, off, a2, _, c2, rfl, hu, rfl, q1, q2, hr0⟩
/-- A row of rows, loaded. -/
theorem rdRows_at' {w : World} {a : Option Addr} {n cap : Nat} {rows : List (List Int)} (h : RdRows w (.slice a n cap) rows) {i : Nat} (hi : i < n) : ∃ (b off : Nat) (a2 : Option Addr) (r c2 : Nat), a = some ⟨b, off, none⟩ ∧ w.cell? ⟨b, off + i, none⟩ = some (.slice a2 r c2) ∧ r = (rows[i]?.getD []).length ∧ r ≤ c2 ∧ c2 ≤ 9223372036854775807 ∧ RdInts w (.slice a2 r c2) (rows[i]?.getD []) := by
  obtain ⟨a', cap', e, h1, h2, h3⟩ := h
  simp at e
  obtain ⟨rfl, rfl, rfl⟩ := e
  rcases h3 with h3 | ⟨b, off, rfl, h3⟩
  · omega
  · obtain ⟨u, hu, hr⟩ := h3 i hi
    have hr0 := hr
    obtain ⟨a2, c2, rfl, q1, q2, _⟩ := hr
    unfold maxLen at q2
    exact ⟨b, off, a2, _, c2, rfl, hu, rfl, q1, q2, hr0⟩
theorem rowsB_step {rows : List (List Int)} {n lo hi : Int} {k : Nat} (h : ∀ j, j < k → ((rows[j]?.getD []).length : Int) = n ∧ allB (rows[j]?.getD []) lo hi = true) (h1 : ((rows[k]?.getD []).length : Int) = n) (h2 : allB (rows[k]?.getD []) lo hi = true) : ∀ j, j < k + 1 → ((rows[j]?.getD []).length : Int) = n ∧ allB (rows[j]?.getD []) lo hi = true := fun j hj => by
  by_cases e : j = k
  · subst e; exact ⟨h1, h2⟩
  · exact h j (by omega)

set_option maxRecDepth 100000 in
set_option maxHeartbeats 8000000 in
theorem svalidDiagram_any (v : Value) (d : Dg) (w : World) (h : RdR3 w v d) :
    Calls Try.prog 68 #[v] w fun e w' => e = .returned (.bool (dgB d)) ∧ w = w' := by
  have H := Lib.hid h
  obtain ⟨a, cap, ev, hl, hm, _⟩ := h
  unfold maxLen at hm
  rw [ev] at H ⊢
  obtain ⟨n, hn⟩ : ∃ n, n = d.length := ⟨_, rfl⟩
  have HN := Lib.hid hn
  rw [← hn] at hl H ⊢
  clear hn ev
  go_enter Try.func68, Try.ntmps68
  go_wp2
  go_loop [3] (fun i => ∃ k : Nat, k ≤ n ∧ i = .int .i64 k ∧ Hid (∀ j, j < k → layB d j = true)) (fun i => n - (intOf i).toNat)
  case atStart => exact ⟨0, Nat.zero_le _, rfl, fun j hj => by omega⟩
  case round =>
    obtain ⟨k, hk, rfl, HE⟩ := hrel
    by_cases hlt : k < n
    · obtain ⟨b, off, a2, r, c2, rfl, q1, hr, hrc, hc2, hrows⟩ := rdR3_at H.out hlt
      have HR := Lib.hid hrows
      have HRL := Lib.hid hr
      clear hrows hr
      by_cases hk1 : k + 1 < n
      · obtain ⟨b', off', a3, nx, c3, e3, q2, hnx, hnc, hc3, -⟩ := rdR3_at H.out hk1
        simp at e3
        obtain ⟨rfl, rfl⟩ := e3
        have HNX : Hid (nxtD d k = nx) := Lib.hid (by unfold nxtD; rw [if_pos (by have := HN.out; omega), hnx])
        clear hnx
        have HLB : Hid (layB d k = (rowsB (d[k]?.getD []) 6 (-1) ((nx : Int) - 1) && wiB (d[k]?.getD []).length 1 216)) := Lib.hid (by unfold layB; rw [HNX.out])
        go_wp2
        go_loop [5] (fun i => ∃ j : Nat, j ≤ r ∧ i = .int .i64 j ∧ Hid (∀ t, t < j → (((d[k]?.getD [])[t]?.getD []).length : Int) = 6 ∧ allB ((d[k]?.getD [])[t]?.getD []) (-1) ((nx : Int) - 1) = true)) (fun i => r - (intOf i).toNat)
        case atStart => exact ⟨0, Nat.zero_le _, rfl, fun j hj => by omega⟩
        case round =>
          obtain ⟨j, hj, rfl, HJ⟩ := hrel
          by_cases hjr : j < r
          · obtain ⟨b4, o4, a4, rl, c4, rfl, q4, hrl, hr4, hc4, hrow⟩ := rdRows_at' HR.out hjr
            have HW := Lib.hid hrow
            have HWL := Lib.hid hrl
            clear hrow hrl
            by_cases h6 : (rl : Int) = 6
            · have hb : ((rl : Int) != 6) = false := by simp [h6]
              have HL6 := Lib.hid h6
              clear h6
              cases hw : allB ((d[k]?.getD [])[j]?.getD []) (-1) ((nx : Int) - 1)
              · have HF : Hid (dgB d = false) := Lib.hid (dgB_no (i := k) (by have := HN.out; omega) (by
                  rw [HLB.out]
                  rw [rowsB_false (j := j) (by have := HRL.out; omega) (.inr hw)]
                  rfl))
                go_wp2_with (go_at_call 74; refine (allInRange_any _ _ _ _ _ HW.out).mono ?_; rintro e w' ⟨rfl, rfl⟩)
                go_ret
                exact ⟨ret_bool HF.out.symm, rfl⟩
              · have HJ2 := Lib.hid (rowsB_step HJ.out (by have := HL6.out; have := HWL.out; omega) hw)
                go_wp2_with (go_at_call 74; refine (allInRange_any _ _ _ _ _ HW.out).mono ?_; rintro e w' ⟨rfl, rfl⟩)
                go_round
                case rel => exact ⟨j + 1, by omega, by go_num, HJ2⟩
                case measure => simp [intOf]; omega
            · have hb : ((rl : Int) != 6) = true := by simp [h6]
              have HF : Hid (dgB d = false) := Lib.hid (dgB_no (i := k) (by have := HN.out; omega) (by
                rw [HLB.out]
                rw [rowsB_false (j := j) (by have := HRL.out; omega) (.inl (by have := HWL.out; omega))]
                rfl))
              clear h6
              go_wp2
              go_ret
              exact ⟨ret_bool HF.out.symm, rfl⟩
          · obtain rfl : j = r := by omega
            have HRB := Lib.hid (rowsB_true (rows := d[k]?.getD []) (n := 6) (lo := -1) (hi := (nx : Int) - 1) (fun t ht => HJ.out t (by have := HRL.out; omega)))
            cases hw : wiB j 1 216
            · have HF : Hid (dgB d = false) := Lib.hid (dgB_no (i := k) (by have := HN.out; omega) (by
                rw [HLB.out]
                rw [← HRL.out, hw, Bool.and_false]))
              go_wp2_with (go_at_call 79; refine (inRange_any _ _ _ _).mono ?_; rintro e w' ⟨rfl, rfl⟩)
              go_ret
              exact ⟨ret_bool HF.out.symm, rfl⟩
            · have HE2 : Hid (∀ t, t < k + 1 → layB d t = true) := Lib.hid (fun t ht => by
                by_cases e : t = k
                · subst e
                  rw [HLB.out]
                  rw [← HRL.out, hw]
                  exact (Bool.and_eq_true _ _).symm ▸ ⟨HRB.out, rfl⟩
                · exact HE.out t (by omega))
              go_wp2_with (go_at_call 79; refine (inRange_any _ _ _ _).mono ?_; rintro e w' ⟨rfl, rfl⟩)
              go_round
              case rel => exact ⟨k + 1, by omega, by go_num, HE2⟩
              case measure => simp [intOf]; omega
      · have HNX : Hid (nxtD d k = 1) := Lib.hid (by unfold nxtD; rw [if_neg (by have := HN.out; omega)])
        have HLB : Hid (layB d k = (rowsB (d[k]?.getD []) 6 (-1) 0 && wiB (d[k]?.getD []).length 1 216)) := Lib.hid (by unfold layB; rw [HNX.out]; rfl)
        go_wp2
        go_loop [5] (fun i => ∃ j : Nat, j ≤ r ∧ i = .int .i64 j ∧ Hid (∀ t, t < j → (((d[k]?.getD [])[t]?.getD []).length : Int) = 6 ∧ allB ((d[k]?.getD [])[t]?.getD []) (-1) (0) = true)) (fun i => r - (intOf i).toNat)
        case atStart => exact ⟨0, Nat.zero_le _, rfl, fun j hj => by omega⟩
        case round =>
          obtain ⟨j, hj, rfl, HJ⟩ := hrel
          by_cases hjr : j < r
          · obtain ⟨b4, o4, a4, rl, c4, rfl, q4, hrl, hr4, hc4, hrow⟩ := rdRows_at' HR.out hjr
            have HW := Lib.hid hrow
            have HWL := Lib.hid hrl
            clear hrow hrl
            by_cases h6 : (rl : Int) = 6
            · have hb : ((rl : Int) != 6) = false := by simp [h6]
              have HL6 := Lib.hid h6
              clear h6
              cases hw : allB ((d[k]?.getD [])[j]?.getD []) (-1) (0)
              · have HF : Hid (dgB d = false) := Lib.hid (dgB_no (i := k) (by have := HN.out; omega) (by
                  rw [HLB.out]
                  rw [rowsB_false (j := j) (by have := HRL.out; omega) (.inr hw)]
                  rfl))
                go_wp2_with (go_at_call 74; refine (allInRange_any _ _ _ _ _ HW.out).mono ?_; rintro e w' ⟨rfl, rfl⟩)
                go_ret
                exact ⟨ret_bool HF.out.symm, rfl⟩
              · have HJ2 := Lib.hid (rowsB_step HJ.out (by have := HL6.out; have := HWL.out; omega) hw)
                go_wp2_with (go_at_call 74; refine (allInRange_any _ _ _ _ _ HW.out).mono ?_; rintro e w' ⟨rfl, rfl⟩)
                go_round
                case rel => exact ⟨j + 1, by omega, by go_num, HJ2⟩
                case measure => simp [intOf]; omega
            · have hb : ((rl : Int) != 6) = true := by simp [h6]
              have HF : Hid (dgB d = false) := Lib.hid (dgB_no (i := k) (by have := HN.out; omega) (by
                rw [HLB.out]
                rw [rowsB_false (j := j) (by have := HRL.out; omega) (.inl (by have := HWL.out; omega))]
                rfl))
              clear h6
              go_wp2
              go_ret
              exact ⟨ret_bool HF.out.symm, rfl⟩
          · obtain rfl : j = r := by omega
            have HRB := Lib.hid (rowsB_true (rows := d[k]?.getD []) (n := 6) (lo := -1) (hi := 0) (fun t ht => HJ.out t (by have := HRL.out; omega)))
            cases hw : wiB j 1 216
            · have HF : Hid (dgB d = false) := Lib.hid (dgB_no (i := k) (by have := HN.out; omega) (by
                rw [HLB.out]
                rw [← HRL.out, hw, Bool.and_false]))
              go_wp2_with (go_at_call 79; refine (inRange_any _ _ _ _).mono ?_; rintro e w' ⟨rfl, rfl⟩)
              go_ret
              exact ⟨ret_bool HF.out.symm, rfl⟩
            · have HE2 : Hid (∀ t, t < k + 1 → layB d t = true) := Lib.hid (fun t ht => by
                by_cases e : t = k
                · subst e
                  rw [HLB.out]
                  rw [← HRL.out, hw]
                  exact (Bool.and_eq_true _ _).symm ▸ ⟨HRB.out, rfl⟩
                · exact HE.out t (by omega))
              go_wp2_with (go_at_call 79; refine (inRange_any _ _ _ _).mono ?_; rintro e w' ⟨rfl, rfl⟩)
              go_round
              case rel => exact ⟨k + 1, by omega, by go_num, HE2⟩
              case measure => simp [intOf]; omega
    · obtain rfl : k = n := by omega
      have HF := Lib.hid (dgB_all (d := d) (fun j hj => HE.out j (by have := HN.out; omega)))
      cases hw : wiB k 1 4
      · go_wp2_with (go_at_call 79; refine (inRange_any _ _ _ _).mono ?_; rintro e w' ⟨rfl, rfl⟩)
        go_ret
        exact ⟨ret_bool (by rw [HF.out, ← HN.out, hw]; rfl), rfl⟩
      · have h1 := wiB_in hw
        obtain ⟨b, off, a2, r, c2, rfl, q1, hr, hrc, hc2, -⟩ := rdR3_at H.out (show 0 < k by omega)
        rw [Nat.add_zero] at q1
        have HRL := Lib.hid hr
        have hk0 : 0 < k := by omega
        clear hr h1
        go_wp2_with (go_at_call 79; refine (inRange_any _ _ _ _).mono ?_; rintro e w' ⟨rfl, rfl⟩)
        go_ret
        refine ⟨ret_bool ?_, rfl⟩
        rw [HF.out, ← HN.out, hw, ← HRL.out]
        rw [Bool.eq_iff_iff]
        simp
        omega

set_option maxRecDepth 100000 in
theorem layerSize_any (v : Value) (d : Dg) (i : Nat) (w : World) (h : RdR3 w v d) (hi : i ≤ d.length) :
    Calls Try.prog 72 #[v, .int .i64 i] w fun e w' => e = .returned (.int .i64 (((if i < d.length then (d[i]?.getD []).length else 1 : Nat)) : Int)) ∧ w = w' := by
  have H := Lib.hid h
  obtain ⟨a, cap, ev, hl, hm, _⟩ := h
  unfold maxLen at hm
  rw [ev] at H ⊢
  obtain ⟨n, hn⟩ : ∃ n, n = d.length := ⟨_, rfl⟩
  rw [← hn] at hl H hi ⊢
  clear hn ev
  by_cases hin : i < n
  · obtain ⟨b, off, a2, r, c2, rfl, q1, hr, hrc, hc2, -⟩ := rdR3_at H.out hin
    rw [if_pos hin, ← hr]
    have he : ((i : Int) == (n : Int)) = false := by simp; omega
    clear hr
    go_enter Try.func72, Try.ntmps72
    go_wp2
    go_ret
    exact ⟨rfl, rfl⟩
  · rw [if_neg hin]
    have he : ((i : Int) == (n : Int)) = true := by simp; omega
    go_enter Try.func72, Try.ntmps72
    go_wp2
    go_ret
    exact ⟨rfl, rfl⟩

set_option maxRecDepth 100000 in
set_option maxHeartbeats 8000000 in
theorem iValidDiagram_any (v : Value) (d : Dg) (w : World) (h : RdR3 w v d) :
    Calls Try.prog 21 #[v] w fun e w' => e = .returned (.bool (dgB d)) ∧ w = w' := by
  have H := Lib.hid h
  obtain ⟨a, cap, ev, hl, hm, _⟩ := h
  unfold maxLen at hm
  rw [ev] at H ⊢
  obtain ⟨n, hn⟩ : ∃ n, n = d.length := ⟨_, rfl⟩
  have HN := Lib.hid hn
  rw [← hn] at hl H ⊢
  clear hn ev
  cases hw : wiB n 1 4
  · have HF : Hid (dgB d = false) := Lib.hid (by unfold dgB; rw [← HN.out, hw]; rfl)
    go_enter Try.func21, Try.ntmps21
    go_wp2_with (go_at_call 70; refine (within_any _ _ _ _).mono ?_; rintro e w' ⟨rfl, rfl⟩)
    go_ret
    exact ⟨ret_bool HF.out.symm, rfl⟩
  have hn4 := wiB_in hw
  obtain ⟨b, off, a2, r, c2, rfl, q1, hr, hrc, hc2, -⟩ := rdR3_at H.out (show 0 < n by omega)
  rw [Nat.add_zero] at q1
  have HR0 := Lib.hid hr
  clear hr
  by_cases hr1 : (r : Int) = 1
  · have hb : ((r : Int) != 1) = false := by simp [hr1]
    have HR1 := Lib.hid hr1
    clear hr1
    go_enter Try.func21, Try.ntmps21
    go_wp2_with (go_at_call 70; refine (within_any _ _ _ _).mono ?_; rintro e w' ⟨rfl, rfl⟩)
    clear q1 hb
    go_loop [18] (fun i => ∃ k : Nat, k ≤ n ∧ i = .int .i64 k ∧ Hid (∀ j, j < k → layB d j = true)) (fun i => n - (intOf i).toNat)
    case atStart => exact ⟨0, Nat.zero_le _, rfl, fun j hj => by omega⟩
    case round =>
      obtain ⟨k, hk, rfl, HE⟩ := hrel
      by_cases hlt : k < n
      · obtain ⟨b', off', a3, s, c3, e3, q3, hs, hsc, hc3, hrows⟩ := rdR3_at H.out hlt
        simp at e3
        obtain ⟨rfl, rfl⟩ := e3
        have HR := Lib.hid hrows
        have HRL := Lib.hid hs
        clear hrows hs
        cases hws : wiB s 1 216
        · have HF : Hid (dgB d = false) := Lib.hid (dgB_no (i := k) (by have := HN.out; omega) (by
            unfold layB
            rw [← HRL.out, hws, Bool.and_false]))
          go_wp2_with (go_at_call 70; refine (within_any _ _ _ _).mono ?_; rintro e w' ⟨rfl, rfl⟩)
          go_ret
          exact ⟨ret_bool HF.out.symm, rfl⟩
        · have HLS : Hid (Calls Try.prog 72 #[.slice (some ⟨b, off, none⟩) n cap, .int .i64 ((k : Int) + 1)] w fun e w' => e = .returned (.int .i64 ((nxtD d k : Nat) : Int)) ∧ w = w') := Lib.hid (layerSize_any _ d (k + 1) w H.out (by have := HN.out; omega))
          obtain ⟨nx, hnx⟩ : ∃ nx, nx = nxtD d k := ⟨_, rfl⟩
          have hnx8 : nx ≤ 9223372036854775807 := by
            rw [hnx]
            unfold nxtD
            split
            · rename_i hh
              obtain ⟨_, _, _, _, c9, _, _, e9, h9, h9', _⟩ := rdR3_at H.out (show k + 1 < n by have := HN.out; omega)
              omega
            · omega
          rw [← hnx] at HLS
          have HNX := Lib.hid hnx.symm
          clear hnx
          cases hrb : rowsB (d[k]?.getD []) 6 (-1) ((nx : Int) - 1)
          · have HF : Hid (dgB d = false) := Lib.hid (dgB_no (i := k) (by have := HN.out; omega) (by
              unfold layB
              rw [HNX.out, hrb]
              rfl))
            go_wp2_with (first | (go_at_call 70; refine (within_any _ _ _ _).mono ?_; rintro e w' ⟨rfl, rfl⟩) | (go_at_call 72; refine HLS.out.mono ?_; rintro e w' ⟨rfl, rfl⟩) | (go_at_call 71; refine (listsWithin_any _ (d[k]?.getD []) _ _ _ _ HR.out).mono ?_; rintro e w' ⟨rfl, rfl⟩))
            go_ret
            exact ⟨ret_bool HF.out.symm, rfl⟩
          · have HE2 : Hid (∀ t, t < k + 1 → layB d t = true) := Lib.hid (fun t ht => by
              by_cases e : t = k
              · subst e
                unfold layB
                rw [HNX.out, hrb, ← HRL.out, hws]
                rfl
              · exact HE.out t (by omega))
            go_wp2_with (first | (go_at_call 70; refine (within_any _ _ _ _).mono ?_; rintro e w' ⟨rfl, rfl⟩) | (go_at_call 72; refine HLS.out.mono ?_; rintro e w' ⟨rfl, rfl⟩) | (go_at_call 71; refine (listsWithin_any _ (d[k]?.getD []) _ _ _ _ HR.out).mono ?_; rintro e w' ⟨rfl, rfl⟩))
            go_round
            case rel => exact ⟨k + 1, by omega, by go_num, HE2⟩
            case measure => simp [intOf]; omega
      · obtain rfl : k = n := by omega
        have HF : Hid (dgB d = true) := Lib.hid (by
          rw [dgB_all (fun j hj => HE.out j (by have := HN.out; omega)), ← HN.out, hw, ← HR0.out]
          have := HR1.out
          simp
          omega)
        go_wp2
        go_ret
        exact ⟨ret_bool HF.out.symm, rfl⟩
  · have hb : ((r : Int) != 1) = true := by simp [hr1]
    have HF : Hid (dgB d = false) := Lib.hid (by
      unfold dgB
      rw [← HR0.out, decide_eq_false (by omega), Bool.and_false, Bool.false_and])
    clear hr1
    go_enter Try.func21, Try.ntmps21
    go_wp2_with (go_at_call 70; refine (within_any _ _ _ _).mono ?_; rintro e w' ⟨rfl, rfl⟩)
    go_ret
    exact ⟨ret_bool HF.out.symm, rfl⟩
end Go.Proofs.Ytjdbfiiaadphhaa
