/- When a store is valid, in both packages; its current domains. -/
import Derived.Test.YtfajiaoddcjieaaSto
import Derived.Test.YtfajiaoddcjieaaSupS
import Derived.Test.YtfajiaoddcjieaaModV
import Derived.Deep.QuietTactic
namespace Go.Proofs.Ytfajiaoddcjieaa
open Go.ChangeShapes Go.WideShapes Go.ChangeAt Go.RowKit
set_option linter.unusedVariables false
set_option linter.unusedSimpArgs false

theorem wrap_sub1 {j : Nat} (h : j ≤ 1048576) : IntKind.i64.wrap (((j + 1 : Nat) : Int) - 1) = (j : Int) := by
  rw [show ((j + 1 : Nat) : Int) - 1 = (j : Int) by omega]
  rw [show (j : Int) = ((j : Nat) : Int) from rfl]
  simp [IntKind.wrap, IntKind.bits, IntKind.signed]
  omega
theorem rdRows_atS {w : World} {a : Option Addr} {n cap : Nat} {rows : List (List Int)} (h : RdRows w (.slice a n cap) rows) {i : Nat} (hi : i < n) : ∃ (b off : Nat) (a2 : Option Addr) (r c2 : Nat), a = some ⟨b, off, none⟩ ∧ w.cell? ⟨b, off + i, none⟩ = some (.slice a2 r c2) ∧ r = (rows[i]?.getD []).length ∧ r ≤ c2 ∧ c2 ≤ 9223372036854775807 ∧ RdInts w (.slice a2 r c2) (rows[i]?.getD []) := by
  obtain ⟨a', cap', e, h1, h2, h3⟩ := h
  simp at e
  obtain ⟨rfl, rfl, rfl⟩ := e
  rcases h3 with h3 | ⟨b, off, rfl, h3⟩
  · omega
  · obtain ⟨u, hu, hr⟩ := h3 i hi
    have hr0 := hr
    obtain ⟨a2, c2, rfl, q1, q2, _⟩ := hr
    unfold maxLen at q2
    exact ⟨b, off, a2, _, c2, rfl, hu, rfl, q1, by omega, hr0⟩

/-- The store is valid. -/
def stB (s : Sto) : Bool := vmB s.m && wiB s.levels.length 1 12 && rowsB s.levels s.m.doms.length 0 63
theorem vmB_len {m : Mod} (h : vmB m = true) : wiB m.doms.length 1 4 = true := by
  unfold vmB at h
  simp only [Bool.and_eq_true] at h
  exact h.1.1.1
theorem stB_row {s : Sto} {j : Nat} (hj : j < s.levels.length) (h : ((s.levels[j]?.getD []).length : Int) ≠ s.m.doms.length ∨ (wiB (s.levels[j]?.getD []).length 1 4 && allB (s.levels[j]?.getD []) 0 63) = false) : stB s = false := by
  unfold stB
  cases hv : vmB s.m
  · rfl
  have hl := vmB_len hv
  rw [rowsB_false hj (by
    rcases h with h | h
    · exact .inl h
    · by_cases e : ((s.levels[j]?.getD []).length : Int) = s.m.doms.length
      · right
        rw [e, hl, Bool.true_and] at h
        exact h
      · exact .inl e)]
  simp
theorem stB_rows {s : Sto} (h : ∀ j, j < s.levels.length → ((s.levels[j]?.getD []).length : Int) = s.m.doms.length ∧ (wiB (s.levels[j]?.getD []).length 1 4 && allB (s.levels[j]?.getD []) 0 63) = true) : stB s = (vmB s.m && wiB s.levels.length 1 12) := by
  unfold stB
  rw [rowsB_true (fun j hj => ⟨(h j hj).1, by have := (h j hj).2; rw [Bool.and_eq_true] at this; exact this.2⟩), Bool.and_true]
theorem stB_at {s : Sto} (h : stB s = true) : vmB s.m = true ∧ 1 ≤ s.levels.length ∧ s.levels.length ≤ 12 ∧ ∀ r ∈ s.levels, r.length = s.m.doms.length ∧ allB r 0 63 = true := by
  unfold stB at h
  simp only [Bool.and_eq_true] at h
  obtain ⟨⟨h1, h2⟩, h3⟩ := h
  have h2' := wiB_in h2
  refine ⟨h1, by omega, by omega, fun r hr => ?_⟩
  unfold rowsB at h3
  have := List.all_eq_true.1 h3 r hr
  simp only [Bool.and_eq_true, decide_eq_true_eq] at this
  exact ⟨by omega, this.2⟩

set_option maxRecDepth 100000 in
set_option maxHeartbeats 4000000 in
theorem iVS_any (s : Sto) (v : Value) (w : World) (h : RdStore w v s) (hm : StoreLe s 1048576) :
    Calls Try.prog 16 #[v] w (BoolPost (stB s) w) := by
  obtain ⟨a1, a2, a3, c1, c2, c3, rfl, g1, g2, g3⟩ := rdStore_slices h
  obtain ⟨W1, hW1⟩ : ∃ W1, w.alloc (.cells #[.slice a1 s.m.doms.length c1, .slice a2 s.m.cons.length c2, .slice a3 s.levels.length c3] 35) = W1 := ⟨_, rfl⟩
  have B1 : Below w.heap.size w W1 := by rw [← hW1]; exact (Below.refl _ _).alloc (Nat.le_refl _) _
  have bP : Blk3 W1 w.heap.size 35 (.slice a1 s.m.doms.length c1) (.slice a2 s.m.cons.length c2) (.slice a3 s.levels.length c3) := by rw [← hW1]; exact Blk3.new w _ _ _ _
  have HM := Lib.hid (ivm_any s.m _ W1 (show RdModel W1 (.agg #[.slice a1 s.m.doms.length c1, .slice a2 s.m.cons.length c2]) s.m from ⟨_, _, rfl, g1.below B1, g2.below B1⟩) hm.1)
  have H3 := Lib.hid (g3.below B1)
  obtain ⟨n, hn⟩ : ∃ n, n = s.m.doms.length := ⟨_, rfl⟩
  obtain ⟨k, hk⟩ : ∃ k, k = s.levels.length := ⟨_, rfl⟩
  obtain ⟨n2, hn2⟩ : ∃ k, k = s.m.cons.length := ⟨_, rfl⟩
  have hc1 := (rdInts_cap (hn ▸ g1)).2
  obtain ⟨q, hq⟩ : ∃ q, q = stB s := ⟨_, rfl⟩
  have HQ := Lib.hid hq
  rw [← hq]
  unfold stB at HQ
  rw [← hn, ← hk] at HQ
  rw [← hn, ← hn2] at HM
  rw [← hk] at H3
  rw [← hn, ← hn2, ← hk] at bP hW1 ⊢
  have HB1 := Lib.hid B1
  have HP := Lib.hid bP
  have HW := Lib.hid hW1
  obtain ⟨p0, p1, p2⟩ := bP.cell
  clear h hm g1 g2 g3 B1 bP hW1 hn hk hq hn2
  unfold BoolPost at HM ⊢
  cases hv : vmB s.m
  · rw [hv] at HM HQ
    go_enter Try.func16, Try.ntmps16
    go_wp2_with (rw [HW.out])
    refine HM.out.mono ?_
    rintro e w2 ⟨rfl, b⟩
    have HB2 := Lib.hid (HB1.out.trans (b.mono HB1.out.size))
    clear b
    go_wp2
    go_ret
    exact ⟨ret_bool (by rw [HQ.out]; rfl), HB2.out⟩
  · rw [hv] at HM HQ
    cases hk : wiB k 1 12
    · rw [hk] at HQ
      go_enter Try.func16, Try.ntmps16
      go_wp2_with (rw [HW.out])
      refine HM.out.mono ?_
      rintro e w2 ⟨rfl, b⟩
      have HB2 := Lib.hid (HB1.out.trans (b.mono HB1.out.size))
      clear p0 p1 p2
      obtain ⟨p0, p1, p2⟩ := (HP.out.below b).cell
      clear b
      go_wp2_with (go_at_call 66; refine (within_any _ _ _ _).mono ?_; rintro e w' ⟨rfl, rfl⟩; rw [hk])
      go_ret
      exact ⟨ret_bool (by rw [HQ.out]; rfl), HB2.out⟩
    · rw [hk] at HQ
      go_enter Try.func16, Try.ntmps16
      go_wp2_with (rw [HW.out])
      refine HM.out.mono ?_
      rintro e w2 ⟨rfl, b⟩
      have HB2 := Lib.hid (HB1.out.trans (b.mono HB1.out.size))
      have H32 := Lib.hid (H3.out.below b)
      clear p0 p1 p2
      obtain ⟨p0, p1, p2⟩ := (HP.out.below b).cell
      clear b
      go_wp2_with (first | (go_at_call 66; refine (within_any _ _ _ _).mono ?_; rintro e w' ⟨rfl, rfl⟩; rw [hk]) | (go_at_call 67; refine (listsWithin_any _ s.levels n 0 63 _ H32.out).mono ?_; rintro e w' ⟨rfl, rfl⟩))
      go_ret
      exact ⟨ret_bool (by rw [HQ.out]; simp), HB2.out⟩

set_option maxRecDepth 100000 in
set_option maxHeartbeats 4000000 in
theorem sVS_any (s : Sto) (v : Value) (w : World) (h : RdStore w v s) (hm : StoreLe s 1048576) :
    Calls Try.prog 63 #[v] w (BoolPost (stB s) w) := by
  obtain ⟨a1, a2, a3, c1, c2, c3, rfl, g1, g2, g3⟩ := rdStore_slices h
  obtain ⟨W1, hW1⟩ : ∃ W1, w.alloc (.cells #[.slice a1 s.m.doms.length c1, .slice a2 s.m.cons.length c2, .slice a3 s.levels.length c3] 35) = W1 := ⟨_, rfl⟩
  have B1 : Below w.heap.size w W1 := by rw [← hW1]; exact (Below.refl _ _).alloc (Nat.le_refl _) _
  have bP : Blk3 W1 w.heap.size 35 (.slice a1 s.m.doms.length c1) (.slice a2 s.m.cons.length c2) (.slice a3 s.levels.length c3) := by rw [← hW1]; exact Blk3.new w _ _ _ _
  have HM := Lib.hid (fun (W : World) (hb : Below W1.heap.size W1 W) => svm_any s.m _ W ((show RdModel W1 (.agg #[.slice a1 s.m.doms.length c1, .slice a2 s.m.cons.length c2]) s.m from ⟨_, _, rfl, g1.below B1, g2.below B1⟩).below hb) hm.1)
  have H3 := Lib.hid (g3.below B1)
  obtain ⟨n, hn⟩ : ∃ n, n = s.m.doms.length := ⟨_, rfl⟩
  obtain ⟨k, hk⟩ : ∃ k, k = s.levels.length := ⟨_, rfl⟩
  obtain ⟨n2, hn2⟩ : ∃ k, k = s.m.cons.length := ⟨_, rfl⟩
  have hc1 := (rdInts_cap (hn ▸ g1)).2
  have hc3 : k ≤ c3 ∧ c3 ≤ 9223372036854775807 := by obtain ⟨_, _, e, q1, q2, _⟩ := id g3; simp at e; obtain ⟨-, -, rfl⟩ := e; unfold maxLen at q2; omega
  obtain ⟨q, hq⟩ : ∃ q, q = stB s := ⟨_, rfl⟩
  have HQ := Lib.hid hq
  rw [← hq]
  have HN := Lib.hid hn
  have HK := Lib.hid hk
  rw [← hn, ← hn2] at HM
  rw [← hk] at H3
  rw [← hn, ← hn2, ← hk] at bP hW1 ⊢
  have HB1 := Lib.hid B1
  have HP := Lib.hid bP
  have HW := Lib.hid hW1
  obtain ⟨p0, p1, p2⟩ := bP.cell
  clear h hm g1 g2 g3 B1 bP hW1 hn hk hq hn2
  unfold BoolPost at HM ⊢
  go_enter Try.func63, Try.ntmps63
  go_wp2_with (rw [HW.out])
  go_loopw [3] (fun i wr => ∃ j nq : Nat, j ≤ k ∧ i = .int .i64 j ∧ wr = W1.drewN nq ∧ Hid (∀ q, q < j → ((s.levels[q]?.getD []).length : Int) = s.m.doms.length ∧ (wiB (s.levels[q]?.getD []).length 1 4 && allB (s.levels[q]?.getD []) 0 63) = true)) (fun i _ => k - (intOf i).toNat)
  case atStart => exact ⟨0, 0, Nat.zero_le _, rfl, rfl, Lib.hid (fun j hj => by omega)⟩
  case round =>
    obtain ⟨j, nq, hj, rfl, hwr, HE⟩ := hrel
    have p0' : wr.cell? ⟨w.heap.size, 0, none⟩ = some (.slice a1 n c1) := by rw [hwr]; exact p0
    have p2' : wr.cell? ⟨w.heap.size, 2, none⟩ = some (.slice a3 k c3) := by rw [hwr]; exact p2
    have HW9 := Lib.hid hwr
    by_cases hlt : j < k
    · obtain ⟨b, off, a2', r, c2', rfl, hc, hr, hrc, hcm, hrd⟩ := rdRows_atS H3.out hlt
      have hc' : wr.cell? ⟨b, off + j, none⟩ = some (.slice a2' r c2') := by rw [hwr]; exact hc
      have HR := Lib.hid hr
      have HRD : Hid (RdInts wr (.slice a2' r c2') (s.levels[j]?.getD [])) := Lib.hid (by rw [hwr]; exact hrd)
      clear hr hrd hc hwr
      by_cases hne : r = n
      · subst hne
        have hn2 : ((r : Int) != (r : Int)) = false := by simp
        cases hvd : (wiB (s.levels[j]?.getD []).length 1 4 && allB (s.levels[j]?.getD []) 0 63)
        · have HF : Hid (q = false) := Lib.hid (by rw [HQ.out]; exact stB_row (by have := HK.out; omega) (.inr hvd))
          have HVD := Lib.hid hvd
          clear hvd
          go_wp2_with fail
          go_quiet ((go_at_call 119; exact Calls.quiet_of ((svalidDomains_any _ (s.levels[j]?.getD []) _ (HRD.out.drewN _)).mono (fun e w' ⟨he, hw'⟩ => ⟨he.trans (ret_bool HVD.out), 0, hw'.symm⟩))))
          go_wp2
          go_ret
          exact ⟨ret_bool HF.out.symm, by rw [HW9.out]; exact below_drewN' (below_drewN' HB1.out _) _⟩
        · have HX := Lib.hid (And.intro (show ((s.levels[j]?.getD []).length : Int) = s.m.doms.length by have := HR.out; have := HN.out; omega) hvd)
          have HVD := Lib.hid hvd
          clear hvd
          go_wp2_with fail
          go_quiet ((go_at_call 119; exact Calls.quiet_of ((svalidDomains_any _ (s.levels[j]?.getD []) _ (HRD.out.drewN _)).mono (fun e w' ⟨he, hw'⟩ => ⟨he.trans (ret_bool HVD.out), 0, hw'.symm⟩))))
          go_wp2
          go_roundw
          case rel => exact ⟨j + 1, _, by omega, by go_num, by rw [HW9.out, World.drewN_drewN], Lib.hid (fun i hi => by by_cases e : i = j; (· subst e; exact HX.out); (· exact HE.out i (by omega)))⟩
          case measure => simp [intOf]; omega
      · have hn2 : ((r : Int) != (n : Int)) = true := by simp; omega
        have HF : Hid (q = false) := Lib.hid (by rw [HQ.out]; exact stB_row (s := s) (j := j) (by have := HK.out; omega) (.inl (by have := HR.out; have := HN.out; omega)))
        clear hne
        go_wp2_with fail
        go_quiet (fail)
        go_wp2
        go_ret
        exact ⟨ret_bool HF.out.symm, by rw [HW9.out]; exact below_drewN' (below_drewN' HB1.out _) _⟩
    · obtain rfl : j = k := by omega
      have HF : Hid (q = (vmB s.m && wiB j 1 12)) := Lib.hid (by rw [HQ.out, stB_rows (s := s) (fun i hi => HE.out i (by have := HK.out; omega)), ← HK.out])
      have hb0 : Below W1.heap.size W1 wr := by rw [hwr]; exact below_drewN' (Below.refl _ _) _
      have HB9 := Lib.hid (HB1.out.trans (hb0.mono HB1.out.size))
      have HM2 := Lib.hid (HM.out wr hb0)
      have hp := HP.out.below hb0
      have p1' := hp.cell.2.1
      unfold BoolPost at HM2
      have HP9 := Lib.hid hp
      clear HE hb0 hp hwr
      cases hv : vmB s.m
      · rw [hv] at HM2 HF
        go_wp2_with fail
        refine HM2.out.mono ?_
        rintro e w2 ⟨rfl, b⟩
        have HB2 := Lib.hid (HB9.out.trans (b.mono HB9.out.size))
        clear b
        go_wp2
        go_ret
        exact ⟨ret_bool (by rw [HF.out]; rfl), HB2.out⟩
      · rw [hv] at HM2 HF
        go_wp2_with fail
        refine HM2.out.mono ?_
        rintro e w2 ⟨rfl, b⟩
        have HB2 := Lib.hid (HB9.out.trans (b.mono HB9.out.size))
        clear p0 p1 p2 p0' p1' p2'
        obtain ⟨p0, p1, p2⟩ := (HP9.out.below b).cell
        clear b
        go_wp2_with (go_at_call 74; refine (inRange_any _ _ _ _).mono ?_; rintro e w' ⟨rfl, rfl⟩)
        go_ret
        exact ⟨ret_bool (by rw [HF.out]; rfl), HB2.out⟩

set_option maxRecDepth 100000 in
theorem sVSx_any (s : Sto) (v : Value) (w : World) (h : RdStore w v s) (hm : StoreLe s 1048576) :
    Calls Try.prog 14 #[v] w (BoolPost (stB s) w) := by
  obtain ⟨a1, a2, a3, c1, c2, c3, rfl, g1, g2, g3⟩ := rdStore_slices h
  obtain ⟨W1, hW1⟩ : ∃ W1, w.alloc (.cells #[.slice a1 s.m.doms.length c1, .slice a2 s.m.cons.length c2, .slice a3 s.levels.length c3] 35) = W1 := ⟨_, rfl⟩
  have B1 : Below w.heap.size w W1 := by rw [← hW1]; exact (Below.refl _ _).alloc (Nat.le_refl _) _
  have HV := Lib.hid (sVS_any s _ W1 (h.below B1) hm)
  have HB1 := Lib.hid B1
  have HW := Lib.hid hW1
  unfold BoolPost at HV ⊢
  clear h hm g1 g2 g3 B1 hW1
  go_enter Try.func14, Try.ntmps14
  go_wp2_with fail
  rw [HW.out]
  refine HV.out.mono ?_
  rintro e w2 ⟨rfl, b⟩
  have HB2 := Lib.hid (HB1.out.trans (b.mono HB1.out.size))
  clear b
  go_wp2
  go_ret
  exact ⟨rfl, HB2.out⟩

/-- The domains of the last level. -/
def curL (s : Sto) : List Int := if stB s then s.levels[s.levels.length - 1]?.getD [] else []
theorem curL_small {s : Sto} (h : stB s = true) : curL s = s.levels[s.levels.length - 1]?.getD [] ∧ (curL s).length = s.m.doms.length ∧ 1 ≤ (curL s).length ∧ (curL s).length ≤ 4 := by
  obtain ⟨h1, h2, h3, h4⟩ := stB_at h
  have hl := wiB_in (vmB_len h1)
  unfold curL
  rw [if_pos h]
  have hr : s.levels[s.levels.length - 1]?.getD [] ∈ s.levels := by
    rw [List.getElem?_eq_getElem (by omega)]
    exact List.getElem_mem _
  have := (h4 _ hr).1
  exact ⟨rfl, this, by omega, by omega⟩
theorem curL_le (s : Sto) : (curL s).length ≤ 1048576 := by
  cases h : stB s
  · unfold curL; rw [h]; simp
  · have := (curL_small h).2.2.2; omega

set_option maxRecDepth 100000 in
set_option maxHeartbeats 4000000 in
theorem sCur_any (s : Sto) (v : Value) (w : World) (h : RdStore w v s) (hm : StoreLe s 1048576) :
    Calls Try.prog 18 #[v] w (IntsPost (curL s) w) := by
  obtain ⟨a1, a2, a3, c1, c2, c3, rfl, g1, g2, g3⟩ := rdStore_slices h
  obtain ⟨W1, hW1⟩ : ∃ W1, w.alloc (.cells #[.slice a1 s.m.doms.length c1, .slice a2 s.m.cons.length c2, .slice a3 s.levels.length c3] 35) = W1 := ⟨_, rfl⟩
  have B1 : Below w.heap.size w W1 := by rw [← hW1]; exact (Below.refl _ _).alloc (Nat.le_refl _) _
  have bP : Blk3 W1 w.heap.size 35 (.slice a1 s.m.doms.length c1) (.slice a2 s.m.cons.length c2) (.slice a3 s.levels.length c3) := by rw [← hW1]; exact Blk3.new w _ _ _ _
  have HV := Lib.hid (sVS_any s _ W1 (h.below B1) hm)
  have H3 := Lib.hid (g3.below B1)
  obtain ⟨k, hk⟩ : ∃ k, k = s.levels.length := ⟨_, rfl⟩
  have hc3 : k ≤ c3 ∧ c3 ≤ 9223372036854775807 := by obtain ⟨_, _, e, q1, q2, _⟩ := id g3; simp at e; obtain ⟨-, -, rfl⟩ := e; unfold maxLen at q2; omega
  have HK := Lib.hid hk
  rw [← hk] at H3
  rw [← hk] at bP hW1 HV ⊢
  have HB1 := Lib.hid B1
  have HP := Lib.hid bP
  have HW := Lib.hid hW1
  obtain ⟨p0, p1, p2⟩ := bP.cell
  clear h hm g1 g2 g3 B1 bP hW1 hk
  unfold BoolPost at HV
  cases hs : stB s
  · rw [hs] at HV
    have HF : Hid (curL s = []) := Lib.hid (by unfold curL; rw [hs]; rfl)
    go_enter Try.func18, Try.ntmps18
    go_wp2_with (rw [HW.out])
    refine HV.out.mono ?_
    rintro e w2 ⟨rfl, b⟩
    have HB2 := Lib.hid (HB1.out.trans (b.mono HB1.out.size))
    clear b
    go_wp2
    go_ret
    exact ⟨_, rfl, by rw [HF.out]; exact World.ownsRow_nil _ _ _ _, HB2.out⟩
  · rw [hs] at HV
    obtain ⟨-, hk1, hk12, -⟩ := stB_at hs
    obtain ⟨e1, e2, e3, e4⟩ := curL_small hs
    have HC := Lib.hid (And.intro e1 (And.intro e3 e4))
    rw [← HK.out] at hk1 hk12
    obtain ⟨j, hj⟩ : ∃ j, k = j + 1 := ⟨k - 1, by omega⟩
    subst hj
    have hwr : IntKind.i64.wrap (((j + 1 : Nat) : Int) - 1) = (j : Int) := wrap_sub1 (by omega)
    clear hs e1 e2 e3 e4
    go_enter Try.func18, Try.ntmps18
    go_wp2_with (rw [HW.out])
    refine HV.out.mono ?_
    rintro e w2 ⟨rfl, b⟩
    have HB2 := Lib.hid (HB1.out.trans (b.mono HB1.out.size))
    have H32 := Lib.hid (H3.out.below b)
    clear p0 p1 p2
    obtain ⟨p0, p1, p2⟩ := (HP.out.below b).cell
    obtain ⟨b5, off, a5, r, c5, rfl, hc, hr, hrc, hcm, hrd⟩ := rdRows_atS H32.out (show j < j + 1 by omega)
    have hce : curL s = s.levels[j]?.getD [] := by rw [HC.out.1, ← HK.out]; rfl
    rw [← hce] at hr hrd
    have HR := Lib.hid (scopyInts_any _ _ w2 hrd HC.out.2.1 (by have := HC.out.2.2; omega))
    clear b hr hrd hce
    go_wp2_with fail
    refine HR.out.mono ?_
    rintro e w3 ⟨v3, rfl, o3, b3⟩
    obtain ⟨va, vn, vc, ev⟩ := own_slice o3
    subst ev
    have HO := Lib.hid (own_mono o3 HB2.out.size)
    have HB3 := Lib.hid (HB2.out.trans (b3.mono HB2.out.size))
    clear o3 b3
    go_wp2
    go_ret
    exact ⟨_, rfl, HO.out, HB3.out⟩

set_option maxRecDepth 100000 in
set_option maxHeartbeats 4000000 in
theorem iLast_any (b : Nat) (u0 u1 : Value) (a3 : Option Addr) (k c3 : Nat) (rows : List (List Int)) (w : World) (hb : Blk3 w b 35 u0 u1 (.slice a3 k c3)) (h : RdRows w (.slice a3 k c3) rows) (hk : 1 ≤ k) (hk2 : k ≤ 1048576) :
    Calls Try.prog 71 #[.pointer (some ⟨b, 0, none⟩)] w fun e w' => ∃ v, e = .returned v ∧ RdInts w' v (rows[k - 1]?.getD []) ∧ Below w.heap.size w w' := by
  obtain ⟨p0, p1, p2⟩ := hb.cell
  have hc3 : k ≤ c3 ∧ c3 ≤ 9223372036854775807 := by obtain ⟨_, _, e, q1, q2, _⟩ := id h; simp at e; obtain ⟨-, rfl, rfl⟩ := e; unfold maxLen at q2; omega
  obtain ⟨j, hj⟩ : ∃ j, k = j + 1 := ⟨k - 1, by omega⟩
  subst hj
  obtain ⟨b5, off, a5, r, c5, rfl, hc, hr, hrc, hcm, hrd⟩ := rdRows_atS h (show j < j + 1 by omega)
  have hwr : IntKind.i64.wrap (((j + 1 : Nat) : Int) - 1) = (j : Int) := wrap_sub1 (by omega)
  have HR := Lib.hid hrd
  clear hrd hr h
  go_enter Try.func71, Try.ntmps71
  go_wp2_with fail
  go_quiet (fail)
  go_wp2
  go_ret
  exact ⟨_, rfl, HR.out.drewN _, below_drewN' (Below.refl _ _) _⟩

set_option maxRecDepth 100000 in
set_option maxHeartbeats 4000000 in
theorem iCur_any (s : Sto) (v : Value) (w : World) (h : RdStore w v s) (hm : StoreLe s 1048576) :
    Calls Try.prog 19 #[v] w (IntsPost (curL s) w) := by
  obtain ⟨a1, a2, a3, c1, c2, c3, rfl, g1, g2, g3⟩ := rdStore_slices h
  obtain ⟨W1, hW1⟩ : ∃ W1, w.alloc (.cells #[.slice a1 s.m.doms.length c1, .slice a2 s.m.cons.length c2, .slice a3 s.levels.length c3] 35) = W1 := ⟨_, rfl⟩
  have B1 : Below w.heap.size w W1 := by rw [← hW1]; exact (Below.refl _ _).alloc (Nat.le_refl _) _
  have bP : Blk3 W1 w.heap.size 35 (.slice a1 s.m.doms.length c1) (.slice a2 s.m.cons.length c2) (.slice a3 s.levels.length c3) := by rw [← hW1]; exact Blk3.new w _ _ _ _
  have HV := Lib.hid (iVS_any s _ W1 (h.below B1) hm)
  have H3 := Lib.hid (g3.below B1)
  obtain ⟨k, hk⟩ : ∃ k, k = s.levels.length := ⟨_, rfl⟩
  have hc3 : k ≤ c3 ∧ c3 ≤ 9223372036854775807 := by obtain ⟨_, _, e, q1, q2, _⟩ := id g3; simp at e; obtain ⟨-, -, rfl⟩ := e; unfold maxLen at q2; omega
  have HK := Lib.hid hk
  rw [← hk] at H3
  rw [← hk] at bP hW1 HV ⊢
  have HB1 := Lib.hid B1
  have HP := Lib.hid bP
  have HW := Lib.hid hW1
  obtain ⟨p0, p1, p2⟩ := bP.cell
  clear h hm g1 g2 g3 B1 bP hW1 hk
  unfold BoolPost at HV
  cases hs : stB s
  · rw [hs] at HV
    have HF : Hid (curL s = []) := Lib.hid (by unfold curL; rw [hs]; rfl)
    go_enter Try.func19, Try.ntmps19
    go_wp2_with (rw [HW.out])
    refine HV.out.mono ?_
    rintro e w2 ⟨rfl, b⟩
    have HB2 := Lib.hid (HB1.out.trans (b.mono HB1.out.size))
    clear b
    go_wp2
    go_ret
    exact ⟨_, rfl, by rw [HF.out]; exact World.ownsRow_nil _ _ _ _, HB2.out⟩
  · rw [hs] at HV
    obtain ⟨-, hk1, hk12, -⟩ := stB_at hs
    obtain ⟨e1, e2, e3, e4⟩ := curL_small hs
    have HC := Lib.hid (And.intro e1 (And.intro e3 e4))
    rw [← HK.out] at hk1 hk12
    clear hs e1 e2 e3 e4
    go_enter Try.func19, Try.ntmps19
    go_wp2_with (rw [HW.out])
    refine HV.out.mono ?_
    rintro e w2 ⟨rfl, b⟩
    have HB2 := Lib.hid (HB1.out.trans (b.mono HB1.out.size))
    have HL := Lib.hid (iLast_any w.heap.size _ _ a3 k c3 s.levels w2 (HP.out.below b) (H3.out.below b) hk1 (by omega))
    have hce : s.levels[k - 1]?.getD [] = curL s := by rw [HC.out.1, ← HK.out]
    rw [hce] at HL
    clear b hce p0 p1 p2
    go_wp2_with fail
    refine HL.out.mono ?_
    rintro e w3 ⟨v3, rfl, r3, b3⟩
    have HR := Lib.hid (icopyInts_any _ _ w3 r3 HC.out.2.1 (by have := HC.out.2.2; omega))
    have HB3 := Lib.hid (HB2.out.trans (b3.mono HB2.out.size))
    obtain ⟨x3, y3, ev3, -⟩ := id r3
    subst ev3
    clear r3 b3
    go_wp2_with fail
    refine HR.out.mono ?_
    rintro e w4 ⟨v4, rfl, o4, b4⟩
    obtain ⟨va, vn, vc, ev⟩ := own_slice o4
    subst ev
    have HO := Lib.hid (own_mono o4 HB3.out.size)
    have HB4 := Lib.hid (HB3.out.trans (b4.mono HB3.out.size))
    clear o4 b4
    go_wp2
    go_ret
    exact ⟨_, rfl, HO.out, HB4.out⟩
end Go.Proofs.Ytfajiaoddcjieaa
