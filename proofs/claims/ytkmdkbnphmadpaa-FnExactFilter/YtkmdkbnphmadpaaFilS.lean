/- The reference's Filter. -/
import Derived.Test.YtkmdkbnphmadpaaSupS
namespace Go.Proofs.Ytkmdkbnphmadpaa
open Go.ChangeShapes Go.WideShapes Go.ChangeAt Go.RowKit
set_option linter.unusedVariables false
set_option linter.unusedSimpArgs false

/-- Domains and a constraint that may be filtered. -/
def okB (c : Con) (ds : List Int) : Bool := (wiB ds.length 1 4 && allB ds 0 63) && vcB c ds.length
/-- What Filter returns. -/
def fltL (c : Con) (ds : List Int) : List Int := if okB c ds then filL c ds else []

set_option maxRecDepth 100000 in
set_option maxHeartbeats 1000000 in
theorem svalidDomains_any (dv : Value) (ds : List Int) (w : World) (h : RdInts w dv ds) :
    Calls Try.prog 84 #[dv] w fun e w' => e = .returned (.bool (wiB ds.length 1 4 && allB ds 0 63)) ∧ w = w' := by
  have HX := Lib.hid h
  obtain ⟨ax, cx, e2, -⟩ := id h
  rw [e2] at HX ⊢
  have hc := (rdInts_cap HX.out).2
  obtain ⟨n, hn⟩ : ∃ n, n = ds.length := ⟨_, rfl⟩
  rw [← hn] at HX hc ⊢
  have HN := Lib.hid hn
  clear e2 h hn
  go_enter Try.func84, Try.ntmps84
  go_wp2
  go_loop [3] (fun i => ∃ k : Nat, k ≤ n ∧ i = .int .i64 k ∧ Hid (∀ j, j < k → wiB (ds[j]?.getD 0) 0 63 = true)) (fun i => n - (intOf i).toNat)
  case atStart => exact ⟨0, Nat.zero_le _, rfl, fun j hj => by omega⟩
  case round =>
    obtain ⟨k, hk, rfl, HE⟩ := hrel
    by_cases hlt : k < n
    · obtain ⟨b, off, rfl, q1⟩ := rdInts_at HX.out hlt
      cases hw : wiB (ds[k]?.getD 0) 0 63
      · have HF : Hid ((wiB n 1 4 && allB ds 0 63) = false) := Lib.hid (by rw [allB_false (by have := HN.out; omega) hw]; simp)
        go_wp2_with (go_at_call 114; refine (svalid_any _ _).mono ?_; rintro e w' ⟨rfl, rfl⟩)
        go_ret
        exact ⟨ret_bool HF.out.symm, rfl⟩
      · have HX2 := Lib.hid hw
        go_wp2_with (go_at_call 114; refine (svalid_any _ _).mono ?_; rintro e w' ⟨rfl, rfl⟩)
        go_round
        case rel => exact ⟨k + 1, by omega, by go_num, fun j hj => by by_cases e : j = k; (· subst e; exact HX2.out); (· exact HE.out j (by omega))⟩
        case measure => simp [intOf]; omega
    · obtain rfl : k = n := by omega
      have HD := Lib.hid (allB_true (xs := ds) (lo := 0) (hi := 63) (fun j hj => HE.out j (by have := HN.out; omega)))
      clear HE
      go_wp2_with (go_at_call 57; refine (inRange_any _ _ _ _).mono ?_; rintro e w' ⟨rfl, rfl⟩)
      go_ret
      exact ⟨ret_bool (by rw [HD.out]; simp), rfl⟩

theorem ok_parts {c : Con} {ds : List Int} (h : okB c ds = true) : 1 ≤ ds.length ∧ ds.length ≤ 4 ∧ Small ds 0 63 ∧ kindB c = true ∧ 1 ≤ c.vars.length ∧ c.vars.length ≤ 4 ∧ Small c.vars 0 (ds.length - 1) ∧ vcB c ds.length = true := by
  unfold okB at h
  simp only [Bool.and_eq_true] at h
  obtain ⟨⟨h1, h2⟩, h3⟩ := h
  have w1 := wiB_in h1
  have hv := h3
  unfold vcB at hv
  simp only [Bool.and_eq_true] at hv
  obtain ⟨⟨⟨e1, e2⟩, _⟩, e4⟩ := hv
  have w2 := wiB_in e1
  exact ⟨by omega, by omega, small_of h2, e4, by omega, by omega, small_of e2, h3⟩

set_option maxRecDepth 100000 in
set_option maxHeartbeats 2000000 in
theorem sFilter_any (c : Con) (cv dv : Value) (ds : List Int) (w : World) (hrc : RdCon w cv c) (hds : RdInts w dv ds) (hcl : c.vars.length ≤ 1048576) :
    Calls Try.prog 40 #[cv, dv] w (IntsPost (fltL c ds) w) := by
  obtain ⟨a2, a3, a5, c2, c3, c5, rfl, h2, -⟩ := rdCon_slices hrc
  obtain ⟨da, dc, ev, -⟩ := id hds
  rw [ev] at hds ⊢
  obtain ⟨W1, hW1⟩ : ∃ W1, w.alloc (.cells #[.int .i64 c.kind, .slice a2 c.vars.length c2, .slice a3 c.args.length c3, .int .i64 c.bound, .slice a5 c.rows.length c5] 28) = W1 := ⟨_, rfl⟩
  have B1 : Below w.heap.size w W1 := by rw [← hW1]; exact (Below.refl _ _).alloc (Nat.le_refl _) _
  have bP : Blk5 W1 w.heap.size 28 (.int .i64 c.kind) (.slice a2 c.vars.length c2) (.slice a3 c.args.length c3) (.int .i64 c.bound) (.slice a5 c.rows.length c5) := by rw [← hW1]; exact Blk5.new w _ _ _ _ _ _
  have HC := Lib.hid (hrc.below B1)
  have HD := Lib.hid (hds.below B1)
  have HB1 := Lib.hid B1
  have HW := Lib.hid hW1
  have HP := Lib.hid bP
  have hcd := (rdInts_cap hds).2
  clear hrc h2 hds hW1 B1 bP ev
  obtain ⟨p0, p1, p2, p3, p4⟩ := HP.out.cell
  go_enter Try.func40, Try.ntmps40
  go_wp2_with fail
  rw [HW.out]
  refine (svalidDomains_any _ ds _ HD.out).mono ?_
  rintro e w' ⟨rfl, rfl⟩
  cases hv : (wiB ds.length 1 4 && allB ds 0 63)
  · have HF : Hid (fltL c ds = []) := Lib.hid (by unfold fltL okB; rw [hv]; rfl)
    go_wp2
    go_ret
    exact ⟨_, rfl, by rw [HF.out]; exact World.ownsRow_nil _ _ _ _, HB1.out⟩
  have hv4 := wiB_in (Bool.and_eq_true_iff.1 hv).1
  go_wp2_with fail
  refine (svc_any c _ ds.length W1 HC.out (by omega) (by omega) (by omega)).mono ?_
  rintro e w2 ⟨rfl, b2⟩
  have HB2 := Lib.hid (HB1.out.trans (b2.mono HB1.out.size))
  have HC2 := Lib.hid (HC.out.below b2)
  have HD2 := Lib.hid (HD.out.below b2)
  have HP2 := Lib.hid (HP.out.below b2)
  clear p0 p1 p2 p3 p4 b2
  obtain ⟨p0, p1, p2, p3, p4⟩ := HP2.out.cell
  cases hk : vcB c ds.length
  · have HF : Hid (fltL c ds = []) := Lib.hid (by unfold fltL okB; rw [hv, hk]; rfl)
    go_wp2
    go_ret
    exact ⟨_, rfl, by rw [HF.out]; exact World.ownsRow_nil _ _ _ _, HB2.out⟩
  have hok : okB c ds = true := by unfold okB; rw [hv, hk]; rfl
  obtain ⟨o1, o2, o3, o4, o5, o6, o7, _⟩ := ok_parts hok
  have HF : Hid (fltL c ds = filL c ds) := Lib.hid (by unfold fltL; rw [hok]; rfl)
  have HCALL := Lib.hid (ssupported_any c _ _ ds w2 HC2.out HD2.out o4 o5 o6 o7 o3 o1 o2)
  clear hok o1 o2 o3 o4 o5 o6 o7 hv4
  go_wp2_with fail
  refine HCALL.out.mono ?_
  rintro e w4 ⟨v4, rfl, o4, b4⟩
  have HB4 := Lib.hid (HB2.out.trans (b4.mono HB2.out.size))
  have HO4 := Lib.hid (own_mono o4 HB2.out.size)
  obtain ⟨a4, n4, c4, e4⟩ := own_slice o4
  rw [e4] at HO4 ⊢
  clear o4 b4 p0 p1 p2 p3 p4 e4
  go_wp2
  go_ret
  exact ⟨_, rfl, by rw [HF.out]; exact HO4.out, HB4.out⟩
end Go.Proofs.Ytkmdkbnphmadpaa
