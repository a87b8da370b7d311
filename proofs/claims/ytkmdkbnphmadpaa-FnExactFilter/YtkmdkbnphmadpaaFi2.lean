/- The program's Filter. -/
import Derived.Test.YtkmdkbnphmadpaaFi1
namespace Go.Proofs.Ytkmdkbnphmadpaa
open Go.ChangeShapes Go.WideShapes Go.ChangeAt Go.RowKit Go.Shelf
set_option linter.unusedVariables false
set_option linter.unusedSimpArgs false

theorem xt_of_own {w : World} {B : Nat} {v : Value} {xs : List Int} (h : w.ownsRow B 3 1 v xs.length (xs.map (Value.int .i64))) (h1 : 1 ≤ xs.length) : ∃ g cap, v = .slice (some ⟨g, 0, none⟩) xs.length cap ∧ B ≤ g ∧ XT g cap xs w := by
  rcases h.2 with ⟨e, h0⟩ | ⟨g, cap, cur, e, hg, rest⟩
  · omega
  · exact ⟨g, cap, e, hg, by unfold XT; rw [← e]; exact ⟨h.1, .inr ⟨g, cap, cur, e, Nat.le_refl _, rest⟩⟩⟩
theorem own_of_xt {w : World} {B g cap : Nat} {xs : List Int} (h : XT g cap xs w) (hB : B ≤ g) : w.ownsRow B 3 1 (.slice (some ⟨g, 0, none⟩) xs.length cap) xs.length (xs.map (Value.int .i64)) := own_mono h hB

set_option maxRecDepth 100000 in
set_option maxHeartbeats 4000000 in
theorem isFilterable_any (c : Con) (cv dv : Value) (ds : List Int) (w : World) (hc : RdCon w cv c) (hd : RdInts w dv ds) (hcl : c.vars.length ≤ 1048576) :
    Calls Try.prog 86 #[cv, dv] w (BoolPost (okB c ds) w) := by
  obtain ⟨a2, a3, a5, c2, c3, c5, rfl, h2, -⟩ := rdCon_slices hc
  obtain ⟨da, dc, ev, -⟩ := id hd
  rw [ev] at hd ⊢
  obtain ⟨W1, hW1⟩ : ∃ W1, w.alloc (.cells #[.int .i64 c.kind, .slice a2 c.vars.length c2, .slice a3 c.args.length c3, .int .i64 c.bound, .slice a5 c.rows.length c5] 28) = W1 := ⟨_, rfl⟩
  have B1 : Below w.heap.size w W1 := by rw [← hW1]; exact (Below.refl _ _).alloc (Nat.le_refl _) _
  have bP : Blk5 W1 w.heap.size 28 (.int .i64 c.kind) (.slice a2 c.vars.length c2) (.slice a3 c.args.length c3) (.int .i64 c.bound) (.slice a5 c.rows.length c5) := by rw [← hW1]; exact Blk5.new w _ _ _ _ _ _
  have HC := Lib.hid (hc.below B1)
  have HD := Lib.hid (hd.below B1)
  have HB1 := Lib.hid B1
  have HW := Lib.hid hW1
  have HP := Lib.hid bP
  have hcd := (rdInts_cap hd).2
  clear hc h2 hd hW1 B1 bP ev
  obtain ⟨p0, p1, p2, p3, p4⟩ := HP.out.cell
  go_enter Try.func86, Try.ntmps86
  go_wp2_with fail
  rw [HW.out]
  refine (validDomains_any _ ds _ HD.out).mono ?_
  rintro e w' ⟨rfl, rfl⟩
  cases hv : (wiB ds.length 1 4 && allB ds 0 63)
  · have HF : Hid (okB c ds = false) := Lib.hid (by unfold okB; rw [hv]; rfl)
    go_wp2
    go_ret
    exact ⟨ret_bool (by rw [HF.out]), HB1.out⟩
  have hv4 := wiB_in (Bool.and_eq_true_iff.1 hv).1
  go_wp2_with fail
  refine (ivc_any c _ ds.length W1 HC.out (by omega)).mono ?_
  rintro e w2 ⟨rfl, b2⟩
  have HB2 := Lib.hid (HB1.out.trans (b2.mono HB1.out.size))
  have HF : Hid ((wiB ds.length 1 4 && vcB c ds.length) = okB c ds) := Lib.hid (by unfold okB; rw [hv, (Bool.and_eq_true_iff.1 hv).1])
  clear p0 p1 p2 p3 p4 b2
  rw [HF.out]
  go_wp2
  go_ret
  exact ⟨rfl, HB2.out⟩

set_option maxRecDepth 100000 in
set_option maxHeartbeats 4000000 in
theorem iFilter_any (c : Con) (cv dv : Value) (ds : List Int) (w : World) (hc : RdCon w cv c) (hd : RdInts w dv ds) (hcl : c.vars.length ≤ 1048576) :
    Calls Try.prog 41 #[cv, dv] w (IntsPost (fltL c ds) w) := by
  obtain ⟨a2, a3, a5, c2, c3, c5, rfl, h2, -⟩ := rdCon_slices hc
  obtain ⟨da, dc, ev, -⟩ := id hd
  rw [ev] at hd ⊢
  obtain ⟨W1, hW1⟩ : ∃ W1, w.alloc (.cells #[.int .i64 c.kind, .slice a2 c.vars.length c2, .slice a3 c.args.length c3, .int .i64 c.bound, .slice a5 c.rows.length c5] 28) = W1 := ⟨_, rfl⟩
  have B1 : Below w.heap.size w W1 := by rw [← hW1]; exact (Below.refl _ _).alloc (Nat.le_refl _) _
  have bP : Blk5 W1 w.heap.size 28 (.int .i64 c.kind) (.slice a2 c.vars.length c2) (.slice a3 c.args.length c3) (.int .i64 c.bound) (.slice a5 c.rows.length c5) := by rw [← hW1]; exact Blk5.new w _ _ _ _ _ _
  have HC := Lib.hid (hc.below B1)
  have HD := Lib.hid (hd.below B1)
  have HB1 := Lib.hid B1
  have HW := Lib.hid hW1
  have HP := Lib.hid bP
  have hcd := (rdInts_cap hd).2
  clear hc h2 hd hW1 B1 bP ev
  obtain ⟨p0, p1, p2, p3, p4⟩ := HP.out.cell
  go_enter Try.func41, Try.ntmps41
  go_wp2_with fail
  rw [HW.out]
  refine (isFilterable_any c _ _ ds _ HC.out HD.out hcl).mono ?_
  rintro e w2 ⟨rfl, b2⟩
  have HB2 := Lib.hid (HB1.out.trans (b2.mono HB1.out.size))
  have HC2 := Lib.hid (HC.out.below b2)
  have HD2 := Lib.hid (HD.out.below b2)
  have HP2 := Lib.hid (HP.out.below b2)
  clear p0 p1 p2 p3 p4 b2 HC HD HP HB1 HW
  obtain ⟨p0, p1, p2, p3, p4⟩ := HP2.out.cell
  cases hok : okB c ds
  · have HF : Hid (fltL c ds = []) := Lib.hid (by unfold fltL; rw [hok]; rfl)
    go_wp2
    go_ret
    exact ⟨_, rfl, by rw [HF.out]; exact World.ownsRow_nil _ _ _ _, HB2.out⟩
  obtain ⟨o1, o2, o3, o4, o5, o6, o7, _⟩ := ok_parts hok
  have HF : Hid (fltL c ds = filL c ds) := Lib.hid (by unfold fltL; rw [hok]; rfl)
  obtain ⟨F, hF, hT, hS⟩ := pick_all c o4
  have HCI := Lib.hid (icopyInts_any _ ds w2 HD2.out o1 (by omega))
  have HO1 := Lib.hid o1
  clear o1 hok
  have HO := Lib.hid (And.intro o3 (And.intro o4 (And.intro o5 (And.intro o6 o7))))
  have HHT := Lib.hid hT
  have HHS := Lib.hid hS
  clear o2 o3 o4 o5 o6 o7 hT hS
  go_wp2_with fail
  refine HCI.out.mono ?_
  rintro e w3 ⟨v3, rfl, o3, b3⟩
  obtain ⟨g, cap, e3, hg, hx3⟩ := xt_of_own o3 HO1.out
  subst e3
  have HB3 := Lib.hid (HB2.out.trans (b3.mono HB2.out.size))
  have HC3 := Lib.hid (HC2.out.below b3)
  have HP3 := Lib.hid (HP2.out.below b3)
  have HX3 := Lib.hid hx3
  have HG := Lib.hid (show w.heap.size ≤ g ∧ w2.heap.size ≤ g ∧ g < w3.heap.size from ⟨Nat.le_trans HB2.out.size hg, hg, hx3.lt⟩)
  have HB23 := Lib.hid b3
  clear p0 p1 p2 p3 p4 o3 b3 hx3 hg HP2 HB2 HCI
  obtain ⟨p0, p1, p2, p3, p4⟩ := HP3.out.cell
  go_wp2_with fail
  refine (propagatorOf_any c _ F w3 HC3.out (fun w h => HHT.out _ w h)).mono ?_
  rintro e w4 ⟨vv, rfl, hvv, b4⟩
  have HRD : Hid (∀ w', Below g w4 w' → RdCon w' (.agg #[.int .i64 c.kind, .slice a2 c.vars.length c2, .slice a3 c.args.length c3, .int .i64 c.bound, .slice a5 c.rows.length c5]) c ∧ RdInts w' vv c.vars) := Lib.hid (fun w' hb => by
    have hb2 : Below w2.heap.size w2 w' := HB23.out.trans ((b4.mono (by have := HB23.out.size; omega)).trans (hb.mono HG.out.2.1))
    exact ⟨HC2.out.below hb2, hvv _ (HC2.out.below hb2)⟩)
  obtain ⟨q1, q2, q3, q4, q5⟩ := HO.out
  have HCF := Lib.hid (ifilter_any c _ vv F ds g cap w4 hF HRD.out (HX3.out.keep (b4.block g HG.out.2.2)) q3 q4 q5 q1 (fun t h1 h2 => ⟨q2, h1, by omega, by omega, h2, allB_true (fun j hj => wiB_true (h2 j hj).1 (h2 j hj).2)⟩) (fun xv x w f h hx => HHS.out _ xv x w f h hx))
  have HB4 := Lib.hid (HB3.out.trans (b4.mono HB3.out.size))
  clear q1 q2 q3 q4 q5 b4 hvv p0 p1 p2 p3 p4
  go_wp2_with fail
  refine HCF.out.mono ?_
  rintro e w5 ⟨v5, rfl, -, x5, b5, -⟩
  have hl5 : (filL c ds).length = ds.length := (filL_facts HO.out.1).1
  have o5 := own_of_xt x5 HG.out.1
  have HO5 := Lib.hid o5
  have HB5 := Lib.hid (HB4.out.trans (b5.mono HG.out.1))
  have HL5 := Lib.hid hl5
  clear o5 x5 b5 hl5
  go_wp2
  go_ret
  exact ⟨_, rfl, by rw [HF.out]; rw [← HL5.out]; exact HO5.out, HB5.out⟩
theorem fltL_le (c : Con) (ds : List Int) : (fltL c ds).length ≤ 1048576 := by
  unfold fltL
  split
  · rename_i h
    have := ok_parts h
    unfold filL
    rw [putL_length]
    omega
  · simp
end Go.Proofs.Ytkmdkbnphmadpaa
