/- The reference's search: one node and all below it. -/
import Derived.Test.YtjdbfiiaadphhaaSrcS
namespace Go.Proofs.Ytjdbfiiaadphhaa
open Go.ChangeShapes Go.WideShapes Go.ChangeAt Go.RowKit
set_option linter.unusedVariables false
set_option linter.unusedSimpArgs false

set_option maxRecDepth 100000 in
set_option maxHeartbeats 8000000 in
theorem branch_any {w0 : World} {F n : Nat} {m : Mod} {a1 a2 : Option Addr} {c1 c2 L : Nat} (hrm : RdModel w0 (.agg #[.slice a1 m.doms.length c1, .slice a2 m.cons.length c2]) m) (h1 : 1 ≤ n) (h4 : n ≤ 4) (hok : ∀ c ∈ m.cons, OkC c n) (h6 : m.cons.length ≤ 6) (hL : L ≤ 4096) :
    ∀ (k : Nat) (d : List Int) (dv : Value) (s : List (List Int) × Nat) (W : World), bitsD d < k → d.length = n → Small d 0 63 → FSt w0 F m.doms.length m.cons.length a1 a2 c1 c2 L s W → s.1.length < L → s.2 + (visF m.cons k d).length ≤ 100000 →
      (∀ u, RdInts (W.setCell ⟨F, 3, none⟩ u) dv d) →
      Calls Try.prog 192 #[.pointer (some ⟨F, 0, none⟩), dv] W fun e W' => (∃ v, e = .returned v) ∧ FSt w0 F m.doms.length m.cons.length a1 a2 c1 c2 L (brF m.cons L k d s) W' ∧ FKeep F W W' := by
  intro k
  induction k with
  | zero => intro d dv s W hb; omega
  | succ k ih =>
    intro d dv s W hbd hdl hds hst hsL hM hdv
    have hod : OkD m.cons n d := ⟨hdl, hds, fun c hc => varsOk_of (hok c hc).vc⟩
    obtain ⟨hop, hle⟩ := proL_ok hod
    have hbp := proL_bits hod
    have hv1 : 1 ≤ (visF m.cons (k + 1) d).length := by rw [visF]; simp
    obtain ⟨p, hp⟩ : ∃ p, p = proL m.cons d := ⟨_, rfl⟩
    rw [← hp] at hop hbp
    have hpl := hop.len
    obtain ⟨fa, fc, q0, q1, q2, q3, q4, -, -, -, hfz⟩ := hst.cell
    have f3 := hfz 3
    obtain ⟨N, hN⟩ : ∃ N, N = s.2 := ⟨_, rfl⟩
    have hst1 := hst.nodes (s.2 + 1)
    rw [← hN] at q3 hst1
    rw [show ((N + 1 : Nat) : Int) = (N : Int) + 1 from by omega] at hst1
    have HM1 := Lib.hid (hrm.below hst1.b)
    have HD1 := Lib.hid (hdv (.int .i64 ((N : Int) + 1)))
    have HST1 := Lib.hid hst1
    have HFK1 : Hid (FKeep F W (W.setCell ⟨F, 3, none⟩ (.int .i64 ((N : Int) + 1)))) := Lib.hid (FKeep.set _)
    have HIH := Lib.hid ih
    have HOP := Lib.hid hop
    have HOD := Lib.hid hod
    have HPP := Lib.hid hp
    have HPL := Lib.hid hpl
    have HNN := Lib.hid hN
    have HBP : Hid (bitsD p < k + 1) := Lib.hid (by omega)
    have HMM := Lib.hid hM
    have HOK := Lib.hid hok
    have HDL := Lib.hid hdl
    have HDS := Lib.hid hds
    have hN1 : N ≤ 100000 := by omega
    have HSL := Lib.hid hsL
    have HVS : Hid ((visF m.cons (k + 1) d).length = ((kids p).flatMap (visF m.cons k)).length + 1) := Lib.hid (by rw [visF, ← hp]; simp)
    obtain ⟨av, cv, edv, -⟩ := id (hdv (.int .i64 0))
    subst edv
    clear ih hod hop hle hbp hv1 hp hpl hfz hst hst1 hN hdv hM hok hdl hds hsL hbd
    go_enter Try.func192, Try.ntmps192
    go_wp2_with fail
    obtain ⟨W1, hW1⟩ : ∃ W1, W.setCell ⟨F, 3, none⟩ (.int .i64 ((N : Int) + 1)) = W1 := ⟨_, rfl⟩
    rw [hW1] at HM1 HD1 HST1 HFK1 ⊢
    clear hW1 q0 q1 q2 q3 q4 f3
    refine (sfixpoint_any m _ _ d W1 HM1.out HD1.out (by have := HDL.out; omega) (by have := HDL.out; omega) HDS.out (by rw [HDL.out]; exact HOK.out) h6).mono ?_
    rintro e w2 ⟨v2, rfl, o2, b2⟩
    rw [← HPP.out] at o2
    have o2' := own_mono o2 HST1.out.b.size
    obtain ⟨g, cap, e2, hg1, hg2, hc1, hc2⟩ := own_formS o2' (by have := HPL.out; omega)
    rw [HPL.out] at e2 hc1
    subst e2
    rw [HPL.out] at o2'
    have HO2 := Lib.hid o2'
    have HST2 := Lib.hid (HST1.out.below b2)
    have HFK2 := Lib.hid (HFK1.out.trans (FKeep.of_below b2))
    have HRP : Hid (RdInts w2 (.slice (some ⟨g, 0, none⟩) n cap) p) := Lib.hid (rdInts_of_own (B := w0.heap.size) (by rw [HPL.out]; exact o2'))
    clear o2 o2' b2 HM1 HD1 HST1 HFK1 hg1 hg2
    go_wp2_with fail
    refine (shasEmpty_any _ p w2 HRP.out).mono ?_
    rintro e w2' ⟨rfl, rfl⟩
    cases he : emptyB p
    case true =>
      have HB : Hid (brF m.cons L (k + 1) d s = (s.1, N + 1)) := Lib.hid (by
        have hen := empty_none HOD.out h1 (by rw [← HPP.out]; exact he)
        rw [brF_none hen.1, hen.2, HNN.out]
        rfl)
      go_wp2
      refine bodyPost_ret (results_none rfl _ _ _) rfl ?_
      exact ⟨⟨_, rfl⟩, by rw [HB.out]; exact HST2.out, HFK2.out⟩
    have HNE := Lib.hid he
    go_wp2
    go_loopw [5] (fun i wr => ∃ j : Nat, j ≤ n ∧ i = .int .i64 j ∧ Hid (∀ q, q < j → cntD (p[q]?.getD 0) = 1) ∧ Hid (Below w2.heap.size w2 wr)) (fun i _ => n - (intOf i).toNat)
    case atStart => exact ⟨0, Nat.zero_le _, rfl, Lib.hid (fun q hq => by omega), Lib.hid (Below.refl _ _)⟩
    case round =>
      obtain ⟨j, hj, rfl, HE, HBE⟩ := hrel
      by_cases hlt : j < n
      · have hx := HOP.out.small j (by have := HPL.out; omega)
        have r1 := own_int_at (own_below HO2.out HBE.out) hlt
        have hpos := cnt_pos hx.1 hx.2 (not_empty_atS HNE.out (by have := HPL.out; omega))
        have hcl := vL_cnt hx.1 hx.2
        obtain ⟨x, hxx⟩ : ∃ x, x = p[j]?.getD 0 := ⟨_, rfl⟩
        rw [← hxx] at hx r1 hpos hcl
        have HXX := Lib.hid hxx
        have HCL := Lib.hid hcl
        clear hxx hcl
        go_wp2_with fail
        refine (svals_any x wr hx.1 hx.2).mono ?_
        rintro e w3 ⟨v3, rfl, o3, b3⟩
        obtain ⟨g3, cap3, e3, -, -, hc3, hc3'⟩ := own_formS o3 (by have := HCL.out; omega)
        rw [HCL.out] at e3 hc3
        subst e3
        have HB3 := Lib.hid (HBE.out.trans (b3.mono HBE.out.size))
        have r3 := (b3.cell (p := ⟨g, j, none⟩) (World.block_lt_of_cell? wr _ r1)).trans r1
        clear o3 b3 r1
        obtain ⟨c, hcc⟩ : ∃ c, c = cntD x := ⟨_, rfl⟩
        rw [← hcc] at hc3 hpos HCL ⊢
        have HCC := Lib.hid hcc
        clear hcc
        by_cases hc : c = 1
        · subst hc
          go_wp2
          go_roundw
          case rel => exact ⟨j + 1, by omega, by go_num, Lib.hid (fun q hq => by by_cases e : q = j; (· subst e; rw [← HXX.out, ← HCC.out]); (· exact HE.out q (by omega))), HB3⟩
          case measure => simp [intOf]; omega
        · have hce : ((c : Int) == 1) = false := by simp; omega
          have hjn : ((j : Int) == (n : Int)) = false := by simp; omega
          have HBR : Hid (brV p = some j) := Lib.hid (brV_of (by have := HPL.out; omega) HE.out (by rw [← HXX.out, ← HCC.out]; omega))
          go_wp2_with fail
          refine (svals_any x w3 hx.1 hx.2).mono ?_
          rintro e w4 ⟨v4, rfl, o4, b4⟩
          obtain ⟨g4, cap4, e4, -, -, hc4, hc4'⟩ := own_formS o4 (by have := HCL.out; omega)
          rw [HCL.out] at e4 o4 hc4
          subst e4
          have HB4 := Lib.hid (HB3.out.trans (b4.mono HB3.out.size))
          have HO4 := Lib.hid (own_mono o4 (Nat.le_trans HST2.out.b.size HB3.out.size))
          have HST4 := Lib.hid (HST2.out.below HB4.out)
          have HFK4 := Lib.hid (HFK2.out.trans (FKeep.of_below HB4.out))
          have HO24 := Lib.hid (own_below HO2.out HB4.out)
          obtain ⟨ks, hks⟩ : ∃ ks, ks = kids p := ⟨_, rfl⟩
          have HKM : Hid (ks = (vL x 6).map fun a => p.set j (2 ^ a.toNat)) := Lib.hid (by rw [hks]; unfold kids; rw [HBR.out]; simp only; rw [← HXX.out])
          have HKS := Lib.hid hks
          have HKL : Hid (ks.length = c) := Lib.hid (by rw [HKM.out, List.length_map, HCL.out])
          have HBF : Hid (brF m.cons L (k + 1) d s = ks.foldl (stpK m.cons L k) (s.1, N + 1)) := Lib.hid (by
            rw [brF_none (by rw [← HPP.out]; exact oneT_none_of_br HBR.out), ← HPP.out, hks, HNN.out])
          have HM0 : Hid (N + 1 + (ks.flatMap (visF m.cons k)).length ≤ 100000) := Lib.hid (by have h1 := HMM.out; have h2 := HVS.out; rw [← hks] at h2; have h3 := HNN.out; omega)
          clear hks o4 b4 r3 HB3 HB4 HST2 HFK2 HO2 HRP HMM HVS hc3 hc3'
          go_wp2
          go_loopw [9] (fun i wr => ∃ (q : Nat) (sq : List (List Int) × Nat), q ≤ c ∧ i = .int .i64 q ∧ Hid (sq = (ks.take q).foldl (stpK m.cons L k) (s.1, N + 1)) ∧ Hid (FSt w0 F m.doms.length m.cons.length a1 a2 c1 c2 L sq wr) ∧ Hid (FKeep F W wr) ∧ Hid (wr.ownsRow w0.heap.size 3 1 (.slice (some ⟨g, 0, none⟩) n cap) n (p.map (Value.int .i64))) ∧ Hid (wr.ownsRow w0.heap.size 3 1 (.slice (some ⟨g4, 0, none⟩) c cap4) c ((vL x 6).map (Value.int .i64))) ∧ Hid (sq.2 + ((ks.drop q).flatMap (visF m.cons k)).length ≤ 100000)) (fun i _ => c - (intOf i).toNat)
          case atStart => exact ⟨0, (s.1, N + 1), Nat.zero_le _, rfl, Lib.hid (by simp), HST4, HFK4, HO24, HO4, Lib.hid (by simpa using HM0.out)⟩
          case round =>
            obtain ⟨q, sq, hq, rfl, HSQ, HSTq, HFKq, HOq, HO4q, HMq⟩ := hrel
            obtain ⟨fa, fc, z0, z1, z2, z3, z4, -, hz5, hz6, -⟩ := HSTq.out.cell
            obtain ⟨rl, hrl⟩ : ∃ rl, rl = sq.1.length := ⟨_, rfl⟩
            rw [← hrl] at z4 hz5
            have HRL := Lib.hid hrl
            clear hrl
            by_cases hqc : q < c
            · have hd1 : decide ((q : Int) < (c : Int)) = true := by simp; omega
              by_cases hfl : rl < L
              · have hd2 : decide ((rl : Int) < (L : Int)) = true := by simp; omega
                have hqv : q < (vL x 6).length := by have := HCL.out; omega
                have l1 := own_int_at HO4q.out hqc
                obtain ⟨a, ha, ha6⟩ : ∃ a : Nat, (vL x 6)[q]?.getD 0 = (a : Int) ∧ a < 6 := by
                  have := vL_mem (List.getElem_mem hqv)
                  rw [List.getElem?_eq_getElem hqv]
                  exact ⟨((vL x 6)[q]).toNat, by simp; omega, by omega⟩
                rw [ha] at l1
                have HKQ : Hid (ks[q]? = some (p.set j (2 ^ a))) := Lib.hid (by
                  rw [HKM.out, List.getElem?_map, List.getElem?_eq_getElem hqv]
                  rw [List.getElem?_eq_getElem hqv] at ha
                  simp only [Option.getD_some] at ha
                  simp [ha])
                have HW : Hid (wrap64 (2 ^ a) = 2 ^ a) := Lib.hid (pow_wrap_fin ⟨a, ha6⟩)
                have HRq : Hid (RdInts wr (.slice (some ⟨g, 0, none⟩) n cap) p) := Lib.hid (rdInts_of_own (B := w0.heap.size) (by rw [HPL.out]; exact HOq.out))
                clear ha hqv
                go_wp2_with fail
                go_quiet (fail)
                go_wp2_with fail
                refine (scopyInts_any _ p _ (HRq.out.below (drewN_below' _ _)) (by have := HPL.out; omega) (by have := HPL.out; omega)).mono ?_
                rintro e w5 ⟨v5, rfl, o5, b5⟩
                have b5' : Below wr.heap.size wr w5 := (drewN_below' wr nq).trans b5
                obtain ⟨g5, cap5, e5, hg5, -, hc5, hc5'⟩ := own_formS o5 (by have := HPL.out; omega)
                rw [HPL.out] at e5 o5 hc5
                subst e5
                have l5 := (b5'.cell (p := ⟨g4, q, none⟩) (World.block_lt_of_cell? wr _ l1)).trans l1
                have y5 := own_int_at o5 hlt
                have f5 := o5.frozenAt j
                have o6 := (o5.stored j (.int .i64 (2 ^ a))).1
                rw [← List.map_set] at o6
                have b6 : Below wr.heap.size wr (w5.setCell ⟨g5, j, none⟩ (.int .i64 (2 ^ a))) := b5'.setCell (p := ⟨g5, j, none⟩) hg5 _
                have HB6 := Lib.hid b6
                have HST6 := Lib.hid (HSTq.out.below b6)
                have HO6 := Lib.hid o6
                clear b6 o6 b5 b5' o5 z0 z1 z2 z3 z4 l1 hg5
                go_wp2_with fail
                rw [HW.out]
                have hkid := kid_ok HOP.out (List.mem_of_getElem? (show (kids p)[q]? = some (p.set j (2 ^ a)) by rw [← HKS.out]; exact HKQ.out))
                have hdrop : ks.drop q = p.set j (2 ^ a) :: ks.drop (q + 1) := by
                  have hql : q < ks.length := by have := HKL.out; omega
                  rw [List.drop_eq_getElem_cons hql]
                  have := HKQ.out
                  rw [List.getElem?_eq_getElem hql] at this
                  rw [Option.some.inj this]
                have hMk := HMq.out
                rw [hdrop, List.flatMap_cons, List.length_append] at hMk
                have hcall := HIH.out (p.set j (2 ^ a)) (.slice (some ⟨g5, 0, none⟩) n cap5) sq _ (by have := HBP.out; omega) hkid.1.len hkid.1.small HST6.out (by have := HRL.out; omega) (by omega) (fun u => by
                  have ho := own_keep' (w' := (w5.setCell ⟨g5, j, none⟩ (.int .i64 (2 ^ a))).setCell ⟨F, 3, none⟩ u) HO6.out (fun b cur _ hb => Below.heap_setCell _ _ _ _ (by
                    show b ≠ F
                    rintro rfl
                    exact HST6.out.notInt cur _ hb))
                  refine rdInts_of_own (B := wr.heap.size) ?_
                  rw [hkid.1.len]
                  exact ho)
                refine hcall.mono ?_
                rintro e w7 ⟨⟨ve, rfl⟩, st7, fk7⟩
                have hstp : stpK m.cons L k sq (p.set j (2 ^ a)) = brF m.cons L k (p.set j (2 ^ a)) sq := if_pos (by have := HRL.out; omega)
                have HSQ7 : Hid (stpK m.cons L k sq (p.set j (2 ^ a)) = (ks.take (q + 1)).foldl (stpK m.cons L k) (s.1, N + 1)) := Lib.hid (by rw [foldl_take_succ _ _ _ _ _ HKQ.out, ← HSQ.out])
                have HST7 : Hid (FSt w0 F m.doms.length m.cons.length a1 a2 c1 c2 L (stpK m.cons L k sq (p.set j (2 ^ a))) w7) := Lib.hid (by rw [hstp]; exact st7)
                have HFK7 := Lib.hid ((HFKq.out.trans (FKeep.of_below HB6.out)).trans fk7)
                have HO7 := Lib.hid (fk7.own (own_below HOq.out HB6.out) HST6.out.notInt)
                have HO47 := Lib.hid (fk7.own (own_below HO4q.out HB6.out) HST6.out.notInt)
                have HM7 : Hid ((stpK m.cons L k sq (p.set j (2 ^ a))).2 + ((ks.drop (q + 1)).flatMap (visF m.cons k)).length ≤ 100000) := Lib.hid (by have := stpK_two (cs := m.cons) (L := L) (k := k) (s := sq) (d' := p.set j (2 ^ a)); omega)
                clear hcall hdrop hMk hkid hstp st7 fk7 l5 y5 f5
                go_wp2
                go_roundw
                case rel => exact ⟨q + 1, _, by omega, by go_num, HSQ7, HST7, HFK7, HO7, HO47, HM7⟩
                case measure => simp [intOf]; omega
              · have hd2 : decide ((rl : Int) < (L : Int)) = false := by simp; omega
                have HFI : Hid (brF m.cons L (k + 1) d s = sq) := Lib.hid (by rw [HBF.out, foldl_split _ _ _ q, ← HSQ.out]; exact stpK_stop _ _ (by have := HRL.out; omega))
                go_wp2_with fail
                go_quiet (fail)
                go_wp2
                go_end0
                exact ⟨⟨_, rfl⟩, by rw [HFI.out]; exact HSTq.out.below (drewN_below' _ _), HFKq.out.trans (FKeep.of_below (drewN_below' _ _))⟩
            · have hd1 : decide ((q : Int) < (c : Int)) = false := by simp; omega
              have HFI : Hid (brF m.cons L (k + 1) d s = sq) := Lib.hid (by rw [HBF.out, HSQ.out, List.take_of_length_le (by have := HKL.out; omega)])
              go_wp2_with fail
              go_quiet (fail)
              go_wp2
              go_end0
              exact ⟨⟨_, rfl⟩, by rw [HFI.out]; exact HSTq.out.below (drewN_below' _ _), HFKq.out.trans (FKeep.of_below (drewN_below' _ _))⟩
      · obtain rfl : n = j := by omega
        obtain ⟨wo, hwo⟩ : ∃ wo, wo = wr := ⟨_, rfl⟩
        subst hwo
        obtain ⟨xs, hxs⟩ : ∃ xs, xs = p.map fun d => (vL d 6).headD 0 := ⟨_, rfl⟩
        have HXL : Hid (xs.length = n) := Lib.hid (by rw [hxs, List.length_map, HPL.out])
        have HXA : Hid (∀ q, q < n → xs[q]?.getD 0 = (vL (p[q]?.getD 0) 6).headD 0) := Lib.hid (fun q hq => by
          have hqp : q < p.length := by have := HPL.out; omega
          rw [hxs, List.getElem?_map, List.getElem?_eq_getElem hqp]; rfl)
        have HBF : Hid (brF m.cons L (k + 1) d s = (s.1 ++ [xs], N + 1)) := Lib.hid (by
          rw [hxs, HNN.out]
          exact brF_some (by rw [← HPP.out]; exact oneT_of (fun q hq => HE.out q (by have := HPL.out; omega))))
        have HSTr := Lib.hid (HST2.out.below HBE.out)
        have HFKr := Lib.hid (HFK2.out.trans (FKeep.of_below HBE.out))
        have HO2r := Lib.hid (own_below HO2.out HBE.out)
        obtain ⟨i0, hi, hz0, hz1, hz2⟩ := info_parts Try.info3
        obtain ⟨i1, hi', hy0, hy1, hy2⟩ := info_parts Try.info32
        clear hxs HST2 HFK2 HO2 HBE HRP HMM HVS
        go_wp2
        go_loopw [6, 7] (fun v i wr => ∃ q : Nat, q ≤ n ∧ i = .int .i64 q ∧ Hid (wr.ownsRow wo.heap.size 3 1 v (xs.take q).length ((xs.take q).map (Value.int .i64))) ∧ Hid (Below wo.heap.size wo wr)) (fun _ i _ => n - (intOf i).toNat)
        case atStart => exact ⟨0, Nat.zero_le _, rfl, Lib.hid (ownsRow_made wo 3), Lib.hid ((Below.refl _ _).alloc (Nat.le_refl _) _)⟩
        case round =>
          obtain ⟨q, hq, rfl, HR, HBq⟩ := hrel
          have hsq := HBq.out.size
          by_cases hlt2 : q < n
          · have hx := HOP.out.small q (by have := HPL.out; omega)
            have r1 := own_int_at (own_below HO2r.out HBq.out) hlt2
            have hcl := vL_cnt hx.1 hx.2
            have HC1 := Lib.hid (HE.out q hlt2)
            have HXQ := Lib.hid (HXA.out q hlt2)
            obtain ⟨x, hxx⟩ : ∃ x, x = p[q]?.getD 0 := ⟨_, rfl⟩
            rw [← hxx] at hx r1 hcl HC1 HXQ
            rw [HC1.out] at hcl
            have HCL := Lib.hid hcl
            clear hxx hcl
            go_wp2_with fail
            refine (svals_any x wr hx.1 hx.2).mono ?_
            rintro e w5 ⟨v5, rfl, o5, b5⟩
            obtain ⟨g5, cap5, e5, -, -, hc5, hc5'⟩ := own_formS o5 (by have := HCL.out; omega)
            rw [HCL.out] at e5 o5 hc5
            subst e5
            have r5 := own_int_at o5 (show 0 < 1 by omega)
            obtain ⟨z, hz⟩ : ∃ z, z = (vL x 6)[0]?.getD 0 := ⟨_, rfl⟩
            rw [← hz] at r5
            have HZ : Hid (xs[q]?.getD 0 = z) := Lib.hid (by
              rw [HXQ.out, hz]
              cases hv : vL x 6 with
              | nil => have := HCL.out; rw [hv] at this; simp at this
              | cons y ys => rfl)
            have HTK : Hid ((xs.take q).length = q) := Lib.hid (by rw [List.length_take]; have := HXL.out; omega)
            have hown := own_below HR.out b5
            rw [HTK.out] at hown
            have HB5 := Lib.hid (HBq.out.trans (b5.mono HBq.out.size))
            have hs5 := HB5.out.size
            clear hz o5 b5 r1
            go_wp2_with (at_builtin; refine wpList_append_own _ rfl _ _ 32 rfl wo.heap.size 3 i0 (.int .i64 0) 1 8 Try.underlying32 hi hz0 hz1 hz2 rfl (by decide) _ _ _ rfl (hown.alloc _) ⟨w5.heap.size, 0, none⟩ 1 1 [.int .i64 z] rfl rfl (cell_one_new _ _ _) (by simp [Value.oneCell']) (by unfold maxLen; omega) (by omega) (by simp; omega) ?_; intro v' w6 hown' hgrow _)
            have hb6 : Below wo.heap.size wo w6 := ((HB5.out.alloc (by omega) _).grown hgrow (by simp; omega) (fun j e => (hown.lt j e).1))
            have HO6 : Hid (w6.ownsRow wo.heap.size 3 1 v' (xs.take (q + 1)).length ((xs.take (q + 1)).map (Value.int .i64))) := Lib.hid (by
              rw [take_step xs q (by have := HXL.out; omega), HZ.out, List.map_append, List.length_append, HTK.out]
              exact hown')
            have HB6 := Lib.hid hb6
            clear hown hown' hgrow hb6 r5
            go_wp2
            go_roundw
            case rel => exact ⟨q + 1, by omega, by go_num, HO6, HB6⟩
            case measure => simp [intOf]; omega
          · obtain rfl : n = q := by omega
            have hxo := HR.out
            rw [List.take_of_length_le (by have := HXL.out; omega)] at hxo
            have hxo' := own_mono hxo HSTr.out.b.size
            obtain ⟨gx, capx, ex, -, -, hcx, hcx'⟩ := own_formS hxo' (by have := HXL.out; omega)
            rw [HXL.out] at ex hcx
            subst ex
            have hstq := HSTr.out.below HBq.out
            have hfkq := HFKr.out.trans (FKeep.of_below HBq.out)
            obtain ⟨fa, fc, z0, z1, z2, z3, z4, hrows, hz5, hz6, hfz⟩ := hstq.cell
            have f4 := hfz 4
            have ba : Below wr.heap.size wr (wr.alloc (.cells #[.slice (some ⟨gx, 0, none⟩) n capx] 32)) := (Below.refl _ _).alloc (Nat.le_refl _) _
            have hsta := hstq.below ba
            obtain ⟨vals, hv1, hv2⟩ := hrows.below ba
            have z4a := (ba.cell (p := ⟨F, 4, none⟩) (World.block_lt_of_cell? wr _ z4)).trans z4
            have hxa := own_below hxo' ba
            obtain ⟨rl, hrl⟩ : ∃ rl, rl = s.1.length := ⟨_, rfl⟩
            have hrl' : rl < 4096 := by have := HSL.out; omega
            have hbase : w0.heap.size ≤ wr.heap.size := hstq.b.size
            have HFN := Lib.hid (fun (v' : Value) (w6 : World) (hg : (wr.alloc (.cells #[.slice (some ⟨gx, 0, none⟩) n capx] 32)).grownBy w6 (Value.slice fa rl fc).ownBlock) (ho : w6.ownsRow w0.heap.size 32 1 v' (rl + 1) (vals ++ [.slice (some ⟨gx, 0, none⟩) n capx])) => (show (FSt w0 F m.doms.length m.cons.length a1 a2 c1 c2 L (s.1 ++ [xs], N + 1) (w6.setCell ⟨F, 4, none⟩ v') ∧ FKeep F (wr.alloc (.cells #[.slice (some ⟨gx, 0, none⟩) n capx] 32)) (w6.setCell ⟨F, 4, none⟩ v')) ∧ w6.cell? ⟨F, 4, none⟩ = some (.slice fa rl fc) ∧ w6.frozen? ⟨F, 4, none⟩ = false from by
              subst hrl
              exact ⟨hsta.found z4a hv1 hv2 hxa hg ho, hsta.foundCell z4a hv1 hg⟩))
            have HFQ := Lib.hid (hfkq.trans (FKeep.of_below ba))
            rw [← hrl] at hv1 z4 hz5
            clear hxo hxo' hstq hfkq hrows hfz ba hsta z4a hxa hv2 hrl z0 z1 z2 z3
            go_wp2_with (at_builtin; refine wpList_append_own _ rfl _ _ 44 rfl w0.heap.size 32 i1 (.slice none 0 0) 1 24 Try.underlying44 hi' hy0 hy1 hy2 rfl (by decide) _ _ _ rfl hv1 ⟨wr.heap.size, 0, none⟩ 1 1 [.slice (some ⟨gx, 0, none⟩) n capx] rfl rfl (cell_one_new _ _ _) (by simp [Value.oneCell']) (by unfold maxLen; omega) (by omega) (by simp; omega) ?_; intro v' w6 hown' hgrow _; obtain ⟨g', cap', rfl⟩ := ownsRow_succ hown'; obtain ⟨⟨hs7, hk7⟩, hc7, hf7⟩ := HFN.out _ w6 hgrow hown'; have HS7 := Lib.hid hs7; have HK7 := Lib.hid hk7; clear hs7 hk7 hown' hgrow)
            go_wp2
            refine bodyPost_ret (results_none rfl _ _ _) rfl ?_
            exact ⟨⟨_, rfl⟩, by rw [HBF.out]; exact HS7.out, HFQ.out.trans HK7.out⟩
end Go.Proofs.Ytjdbfiiaadphhaa
