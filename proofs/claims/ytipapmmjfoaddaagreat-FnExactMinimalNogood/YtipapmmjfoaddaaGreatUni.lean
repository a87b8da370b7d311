/- The program's propagation with constraints and clauses. The program's checker: made, asked. The program's checker with clauses of its own. -/
import Derived.Test.YtipapmmjfoaddaaGreatRst
import Derived.Test.YtipapmmjfoaddaaGreatConI
import Derived.Test.YtipapmmjfoaddaaGreatClz
import Derived.Deep.AppendLies

/-! The program's propagation with constraints and clauses. The program's checker: made, asked. -/
/-! The program's propagation with constraints and clauses. -/
namespace Go.Proofs.YtipapmmjfoaddaaGreat
open Go.ChangeShapes Go.WideShapes Go.ChangeAt Go.RowKit Go.Deep Go.Shelf
set_option linter.unusedVariables false
set_option linter.unusedSimpArgs false

theorem ownForm {w : World} {B : Nat} {e : TypeId} {sz n : Nat} {v : Value} {xs : List Value} (h : w.ownsRow B e sz v n xs) : ∃ a c, v = .slice a n c ∧ n ≤ c ∧ c ≤ 9223372036854775807 ∧ (0 < n → ∃ g, a = some ⟨g, 0, none⟩ ∧ B ≤ g ∧ g < w.heap.size) := by
  rcases h.2 with ⟨e, h0⟩ | ⟨g, cap, cur, e, hB, hg, q1, q2, _⟩
  · exact ⟨none, 0, by rw [h0]; exact e, by omega, by omega, fun h => by omega⟩
  · unfold maxLen at q2
    exact ⟨_, cap, e, q1, by omega, fun _ => ⟨g, rfl, hB, (Array.getElem?_eq_some_iff.1 hg).1⟩⟩
theorem not_dec {p : Prop} [Decidable p] (b : Bool) (h : decide p = b) : decide (¬ p) = !b := by rw [← h]; simp
theorem appF_domN {n : Nat} {cls : List (List Lit)} {d : List Int} (hc : ∀ ls ∈ cls, LitsOn ls n) (hd : DomN n d) (j : Nat) : DomN n (appF ((cls.map upL).take j) d) :=
  (appF_step (fun f hf => by
    obtain ⟨ls, hls, rfl⟩ := List.mem_map.1 (List.mem_of_mem_take hf)
    exact up_step (hc ls hls))).ok d hd

set_option maxRecDepth 100000 in
set_option maxHeartbeats 8000000 in
theorem unitProp_any {w0 : World} {cs : List Con} {ds : List Int} {D : Nat} {pv dv cv : Value} {P : List (Value × Nat × Value)} {vals : List Value} {cls : List (List Lit)} {X : World} (h : Chk w0 cs ds D pv dv cv P vals cls X) {gd n cd : Nat} {d : List Int}
    (hcl : ∀ ls ∈ cls, LitsOn ls n) (hd : X.ownsRow w0.heap.size 3 1 (.slice (some ⟨gd, 0, none⟩) n cd) n (d.map (Value.int .i64))) (hdn : DomN n d) (h1 : 1 ≤ n) (h4 : n ≤ 4) :
    Calls Tryz.prog 156 #[.pointer (some ⟨D, 0, none⟩), .slice (some ⟨gd, 0, none⟩) n cd] X fun e Y => e = .returned (.bool (decide (¬ appF (cls.map upL) d = d))) ∧ Chk w0 cs ds D pv dv cv P vals cls Y ∧
      Y.ownsRow w0.heap.size 3 1 (.slice (some ⟨gd, 0, none⟩) n cd) n ((appF (cls.map upL) d).map (Value.int .i64)) ∧ OffB (fun b => ClB vals b ∨ b = gd) X Y := by
  have hrd : RdInts X (.slice (some ⟨gd, 0, none⟩) n cd) d := by
    rw [← hdn.len] at hd ⊢
    exact rdInts_of_own (show X.ownsRow w0.heap.size 3 1 (.slice (some ⟨gd, 0, none⟩) d.length cd) d.length (d.map (Value.int .i64)) from hd)
  have hcx := (rdInts_cap hrd).2
  have HCI := Lib.hid (icopyInts_any _ d X hrd (by rw [hdn.len]; omega) (by rw [hdn.len]; omega))
  obtain ⟨ca, cc, ecv, hk1, hk2, hk3⟩ := ownForm h.row
  obtain ⟨k, hk⟩ : ∃ k, k = cls.length := ⟨_, rfl⟩
  rw [← hk] at ecv hk1 hk3
  subst ecv
  have HK := Lib.hid hk
  have HK3 := Lib.hid hk3
  have HX := Lib.hid h
  have HD := Lib.hid hd
  have HDN := Lib.hid hdn
  have HCL := Lib.hid hcl
  have HXB := Lib.hid h.b.size
  clear h hd hdn hcl hrd hk hk3
  go_enter Tryz.func156, Tryz.ntmps156
  go_wp2_with fail
  refine HCI.out.mono ?_
  rintro e X2 ⟨v2, rfl, o2, b2⟩
  rw [HDN.out.len] at o2
  obtain ⟨va, vc, ev2, hv1, hv2, -⟩ := ownForm o2
  subst ev2
  have HX2 := Lib.hid (HX.out.step b2)
  have HD2 := Lib.hid (own_below HD.out b2)
  have HO2 := Lib.hid o2
  have HB2 := Lib.hid b2
  obtain ⟨-, -, q2⟩ := HX2.out.cell
  clear o2 b2
  go_wp2
  go_loopw [15] (fun i wr => ∃ j : Nat, j ≤ k ∧ i = .int .i64 j ∧ Hid (Chk w0 cs ds D pv dv (.slice ca k cc) P vals cls wr) ∧ Hid (wr.ownsRow w0.heap.size 3 1 (.slice (some ⟨gd, 0, none⟩) n cd) n ((appF ((cls.map upL).take j) d).map (Value.int .i64))) ∧ Hid (OffB (fun b => ClB vals b ∨ b = gd) X2 wr)) (fun i _ => k - (intOf i).toNat)
  case atStart => exact ⟨0, Nat.zero_le _, rfl, HX2, HD2, Lib.hid (OffB.refl _ _)⟩
  case round =>
    obtain ⟨j, hj, rfl, HC, HR, HO⟩ := hrel
    by_cases hlt : j < k
    · obtain ⟨g, rfl, hg1, hg2⟩ := HK3.out (by omega)
      obtain ⟨ls, hls⟩ : ∃ ls, cls[j]? = some ls := ⟨_, List.getElem?_eq_getElem (by rw [← HK.out]; exact hlt)⟩
      obtain ⟨u, ks, hu, hpm, hoc⟩ := HC.out.cl j ls hls
      obtain ⟨ua, uc, eu, -⟩ := hoc.form
      have q1 : wr.cell? ⟨g, j, none⟩ = some u := by
        have hrow := HC.out.row
        rw [← HK.out] at hrow
        have := hrow.cells (g := g) rfl j u hu
        rw [addr_add, Nat.zero_add] at this
        exact this
      subst eu
      have hlo := HCL.out ls (List.mem_of_getElem? hls)
      obtain ⟨p, hp⟩ : ∃ p, p = appF ((cls.map upL).take j) d := ⟨_, rfl⟩
      have hpn : DomN n p := by rw [hp]; exact appF_domN HCL.out HDN.out j
      have HSN : Hid (appF ((cls.map upL).take (j + 1)) d = upL ks p) := Lib.hid (by rw [up_perm hpm, hp]; exact appF_snoc (by rw [List.getElem?_map, hls]; rfl))
      rw [← hp] at HR
      have HE := Lib.hid (wpropagate_any (.slice ua ls.length uc) ks p ls.length w0.heap.size w0.heap.size gd n cd wr hoc HR.out (by rw [hpn.len]; exact (hlo.perm hpm).vars) (hlo.perm hpm).vals h1 h4)
      have HLS := Lib.hid hls
      have HU := Lib.hid hu
      have HPM := Lib.hid hpm
      clear hls hu hpm hoc hlo hp hpn
      go_wp2_with fail
      refine HE.out.mono ?_
      rintro e w5 ⟨⟨uu, rfl⟩, o5, ⟨cs', pm', oc'⟩, off5⟩
      obtain ⟨hgb, hgl, cur, hgc⟩ := ownBlk HR.out (b := gd) rfl
      have HC5 := Lib.hid (HC.out.prop HLS.out HU.out off5 hgc hgb ⟨cs', pm'.trans HPM.out, oc'⟩)
      have HR5 : Hid (w5.ownsRow w0.heap.size 3 1 (.slice (some ⟨gd, 0, none⟩) n cd) n ((appF ((cls.map upL).take (j + 1)) d).map (Value.int .i64))) := Lib.hid (by rw [HSN.out]; exact o5)
      have HO5 : Hid (OffB (fun b => ClB vals b ∨ b = gd) X2 w5) := Lib.hid (HO.out.trans (off5.imp (fun b _ hb => by
        rcases hb with hb | hb
        · exact .inl ⟨_, List.mem_of_getElem? HU.out, hb⟩
        · exact .inr hb)))
      clear o5 pm' oc' off5 hgb hgl hgc q1
      go_wp2
      go_roundw
      all_goals first
        | exact ⟨j + 1, by omega, by go_num, HC5, HR5, HO5⟩
        | (simp [intOf]; omega)
    · obtain rfl : j = k := by omega
      have HTK : Hid ((cls.map upL).take j = cls.map upL) := Lib.hid (by rw [HK.out, ← List.length_map (f := upL), List.take_length])
      rw [HTK.out] at HR
      have HRN : Hid (DomN n (appF (cls.map upL) d)) := Lib.hid (by have := appF_domN HCL.out HDN.out j; rw [HTK.out] at this; exact this)
      have HRR : Hid (RdInts wr (.slice (some ⟨gd, 0, none⟩) n cd) (appF (cls.map upL) d)) := Lib.hid (by
        have hd := HR.out
        have hl := HRN.out.len
        revert hd
        generalize appF (cls.map upL) d = y at hl ⊢
        intro hd
        rw [← hl] at hd ⊢
        exact rdInts_of_own (show wr.ownsRow w0.heap.size 3 1 (.slice (some ⟨gd, 0, none⟩) y.length cd) y.length (y.map (Value.int .i64)) from hd))
      have HV2 : Hid (RdInts wr (.slice va n vc) d) := Lib.hid (by
        have hk : wr.ownsRow X.heap.size 3 1 (.slice va n vc) n (d.map (Value.int .i64)) := ownKeep HO2.out (fun b hb => by
          obtain ⟨hb1, hb2, c2, hc2⟩ := ownBlk HO2.out hb
          refine HO.out.block b hb2 ?_
          rintro (hb3 | rfl)
          · obtain ⟨_, _, c3, hc3⟩ := HX2.out.clB hb3
            exact blkNe hc3 hc2 litNeInt rfl
          · have := (ownBlk HD.out (b := b) rfl).2.1
            omega)
        have hl := HDN.out.len
        rw [← hl] at hk ⊢
        exact rdInts_of_own (show wr.ownsRow X.heap.size 3 1 (.slice va d.length vc) d.length (d.map (Value.int .i64)) from hk))
      have HOX : Hid (OffB (fun b => ClB vals b ∨ b = gd) X wr) := Lib.hid ((OffB.of_below HB2.out).trans HO.out)
      obtain ⟨y, hy⟩ : ∃ y, y = appF (cls.map upL) d := ⟨_, rfl⟩
      rw [← hy] at HRR
      have HY := Lib.hid hy
      clear hy
      obtain ⟨b, hb⟩ : ∃ b, b = decide (y = d) := ⟨_, rfl⟩
      have HBE := Lib.hid hb
      clear hb
      go_wp2_with fail
      refine (slicesEqual_any _ _ y d wr HRR.out HV2.out).mono ?_
      rintro e w6 ⟨rfl, kk, ek⟩
      have HB6 : Hid (Below wr.heap.size wr w6) := Lib.hid (by rw [ek]; exact below_drewN' (Below.refl _ _) _)
      clear ek
      rw [← HBE.out]
      have HF : Hid (decide (¬ appF (cls.map upL) d = d) = !b) := Lib.hid (not_dec b (by rw [← HY.out]; exact HBE.out.symm))
      cases b
      · go_wp2
        go_ret
        exact ⟨ret_bool (by rw [HF.out]; rfl), HC.out.step HB6.out, own_below HR.out HB6.out, HOX.out.step HB6.out⟩
      · go_wp2
        go_ret
        exact ⟨ret_bool (by rw [HF.out]; rfl), HC.out.step HB6.out, own_below HR.out HB6.out, HOX.out.step HB6.out⟩

set_option maxRecDepth 100000 in
set_option maxHeartbeats 8000000 in
theorem propAll_any {w0 : World} {cs : List Con} {ds : List Int} {D : Nat} {pv dv cv : Value} {P : List (Value × Nat × Value)} {vals : List Value} {cls : List (List Lit)} {X : World} (h : Chk w0 cs ds D pv dv cv P vals cls X) {n : Nat} {sv : Value} {s : List Int}
    (hcl : ∀ ls ∈ cls, LitsOn ls n) (hsv : RdInts X sv s) (hsn : DomN n s) (hok : ∀ c ∈ cs, OkC c n) (h6 : cs.length ≤ 6) (h1 : 1 ≤ n) (h4 : n ≤ 4) :
    Calls Tryz.prog 119 #[.pointer (some ⟨D, 0, none⟩), sv] X fun e Y => ∃ v, e = .returned v ∧ Y.ownsRow X.heap.size 3 1 v n ((clfL cs cls s).map (Value.int .i64)) ∧ Chk w0 cs ds D pv dv cv P vals cls Y ∧ OffB (ClB vals) X Y := by
  obtain ⟨sa, sc, esv, -⟩ := id hsv
  have hvo : ∀ c ∈ cs, VarsOk c n := fun c hc => varsOk_of (hok c hc).vc
  have hod : ∀ x, DomN n x → OkD cs n x := fun x hx => ⟨hx.len, hx.small, hvo⟩
  obtain ⟨pa, pc, epv, hp1, hp2, -⟩ := ownForm h.pr
  have hcsx := (rdInts_cap (by rw [esv] at hsv; exact hsv)).2
  have HP := Lib.hid (fun (Y : World) (x : List Int) (xv : Value) (hY : Chk w0 cs ds D pv dv cv P vals cls Y) (hx : RdInts Y xv x) (hn : DomN n x) => ipropagate_any cs P pv xv w0.heap.size x Y hY.pr ⟨hY.po.1, fun i c p hc hp => ⟨(hY.po.2 i c p hc hp).1, (hY.po.2 i c p hc hp).2.below hY.b⟩⟩ h6 (by rw [hn.len]; exact hok) hx (by rw [hn.len]; exact h1) (by rw [hn.len]; exact h4) hn.small)
  have HS := Lib.hid (clF_steps (cs := cs) hvo hcl)
  have HOD := Lib.hid hod
  have HSV := Lib.hid hsv
  have HSN := Lib.hid hsn
  have HX := Lib.hid h
  have HCL := Lib.hid hcl
  have HVO := Lib.hid hvo
  have HXB := Lib.hid h.b.size
  obtain ⟨np, hnp⟩ : ∃ np, np = P.length := ⟨_, rfl⟩
  rw [← hnp] at epv hp1
  subst epv
  obtain ⟨ns, hns⟩ : ∃ ns, ns = s.length := ⟨_, rfl⟩
  rw [← hns] at esv hcsx
  subst esv
  clear h hcl hsv hsn hok h6 hvo hod hnp hns
  obtain ⟨q0, -, -⟩ := HX.out.cell
  go_enter Tryz.func119, Tryz.ntmps119
  go_wp2_with fail
  refine (HP.out X s _ HX.out HSV.out HSN.out).mono ?_
  rintro e X2 ⟨v2, rfl, o2, b2⟩
  have HX2 := Lib.hid (HX.out.step b2)
  have HO2 : Hid (X2.ownsRow X.heap.size 3 1 v2 n ((proL cs s).map (Value.int .i64))) := Lib.hid (by rw [(pro_domN (HOD.out s HSN.out)).len] at o2; exact o2)
  have HB2 := Lib.hid b2
  have HR2 : Hid (RunF (clF cs cls) n s (proL cs s)) := Lib.hid ((RunF.start HSN.out).step (by simp [clF]) (pro_step HVO.out))
  have HF2 : Hid (proL cs (proL cs s) = proL cs s) := Lib.hid (pro_again (HOD.out s HSN.out) h1)
  clear o2 b2 q0
  go_wp2
  go_loopw [5] (fun u wr => ∃ x : List Int, Hid (wr.ownsRow X.heap.size 3 1 u n (x.map (Value.int .i64))) ∧ Hid (RunF (clF cs cls) n s x) ∧ Hid (proL cs x = x) ∧ Hid (Chk w0 cs ds D (.slice pa np pc) dv cv P vals cls wr) ∧ Hid (OffB (ClB vals) X wr)) (fun u wr => bitsD (rowOf wr u))
  case atStart => exact ⟨_, HO2, HR2, HF2, HX2, Lib.hid (OffB.of_below HB2.out)⟩
  case round =>
    obtain ⟨x, HR, HRN, HFX, HC, HO⟩ := hrel
    obtain ⟨ua, uc, eu, hu1, hu2, hu3⟩ := ownForm HR.out
    obtain ⟨g, rfl, hg1, hg2⟩ := hu3 (by omega)
    subst eu
    have HXN := Lib.hid HRN.out.ok
    have HRX : Hid (RdInts wr (.slice (some ⟨g, 0, none⟩) n uc) x) := Lib.hid (by
      have hd := HR.out
      have hl := HXN.out.len
      rw [← hl] at hd ⊢
      exact rdInts_of_own (show wr.ownsRow X.heap.size 3 1 (.slice (some ⟨g, 0, none⟩) x.length uc) x.length (x.map (Value.int .i64)) from hd))
    have HRO : Hid (rowOf wr (.slice (some ⟨g, 0, none⟩) n uc) = x) := Lib.hid (rowOf_rd HRX.out)
    have HG1 := Lib.hid hg1
    clear hg1 hg2 hu3
    have hq := HC.out.cell
    obtain ⟨y, hy⟩ : ∃ y, y = appF (cls.map upL) x := ⟨_, rfl⟩
    have HY := Lib.hid hy
    have HCU := Lib.hid (unitProp_any HC.out HCL.out (own_mono HR.out HXB.out) HXN.out h1 h4)
    rw [← hy] at HCU
    clear hy hq
    cases hb : decide (¬ y = x)
    · rw [hb] at HCU
      have HEQ : Hid (y = x) := Lib.hid (Classical.byContradiction fun h => by rw [decide_eq_true h] at hb; cases hb)
      clear hb
      have HRES : Hid (clfL cs cls s = x) := Lib.hid (by
        refine (fxF_eq HS.out HSN.out ?_).symm
        cases he : emptyB x
        · refine HRN.out.done ?_ he
          intro f hf
          rcases List.mem_cons.1 hf with rfl | hf
          · exact HFX.out
          · exact appF_fix (n := n) (fun f hf => by
              obtain ⟨ls, hls, rfl⟩ := List.mem_map.1 hf
              exact up_step (HCL.out ls hls)) HXN.out (by rw [← HY.out]; exact HEQ.out) f hf
        · have hz : x = List.replicate n 0 := by
            have := pro_empty (HOD.out x HXN.out) (by rw [HFX.out]; exact he)
            rwa [HFX.out] at this
          have := HRN.out.fail he
          rw [← hz] at this
          exact this)
      go_wp2_with fail
      refine HCU.out.mono ?_
      rintro e w5 ⟨rfl, c5, o5, off5⟩
      have HC5 := Lib.hid c5
      have HO5 : Hid (w5.ownsRow X.heap.size 3 1 (.slice (some ⟨g, 0, none⟩) n uc) n ((clfL cs cls s).map (Value.int .i64))) := Lib.hid (by
        rw [HRES.out, ← HEQ.out]
        refine ⟨o5.1, ?_⟩
        rcases o5.2 with ⟨e, h0⟩ | ⟨g', cap, cur, e, hg, rest⟩
        · cases e
        · have e' := e
          injection e' with e' _ _
          injection e' with e'
          injection e' with e'
          subst e'
          exact .inr ⟨_, cap, cur, e, HG1.out, rest⟩)
      have HF5 : Hid (OffB (ClB vals) X w5) := Lib.hid (HO.out.next off5 (fun b hb h => by
        rcases h with h | rfl
        · exact h
        · have := HG1.out; omega))
      clear c5 o5 off5
      go_wp2
      go_ret
      exact ⟨_, rfl, HO5.out, HC5.out, HF5.out⟩
    · rw [hb] at HCU
      have HNE : Hid (¬ y = x) := Lib.hid (by simpa using hb)
      clear hb
      have HUS : Hid (StepD n (appF (cls.map upL))) := Lib.hid (appF_step (fun f hf => by
        obtain ⟨ls, hls, rfl⟩ := List.mem_map.1 hf
        exact up_step (HCL.out ls hls)))
      have HYN : Hid (DomN n y) := Lib.hid (by rw [HY.out]; exact HUS.out.ok x HXN.out)
      have HLT : Hid (bitsD (proL cs y) < bitsD x) := Lib.hid (by
        have h1 := HUS.out.lt HXN.out (by rw [← HY.out]; exact HNE.out)
        rw [← HY.out] at h1
        have h2 := (pro_step HVO.out).bits_le HYN.out
        omega)
      have HR3 : Hid (RunF (clF cs cls) n s (proL cs y)) := Lib.hid ((show RunF (clF cs cls) n s y from by rw [HY.out]; exact HRN.out.sub (fun g hg => List.mem_cons_of_mem _ hg) HS.out).step (by simp [clF]) (pro_step HVO.out))
      have HF3 : Hid (proL cs (proL cs y) = proL cs y) := Lib.hid (pro_again (HOD.out y HYN.out) h1)
      go_wp2_with fail
      refine HCU.out.mono ?_
      rintro e w5 ⟨rfl, c5, o5, off5⟩
      have HC5 := Lib.hid c5
      have HRD5 : Hid (RdInts w5 (.slice (some ⟨g, 0, none⟩) n uc) y) := Lib.hid (by
        have hl := HYN.out.len
        rw [← hl] at o5 ⊢
        exact rdInts_of_own (show w5.ownsRow w0.heap.size 3 1 (.slice (some ⟨g, 0, none⟩) y.length uc) y.length (y.map (Value.int .i64)) from o5))
      have HF5 : Hid (OffB (ClB vals) X w5) := Lib.hid (HO.out.next off5 (fun b hb h => by
        rcases h with h | rfl
        · exact h
        · have := HG1.out; omega))
      clear c5 o5 off5
      obtain ⟨q0, -, -⟩ := HC5.out.cell
      go_wp2_with fail
      refine (HP.out w5 y _ HC5.out HRD5.out HYN.out).mono ?_
      rintro e w6 ⟨v6, rfl, o6, b6⟩
      have HC6 := Lib.hid (HC5.out.step b6)
      have HO6 : Hid (w6.ownsRow X.heap.size 3 1 v6 n ((proL cs y).map (Value.int .i64))) := Lib.hid (by
        rw [(pro_domN (HOD.out y HYN.out)).len] at o6
        exact own_mono o6 HF5.out.size)
      have HF6 := Lib.hid (HF5.out.step b6)
      have HM6 : Hid (bitsD (rowOf w6 v6) < bitsD (rowOf wr (.slice (some ⟨g, 0, none⟩) n uc))) := Lib.hid (by
        rw [HRO.out, rowOf_rd (rdInts_of_own o6)]
        exact HLT.out)
      clear o6 b6 q0
      go_wp2
      go_roundw
      case rel => exact ⟨_, HO6, HR3, HF3, HC6, HF6⟩
      case measure => exact HM6.out
end Go.Proofs.YtipapmmjfoaddaaGreat

/-! The program's checker: made, asked. -/
namespace Go.Proofs.YtipapmmjfoaddaaGreat
open Go.ChangeShapes Go.WideShapes Go.ChangeAt Go.RowKit Go.Deep Go.Shelf
set_option linter.unusedVariables false
set_option linter.unusedSimpArgs false

set_option maxRecDepth 100000 in
set_option maxHeartbeats 4000000 in
theorem checkerOf_any (m : Mod) (v : Value) (w0 w : World) (h : RdModel w0 v m) (hb : Below w0.heap.size w0 w) (hv : vmB m = true) :
    Calls Tryz.prog 71 #[v] w fun e Y => ∃ D pv dv P, e = .returned (.pointer (some ⟨D, 0, none⟩)) ∧ Chk w0 m.cons m.doms D pv dv (.slice none 0 0) P [] [] Y ∧ Below w.heap.size w Y := by
  obtain ⟨a1, a2, c1, c2, rfl, g1, g2⟩ := rdModel_slices h
  obtain ⟨W1, hW1⟩ : ∃ W1, w.alloc (.cells #[.slice a1 m.doms.length c1, .slice a2 m.cons.length c2] 30) = W1 := ⟨_, rfl⟩
  have B1 : Below w.heap.size w W1 := by rw [← hW1]; exact (Below.refl _ _).alloc (Nat.le_refl _) _
  have bP : Blk2 W1 w.heap.size 30 (.slice a1 m.doms.length c1) (.slice a2 m.cons.length c2) := by rw [← hW1]; exact Blk2.new w _ _ _
  obtain ⟨s1, s2, s3, s4⟩ := doms_small' hv
  have b0 : Below w0.heap.size w0 W1 := hb.trans (B1.mono hb.size)
  have HC : Hid (Calls Tryz.prog 52 #[.slice a2 m.cons.length c2] W1.drew (fun e X => ∃ pv P, e = .returned (.agg #[pv]) ∧ X.ownsRow w0.heap.size 113 2 pv P.length (flatP P) ∧ PrOf w0 m.cons P ∧ Below W1.heap.size W1 X ∧ Blk2 X w.heap.size 30 (.slice a1 m.doms.length c1) (.slice a2 m.cons.length c2))) := by
    refine Lib.hid ((engineOf2_any _ m.cons w0 W1.drew g2 b0.drew s4 (fun c hc => (okC_mem hv hc).kind)).mono ?_)
    rintro e X ⟨pv, P, rfl, ho, hpo, b'⟩
    have bb : Below W1.heap.size W1 X := (show Below W1.heap.size W1 W1.drew from (Below.refl _ _).drew).trans b'
    exact ⟨pv, P, rfl, own_mono ho b0.size, hpo, bb, bP.below bb⟩
  have HB1 := Lib.hid B1
  have HB0 := Lib.hid b0
  have HW := Lib.hid hW1
  have HP := Lib.hid bP
  have HG1 := Lib.hid g1
  clear h g1 g2 hW1 B1 bP s1 s2 s3 s4 b0
  obtain ⟨p0, p1⟩ := HP.out.cell
  go_enter Tryz.func71, Tryz.ntmps71
  go_wp2_with fail
  rw [HW.out]
  go_region_held3 (fun w' => w'.cell? ⟨w.heap.size, 0, none⟩ = some (.slice a1 m.doms.length c1) ∧ w'.cell? ⟨w.heap.size, 1, none⟩ = some (.slice a2 m.cons.length c2)) (first | go_keep | exact ⟨z0, z1⟩ | exact ⟨p0, p1⟩) (first
    | (go_at_call 52; refine HC.out.mono ?_; rintro e X ⟨pv, P, rfl, ho, hpo, bX, kX⟩; obtain ⟨z0, z1⟩ := kX.cell; have HO := Lib.hid ho; have HPO := Lib.hid hpo; have HBX := Lib.hid bX; have HKX := Lib.hid kX; clear ho hpo bX kX))
  go_wp2
  go_ret
  have b3 : Below X.heap.size X (X.alloc (.cells #[pv, .slice a1 m.doms.length c1, .slice none 0 0] 129)) := (Below.refl _ _).alloc (Nat.le_refl _) _
  have b2 : Below w0.heap.size w0 X := HB0.out.trans (HBX.out.mono HB0.out.size)
  refine ⟨X.heap.size, pv, _, P, rfl, ⟨b2.trans (b3.mono b2.size), b2.size, World.alloc_heap_new _ _, own_below HO.out b3, HPO.out, HG1.out, World.ownsRow_nil _ _ _ _, fun i ls hi => by simp at hi, fun i j u v g hu => by simp at hu⟩, HB1.out.trans ((HBX.out.mono HB1.out.size).trans (b3.mono (Nat.le_trans HB1.out.size HBX.out.size)))⟩

set_option maxRecDepth 100000 in
set_option maxHeartbeats 4000000 in
theorem propUnder_any {w0 : World} {cs : List Con} {ds : List Int} {D : Nat} {pv dv cv : Value} {P : List (Value × Nat × Value)} {vals : List Value} {cls : List (List Lit)} {X : World} (h : Chk w0 cs ds D pv dv cv P vals cls X) {n : Nat} {lv : Value} {ls : List Lit}
    (hcl : ∀ ls ∈ cls, LitsOn ls n) (hlv : RdLits X lv ls) (hls : LitsOn ls n) (hdn : DomN n ds) (hok : ∀ c ∈ cs, OkC c n) (h6 : cs.length ≤ 6) (h1 : 1 ≤ n) (h4 : n ≤ 4) :
    Calls Tryz.prog 78 #[.pointer (some ⟨D, 0, none⟩), lv] X fun e Y => ∃ v, e = .returned v ∧ Y.ownsRow X.heap.size 3 1 v n ((clfL cs cls (restL ds ls)).map (Value.int .i64)) ∧ Chk w0 cs ds D pv dv cv P vals cls Y ∧ OffB (ClB vals) X Y := by
  obtain ⟨da, dc, edv, -⟩ := id h.dr
  obtain ⟨la, lc, elv, -⟩ := id hlv
  have hrd := irestricted_any dv lv ds ls X (h.dr.below h.b) hlv (by rw [hdn.len]; exact hls) hdn.small (by rw [hdn.len]; exact h1) (by rw [hdn.len]; exact h4)
  have hdcx := (rdInts_cap (w := w0) (xs := ds) (by have := h.dr; rwa [edv] at this)).2
  have hlcx := (rdLits_len (by rwa [elv] at hlv)).2
  have hlcx1 := hlcx.1
  have hlcx2 := hlcx.2
  have HR := Lib.hid hrd
  have HRN := Lib.hid (restL_domN hdn hls)
  have HPA := Lib.hid (fun (Y : World) (sv : Value) (hY : Chk w0 cs ds D pv dv cv P vals cls Y) (hs : RdInts Y sv (restL ds ls)) => propAll_any hY hcl hs (restL_domN hdn hls) hok h6 h1 h4)
  have HX := Lib.hid h
  obtain ⟨nd, hnd⟩ : ∃ nd, nd = ds.length := ⟨_, rfl⟩
  obtain ⟨nl, hnl⟩ : ∃ nl, nl = ls.length := ⟨_, rfl⟩
  rw [← hnd] at edv hdcx
  rw [← hnl] at elv hlcx1
  subst edv elv
  clear hcl hlv hls hok h6 hrd hnd hnl h hlcx hdn
  obtain ⟨-, q1, -⟩ := HX.out.cell
  go_enter Tryz.func78, Tryz.ntmps78
  go_wp2_with fail
  refine HR.out.mono ?_
  rintro e X2 ⟨v2, rfl, o2, b2⟩
  obtain ⟨va, vc, ev2, hv1, hv2, -⟩ := ownForm o2
  have HX2 := Lib.hid (HX.out.step b2)
  have HV2 := Lib.hid (rdInts_of_own o2)
  have HB2 := Lib.hid b2
  obtain ⟨kr, hkr⟩ : ∃ kr, kr = (restL ds ls).length := ⟨_, rfl⟩
  rw [← hkr] at ev2 hv1
  subst ev2
  clear o2 b2 q1 hkr
  go_wp2_with fail
  refine (HPA.out X2 _ HX2.out HV2.out).mono ?_
  rintro e X3 ⟨v3, rfl, o3, c3, f3⟩
  obtain ⟨wa, wc, ev3, hw1, hw2, -⟩ := ownForm o3
  subst ev3
  have HO3 := Lib.hid o3
  have HC3 := Lib.hid c3
  have HF3 := Lib.hid f3
  clear o3 c3 f3
  go_wp2
  go_ret
  exact ⟨_, rfl, own_mono HO3.out HB2.out.size, HC3.out, (OffB.of_below HB2.out).trans HF3.out⟩

set_option maxRecDepth 100000 in
set_option maxHeartbeats 4000000 in
theorem refutes_any {w0 : World} {cs : List Con} {ds : List Int} {D : Nat} {pv dv cv : Value} {P : List (Value × Nat × Value)} {vals : List Value} {cls : List (List Lit)} {X : World} (h : Chk w0 cs ds D pv dv cv P vals cls X) {n : Nat} {lv : Value} {ls : List Lit}
    (hcl : ∀ ls ∈ cls, LitsOn ls n) (hlv : RdLits X lv ls) (hls : LitsOn ls n) (hdn : DomN n ds) (hok : ∀ c ∈ cs, OkC c n) (h6 : cs.length ≤ 6) (h1 : 1 ≤ n) (h4 : n ≤ 4) :
    Calls Tryz.prog 72 #[.pointer (some ⟨D, 0, none⟩), lv] X fun e Y => e = .returned (.bool (emptyB (clfL cs cls (restL ds ls)))) ∧ Chk w0 cs ds D pv dv cv P vals cls Y ∧ OffB (ClB vals) X Y := by
  obtain ⟨la, lc, elv, -⟩ := id hlv
  have hlcx := (rdLits_len (by rwa [elv] at hlv)).2
  have hlcx1 := hlcx.1
  have hlcx2 := hlcx.2
  have HP := Lib.hid (propUnder_any h hcl hlv hls hdn hok h6 h1 h4)
  have HLN : Hid ((clfL cs cls (restL ds ls)).length = n) := Lib.hid (fxF_res (clF_steps (fun c hc => varsOk_of (hok c hc).vc) hcl) (restL_domN hdn hls)).domN.len
  obtain ⟨nl, hnl⟩ : ∃ nl, nl = ls.length := ⟨_, rfl⟩
  rw [← hnl] at elv hlcx1
  subst elv
  obtain ⟨r, hr⟩ : ∃ r, r = clfL cs cls (restL ds ls) := ⟨_, rfl⟩
  rw [← hr] at HP HLN ⊢
  clear hcl hlv hls hok h6 hnl h hlcx hdn hr
  go_enter Tryz.func72, Tryz.ntmps72
  go_wp2_with fail
  refine HP.out.mono ?_
  rintro e X2 ⟨v2, rfl, o2, c2, f2⟩
  rw [← HLN.out] at o2
  have HV2 := Lib.hid (rdInts_of_own o2)
  obtain ⟨va, vc, ev2, hv1, hv2, -⟩ := ownForm o2
  rw [ev2] at HV2 ⊢
  rw [HLN.out] at HV2 hv1 ⊢
  have HC2 := Lib.hid c2
  have HF2 := Lib.hid f2
  clear o2 c2 f2 ev2
  go_wp2_with fail
  refine (ihasEmpty_any _ r X2 HV2.out).mono ?_
  rintro e w' ⟨rfl, rfl⟩
  go_wp2
  go_ret
  exact ⟨rfl, HC2.out, HF2.out⟩
end Go.Proofs.YtipapmmjfoaddaaGreat

/-! The program's checker with clauses of its own. -/
namespace Go.Proofs.YtipapmmjfoaddaaGreat
open Go.ChangeShapes Go.WideShapes Go.ChangeAt Go.RowKit Go.Deep Go.Shelf
set_option linter.unusedVariables false
set_option linter.unusedSimpArgs false

theorem blk3_set {w : World} {D : Nat} {a b c : Value} {t : TypeId} {fr : Nat × Nat} (h : w.heap[D]? = some (.cells #[a, b, c] t fr)) (v : Value) : (w.setCell ⟨D, 2, none⟩ v).heap[D]? = some (.cells #[a, b, v] t fr) := by
  obtain ⟨hlt, hk⟩ := Array.getElem?_eq_some_iff.1 h
  show (w.heap.modify D _)[D]? = _
  rw [Array.getElem?_eq_getElem (by rw [Array.size_modify]; exact hlt), Array.getElem_modify_self, hk]
  rfl
section
set_option maxRecDepth 100000
theorem exec_field2 {w : World} {ev : Operand → Value} {o : Oper} {x : Operand} {b : Nat} (ho : o.op = .fieldAddr 129 x 2) (hx : ev x = .pointer (some ⟨b, 0, none⟩)) : (execOp ev o).run Tryz.prog w = .ok (.value (.pointer (some ⟨b, 2, none⟩))) w := by
  unfold execOp
  simp only [ho, hx]
  go_simp
theorem exec_nil {w : World} {ev : Operand → Value} {o : Oper} {x : Operand} {b : Nat} (ho : o.op = .nilCheck x) (hx : ev x = .pointer (some ⟨b, 0, none⟩)) : (execOp ev o).run Tryz.prog w = .ok (.value (.pointer (some ⟨b, 0, none⟩))) w := by
  unfold execOp
  simp only [ho, hx]
  go_simp
theorem load_wats (w : World) (g o : Nat) (a : Option Addr) (n c : Nat) (h : w.cell? ⟨g, o, none⟩ = some (.slice a n c)) : (loadVar 127 ⟨g, o, none⟩).run Tryz.prog w = .ok (.slice a n c) w := by
  go_simp
theorem store_wats (w : World) (g o : Nat) (v : Value) (a : Option Addr) (n c : Nat) (h : w.cell? ⟨g, o, none⟩ = some v) (hf : w.frozen? ⟨g, o, none⟩ = false) : (Instr.storeAt 127 (.pointer (some ⟨g, o, none⟩)) (.slice a n c)).run Tryz.prog w = .ok () (w.setCell ⟨g, o, none⟩ (.slice a n c)) := by
  go_simp
theorem build_wat (w : World) (a : Option Addr) (n c : Nat) : (Instr.buildSlice 127 1 #[(0, .slice a n c)]).run Tryz.prog w = .ok (.slice (some ⟨w.heap.size, 0, none⟩) 1 1) (w.alloc (.cells #[.slice a n c] 158)) := by
  go_simp
end
theorem infoWat : (Tryz.prog.info? 158).map (fun i => (i.zero, i.size, i.bytes)) = some (some (.slice none 0 0), 1, 24) := by kernel_rfl
theorem tyCP : (158 : TypeId) ≠ 113 := by decide
theorem tyCK : (158 : TypeId) ≠ 129 := by decide
theorem tyPK : (113 : TypeId) ≠ 129 := by decide
theorem Chk.frozen {w0 : World} {cs : List Con} {ds : List Int} {D : Nat} {pv dv cv : Value} {P : List (Value × Nat × Value)} {vals : List Value} {cls : List (List Lit)} {X : World} (h : Chk w0 cs ds D pv dv cv P vals cls X) (i : Nat) : X.frozen? ⟨D, i, none⟩ = false := by
  have := h.box
  simp [World.frozen?, this]
/-- A clause has been added. -/
theorem Chk.added {w0 : World} {cs : List Con} {ds : List Int} {D : Nat} {pv dv cv : Value} {P : List (Value × Nat × Value)} {vals : List Value} {cls : List (List Lit)} {X X2 X3 w6 : World} (h : Chk w0 cs ds D pv dv cv P vals cls X) {c : List Lit} {u : Value} {g cap : Nat}
    (b2 : Below X.heap.size X X2) (hu : OwnC X2 X.heap.size u c.length c) (b3 : Below X2.heap.size X2 X3) (hg : X3.grownBy w6 cv.ownBlock)
    (hown : w6.ownsRow w0.heap.size 158 1 (.slice (some ⟨g, 0, none⟩) (cls.length + 1) cap) (cls.length + 1) (vals ++ [u])) :
    Chk w0 cs ds D pv dv (.slice (some ⟨g, 0, none⟩) (cls.length + 1) cap) P (vals ++ [u]) (cls ++ [c]) (w6.setCell ⟨D, 2, none⟩ (.slice (some ⟨g, 0, none⟩) (cls.length + 1) cap)) ∧ OffB (fun b => b = D ∨ cv.ownBlock = some b) X (w6.setCell ⟨D, 2, none⟩ (.slice (some ⟨g, 0, none⟩) (cls.length + 1) cap)) := by
  have h3 := (h.step b2).step b3
  have hcv : ∀ b, cv.ownBlock = some b → w0.heap.size ≤ b ∧ ∃ cur, X3.heap[b]? = some (.cells cur 158 (0, 0)) := fun b hb => by
    obtain ⟨q1, _, q3⟩ := ownBlk h3.row hb
    exact ⟨q1, q3⟩
  have keep6 : ∀ (b : Nat) (cur : Array Value) (t : TypeId), X3.heap[b]? = some (.cells cur t (0, 0)) → 158 ≠ t → w6.heap[b]? = X3.heap[b]? := fun b cur t hb ht => hg.block b (Array.getElem?_eq_some_iff.1 hb).1 (fun e => by
    obtain ⟨_, c', hc'⟩ := hcv b e.symm
    exact blkNe hc' hb ht rfl)
  have keepD : ∀ b, b ≠ D → (w6.setCell ⟨D, 2, none⟩ (.slice (some ⟨g, 0, none⟩) (cls.length + 1) cap)).heap[b]? = w6.heap[b]? := fun b hb => Below.heap_setCell _ _ _ _ (by show b ≠ D; exact hb)
  have box6 : w6.heap[D]? = some (.cells #[pv, dv, cv] 129 (0, 0)) := (keep6 _ _ _ h3.box tyCK).trans h3.box
  have keep : ∀ (b : Nat) (cur : Array Value) (t : TypeId), X3.heap[b]? = some (.cells cur t (0, 0)) → 158 ≠ t → t ≠ 129 → (w6.setCell ⟨D, 2, none⟩ (.slice (some ⟨g, 0, none⟩) (cls.length + 1) cap)).heap[b]? = X3.heap[b]? := fun b cur t hb ht ht2 => (keepD b (fun e => blkNe hb h3.box ht2 e)).trans (keep6 b cur t hb ht)
  have hul : ∀ b, u.ownBlock = some b → X.heap.size ≤ b := fun b hb => (ownBlk hu.2 hb).1
  have hvl : ∀ (i : Nat) (v : Value) (b : Nat), vals[i]? = some v → v.ownBlock = some b → b < X.heap.size := fun i v b hi hb => (h.clB ⟨v, List.mem_of_getElem? hi, hb⟩).2.1
  have hlen := h.len
  have b6 : Below w0.heap.size w0 w6 := h3.b.grown hg h3.b.size (fun r e => (hcv r e).1)
  refine ⟨⟨b6.setCell (p := ⟨D, 2, none⟩) h.hD _, h.hD, blk3_set box6 _, ownKeep h3.pr (fun b hb => ?_), h.po, h.dr, ?_, fun i ls hi => ?_, fun i j x y b hi hj hij hx => ?_⟩, ?_⟩
  · obtain ⟨_, _, cur, hc⟩ := ownBlk h3.pr hb
    exact keep _ _ _ hc tyCP tyPK
  · rw [List.length_append]
    refine ownKeep hown (fun b hb => keepD b (fun e => ?_))
    obtain ⟨_, _, cur, hc⟩ := ownBlk hown hb
    exact blkNe hc box6 tyCK e
  · by_cases hi' : i < cls.length
    · rw [List.getElem?_append_left hi'] at hi
      obtain ⟨v, ks, h1, h2, hq⟩ := h3.cl i ls hi
      refine ⟨v, ks, by rw [List.getElem?_append_left (by omega)]; exact h1, h2, hq.keep (fun b hb => ?_)⟩
      obtain ⟨_, _, cur, hc⟩ := ownBlk hq.2 hb
      exact keep _ _ _ hc tyLC.symm tyLK
    · rw [List.getElem?_append_right (by omega)] at hi
      have : i - cls.length = 0 := by
        have := (List.getElem?_eq_some_iff.1 hi).1
        simp at this
        omega
      rw [this] at hi
      simp at hi
      subst hi
      have hu3 := hu.below b3
      refine ⟨u, c, by rw [List.getElem?_append_right (by omega), hlen, this]; rfl, List.Perm.refl _, ⟨hu.1, own_mono (ownKeep hu3.2 (fun b hb => ?_)) h.b.size⟩⟩
      obtain ⟨_, _, cur, hc⟩ := ownBlk hu3.2 hb
      exact keep _ _ _ hc tyLC.symm tyLK
  · intro hy
    by_cases hi' : i < vals.length
    · rw [List.getElem?_append_left hi'] at hi
      by_cases hj' : j < vals.length
      · rw [List.getElem?_append_left hj'] at hj
        exact h.ap i j x y b hi hj hij hx hy
      · rw [List.getElem?_append_right (by omega)] at hj
        have : j - vals.length = 0 := by
          have := (List.getElem?_eq_some_iff.1 hj).1
          simp at this
          omega
        rw [this] at hj
        simp at hj
        subst hj
        have q1 := hvl i x b hi hx
        have q2 := hul b hy
        omega
    · rw [List.getElem?_append_right (by omega)] at hi
      have h0 : i - vals.length = 0 := by
        have := (List.getElem?_eq_some_iff.1 hi).1
        simp at this
        omega
      rw [h0] at hi
      simp at hi
      subst hi
      by_cases hj' : j < vals.length
      · rw [List.getElem?_append_left hj'] at hj
        have q1 := hvl j y b hj hy
        have q2 := hul b hx
        omega
      · have := (List.getElem?_eq_some_iff.1 hj).1
        simp at this
        omega
  · refine ⟨hg.os.trans (b3.os.trans b2.os), hg.tape.trans (b3.tape.trans b2.tape), hg.output.trans (b3.output.trans b2.output), by have := hg.size; have := b3.size; have := b2.size; simp; omega, fun b hb hn => ?_⟩
    have l2 : b < X2.heap.size := Nat.lt_of_lt_of_le hb b2.size
    have l3 : b < X3.heap.size := Nat.lt_of_lt_of_le l2 b3.size
    exact (keepD b (fun e => hn (.inl e))).trans ((hg.block b l3 (fun e => hn (.inr e.symm))).trans ((b3.block b l2).trans (b2.block b hb)))

/-- The activation inside the region of add. -/
def adAct (z0 z1 z2 z3 z4 z5 z6 z7 z8 z9 z10 z11 z12 z13 z14 : Value) : Act := { tmps := #[z0, z1, z2, z3, z4, z5, z6, z7, z8, z9, z10, z11, z12, z13, z14], defers := [] }
set_option maxRecDepth 100000 in
set_option maxHeartbeats 8000000 in
theorem add_any {w0 : World} {cs : List Con} {ds : List Int} {D : Nat} {pv dv cv : Value} {P : List (Value × Nat × Value)} {vals : List Value} {cls : List (List Lit)} {X : World} (h : Chk w0 cs ds D pv dv cv P vals cls X) {lv : Value} {c : List Lit}
    (hl : RdLits X lv c) (hx : c.length ≤ 1000) (hn : cls.length ≤ 1000000) :
    Calls Tryz.prog 118 #[.pointer (some ⟨D, 0, none⟩), lv] X fun e Y => (∃ u, e = .returned u) ∧ ∃ cv' u', Chk w0 cs ds D pv dv cv' P (vals ++ [u']) (cls ++ [c]) Y ∧ OffB (fun b => b = D ∨ cv.ownBlock = some b) X Y := by
  obtain ⟨ca, cc, ecv, hk1, hk2, -⟩ := ownForm h.row
  have HWO := Lib.hid (watchedOf_any lv c X.drew (hl.below (Below.refl _ _).drew) hx)
  obtain ⟨la, lc, elv, -⟩ := id hl
  have hlc := (rdLits_len (by rwa [elv] at hl)).2
  have hlc1 := hlc.1
  have hlc2 := hlc.2
  obtain ⟨nl, hnl⟩ : ∃ nl, nl = c.length := ⟨_, rfl⟩
  obtain ⟨k, hk⟩ : ∃ k, k = cls.length := ⟨_, rfl⟩
  rw [← hnl] at elv hlc1
  rw [← hk] at ecv hk1 hn
  subst ecv elv
  have HK := Lib.hid hk
  have HX := Lib.hid h
  have HXB := Lib.hid h.b.size
  have hS : X.drew.cell? ⟨D, 2, none⟩ = some (.slice ca k cc) := h.cell.2.2
  obtain ⟨i0, hi, hz0, hz1, hz2⟩ := info_parts infoWat
  clear h hl hx hnl hk hlc
  go_enter Tryz.func118, Tryz.ntmps118
  go_wp2_with fail
  refine region_x (fun w' => w'.cell? ⟨D, 2, none⟩ = some (.slice ca k cc)) (fun j => j == 11) rfl ?_
  change wpAnyX Tryz.prog .any _ _ _ _ 12 _ (adAct _ _ _ _ _ _ _ _ _ _ _ _ _ _ _) X.drew
  refine wpAnyX_take (i := 0) (v := .pointer (some ⟨D, 0, none⟩)) rfl (by kernel_rfl) (by kernel_rfl) (by kernel_rfl) (by kernel_rfl) (fun _ _ _ h => h) (.inl ⟨rfl, fun w' hw' => rfl⟩) hS ?_
  change wpAnyX Tryz.prog .any _ _ _ _ 11 _ (adAct _ _ _ _ (.pointer (some ⟨D, 0, none⟩)) _ _ _ _ _ _ _ _ _ _) X.drew
  refine wpAnyX_take (i := 1) (v := .pointer (some ⟨D, 0, none⟩)) rfl (by kernel_rfl) (by kernel_rfl) (by kernel_rfl) (by kernel_rfl) (fun _ _ _ h => h) (.inl ⟨rfl, fun w' hw' => rfl⟩) hS ?_
  change wpAnyX Tryz.prog .any _ _ _ _ 10 _ (adAct _ _ _ _ (.pointer (some ⟨D, 0, none⟩)) (.pointer (some ⟨D, 0, none⟩)) _ _ _ _ _ _ _ _ _) X.drew
  refine wpAnyX_take (i := 2) (v := .pointer (some ⟨D, 0, none⟩)) rfl (by kernel_rfl) (by kernel_rfl) (by kernel_rfl) (by kernel_rfl) (fun _ _ _ h => h) (.inl ⟨rfl, fun w' hw' => exec_nil rfl rfl⟩) hS ?_
  change wpAnyX Tryz.prog .any _ _ _ _ 9 _ (adAct _ _ _ _ (.pointer (some ⟨D, 0, none⟩)) (.pointer (some ⟨D, 0, none⟩)) (.pointer (some ⟨D, 0, none⟩)) _ _ _ _ _ _ _ _) X.drew
  refine wpAnyX_take (i := 3) (v := .pointer (some ⟨D, 2, none⟩)) rfl (by kernel_rfl) (by kernel_rfl) (by kernel_rfl) (by kernel_rfl) (fun _ _ _ h => h) (.inl ⟨rfl, fun w' hw' => exec_field2 rfl rfl⟩) hS ?_
  change wpAnyX Tryz.prog .any _ _ _ _ 8 _ (adAct _ _ _ _ (.pointer (some ⟨D, 0, none⟩)) (.pointer (some ⟨D, 0, none⟩)) (.pointer (some ⟨D, 0, none⟩)) (.pointer (some ⟨D, 2, none⟩)) _ _ _ _ _ _ _) X.drew
  refine wpAnyX_take (i := 4) (v := .slice ca k cc) rfl (by kernel_rfl) (by kernel_rfl) (by kernel_rfl) (by kernel_rfl) (fun _ _ _ h => h) (.inl ⟨rfl, fun w' hw' => exec_load rfl rfl (load_wats w' _ _ _ _ _ hw')⟩) hS ?_
  change wpAnyX Tryz.prog .any _ _ _ _ 7 _ (adAct _ _ _ _ (.pointer (some ⟨D, 0, none⟩)) (.pointer (some ⟨D, 0, none⟩)) (.pointer (some ⟨D, 0, none⟩)) (.pointer (some ⟨D, 2, none⟩)) (.slice ca k cc) _ _ _ _ _ _) X.drew
  refine wpAnyX_take (i := 5) (v := .slice la nl lc) rfl (by kernel_rfl) (by kernel_rfl) (by kernel_rfl) (by kernel_rfl) (fun _ _ _ h => h) (.inl ⟨rfl, fun w' hw' => rfl⟩) hS ?_
  change wpAnyX Tryz.prog .any _ _ _ _ 6 _ (adAct _ _ _ _ (.pointer (some ⟨D, 0, none⟩)) (.pointer (some ⟨D, 0, none⟩)) (.pointer (some ⟨D, 0, none⟩)) (.pointer (some ⟨D, 2, none⟩)) (.slice ca k cc) (.slice la nl lc) _ _ _ _ _) X.drew
  refine wpAnyX_one (i := 6) (by kernel_rfl) rfl (fun K' hK' => ?_)
  refine step_callL1 _ rfl 155 _ _ _ rfl rfl (enters_of Tryz.func155 (by kernel_rfl) rfl) _ HWO.out (fun c w' h => by obtain ⟨_, h, _⟩ := h; cases h) (fun w' h => by obtain ⟨_, h, _⟩ := h; cases h) ?_
  rintro vq X2 ⟨v2, e2, o2, b2⟩
  injection e2 with e2
  subst e2
  obtain ⟨ua, uc, eu, -⟩ := o2.form
  subst eu
  have HB2 : Hid (Below X.heap.size X X2) := Lib.hid ((show Below X.heap.size X X.drew from (Below.refl _ _).drew).trans b2)
  have HU2 : Hid (OwnC X2 X.heap.size (.slice ua c.length uc) c.length c) := Lib.hid o2
  have hS2 : X2.cell? ⟨D, 2, none⟩ = some (.slice ca k cc) := (HX.out.step HB2.out).cell.2.2
  clear o2 b2
  refine hK'.out _ _ (fun _ => hS2) ?_
  clear hK' K'
  change wpAnyX Tryz.prog .any _ _ _ _ 5 _ (adAct _ _ _ _ (.pointer (some ⟨D, 0, none⟩)) (.pointer (some ⟨D, 0, none⟩)) (.pointer (some ⟨D, 0, none⟩)) (.pointer (some ⟨D, 2, none⟩)) (.slice ca k cc) (.slice la nl lc) (.slice ua c.length uc) _ _ _ _) X2
  refine wpAnyX_one (i := 7) (by kernel_rfl) rfl (fun K' hK' => ?_)
  refine step_value _ (X2.alloc (.cells #[.slice ua c.length uc] 158)) rfl _ (exec_build1 rfl rfl (build_wat X2 _ _ _)) ?_
  have hS3 : (X2.alloc (.cells #[.slice ua c.length uc] 158)).cell? ⟨D, 2, none⟩ = some (.slice ca k cc) := ((HX.out.step HB2.out).step ((Below.refl _ _).alloc (Nat.le_refl _) _)).cell.2.2
  refine hK'.out _ _ (fun _ => hS3) ?_
  clear hK' K'
  change wpAnyX Tryz.prog .any _ _ _ _ 4 _ (adAct _ _ _ _ (.pointer (some ⟨D, 0, none⟩)) (.pointer (some ⟨D, 0, none⟩)) (.pointer (some ⟨D, 0, none⟩)) (.pointer (some ⟨D, 2, none⟩)) (.slice ca k cc) (.slice la nl lc) (.slice ua c.length uc) (.slice (some ⟨X2.heap.size, 0, none⟩) 1 1) _ _ _) (X2.alloc (.cells #[.slice ua c.length uc] 158))
  refine wpAnyX_one (i := 8) (by kernel_rfl) rfl (fun K' hK' => ?_)
  refine step_append_lies _ rfl (.tmp 8) (.tmp 11) 127 rfl w0.heap.size 158 i0 (.slice none 0 0) 1 24 Tryz.underlying127 hi hz0 hz1 hz2 rfl (by decide) _ k vals rfl (by have := ((HX.out.step HB2.out).step ((Below.refl _ _).alloc (Nat.le_refl _) (.cells #[.slice ua c.length uc] 158))).row; rw [← HK.out] at this; exact this) ⟨X2.heap.size, 0, none⟩ 1 1 [.slice ua c.length uc] rfl rfl (World.news_of_block (World.alloc_heap_new X2 _)) (by simp [Value.oneCell']) (by decide) (by unfold maxLen; omega) (by omega) (by have := HXB.out; have := HB2.out.size; simp; omega) _ rfl ?_
  intro g cap' w6 hown hgrow hat hlt6
  have HO6 := Lib.hid hown
  have HG6 := Lib.hid hgrow
  have hS6 : w6.cell? ⟨D, 2, none⟩ = some (.slice ca k cc) := by
    have h3 := (HX.out.step HB2.out).step ((Below.refl _ _).alloc (Nat.le_refl _) (.cells #[.slice ua c.length uc] 158))
    refine (World.cell?_of_block (w := (X2.alloc (.cells #[.slice ua c.length uc] 158))) (hgrow.block D h3.lt (fun e => ?_))).trans h3.cell.2.2
    obtain ⟨_, _, cur, hc⟩ := ownBlk h3.row e.symm
    exact blkNe hc h3.box tyCK rfl
  have hF6 : w6.frozen? ⟨D, 2, none⟩ = false := by
    have h3 := (HX.out.step HB2.out).step ((Below.refl _ _).alloc (Nat.le_refl _) (.cells #[.slice ua c.length uc] 158))
    refine (World.frozen?_of_block (w := (X2.alloc (.cells #[.slice ua c.length uc] 158))) (hgrow.block D h3.lt (fun e => ?_))).trans (h3.frozen 2)
    obtain ⟨_, _, cur, hc⟩ := ownBlk h3.row e.symm
    exact blkNe hc h3.box tyCK rfl
  clear hown hgrow hat hlt6
  refine hK'.out _ _ (fun _ => hS6) ?_
  clear hK' K'
  change wpAnyX Tryz.prog .any _ _ _ _ 3 _ (adAct _ _ _ _ (.pointer (some ⟨D, 0, none⟩)) (.pointer (some ⟨D, 0, none⟩)) (.pointer (some ⟨D, 0, none⟩)) (.pointer (some ⟨D, 2, none⟩)) (.slice ca k cc) (.slice la nl lc) (.slice ua c.length uc) (.slice (some ⟨X2.heap.size, 0, none⟩) 1 1) (.slice (some ⟨g, 0, none⟩) (k + 1) cap') _ _) w6
  refine wpAnyX_one (i := 9) (by kernel_rfl) rfl (fun K' hK' => ?_)
  refine step_value _ w6 rfl _ (exec_nil rfl rfl) ?_
  refine hK'.out _ _ (fun _ => hS6) ?_
  clear hK' K'
  change wpAnyX Tryz.prog .any _ _ _ _ 2 _ (adAct _ _ _ _ (.pointer (some ⟨D, 0, none⟩)) (.pointer (some ⟨D, 0, none⟩)) (.pointer (some ⟨D, 0, none⟩)) (.pointer (some ⟨D, 2, none⟩)) (.slice ca k cc) (.slice la nl lc) (.slice ua c.length uc) (.slice (some ⟨X2.heap.size, 0, none⟩) 1 1) (.slice (some ⟨g, 0, none⟩) (k + 1) cap') (.pointer (some ⟨D, 0, none⟩)) _) w6
  refine wpAnyX_take (i := 10) (v := .pointer (some ⟨D, 2, none⟩)) rfl (by kernel_rfl) (by kernel_rfl) (by kernel_rfl) (by kernel_rfl) (fun _ _ _ h => h) (.inl ⟨rfl, fun w' hw' => exec_field2 rfl rfl⟩) hS6 ?_
  change wpAnyX Tryz.prog .any _ _ _ _ 1 _ (adAct _ _ _ _ (.pointer (some ⟨D, 0, none⟩)) (.pointer (some ⟨D, 0, none⟩)) (.pointer (some ⟨D, 0, none⟩)) (.pointer (some ⟨D, 2, none⟩)) (.slice ca k cc) (.slice la nl lc) (.slice ua c.length uc) (.slice (some ⟨X2.heap.size, 0, none⟩) 1 1) (.slice (some ⟨g, 0, none⟩) (k + 1) cap') (.pointer (some ⟨D, 0, none⟩)) (.pointer (some ⟨D, 2, none⟩))) w6
  refine wpAnyX_one (i := 11) (by kernel_rfl) rfl (fun K' hK' => ?_)
  refine step_skip _ (w6.setCell ⟨D, 2, none⟩ (.slice (some ⟨g, 0, none⟩) (k + 1) cap')) rfl (exec_store rfl rfl rfl (store_wats _ _ _ _ _ _ _ hS6 hF6)) ?_
  refine hK'.out _ _ (fun _ => by rename_i h; cases h) ?_
  clear hK' K'
  change wpAnyX Tryz.prog .any _ _ _ _ 0 _ (adAct _ _ _ _ (.pointer (some ⟨D, 0, none⟩)) (.pointer (some ⟨D, 0, none⟩)) (.pointer (some ⟨D, 0, none⟩)) (.pointer (some ⟨D, 2, none⟩)) (.slice ca k cc) (.slice la nl lc) (.slice ua c.length uc) (.slice (some ⟨X2.heap.size, 0, none⟩) 1 1) (.slice (some ⟨g, 0, none⟩) (k + 1) cap') (.pointer (some ⟨D, 0, none⟩)) (.pointer (some ⟨D, 2, none⟩))) (w6.setCell ⟨D, 2, none⟩ (.slice (some ⟨g, 0, none⟩) (k + 1) cap'))
  refine wpAnyX_done (by kernel_rfl) ?_ _
  unfold adAct
  have hfin := HX.out.added HB2.out HU2.out ((Below.refl _ _).alloc (Nat.le_refl _) _) HG6.out (by rw [← HK.out]; exact HO6.out)
  rw [← HK.out] at hfin
  have HFIN := Lib.hid hfin
  clear hfin hS hS2 hS3 hS6
  go_wp2
  refine bodyPost_end (results_none rfl _ _ _) rfl ?_
  exact ⟨⟨_, rfl⟩, _, _, HFIN.out.1, HFIN.out.2⟩
end Go.Proofs.YtipapmmjfoaddaaGreat
