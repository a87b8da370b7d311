/- The reference's propagation with constraints and clauses. PropagateClauses, both packages. -/
import Derived.Test.YtipapmmjfoaddaaGreatClz
import Derived.Test.YtipapmmjfoaddaaGreatUni
import Derived.Test.YtipapmmjfoaddaaGreatProS

/-! The reference's propagation with constraints and clauses. -/
namespace Go.Proofs.YtipapmmjfoaddaaGreat
open Go.ChangeShapes Go.WideShapes Go.ChangeAt Go.RowKit Go.Deep Go.Shelf
set_option linter.unusedVariables false
set_option linter.unusedSimpArgs false

set_option maxRecDepth 100000 in
set_option maxHeartbeats 8000000 in
theorem sclauseFixpoint_any (m : Mod) (v cv dv : Value) (cls : List (List Lit)) (ds : List Int) (w : World) (h : RdModel w v m) (hc : RdClz w cv cls) (hd : RdInts w dv ds) (hcl : ∀ ls ∈ cls, LitsOn ls ds.length) (h1 : 1 ≤ ds.length) (h4 : ds.length ≤ 4) (hs : Small ds 0 63) (hok : ∀ c ∈ m.cons, OkC c ds.length) (hm6 : m.cons.length ≤ 6) :
    Calls Tryz.prog 75 #[v, cv, dv] w (IntsPost (clfL m.cons cls ds) w) := by
  obtain ⟨a1, a2, c1, c2, rfl, g1, g2⟩ := rdModel_slices h
  obtain ⟨ax, cx, ev, -⟩ := id hd
  obtain ⟨ac, cc, ecv, -⟩ := id hc
  obtain ⟨W1, hW1⟩ : ∃ W1, w.alloc (.cells #[.slice a1 m.doms.length c1, .slice a2 m.cons.length c2] 30) = W1 := ⟨_, rfl⟩
  have B1 : Below w.heap.size w W1 := by rw [← hW1]; exact (Below.refl _ _).alloc (Nat.le_refl _) _
  have bP : Blk2 W1 w.heap.size 30 (.slice a1 m.doms.length c1) (.slice a2 m.cons.length c2) := by rw [← hW1]; exact Blk2.new w _ _ _
  have HM := Lib.hid (h.below B1)
  have HD := Lib.hid (hd.below B1)
  have HCZ := Lib.hid (hc.below B1)
  rw [ev] at HD ⊢
  rw [ecv] at HCZ ⊢
  have hvo : ∀ c ∈ m.cons, VarsOk c ds.length := fun c hc => varsOk_of (hok c hc).vc
  have HSN : Hid (DomN ds.length ds) := Lib.hid ⟨rfl, hs⟩
  have HST := Lib.hid (clF_steps (cs := m.cons) hvo hcl)
  have HVO := Lib.hid hvo
  have HOK := Lib.hid hok
  have HCL := Lib.hid hcl
  have HB1 := Lib.hid B1
  have HW := Lib.hid hW1
  have HP := Lib.hid bP
  obtain ⟨i0, hi, hz0, hz1, hz2⟩ := info_parts Tryz.info3
  obtain ⟨k, hk⟩ : ∃ k, k = cls.length := ⟨_, rfl⟩
  obtain ⟨n, hn⟩ : ∃ n, n = ds.length := ⟨_, rfl⟩
  rw [← hk] at HCZ ⊢
  rw [← hn] at h1 h4 HSN HST HVO HOK HCL HD ⊢
  have hcd := (rdInts_cap HD.out).2
  have hcl' := rdClz_len HCZ.out
  have hcl1 := hcl'.2.1
  have hcl2 := hcl'.2.2
  have HK := Lib.hid hk
  have HN := Lib.hid hn
  clear h hd hc g1 g2 hW1 B1 bP ev ecv hok hcl hvo hk hn hs hcl'
  obtain ⟨p0, p1⟩ := HP.out.cell
  go_enter Tryz.func75, Tryz.ntmps75
  go_wp2_with fail
  rw [HW.out]
  refine (scopyInts_any _ ds W1 HD.out (by have := HN.out; omega) (by have := HN.out; omega)).mono ?_
  rintro e w2 ⟨v2, rfl, o2, b2⟩
  rw [← HN.out] at o2
  have HB2 := Lib.hid (HB1.out.trans (b2.mono HB1.out.size))
  have HM2 := Lib.hid (HM.out.below b2)
  have HCZ2 := Lib.hid (HCZ.out.below b2)
  have HP2 := Lib.hid (HP.out.below b2)
  have HO2 := Lib.hid (own_mono o2 HB1.out.size)
  clear p0 p1 b2 o2 HM HCZ HP HD HW HB1
  go_wp2
  go_loopw [7] (fun u wr => ∃ x : List Int, Hid (wr.ownsRow w.heap.size 3 1 u n (x.map (Value.int .i64))) ∧ Hid (RunF (clF m.cons cls) n ds x) ∧ Hid (Below w2.heap.size w2 wr)) (fun u wr => bitsD (rowOf wr u))
  case atStart => exact ⟨ds, HO2, Lib.hid (RunF.start HSN.out), Lib.hid (Below.refl _ _)⟩
  case round =>
    obtain ⟨x, HO, HR, HBE⟩ := hrel
    obtain ⟨wo, hwo⟩ : ∃ wo, wo = wr := ⟨_, rfl⟩
    subst hwo
    obtain ⟨p0, p1⟩ := (HP2.out.below HBE.out).cell
    have HXN := Lib.hid HR.out.ok
    have HRX : Hid (RdInts wo u7 x) := Lib.hid (by
      have hd := HO.out
      have hl := HXN.out.len
      rw [← hl] at hd
      exact rdInts_of_own hd)
    have HBX := Lib.hid (show bitsD (rowOf wo u7) = bitsD x by rw [rowOf_rd HRX.out])
    obtain ⟨ua, uc, eu, hu1, hu2, -⟩ := ownForm HO.out
    have HY0 := Lib.hid (show DomN n (proL m.cons x) from (pro_step HVO.out).ok x HXN.out)
    subst eu
    go_wp2_with fail
    refine (sfixpoint_any m _ _ x wo (HM2.out.below HBE.out) HRX.out (by rw [HXN.out.len]; exact h1) (by rw [HXN.out.len]; exact h4) HXN.out.small (by rw [HXN.out.len]; exact HOK.out) hm6).mono ?_
    rintro e w3 ⟨v3, rfl, o3, b3⟩
    rw [HY0.out.len] at o3
    have HB3 := Lib.hid (HBE.out.trans (b3.mono HBE.out.size))
    have HO3 := Lib.hid (own_mono o3 (Nat.le_trans HB2.out.size HBE.out.size))
    have HU3 := Lib.hid (own_below HO.out b3)
    clear p0 p1 b3 o3
    go_wp2
    go_loopw [8, 9] (fun u i wr => ∃ j : Nat, j ≤ k ∧ i = .int .i64 j ∧ Hid (wr.ownsRow w.heap.size 3 1 u n ((appF ((cls.map upL).take j) (proL m.cons x)).map (Value.int .i64))) ∧ Hid (Below w3.heap.size w3 wr)) (fun _ i _ => k - (intOf i).toNat)
    case atStart => exact ⟨0, Nat.zero_le _, rfl, HO3, Lib.hid (Below.refl _ _)⟩
    case round =>
      obtain ⟨j, hj, rfl, HOJ, HBJ⟩ := hrel
      have HB3J := Lib.hid (HB3.out.trans (HBJ.out.mono HB3.out.size))
      have HNJ := Lib.hid (appF_domN HCL.out HY0.out j)
      by_cases hlt : j < k
      · obtain ⟨b, o, u, ls, rfl, hls, q, r⟩ := rdClz_at (HCZ2.out.below HB3J.out) hlt
        have HSNC : Hid (appF ((cls.map upL).take (j + 1)) (proL m.cons x) = upL ls (appF ((cls.map upL).take j) (proL m.cons x))) := Lib.hid (appF_snoc (by rw [List.getElem?_map, hls]; rfl))
        have hlo := HCL.out ls (List.mem_of_getElem? hls)
        obtain ⟨p, hp⟩ : ∃ p, p = appF ((cls.map upL).take j) (proL m.cons x) := ⟨_, rfl⟩
        rw [← hp] at HOJ HSNC HNJ
        have hrp : RdInts wr u8 p := by
          have hd := HOJ.out
          have hl := HNJ.out.len
          rw [← hl] at hd
          exact rdInts_of_own hd
        have HE := Lib.hid (scf_any u u8 ls p wr r hrp (by rw [HNJ.out.len]; exact hlo.vars) hlo.vals (by rw [HNJ.out.len]; exact h1) (by rw [HNJ.out.len]; exact h4))
        obtain ⟨va, vc, e8, hv1, hv2, -⟩ := ownForm HOJ.out
        obtain ⟨xa, xc, ex, -⟩ := r
        rw [ex] at q HE
        have HUN : Hid ((upL ls p).length = n) := Lib.hid (by rw [upL_length, HNJ.out.len])
        subst e8
        clear hls hlo hp hrp ex
        go_wp2_with fail
        refine HE.out.mono ?_
        rintro e w5 ⟨v5, rfl, o5, b5⟩
        rw [HUN.out] at o5
        have HO5 : Hid (w5.ownsRow w.heap.size 3 1 v5 n ((appF ((cls.map upL).take (j + 1)) (proL m.cons x)).map (Value.int .i64))) := Lib.hid (by rw [HSNC.out]; exact own_mono o5 (Nat.le_trans HB2.out.size HB3J.out.size))
        have HB5 := Lib.hid (HBJ.out.trans (b5.mono HBJ.out.size))
        clear o5 b5 q
        go_wp2
        go_roundw
        case rel => exact ⟨j + 1, by omega, by go_num, HO5, HB5⟩
        case measure => simp [intOf]; omega
      · obtain rfl : j = k := by omega
        have HTK : Hid (appF ((cls.map upL).take j) (proL m.cons x) = appF (clF m.cons cls) x) := Lib.hid (by rw [HK.out, ← List.length_map (f := upL), List.take_length]; rfl)
        rw [HTK.out] at HOJ HNJ
        obtain ⟨y, hy⟩ : ∃ y, y = appF (clF m.cons cls) x := ⟨_, rfl⟩
        rw [← hy] at HOJ HNJ
        have HY := Lib.hid hy
        have HRY : Hid (RdInts wr u8 y) := Lib.hid (by
          have hd := HOJ.out
          have hl := HNJ.out.len
          rw [← hl] at hd
          exact rdInts_of_own hd)
        have HUJ := Lib.hid (own_below HU3.out HBJ.out)
        have HRU : Hid (RdInts wr (.slice ua n uc) x) := Lib.hid (by
          have hd := HUJ.out
          have hl := HXN.out.len
          rw [← hl] at hd ⊢
          exact rdInts_of_own (show wr.ownsRow w.heap.size 3 1 (.slice ua x.length uc) x.length (x.map (Value.int .i64)) from hd))
        obtain ⟨va, vc, e8, hv1, hv2, -⟩ := ownForm HOJ.out
        subst e8
        clear hy
        cases he : emptyB y
        case true =>
          have HZ : Hid (clfL m.cons cls ds = List.replicate n 0) := Lib.hid (fxF_eq HST.out HSN.out ((show RunF (clF m.cons cls) n ds y from by rw [HY.out]; exact HR.out.app HST.out).fail he)).symm
          have HRL : Hid ((List.replicate n (0 : Int)).length = n) := Lib.hid (by simp)
          go_wp2_with (first
            | (go_at_call 66; refine (shasEmpty_any _ y _ HRY.out).mono ?_; rintro e w3' ⟨rfl, rfl⟩; rw [he])
            | (at_make; refine wpList_make_full _ rfl _ _ 22 rfl wr.heap.size 3 i0 (.int .i64 0) 1 Tryz.underlying22 hi hz0 hz1 .i64 .i64 _ _ n rfl rfl rfl rfl (by rw [hz2]; omega) (by unfold maxLen; omega) (Nat.le_refl _) ?_; intro w4 hown hgrow))
          rw [madeInts] at hown
          have HO4 := Lib.hid hown
          have HB4 := Lib.hid (below_of_grown hgrow)
          clear hown hgrow
          go_wp2
          go_ret
          exact ⟨_, rfl, by rw [HZ.out, HRL.out]; exact own_mono HO4.out (Nat.le_trans HB2.out.size HB3J.out.size), HB2.out.trans ((HB3J.out.mono HB2.out.size).trans (HB4.out.mono (Nat.le_trans HB2.out.size HB3J.out.size)))⟩
        case false =>
          by_cases hyx : y = x
          · have HZ : Hid (clfL m.cons cls ds = x) := Lib.hid (fxF_eq HST.out HSN.out (HR.out.done (appF_fix HST.out HXN.out (by rw [← HY.out]; exact hyx)) (by rw [← hyx]; exact he))).symm
            have HDE := Lib.hid (decide_eq_true hyx)
            have HXE : Hid (emptyB x = false) := Lib.hid (by rw [← hyx]; exact he)
            clear hyx
            go_wp2_with (first
              | (go_at_call 66; refine (shasEmpty_any _ y _ HRY.out).mono ?_; rintro e w3' ⟨rfl, rfl⟩; rw [he])
              | (go_at_call 108; refine (sequalInts_any _ _ y x _ HRY.out HRU.out).mono ?_; rintro e w6 ⟨rfl, kk, ek⟩; have HB6 : Hid (Below wr.heap.size wr w6) := Lib.hid (by rw [ek]; exact below_drewN' (Below.refl _ _) _); clear ek; rw [HDE.out]))
            go_ret
            have HXL : Hid ((clfL m.cons cls ds).length = n) := Lib.hid (by rw [HZ.out]; exact HXN.out.len)
            exact ⟨_, rfl, by rw [HXL.out, HZ.out]; exact own_below HUJ.out HB6.out, HB2.out.trans ((HB3J.out.mono HB2.out.size).trans (HB6.out.mono (Nat.le_trans HB2.out.size HB3J.out.size)))⟩
          · have HLT : Hid (bitsD y < bitsD x) := Lib.hid (by
              have := (appF_step HST.out).lt HXN.out (by rw [← HY.out]; exact hyx)
              rwa [← HY.out] at this)
            have HDE := Lib.hid (decide_eq_false hyx)
            have HRR : Hid (RunF (clF m.cons cls) n ds y) := Lib.hid (by rw [HY.out]; exact HR.out.app HST.out)
            clear hyx
            go_wp2_with (first
              | (go_at_call 66; refine (shasEmpty_any _ y _ HRY.out).mono ?_; rintro e w3' ⟨rfl, rfl⟩; rw [he])
              | (go_at_call 108; refine (sequalInts_any _ _ y x _ HRY.out HRU.out).mono ?_; rintro e w6 ⟨rfl, kk, ek⟩; have HB6 : Hid (Below wr.heap.size wr w6) := Lib.hid (by rw [ek]; exact below_drewN' (Below.refl _ _) _); clear ek; rw [HDE.out]))
            have HO6 := Lib.hid (own_below HOJ.out HB6.out)
            have HB36 := Lib.hid (HB3J.out.trans (HB6.out.mono HB3J.out.size))
            have HM6 : Hid (bitsD (rowOf w6 (.slice va n vc)) < bitsD (rowOf wo (.slice ua n uc))) := Lib.hid (by rw [HBX.out, rowOf_rd (HRY.out.below HB6.out)]; exact HLT.out)
            go_roundw
            case rel => exact ⟨y, HO6, HRR, HB36⟩
            case measure => exact HM6.out

set_option maxRecDepth 100000 in
set_option maxHeartbeats 8000000 in
theorem srefute_any (m : Mod) (v cv dv : Value) (cls : List (List Lit)) (ds : List Int) (w : World) (h : RdModel w v m) (hc : RdClz w cv cls) (hd : RdInts w dv ds) (hcl : ∀ ls ∈ cls, LitsOn ls ds.length) (h1 : 1 ≤ ds.length) (h4 : ds.length ≤ 4) (hs : Small ds 0 63) (hok : ∀ c ∈ m.cons, OkC c ds.length) (hm6 : m.cons.length ≤ 6) :
    Calls Tryz.prog 126 #[v, cv, dv] w (BoolPost (emptyB (clfL m.cons cls ds)) w) := by
  obtain ⟨a1, a2, c1, c2, rfl, g1, g2⟩ := rdModel_slices h
  obtain ⟨ax, cx, ev, -⟩ := id hd
  obtain ⟨ac, cc, ecv, -⟩ := id hc
  obtain ⟨W1, hW1⟩ : ∃ W1, w.alloc (.cells #[.slice a1 m.doms.length c1, .slice a2 m.cons.length c2] 30) = W1 := ⟨_, rfl⟩
  have B1 : Below w.heap.size w W1 := by rw [← hW1]; exact (Below.refl _ _).alloc (Nat.le_refl _) _
  have bP : Blk2 W1 w.heap.size 30 (.slice a1 m.doms.length c1) (.slice a2 m.cons.length c2) := by rw [← hW1]; exact Blk2.new w _ _ _
  have HM := Lib.hid (h.below B1)
  have HD := Lib.hid (hd.below B1)
  have HCZ := Lib.hid (hc.below B1)
  rw [ev] at HD ⊢
  rw [ecv] at HCZ ⊢
  have hvo : ∀ c ∈ m.cons, VarsOk c ds.length := fun c hc => varsOk_of (hok c hc).vc
  have HSN : Hid (DomN ds.length ds) := Lib.hid ⟨rfl, hs⟩
  have HST := Lib.hid (clF_steps (cs := m.cons) hvo hcl)
  have HVO := Lib.hid hvo
  have HOK := Lib.hid hok
  have HCL := Lib.hid hcl
  have HB1 := Lib.hid B1
  have HW := Lib.hid hW1
  have HP := Lib.hid bP
  obtain ⟨i0, hi, hz0, hz1, hz2⟩ := info_parts Tryz.info3
  obtain ⟨k, hk⟩ : ∃ k, k = cls.length := ⟨_, rfl⟩
  obtain ⟨n, hn⟩ : ∃ n, n = ds.length := ⟨_, rfl⟩
  rw [← hk] at HCZ ⊢
  rw [← hn] at h1 h4 HSN HST HVO HOK HCL HD ⊢
  have hcd := (rdInts_cap HD.out).2
  have hcl' := rdClz_len HCZ.out
  have hcl1 := hcl'.2.1
  have hcl2 := hcl'.2.2
  have HK := Lib.hid hk
  have HN := Lib.hid hn
  clear h hd hc g1 g2 hW1 B1 bP ev ecv hok hcl hvo hk hn hs hcl'
  obtain ⟨p0, p1⟩ := HP.out.cell
  go_enter Tryz.func126, Tryz.ntmps126
  go_wp2_with fail
  rw [HW.out]
  refine (scopyInts_any _ ds W1 HD.out (by have := HN.out; omega) (by have := HN.out; omega)).mono ?_
  rintro e w2 ⟨v2, rfl, o2, b2⟩
  rw [← HN.out] at o2
  have HB2 := Lib.hid (HB1.out.trans (b2.mono HB1.out.size))
  have HM2 := Lib.hid (HM.out.below b2)
  have HCZ2 := Lib.hid (HCZ.out.below b2)
  have HP2 := Lib.hid (HP.out.below b2)
  have HO2 := Lib.hid (own_mono o2 HB1.out.size)
  clear p0 p1 b2 o2 HM HCZ HP HD HW HB1
  go_wp2
  go_loopw [7] (fun u wr => ∃ x : List Int, Hid (wr.ownsRow w.heap.size 3 1 u n (x.map (Value.int .i64))) ∧ Hid (RunF (clF m.cons cls) n ds x) ∧ Hid (Below w2.heap.size w2 wr)) (fun u wr => bitsD (rowOf wr u))
  case atStart => exact ⟨ds, HO2, Lib.hid (RunF.start HSN.out), Lib.hid (Below.refl _ _)⟩
  case round =>
    obtain ⟨x, HO, HR, HBE⟩ := hrel
    obtain ⟨wo, hwo⟩ : ∃ wo, wo = wr := ⟨_, rfl⟩
    subst hwo
    obtain ⟨p0, p1⟩ := (HP2.out.below HBE.out).cell
    have HXN := Lib.hid HR.out.ok
    have HRX : Hid (RdInts wo u7 x) := Lib.hid (by
      have hd := HO.out
      have hl := HXN.out.len
      rw [← hl] at hd
      exact rdInts_of_own hd)
    have HBX := Lib.hid (show bitsD (rowOf wo u7) = bitsD x by rw [rowOf_rd HRX.out])
    obtain ⟨ua, uc, eu, hu1, hu2, -⟩ := ownForm HO.out
    have HY0 := Lib.hid (show DomN n (proL m.cons x) from (pro_step HVO.out).ok x HXN.out)
    subst eu
    go_wp2_with fail
    refine (sfixpoint_any m _ _ x wo (HM2.out.below HBE.out) HRX.out (by rw [HXN.out.len]; exact h1) (by rw [HXN.out.len]; exact h4) HXN.out.small (by rw [HXN.out.len]; exact HOK.out) hm6).mono ?_
    rintro e w3 ⟨v3, rfl, o3, b3⟩
    rw [HY0.out.len] at o3
    have HB3 := Lib.hid (HBE.out.trans (b3.mono HBE.out.size))
    have HO3 := Lib.hid (own_mono o3 (Nat.le_trans HB2.out.size HBE.out.size))
    have HU3 := Lib.hid (own_below HO.out b3)
    clear p0 p1 b3 o3
    go_wp2
    go_loopw [8, 9] (fun u i wr => ∃ j : Nat, j ≤ k ∧ i = .int .i64 j ∧ Hid (wr.ownsRow w.heap.size 3 1 u n ((appF ((cls.map upL).take j) (proL m.cons x)).map (Value.int .i64))) ∧ Hid (Below w3.heap.size w3 wr)) (fun _ i _ => k - (intOf i).toNat)
    case atStart => exact ⟨0, Nat.zero_le _, rfl, HO3, Lib.hid (Below.refl _ _)⟩
    case round =>
      obtain ⟨j, hj, rfl, HOJ, HBJ⟩ := hrel
      have HB3J := Lib.hid (HB3.out.trans (HBJ.out.mono HB3.out.size))
      have HNJ := Lib.hid (appF_domN HCL.out HY0.out j)
      by_cases hlt : j < k
      · obtain ⟨b, o, u, ls, rfl, hls, q, r⟩ := rdClz_at (HCZ2.out.below HB3J.out) hlt
        have HSNC : Hid (appF ((cls.map upL).take (j + 1)) (proL m.cons x) = upL ls (appF ((cls.map upL).take j) (proL m.cons x))) := Lib.hid (appF_snoc (by rw [List.getElem?_map, hls]; rfl))
        have hlo := HCL.out ls (List.mem_of_getElem? hls)
        obtain ⟨p, hp⟩ : ∃ p, p = appF ((cls.map upL).take j) (proL m.cons x) := ⟨_, rfl⟩
        rw [← hp] at HOJ HSNC HNJ
        have hrp : RdInts wr u8 p := by
          have hd := HOJ.out
          have hl := HNJ.out.len
          rw [← hl] at hd
          exact rdInts_of_own hd
        have HE := Lib.hid (scf_any u u8 ls p wr r hrp (by rw [HNJ.out.len]; exact hlo.vars) hlo.vals (by rw [HNJ.out.len]; exact h1) (by rw [HNJ.out.len]; exact h4))
        obtain ⟨va, vc, e8, hv1, hv2, -⟩ := ownForm HOJ.out
        obtain ⟨xa, xc, ex, -⟩ := r
        rw [ex] at q HE
        have HUN : Hid ((upL ls p).length = n) := Lib.hid (by rw [upL_length, HNJ.out.len])
        subst e8
        clear hls hlo hp hrp ex
        go_wp2_with fail
        refine HE.out.mono ?_
        rintro e w5 ⟨v5, rfl, o5, b5⟩
        rw [HUN.out] at o5
        have HO5 : Hid (w5.ownsRow w.heap.size 3 1 v5 n ((appF ((cls.map upL).take (j + 1)) (proL m.cons x)).map (Value.int .i64))) := Lib.hid (by rw [HSNC.out]; exact own_mono o5 (Nat.le_trans HB2.out.size HB3J.out.size))
        have HB5 := Lib.hid (HBJ.out.trans (b5.mono HBJ.out.size))
        clear o5 b5 q
        go_wp2
        go_roundw
        case rel => exact ⟨j + 1, by omega, by go_num, HO5, HB5⟩
        case measure => simp [intOf]; omega
      · obtain rfl : j = k := by omega
        have HTK : Hid (appF ((cls.map upL).take j) (proL m.cons x) = appF (clF m.cons cls) x) := Lib.hid (by rw [HK.out, ← List.length_map (f := upL), List.take_length]; rfl)
        rw [HTK.out] at HOJ HNJ
        obtain ⟨y, hy⟩ : ∃ y, y = appF (clF m.cons cls) x := ⟨_, rfl⟩
        rw [← hy] at HOJ HNJ
        have HY := Lib.hid hy
        have HRY : Hid (RdInts wr u8 y) := Lib.hid (by
          have hd := HOJ.out
          have hl := HNJ.out.len
          rw [← hl] at hd
          exact rdInts_of_own hd)
        have HUJ := Lib.hid (own_below HU3.out HBJ.out)
        have HRU : Hid (RdInts wr (.slice ua n uc) x) := Lib.hid (by
          have hd := HUJ.out
          have hl := HXN.out.len
          rw [← hl] at hd ⊢
          exact rdInts_of_own (show wr.ownsRow w.heap.size 3 1 (.slice ua x.length uc) x.length (x.map (Value.int .i64)) from hd))
        obtain ⟨va, vc, e8, hv1, hv2, -⟩ := ownForm HOJ.out
        subst e8
        clear hy
        cases he : emptyB y
        case true =>
          have HZ : Hid (clfL m.cons cls ds = List.replicate n 0) := Lib.hid (fxF_eq HST.out HSN.out ((show RunF (clF m.cons cls) n ds y from by rw [HY.out]; exact HR.out.app HST.out).fail he)).symm
          have HEE : Hid (emptyB (clfL m.cons cls ds) = true) := Lib.hid (by rw [HZ.out]; exact zeros_empty h1)
          go_wp2_with (go_at_call 66; refine (shasEmpty_any _ y _ HRY.out).mono ?_; rintro e w3' ⟨rfl, rfl⟩; rw [he])
          go_ret
          exact ⟨ret_bool HEE.out.symm, HB2.out.trans (HB3J.out.mono HB2.out.size)⟩
        case false =>
          by_cases hyx : y = x
          · have HZ : Hid (clfL m.cons cls ds = x) := Lib.hid (fxF_eq HST.out HSN.out (HR.out.done (appF_fix HST.out HXN.out (by rw [← HY.out]; exact hyx)) (by rw [← hyx]; exact he))).symm
            have HDE := Lib.hid (decide_eq_true hyx)
            have HXE : Hid (emptyB x = false) := Lib.hid (by rw [← hyx]; exact he)
            clear hyx
            go_wp2_with (first
              | (go_at_call 66; refine (shasEmpty_any _ y _ HRY.out).mono ?_; rintro e w3' ⟨rfl, rfl⟩; rw [he])
              | (go_at_call 108; refine (sequalInts_any _ _ y x _ HRY.out HRU.out).mono ?_; rintro e w6 ⟨rfl, kk, ek⟩; have HB6 : Hid (Below wr.heap.size wr w6) := Lib.hid (by rw [ek]; exact below_drewN' (Below.refl _ _) _); clear ek; rw [HDE.out]))
            go_ret
            have HEE : Hid (emptyB (clfL m.cons cls ds) = false) := Lib.hid (by rw [HZ.out]; exact HXE.out)
            exact ⟨ret_bool HEE.out.symm, HB2.out.trans ((HB3J.out.mono HB2.out.size).trans (HB6.out.mono (Nat.le_trans HB2.out.size HB3J.out.size)))⟩
          · have HLT : Hid (bitsD y < bitsD x) := Lib.hid (by
              have := (appF_step HST.out).lt HXN.out (by rw [← HY.out]; exact hyx)
              rwa [← HY.out] at this)
            have HDE := Lib.hid (decide_eq_false hyx)
            have HRR : Hid (RunF (clF m.cons cls) n ds y) := Lib.hid (by rw [HY.out]; exact HR.out.app HST.out)
            clear hyx
            go_wp2_with (first
              | (go_at_call 66; refine (shasEmpty_any _ y _ HRY.out).mono ?_; rintro e w3' ⟨rfl, rfl⟩; rw [he])
              | (go_at_call 108; refine (sequalInts_any _ _ y x _ HRY.out HRU.out).mono ?_; rintro e w6 ⟨rfl, kk, ek⟩; have HB6 : Hid (Below wr.heap.size wr w6) := Lib.hid (by rw [ek]; exact below_drewN' (Below.refl _ _) _); clear ek; rw [HDE.out]))
            have HO6 := Lib.hid (own_below HOJ.out HB6.out)
            have HB36 := Lib.hid (HB3J.out.trans (HB6.out.mono HB3J.out.size))
            have HM6 : Hid (bitsD (rowOf w6 (.slice va n vc)) < bitsD (rowOf wo (.slice ua n uc))) := Lib.hid (by rw [HBX.out, rowOf_rd (HRY.out.below HB6.out)]; exact HLT.out)
            go_roundw
            case rel => exact ⟨y, HO6, HRR, HB36⟩
            case measure => exact HM6.out
end Go.Proofs.YtipapmmjfoaddaaGreat

/-! PropagateClauses, both packages. -/
namespace Go.Proofs.YtipapmmjfoaddaaGreat
open Go.ChangeShapes Go.WideShapes Go.ChangeAt Go.RowKit Go.Deep Go.Shelf
set_option linter.unusedVariables false
set_option linter.unusedSimpArgs false

/-- What PropagateClauses answers. -/
def pclM (m : Mod) (cls : List (List Lit)) : List Int := if vmB m && prfB cls m.doms.length then clfL m.cons cls m.doms else []
theorem prf_on {cls : List (List Lit)} {n : Nat} (h : prfB cls n = true) : ∀ ls ∈ cls, LitsOn ls n := fun ls hl => litsOn_of ((prfB_parts h).2 ls hl)
theorem pclM_le (m : Mod) (cls : List (List Lit)) : (pclM m cls).length ≤ 1048576 := by
  unfold pclM
  split
  · rename_i hq
    rw [Bool.and_eq_true] at hq
    obtain ⟨s1, s2, s3, s4⟩ := doms_small' hq.1
    have hl : (clfL m.cons cls m.doms).length = m.doms.length := (fxF_res (clF_steps (fun c hc => varsOk_of (okC_mem hq.1 hc).vc) (prf_on hq.2)) ⟨rfl, s1⟩).domN.len
    omega
  · simp
theorem rdLits_nil (w : World) : RdLits w (.slice none 0 0) [] := ⟨none, 0, rfl, Nat.le_refl _, by unfold maxLen; omega, .inl rfl⟩

set_option maxRecDepth 100000 in
set_option maxHeartbeats 4000000 in
theorem checkerWith_any (m : Mod) (v cv : Value) (cls : List (List Lit)) (w : World) (h : RdModel w v m) (hc : RdClz w cv cls) (hv : vmB m = true) (hp : prfB cls m.doms.length = true) :
    Calls Tryz.prog 77 #[v, cv] w fun e Y => ∃ D pv dv cv' P vals, e = .returned (.pointer (some ⟨D, 0, none⟩)) ∧ Chk w m.cons m.doms D pv dv cv' P vals cls Y := by
  obtain ⟨a1, a2, c1, c2, rfl, g1, g2⟩ := rdModel_slices h
  obtain ⟨ca, cc, ecv, -⟩ := id hc
  obtain ⟨W1, hW1⟩ : ∃ W1, w.alloc (.cells #[.slice a1 m.doms.length c1, .slice a2 m.cons.length c2] 30) = W1 := ⟨_, rfl⟩
  have B1 : Below w.heap.size w W1 := by rw [← hW1]; exact (Below.refl _ _).alloc (Nat.le_refl _) _
  have bP : Blk2 W1 w.heap.size 30 (.slice a1 m.doms.length c1) (.slice a2 m.cons.length c2) := by rw [← hW1]; exact Blk2.new w _ _ _
  have HCK := Lib.hid (checkerOf_any m _ w W1 h B1 hv)
  have HW := Lib.hid hW1
  have HP := Lib.hid bP
  have HCZ := Lib.hid hc
  have HLL := Lib.hid (prfB_parts hp)
  rw [ecv] at HCZ ⊢
  obtain ⟨k, hk⟩ : ∃ k, k = cls.length := ⟨_, rfl⟩
  rw [← hk] at HCZ HLL ⊢
  have HK := Lib.hid hk
  have hl := rdClz_len HCZ.out
  have hl1 := hl.2.1
  have hl2 := hl.2.2
  clear h hc hv hp g1 g2 hW1 B1 bP ecv hk hl
  obtain ⟨p0, p1⟩ := HP.out.cell
  go_enter Tryz.func77, Tryz.ntmps77
  go_wp2_with fail
  rw [HW.out]
  refine HCK.out.mono ?_
  rintro e w2 ⟨D, pv, dv, P, rfl, hck, b2⟩
  have HC2 := Lib.hid hck
  clear hck b2 p0 p1
  go_wp2
  go_loopw [12] (fun i wr => ∃ j : Nat, j ≤ k ∧ i = .int .i64 j ∧ Hid (∃ cv' vals, Chk w m.cons m.doms D pv dv cv' P vals (cls.take j) wr)) (fun i _ => k - (intOf i).toNat)
  case atStart => exact ⟨0, Nat.zero_le _, rfl, Lib.hid ⟨_, _, HC2.out⟩⟩
  case round =>
    obtain ⟨j, hj, rfl, HC⟩ := hrel
    obtain ⟨cv', vals, hck⟩ := HC.out
    have HCK2 := Lib.hid hck
    clear hck HC
    by_cases hlt : j < k
    · obtain ⟨b, o, u, c, rfl, hls, q, r⟩ := rdClz_at HCZ.out hlt
      have hq := (HCK2.out.b.cell (p := ⟨b, o + j, none⟩) (World.block_lt_of_cell? _ _ q)).trans q
      have hcl := HLL.out.2 c (List.mem_of_getElem? hls)
      have HE := Lib.hid (add_any HCK2.out (r.below HCK2.out.b) (by have := clB_len hcl; omega) (by have := HLL.out.1; rw [List.length_take]; omega))
      have HTK : Hid (cls.take (j + 1) = cls.take j ++ [c]) := Lib.hid (by rw [List.take_add_one, hls]; rfl)
      obtain ⟨xa, xc, ex, -⟩ := r
      rw [ex] at hq HE
      clear q ex hls hcl
      go_wp2_with fail
      refine HE.out.mono ?_
      rintro e w5 ⟨⟨uu, rfl⟩, cv2, u2, hck5, -⟩
      have HC5 : Hid (∃ cv' vals, Chk w m.cons m.doms D pv dv cv' P vals (cls.take (j + 1)) w5) := Lib.hid ⟨_, _, by rw [HTK.out]; exact hck5⟩
      clear hck5 hq
      go_wp2
      go_roundw
      all_goals first
        | exact ⟨j + 1, by omega, by go_num, HC5⟩
        | (simp [intOf]; omega)
    · obtain rfl : j = k := by omega
      have HTK : Hid (cls.take j = cls) := Lib.hid (by rw [HK.out, List.take_length])
      go_wp2
      go_ret
      exact ⟨D, pv, dv, cv', P, vals, rfl, by rw [← HTK.out]; exact HCK2.out⟩

set_option maxRecDepth 100000 in
set_option maxHeartbeats 4000000 in
theorem iPropagateClauses_any (m : Mod) (v cv : Value) (cls : List (List Lit)) (w : World) (h : RdModel w v m) (hm : ModLe m 1048576) (hc : RdClz w cv cls) :
    Calls Tryz.prog 33 #[v, cv] w (IntsPost (pclM m cls) w) := by
  obtain ⟨a1, a2, c1, c2, rfl, g1, g2⟩ := rdModel_slices h
  obtain ⟨ca, cc, ecv, -⟩ := id hc
  obtain ⟨W1, hW1⟩ : ∃ W1, w.alloc (.cells #[.slice a1 m.doms.length c1, .slice a2 m.cons.length c2] 30) = W1 := ⟨_, rfl⟩
  have B1 : Below w.heap.size w W1 := by rw [← hW1]; exact (Below.refl _ _).alloc (Nat.le_refl _) _
  have bP : Blk2 W1 w.heap.size 30 (.slice a1 m.doms.length c1) (.slice a2 m.cons.length c2) := by rw [← hW1]; exact Blk2.new w _ _ _
  have HM := Lib.hid (h.below B1)
  have HCZ := Lib.hid (hc.below B1)
  rw [ecv] at HCZ ⊢
  have hl := rdClz_len HCZ.out
  have hl1 := hl.2.1
  have hl2 := hl.2.2
  have hc1 := (rdInts_cap g1).2
  have HB1 := Lib.hid B1
  have HW := Lib.hid hW1
  have HP := Lib.hid bP
  have HLE := Lib.hid hm
  clear h hc g1 g2 hW1 B1 bP hm ecv hl
  obtain ⟨p0, p1⟩ := HP.out.cell
  go_enter Tryz.func33, Tryz.ntmps33
  go_wp2_with fail
  rw [HW.out]
  refine (ivm_any m _ W1 HM.out HLE.out).mono ?_
  rintro e w2 ⟨rfl, b2⟩
  have HB2 := Lib.hid (HB1.out.trans (b2.mono HB1.out.size))
  have HM2 := Lib.hid (HM.out.below b2)
  have HCZ2 := Lib.hid (HCZ.out.below b2)
  have HP2 := Lib.hid (HP.out.below b2)
  clear p0 p1 b2 HM HCZ HP HB1 HW
  obtain ⟨p0, p1⟩ := HP2.out.cell
  cases hv : vmB m
  · have HF : Hid (pclM m cls = []) := Lib.hid (by unfold pclM; rw [hv]; rfl)
    go_wp2
    go_ret
    exact ⟨_, rfl, by rw [HF.out]; exact World.ownsRow_nil _ _ _ _, HB2.out⟩
  obtain ⟨s1, s2, s3, s4⟩ := doms_small' hv
  go_wp2_with fail
  refine (isProof_any _ cls m.doms.length w2 HCZ2.out s3 s2).mono ?_
  rintro e w3 ⟨rfl, b3⟩
  have HB3 := Lib.hid (HB2.out.trans (b3.mono HB2.out.size))
  have HM3 := Lib.hid (HM2.out.below b3)
  have HCZ3 := Lib.hid (HCZ2.out.below b3)
  have HP3 := Lib.hid (HP2.out.below b3)
  clear p0 p1 b3
  obtain ⟨p0, p1⟩ := HP3.out.cell
  cases hp : prfB cls m.doms.length
  · have HF : Hid (pclM m cls = []) := Lib.hid (by unfold pclM; rw [hv, hp]; rfl)
    go_wp2
    go_ret
    exact ⟨_, rfl, by rw [HF.out]; exact World.ownsRow_nil _ _ _ _, HB3.out⟩
  have HF : Hid (pclM m cls = clfL m.cons cls (restL m.doms [])) := Lib.hid (by unfold pclM; rw [hv, hp]; rfl)
  have HLN : Hid ((pclM m cls).length = m.doms.length) := Lib.hid (by rw [HF.out]; exact (fxF_res (clF_steps (fun c hc => varsOk_of (okC_mem hv hc).vc) (prf_on hp)) ⟨rfl, s1⟩).domN.len)
  have HCW := Lib.hid (checkerWith_any m _ _ cls w3 HM3.out HCZ3.out hv hp)
  have HPU := Lib.hid (fun (D : Nat) (pv dv cv' : Value) (P : List (Value × Nat × Value)) (vals : List Value) (Y : World) (hY : Chk w3 m.cons m.doms D pv dv cv' P vals cls Y) => propUnder_any hY (n := m.doms.length) (prf_on hp) (rdLits_nil Y) (fun l h => by simp at h) ⟨rfl, s1⟩ (fun c hc => okC_mem hv hc) s4 s3 s2)
  clear s1 s2 s3 s4 hv hp
  go_wp2_with fail
  refine HCW.out.mono ?_
  rintro e w4 ⟨D, pv, dv, cv', P, vals, rfl, hck⟩
  have HC4 := Lib.hid hck
  clear hck p0 p1
  go_wp2_with fail
  refine (HPU.out D pv dv cv' P vals w4 HC4.out).mono ?_
  rintro e w5 ⟨v5, rfl, o5, c5, f5⟩
  obtain ⟨va, vc, ev5, hv1, hv2, -⟩ := ownForm o5
  subst ev5
  have HO5 : Hid (w5.ownsRow w.heap.size 3 1 (.slice va m.doms.length vc) m.doms.length ((pclM m cls).map (Value.int .i64))) := Lib.hid (by rw [HF.out]; exact own_mono o5 (Nat.le_trans HB3.out.size HC4.out.b.size))
  have HB5 : Hid (Below w.heap.size w w5) := Lib.hid (HB3.out.trans (c5.b.mono HB3.out.size))
  clear o5 c5 f5
  go_wp2
  go_ret
  exact ⟨_, rfl, by rw [HLN.out]; exact HO5.out, HB5.out⟩

set_option maxRecDepth 100000 in
set_option maxHeartbeats 4000000 in
theorem sPropagateClauses_any (m : Mod) (v cv : Value) (cls : List (List Lit)) (w : World) (h : RdModel w v m) (hm : ModLe m 1048576) (hc : RdClz w cv cls) :
    Calls Tryz.prog 31 #[v, cv] w (IntsPost (pclM m cls) w) := by
  obtain ⟨a1, a2, c1, c2, rfl, g1, g2⟩ := rdModel_slices h
  obtain ⟨ca, cc, ecv, -⟩ := id hc
  obtain ⟨W1, hW1⟩ : ∃ W1, w.alloc (.cells #[.slice a1 m.doms.length c1, .slice a2 m.cons.length c2] 30) = W1 := ⟨_, rfl⟩
  have B1 : Below w.heap.size w W1 := by rw [← hW1]; exact (Below.refl _ _).alloc (Nat.le_refl _) _
  have bP : Blk2 W1 w.heap.size 30 (.slice a1 m.doms.length c1) (.slice a2 m.cons.length c2) := by rw [← hW1]; exact Blk2.new w _ _ _
  have HM := Lib.hid (h.below B1)
  have H1 := Lib.hid (g1.below B1)
  have HCZ := Lib.hid (hc.below B1)
  rw [ecv] at HCZ ⊢
  have hl := rdClz_len HCZ.out
  have hl1 := hl.2.1
  have hl2 := hl.2.2
  have hc1 := (rdInts_cap g1).2
  have HB1 := Lib.hid B1
  have HW := Lib.hid hW1
  have HP := Lib.hid bP
  have HLE := Lib.hid hm
  clear h hc g1 g2 hW1 B1 bP hm ecv hl
  obtain ⟨p0, p1⟩ := HP.out.cell
  go_enter Tryz.func31, Tryz.ntmps31
  go_wp2_with fail
  rw [HW.out]
  refine (svm_any m _ W1 HM.out HLE.out).mono ?_
  rintro e w2 ⟨rfl, b2⟩
  have HB2 := Lib.hid (HB1.out.trans (b2.mono HB1.out.size))
  have HM2 := Lib.hid (HM.out.below b2)
  have H12 := Lib.hid (H1.out.below b2)
  have HCZ2 := Lib.hid (HCZ.out.below b2)
  have HP2 := Lib.hid (HP.out.below b2)
  clear p0 p1 b2 HM H1 HCZ HP HB1 HW
  obtain ⟨p0, p1⟩ := HP2.out.cell
  cases hv : vmB m
  · have HF : Hid (pclM m cls = []) := Lib.hid (by unfold pclM; rw [hv]; rfl)
    go_wp2
    go_ret
    exact ⟨_, rfl, by rw [HF.out]; exact World.ownsRow_nil _ _ _ _, HB2.out⟩
  obtain ⟨s1, s2, s3, s4⟩ := doms_small' hv
  go_wp2_with fail
  refine (svalidProof_any _ cls m.doms.length w2 HCZ2.out (by omega) (by omega)).mono ?_
  rintro e w3 ⟨rfl, b3⟩
  have HB3 := Lib.hid (HB2.out.trans (b3.mono HB2.out.size))
  have HM3 := Lib.hid (HM2.out.below b3)
  have H13 := Lib.hid (H12.out.below b3)
  have HCZ3 := Lib.hid (HCZ2.out.below b3)
  have HP3 := Lib.hid (HP2.out.below b3)
  clear p0 p1 b3
  obtain ⟨p0, p1⟩ := HP3.out.cell
  cases hp : prfB cls m.doms.length
  · have HF : Hid (pclM m cls = []) := Lib.hid (by unfold pclM; rw [hv, hp]; rfl)
    go_wp2
    go_ret
    exact ⟨_, rfl, by rw [HF.out]; exact World.ownsRow_nil _ _ _ _, HB3.out⟩
  have HF : Hid (pclM m cls = clfL m.cons cls m.doms) := Lib.hid (by unfold pclM; rw [hv, hp]; rfl)
  have HCF := Lib.hid (sclauseFixpoint_any m _ _ (.slice a1 m.doms.length c1) cls m.doms w3 HM3.out HCZ3.out H13.out (prf_on hp) s3 s2 s1 (fun c hc => okC_mem hv hc) s4)
  clear s1 s2 s3 s4 hv hp
  go_wp2_with fail
  refine HCF.out.mono ?_
  rintro e w4 ⟨v4, rfl, o4, b4⟩
  rw [← HF.out] at o4
  have HO4 := Lib.hid (own_mono o4 HB3.out.size)
  have HB4 := Lib.hid (HB3.out.trans (b4.mono HB3.out.size))
  clear o4 b4
  go_wp2
  go_ret
  exact ⟨_, rfl, HO4.out, HB4.out⟩
end Go.Proofs.YtipapmmjfoaddaaGreat
