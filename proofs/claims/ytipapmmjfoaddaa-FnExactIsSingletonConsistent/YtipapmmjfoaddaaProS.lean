/- The reference's propagation. -/
import Derived.Test.YtipapmmjfoaddaaPropP
namespace Go.Proofs.Ytipapmmjfoaddaa
open Go.ChangeShapes Go.WideShapes Go.ChangeAt Go.RowKit
set_option linter.unusedVariables false
set_option linter.unusedSimpArgs false

set_option maxRecDepth 100000 in
set_option maxHeartbeats 4000000 in
theorem sfixpoint_any (m : Mod) (v dv : Value) (ds : List Int) (w : World) (h : RdModel w v m) (hd : RdInts w dv ds) (h1 : 1 ≤ ds.length) (h4 : ds.length ≤ 4) (hs : Small ds 0 63) (hok : ∀ c ∈ m.cons, OkC c ds.length) (hm6 : m.cons.length ≤ 6) :
    Calls Try.prog 55 #[v, dv] w (IntsPost (proL m.cons ds) w) := by
  obtain ⟨a1, a2, c1, c2, rfl, g1, g2⟩ := rdModel_slices h
  obtain ⟨ax, cx, ev, -⟩ := id hd
  rw [ev] at hd ⊢
  obtain ⟨W1, hW1⟩ : ∃ W1, w.alloc (.cells #[.slice a1 m.doms.length c1, .slice a2 m.cons.length c2] 30) = W1 := ⟨_, rfl⟩
  have B1 : Below w.heap.size w W1 := by rw [← hW1]; exact (Below.refl _ _).alloc (Nat.le_refl _) _
  have bP : Blk2 W1 w.heap.size 30 (.slice a1 m.doms.length c1) (.slice a2 m.cons.length c2) := by rw [← hW1]; exact Blk2.new w _ _ _
  have HM := Lib.hid (h.below B1)
  have H2 := Lib.hid (g2.below B1)
  have HD := Lib.hid (hd.below B1)
  have HB1 := Lib.hid B1
  have HW := Lib.hid hW1
  have HP := Lib.hid bP
  have hcd := (rdInts_cap hd).2
  have hc2 := (rdCons_cap g2).2
  have HOK := Lib.hid hok
  have HOD := Lib.hid (okD_of hs hok)
  obtain ⟨i0, hi, hz0, hz1, hz2⟩ := info_parts Try.info3
  obtain ⟨k2, hk2⟩ : ∃ k2, k2 = m.cons.length := ⟨_, rfl⟩
  obtain ⟨nd, hnd⟩ : ∃ nd, nd = ds.length := ⟨_, rfl⟩
  rw [← hk2] at hc2 H2 HP hm6 HW HM ⊢
  rw [← hnd] at h1 h4 HOD HOK hcd HD ⊢
  have HN := Lib.hid hk2
  have HND := Lib.hid hnd
  clear h hd g1 g2 hW1 B1 bP ev hok hk2 hnd hs
  obtain ⟨p0, p1⟩ := HP.out.cell
  go_enter Try.func55, Try.ntmps55
  go_wp2_with fail
  rw [HW.out]
  refine (scopyInts_any _ ds W1 HD.out (by have := HND.out; omega) (by have := HND.out; omega)).mono ?_
  rintro e w2 ⟨v2, rfl, o2, b2⟩
  have HB2 := Lib.hid (HB1.out.trans (b2.mono HB1.out.size))
  have HM2 := Lib.hid (HM.out.below b2)
  have H22 := Lib.hid (H2.out.below b2)
  have HP2 := Lib.hid (HP.out.below b2)
  have HO2 := Lib.hid (own_mono o2 HB1.out.size)
  clear p0 p1 b2 o2 HM H2 HP HD HW HB1
  go_wp2
  go_loopw [5] (fun u wr => ∃ x : List Int, Hid (wr.ownsRow w.heap.size 3 1 u x.length (x.map (Value.int .i64))) ∧ Hid (RunD m.cons nd ds x) ∧ Hid (Below w2.heap.size w2 wr)) (fun u wr => bitsD (rowOf wr u))
  case atStart => exact ⟨ds, HO2, Lib.hid (RunD.start HOD.out), Lib.hid (Below.refl _ _)⟩
  case round =>
    obtain ⟨x, HO, HR, HBE⟩ := hrel
    obtain ⟨p0, p1⟩ := (HP2.out.below HBE.out).cell
    have HRX := Lib.hid (rdInts_of_own HO.out)
    have HXL := Lib.hid (show x.length = nd from HR.out.ok.len)
    have HXS := Lib.hid HR.out.ok.small
    have HBX := Lib.hid (show bitsD (rowOf wr u5) = bitsD x by rw [rowOf_rd HRX.out])
    go_wp2_with fail
    refine (sisConsistent_any m _ _ x wr (HM2.out.below HBE.out) HRX.out (by have := HXL.out; omega) (by have := HXL.out; omega) HXS.out (by rw [HXL.out]; exact HOK.out) (by have := HN.out; omega)).mono ?_
    rintro e w3 ⟨rfl, b3⟩
    have HB3 := Lib.hid (HBE.out.trans (b3.mono HBE.out.size))
    have HO3 := Lib.hid (own_below HO.out b3)
    have HR3 := Lib.hid (rdInts_of_own HO3.out)
    clear p0 p1 b3 HO HRX HBE
    obtain ⟨p0, p1⟩ := (HP2.out.below HB3.out).cell
    cases hcI : consI m.cons x
    case true =>
      cases he : emptyB x
      case true =>
        have HPZ : Hid (proL m.cons ds = List.replicate nd 0) := Lib.hid (proL_eq HOD.out (HR.out.fail he)).symm
        obtain ⟨ua, un, uc, eu⟩ := own_slice HO3.out
        have hun : nd = un := by
          obtain ⟨a', c', e, _⟩ := id HR3.out
          rw [eu] at e
          injection e with _ e _
          rw [e, HXL.out]
        subst eu hun
        have HRL : Hid ((List.replicate nd (0 : Int)).length = nd) := Lib.hid (by simp)
        go_wp2_with (first
          | (go_at_call 25; refine (shasEmpty_any _ x _ HR3.out).mono ?_; rintro e w3' ⟨rfl, rfl⟩)
          | (at_make; refine wpList_make_full _ rfl _ _ 22 rfl w3.heap.size 3 i0 (.int .i64 0) 1 Try.underlying22 hi hz0 hz1 .i64 .i64 _ _ nd rfl rfl rfl rfl (by rw [hz2]; omega) (by unfold maxLen; omega) (Nat.le_refl _) ?_; intro w4 hown hgrow))
        rw [madeInts] at hown
        have HO4 := Lib.hid hown
        have HB4 := Lib.hid (below_of_grown hgrow)
        clear hown hgrow
        go_wp2
        go_ret
        exact ⟨_, rfl, by rw [HPZ.out, HRL.out]; exact own_mono HO4.out (Nat.le_trans HB2.out.size HB3.out.size), HB2.out.trans ((HB3.out.mono HB2.out.size).trans (HB4.out.mono (Nat.le_trans HB2.out.size HB3.out.size)))⟩
      case false =>
        have HPX : Hid (proL m.cons ds = x) := Lib.hid (proL_eq HOD.out (HR.out.done hcI he)).symm
        go_wp2_with (go_at_call 25; refine (shasEmpty_any _ x _ HR3.out).mono ?_; rintro e w3' ⟨rfl, rfl⟩)
        go_ret
        exact ⟨_, rfl, by rw [HPX.out]; exact HO3.out, HB2.out.trans (HB3.out.mono HB2.out.size)⟩
    case false =>
      cases he : emptyB x
      case true =>
        have HPZ : Hid (proL m.cons ds = List.replicate nd 0) := Lib.hid (proL_eq HOD.out (HR.out.fail he)).symm
        obtain ⟨ua, un, uc, eu⟩ := own_slice HO3.out
        have hun : nd = un := by
          obtain ⟨a', c', e, _⟩ := id HR3.out
          rw [eu] at e
          injection e with _ e _
          rw [e, HXL.out]
        subst eu hun
        have HRL : Hid ((List.replicate nd (0 : Int)).length = nd) := Lib.hid (by simp)
        go_wp2_with (first
          | (go_at_call 25; refine (shasEmpty_any _ x _ HR3.out).mono ?_; rintro e w3' ⟨rfl, rfl⟩)
          | (at_make; refine wpList_make_full _ rfl _ _ 22 rfl w3.heap.size 3 i0 (.int .i64 0) 1 Try.underlying22 hi hz0 hz1 .i64 .i64 _ _ nd rfl rfl rfl rfl (by rw [hz2]; omega) (by unfold maxLen; omega) (Nat.le_refl _) ?_; intro w4 hown hgrow))
        rw [madeInts] at hown
        have HO4 := Lib.hid hown
        have HB4 := Lib.hid (below_of_grown hgrow)
        clear hown hgrow
        go_wp2
        go_ret
        exact ⟨_, rfl, by rw [HPZ.out, HRL.out]; exact own_mono HO4.out (Nat.le_trans HB2.out.size HB3.out.size), HB2.out.trans ((HB3.out.mono HB2.out.size).trans (HB4.out.mono (Nat.le_trans HB2.out.size HB3.out.size)))⟩
      case false =>
        go_wp2_with (go_at_call 25; refine (shasEmpty_any _ x _ HR3.out).mono ?_; rintro e w3' ⟨rfl, rfl⟩)
        have HLT := Lib.hid (HR.out.lt hcI)
        clear p0 p1 HR3
        go_loopw [5, 6] (fun u i wq => ∃ j : Nat, j ≤ k2 ∧ i = .int .i64 j ∧ Hid (wq.ownsRow w.heap.size 3 1 u (passL (m.cons.take j) x).length ((passL (m.cons.take j) x).map (Value.int .i64))) ∧ Hid (Below w2.heap.size w2 wq)) (fun _ i _ => k2 - (intOf i).toNat)
        case atStart => exact ⟨0, Nat.zero_le _, rfl, Lib.hid (by simpa [passL] using HO3.out), HB3⟩
        case round =>
          obtain ⟨j, hj, rfl, HOJ, HBJ⟩ := hrel
          obtain ⟨p0, p1⟩ := (HP2.out.below HBJ.out).cell
          by_cases hlt : j < k2
          · obtain ⟨b, off, c, x2, x3, x5, y2, y3, y5, rfl, hck, t0, t1, t2, t3, t4, hr⟩ := rdCons_at (H22.out.below HBJ.out) hlt
            have hmem := List.mem_of_getElem? hck
            have hoc := HOK.out c hmem
            have hrj := HR.out.take j (by have := HN.out; omega)
            have HS := Lib.hid (passL_snoc (x := x) hck)
            obtain ⟨xj, hxj⟩ : ∃ xj, xj = passL (m.cons.take j) x := ⟨_, rfl⟩
            rw [← hxj] at HOJ hrj HS
            have HXJ := Lib.hid (show xj.length = nd from hrj.ok.len)
            have HC := Lib.hid (ssupported_any c _ _ xj wr hr (rdInts_of_own HOJ.out) hoc.kind hoc.one hoc.four (by rw [HXJ.out]; exact hoc.vars) hrj.ok.small (by have := HXJ.out; omega) (by have := HXJ.out; omega))
            clear hoc hck hr hrj hmem hxj
            go_wp2_with fail
            refine HC.out.mono ?_
            rintro e w5 ⟨v5, rfl, o5, b5⟩
            have HB5 := Lib.hid (HBJ.out.trans (b5.mono HBJ.out.size))
            have HO5 := Lib.hid (own_mono o5 (Nat.le_trans HB2.out.size HBJ.out.size))
            clear b5 o5 HC p0 p1 t0 t1 t2 t3 t4
            go_wp2
            go_roundw
            case rel => exact ⟨j + 1, by omega, by go_num, Lib.hid (by rw [HS.out]; exact HO5.out), HB5⟩
            case measure => simp [intOf]; omega
          · obtain rfl : j = k2 := by omega
            have HAL : Hid (passL (m.cons.take j) x = passL m.cons x) := Lib.hid (by rw [HN.out, List.take_length])
            go_wp2
            go_roundw
            case rel => exact ⟨passL m.cons x, Lib.hid (by rw [← HAL.out]; exact HOJ.out), Lib.hid HR.out.pass, HBJ⟩
            case measure =>
              rw [HBX.out, rowOf_rd (rdInts_of_own HOJ.out), HAL.out]
              exact HLT.out

/-- What Propagate returns. -/
def proM (m : Mod) : List Int := if vmB m then proL m.cons m.doms else []

end Go.Proofs.Ytipapmmjfoaddaa
