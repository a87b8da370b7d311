/- The law of promise 21: filtering smaller domains leaves smaller domains. -/
import Derived.Test.YtolfjkdkbiicmaaFmP0
namespace Go.Proofs.Ytolfjkdkbiicmaa
open Go.ChangeShapes Go.WideShapes Go.ChangeAt Go.RowKit Go.Deep Go.Shelf
set_option linter.unusedVariables false
set_option linter.unusedSimpArgs false

set_option maxRecDepth 100000 in
set_option maxHeartbeats 16000000 in
theorem law_ffm (a a' : Option Addr) (len cap len' cap' : Nat) (w : World) (h : CodeOk w.heap.size w a len cap) (h' : CodeOk w.heap.size w a' len' cap') :
    Calls Try.prog 4 #[.slice a len cap, .slice a' len' cap'] w fun e w' => e = .returned (.bool true) ∧ Below w.heap.size w w' := by
  have hl0 := h.1
  have hm0 := h.2.1
  have hl1 := h'.1
  have hm1 := h'.2.1
  unfold maxLen at hm0 hm1
  have HK := Lib.hid h
  have HK' := Lib.hid h'
  clear h h'
  by_cases hbig : 1048576 < len
  · go_enter Try.func4, Try.ntmps4
    go_wp2
    go_ret
    exact ⟨rfl, Below.refl _ _⟩
  by_cases hbig' : 1048576 < len'
  · go_enter Try.func4, Try.ntmps4
    go_wp2
    go_ret
    exact ⟨rfl, Below.refl _ _⟩
  obtain ⟨i0, hi, hz0, hz1, hz2⟩ := info_parts Try.info3
  go_enter Try.func4, Try.ntmps4
  go_wp2_with fail
  refine (drawFil_any a len cap w HK.out).mono ?_
  rintro e w1 ⟨u1, u2, u4, dv, c, ds, rfl, r1, r2, r4, rd, hc, h1, h4, b1⟩
  obtain ⟨a1, vc, e1, -, -, -⟩ := id r1
  obtain ⟨a2, ac, e2, -, -, -⟩ := id r2
  obtain ⟨a4, rc, e4, -, -, -⟩ := id r4
  obtain ⟨a5, dc, e5, -, -, -⟩ := id rd
  obtain ⟨vn, hvn⟩ : ∃ n, n = c.vars.length := ⟨_, rfl⟩
  obtain ⟨an, han⟩ : ∃ n, n = c.args.length := ⟨_, rfl⟩
  obtain ⟨rn, hrn⟩ : ∃ n, n = c.rows.length := ⟨_, rfl⟩
  obtain ⟨dn, hdn⟩ : ∃ n, n = ds.length := ⟨_, rfl⟩
  rw [← hvn] at e1
  rw [← han] at e2
  rw [← hrn] at e4
  rw [← hdn] at e5
  subst e1 e2 e4 e5
  obtain ⟨C, hCe⟩ : ∃ C, C = w1.heap.size := ⟨_, rfl⟩
  obtain ⟨Wk, hWk⟩ : ∃ Wk, w1.alloc (.cells #[.int .i64 c.kind, .slice a1 vn vc, .slice a2 an ac, .int .i64 c.bound, .slice a4 rn rc] 26) = Wk := ⟨_, rfl⟩
  have hbw : Below w1.heap.size w1 Wk := by rw [← hWk]; exact (Below.refl _ _).alloc (Nat.le_refl _) _
  have hbk : Blk5 Wk C 26 (.int .i64 c.kind) (.slice a1 vn vc) (.slice a2 an ac) (.int .i64 c.bound) (.slice a4 rn rc) := by rw [← hWk, hCe]; exact Blk5.new w1 _ _ _ _ _ _
  have hrc : RdCon w1 (.agg #[.int .i64 c.kind, .slice a1 vn vc, .slice a2 an ac, .int .i64 c.bound, .slice a4 rn rc]) c := ⟨_, _, _, rfl, r1, r2, r4⟩
  obtain ⟨cv, hcv⟩ : ∃ cv, cv = Value.agg #[.int .i64 c.kind, .slice a1 vn vc, .slice a2 an ac, .int .i64 c.bound, .slice a4 rn rc] := ⟨_, rfl⟩
  rw [← hcv] at hrc
  obtain ⟨fl, hfl⟩ : ∃ fl, fl = fltL c ds := ⟨_, rfl⟩
  obtain ⟨m, hm⟩ : ∃ m, m = fl.length := ⟨_, rfl⟩
  have hcl : c.vars.length ≤ 1048576 := by have := hc.1; omega
  have HCV := Lib.hid hcv
  have HI : Hid (∀ W, RdCon W cv c → RdInts W (.slice a5 dn dc) ds → Calls Try.prog 16 #[.agg #[.int .i64 c.kind, .slice a1 vn vc, .slice a2 an ac, .int .i64 c.bound, .slice a4 rn rc], .slice a5 dn dc] W (FiPost fl m W)) :=
    Lib.hid (fun W x1 x2 => by rw [← hcv]; exact (iFilter_any c cv _ ds W x1 x2 hcl).mono (fun e W' hp => fiPost_of hm (by rw [hfl]; exact hp)))
  have HS : Hid (∀ W, RdCon W cv c → RdInts W (.slice a5 dn dc) ds → Calls Try.prog 18 #[.agg #[.int .i64 c.kind, .slice a1 vn vc, .slice a2 an ac, .int .i64 c.bound, .slice a4 rn rc], .slice a5 dn dc] W (FiPost fl m W)) :=
    Lib.hid (fun W x1 x2 => by rw [← hcv]; exact (sFilter_any c cv _ ds W x1 x2 hcl).mono (fun e W' hp => fiPost_of hm (by rw [hfl]; exact hp)))
  have HE : Hid (∀ W x y, RdInts W x fl → RdInts W y fl → Calls Try.prog 17 #[x, y] W (fun e W' => e = .returned (.bool true) ∧ Below W.heap.size W W')) :=
    Lib.hid (fun W x y x1 x2 => (equalInts_any x y fl fl W x1 x2).mono (fun e W' hp => ⟨by rw [hp.1]; simp, hp.2⟩))
  have HFL := Lib.hid hfl
  have HM := Lib.hid hm
  have HDN := Lib.hid hdn
  have HD4 : Hid (1 ≤ dn ∧ dn ≤ 4) := Lib.hid (by omega)
  have HI2 : Hid (∀ W es v, RdCon W cv c → RdInts W v es → Calls Try.prog 16 #[.agg #[.int .i64 c.kind, .slice a1 vn vc, .slice a2 an ac, .int .i64 c.bound, .slice a4 rn rc], v] W (FiPost (fltL c es) (fltL c es).length W)) :=
    Lib.hid (fun W es v x1 x2 => by rw [← hcv]; exact (iFilter_any c cv _ es W x1 x2 hcl).mono (fun e W' hp => fiPost_of rfl hp))
  have HBK := Lib.hid hbk
  have HRC := Lib.hid (hrc.below hbw)
  have HRD := Lib.hid (rd.below hbw)
  have HB := Lib.hid (b1.trans (hbw.mono b1.size))
  have HWK := Lib.hid hWk
  have HCE := Lib.hid hCe
  clear r1 r2 r4 rd hc h1 h4 b1 hvn han hrn hdn hCe hWk hbw hbk hrc hcv hfl hm hcl
  have hcell := HBK.out.cell
  rw [HCE.out] at hcell
  obtain ⟨p0, p1, p2, p3, p4⟩ := hcell
  go_wp2_with (rw [HWK.out])
  rw [← HCE.out]
  clear HWK
  refine (HI.out Wk HRC.out HRD.out).mono ?_
  rintro e w2 ⟨ao, co, rfl, ro, b2⟩
  clear p0 p1 p2 p3 p4 HCE
  have HO2 := Lib.hid ro
  have HBK2 := Lib.hid (HBK.out.below b2)
  have HRC2 := Lib.hid (HRC.out.below b2)
  have HRD2 := Lib.hid (HRD.out.below b2)
  have HB2 := Lib.hid (HB.out.trans (b2.mono HB.out.size))
  obtain ⟨p0, p1, p2, p3, p4⟩ := HBK2.out.cell
  clear ro b2 HBK HRC HRD HB
  go_wp2_with fail
  refine (HS.out w2 HRC2.out HRD2.out).mono ?_
  rintro e w3 ⟨a6, c6, rfl, r6, b3⟩
  clear p0 p1 p2 p3 p4
  have HO3 := Lib.hid (HO2.out.below b3)
  have HR6 := Lib.hid r6
  have HBK3 := Lib.hid (HBK2.out.below b3)
  have HRC3 := Lib.hid (HRC2.out.below b3)
  have HRD3 := Lib.hid (HRD2.out.below b3)
  have HB3 := Lib.hid (HB2.out.trans (b3.mono HB2.out.size))
  clear r6 b3 HO2 HBK2 HRC2 HRD2 HB2
  go_wp2_with fail
  refine (HE.out w3 _ _ HO3.out HR6.out).mono ?_
  rintro e w4 ⟨rfl, b4⟩
  have HO4 := Lib.hid (HO3.out.below b4)
  have HBK4 := Lib.hid (HBK3.out.below b4)
  have HRC4 := Lib.hid (HRC3.out.below b4)
  have HRD4 := Lib.hid (HRD3.out.below b4)
  have HB4 := Lib.hid (HB3.out.trans (b4.mono HB3.out.size))
  obtain ⟨p0, p1, p2, p3, p4⟩ := HBK4.out.cell
  clear b4 HO3 HR6 HBK3 HRC3 HRD3 HB3
  by_cases hz : m = 0
  · have hmz : ((m : Int) == 0) = true := by rw [hz]; rfl
    clear hz
    go_wp2_with fail
    refine (HS.out w4 HRC4.out HRD4.out).mono ?_
    rintro e w5 ⟨a7, c7, rfl, r7, b5⟩
    clear p0 p1 p2 p3 p4
    have HO5 := Lib.hid (HO4.out.below b5)
    have HR7 := Lib.hid r7
    have HB5 := Lib.hid (HB4.out.trans (b5.mono HB4.out.size))
    clear r7 b5 HO4 HBK4 HRC4 HRD4 HB4
    go_wp2_with fail
    refine (HE.out w5 _ _ HO5.out HR7.out).mono ?_
    rintro e w6 ⟨rfl, b6⟩
    have HB6 := Lib.hid (HB5.out.trans (b6.mono HB5.out.size))
    clear b6 HO5 HR7 HB5
    go_wp2
    go_ret
    exact ⟨rfl, HB6.out⟩
  · have hmz : ((m : Int) == 0) = false := by simp; omega
    have hok : okB c ds = true := okB_of_len (by rw [← HFL.out, ← HM.out]; exact hz)
    have HOK := Lib.hid hok
    obtain ⟨b2, o2, rfl⟩ : ∃ b2 o2, a5 = some ⟨b2, o2, none⟩ := by
      obtain ⟨a, c', e, -, -, h⟩ := HRD4.out
      injection e with e
      subst e
      rcases h with h | ⟨b, o, h, -⟩
      · have := HD4.out; have := HDN.out; omega
      · exact ⟨b, o, h⟩
    have hdc := (rdInts_cap HRD4.out).2
    have hmade := ownsRow_made w4 3
    have HCE : Hid (∀ (q : Nat) (u : Value), (ds.map (Value.int .i64))[q]? = some u → (w4.alloc (.cells #[] 3)).cell? ((⟨b2, o2, none⟩ : Addr).add q) = some u) := Lib.hid (fun q u hu => by
      have hq : q < ds.length := by have := (List.getElem?_eq_some_iff.1 hu).1; simpa using this
      have hq' : q < dn := by have := HDN.out; omega
      obtain ⟨b3, o3, e3, c3⟩ := rdInts_at HRD4.out hq'
      injection e3 with e3
      injection e3 with e3 e4
      subst e3 e4
      rw [addr_add, cell_same (Below.heap_alloc _ _ _ (World.block_lt_of_cell? w4 _ c3)), c3]
      rw [List.getElem?_map, List.getElem?_eq_getElem hq] at hu
      rw [List.getElem?_eq_getElem hq]
      simpa using hu)
    have HON : Hid (∀ u ∈ ds.map (Value.int .i64), u.oneCell' = true) := Lib.hid (fun u hu => by obtain ⟨z, _, rfl⟩ := List.mem_map.1 hu; rfl)
    have HLN : Hid ((ds.map (Value.int .i64)).length = dn * 1) := Lib.hid (by rw [List.length_map, HDN.out]; omega)
    have HK4 : Hid (CodeOk w4.heap.size w4 a' len' cap') := Lib.hid (HK'.out.later HB4.out HB4.out.size)
    obtain ⟨hdc1, hdc2⟩ := hdc
    have hd4 : dn ≤ 4 := HD4.out.2
    clear hz hok p0 p1 p2 p3 p4
    go_wp2_with (at_builtin; refine wpList_append_own _ rfl _ _ 23 rfl w4.heap.size 3 i0 (.int .i64 0) 1 8 Try.underlying23 hi hz0 hz1 hz2 rfl (by decide) _ 0 [] rfl hmade ⟨b2, o2, none⟩ dn dc (ds.map (Value.int .i64)) rfl HLN.out HCE.out HON.out (by unfold maxLen; omega) (by omega) (by simp) ?_; intro v' w6 hown hgrow _; have hown2 : w6.ownsRow w4.heap.size 3 1 v' ds.length (ds.map (Value.int .i64)) := (by rw [← HDN.out]; simpa using hown); obtain ⟨gy, cy, ey, hgy, hxt⟩ := xt_of_own hown2 (by have := HD4.out; have := HDN.out; omega); rw [← HDN.out] at ey; subst ey; have HXT := Lib.hid hxt; have HGY := Lib.hid hgy; obtain ⟨-, hcy1, hcy2⟩ := rdInts_cap hxt.rd; rw [← HDN.out] at hcy1; have HGR := Lib.hid hgrow; clear hown hown2 hxt hgy hgrow hmade)
    have HB6 : Hid (Below w4.heap.size w4 w6) := Lib.hid (((Below.refl _ w4).alloc (Nat.le_refl _) _).grown HGR.out (by simp) (fun q e => by injection (show some w4.heap.size = some q from e) with e; omega))
    clear HGR HCE HON HLN
    go_loopw [9] (fun v wr => ∃ (j : Nat) (es : List Int), j ≤ dn ∧ v = .int .i64 j ∧ Hid (es.length = dn) ∧ Hid (XT gy cy es wr) ∧ Hid (Small es 0 63) ∧ Hid (leD es ds) ∧ Hid (Below w4.heap.size w4 wr)) (fun v _ => dn - (intOf v).toNat)
    case atStart => exact ⟨0, ds, Nat.zero_le _, rfl, Lib.hid HDN.out.symm, HXT, Lib.hid (okB_parts HOK.out).2.1, Lib.hid (leD.refl ds), HB6⟩
    case round =>
      obtain ⟨j, es, hj, rfl, HEL, HX, HSM, HLE, HBW⟩ := hrel
      by_cases hjn : j < dn
      · go_wp2_with fail
        refine (drawVD_any a' len' cap' wr (HK4.out.later HBW.out HBW.out.size)).mono ?_
        rintro e w7 ⟨⟨x, rfl⟩, b7⟩
        have hx7 : XT gy cy es w7 := HX.out.keep (b7.block gy HX.out.lt)
        have HB7 := Lib.hid (HBW.out.trans (b7.mono HBW.out.size))
        have HX7 := Lib.hid hx7
        clear hx7 b7 HX HBW HB6 HXT
        go_wp2_with fail
        refine (ivalid_any x w7).mono ?_
        rintro e w' ⟨rfl, rfl⟩
        have k1 := HX7.out.at (i := j) (by rw [HEL.out]; exact hjn)
        have k2 := HX7.out.unfrozen j
        obtain ⟨z, hz⟩ : ∃ z, z = es[j]?.getD 0 := ⟨_, rfl⟩
        rw [← hz] at k1
        have HZ := Lib.hid hz
        clear hz
        cases hv : wiB x 0 63
        · go_wp2
          go_roundw
          case rel => exact ⟨j + 1, es, by omega, by go_num, HEL, HX7, HSM, HLE, HB7⟩
          case measure => simp [intOf]; omega
        · have hxr : 0 ≤ x ∧ x ≤ 63 := by unfold wiB at hv; simpa using hv
          have hzr : 0 ≤ z ∧ z ≤ 63 := by rw [HZ.out]; exact HSM.out j (by rw [HEL.out]; exact hjn)
          have hand := andD hzr.1 hzr.2 hxr.1 hxr.2
          have HAN := Lib.hid hand
          have HGB : Hid (w4.heap.size ≤ gy) := HGY
          clear hv hxr hzr hand
          cases hpar : (((j : Int) + (len' : Int)) % 2 == 0)
          · clear k1 k2
            go_wp2
            go_roundw
            case rel => exact ⟨j + 1, es, by omega, by go_num, HEL, HX7, HSM, HLE, HB7⟩
            case measure => simp [intOf]; omega
          · have HX9 := Lib.hid (HX7.out.set (i := j) (by rw [HEL.out]; exact hjn) (bits .and .i64 z x))
            have HB9 : Hid (Below w4.heap.size w4 (w7.setCell ⟨gy, j, none⟩ (.int .i64 (bits .and .i64 z x)))) := Lib.hid (HB7.out.setCell (by show _ ≤ gy; exact HGB.out) _)
            have HSM9 := Lib.hid (small_set (i := j) HSM.out HAN.out.1.1 HAN.out.1.2)
            have HLE9 : Hid (leD (es.set j (bits .and .i64 z x)) ds) := Lib.hid (leD_set HLE.out (by rw [HEL.out]; exact hjn) (fun a ha => by rw [← HZ.out]; exact HAN.out.2 a ha))
            clear HAN
            go_wp2
            go_roundw
            case rel => exact ⟨j + 1, es.set j (bits .and .i64 z x), by omega, by go_num, Lib.hid (by rw [List.length_set]; exact HEL.out), HX9, HSM9, HLE9, HB9⟩
            case measure => simp [intOf]; omega
      · obtain rfl : j = dn := by omega
        have HBK5 := Lib.hid (HBK4.out.below HBW.out)
        have HRC5 := Lib.hid (HRC4.out.below HBW.out)
        have HO5 := Lib.hid (HO4.out.below HBW.out)
        have HB5 := Lib.hid (HB4.out.trans (HBW.out.mono HB4.out.size))
        obtain ⟨p0, p1, p2, p3, p4⟩ := HBK5.out.cell
        have HR5 : Hid (RdInts wr (.slice (some ⟨gy, 0, none⟩) j cy) es) := Lib.hid (by have := HX.out.rd; rw [HEL.out] at this; exact this)
        have HSB : Hid (subB (fltL c es) fl = true) := Lib.hid (by rw [HFL.out]; exact flt_mono HOK.out (by rw [HEL.out]; exact HDN.out) HSM.out HLE.out)
        obtain ⟨fe, hfe⟩ : ∃ fe, fe = fltL c es := ⟨_, rfl⟩
        obtain ⟨me, hme⟩ : ∃ me, me = fe.length := ⟨_, rfl⟩
        have HC5 : Hid (∀ W, RdCon W cv c → RdInts W (.slice (some ⟨gy, 0, none⟩) j cy) es → Calls Try.prog 16 #[.agg #[.int .i64 c.kind, .slice a1 vn vc, .slice a2 an ac, .int .i64 c.bound, .slice a4 rn rc], .slice (some ⟨gy, 0, none⟩) j cy] W (FiPost fe me W)) := Lib.hid (fun W x1 x2 => by rw [hme, hfe]; exact HI2.out W es _ x1 x2)
        rw [← hfe] at HSB
        clear hfe hme HX HBW HBK4 HRC4 HO4 HB4 HB6 HXT HRD4
        go_wp2_with fail
        refine (HC5.out wr HRC5.out HR5.out).mono ?_
        rintro e w8 ⟨a8, c8, rfl, r8, b8⟩
        clear p0 p1 p2 p3 p4
        have HO8 := Lib.hid (HO5.out.below b8)
        have HR8 := Lib.hid r8
        have HB8 := Lib.hid (HB5.out.trans (b8.mono HB5.out.size))
        clear r8 b8 HO5 HBK5 HRC5 HB5
        go_wp2_with fail
        refine (isSubset_any _ _ fe fl w8 HR8.out HO8.out).mono ?_
        rintro e w9 ⟨rfl, b9⟩
        rw [HSB.out]
        have HB9 := Lib.hid (HB8.out.trans (b9.mono HB8.out.size))
        clear b9 HO8 HR8 HB8
        go_wp2
        go_ret
        exact ⟨rfl, HB9.out⟩
end Go.Proofs.Ytolfjkdkbiicmaa
