/- IsSingletonConsistent, both packages. -/
import Derived.Test.YtipapmmjfoaddaaImb
namespace Go.Proofs.Ytipapmmjfoaddaa
open Go.ChangeShapes Go.WideShapes Go.ChangeAt Go.RowKit Go.Shelf
set_option linter.unusedVariables false
set_option linter.unusedSimpArgs false

theorem vL_leI (d : Int) (k : Nat) : (vL d k).length ≤ k := by
  induction k with
  | zero => simp [vL]
  | succ k ih => simp only [vL, List.length_append]; split <;> simp <;> omega
set_option maxRecDepth 100000 in
set_option maxHeartbeats 1000000 in
theorem svalsI_any (d : Int) (w : World) (h1 : 0 ≤ d) (h2 : d ≤ 63) :
    Calls Try.prog 26 #[.int .i64 d] w (IntsPost (vL d 6) w) := by
  obtain ⟨i0, hi, hz0, hz1, hz2⟩ := info_parts Try.info3
  go_enter Try.func26, Try.ntmps26
  go_wp2
  go_loopw [3, 4] (fun v i wr => ∃ k : Nat, k ≤ 6 ∧ i = .int .i64 k ∧ wr.ownsRow w.heap.size 3 1 v (vL d k).length ((vL d k).map (Value.int .i64)) ∧ Below w.heap.size w wr) (fun _ i _ => 6 - (intOf i).toNat)
  case atStart =>
    exact ⟨0, by omega, rfl, ownsRow_made w 3, (Below.refl _ _).alloc (Nat.le_refl _) _⟩
  case round =>
    obtain ⟨k, hk, rfl, hown, hbel⟩ := hrel
    have hle := vL_leI d k
    have hsz := hbel.size
    by_cases hlt : k < 6
    · cases hh : hasB d k
      · have HS := Lib.hid (show vL d (k + 1) = vL d k ++ if hasB d k then [(k : Int)] else [] from rfl)
        rw [hh] at HS
        go_wp2_with (go_at_call 53; refine (shas_any _ _ _ h1 h2).mono ?_; rintro e w' ⟨rfl, rfl⟩)
        go_roundw
        case rel => exact ⟨k + 1, by omega, by go_num, by rw [HS.out]; simpa using hown, hbel⟩
        case measure => simp [intOf]; omega
      · have HS := Lib.hid (show vL d (k + 1) = vL d k ++ if hasB d k then [(k : Int)] else [] from rfl)
        rw [hh] at HS
        go_wp2_with (first
          | (go_at_call 53; refine (shas_any _ _ _ h1 h2).mono ?_; rintro e w' ⟨rfl, rfl⟩)
          | (at_builtin; refine wpList_append_own _ rfl _ _ 22 rfl w.heap.size 3 i0 (.int .i64 0) 1 8 Try.underlying22 hi hz0 hz1 hz2 rfl (by decide) _ _ _ rfl (hown.alloc _) ⟨wr.heap.size, 0, none⟩ 1 1 [.int .i64 k] rfl rfl (cell_one_new _ _ _) (by simp [Value.oneCell']) (by unfold maxLen; omega) (by omega) (by simp; omega) ?_; intro v' w1 hown' hgrow _))
        have hb1 : Below w.heap.size w w1 := ((hbel.alloc (by omega) _).grown hgrow (by simp; omega) (fun j e => (hown.lt j e).1))
        go_wp2
        go_roundw
        case rel => exact ⟨k + 1, by omega, by go_num, by rw [HS.out]; simpa using hown', hb1⟩
        case measure => simp [intOf]; omega
    · obtain rfl : k = 6 := by omega
      go_wp2
      go_ret
      exact ⟨_, rfl, hown, hbel⟩
/-- What IsSingletonConsistent answers. -/
def scB (m : Mod) : Bool := vmB m && (!emptyB m.doms && (List.range m.doms.length).all (fun v => impV m.cons m.doms v 6 == 0))
theorem sc_yes {m : Mod} (hv : vmB m = true) (he : emptyB m.doms = false) (h : ∀ u, u < m.doms.length → impV m.cons m.doms u 6 = 0) : scB m = true := by
  unfold scB
  rw [hv, he]
  have : (List.range m.doms.length).all (fun v => impV m.cons m.doms v 6 == 0) = true := by
    rw [List.all_eq_true]
    intro u hu
    rw [h u (List.mem_range.1 hu)]
    rfl
  rw [this]
  rfl
theorem sc_no {m : Mod} {v : Nat} (hv : v < m.doms.length) (h : ¬ impV m.cons m.doms v 6 = 0) : scB m = false := by
  cases hs : scB m
  · rfl
  · unfold scB at hs
    rw [Bool.and_eq_true, Bool.and_eq_true, List.all_eq_true] at hs
    have := hs.2.2 v (List.mem_range.2 hv)
    exact (h (eq_of_beq this)).elim
theorem imp_zero {cs : List Con} {d : List Int} {v : Nat} (h : ∀ a, a ∈ vL (d[v]?.getD 0) 6 → flB cs d v a = false) : impV cs d v 6 = 0 := by
  have : impV cs d v 6 = setB (fun _ => false) := setB_congr (fun u h0 h5 => by
    cases hh : hasB (d[v]?.getD 0) u
    · have : flB cs d v u = false := by unfold flB; rw [hh]; rfl
      rw [this, Bool.and_false]
    · rw [h u (vL_iff.2 ⟨h0, by omega, hh⟩), Bool.and_false])
  rw [this]
  rfl
theorem imp_some {cs : List Con} {d : List Int} {v : Nat} {a : Int} (ha : a ∈ vL (d[v]?.getD 0) 6) (h : flB cs d v a = true) : ¬ impV cs d v 6 = 0 := by
  intro e
  obtain ⟨h0, h5, -⟩ := vL_mem ha
  have h1 := setB_has (fun u => decide (u < ((6 : Nat) : Int)) && flB cs d v u) h0 (show a ≤ 5 by omega)
  have h2 : hasB (impV cs d v 6) a = true := by
    unfold impV
    rw [h1, h, decide_eq_true (by omega)]
    rfl
  rw [e] at h2
  have h3 : setB (fun _ => false) = 0 := rfl
  rw [← h3, setB_has _ h0 (by omega)] at h2
  cases h2

set_option maxRecDepth 100000 in
set_option maxHeartbeats 16000000 in
theorem sIsSC_any (m : Mod) (v : Value) (w : World) (h : RdModel w v m) (hm : ModLe m 1048576) :
    Calls Try.prog 7 #[v] w (BoolPost (scB m) w) := by
  obtain ⟨a1, a2, c1, c2, rfl, g1, g2⟩ := rdModel_slices h
  obtain ⟨W1, hW1⟩ : ∃ W1, w.alloc (.cells #[.slice a1 m.doms.length c1, .slice a2 m.cons.length c2] 30) = W1 := ⟨_, rfl⟩
  have B1 : Below w.heap.size w W1 := by rw [← hW1]; exact (Below.refl _ _).alloc (Nat.le_refl _) _
  have bP : Blk2 W1 w.heap.size 30 (.slice a1 m.doms.length c1) (.slice a2 m.cons.length c2) := by rw [← hW1]; exact Blk2.new w _ _ _
  have HM := Lib.hid (h.below B1)
  have HD := Lib.hid (g1.below B1)
  have hc1 := (rdInts_cap g1).2
  have HB1 := Lib.hid B1
  have HW := Lib.hid hW1
  have HP := Lib.hid bP
  have HLE := Lib.hid hm
  clear h g1 g2 hW1 B1 bP hm
  obtain ⟨p0, p1⟩ := HP.out.cell
  go_enter Try.func7, Try.ntmps7
  go_wp2_with fail
  rw [HW.out]
  refine (svm_any m _ W1 HM.out HLE.out).mono ?_
  rintro e w2 ⟨rfl, b2⟩
  have HB2 := Lib.hid (HB1.out.trans (b2.mono HB1.out.size))
  have HM2 := Lib.hid (HM.out.below b2)
  have HD2 := Lib.hid (HD.out.below b2)
  have HP2 := Lib.hid (HP.out.below b2)
  clear p0 p1 b2 HM HP HB1 HW HD
  obtain ⟨p0, p1⟩ := HP2.out.cell
  cases hv : vmB m
  · have HF : Hid (scB m = false) := Lib.hid (by unfold scB; rw [hv]; rfl)
    go_wp2
    go_ret
    exact ⟨ret_bool HF.out.symm, HB2.out⟩
  obtain ⟨s1, s2, s3, s4⟩ := doms_small' hv
  have HSP := Lib.hid (fun (Y : World) (x a : Nat) (hb : Below w2.heap.size w2 Y) (hx : x < m.doms.length) (ha : a < 6) => sprobe_any m _ (.slice a1 m.doms.length c1) m.doms x a Y (HM2.out.below hb) (HD2.out.below hb) s3 s2 s1 (fun c hc => okC_mem hv hc) s4 hx ha)
  have HPL := Lib.hid (fun (x a : Nat) (hx : x < m.doms.length) (ha : a < 6) => (pro_domN (cs := m.cons) ⟨(fixL_domN (a := a) ⟨rfl, s1⟩ hx ha).len, (fixL_domN (a := a) ⟨rfl, s1⟩ hx ha).small, fun c hc => varsOk_of (okC_mem hv hc).vc⟩).len)
  have HSM := Lib.hid s1
  have HV := Lib.hid hv
  clear s1 s3 s4 hv
  obtain ⟨n, hn⟩ : ∃ n, n = m.doms.length := ⟨_, rfl⟩
  have HN := Lib.hid hn
  rw [← hn] at HSP HPL hc1 s2 p0 HP2 HD2 ⊢
  clear hn
  go_wp2_with fail
  refine (shasEmpty_any _ m.doms w2 HD2.out).mono ?_
  rintro e w' ⟨rfl, rfl⟩
  cases he : emptyB m.doms
  case true =>
    have HF : Hid (scB m = false) := Lib.hid (by unfold scB; rw [he]; simp)
    go_wp2
    go_ret
    exact ⟨ret_bool HF.out.symm, HB2.out⟩
  have HE := Lib.hid he
  clear he
  go_wp2
  clear p0 p1
  go_loopw [3] (fun i wr => ∃ x : Nat, x ≤ n ∧ i = .int .i64 x ∧ Hid (∀ u, u < x → impV m.cons m.doms u 6 = 0) ∧ Hid (Below w2.heap.size w2 wr)) (fun i _ => n - (intOf i).toNat)
  case atStart => exact ⟨0, Nat.zero_le _, rfl, Lib.hid (fun u hu => by omega), Lib.hid (Below.refl _ _)⟩
  case round =>
    obtain ⟨x, hx, rfl, HA, HBW⟩ := hrel
    obtain ⟨p0, p1⟩ := (HP2.out.below HBW.out).cell
    by_cases hlt : x < n
    · obtain ⟨b, off, ea, k3⟩ := rdInts_at (HD2.out.below HBW.out) hlt
      obtain ⟨d, hd⟩ : ∃ d, d = m.doms[x]?.getD 0 := ⟨_, rfl⟩
      have hdr := HSM.out x (by rw [← HN.out]; exact hlt)
      rw [← hd] at k3 hdr
      subst ea
      have HDD := Lib.hid hd
      have HVL := Lib.hid (svalsI_any d wr hdr.1 hdr.2)
      obtain ⟨vs, hvs⟩ : ∃ vs, vs = vL d 6 := ⟨_, rfl⟩
      rw [← hvs] at HVL
      have HVS := Lib.hid hvs
      clear hd hvs hdr
      go_wp2_with fail
      refine HVL.out.mono ?_
      rintro e w5 ⟨u5, rfl, o5, b5⟩
      have HBY := Lib.hid (HBW.out.trans (b5.mono HBW.out.size))
      have HR5 := Lib.hid (rdInts_of_own o5)
      obtain ⟨ua, uc, eu, -⟩ := id HR5.out
      subst eu
      obtain ⟨q, hq⟩ : ∃ q, q = vs.length := ⟨_, rfl⟩
      rw [← hq] at HR5 ⊢
      have HQ := Lib.hid hq
      have hq2 := (rdInts_cap HR5.out).2
      clear b5 o5 k3 p0 p1 hq
      obtain ⟨W0, hW0⟩ : ∃ W0 : World, W0 = w5 := ⟨w5, rfl⟩
      subst hW0
      go_wp2
      go_loopw [5] (fun i wr2 => ∃ j : Nat, j ≤ q ∧ i = .int .i64 j ∧ Hid (∀ (u : Nat) (a : Int), u < j → vs[u]? = some a → flB m.cons m.doms x a = false) ∧ Hid (Below W0.heap.size W0 wr2)) (fun i _ => q - (intOf i).toNat)
      case atStart => exact ⟨0, Nat.zero_le _, rfl, Lib.hid (fun u a hu => by omega), Lib.hid (Below.refl _ _)⟩
      case round =>
        obtain ⟨j, hj, rfl, HA2, HB5⟩ := hrel
        by_cases hjq : j < q
        · obtain ⟨b', off', ea, k3⟩ := rdInts_at (HR5.out.below HB5.out) hjq
          obtain ⟨a, ha⟩ : ∃ a, vs[j]? = some a := ⟨_, List.getElem?_eq_getElem (by rw [← HQ.out]; exact hjq)⟩
          rw [ha] at k3
          simp only [Option.getD_some] at k3
          have hmem : a ∈ vL d 6 := by rw [← HVS.out]; exact List.mem_of_getElem? ha
          obtain ⟨h0, h5, hh⟩ := vL_mem hmem
          obtain ⟨an, rfl⟩ := Int.eq_ofNat_of_zero_le h0
          have han : an < 6 := by omega
          subst ea
          have HBZ := Lib.hid (HBY.out.trans (HB5.out.mono HBY.out.size))
          have HPR := Lib.hid (HSP.out wr.drew x an HBZ.out.drew hlt han)
          have HFN := Lib.hid (HPL.out x an hlt han)
          have HFL : Hid (flB m.cons m.doms x an = emptyB (proL m.cons (fixL m.doms x an))) := Lib.hid (flB_of (by rw [← HDD.out]; exact hh))
          have HMM := Lib.hid hmem
          have HAT := Lib.hid ha
          have HPX := Lib.hid (HP2.out.below HBZ.out)
          obtain ⟨p0, p1⟩ := HPX.out.cell
          obtain ⟨pl, hpl⟩ : ∃ pl, pl = proL m.cons (fixL m.doms x an) := ⟨_, rfl⟩
          rw [← hpl] at HPR HFL HFN
          have HK3 := Lib.hid k3
          clear hpl hmem h0 h5 hh ha han
          go_wp2_with fail
          go_region_held3 (fun w' => w'.cell? ⟨b', off' + j, none⟩ = some (.int .i64 an) ∧ w'.cell? ⟨w.heap.size, 0, none⟩ = some (.slice (some ⟨b, off, none⟩) n c1) ∧ w'.cell? ⟨w.heap.size, 1, none⟩ = some (.slice a2 m.cons.length c2)) (first | go_keep | exact ⟨y0, y1, y2⟩ | exact ⟨k3, p0, p1⟩) (first
            | (go_at_call 25; refine (shasEmpty_any _ pl _ HV5.out).mono ?_; rintro e w6 ⟨rfl, rfl⟩)
            | (go_at_call 27; refine HPR.out.mono ?_; rintro e Y ⟨v4, rfl, o4, bY⟩; have HBX : Hid (Below wr.heap.size wr Y) := Lib.hid ((show Below wr.heap.size wr wr.drew from (Below.refl _ _).drew).trans bY); have HV5 := Lib.hid (rdInts_of_own o4); obtain ⟨ta, tn, tc, te⟩ := own_slice o4; rw [te] at HV5 ⊢; have y0 := (HBX.out.cell (p := ⟨b', off' + j, none⟩) (World.block_lt_of_cell? _ _ HK3.out)).trans HK3.out; obtain ⟨y1, y2⟩ := (HPX.out.below HBX.out).cell; clear o4 bY te))
          rw [← HFL.out]
          have HBN := Lib.hid (HB5.out.trans (HBX.out.mono HB5.out.size))
          clear y0 y1 y2 k3 p0 p1
          cases hfl : flB m.cons m.doms x an
          · have HA3 : Hid (∀ (u : Nat) (a : Int), u < j + 1 → vs[u]? = some a → flB m.cons m.doms x a = false) := Lib.hid (fun u a hu hua => by
              by_cases e : u = j
              · subst e
                have := HAT.out
                rw [hua] at this
                injection this with this
                rw [this]
                exact hfl
              · exact HA2.out u a (by omega) hua)
            clear hfl
            go_wp2
            go_roundw
            all_goals first
              | exact ⟨j + 1, by omega, by go_num, HA3, HBN⟩
              | (simp [intOf]; omega)
          · have HF : Hid (scB m = false) := Lib.hid (sc_no (by rw [← HN.out]; exact hlt) (imp_some (by rw [← HDD.out]; exact HMM.out) hfl))
            clear hfl
            go_wp2
            go_ret
            exact ⟨ret_bool HF.out.symm, HB2.out.trans ((HBY.out.trans (HBN.out.mono HBY.out.size)).mono HB2.out.size)⟩
        · obtain rfl : j = q := by omega
          have HA4 : Hid (∀ u, u < x + 1 → impV m.cons m.doms u 6 = 0) := Lib.hid (fun u hu => by
            by_cases e : u = x
            · subst e
              refine imp_zero (fun a ha => ?_)
              rw [← HDD.out, ← HVS.out] at ha
              obtain ⟨i, hi, e2⟩ := List.mem_iff_getElem.1 ha
              exact HA2.out i a (by rw [HQ.out]; exact hi) (by rw [List.getElem?_eq_getElem hi, e2])
            · exact HA.out u (by omega))
          have HBN := Lib.hid (HBY.out.trans (HB5.out.mono HBY.out.size))
          go_wp2
          go_roundw
          all_goals first
            | exact ⟨x + 1, by omega, by go_num, HA4, HBN⟩
            | (simp [intOf]; omega)
    · obtain rfl : x = n := by omega
      have HF : Hid (scB m = true) := Lib.hid (sc_yes HV.out HE.out (fun u hu => HA.out u (by rw [HN.out]; exact hu)))
      go_wp2
      go_ret
      exact ⟨ret_bool HF.out.symm, HB2.out.trans (HBW.out.mono HB2.out.size)⟩

set_option maxRecDepth 100000 in
set_option maxHeartbeats 16000000 in
theorem iIsSC_any (m : Mod) (v : Value) (w : World) (h : RdModel w v m) (hm : ModLe m 1048576) :
    Calls Try.prog 9 #[v] w (BoolPost (scB m) w) := by
  obtain ⟨a1, a2, c1, c2, rfl, g1, g2⟩ := rdModel_slices h
  obtain ⟨W1, hW1⟩ : ∃ W1, w.alloc (.cells #[.slice a1 m.doms.length c1, .slice a2 m.cons.length c2] 30) = W1 := ⟨_, rfl⟩
  have B1 : Below w.heap.size w W1 := by rw [← hW1]; exact (Below.refl _ _).alloc (Nat.le_refl _) _
  have bP : Blk2 W1 w.heap.size 30 (.slice a1 m.doms.length c1) (.slice a2 m.cons.length c2) := by rw [← hW1]; exact Blk2.new w _ _ _
  have HM := Lib.hid (h.below B1)
  have HD := Lib.hid (g1.below B1)
  have HC := Lib.hid (g2.below B1)
  have hc1 := (rdInts_cap g1).2
  have HB1 := Lib.hid B1
  have HW := Lib.hid hW1
  have HP := Lib.hid bP
  have HLE := Lib.hid hm
  clear h g1 g2 hW1 B1 bP hm
  obtain ⟨p0, p1⟩ := HP.out.cell
  go_enter Try.func9, Try.ntmps9
  go_wp2_with fail
  rw [HW.out]
  refine (ivm_any m _ W1 HM.out HLE.out).mono ?_
  rintro e w2 ⟨rfl, b2⟩
  have HB2 := Lib.hid (HB1.out.trans (b2.mono HB1.out.size))
  have HD2 := Lib.hid (HD.out.below b2)
  have HC2 := Lib.hid (HC.out.below b2)
  have HP2 := Lib.hid (HP.out.below b2)
  clear p0 p1 b2 HM HP HB1 HW HD HC
  obtain ⟨p0, p1⟩ := HP2.out.cell
  cases hv : vmB m
  · have HF : Hid (scB m = false) := Lib.hid (by unfold scB; rw [hv]; rfl)
    go_wp2
    go_ret
    exact ⟨ret_bool HF.out.symm, HB2.out⟩
  obtain ⟨s1, s2, s3, s4⟩ := doms_small' hv
  have HIM := Lib.hid (fun (Y : World) (P : List (Value × Nat × Value)) (pv : Value) (x : Nat) (hb : Below w2.heap.size w2 Y) (hp : Y.ownsRow w2.heap.size 88 2 pv P.length (flatP P)) (hpo : PrOf w2 m.cons P) (hx : x < m.doms.length) => impossible_any m.cons P pv (.slice a1 m.doms.length c1) w2.heap.size m.doms x Y hp ⟨hpo.1, fun i c p hc hp => ⟨(hpo.2 i c p hc hp).1, (hpo.2 i c p hc hp).2.below hb⟩⟩ s4 (fun c hc => okC_mem hv hc) (HD2.out.below hb) s3 s2 s1 hx)
  have HEN := Lib.hid (engineOf_any _ m.cons w2 HC2.out s4 (fun c hc => (okC_mem hv hc).kind))
  have HV := Lib.hid hv
  clear s1 s3 s4 hv
  obtain ⟨n, hn⟩ : ∃ n, n = m.doms.length := ⟨_, rfl⟩
  have HN := Lib.hid hn
  rw [← hn] at HIM hc1 s2 p0 HP2 HD2 ⊢
  clear hn
  go_wp2_with fail
  refine (ihasEmpty_any _ m.doms w2 HD2.out).mono ?_
  rintro e w' ⟨rfl, rfl⟩
  cases he : emptyB m.doms
  case true =>
    have HF : Hid (scB m = false) := Lib.hid (by unfold scB; rw [he]; simp)
    go_wp2
    go_ret
    exact ⟨ret_bool HF.out.symm, HB2.out⟩
  have HE := Lib.hid he
  clear he
  go_wp2_with fail
  refine HEN.out.mono ?_
  rintro e w3 ⟨pv, P, rfl, hp, hpo, b3⟩
  obtain ⟨pa, pn, pc, epv⟩ := own_slice hp
  subst epv
  obtain ⟨W4, hW4⟩ : ∃ W4, w3.alloc (.cells #[.slice none 0 0] 57) = W4 := ⟨_, rfl⟩
  have z4 : Boxed W4 w3.heap.size 57 (.slice none 0 0) := by rw [← hW4]; exact World.alloc_heap_new _ _
  have b4 : Below w3.heap.size w3 W4 := by rw [← hW4]; exact (Below.refl _ _).alloc (Nat.le_refl _) _
  obtain ⟨W5, hW5⟩ : ∃ W5, W4.setCell ⟨w3.heap.size, 0, none⟩ (.slice pa pn pc) = W5 := ⟨_, rfl⟩
  have b5 : Below w3.heap.size w3 W5 := by rw [← hW5]; exact b4.setCell (by show w3.heap.size ≤ w3.heap.size; omega) _
  have z5 : Boxed W5 w3.heap.size 57 (.slice pa pn pc) := by rw [← hW5]; exact z4.set _
  have HB5 := Lib.hid (b3.trans (b5.mono b3.size))
  have HP5 := Lib.hid (own_below hp b5)
  have HPO := Lib.hid hpo
  have HZ5 := Lib.hid z5
  have HPX := Lib.hid (HP2.out.below (b3.trans (b5.mono b3.size)))
  have f1 := z4.cell
  have f2 := z4.frozen
  clear p0 p1
  obtain ⟨p0, p1⟩ := (HP2.out.below b3).cell
  obtain ⟨r0, r1⟩ := HPX.out.cell
  clear hp hpo b3 b4 b5 z4 z5
  go_wp2
  clear p0 p1 r0 r1 f1 f2 hW4 hW5
  go_loopw [19] (fun i wr => ∃ x : Nat, x ≤ n ∧ i = .int .i64 x ∧ Hid (∀ u, u < x → impV m.cons m.doms u 6 = 0) ∧ Hid (Below W5.heap.size W5 wr)) (fun i _ => n - (intOf i).toNat)
  case atStart => exact ⟨0, Nat.zero_le _, rfl, Lib.hid (fun u hu => by omega), Lib.hid (Below.refl _ _)⟩
  case round =>
    obtain ⟨x, hx, rfl, HA, HBW⟩ := hrel
    by_cases hlt : x < n
    · obtain ⟨p0, p1⟩ := (HPX.out.below HBW.out).cell
      have e0 := (show Boxed wr w3.heap.size 57 (.slice pa pn pc) from (HBW.out.block _ HZ5.out.lt).trans HZ5.out).cell
      have HCL := Lib.hid (HIM.out wr P (.slice pa pn pc) x (HB5.out.trans (HBW.out.mono HB5.out.size)) (own_below HP5.out HBW.out) HPO.out hlt)
      obtain ⟨iv, hiv⟩ : ∃ iv, iv = impV m.cons m.doms x 6 := ⟨_, rfl⟩
      rw [← hiv] at HCL
      have HIV := Lib.hid hiv
      clear hiv
      cases hb : (iv != 0)
      · have hb2 : iv = 0 := by simpa using hb
        have HA3 : Hid (∀ u, u < x + 1 → impV m.cons m.doms u 6 = 0) := Lib.hid (fun u hu => by
          by_cases e : u = x
          · subst e
            rw [← HIV.out]
            exact hb2
          · exact HA.out u (by omega))
        clear hb2
        go_wp2_with fail
        refine HCL.out.mono ?_
        rintro e w6 ⟨rfl, b6⟩
        have HBN := Lib.hid (HBW.out.trans (b6.mono HBW.out.size))
        clear b6 p0 p1 e0
        go_wp2
        go_roundw
        all_goals first
          | exact ⟨x + 1, by omega, by go_num, HA3, HBN⟩
          | (simp [intOf]; omega)
      · have hb2 : ¬ iv = 0 := by simpa using hb
        have HF : Hid (scB m = false) := Lib.hid (sc_no (by rw [← HN.out]; exact hlt) (by rw [← HIV.out]; exact hb2))
        clear hb2
        go_wp2_with fail
        refine HCL.out.mono ?_
        rintro e w6 ⟨rfl, b6⟩
        have HBN := Lib.hid (HBW.out.trans (b6.mono HBW.out.size))
        clear b6 p0 p1 e0
        go_wp2
        go_ret
        exact ⟨ret_bool HF.out.symm, HB2.out.trans ((HB5.out.trans (HBN.out.mono HB5.out.size)).mono HB2.out.size)⟩
    · obtain rfl : x = n := by omega
      have HF : Hid (scB m = true) := Lib.hid (sc_yes HV.out HE.out (fun u hu => HA.out u (by rw [HN.out]; exact hu)))
      go_wp2
      go_ret
      exact ⟨ret_bool HF.out.symm, HB2.out.trans ((HB5.out.trans (HBW.out.mono HB5.out.size)).mono HB2.out.size)⟩
end Go.Proofs.Ytipapmmjfoaddaa
