/- The program's IsConsistent. -/
import Derived.Test.YtjdbfiiaadphhaaSupS
import Derived.Test.YtjdbfiiaadphhaaFi
namespace Go.Proofs.Ytjdbfiiaadphhaa
open Go.ChangeShapes Go.WideShapes Go.ChangeAt Go.RowKit
set_option linter.unusedVariables false
set_option linter.unusedSimpArgs false

set_option maxRecDepth 100000 in
set_option maxHeartbeats 1000000 in
theorem ihasEmpty_any (dv : Value) (ds : List Int) (w : World) (h : RdInts w dv ds) :
    Calls Try.prog 118 #[dv] w fun e w' => e = .returned (.bool (emptyB ds)) ∧ w = w' := by
  have HX := Lib.hid h
  obtain ⟨ax, cx, e2, -⟩ := id h
  rw [e2] at HX ⊢
  clear e2 h
  go_enter Try.func118, Try.ntmps118
  go_wp2_with fail
  refine (slicesContains_any _ ds 0 w HX.out).mono ?_
  rintro e w' ⟨rfl, rfl⟩
  go_wp2
  go_ret
  exact ⟨rfl, rfl⟩

set_option maxRecDepth 100000 in
set_option maxHeartbeats 4000000 in
theorem iIsConsistent_any (m : Mod) (v : Value) (w : World) (h : RdModel w v m) (hm : ModLe m 1048576) :
    Calls Try.prog 58 #[v] w (BoolPost (isConB m) w) := by
  obtain ⟨a1, a2, c1, c2, rfl, g1, g2⟩ := rdModel_slices h
  obtain ⟨W1, hW1⟩ : ∃ W1, w.alloc (.cells #[.slice a1 m.doms.length c1, .slice a2 m.cons.length c2] 68) = W1 := ⟨_, rfl⟩
  have B1 : Below w.heap.size w W1 := by rw [← hW1]; exact (Below.refl _ _).alloc (Nat.le_refl _) _
  have bP : Blk2 W1 w.heap.size 68 (.slice a1 m.doms.length c1) (.slice a2 m.cons.length c2) := by rw [← hW1]; exact Blk2.new w _ _ _
  have HM := Lib.hid (h.below B1)
  have H1 := Lib.hid (g1.below B1)
  have H2 := Lib.hid (g2.below B1)
  have HB1 := Lib.hid B1
  have HW := Lib.hid hW1
  have HP := Lib.hid bP
  have HLE := Lib.hid hm
  have hcc2 := (rdCons_cap g2).2
  clear h g1 g2 hW1 B1 bP hm
  obtain ⟨p0, p1⟩ := HP.out.cell
  go_enter Try.func58, Try.ntmps58
  go_wp2_with fail
  rw [HW.out]
  refine (ivm_any m _ W1 HM.out HLE.out).mono ?_
  rintro e w2 ⟨rfl, b2⟩
  have HB2 := Lib.hid (HB1.out.trans (b2.mono HB1.out.size))
  have H12 := Lib.hid (H1.out.below b2)
  have H22 := Lib.hid (H2.out.below b2)
  have HP2 := Lib.hid (HP.out.below b2)
  clear p0 p1 b2 HM H1 H2 HP HB1 HW
  obtain ⟨p0, p1⟩ := HP2.out.cell
  cases hv : vmB m
  · have HF : Hid (isConB m = false) := Lib.hid (by unfold isConB; rw [hv]; rfl)
    go_wp2
    go_ret
    exact ⟨ret_bool HF.out.symm, HB2.out⟩
  obtain ⟨s1, s2, s3, s4⟩ := doms_small' hv
  go_wp2_with fail
  refine (ihasEmpty_any _ m.doms w2 H12.out).mono ?_
  rintro e w2' ⟨rfl, rfl⟩
  cases he : emptyB m.doms
  case true =>
    have HF : Hid (isConB m = false) := Lib.hid (by unfold isConB; rw [hv, he]; rfl)
    clear s1 s2 s3 s4
    go_wp2
    go_ret
    exact ⟨ret_bool HF.out.symm, HB2.out⟩
  have HF : Hid (isConB m = consI m.cons m.doms) := Lib.hid (by unfold isConB; rw [hv, he]; simp)
  have HOK := Lib.hid (fun (c : Con) (hc : c ∈ m.cons) => And.intro (okC_mem hv hc) (show fltL c m.doms = filL c m.doms by
    unfold fltL okB
    rw [(okC_mem hv hc).vc, wiB_true (by omega) (by omega), show allB m.doms 0 63 = true from allB_true (fun j hj => wiB_true (s1 j hj).1 (s1 j hj).2)]
    rfl))
  have HS := Lib.hid (And.intro s1 (And.intro s2 s3))
  clear s1 s2 s3
  obtain ⟨k2, hk2⟩ : ∃ k2, k2 = m.cons.length := ⟨_, rfl⟩
  rw [← hk2] at HP2 H22 p1 hcc2 s4 ⊢
  have HN := Lib.hid hk2
  clear hk2
  go_wp2
  clear p0 p1
  go_loopw [16] (fun i wr => ∃ j : Nat, j ≤ k2 ∧ i = .int .i64 j ∧ Hid (∀ (q : Nat) (c : Con), q < j → m.cons[q]? = some c → filL c m.doms = m.doms) ∧ Hid (Below w2.heap.size w2 wr)) (fun i _ => k2 - (intOf i).toNat)
  case atStart => exact ⟨0, Nat.zero_le _, rfl, Lib.hid (fun q c hq => by omega), Lib.hid (Below.refl _ _)⟩
  case round =>
    obtain ⟨j, hj, rfl, HE, HBE⟩ := hrel
    by_cases hlt : j < k2
    · obtain ⟨b, off, c, x2, x3, x5, y2, y3, y5, rfl, hck, t0, t1, t2, t3, t4, hr⟩ := rdCons_at (H22.out.below HBE.out) hlt
      have hoc := HOK.out c (List.mem_of_getElem? hck)
      have HCK := Lib.hid hck
      have HFL := Lib.hid hoc.2
      have HCL : Hid (c.vars.length ≤ 1048576) := Lib.hid (by have := hoc.1.four; omega)
      obtain ⟨W3, hW3⟩ : ∃ W3, wr.alloc (.cells #[.int .i64 c.kind, .slice x2 c.vars.length y2, .slice x3 c.args.length y3, .int .i64 c.bound, .slice x5 c.rows.length y5] 53) = W3 := ⟨_, rfl⟩
      have B3 : Below wr.heap.size wr W3 := by rw [← hW3]; exact (Below.refl _ _).alloc (Nat.le_refl _) _
      have bC : Blk5 W3 wr.heap.size 53 (.int .i64 c.kind) (.slice x2 c.vars.length y2) (.slice x3 c.args.length y3) (.int .i64 c.bound) (.slice x5 c.rows.length y5) := by rw [← hW3]; exact Blk5.new wr _ _ _ _ _ _
      have HW3 := Lib.hid hW3
      have HBE3 := Lib.hid (HBE.out.trans (B3.mono HBE.out.size))
      have HR3 : Hid (RdCon W3.drew _ c) := Lib.hid ((hr.below B3).below (Below.refl _ _).drew)
      have HD3 : Hid (RdInts W3.drew _ m.doms) := Lib.hid (((H12.out.below HBE.out).below B3).below (Below.refl _ _).drew)
      obtain ⟨y0, y1, y2', y3', y4⟩ := bC.cell
      obtain ⟨p0, p1⟩ := (HP2.out.below HBE3.out).cell
      have HC : Hid (Calls Try.prog 120 #[.agg #[.int .i64 c.kind, .slice x2 c.vars.length y2, .slice x3 c.args.length y3, .int .i64 c.bound, .slice x5 c.rows.length y5], .slice a1 m.doms.length c1] W3.drew (fun e X => ∃ a n q, e = .returned (.slice a n q) ∧ RdInts X (.slice a n q) (filL c m.doms) ∧ Below W3.heap.size W3 X ∧ Blk5 X wr.heap.size 53 (.int .i64 c.kind) (.slice x2 c.vars.length y2) (.slice x3 c.args.length y3) (.int .i64 c.bound) (.slice x5 c.rows.length y5) ∧ Blk2 X w.heap.size 68 (.slice a1 m.doms.length c1) (.slice (some ⟨b, off, none⟩) k2 c2))) := by
        refine Lib.hid ((iFilter_any c _ _ m.doms W3.drew HR3.out HD3.out HCL.out).mono ?_)
        rintro e X ⟨v', rfl, o', b'⟩
        rw [HFL.out] at o'
        obtain ⟨a', n', q', e'⟩ := own_slice o'
        have bb : Below W3.heap.size W3 X := (show Below W3.heap.size W3 W3.drew from (Below.refl _ _).drew).trans b'
        subst e'
        exact ⟨_, _, _, rfl, rdInts_of_own o', bb, bC.below bb, HP2.out.below (HBE3.out.trans (bb.mono HBE3.out.size))⟩
      have HDM := Lib.hid (H12.out.below HBE3.out)
      clear hoc hck hr hW3 B3 bC HR3 HD3 HBE
      go_wp2
      rw [HW3.out]
      go_region_held3 (fun w' => w'.cell? ⟨wr.heap.size, 0, none⟩ = some (.int .i64 c.kind) ∧ w'.cell? ⟨wr.heap.size, 1, none⟩ = some (.slice x2 c.vars.length y2) ∧ w'.cell? ⟨wr.heap.size, 2, none⟩ = some (.slice x3 c.args.length y3) ∧ w'.cell? ⟨wr.heap.size, 3, none⟩ = some (.int .i64 c.bound) ∧ w'.cell? ⟨wr.heap.size, 4, none⟩ = some (.slice x5 c.rows.length y5) ∧ w'.cell? ⟨w.heap.size, 0, none⟩ = some (.slice a1 m.doms.length c1) ∧ w'.cell? ⟨w.heap.size, 1, none⟩ = some (.slice (some ⟨b, off, none⟩) k2 c2)) (first | go_keep | exact ⟨u0, u1, u2, u3, u4, u5, u6⟩ | exact ⟨z0, z1, z2, z3, z4, z5, z6⟩ | exact ⟨y0, y1, y2', y3', y4, p0, p1⟩) (first
        | (go_at_call 120; refine HC.out.mono ?_; rintro e X ⟨fa, fn, fq, rfl, rX, bX, k5, kk2⟩; obtain ⟨z0, z1, z2, z3, z4⟩ := k5.cell; obtain ⟨z5, z6⟩ := kk2.cell; have HX := Lib.hid rX; have HBX := Lib.hid bX; have HK5 := Lib.hid k5; have HK2 := Lib.hid kk2; clear rX bX k5 kk2)
        | (go_at_call 119; refine (slicesEqual_any _ _ _ m.doms _ HX.out (HDM.out.below HBX.out)).mono ?_; rintro e Y ⟨rfl, kk, eY⟩; have bY : Below X.heap.size X Y := (by rw [eY]; exact below_drewN' (Below.refl _ _) _); obtain ⟨u0, u1, u2, u3, u4⟩ := (HK5.out.below bY).cell; obtain ⟨u5, u6⟩ := (HK2.out.below bY).cell; have HBY := Lib.hid (HBE3.out.trans ((HBX.out.mono HBE3.out.size).trans (bY.mono (by have := HBX.out.size; have := HBE3.out.size; omega)))); clear eY bY))
      clear u0 u1 u2 u3 u4 u5 u6 z0 z1 z2 z3 z4 z5 z6 y0 y1 y2' y3' y4 p0 p1 t0 t1 t2 t3 t4
      by_cases hq : filL c m.doms = m.doms
      · rw [decide_eq_true hq]
        go_wp2
        go_roundw
        case rel => exact ⟨j + 1, by omega, by go_num, Lib.hid (fun q c' hq' hc' => by by_cases e : q = j; (· subst e; rw [HCK.out] at hc'; obtain rfl := Option.some.inj hc'; exact hq); (· exact HE.out q c' (by omega) hc')), HBY⟩
        case measure => simp [intOf]; omega
      · have HFF : Hid (consI m.cons m.doms = false) := Lib.hid (consI_false HCK.out hq)
        rw [decide_eq_false hq]
        go_wp2
        go_ret
        exact ⟨ret_bool (by rw [HF.out, HFF.out]), HB2.out.trans (HBY.out.mono HB2.out.size)⟩
    · obtain rfl : j = k2 := by omega
      have HFF : Hid (consI m.cons m.doms = true) := Lib.hid (consI_true (fun q c hq hc => HE.out q c (by have := HN.out; omega) hc))
      clear HE
      go_wp2
      go_ret
      exact ⟨ret_bool (by rw [HF.out, HFF.out]), HB2.out.trans (HBE.out.mono HB2.out.size)⟩
end Go.Proofs.Ytjdbfiiaadphhaa
