/- PropagateClauses, both packages. -/
import Derived.Test.YtipapmmjfoaddaaGreatCad
import Derived.Test.YtipapmmjfoaddaaGreatCfx
import Derived.Test.YtipapmmjfoaddaaGreatClp
namespace Go.Proofs.YtipapmmjfoaddaaGreat
open Go.ChangeShapes Go.WideShapes Go.ChangeAt Go.RowKit Go.Deep Go.Shelf
set_option linter.unusedVariables false
set_option linter.unusedSimpArgs false

/-- What PropagateClauses answers. -/
def pclM (m : Mod) (cls : List (List Lit)) : List Int := if vmB m && prfB cls m.doms.length then clfL m.cons cls m.doms else []
theorem prf_on {cls : List (List Lit)} {n : Nat} (h : prfB cls n = true) : ∀ ls ∈ cls, LitsOn ls n := fun ls hl => litsOn_of ((prfB_parts h).2 ls hl)
theorem pclM_le (m : Mod) (cls : List (List Lit)) : (pclM m cls).length ≤ 1048576 := by
  unfold pclM
  split
  · rename_i hq
    rw [Bool.and_eq_true] at hq
    obtain ⟨s1, s2, s3, s4⟩ := doms_small' hq.1
    have hl : (clfL m.cons cls m.doms).length = m.doms.length := (fxF_res (clF_steps (fun c hc => varsOk_of (okC_mem hq.1 hc).vc) (prf_on hq.2)) ⟨rfl, s1⟩).domN.len
    omega
  · simp
theorem rdLits_nil (w : World) : RdLits w (.slice none 0 0) [] := ⟨none, 0, rfl, Nat.le_refl _, by unfold maxLen; omega, .inl rfl⟩

set_option maxRecDepth 100000 in
set_option maxHeartbeats 4000000 in
theorem checkerWith_any (m : Mod) (v cv : Value) (cls : List (List Lit)) (w : World) (h : RdModel w v m) (hc : RdClz w cv cls) (hv : vmB m = true) (hp : prfB cls m.doms.length = true) :
    Calls Tryz.prog 77 #[v, cv] w fun e Y => ∃ D pv dv cv' P vals, e = .returned (.pointer (some ⟨D, 0, none⟩)) ∧ Chk w m.cons m.doms D pv dv cv' P vals cls Y := by
  obtain ⟨a1, a2, c1, c2, rfl, g1, g2⟩ := rdModel_slices h
  obtain ⟨ca, cc, ecv, -⟩ := id hc
  obtain ⟨W1, hW1⟩ : ∃ W1, w.alloc (.cells #[.slice a1 m.doms.length c1, .slice a2 m.cons.length c2] 30) = W1 := ⟨_, rfl⟩
  have B1 : Below w.heap.size w W1 := by rw [← hW1]; exact (Below.refl _ _).alloc (Nat.le_refl _) _
  have bP : Blk2 W1 w.heap.size 30 (.slice a1 m.doms.length c1) (.slice a2 m.cons.length c2) := by rw [← hW1]; exact Blk2.new w _ _ _
  have HCK := Lib.hid (checkerOf_any m _ w W1 h B1 hv)
  have HW := Lib.hid hW1
  have HP := Lib.hid bP
  have HCZ := Lib.hid hc
  have HLL := Lib.hid (prfB_parts hp)
  rw [ecv] at HCZ ⊢
  obtain ⟨k, hk⟩ : ∃ k, k = cls.length := ⟨_, rfl⟩
  rw [← hk] at HCZ HLL ⊢
  have HK := Lib.hid hk
  have hl := rdClz_len HCZ.out
  have hl1 := hl.2.1
  have hl2 := hl.2.2
  clear h hc hv hp g1 g2 hW1 B1 bP ecv hk hl
  obtain ⟨p0, p1⟩ := HP.out.cell
  go_enter Tryz.func77, Tryz.ntmps77
  go_wp2_with fail
  rw [HW.out]
  refine HCK.out.mono ?_
  rintro e w2 ⟨D, pv, dv, P, rfl, hck, b2⟩
  have HC2 := Lib.hid hck
  clear hck b2 p0 p1
  go_wp2
  go_loopw [12] (fun i wr => ∃ j : Nat, j ≤ k ∧ i = .int .i64 j ∧ Hid (∃ cv' vals, Chk w m.cons m.doms D pv dv cv' P vals (cls.take j) wr)) (fun i _ => k - (intOf i).toNat)
  case atStart => exact ⟨0, Nat.zero_le _, rfl, Lib.hid ⟨_, _, HC2.out⟩⟩
  case round =>
    obtain ⟨j, hj, rfl, HC⟩ := hrel
    obtain ⟨cv', vals, hck⟩ := HC.out
    have HCK2 := Lib.hid hck
    clear hck HC
    by_cases hlt : j < k
    · obtain ⟨b, o, u, c, rfl, hls, q, r⟩ := rdClz_at HCZ.out hlt
      have hq := (HCK2.out.b.cell (p := ⟨b, o + j, none⟩) (World.block_lt_of_cell? _ _ q)).trans q
      have hcl := HLL.out.2 c (List.mem_of_getElem? hls)
      have HE := Lib.hid (add_any HCK2.out (r.below HCK2.out.b) (by have := clB_len hcl; omega) (by have := HLL.out.1; rw [List.length_take]; omega))
      have HTK : Hid (cls.take (j + 1) = cls.take j ++ [c]) := Lib.hid (by rw [List.take_add_one, hls]; rfl)
      obtain ⟨xa, xc, ex, -⟩ := r
      rw [ex] at hq HE
      clear q ex hls hcl
      go_wp2_with fail
      refine HE.out.mono ?_
      rintro e w5 ⟨⟨uu, rfl⟩, cv2, u2, hck5, -⟩
      have HC5 : Hid (∃ cv' vals, Chk w m.cons m.doms D pv dv cv' P vals (cls.take (j + 1)) w5) := Lib.hid ⟨_, _, by rw [HTK.out]; exact hck5⟩
      clear hck5 hq
      go_wp2
      go_roundw
      all_goals first
        | exact ⟨j + 1, by omega, by go_num, HC5⟩
        | (simp [intOf]; omega)
    · obtain rfl : j = k := by omega
      have HTK : Hid (cls.take j = cls) := Lib.hid (by rw [HK.out, List.take_length])
      go_wp2
      go_ret
      exact ⟨D, pv, dv, cv', P, vals, rfl, by rw [← HTK.out]; exact HCK2.out⟩

set_option maxRecDepth 100000 in
set_option maxHeartbeats 4000000 in
theorem iPropagateClauses_any (m : Mod) (v cv : Value) (cls : List (List Lit)) (w : World) (h : RdModel w v m) (hm : ModLe m 1048576) (hc : RdClz w cv cls) :
    Calls Tryz.prog 33 #[v, cv] w (IntsPost (pclM m cls) w) := by
  obtain ⟨a1, a2, c1, c2, rfl, g1, g2⟩ := rdModel_slices h
  obtain ⟨ca, cc, ecv, -⟩ := id hc
  obtain ⟨W1, hW1⟩ : ∃ W1, w.alloc (.cells #[.slice a1 m.doms.length c1, .slice a2 m.cons.length c2] 30) = W1 := ⟨_, rfl⟩
  have B1 : Below w.heap.size w W1 := by rw [← hW1]; exact (Below.refl _ _).alloc (Nat.le_refl _) _
  have bP : Blk2 W1 w.heap.size 30 (.slice a1 m.doms.length c1) (.slice a2 m.cons.length c2) := by rw [← hW1]; exact Blk2.new w _ _ _
  have HM := Lib.hid (h.below B1)
  have HCZ := Lib.hid (hc.below B1)
  rw [ecv] at HCZ ⊢
  have hl := rdClz_len HCZ.out
  have hl1 := hl.2.1
  have hl2 := hl.2.2
  have hc1 := (rdInts_cap g1).2
  have HB1 := Lib.hid B1
  have HW := Lib.hid hW1
  have HP := Lib.hid bP
  have HLE := Lib.hid hm
  clear h hc g1 g2 hW1 B1 bP hm ecv hl
  obtain ⟨p0, p1⟩ := HP.out.cell
  go_enter Tryz.func33, Tryz.ntmps33
  go_wp2_with fail
  rw [HW.out]
  refine (ivm_any m _ W1 HM.out HLE.out).mono ?_
  rintro e w2 ⟨rfl, b2⟩
  have HB2 := Lib.hid (HB1.out.trans (b2.mono HB1.out.size))
  have HM2 := Lib.hid (HM.out.below b2)
  have HCZ2 := Lib.hid (HCZ.out.below b2)
  have HP2 := Lib.hid (HP.out.below b2)
  clear p0 p1 b2 HM HCZ HP HB1 HW
  obtain ⟨p0, p1⟩ := HP2.out.cell
  cases hv : vmB m
  · have HF : Hid (pclM m cls = []) := Lib.hid (by unfold pclM; rw [hv]; rfl)
    go_wp2
    go_ret
    exact ⟨_, rfl, by rw [HF.out]; exact World.ownsRow_nil _ _ _ _, HB2.out⟩
  obtain ⟨s1, s2, s3, s4⟩ := doms_small' hv
  go_wp2_with fail
  refine (isProof_any _ cls m.doms.length w2 HCZ2.out s3 s2).mono ?_
  rintro e w3 ⟨rfl, b3⟩
  have HB3 := Lib.hid (HB2.out.trans (b3.mono HB2.out.size))
  have HM3 := Lib.hid (HM2.out.below b3)
  have HCZ3 := Lib.hid (HCZ2.out.below b3)
  have HP3 := Lib.hid (HP2.out.below b3)
  clear p0 p1 b3
  obtain ⟨p0, p1⟩ := HP3.out.cell
  cases hp : prfB cls m.doms.length
  · have HF : Hid (pclM m cls = []) := Lib.hid (by unfold pclM; rw [hv, hp]; rfl)
    go_wp2
    go_ret
    exact ⟨_, rfl, by rw [HF.out]; exact World.ownsRow_nil _ _ _ _, HB3.out⟩
  have HF : Hid (pclM m cls = clfL m.cons cls (restL m.doms [])) := Lib.hid (by unfold pclM; rw [hv, hp]; rfl)
  have HLN : Hid ((pclM m cls).length = m.doms.length) := Lib.hid (by rw [HF.out]; exact (fxF_res (clF_steps (fun c hc => varsOk_of (okC_mem hv hc).vc) (prf_on hp)) ⟨rfl, s1⟩).domN.len)
  have HCW := Lib.hid (checkerWith_any m _ _ cls w3 HM3.out HCZ3.out hv hp)
  have HPU := Lib.hid (fun (D : Nat) (pv dv cv' : Value) (P : List (Value × Nat × Value)) (vals : List Value) (Y : World) (hY : Chk w3 m.cons m.doms D pv dv cv' P vals cls Y) => propUnder_any hY (n := m.doms.length) (prf_on hp) (rdLits_nil Y) (fun l h => by simp at h) ⟨rfl, s1⟩ (fun c hc => okC_mem hv hc) s4 s3 s2)
  clear s1 s2 s3 s4 hv hp
  go_wp2_with fail
  refine HCW.out.mono ?_
  rintro e w4 ⟨D, pv, dv, cv', P, vals, rfl, hck⟩
  have HC4 := Lib.hid hck
  clear hck p0 p1
  go_wp2_with fail
  refine (HPU.out D pv dv cv' P vals w4 HC4.out).mono ?_
  rintro e w5 ⟨v5, rfl, o5, c5, f5⟩
  obtain ⟨va, vc, ev5, hv1, hv2, -⟩ := ownForm o5
  subst ev5
  have HO5 : Hid (w5.ownsRow w.heap.size 3 1 (.slice va m.doms.length vc) m.doms.length ((pclM m cls).map (Value.int .i64))) := Lib.hid (by rw [HF.out]; exact own_mono o5 (Nat.le_trans HB3.out.size HC4.out.b.size))
  have HB5 : Hid (Below w.heap.size w w5) := Lib.hid (HB3.out.trans (c5.b.mono HB3.out.size))
  clear o5 c5 f5
  go_wp2
  go_ret
  exact ⟨_, rfl, by rw [HLN.out]; exact HO5.out, HB5.out⟩

set_option maxRecDepth 100000 in
set_option maxHeartbeats 4000000 in
theorem sPropagateClauses_any (m : Mod) (v cv : Value) (cls : List (List Lit)) (w : World) (h : RdModel w v m) (hm : ModLe m 1048576) (hc : RdClz w cv cls) :
    Calls Tryz.prog 31 #[v, cv] w (IntsPost (pclM m cls) w) := by
  obtain ⟨a1, a2, c1, c2, rfl, g1, g2⟩ := rdModel_slices h
  obtain ⟨ca, cc, ecv, -⟩ := id hc
  obtain ⟨W1, hW1⟩ : ∃ W1, w.alloc (.cells #[.slice a1 m.doms.length c1, .slice a2 m.cons.length c2] 30) = W1 := ⟨_, rfl⟩
  have B1 : Below w.heap.size w W1 := by rw [← hW1]; exact (Below.refl _ _).alloc (Nat.le_refl _) _
  have bP : Blk2 W1 w.heap.size 30 (.slice a1 m.doms.length c1) (.slice a2 m.cons.length c2) := by rw [← hW1]; exact Blk2.new w _ _ _
  have HM := Lib.hid (h.below B1)
  have H1 := Lib.hid (g1.below B1)
  have HCZ := Lib.hid (hc.below B1)
  rw [ecv] at HCZ ⊢
  have hl := rdClz_len HCZ.out
  have hl1 := hl.2.1
  have hl2 := hl.2.2
  have hc1 := (rdInts_cap g1).2
  have HB1 := Lib.hid B1
  have HW := Lib.hid hW1
  have HP := Lib.hid bP
  have HLE := Lib.hid hm
  clear h hc g1 g2 hW1 B1 bP hm ecv hl
  obtain ⟨p0, p1⟩ := HP.out.cell
  go_enter Tryz.func31, Tryz.ntmps31
  go_wp2_with fail
  rw [HW.out]
  refine (svm_any m _ W1 HM.out HLE.out).mono ?_
  rintro e w2 ⟨rfl, b2⟩
  have HB2 := Lib.hid (HB1.out.trans (b2.mono HB1.out.size))
  have HM2 := Lib.hid (HM.out.below b2)
  have H12 := Lib.hid (H1.out.below b2)
  have HCZ2 := Lib.hid (HCZ.out.below b2)
  have HP2 := Lib.hid (HP.out.below b2)
  clear p0 p1 b2 HM H1 HCZ HP HB1 HW
  obtain ⟨p0, p1⟩ := HP2.out.cell
  cases hv : vmB m
  · have HF : Hid (pclM m cls = []) := Lib.hid (by unfold pclM; rw [hv]; rfl)
    go_wp2
    go_ret
    exact ⟨_, rfl, by rw [HF.out]; exact World.ownsRow_nil _ _ _ _, HB2.out⟩
  obtain ⟨s1, s2, s3, s4⟩ := doms_small' hv
  go_wp2_with fail
  refine (svalidProof_any _ cls m.doms.length w2 HCZ2.out (by omega) (by omega)).mono ?_
  rintro e w3 ⟨rfl, b3⟩
  have HB3 := Lib.hid (HB2.out.trans (b3.mono HB2.out.size))
  have HM3 := Lib.hid (HM2.out.below b3)
  have H13 := Lib.hid (H12.out.below b3)
  have HCZ3 := Lib.hid (HCZ2.out.below b3)
  have HP3 := Lib.hid (HP2.out.below b3)
  clear p0 p1 b3
  obtain ⟨p0, p1⟩ := HP3.out.cell
  cases hp : prfB cls m.doms.length
  · have HF : Hid (pclM m cls = []) := Lib.hid (by unfold pclM; rw [hv, hp]; rfl)
    go_wp2
    go_ret
    exact ⟨_, rfl, by rw [HF.out]; exact World.ownsRow_nil _ _ _ _, HB3.out⟩
  have HF : Hid (pclM m cls = clfL m.cons cls m.doms) := Lib.hid (by unfold pclM; rw [hv, hp]; rfl)
  have HCF := Lib.hid (sclauseFixpoint_any m _ _ (.slice a1 m.doms.length c1) cls m.doms w3 HM3.out HCZ3.out H13.out (prf_on hp) s3 s2 s1 (fun c hc => okC_mem hv hc) s4)
  clear s1 s2 s3 s4 hv hp
  go_wp2_with fail
  refine HCF.out.mono ?_
  rintro e w4 ⟨v4, rfl, o4, b4⟩
  rw [← HF.out] at o4
  have HO4 := Lib.hid (own_mono o4 HB3.out.size)
  have HB4 := Lib.hid (HB3.out.trans (b4.mono HB3.out.size))
  clear o4 b4
  go_wp2
  go_ret
  exact ⟨_, rfl, HO4.out, HB4.out⟩
end Go.Proofs.YtipapmmjfoaddaaGreat
