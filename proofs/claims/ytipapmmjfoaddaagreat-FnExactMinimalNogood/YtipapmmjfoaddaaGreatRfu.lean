/- Refutes, both packages. -/
import Derived.Test.YtipapmmjfoaddaaGreatUni
import Derived.Test.YtipapmmjfoaddaaGreatRst
import Derived.Test.YtipapmmjfoaddaaGreatProS
import Derived.Test.YtipapmmjfoaddaaGreatLitW
namespace Go.Proofs.YtipapmmjfoaddaaGreat
open Go.ChangeShapes Go.WideShapes Go.ChangeAt Go.RowKit Go.Deep Go.Shelf
set_option linter.unusedVariables false
set_option linter.unusedSimpArgs false

/-- Is the model valid, and are the literals a conjunction for it? -/
def cjB (m : Mod) (ls : List Lit) : Bool := vmB m && clB ls m.doms.length
theorem cjB_parts {m : Mod} {ls : List Lit} (h : cjB m ls = true) : vmB m = true ∧ LitsOn ls m.doms.length ∧ ls.length ≤ 12 := by
  unfold cjB at h
  rw [Bool.and_eq_true] at h
  exact ⟨h.1, litsOn_of h.2, clB_len h.2⟩
/-- What Refutes answers. -/
def rftB (m : Mod) (ls : List Lit) : Bool := cjB m ls && emptyB (proL m.cons (restL m.doms ls))

set_option maxRecDepth 100000 in
set_option maxHeartbeats 4000000 in
theorem svcj_any (m : Mod) (v lv : Value) (ls : List Lit) (w : World) (h : RdModel w v m) (hm : ModLe m 1048576) (hl : RdLits w lv ls) :
    Calls Tryz.prog 65 #[v, lv] w (BoolPost (cjB m ls) w) := by
  obtain ⟨a1, a2, c1, c2, rfl, g1, g2⟩ := rdModel_slices h
  obtain ⟨la, lc, elv, -⟩ := id hl
  obtain ⟨W1, hW1⟩ : ∃ W1, w.alloc (.cells #[.slice a1 m.doms.length c1, .slice a2 m.cons.length c2] 30) = W1 := ⟨_, rfl⟩
  have B1 : Below w.heap.size w W1 := by rw [← hW1]; exact (Below.refl _ _).alloc (Nat.le_refl _) _
  have bP : Blk2 W1 w.heap.size 30 (.slice a1 m.doms.length c1) (.slice a2 m.cons.length c2) := by rw [← hW1]; exact Blk2.new w _ _ _
  have HM := Lib.hid (h.below B1)
  have HL := Lib.hid (hl.below B1)
  rw [elv] at HL ⊢
  have hlc := (rdLits_len HL.out).2
  have hlc1 := hlc.1
  have hlc2 := hlc.2
  have hc1 := (rdInts_cap g1).2
  have HB1 := Lib.hid B1
  have HW := Lib.hid hW1
  have HP := Lib.hid bP
  have HLE := Lib.hid hm
  clear h hl g1 g2 hW1 B1 bP hm elv hlc
  obtain ⟨p0, p1⟩ := HP.out.cell
  go_enter Tryz.func65, Tryz.ntmps65
  go_wp2_with fail
  rw [HW.out]
  refine (svm_any m _ W1 HM.out HLE.out).mono ?_
  rintro e w2 ⟨rfl, b2⟩
  have HB2 := Lib.hid (HB1.out.trans (b2.mono HB1.out.size))
  have HL2 := Lib.hid (HL.out.below b2)
  have HP2 := Lib.hid (HP.out.below b2)
  clear p0 p1 b2 HM HL HP HB1 HW
  obtain ⟨p0, p1⟩ := HP2.out.cell
  cases hv : vmB m
  · have HF : Hid (cjB m ls = false) := Lib.hid (by unfold cjB; rw [hv]; rfl)
    go_wp2
    go_ret
    exact ⟨ret_bool HF.out.symm, HB2.out⟩
  obtain ⟨s1, s2, s3, s4⟩ := doms_small' hv
  have HF : Hid (cjB m ls = clB ls m.doms.length) := Lib.hid (by unfold cjB; rw [hv]; rfl)
  clear s1 s4
  go_wp2_with fail
  refine (svalidClause_any _ ls m.doms.length w2 HL2.out (by omega) (by omega)).mono ?_
  rintro e w3 ⟨rfl, b3⟩
  rw [← HF.out]
  have HB3 := Lib.hid (HB2.out.trans (b3.mono HB2.out.size))
  clear b3
  obtain ⟨r, hr⟩ : ∃ r, r = cjB m ls := ⟨_, rfl⟩
  rw [← hr]
  have HRQ := Lib.hid hr
  clear hr
  go_wp2
  go_ret
  exact ⟨ret_bool HRQ.out, HB3.out⟩

set_option maxRecDepth 100000 in
set_option maxHeartbeats 4000000 in
theorem ivcj_any (m : Mod) (v lv : Value) (ls : List Lit) (w : World) (h : RdModel w v m) (hm : ModLe m 1048576) (hl : RdLits w lv ls) :
    Calls Tryz.prog 70 #[v, lv] w (BoolPost (cjB m ls) w) := by
  obtain ⟨a1, a2, c1, c2, rfl, g1, g2⟩ := rdModel_slices h
  obtain ⟨la, lc, elv, -⟩ := id hl
  obtain ⟨W1, hW1⟩ : ∃ W1, w.alloc (.cells #[.slice a1 m.doms.length c1, .slice a2 m.cons.length c2] 30) = W1 := ⟨_, rfl⟩
  have B1 : Below w.heap.size w W1 := by rw [← hW1]; exact (Below.refl _ _).alloc (Nat.le_refl _) _
  have bP : Blk2 W1 w.heap.size 30 (.slice a1 m.doms.length c1) (.slice a2 m.cons.length c2) := by rw [← hW1]; exact Blk2.new w _ _ _
  have HM := Lib.hid (h.below B1)
  have HL := Lib.hid (hl.below B1)
  rw [elv] at HL ⊢
  have hlc := (rdLits_len HL.out).2
  have hlc1 := hlc.1
  have hlc2 := hlc.2
  have hc1 := (rdInts_cap g1).2
  have HB1 := Lib.hid B1
  have HW := Lib.hid hW1
  have HP := Lib.hid bP
  have HLE := Lib.hid hm
  clear h hl g1 g2 hW1 B1 bP hm elv hlc
  obtain ⟨p0, p1⟩ := HP.out.cell
  go_enter Tryz.func70, Tryz.ntmps70
  go_wp2_with fail
  rw [HW.out]
  refine (ivm_any m _ W1 HM.out HLE.out).mono ?_
  rintro e w2 ⟨rfl, b2⟩
  have HB2 := Lib.hid (HB1.out.trans (b2.mono HB1.out.size))
  have HL2 := Lib.hid (HL.out.below b2)
  have HP2 := Lib.hid (HP.out.below b2)
  clear p0 p1 b2 HM HL HP HB1 HW
  obtain ⟨p0, p1⟩ := HP2.out.cell
  cases hv : vmB m
  · have HF : Hid (cjB m ls = false) := Lib.hid (by unfold cjB; rw [hv]; rfl)
    go_wp2
    go_ret
    exact ⟨ret_bool HF.out.symm, HB2.out⟩
  obtain ⟨s1, s2, s3, s4⟩ := doms_small' hv
  have HF : Hid (cjB m ls = vclB ls m.doms.length) := Lib.hid (by unfold cjB vclB; rw [hv, wiB_true (by omega) (by omega)])
  clear s1 s4
  go_wp2_with fail
  refine (iValidClause_any _ ls m.doms.length w2 HL2.out).mono ?_
  rintro e w3 ⟨rfl, b3⟩
  rw [← HF.out]
  have HB3 := Lib.hid (HB2.out.trans (b3.mono HB2.out.size))
  clear b3
  obtain ⟨r, hr⟩ : ∃ r, r = cjB m ls := ⟨_, rfl⟩
  rw [← hr]
  have HRQ := Lib.hid hr
  clear hr
  go_wp2
  go_ret
  exact ⟨ret_bool HRQ.out, HB3.out⟩

set_option maxRecDepth 100000 in
set_option maxHeartbeats 8000000 in
theorem iRefutes_any (m : Mod) (v lv : Value) (ls : List Lit) (w : World) (h : RdModel w v m) (hm : ModLe m 1048576) (hl : RdLits w lv ls) :
    Calls Tryz.prog 28 #[v, lv] w (BoolPost (rftB m ls) w) := by
  obtain ⟨a1, a2, c1, c2, rfl, g1, g2⟩ := rdModel_slices h
  obtain ⟨la, lc, elv, -⟩ := id hl
  obtain ⟨W1, hW1⟩ : ∃ W1, w.alloc (.cells #[.slice a1 m.doms.length c1, .slice a2 m.cons.length c2] 30) = W1 := ⟨_, rfl⟩
  have B1 : Below w.heap.size w W1 := by rw [← hW1]; exact (Below.refl _ _).alloc (Nat.le_refl _) _
  have bP : Blk2 W1 w.heap.size 30 (.slice a1 m.doms.length c1) (.slice a2 m.cons.length c2) := by rw [← hW1]; exact Blk2.new w _ _ _
  have HM := Lib.hid (h.below B1)
  have HL := Lib.hid (hl.below B1)
  rw [elv] at HL ⊢
  have hlc := (rdLits_len HL.out).2
  have hlc1 := hlc.1
  have hlc2 := hlc.2
  have HB1 := Lib.hid B1
  have HW := Lib.hid hW1
  have HP := Lib.hid bP
  have HLE := Lib.hid hm
  clear h hl g1 g2 hW1 B1 bP hm elv hlc
  obtain ⟨p0, p1⟩ := HP.out.cell
  go_enter Tryz.func28, Tryz.ntmps28
  go_wp2_with fail
  rw [HW.out]
  refine (ivcj_any m _ _ ls W1 HM.out HLE.out HL.out).mono ?_
  rintro e w2 ⟨rfl, b2⟩
  have HB2 := Lib.hid (HB1.out.trans (b2.mono HB1.out.size))
  have HM2 := Lib.hid (HM.out.below b2)
  have HL2 := Lib.hid (HL.out.below b2)
  have HP2 := Lib.hid (HP.out.below b2)
  clear p0 p1 b2 HM HL HP HB1 HW
  obtain ⟨p0, p1⟩ := HP2.out.cell
  cases hv : cjB m ls
  · have HF : Hid (rftB m ls = false) := Lib.hid (by unfold rftB; rw [hv]; rfl)
    go_wp2
    go_ret
    exact ⟨ret_bool HF.out.symm, HB2.out⟩
  obtain ⟨hvm, hlo, -⟩ := cjB_parts hv
  obtain ⟨s1, s2, s3, s4⟩ := doms_small' hvm
  have HF : Hid (rftB m ls = emptyB (clfL m.cons [] (restL m.doms ls))) := Lib.hid (by
    unfold rftB
    rw [hv, clfL_none (n := m.doms.length) ⟨(restL_domN ⟨rfl, s1⟩ hlo).len, (restL_domN ⟨rfl, s1⟩ hlo).small, fun c hc => varsOk_of (okC_mem hvm hc).vc⟩]
    rfl)
  have HCK := Lib.hid (checkerOf_any m _ w2 w2 HM2.out (Below.refl _ _) hvm)
  have HRF := Lib.hid (fun (D : Nat) (pv dv : Value) (P : List (Value × Nat × Value)) (Y : World) (hY : Chk w2 m.cons m.doms D pv dv (.slice none 0 0) P [] [] Y) (hb : Below w2.heap.size w2 Y) => refutes_any hY (n := m.doms.length) (fun ls h => by simp at h) (HL2.out.below hb) hlo ⟨rfl, s1⟩ (fun c hc => okC_mem hvm hc) s4 s3 s2)
  clear s1 s2 s3 s4 hvm hlo hv
  go_wp2_with fail
  refine HCK.out.mono ?_
  rintro e w3 ⟨D, pv, dv, P, rfl, hck, b3⟩
  have HC3 := Lib.hid hck
  have HB3 := Lib.hid b3
  clear hck b3 p0 p1
  go_wp2_with fail
  refine (HRF.out D pv dv P w3 HC3.out HB3.out).mono ?_
  rintro e w4 ⟨rfl, c4, f4⟩
  rw [← HF.out]
  have HB4 : Hid (Below w.heap.size w w4) := Lib.hid (HB2.out.trans (c4.b.mono HB2.out.size))
  obtain ⟨r, hr⟩ : ∃ r, r = rftB m ls := ⟨_, rfl⟩
  rw [← hr]
  have HRQ := Lib.hid hr
  clear hr c4 f4
  go_wp2
  go_ret
  exact ⟨ret_bool HRQ.out, HB4.out⟩

set_option maxRecDepth 100000 in
theorem load_model (w : World) (b : Nat) (a1 a2 : Option Addr) (n1 c1 n2 c2 : Nat) (h0 : w.cell? ⟨b, 0, none⟩ = some (.slice a1 n1 c1)) (h1 : w.cell? ⟨b, 1, none⟩ = some (.slice a2 n2 c2)) : (loadVar 30 ⟨b, 0, none⟩).run Tryz.prog w = .ok (.agg #[.slice a1 n1 c1, .slice a2 n2 c2]) w := by
  go_simp
/-- The activation inside the region of Refutes. -/
def rfAct (z0 z1 z2 z3 z4 z5 z6 z7 z8 z9 z10 z11 z12 z13 z14 z15 z16 : Value) : Act := { tmps := #[z0, z1, z2, z3, z4, z5, z6, z7, z8, z9, z10, z11, z12, z13, z14, z15, z16], defers := [] }
set_option maxRecDepth 100000 in
set_option maxHeartbeats 8000000 in
theorem sRefutes_any (m : Mod) (v lv : Value) (ls : List Lit) (w : World) (h : RdModel w v m) (hm : ModLe m 1048576) (hl : RdLits w lv ls) :
    Calls Tryz.prog 26 #[v, lv] w (BoolPost (rftB m ls) w) := by
  obtain ⟨a1, a2, c1, c2, rfl, g1, g2⟩ := rdModel_slices h
  obtain ⟨la, lc, elv, -⟩ := id hl
  obtain ⟨W1, hW1⟩ : ∃ W1, w.alloc (.cells #[.slice a1 m.doms.length c1, .slice a2 m.cons.length c2] 30) = W1 := ⟨_, rfl⟩
  have B1 : Below w.heap.size w W1 := by rw [← hW1]; exact (Below.refl _ _).alloc (Nat.le_refl _) _
  have bP : Blk2 W1 w.heap.size 30 (.slice a1 m.doms.length c1) (.slice a2 m.cons.length c2) := by rw [← hW1]; exact Blk2.new w _ _ _
  have HM := Lib.hid (h.below B1)
  have H1 := Lib.hid (g1.below B1)
  have HL := Lib.hid (hl.below B1)
  rw [elv] at HL ⊢
  have hlc := (rdLits_len HL.out).2
  have hlc1 := hlc.1
  have hlc2 := hlc.2
  have HB1 := Lib.hid B1
  have HW := Lib.hid hW1
  have HP := Lib.hid bP
  have HVC := Lib.hid (svcj_any m _ _ ls W1.drew (HM.out.below (Below.refl _ _).drew) hm (HL.out.below (Below.refl _ _).drew))
  clear h hl g1 g2 hW1 B1 bP hm elv hlc
  obtain ⟨p0, p1⟩ := HP.out.cell
  cases hv : cjB m ls
  · have HF : Hid (rftB m ls = false) := Lib.hid (by unfold rftB; rw [hv]; rfl)
    rw [hv] at HVC
    go_enter Tryz.func26, Tryz.ntmps26
    go_wp2_with fail
    rw [HW.out]
    have hS : W1.drew.cell? ⟨w.heap.size, 0, none⟩ = some (.slice a1 m.doms.length c1) ∧ W1.drew.cell? ⟨w.heap.size, 1, none⟩ = some (.slice a2 m.cons.length c2) := ⟨p0, p1⟩
    refine region_x (fun w' => w'.cell? ⟨w.heap.size, 0, none⟩ = some (.slice a1 m.doms.length c1) ∧ w'.cell? ⟨w.heap.size, 1, none⟩ = some (.slice a2 m.cons.length c2)) (fun _ => false) rfl ?_
    change wpAnyX Tryz.prog .any _ _ _ _ 13 _ (rfAct _ _ _ _ _ _ _ _ _ _ _ _ _ _ _ _ _) W1.drew
    refine wpAnyX_take (i := 0) (v := .agg #[.slice a1 m.doms.length c1, .slice a2 m.cons.length c2]) rfl (by kernel_rfl) (by kernel_rfl) (by kernel_rfl) (by kernel_rfl) (fun _ _ _ h => h) (.inl ⟨rfl, fun w' hw' => exec_load rfl rfl (load_model w' _ _ _ _ _ _ _ hw'.1 hw'.2)⟩) hS ?_
    change wpAnyX Tryz.prog .any _ _ _ _ 12 _ (rfAct _ _ _ _ _ (.agg #[.slice a1 m.doms.length c1, .slice a2 m.cons.length c2]) _ _ _ _ _ _ _ _ _ _ _) W1.drew
    refine wpAnyX_take (i := 1) (v := .slice la ls.length lc) rfl (by kernel_rfl) (by kernel_rfl) (by kernel_rfl) (by kernel_rfl) (fun _ _ _ h => h) (.inl ⟨rfl, fun w' hw' => rfl⟩) hS ?_
    change wpAnyX Tryz.prog .any _ _ _ _ 11 _ (rfAct _ _ _ _ _ (.agg #[.slice a1 m.doms.length c1, .slice a2 m.cons.length c2]) (.slice la ls.length lc) _ _ _ _ _ _ _ _ _ _) W1.drew
    refine wpAnyX_one (i := 2) (by kernel_rfl) rfl (fun K' hK' => ?_)
    refine step_call2 _ rfl 65 _ _ _ _ _ rfl rfl rfl (enters_of Tryz.func65 (by kernel_rfl) rfl) _ HVC.out (fun c w' h => by cases h.1) (fun w' h => by cases h.1) ?_
    rintro v9 X ⟨e9, b9⟩
    obtain rfl : v9 = .bool false := by injection e9
    have HBX : Hid (Below W1.heap.size W1 X) := Lib.hid ((show Below W1.heap.size W1 W1.drew from (Below.refl _ _).drew).trans b9)
    have hS9 := (HP.out.below HBX.out).cell
    clear b9
    refine hK'.out _ _ (fun _ => hS9) ?_
    clear hK' K'
    change wpAnyX Tryz.prog .any _ _ _ _ 10 _ (rfAct _ _ _ _ _ (.agg #[.slice a1 m.doms.length c1, .slice a2 m.cons.length c2]) (.slice la ls.length lc) (.bool false) _ _ _ _ _ _ _ _ _) X
    refine wpAnyX_take (i := 3) (v := .bool false) rfl (by kernel_rfl) (by kernel_rfl) (by kernel_rfl) (by kernel_rfl) (fun _ _ _ h => h) (.inl ⟨rfl, fun w' hw' => rfl⟩) hS9 ?_
    change wpAnyX Tryz.prog .any _ _ _ _ 9 _ (rfAct _ _ _ _ _ (.agg #[.slice a1 m.doms.length c1, .slice a2 m.cons.length c2]) (.slice la ls.length lc) (.bool false) (.bool false) _ _ _ _ _ _ _ _) X
    refine wpAnyX_take (i := 4) (v := undef) rfl (by kernel_rfl) (by kernel_rfl) (by kernel_rfl) (by kernel_rfl) (fun _ _ _ h => h) (.inr ⟨rfl, rfl⟩) hS9 ?_
    change wpAnyX Tryz.prog .any _ _ _ _ 8 _ (rfAct _ _ _ _ _ (.agg #[.slice a1 m.doms.length c1, .slice a2 m.cons.length c2]) (.slice la ls.length lc) (.bool false) (.bool false) (undef) _ _ _ _ _ _ _) X
    refine wpAnyX_take (i := 5) (v := undef) rfl (by kernel_rfl) (by kernel_rfl) (by kernel_rfl) (by kernel_rfl) (fun _ _ _ h => h) (.inr ⟨rfl, rfl⟩) hS9 ?_
    change wpAnyX Tryz.prog .any _ _ _ _ 7 _ (rfAct _ _ _ _ _ (.agg #[.slice a1 m.doms.length c1, .slice a2 m.cons.length c2]) (.slice la ls.length lc) (.bool false) (.bool false) (undef) (undef) _ _ _ _ _ _) X
    refine wpAnyX_take (i := 6) (v := undef) rfl (by kernel_rfl) (by kernel_rfl) (by kernel_rfl) (by kernel_rfl) (fun _ _ _ h => h) (.inr ⟨rfl, rfl⟩) hS9 ?_
    change wpAnyX Tryz.prog .any _ _ _ _ 6 _ (rfAct _ _ _ _ _ (.agg #[.slice a1 m.doms.length c1, .slice a2 m.cons.length c2]) (.slice la ls.length lc) (.bool false) (.bool false) (undef) (undef) (undef) _ _ _ _ _) X
    refine wpAnyX_take (i := 7) (v := undef) rfl (by kernel_rfl) (by kernel_rfl) (by kernel_rfl) (by kernel_rfl) (fun _ _ _ h => h) (.inr ⟨rfl, rfl⟩) hS9 ?_
    change wpAnyX Tryz.prog .any _ _ _ _ 5 _ (rfAct _ _ _ _ _ (.agg #[.slice a1 m.doms.length c1, .slice a2 m.cons.length c2]) (.slice la ls.length lc) (.bool false) (.bool false) (undef) (undef) (undef) (undef) _ _ _ _) X
    refine wpAnyX_take (i := 8) (v := undef) rfl (by kernel_rfl) (by kernel_rfl) (by kernel_rfl) (by kernel_rfl) (fun _ _ _ h => h) (.inr ⟨rfl, rfl⟩) hS9 ?_
    change wpAnyX Tryz.prog .any _ _ _ _ 4 _ (rfAct _ _ _ _ _ (.agg #[.slice a1 m.doms.length c1, .slice a2 m.cons.length c2]) (.slice la ls.length lc) (.bool false) (.bool false) (undef) (undef) (undef) (undef) (undef) _ _ _) X
    refine wpAnyX_take (i := 9) (v := undef) rfl (by kernel_rfl) (by kernel_rfl) (by kernel_rfl) (by kernel_rfl) (fun _ _ _ h => h) (.inr ⟨rfl, rfl⟩) hS9 ?_
    change wpAnyX Tryz.prog .any _ _ _ _ 3 _ (rfAct _ _ _ _ _ (.agg #[.slice a1 m.doms.length c1, .slice a2 m.cons.length c2]) (.slice la ls.length lc) (.bool false) (.bool false) (undef) (undef) (undef) (undef) (undef) (undef) _ _) X
    refine wpAnyX_take (i := 10) (v := undef) rfl (by kernel_rfl) (by kernel_rfl) (by kernel_rfl) (by kernel_rfl) (fun _ _ _ h => h) (.inr ⟨rfl, rfl⟩) hS9 ?_
    change wpAnyX Tryz.prog .any _ _ _ _ 2 _ (rfAct _ _ _ _ _ (.agg #[.slice a1 m.doms.length c1, .slice a2 m.cons.length c2]) (.slice la ls.length lc) (.bool false) (.bool false) (undef) (undef) (undef) (undef) (undef) (undef) (undef) _) X
    refine wpAnyX_take (i := 11) (v := .bool false) rfl (by kernel_rfl) (by kernel_rfl) (by kernel_rfl) (by kernel_rfl) (fun _ _ _ h => h) (.inl ⟨rfl, fun w' hw' => rfl⟩) hS9 ?_
    change wpAnyX Tryz.prog .any _ _ _ _ 1 _ (rfAct _ _ _ _ _ (.agg #[.slice a1 m.doms.length c1, .slice a2 m.cons.length c2]) (.slice la ls.length lc) (.bool false) (.bool false) (undef) (undef) (undef) (undef) (undef) (undef) (undef) (.bool false)) X
    refine wpAnyX_take (i := 12) (v := .bool false) rfl (by kernel_rfl) (by kernel_rfl) (by kernel_rfl) (by kernel_rfl) (fun _ _ _ h => h) (.inl ⟨rfl, fun w' hw' => rfl⟩) hS9 ?_
    change wpAnyX Tryz.prog .any _ _ _ _ 0 _ (rfAct _ _ _ _ (.bool false) (.agg #[.slice a1 m.doms.length c1, .slice a2 m.cons.length c2]) (.slice la ls.length lc) (.bool false) (.bool false) (undef) (undef) (undef) (undef) (undef) (undef) (undef) (.bool false)) X
    refine wpAnyX_done (by kernel_rfl) ?_ _
    unfold rfAct
    go_wp2
    go_ret
    exact ⟨ret_bool HF.out.symm, HB1.out.trans (HBX.out.mono HB1.out.size)⟩
  obtain ⟨hvm, hlo, -⟩ := cjB_parts hv
  obtain ⟨s1, s2, s3, s4⟩ := doms_small' hvm
  have HRN := Lib.hid (restL_domN ⟨rfl, s1⟩ hlo)
  have HF : Hid (rftB m ls = emptyB (proL m.cons (restL m.doms ls))) := Lib.hid (by unfold rftB; rw [hv]; rfl)
  have HPN : Hid ((proL m.cons (restL m.doms ls)).length = m.doms.length) := Lib.hid (pro_domN (cs := m.cons) ⟨HRN.out.len, HRN.out.small, fun c hc => varsOk_of (okC_mem hvm hc).vc⟩).len
  rw [hv] at HVC
  have HRT := Lib.hid (fun (Y : World) (hb : Below W1.heap.size W1 Y) => srestrictTo_any (.slice a1 m.doms.length c1) _ m.doms ls Y (H1.out.below hb) (HL.out.below hb) hlo s1 s3 s2)
  have HFX := Lib.hid (fun (Y : World) (xv : Value) (hb : Below W1.heap.size W1 Y) (hx : RdInts Y xv (restL m.doms ls)) => sfixpoint_any m _ xv (restL m.doms ls) Y (HM.out.below hb) hx (by rw [HRN.out.len]; exact s3) (by rw [HRN.out.len]; exact s2) HRN.out.small (fun c hc => by rw [HRN.out.len]; exact okC_mem hvm hc) s4)
  obtain ⟨rr, hrr⟩ : ∃ rr, rr = restL m.doms ls := ⟨_, rfl⟩
  rw [← hrr] at HRT HFX HF HPN HRN
  obtain ⟨pp, hpp⟩ : ∃ pp, pp = proL m.cons rr := ⟨_, rfl⟩
  rw [← hpp] at HFX HF HPN
  clear s1 s2 s3 s4 hvm hlo hv hrr hpp
  go_enter Tryz.func26, Tryz.ntmps26
  go_wp2_with fail
  rw [HW.out]
  go_region_held3 (fun w' => w'.cell? ⟨w.heap.size, 0, none⟩ = some (.slice a1 m.doms.length c1) ∧ w'.cell? ⟨w.heap.size, 1, none⟩ = some (.slice a2 m.cons.length c2)) (first | go_keep | exact ⟨x0, x1⟩ | exact ⟨y0, y1⟩ | exact ⟨z0, z1⟩ | exact ⟨p0, p1⟩) (first
    | (go_at_call 66; refine (shasEmpty_any _ pp _ HV5.out).mono ?_; rintro e w6 ⟨rfl, rfl⟩)
    | (go_at_call 67; refine (HFX.out Y _ HBY.out HV4.out).mono ?_; rintro e Z ⟨v5, rfl, o5, bZ⟩; have HBZ := Lib.hid (HBY.out.trans (bZ.mono HBY.out.size)); have HV5 := Lib.hid (rdInts_of_own o5); obtain ⟨ua, uc, ue, -⟩ := ownForm o5; rw [ue] at HV5 ⊢; obtain ⟨x0, x1⟩ := (HP.out.below HBZ.out).cell; clear o5 bZ ue)
    | (go_at_call 68; refine (HRT.out X HBX.out).mono ?_; rintro e Y ⟨v4, rfl, o4, bY⟩; have HBY := Lib.hid (HBX.out.trans (bY.mono HBX.out.size)); have HV4 := Lib.hid (rdInts_of_own o4); obtain ⟨ta, tc, te, -⟩ := ownForm o4; rw [te] at HV4 ⊢; obtain ⟨y0, y1⟩ := (HP.out.below HBY.out).cell; clear o4 bY te)
    | (go_at_call 65; refine HVC.out.mono ?_; rintro e X ⟨rfl, bX⟩; have HBX : Hid (Below W1.heap.size W1 X) := Lib.hid ((show Below W1.heap.size W1 W1.drew from (Below.refl _ _).drew).trans bX); obtain ⟨z0, z1⟩ := (HP.out.below HBX.out).cell; clear bX))
  rw [← HF.out]
  obtain ⟨r, hr⟩ : ∃ r, r = rftB m ls := ⟨_, rfl⟩
  rw [← hr]
  have HRQ := Lib.hid hr
  clear hr
  go_wp2
  go_ret
  exact ⟨ret_bool HRQ.out, HB1.out.trans (HBZ.out.mono HB1.out.size)⟩
end Go.Proofs.YtipapmmjfoaddaaGreat
