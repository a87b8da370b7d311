/- The program's CountSolutions. -/
import Derived.Test.YtnkbcciigdjcnaaGreatDoorSrcZ
namespace Go.Proofs.YtnkbcciigdjcnaaGreatDoor
open Go.ChangeShapes Go.WideShapes Go.ChangeAt Go.RowKit Go.Shelf
set_option linter.unusedVariables false
set_option linter.unusedSimpArgs false

attribute [local go_sem] Oper.semAt_some

/-- What stands while solutions are counted. -/
structure CnSt (w : World) (Bn T k : Nat) (s1 s2 : Value) (R : List (List Int)) (g : Nat) (X : World) : Prop where
  b : Below w.heap.size w X
  n : Boxed X Bn 3 (.int .i64 k)
  m : Blk2 X (Bn + 1) 31 s1 s2
  t : Tab64 X
  c : k + R.length = T
  g : Bn + 2 ≤ g

set_option maxRecDepth 100000 in
set_option maxHeartbeats 8000000 in
theorem iCount_any (m : Mod) (v : Value) (w : World) (h : RdModel w v m) (hm : ModLe m 1048576) (hT : Tab64 w) :
    Calls Tryz.prog 21 #[v] w fun e w' => e = .returned (.int .i64 (cntM m)) ∧ Below w.heap.size w w' := by
  obtain ⟨a1, a2, c1, c2, rfl, g1, g2⟩ := rdModel_slices h
  obtain ⟨W1, hW1⟩ : ∃ W1, w.alloc (.cells #[.slice a1 m.doms.length c1, .slice a2 m.cons.length c2] 31) = W1 := ⟨_, rfl⟩
  have B1 : Below w.heap.size w W1 := by rw [← hW1]; exact (Below.refl _ _).alloc (Nat.le_refl _) _
  have bP : Blk2 W1 w.heap.size 31 (.slice a1 m.doms.length c1) (.slice a2 m.cons.length c2) := by rw [← hW1]; exact Blk2.new w _ _ _
  have HM := Lib.hid (h.below B1)
  have HR0 := Lib.hid h
  have HB1 := Lib.hid B1
  have HW := Lib.hid hW1
  have HP := Lib.hid bP
  have HLE := Lib.hid hm
  have HT := Lib.hid hT
  clear h g1 g2 hW1 B1 bP hm hT
  obtain ⟨p0, p1⟩ := HP.out.cell
  refine (callsIn_wide (n := 10)).1 ?_
  refine callsIn_of_wp_marks Tryz.func21 rfl trivial ?_ rfl
  simp only [Tryz.ntmps21, List.size_toArray, List.length_cons, List.length_nil, Nat.reduceAdd, Nat.reduceSub, Array.replicate_succ, Array.replicate_zero, List.push_toArray, List.append_toArray, List.nil_append, List.cons_append]
  gi_wp2_with fail
  refine ⟨trivial, ?_⟩
  gi_at_call 37
  rw [HW.out]
  refine (callsIn_wide.2 (ivm_any m _ W1 HM.out HLE.out)).mono ?_
  rintro e w2 ⟨rfl, b2⟩
  have HB2 := Lib.hid (HB1.out.trans (b2.mono HB1.out.size))
  have HP2 := Lib.hid (HP.out.below b2)
  clear p0 p1 b2 HM HP HB1 HW
  obtain ⟨p0, p1⟩ := HP2.out.cell
  cases hv : vmB m
  · have HF : Hid (cntM m = -1) := Lib.hid (by unfold cntM; rw [hv]; rfl)
    gi_wp2
    refine ⟨_, results_tmp rfl _ _ _, ?_, HB2.out⟩
    exact ret_int HF.out.symm
  have HF : Hid (cntM m = ((solL m.cons m.doms).length : Nat)) := Lib.hid (by unfold cntM; rw [hv]; rfl)
  have HVM := Lib.hid hv
  have HL := Lib.hid (solL_len (okD_mod hv) (doms_small' hv).2.1)
  obtain ⟨W3, hW3⟩ : ∃ W3, w2.alloc (.cells #[.int .i64 0] 3) = W3 := ⟨_, rfl⟩
  obtain ⟨W4, hW4⟩ : ∃ W4, W3.alloc (.cells #[.slice a1 m.doms.length c1, .slice a2 m.cons.length c2] 31) = W4 := ⟨_, rfl⟩
  have b3 : Below w2.heap.size w2 W3 := by rw [← hW3]; exact (Below.refl _ _).alloc (Nat.le_refl _) _
  have b4 : Below W3.heap.size W3 W4 := by rw [← hW4]; exact (Below.refl _ _).alloc (Nat.le_refl _) _
  have s3 : W3.heap.size = w2.heap.size + 1 := by rw [← hW3, World.size_alloc]
  have s4 : W4.heap.size = w2.heap.size + 2 := by rw [← hW4, World.size_alloc, s3]
  have n3 : Boxed W3 w2.heap.size 3 (.int .i64 0) := by rw [← hW3]; exact World.alloc_heap_new _ _
  have m4 : Blk2 W4 W3.heap.size 31 (.slice a1 m.doms.length c1) (.slice a2 m.cons.length c2) := by rw [← hW4]; exact Blk2.new _ _ _ _
  have bw4 : Below w.heap.size w W4 := (HB2.out.trans (b3.mono HB2.out.size)).trans (b4.mono (Nat.le_trans HB2.out.size b3.size))
  have HST : Hid (CnSt w w2.heap.size (solL m.cons m.doms).length 0 (.slice a1 m.doms.length c1) (.slice a2 m.cons.length c2) (solL m.cons m.doms) (W4.heap.size + 2) W4) := Lib.hid ⟨bw4, (b4.block _ n3.lt).trans n3, by rw [← s3]; exact m4, HT.out.below HT.out.size bw4, by omega, by omega⟩
  have k := (HP2.out.below b3).cell
  rw [← hW3] at k
  obtain ⟨k0, k1⟩ := k
  have HW3 := Lib.hid hW3
  have HW4 := Lib.hid hW4
  have HS3 := Lib.hid s3
  have HS4 := Lib.hid s4
  clear hv b3 b4 s3 s4 n3 m4 bw4 hW3 hW4 p0 p1
  gi_wp2_with (refine ⟨trivial, ?_⟩; gi_at_call 47; refine (callsIn_wide.2 (solutions_any _ _ _ _ _ _ rfl _ _ _ rfl)).mono ?_; rintro e w' ⟨rfl, rfl⟩)
  rw [HW3.out, HW4.out]
  clear k0 k1
  obtain ⟨T, hT⟩ : ∃ T, T = (solL m.cons m.doms).length := ⟨_, rfl⟩
  rw [← hT] at HF HL HST
  obtain ⟨Bn, hBn⟩ : ∃ Bn, Bn = w2.heap.size := ⟨_, rfl⟩
  have HBn : Hid (w.heap.size ≤ Bn) := Lib.hid (by rw [hBn]; exact HB2.out.size)
  rw [← hBn] at HST HS3 HS4 ⊢
  clear hT hBn HW3 HW4 HP2
  refine rf_solutions (Bm := Bn + 1) m w HR0.out HVM.out (by omega) rfl rfl
    (fun R g X => ∃ k, CnSt w Bn T k (.slice a1 m.doms.length c1) (.slice a2 m.cons.length c2) R g X)
    (fun c X => False) (fun R g X ⟨k, h⟩ => ⟨h.b, h.m, h.t⟩) ?hIs ?hIo (fun c X Y row h => h.elim) ⟨0, HST.out⟩
    (fun xv => { tmps := #[.agg #[.slice a1 m.doms.length c1, .slice a2 m.cons.length c2], .pointer (some ⟨w.heap.size, 0, none⟩), .int .i64 0, .pointer (some ⟨Bn, 0, none⟩), .agg #[.slice a1 m.doms.length c1, .slice a2 m.cons.length c2], .bool true, .bool false, .agg #[.slice a1 m.doms.length c1, .slice a2 m.cons.length c2], .func (.func 72) #[] #[.pointer (some ⟨Bn + 1, 0, none⟩)], xv, undef, undef, undef], defers := [] }) ?hassign ?hbody ?hdone ?hstop
  case hIs =>
    rintro R g g' X Y hg ⟨k, h⟩ he hgg
    have hs4 := HS4.out
    have hbn := HBn.out
    have hml := (Array.getElem?_eq_some_iff.1 h.m).1
    have htl := h.t.size
    have h1 := HT.out.size
    exact ⟨k, he.below h.b h.b.size (by omega), (he.block _ h.n.lt (by omega)).trans h.n, (he.block _ hml (by omega)).trans h.m, h.t.keep (he.block 1 htl (by omega)), h.c, by have := h.n.lt; omega⟩
  case hIo =>
    rintro R g X Y row ⟨k, h⟩ hgr hr
    have hr' := fun r e => (hr r e).2
    have hs4 := HS4.out
    have hbn := HBn.out
    have h1 := HT.out.size
    refine ⟨k, h.b.grown hgr h.b.size (fun r e => by have := (hr r e).1; omega), boxed_grown h.n hgr hr', (hgr.block _ (Array.getElem?_eq_some_iff.1 h.m).1 (fun e => ?_)).trans h.m, h.t.keep (hgr.block 1 h.t.size (fun e => by have := (hr _ e.symm).1; omega)), h.c, h.g⟩
    have := (hr _ e.symm).1
    omega
  case hassign =>
    intro l xv X K hK
    gi_wp2
    simpa using hK
  case hbody =>
    rintro l R x g X xv hl hr ⟨k, h⟩ hgw ho hxl
    have q0 := h.n.cell
    have f0 := h.n.frozen
    have hc := h.c
    have hl2 := HL.out
    have hkb : k ≤ 2591 := by rw [List.length_cons] at hc; omega
    have hs4 := HS4.out
    have hbn := HBn.out
    have h1 := HT.out.size
    have hfin : CnSt w Bn T (k + 1) (.slice a1 m.doms.length c1) (.slice a2 m.cons.length c2) R g (X.setCell ⟨Bn, 0, none⟩ (.int .i64 ((k : Int) + 1))) := ⟨h.b.setCell (p := ⟨Bn, 0, none⟩) hbn _, by
      have := h.n.set (.int .i64 ((k : Int) + 1))
      rw [show ((k + 1 : Nat) : Int) = (k : Int) + 1 from by omega]
      exact this, (Below.heap_setCell _ _ _ _ (by show Bn + 1 ≠ Bn; omega)).trans h.m, h.t.keep (Below.heap_setCell _ _ _ _ (by show 1 ≠ Bn; omega)), by rw [List.length_cons] at hc; omega, h.g⟩
    have hkf : KeepsFrom W4.heap.size X (X.setCell ⟨Bn, 0, none⟩ (.int .i64 ((k : Int) + 1))) := ⟨by simp, fun b o hb h1 h2 => (Below.heap_setCell _ _ _ _ (by show b ≠ Bn; omega)).trans h1⟩
    have hkv : KpV (W4.heap.size + 2) g X (X.setCell ⟨Bn, 0, none⟩ (.int .i64 ((k : Int) + 1))) := ⟨by simp, fun b cur t fr hb _ _ => Below.heap_setCell _ _ _ _ (by show b ≠ Bn; omega)⟩
    have HFI := Lib.hid (And.intro hfin (And.intro hkf hkv))
    obtain ⟨xa, xn, xc, ex⟩ := own_slice ho
    subst ex
    clear h hfin hkf hkv hc hl2 hs4 hbn h1 ho hxl hgw hr hl
    gi_wp2
    exact ⟨HFI.out.2.1, HFI.out.2.2, k + 1, HFI.out.1⟩
  case hdone =>
    rintro D g X hD ⟨k, h⟩ hK
    have q0 := h.n.cell
    have hkT : (k : Int) = cntM m := by rw [HF.out]; have := h.c; simp at this; omega
    have HKT := Lib.hid hkT
    have HB := Lib.hid h.b
    have HKD := Lib.hid hK
    have HDD := Lib.hid hD
    clear h hK hD hkT
    gi_wp2
    refine ⟨by simp, .inl ⟨_, _, rfl, run_takeDeferred HKD.out, ?_⟩⟩
    refine ⟨_, results_tmp rfl _ _ _, ?_, HB.out.grown (grownBy_putObj' X D _) HB.out.size (fun r e => by cases e; have := HDD.out; have := HS4.out; have := HBn.out; omega)⟩
    exact ret_int HKT.out
  case hstop => exact fun D c X hD h => h.elim
end Go.Proofs.YtnkbcciigdjcnaaGreatDoor
