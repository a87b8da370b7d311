/- The program's checker: made, asked. -/
import Derived.Test.YtipapmmjfoaddaaGreatUni
namespace Go.Proofs.YtipapmmjfoaddaaGreat
open Go.ChangeShapes Go.WideShapes Go.ChangeAt Go.RowKit Go.Deep Go.Shelf
set_option linter.unusedVariables false
set_option linter.unusedSimpArgs false

set_option maxRecDepth 100000 in
set_option maxHeartbeats 4000000 in
theorem checkerOf_any (m : Mod) (v : Value) (w0 w : World) (h : RdModel w0 v m) (hb : Below w0.heap.size w0 w) (hv : vmB m = true) :
    Calls Tryz.prog 71 #[v] w fun e Y => ∃ D pv dv P, e = .returned (.pointer (some ⟨D, 0, none⟩)) ∧ Chk w0 m.cons m.doms D pv dv (.slice none 0 0) P [] [] Y ∧ Below w.heap.size w Y := by
  obtain ⟨a1, a2, c1, c2, rfl, g1, g2⟩ := rdModel_slices h
  obtain ⟨W1, hW1⟩ : ∃ W1, w.alloc (.cells #[.slice a1 m.doms.length c1, .slice a2 m.cons.length c2] 30) = W1 := ⟨_, rfl⟩
  have B1 : Below w.heap.size w W1 := by rw [← hW1]; exact (Below.refl _ _).alloc (Nat.le_refl _) _
  have bP : Blk2 W1 w.heap.size 30 (.slice a1 m.doms.length c1) (.slice a2 m.cons.length c2) := by rw [← hW1]; exact Blk2.new w _ _ _
  obtain ⟨s1, s2, s3, s4⟩ := doms_small' hv
  have b0 : Below w0.heap.size w0 W1 := hb.trans (B1.mono hb.size)
  have HC : Hid (Calls Tryz.prog 52 #[.slice a2 m.cons.length c2] W1.drew (fun e X => ∃ pv P, e = .returned (.agg #[pv]) ∧ X.ownsRow w0.heap.size 113 2 pv P.length (flatP P) ∧ PrOf w0 m.cons P ∧ Below W1.heap.size W1 X ∧ Blk2 X w.heap.size 30 (.slice a1 m.doms.length c1) (.slice a2 m.cons.length c2))) := by
    refine Lib.hid ((engineOf2_any _ m.cons w0 W1.drew g2 b0.drew s4 (fun c hc => (okC_mem hv hc).kind)).mono ?_)
    rintro e X ⟨pv, P, rfl, ho, hpo, b'⟩
    have bb : Below W1.heap.size W1 X := (show Below W1.heap.size W1 W1.drew from (Below.refl _ _).drew).trans b'
    exact ⟨pv, P, rfl, own_mono ho b0.size, hpo, bb, bP.below bb⟩
  have HB1 := Lib.hid B1
  have HB0 := Lib.hid b0
  have HW := Lib.hid hW1
  have HP := Lib.hid bP
  have HG1 := Lib.hid g1
  clear h g1 g2 hW1 B1 bP s1 s2 s3 s4 b0
  obtain ⟨p0, p1⟩ := HP.out.cell
  go_enter Tryz.func71, Tryz.ntmps71
  go_wp2_with fail
  rw [HW.out]
  go_region_held3 (fun w' => w'.cell? ⟨w.heap.size, 0, none⟩ = some (.slice a1 m.doms.length c1) ∧ w'.cell? ⟨w.heap.size, 1, none⟩ = some (.slice a2 m.cons.length c2)) (first | go_keep | exact ⟨z0, z1⟩ | exact ⟨p0, p1⟩) (first
    | (go_at_call 52; refine HC.out.mono ?_; rintro e X ⟨pv, P, rfl, ho, hpo, bX, kX⟩; obtain ⟨z0, z1⟩ := kX.cell; have HO := Lib.hid ho; have HPO := Lib.hid hpo; have HBX := Lib.hid bX; have HKX := Lib.hid kX; clear ho hpo bX kX))
  go_wp2
  go_ret
  have b3 : Below X.heap.size X (X.alloc (.cells #[pv, .slice a1 m.doms.length c1, .slice none 0 0] 129)) := (Below.refl _ _).alloc (Nat.le_refl _) _
  have b2 : Below w0.heap.size w0 X := HB0.out.trans (HBX.out.mono HB0.out.size)
  refine ⟨X.heap.size, pv, _, P, rfl, ⟨b2.trans (b3.mono b2.size), b2.size, World.alloc_heap_new _ _, own_below HO.out b3, HPO.out, HG1.out, World.ownsRow_nil _ _ _ _, fun i ls hi => by simp at hi, fun i j u v g hu => by simp at hu⟩, HB1.out.trans ((HBX.out.mono HB1.out.size).trans (b3.mono (Nat.le_trans HB1.out.size HBX.out.size)))⟩

set_option maxRecDepth 100000 in
set_option maxHeartbeats 4000000 in
theorem propUnder_any {w0 : World} {cs : List Con} {ds : List Int} {D : Nat} {pv dv cv : Value} {P : List (Value × Nat × Value)} {vals : List Value} {cls : List (List Lit)} {X : World} (h : Chk w0 cs ds D pv dv cv P vals cls X) {n : Nat} {lv : Value} {ls : List Lit}
    (hcl : ∀ ls ∈ cls, LitsOn ls n) (hlv : RdLits X lv ls) (hls : LitsOn ls n) (hdn : DomN n ds) (hok : ∀ c ∈ cs, OkC c n) (h6 : cs.length ≤ 6) (h1 : 1 ≤ n) (h4 : n ≤ 4) :
    Calls Tryz.prog 78 #[.pointer (some ⟨D, 0, none⟩), lv] X fun e Y => ∃ v, e = .returned v ∧ Y.ownsRow X.heap.size 3 1 v n ((clfL cs cls (restL ds ls)).map (Value.int .i64)) ∧ Chk w0 cs ds D pv dv cv P vals cls Y ∧ OffB (ClB vals) X Y := by
  obtain ⟨da, dc, edv, -⟩ := id h.dr
  obtain ⟨la, lc, elv, -⟩ := id hlv
  have hrd := irestricted_any dv lv ds ls X (h.dr.below h.b) hlv (by rw [hdn.len]; exact hls) hdn.small (by rw [hdn.len]; exact h1) (by rw [hdn.len]; exact h4)
  have hdcx := (rdInts_cap (w := w0) (xs := ds) (by have := h.dr; rwa [edv] at this)).2
  have hlcx := (rdLits_len (by rwa [elv] at hlv)).2
  have hlcx1 := hlcx.1
  have hlcx2 := hlcx.2
  have HR := Lib.hid hrd
  have HRN := Lib.hid (restL_domN hdn hls)
  have HPA := Lib.hid (fun (Y : World) (sv : Value) (hY : Chk w0 cs ds D pv dv cv P vals cls Y) (hs : RdInts Y sv (restL ds ls)) => propAll_any hY hcl hs (restL_domN hdn hls) hok h6 h1 h4)
  have HX := Lib.hid h
  obtain ⟨nd, hnd⟩ : ∃ nd, nd = ds.length := ⟨_, rfl⟩
  obtain ⟨nl, hnl⟩ : ∃ nl, nl = ls.length := ⟨_, rfl⟩
  rw [← hnd] at edv hdcx
  rw [← hnl] at elv hlcx1
  subst edv elv
  clear hcl hlv hls hok h6 hrd hnd hnl h hlcx hdn
  obtain ⟨-, q1, -⟩ := HX.out.cell
  go_enter Tryz.func78, Tryz.ntmps78
  go_wp2_with fail
  refine HR.out.mono ?_
  rintro e X2 ⟨v2, rfl, o2, b2⟩
  obtain ⟨va, vc, ev2, hv1, hv2, -⟩ := ownForm o2
  have HX2 := Lib.hid (HX.out.step b2)
  have HV2 := Lib.hid (rdInts_of_own o2)
  have HB2 := Lib.hid b2
  obtain ⟨kr, hkr⟩ : ∃ kr, kr = (restL ds ls).length := ⟨_, rfl⟩
  rw [← hkr] at ev2 hv1
  subst ev2
  clear o2 b2 q1 hkr
  go_wp2_with fail
  refine (HPA.out X2 _ HX2.out HV2.out).mono ?_
  rintro e X3 ⟨v3, rfl, o3, c3, f3⟩
  obtain ⟨wa, wc, ev3, hw1, hw2, -⟩ := ownForm o3
  subst ev3
  have HO3 := Lib.hid o3
  have HC3 := Lib.hid c3
  have HF3 := Lib.hid f3
  clear o3 c3 f3
  go_wp2
  go_ret
  exact ⟨_, rfl, own_mono HO3.out HB2.out.size, HC3.out, (OffB.of_below HB2.out).trans HF3.out⟩

set_option maxRecDepth 100000 in
set_option maxHeartbeats 4000000 in
theorem refutes_any {w0 : World} {cs : List Con} {ds : List Int} {D : Nat} {pv dv cv : Value} {P : List (Value × Nat × Value)} {vals : List Value} {cls : List (List Lit)} {X : World} (h : Chk w0 cs ds D pv dv cv P vals cls X) {n : Nat} {lv : Value} {ls : List Lit}
    (hcl : ∀ ls ∈ cls, LitsOn ls n) (hlv : RdLits X lv ls) (hls : LitsOn ls n) (hdn : DomN n ds) (hok : ∀ c ∈ cs, OkC c n) (h6 : cs.length ≤ 6) (h1 : 1 ≤ n) (h4 : n ≤ 4) :
    Calls Tryz.prog 72 #[.pointer (some ⟨D, 0, none⟩), lv] X fun e Y => e = .returned (.bool (emptyB (clfL cs cls (restL ds ls)))) ∧ Chk w0 cs ds D pv dv cv P vals cls Y ∧ OffB (ClB vals) X Y := by
  obtain ⟨la, lc, elv, -⟩ := id hlv
  have hlcx := (rdLits_len (by rwa [elv] at hlv)).2
  have hlcx1 := hlcx.1
  have hlcx2 := hlcx.2
  have HP := Lib.hid (propUnder_any h hcl hlv hls hdn hok h6 h1 h4)
  have HLN : Hid ((clfL cs cls (restL ds ls)).length = n) := Lib.hid (fxF_res (clF_steps (fun c hc => varsOk_of (hok c hc).vc) hcl) (restL_domN hdn hls)).domN.len
  obtain ⟨nl, hnl⟩ : ∃ nl, nl = ls.length := ⟨_, rfl⟩
  rw [← hnl] at elv hlcx1
  subst elv
  obtain ⟨r, hr⟩ : ∃ r, r = clfL cs cls (restL ds ls) := ⟨_, rfl⟩
  rw [← hr] at HP HLN ⊢
  clear hcl hlv hls hok h6 hnl h hlcx hdn hr
  go_enter Tryz.func72, Tryz.ntmps72
  go_wp2_with fail
  refine HP.out.mono ?_
  rintro e X2 ⟨v2, rfl, o2, c2, f2⟩
  rw [← HLN.out] at o2
  have HV2 := Lib.hid (rdInts_of_own o2)
  obtain ⟨va, vc, ev2, hv1, hv2, -⟩ := ownForm o2
  rw [ev2] at HV2 ⊢
  rw [HLN.out] at HV2 hv1 ⊢
  have HC2 := Lib.hid c2
  have HF2 := Lib.hid f2
  clear o2 c2 f2 ev2
  go_wp2_with fail
  refine (ihasEmpty_any _ r X2 HV2.out).mono ?_
  rintro e w' ⟨rfl, rfl⟩
  go_wp2
  go_ret
  exact ⟨rfl, HC2.out, HF2.out⟩
end Go.Proofs.YtipapmmjfoaddaaGreat
