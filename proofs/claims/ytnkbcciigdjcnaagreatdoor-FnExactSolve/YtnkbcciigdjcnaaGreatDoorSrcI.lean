/- The program's Solve. -/
import Derived.Test.YtnkbcciigdjcnaaGreatDoorSrcZ
namespace Go.Proofs.YtnkbcciigdjcnaaGreatDoor
open Go.ChangeShapes Go.WideShapes Go.ChangeAt Go.RowKit Go.Shelf
set_option linter.unusedVariables false
set_option linter.unusedSimpArgs false

attribute [local go_sem] Oper.semAt_some

/-- The nodes that are still to be visited, in their order. -/
def remV (cs : List Con) (st : List (List Int)) : List (List Int) := st.reverse.flatMap (visL cs)
theorem remV_node {cs : List Con} {n : Nat} {d : List Int} (h : OkD cs n d) (st : List (List Int)) : remV cs (st ++ [d]) = proL cs d :: remV cs (st ++ (kids (proL cs d)).reverse) := by
  unfold remV
  rw [List.reverse_append, List.reverse_append, List.reverse_reverse, List.flatMap_append, List.flatMap_append]
  simp only [List.reverse_cons, List.reverse_nil, List.nil_append, List.flatMap_cons, List.flatMap_nil, List.append_nil]
  rw [visL_eq h]
  rfl
/-- What stands while the first solution is sought. -/
structure SvSt (m : Mod) (w : World) (Bn : Nat) (s1 s2 : Value) (k : Nat) (st : List (List Int)) (g : Nat) (X : World) : Prop where
  b : Below w.heap.size w X
  r1 : Boxed X (w.heap.size + 1) 22 (.slice none 0 0)
  r2 : Boxed X (w.heap.size + 1 + 1) 3 (.int .i64 0)
  n : Boxed X Bn 3 (.int .i64 k)
  mm : Blk2 X (Bn + 1 + 1) 31 s1 s2
  f : Boxed X (Bn + 1 + 1 + 1) 53 (.func (.func 69) #[] #[])
  t : Tab64 X
  c : k + (cutV 1 (remV m.cons st)).length = slvN m 1
  h : ((remV m.cons st).filterMap oneT).headD [] = solX m
  g : Bn + 4 ≤ g
  z : w.heap.size + 3 ≤ Bn
/-- What stands where it is found. -/
structure SvEx (m : Mod) (w : World) (X : World) : Prop where
  b : Below w.heap.size w X
  r1 : ∃ v, Boxed X (w.heap.size + 1) 22 v ∧ X.ownsRow w.heap.size 3 1 v (solX m).length ((solX m).map (Value.int .i64))
  r2 : Boxed X (w.heap.size + 1 + 1) 3 (.int .i64 (slvN m 1 : Nat))
/-- The activation inside the loop. -/
def svAct (B Bn : Nat) (s1 s2 dv x6 x7 x14 x15 x16 x17 x18 x19 x20 x21 x22 x23 : Value) : Act := { tmps := #[.agg #[s1, s2], .pointer (some ⟨B, 0, none⟩), .pointer (some ⟨B + 1, 0, none⟩), .pointer (some ⟨B + 1 + 1, 0, none⟩), .pointer (some ⟨Bn, 0, none⟩), dv, x6, x7, .agg #[s1, s2], .bool true, .bool false, .agg #[s1, s2], .func (.func 90) #[] #[.pointer (some ⟨Bn + 1 + 1, 0, none⟩), .pointer (some ⟨Bn + 1 + 1 + 1, 0, none⟩)], dv, x14, x15, x16, x17, x18, x19, x20, x21, x22, x23, undef], defers := [] }
theorem store_intsB (w : World) (g : Nat) (v : Value) (a : Option Addr) (n c : Nat) (h : w.cell? ⟨g, 0, none⟩ = some v) (hf : w.frozen? ⟨g, 0, none⟩ = false) : (Instr.storeAt 22 (.pointer (some ⟨g, 0, none⟩)) (.slice a n c)).run Tryz.prog w = .ok () (w.setCell ⟨g, 0, none⟩ (.slice a n c)) := by
  go_simp

theorem solve_res (X : World) (B : Nat) (a : Option Addr) (n c : Nat) (z : Int) (tmps : Array Value) (t2 : tmps[2]?.getD undef = .pointer (some ⟨B + 1, 0, none⟩)) (t3 : tmps[3]?.getD undef = .pointer (some ⟨B + 1 + 1, 0, none⟩)) (h1 : X.cell? ⟨B + 1, 0, none⟩ = some (.slice a n c)) (h2 : X.cell? ⟨B + 1 + 1, 0, none⟩ = some (.int .i64 z)) :
    (results Tryz.f16 tmps).run Tryz.prog X = .ok (.tuple #[.slice a n c, .int .i64 z]) X := by
  simp [results, Tryz.results16, go_sem, h1, h2, t2, t3]

set_option maxRecDepth 100000 in
set_option maxHeartbeats 8000000 in
theorem iSolve_any (m : Mod) (v : Value) (w : World) (h : RdModel w v m) (hm : ModLe m 1048576) (hT : Tab64 w) :
    Calls Tryz.prog 16 #[v] w (IntsPost2 (solX m) (.int .i64 (solN m)) w) := by
  obtain ⟨a1, a2, c1, c2, rfl, g1, g2⟩ := rdModel_slices h
  obtain ⟨W1, hW1⟩ : ∃ W1, ((w.alloc (.cells #[.slice a1 m.doms.length c1, .slice a2 m.cons.length c2] 31)).alloc (.cells #[.slice none 0 0] 22)).alloc (.cells #[.int .i64 0] 3) = W1 := ⟨_, rfl⟩
  have B1 : Below w.heap.size w W1 := by rw [← hW1]; exact (((Below.refl _ _).alloc (Nat.le_refl _) _).alloc (by simp) _).alloc (by simp; omega) _
  have s1 : W1.heap.size = w.heap.size + 3 := by rw [← hW1]; simp
  have bP : Blk2 W1 w.heap.size 31 (.slice a1 m.doms.length c1) (.slice a2 m.cons.length c2) := by rw [← hW1]; exact (Below.heap_alloc _ _ _ (by simp; omega)).trans ((Below.heap_alloc _ _ _ (by simp)).trans (Blk2.new w _ _ _))
  have r1 : Boxed W1 (w.heap.size + 1) 22 (.slice none 0 0) := by
    have := World.alloc_heap_new (w.alloc (.cells #[.slice a1 m.doms.length c1, .slice a2 m.cons.length c2] 31)) (.cells #[.slice none 0 0] 22)
    rw [World.size_alloc] at this
    rw [← hW1]; exact (Below.heap_alloc _ _ _ (by simp)).trans this
  have r2 : Boxed W1 (w.heap.size + 1 + 1) 3 (.int .i64 0) := by
    have := World.alloc_heap_new ((w.alloc (.cells #[.slice a1 m.doms.length c1, .slice a2 m.cons.length c2] 31)).alloc (.cells #[.slice none 0 0] 22)) (.cells #[.int .i64 0] 3)
    rw [World.size_alloc, World.size_alloc] at this
    rw [← hW1]; exact this
  have HM := Lib.hid (h.below B1)
  have HR0 := Lib.hid h
  have HB1 := Lib.hid B1
  have HS1 := Lib.hid s1
  have HP := Lib.hid bP
  have HR1 := Lib.hid r1
  have HR2 := Lib.hid r2
  have HLE := Lib.hid hm
  have HT := Lib.hid hT
  obtain ⟨p0, p1⟩ := bP.cell
  rw [← hW1] at p0 p1
  have HW := Lib.hid hW1
  clear h g1 g2 hW1 B1 bP hm hT r1 r2 s1
  refine (callsIn_wide (n := 10)).1 ?_
  refine callsIn_of_wp_marks Tryz.func16 rfl trivial ?_ rfl
  simp only [Tryz.ntmps16, List.size_toArray, List.length_cons, List.length_nil, Nat.reduceAdd, Nat.reduceSub, Array.replicate_succ, Array.replicate_zero, List.push_toArray, List.append_toArray, List.nil_append, List.cons_append]
  gi_wp2_with fail
  refine ⟨trivial, ?_⟩
  gi_at_call 37
  rw [HW.out]
  refine (callsIn_wide.2 (ivm_any m _ W1 HM.out HLE.out)).mono ?_
  rintro e w2 ⟨rfl, b2⟩
  have HB2 := Lib.hid (HB1.out.trans (b2.mono HB1.out.size))
  have HP2 := Lib.hid (HP.out.below b2)
  have HR12 := Lib.hid (show Boxed w2 (w.heap.size + 1) 22 (.slice none 0 0) from (b2.block _ HR1.out.lt).trans HR1.out)
  have HR22 := Lib.hid (show Boxed w2 (w.heap.size + 1 + 1) 3 (.int .i64 0) from (b2.block _ HR2.out.lt).trans HR2.out)
  have HZ2 : Hid (w.heap.size + 3 ≤ w2.heap.size) := Lib.hid (by have := HS1.out; have := b2.size; omega)
  clear p0 p1 b2 HM HP HB1 HW HR1 HR2 HS1
  obtain ⟨p0, p1⟩ := HP2.out.cell
  have q1 := HR12.out.cell
  have q2 := HR22.out.cell
  have f1 := HR12.out.frozen
  have f2 := HR22.out.frozen
  cases hv : vmB m
  · have HF : Hid (solX m = [] ∧ solN m = 0) := Lib.hid (by unfold solX solN; rw [hv]; exact ⟨rfl, rfl⟩)
    gi_wp2
    have k1 := (HR12.out.set (.slice none 0 0)).other (B' := w.heap.size + 1 + 1) (by omega) (.int .i64 0)
    have k2 := (HR22.out.other (B' := w.heap.size + 1) (by omega) (.slice none 0 0)).set (.int .i64 0)
    exact ⟨_, solve_res _ w.heap.size _ _ _ _ _ rfl rfl k1.cell k2.cell, .slice none 0 0, by rw [HF.out.2], by rw [HF.out.1]; exact World.ownsRow_nil _ _ _ _, (HB2.out.setCell (p := ⟨w.heap.size + 1, 0, none⟩) (by show w.heap.size ≤ w.heap.size + 1; omega) _).setCell (p := ⟨w.heap.size + 1 + 1, 0, none⟩) (by show w.heap.size ≤ w.heap.size + 1 + 1; omega) _⟩
  have HN : Hid (solN m = (slvN m 1 : Nat)) := Lib.hid (by unfold solN; rw [hv]; rfl)
  have HVM := Lib.hid hv
  have HNL := Lib.hid (slvN_le hv 1)
  have HD := Lib.hid (doms_small' hv)
  obtain ⟨W3, hW3⟩ : ∃ W3, w2.alloc (.cells #[.int .i64 0] 3) = W3 := ⟨_, rfl⟩
  obtain ⟨W4, hW4⟩ : ∃ W4, ((W3.alloc (.cells #[.slice a1 m.doms.length c1, .slice a2 m.cons.length c2] 31)).alloc (.cells #[.slice a1 m.doms.length c1, .slice a2 m.cons.length c2] 31)).alloc (.cells #[.func (.func 69) #[] #[]] 53) = W4 := ⟨_, rfl⟩
  have b3 : Below w2.heap.size w2 W3 := by rw [← hW3]; exact (Below.refl _ _).alloc (Nat.le_refl _) _
  have s3 : W3.heap.size = w2.heap.size + 1 := by rw [← hW3, World.size_alloc]
  have b4 : Below W3.heap.size W3 W4 := by rw [← hW4]; exact (((Below.refl _ _).alloc (Nat.le_refl _) _).alloc (by simp) _).alloc (by simp; omega) _
  have s4 : W4.heap.size = w2.heap.size + 4 := by rw [← hW4]; simp; omega
  have n3 : Boxed W3 w2.heap.size 3 (.int .i64 0) := by rw [← hW3]; exact World.alloc_heap_new _ _
  have m4 : Blk2 W4 (w2.heap.size + 1 + 1) 31 (.slice a1 m.doms.length c1) (.slice a2 m.cons.length c2) := by
    have := Blk2.new (W3.alloc (.cells #[.slice a1 m.doms.length c1, .slice a2 m.cons.length c2] 31)) 31 (.slice a1 m.doms.length c1) (.slice a2 m.cons.length c2)
    rw [World.size_alloc, s3] at this
    rw [← hW4]
    exact (Below.heap_alloc _ _ _ (by simp; omega)).trans this
  have f4 : Boxed W4 (w2.heap.size + 1 + 1 + 1) 53 (.func (.func 69) #[] #[]) := by
    have := World.alloc_heap_new ((W3.alloc (.cells #[.slice a1 m.doms.length c1, .slice a2 m.cons.length c2] 31)).alloc (.cells #[.slice a1 m.doms.length c1, .slice a2 m.cons.length c2] 31)) (.cells #[.func (.func 69) #[] #[]] 53)
    rw [World.size_alloc, World.size_alloc, s3] at this
    rw [← hW4]
    exact this
  have b24 : Below w2.heap.size w2 W4 := b3.trans (b4.mono b3.size)
  have bw4 : Below w.heap.size w W4 := HB2.out.trans (b24.mono HB2.out.size)
  have hrv : remV m.cons [m.doms] = visL m.cons m.doms := by simp [remV]
  have HST : Hid (SvSt m w w2.heap.size (.slice a1 m.doms.length c1) (.slice a2 m.cons.length c2) 0 [m.doms] (W4.heap.size + 2) W4) := Lib.hid ⟨bw4, (b24.block _ HR12.out.lt).trans HR12.out, (b24.block _ HR22.out.lt).trans HR22.out, (b4.block _ n3.lt).trans n3, m4, f4, HT.out.below HT.out.size bw4, by rw [hrv]; unfold slvN; omega, by rw [hrv]; unfold solX; rw [hv]; rfl, by omega, HZ2.out⟩
  have k := (HP2.out.below b3).cell
  rw [← hW3] at k
  obtain ⟨k0, k1⟩ := k
  have HW3 := Lib.hid hW3
  have HW4 := Lib.hid hW4
  have HS3 := Lib.hid s3
  have HS4 := Lib.hid s4
  clear hv b3 b4 s3 s4 n3 m4 f4 b24 bw4 hW3 hW4 p0 p1 q1 q2 f1 f2 hrv
  gi_wp2_with (refine ⟨trivial, ?_⟩; gi_at_call 44; refine (callsIn_wide.2 (visits_any _ _ _ _ _ _ rfl _ _ _ rfl)).mono ?_; rintro e w' ⟨rfl, rfl⟩)
  rw [HW3.out, HW4.out]
  clear k0 k1
  obtain ⟨Bn, hBn⟩ : ∃ Bn, Bn = w2.heap.size := ⟨_, rfl⟩
  rw [← hBn] at HST HS3 HS4 HZ2 ⊢
  clear hBn HW3 HW4 HP2 HR12 HR22
  refine rf_visits (σ := Nat) (Bm := Bn + 1 + 1) (Bw := Bn + 1 + 1 + 1) m w HR0.out HVM.out (by omega) rfl rfl
    (fun k st g X => SvSt m w Bn (.slice a1 m.doms.length c1) (.slice a2 m.cons.length c2) k st g X)
    (fun c X => c = .ret ∧ SvEx m w X) (fun k _ => k + 1) (fun k st g X h => ⟨h.b, h.mm, h.f⟩) ?hIs ?hIo ?hIxo 0 HST.out
    (fun dv => svAct w.heap.size Bn (.slice a1 m.doms.length c1) (.slice a2 m.cons.length c2) dv undef undef undef undef undef undef undef undef undef undef undef undef) ?hassign ?hbody ?hdone ?hstop
  case hIs =>
    rintro k st g g' X Y hg h he hgg
    have hs4 := HS4.out
    have hz := h.z
    have hml := (Array.getElem?_eq_some_iff.1 h.mm).1
    have h1 := HT.out.size
    have hfl := h.f.lt
    exact ⟨he.below h.b h.b.size (by omega), (he.block _ h.r1.lt (by omega)).trans h.r1, (he.block _ h.r2.lt (by omega)).trans h.r2, (he.block _ h.n.lt (by omega)).trans h.n, (he.block _ hml (by omega)).trans h.mm, (he.block _ h.f.lt (by omega)).trans h.f, h.t.keep (he.block 1 h.t.size (by omega)), h.c, h.h, by omega, h.z⟩
  case hIo =>
    rintro k st g X Y row h hgr hr
    have hr' := fun r e => (hr r e).2
    have hs4 := HS4.out
    have hz := h.z
    have h1 := HT.out.size
    refine ⟨h.b.grown hgr h.b.size (fun r e => by have := (hr r e).1; omega), boxed_grown h.r1 hgr hr', boxed_grown h.r2 hgr hr', boxed_grown h.n hgr hr', (hgr.block _ (Array.getElem?_eq_some_iff.1 h.mm).1 (fun e => ?_)).trans h.mm, boxed_grown h.f hgr hr', h.t.keep (hgr.block 1 h.t.size (fun e => by have := (hr _ e.symm).1; omega)), h.c, h.h, h.g, h.z⟩
    have := (hr _ e.symm).1
    omega
  case hIxo =>
    rintro c X Y row ⟨rfl, h⟩ hgr hr
    have hr' := fun r e => (hr r e).2
    obtain ⟨v, h1, h2⟩ := h.r1
    refine ⟨rfl, h.b.grown hgr h.b.size (fun r e => by have := (hr r e).1; have := HS4.out; have := HZ2.out; omega), ⟨v, boxed_grown h1 hgr hr', own_keep' h2 (fun b cur _ hb => hgr.block b (Array.getElem?_eq_some_iff.1 hb).1 (fun e => ?_))⟩, boxed_grown h.r2 hgr hr'⟩
    obtain ⟨o, ho, hc⟩ := hr' b e.symm
    rw [hb] at ho
    cases ho
    cases hc
  case hassign =>
    intro l dv X K hK
    unfold svAct at hK
    gi_wp2
    exact hK
  case hbody =>
    rintro l k st d g X dv hl hr h hgw ho hod
    obtain ⟨hop, -⟩ := proL_ok hod
    have hd4 := HD.out
    have hpl := hop.len
    have hs4 := HS4.out
    have hz := h.z
    have h1 := HT.out.size
    have q0 := h.n.cell
    have f0 := h.n.frozen
    have hc := h.c
    have hh := h.h
    rw [remV_node hod] at hc hh
    have hkb : k ≤ 2591 := by have := HNL.out; omega
    obtain ⟨va, vn, vc, ev⟩ := own_slice ho
    obtain ⟨X1, hX1⟩ : ∃ X1, X.setCell ⟨Bn, 0, none⟩ (.int .i64 ((k : Int) + 1)) = X1 := ⟨_, rfl⟩
    have ho1 : X1.ownsRow (W4.heap.size + 2) 3 1 dv (proL m.cons d).length ((proL m.cons d).map (Value.int .i64)) := by
      rw [← hX1]
      exact own_keep' ho (fun b cur hb _ => Below.heap_setCell _ _ _ _ (by show b ≠ Bn; have := (ho.lt b hb).1; omega))
    have set1 : ∀ b, b ≠ Bn → X1.heap[b]? = X.heap[b]? := fun b hb => by rw [← hX1]; exact Below.heap_setCell _ _ _ _ (by show b ≠ Bn; exact hb)
    have hT1 : Tab64 X1 := h.t.keep (set1 1 (by omega))
    have hn1 : Boxed X1 Bn 3 (.int .i64 ((k + 1 : Nat) : Int)) := by
      rw [← hX1, show ((k + 1 : Nat) : Int) = (k : Int) + 1 from by omega]
      exact h.n.set _
    have hb1 : Below w.heap.size w X1 := by rw [← hX1]; exact h.b.setCell (p := ⟨Bn, 0, none⟩) (by show w.heap.size ≤ Bn; omega) _
    have hr11 : Boxed X1 (w.heap.size + 1) 22 (.slice none 0 0) := (set1 _ (by omega)).trans h.r1
    have hr21 : Boxed X1 (w.heap.size + 1 + 1) 3 (.int .i64 0) := (set1 _ (by omega)).trans h.r2
    have hm1 : Blk2 X1 (Bn + 1 + 1) 31 (.slice a1 m.doms.length c1) (.slice a2 m.cons.length c2) := (set1 _ (by omega)).trans h.mm
    have hf1 : Boxed X1 (Bn + 1 + 1 + 1) 53 (.func (.func 69) #[] #[]) := (set1 _ (by omega)).trans h.f
    have hk1 : KeepsFrom W4.heap.size X X1 := ⟨by rw [← hX1]; simp, fun b o hb h1 h2 => (set1 b (by omega)).trans h1⟩
    have hv1 : KpV (W4.heap.size + 2) g X X1 := ⟨by rw [← hX1]; simp, fun b cur t fr hb _ _ => set1 b (by omega)⟩
    have HOT := Lib.hid (onlyTuple_any dv (proL m.cons d) X1 (rdInts_of_own ho1) hop.small (by omega) (by omega) hT1)
    have HG := Lib.hid h.g
    have HZ := Lib.hid h.z
    have HX1 := Lib.hid hX1
    have HALL := Lib.hid (And.intro hb1 (And.intro hr11 (And.intro hr21 (And.intro hn1 (And.intro hm1 (And.intro hf1 (And.intro hT1 (And.intro hk1 hv1))))))))
    have HPU := Lib.hid (And.intro hc hh)
    have HOD := Lib.hid hod
    have HGW := Lib.hid hgw
    subst ev
    clear h hop hd4 hpl hs4 hz h1 hc hh ho1 set1 hT1 hn1 hb1 hr11 hr21 hm1 hf1 hk1 hv1 hX1 ho hod hgw hr hl
    unfold svAct
    gi_wp2_with fail
    refine ⟨trivial, ?_⟩
    gi_at_call 45
    rw [HX1.out]
    refine (CallsIn.inRound _ (callsIn_wide.2 HOT.out)).mono ?_
    rintro e X2 ⟨v2, bb, rfl, b2, hcase⟩
    obtain ⟨hb1, hr11, hr21, hn1, hm1, hf1, hT1, hk1, hv1⟩ := HALL.out
    obtain ⟨hc, hh⟩ := HPU.out
    have hs4 := HS4.out
    have hz := HZ.out
    rcases hcase with ⟨ho, rfl, rfl⟩ | ⟨x, ho, hxl, rfl, hown⟩
    · have hfin : SvSt m w Bn (.slice a1 m.doms.length c1) (.slice a2 m.cons.length c2) (k + 1) (st ++ (kids (proL m.cons d)).reverse) g X2 := by
        refine ⟨hb1.trans (b2.mono hb1.size), (b2.block _ hr11.lt).trans hr11, (b2.block _ hr21.lt).trans hr21, (b2.block _ hn1.lt).trans hn1, hm1.below b2, (b2.block _ hf1.lt).trans hf1, hT1.below hT1.size b2, ?_, ?_, HG.out, hz⟩
        · rw [cutV, ho] at hc
          simp at hc
          omega
        · rw [List.filterMap_cons, ho] at hh
          exact hh
      have HFI := Lib.hid (And.intro hfin (And.intro (hk1.trans (KeepsFrom.of_below b2)) (hv1.trans (KpV.of_below b2))))
      clear hfin hb1 hr11 hr21 hn1 hm1 hf1 hT1 hk1 hv1 hc hh hs4 hz b2 ho HOT
      gi_wp2
      exact ⟨HFI.out.2.1, HFI.out.2.2, HFI.out.1⟩
    · have hkT : k + 1 = slvN m 1 := by
        rw [cutV, ho] at hc
        simp [cutV_zero] at hc
        exact hc
      have hxX : x = solX m := by
        rw [List.filterMap_cons, ho] at hh
        exact hh
      obtain ⟨xa, xn, xc, ex⟩ := own_slice hown
      subst ex
      have hX12 := b2.size
      have hr1l := hr11.lt
      have hr2l := hr21.lt
      have hnl := hn1.lt
      have hr12 : Boxed X2 (w.heap.size + 1) 22 (.slice none 0 0) := (b2.block _ hr1l).trans hr11
      have hr22 : Boxed X2 (w.heap.size + 1 + 1) 3 (.int .i64 0) := (b2.block _ hr2l).trans hr21
      have hn2 : Boxed X2 Bn 3 (.int .i64 ((k + 1 : Nat) : Int)) := (b2.block _ hnl).trans hn1
      have hb2 : Below w.heap.size w X2 := hb1.trans (b2.mono hb1.size)
      have hk2 := hk1.trans (KeepsFrom.of_below (B := W4.heap.size) b2)
      have hxb : ∀ b, (Value.slice xa xn xc).ownBlock = some b → X1.heap.size ≤ b := fun b hb => (hown.lt b hb).1
      have HKT := Lib.hid hkT
      have HXX := Lib.hid hxX
      have HOW := Lib.hid hown
      have HA2 := Lib.hid (And.intro hr12 (And.intro hr22 (And.intro hn2 (And.intro hb2 (And.intro hk2 (And.intro hxb (And.intro hX12 (And.intro hr1l (And.intro hr2l hnl)))))))))
      clear hb1 hr11 hr21 hn1 hm1 hf1 hT1 hk1 hv1 hc hh hs4 hz b2 ho HOT hkT hxX hxl hr12 hr22 hn2 hb2 hk2 hxb hX12 hr1l hr2l hnl hown
      gi_wp2
      refine region_round_x (fun w' => Boxed w' Bn 3 (.int .i64 ((k + 1 : Nat) : Int))) (fun _ => false) (by kernel_rfl) (by kernel_rfl) ?_ ?_
      · rintro ⟨a, w', h⟩
        exact h
      obtain ⟨hr12, hr22, hn2, hb2, hk2, hxb, hX12, hr1l, hr2l, hnl⟩ := HA2.out
      have hz := HZ.out
      have hs4 := HS4.out
      have hS : Boxed X2.drew Bn 3 (.int .i64 ((k + 1 : Nat) : Int)) := hn2
      refine wpAnyX_take (i := 0) (v := .slice xa xn xc) rfl (by kernel_rfl) (by kernel_rfl) (by kernel_rfl) (by kernel_rfl) (fun _ _ _ h => h) (.inl ⟨rfl, fun w' hw' => rfl⟩) hS ?_
      refine wpAnyX_take (i := 1) (v := .int .i64 ((k + 1 : Nat) : Int)) rfl (by kernel_rfl) (by kernel_rfl) (by kernel_rfl) (by kernel_rfl) (fun _ _ _ h => h) (.inl ⟨rfl, fun w' hw' => exec_load rfl rfl (load_int w' _ _ _ hw'.cell)⟩) hS ?_
      change wpAnyX Tryz.prog .any _ _ _ _ 2 _ (svAct w.heap.size Bn (.slice a1 m.doms.length c1) (.slice a2 m.cons.length c2) (.slice va vn vc) (.slice xa xn xc) (.bool true) (.int .i64 k) (.int .i64 ((k : Int) + 1)) (.tuple #[.slice xa xn xc, .bool true]) (.slice va vn vc) (.tuple #[.slice xa xn xc, .bool true]) (.slice xa xn xc) (.bool true) (.bool true) (.slice xa xn xc) (.int .i64 ((k + 1 : Nat) : Int))) X2.drew
      have j1 : Boxed X2.drew (w.heap.size + 1) 22 (.slice none 0 0) := hr12
      have j2 : Boxed X2.drew (w.heap.size + 1 + 1) 3 (.int .i64 0) := hr22
      have l1 := j1.set (.slice xa xn xc)
      have l2 := j2.other (B' := w.heap.size + 1) (by omega) (.slice xa xn xc)
      have l3 := hS.other (B' := w.heap.size + 1) (by omega) (.slice xa xn xc)
      refine wpAnyX_one (i := 2) (by kernel_rfl) rfl (fun K' hK' => ?_)
      refine step_skip _ (X2.drew.setCell ⟨w.heap.size + 1, 0, none⟩ (.slice xa xn xc)) rfl (exec_store rfl rfl rfl (store_intsB _ _ _ _ _ _ j1.cell j1.frozen)) ?_
      refine hK'.out _ _ (fun _ => l3) ?_
      clear hK' K'
      change wpAnyX Tryz.prog .any _ _ _ _ 1 _ (svAct w.heap.size Bn (.slice a1 m.doms.length c1) (.slice a2 m.cons.length c2) (.slice va vn vc) (.slice xa xn xc) (.bool true) (.int .i64 k) (.int .i64 ((k : Int) + 1)) (.tuple #[.slice xa xn xc, .bool true]) (.slice va vn vc) (.tuple #[.slice xa xn xc, .bool true]) (.slice xa xn xc) (.bool true) (.bool true) (.slice xa xn xc) (.int .i64 ((k + 1 : Nat) : Int))) (X2.drew.setCell ⟨w.heap.size + 1, 0, none⟩ (.slice xa xn xc))
      refine wpAnyX_one (i := 3) (by kernel_rfl) rfl (fun K' hK' => ?_)
      refine step_skip _ ((X2.drew.setCell ⟨w.heap.size + 1, 0, none⟩ (.slice xa xn xc)).setCell ⟨w.heap.size + 1 + 1, 0, none⟩ (.int .i64 ((k + 1 : Nat) : Int))) rfl (exec_store rfl rfl rfl (store_int _ _ _ _ _ l2.cell l2.frozen)) ?_
      refine hK'.out _ _ (fun _ => l3.other (B' := w.heap.size + 1 + 1) (by omega) _) ?_
      clear hK' K'
      refine wpAnyX_done (by kernel_rfl) ?_ _
      have two : ∀ b, b ≠ w.heap.size + 1 → b ≠ w.heap.size + 1 + 1 → ((X2.drew.setCell ⟨w.heap.size + 1, 0, none⟩ (.slice xa xn xc)).setCell ⟨w.heap.size + 1 + 1, 0, none⟩ (.int .i64 ((k + 1 : Nat) : Int))).heap[b]? = X2.heap[b]? := fun b h1 h2 => (Below.heap_setCell _ _ _ _ (by show b ≠ w.heap.size + 1 + 1; exact h2)).trans (Below.heap_setCell _ _ _ _ (by show b ≠ w.heap.size + 1; exact h1))
      have hex : SvEx m w ((X2.drew.setCell ⟨w.heap.size + 1, 0, none⟩ (.slice xa xn xc)).setCell ⟨w.heap.size + 1 + 1, 0, none⟩ (.int .i64 ((k + 1 : Nat) : Int))) := by
        refine ⟨(hb2.drew.setCell (p := ⟨w.heap.size + 1, 0, none⟩) (by show w.heap.size ≤ w.heap.size + 1; omega) _).setCell (p := ⟨w.heap.size + 1 + 1, 0, none⟩) (by show w.heap.size ≤ w.heap.size + 1 + 1; omega) _, ⟨.slice xa xn xc, l1.other (B' := w.heap.size + 1 + 1) (by omega) _, ?_⟩, by rw [← HKT.out]; exact l2.set _⟩
        rw [← HXX.out]
        refine own_mono (own_keep' HOW.out (fun b cur hb _ => two b ?_ ?_)) (by omega)
        · have := hxb b hb; omega
        · have := hxb b hb; omega
      have hkk : KeepsFrom W4.heap.size X ((X2.drew.setCell ⟨w.heap.size + 1, 0, none⟩ (.slice xa xn xc)).setCell ⟨w.heap.size + 1 + 1, 0, none⟩ (.int .i64 ((k + 1 : Nat) : Int))) := hk2.trans ⟨by simp, fun b o hb h1 h2 => (two b (by omega) (by omega)).trans h1⟩
      have HEX := Lib.hid hex
      have HKK := Lib.hid hkk
      clear hex hkk two l1 l2 l3 j1 j2 hS hr12 hr22 hn2 hb2 hk2 hxb hX12 hr1l hr2l hnl hz hs4
      unfold svAct
      gi_wp2
      exact ⟨HKK.out, rfl, HEX.out⟩
  case hdone =>
    rintro D k g X hD h hK
    have hc := h.c
    have hh := h.h
    simp only [remV, List.reverse_nil, List.flatMap_nil, cutV_nil, List.length_nil, Nat.add_zero, List.filterMap_nil, List.headD_nil] at hc hh
    have HC := Lib.hid hc
    have HH := Lib.hid hh
    have HHH := Lib.hid h
    have HKD := Lib.hid hK
    have HDD := Lib.hid hD
    have q0 := h.n.cell
    have hz := h.z
    clear h hK hD hc hh
    have HZ := Lib.hid hz
    clear hz
    have q1 := HHH.out.r1.cell
    have q2 := HHH.out.r2.cell
    have f1 := HHH.out.r1.frozen
    have f2 := HHH.out.r2.frozen
    have n1 : ¬ (w.heap.size + 1 = Bn) := by have := HZ.out; omega
    gi_wp2
    refine wpIn_wide.2 ?_
    go_region
    all_goals
      clear q0 q1 q2 f1 f2 n1
      have h := HHH.out
      have hz := HZ.out
      obtain ⟨Y, hY⟩ : ∃ Y, ((X.setCell ⟨w.heap.size + 1, 0, none⟩ (.slice none 0 0)).setCell ⟨w.heap.size + 1 + 1, 0, none⟩ (.int .i64 (k : Nat))).drew = Y := ⟨_, rfl⟩
      have k1 : Boxed Y (w.heap.size + 1) 22 (.slice none 0 0) := by rw [← hY]; exact (h.r1.set (.slice none 0 0)).other (B' := w.heap.size + 1 + 1) (by omega) _
      have k2 : Boxed Y (w.heap.size + 1 + 1) 3 (.int .i64 (k : Nat)) := by rw [← hY]; exact (h.r2.other (B' := w.heap.size + 1) (by omega) (.slice none 0 0)).set _
      have kb : Below w.heap.size w Y := by rw [← hY]; exact ((h.b.setCell (p := ⟨w.heap.size + 1, 0, none⟩) (by show w.heap.size ≤ w.heap.size + 1; omega) _).setCell (p := ⟨w.heap.size + 1 + 1, 0, none⟩) (by show w.heap.size ≤ w.heap.size + 1 + 1; omega) _).drew
      have kD : Y.heap[D]? = some (.deferred (some [])) := by
        rw [← hY]
        have hdd := HDD.out
        have hs4 := HS4.out
        exact (Below.heap_setCell _ _ _ _ (by show D ≠ w.heap.size + 1 + 1; omega)).trans ((Below.heap_setCell _ _ _ _ (by show D ≠ w.heap.size + 1; omega)).trans HKD.out)
      rw [hY]
      have HK1 := Lib.hid (And.intro k1 (And.intro k2 kb))
      have HKY := Lib.hid kD
      clear k1 k2 kb kD h hz hY
      gi_wp2
      refine ⟨by simp, .inl ⟨_, _, rfl, run_takeDeferred HKY.out, ?_⟩⟩
      obtain ⟨k1, k2, kb⟩ := HK1.out
      have hg := fun o' => grownBy_putObj' Y D o'
      have hDn : ∀ r, some D = some r → ∃ o : Obj, Y.heap[r]? = some o ∧ o.isCells = false := fun r e => by cases e; exact ⟨_, HKY.out, rfl⟩
      refine ⟨_, solve_res _ w.heap.size _ _ _ _ _ rfl rfl (boxed_grown k1 (hg _) hDn).cell (boxed_grown k2 (hg _) hDn).cell, .slice none 0 0, by rw [HN.out, HC.out], by rw [← HH.out]; exact World.ownsRow_nil _ _ _ _, kb.grown (hg _) kb.size (fun r e => by cases e; have := HDD.out; have := HS4.out; have := HZ2.out; omega)⟩
  case hstop =>
    rintro D c X hD ⟨rfl, h⟩ hK
    obtain ⟨v, k1, k2⟩ := h.r1
    obtain ⟨xa, xn, xc, ex⟩ := own_slice k2
    subst ex
    have HH := Lib.hid (And.intro h.b (And.intro k1 (And.intro k2 h.r2)))
    have HKD := Lib.hid hK
    have HDD := Lib.hid hD
    clear h k1 k2 hK hD
    gi_wp2
    refine ⟨by simp, .inl ⟨_, _, rfl, run_takeDeferred HKD.out, ?_⟩⟩
    obtain ⟨hb, k1, k2, k3⟩ := HH.out
    have hg := fun o' => grownBy_putObj' X D o'
    have hDn : ∀ r, some D = some r → ∃ o : Obj, X.heap[r]? = some o ∧ o.isCells = false := fun r e => by cases e; exact ⟨_, HKD.out, rfl⟩
    refine ⟨_, solve_res _ w.heap.size _ _ _ _ _ rfl rfl (boxed_grown k1 (hg _) hDn).cell (boxed_grown k3 (hg _) hDn).cell, .slice xa xn xc, by rw [HN.out], own_keep' k2 (fun b cur _ hb' => (hg _).block b (Array.getElem?_eq_some_iff.1 hb').1 (fun e => ?_)), hb.grown (hg _) hb.size (fun r e => by cases e; have := HDD.out; have := HS4.out; have := HZ2.out; omega)⟩
    cases e
    rw [HKD.out] at hb'
    cases hb'

theorem vis_len {cs : List Con} {n : Nat} : ∀ (k : Nat) (d p : List Int), OkD cs n d → p ∈ visF cs k d → p.length = n
  | 0, d, p, _, h => by simp [visF] at h
  | k + 1, d, p, ho, h => by
    rw [visF] at h
    rcases List.mem_cons.1 h with rfl | h
    · exact (proL_ok ho).1.len
    · obtain ⟨d', hd', hp⟩ := List.mem_flatMap.1 h
      exact vis_len k d' p (kid_ok (proL_ok ho).1 hd').1 hp
theorem oneT_len {p x : List Int} (h : oneT p = some x) : x.length = p.length := by
  unfold oneT at h
  split at h
  · obtain rfl := Option.some.inj h; simp
  · cases h
theorem sol_len {cs : List Con} {n : Nat} {d x : List Int} (h : OkD cs n d) (hx : x ∈ solL cs d) : x.length = n := by
  obtain ⟨p, hp, ho⟩ := List.mem_filterMap.1 hx
  rw [oneT_len ho]
  exact vis_len _ d p h hp
theorem solX_le (m : Mod) : (solX m).length ≤ 1048576 := by
  unfold solX
  cases hv : vmB m
  · simp
  · cases hs : solL m.cons m.doms with
    | nil => simp
    | cons x xs =>
      have := sol_len (okD_mod hv) (show x ∈ solL m.cons m.doms by rw [hs]; simp)
      have := (doms_small' hv).2.1
      simp
      omega
end Go.Proofs.YtnkbcciigdjcnaaGreatDoor
