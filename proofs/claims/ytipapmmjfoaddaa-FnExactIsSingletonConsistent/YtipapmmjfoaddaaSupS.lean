/- The reference's filtering. The reference's Filter. The reference's IsConsistent. The program's propagator of a constraint. -/
import Derived.Test.YtipapmmjfoaddaaTup
import Derived.Deep.RegionHeld3

/-! The reference's filtering. -/
namespace Go.Proofs.Ytipapmmjfoaddaa
open Go.ChangeShapes Go.WideShapes Go.ChangeAt Go.RowKit
set_option linter.unusedVariables false
set_option linter.unusedSimpArgs false

set_option maxRecDepth 100000 in
set_option maxHeartbeats 2000000 in
theorem scopyInts_any (v : Value) (xs : List Int) (w : World) (h : RdInts w v xs) (h0 : 1 ≤ xs.length) (hx : xs.length ≤ 1048576) :
    Calls Try.prog 54 #[v] w (IntsPost xs w) := by
  obtain ⟨a, cap, rfl, hl, hm, hx3⟩ := h
  obtain ⟨b, off, rfl, hcell⟩ : ∃ b off, a = some ⟨b, off, none⟩ ∧ ∀ i, i < xs.length → w.cell? ⟨b, off + i, none⟩ = some (.int .i64 (xs[i]?.getD 0)) := by
    rcases hx3 with h | h
    · omega
    · exact h
  have HC := Lib.hid hcell
  obtain ⟨n, hn⟩ : ∃ n, n = xs.length := ⟨_, rfl⟩
  have HN := Lib.hid hn
  rw [← hn] at hl h0 hx ⊢
  unfold maxLen at hm
  clear hcell hx3 hn
  obtain ⟨i0, hi, hz0, hz1, hz2⟩ := info_parts Try.info3
  have hmade := ownsRow_made w 3
  go_enter Try.func54, Try.ntmps54
  go_wp2_with (at_builtin; refine wpList_append_own _ rfl _ _ 22 rfl w.heap.size 3 i0 (.int .i64 0) 1 8 Try.underlying22 hi hz0 hz1 hz2 rfl (by decide) _ 0 [] rfl hmade ⟨b, off, none⟩ n cap (xs.map (Value.int .i64)) rfl (by rw [List.length_map, HN.out]; omega) (fun j u hu => ?_) (fun u hu => ?_) (by unfold maxLen; omega) (by omega) (by simp) ?_)
  · have hj : j < xs.length := by have := (List.getElem?_eq_some_iff.1 hu).1; simpa using this
    have hb := World.block_lt_of_cell? w _ (HC.out j hj)
    rw [addr_add, World.cell?_alloc_old _ _ _ (by show b ≠ w.heap.size; exact Nat.ne_of_lt hb), HC.out j hj]
    rw [List.getElem?_map, List.getElem?_eq_getElem hj] at hu
    rw [List.getElem?_eq_getElem hj]
    simpa using hu
  · obtain ⟨x, _, rfl⟩ := List.mem_map.1 hu
    rfl
  · intro v' w' hown hgrow _
    have hb : Below w.heap.size w w' := ((Below.refl _ w).alloc (Nat.le_refl _) _).grown hgrow (by simp) (fun q e => by simp [Value.ownBlock] at e; omega)
    have HO := Lib.hid (show w'.ownsRow w.heap.size 3 1 v' xs.length (xs.map (Value.int .i64)) by rw [← HN.out]; simpa using hown)
    have HB := Lib.hid hb
    clear hown hgrow hb
    go_wp2
    go_ret
    exact ⟨_, rfl, HO.out, HB.out⟩

theorem own_lt {w : World} {B g n c : Nat} {e : TypeId} {k : Nat} {xs : List Value} (h : w.ownsRow B e k (.slice (some ⟨g, 0, none⟩) n c) n xs) : g < w.heap.size := by
  rcases h.2 with ⟨e, _⟩ | ⟨g', cap, cur, e, _, hg, _⟩
  · cases e
  · simp at e; obtain ⟨rfl, rfl⟩ := e; exact (Array.getElem?_eq_some_iff.1 hg).1

theorem EnSt.setO {w0 : World} {c : Con} {ds : List Int} {E bx bs n : Nat} {a2 a3 a5 da : Option Addr} {c2 c3 c5 dc : Nat} {xs acc : List Int} {W : World} (h : EnSt w0 c ds E bx bs n a2 a3 a5 da c2 c3 c5 dc xs acc W) {g : Nat} (h1 : w0.heap.size ≤ g) (h2 : g ≠ bx) (h3 : g ≠ bs) (h4 : g ≠ E) (j : Nat) (v : Value) : EnSt w0 c ds E bx bs n a2 a3 a5 da c2 c3 c5 dc xs acc (W.setCell ⟨g, j, none⟩ v) :=
  ⟨h.b.setCell (p := ⟨g, j, none⟩) h1 _, (Below.heap_setCell _ _ _ E (Ne.symm h4)).trans h.e, h.x.kept (grown_setCell W g j _) (.inr (by simp [Value.ownBlock]; exact fun e => h2 e.symm)), h.s.kept (grown_setCell W g j _) (.inr (by simp [Value.ownBlock]; exact fun e => h3 e.symm))⟩
/-- The enumerator behind its making. -/
theorem enSt_new {w0 wB : World} {c : Con} {ds : List Int} {bx bs n : Nat} {a2 a3 a5 da : Option Addr} {c2 c3 c5 dc : Nat} (hb : Below w0.heap.size w0 wB) (hx : wB.ownsRow w0.heap.size 3 1 (.slice (some ⟨bx, 0, none⟩) n n) n ((List.replicate n 0).map (Value.int .i64))) (hs : wB.ownsRow w0.heap.size 3 1 (.slice (some ⟨bs, 0, none⟩) n n) n ((List.replicate n 0).map (Value.int .i64))) :
    EnSt w0 c ds wB.heap.size bx bs n a2 a3 a5 da c2 c3 c5 dc (List.replicate n 0) (List.replicate n 0) (wB.alloc (.cells #[.int .i64 c.kind, .slice a2 n c2, .slice a3 c.args.length c3, .int .i64 c.bound, .slice a5 c.rows.length c5, .slice da ds.length dc, .slice (some ⟨bx, 0, none⟩) n n, .slice (some ⟨bs, 0, none⟩) n n] 124)) :=
  ⟨hb.alloc hb.size _, World.alloc_heap_new wB _, hx.alloc _, hs.alloc _⟩

set_option maxRecDepth 100000 in
set_option maxHeartbeats 4000000 in
theorem ssupported_any (c : Con) (cv dv : Value) (ds : List Int) (w : World) (hrc : RdCon w cv c) (hds : RdInts w dv ds) (hk : kindB c = true) (h1 : 1 ≤ c.vars.length) (h4 : c.vars.length ≤ 4)
    (hvs : Small c.vars 0 (ds.length - 1)) (hd : Small ds 0 63) (hdl : 1 ≤ ds.length) (hdl4 : ds.length ≤ 4) :
    Calls Try.prog 80 #[cv, dv] w (IntsPost (filL c ds) w) := by
  obtain ⟨a2, a3, a5, c2, c3, c5, rfl, h2, -⟩ := rdCon_slices hrc
  obtain ⟨da, dc, ev, -⟩ := id hds
  rw [ev] at hds ⊢
  obtain ⟨n, hn⟩ : ∃ n, n = c.vars.length := ⟨_, rfl⟩
  rw [← hn] at hrc h2 h1 h4 ⊢
  obtain ⟨W1, hW1⟩ : ∃ W1, w.alloc (.cells #[.int .i64 c.kind, .slice a2 n c2, .slice a3 c.args.length c3, .int .i64 c.bound, .slice a5 c.rows.length c5] 82) = W1 := ⟨_, rfl⟩
  have B1 : Below w.heap.size w W1 := by rw [← hW1]; exact (Below.refl _ _).alloc (Nat.le_refl _) _
  have bP : Blk5 W1 w.heap.size 82 (.int .i64 c.kind) (.slice a2 n c2) (.slice a3 c.args.length c3) (.int .i64 c.bound) (.slice a5 c.rows.length c5) := by rw [← hW1]; exact Blk5.new w _ _ _ _ _ _
  obtain ⟨i0, hi, hz0, hz1, hz2⟩ := info_parts Try.info3
  obtain ⟨wA, hA, oA, gA⟩ := run_make_full (P := Try.prog) W1.drew W1.heap.size 22 3 i0 (.int .i64 0) 1 Try.underlying22 hi hz0 hz1 .i64 .i64 n (by rw [hz2]; omega) (by unfold maxLen; omega) (Nat.le_refl _)
  obtain ⟨wB, hB, oB, gB⟩ := run_make_full (P := Try.prog) wA W1.heap.size 22 3 i0 (.int .i64 0) 1 Try.underlying22 hi hz0 hz1 .i64 .i64 n (by rw [hz2]; omega) (by unfold maxLen; omega) gA.size
  rw [madeInts] at oA oB
  have bA : Below W1.heap.size W1 wA := (show Below W1.heap.size W1 W1.drew from (Below.refl _ _).drew).trans (below_of_grown gA)
  have bB : Below wA.heap.size wA wB := below_of_grown gB
  have bAB : Below W1.heap.size W1 wB := bA.trans (bB.mono bA.size)
  have lA : W1.heap.size < wA.heap.size := own_lt oA
  have lB : wA.heap.size < wB.heap.size := own_lt oB
  have oA' := own_below oA bB
  have pA := (bP.below bA).cell
  have pB := (bP.below bAB).cell
  obtain ⟨p0, p1, p2, p3, p4⟩ := bP.cell
  obtain ⟨y0, y1, y2, y3, y4⟩ := pA
  obtain ⟨z0, z1, z2, z3, z4⟩ := pB
  obtain ⟨gA0, hgA⟩ : ∃ g, g = W1.heap.size := ⟨_, rfl⟩
  obtain ⟨gB0, hgB⟩ : ∃ g, g = wA.heap.size := ⟨_, rfl⟩
  have hA2 : (Instr.makeSlice 22 (.int .i64 (n : Int)) (.int .i64 (n : Int))).run Try.prog W1.drew = .ok (.slice (some ⟨gA0, 0, none⟩) n n) wA := by rw [hgA]; exact hA
  rw [← hgB] at hB
  have HBw := Lib.hid (B1.trans (bAB.mono B1.size))
  have HW := Lib.hid hW1
  have HP := Lib.hid bP
  have HAB := Lib.hid bAB
  have HOA : Hid (wB.ownsRow W1.heap.size 3 1 (.slice (some ⟨gA0, 0, none⟩) n n) n ((List.replicate n 0).map (Value.int .i64))) := Lib.hid (by rw [hgA]; exact oA')
  have HOB : Hid (wB.ownsRow W1.heap.size 3 1 (.slice (some ⟨gB0, 0, none⟩) n n) n ((List.replicate n 0).map (Value.int .i64))) := Lib.hid (by rw [hgB]; exact oB)
  have HG := Lib.hid (And.intro hgA (And.intro hgB (And.intro lA lB)))
  have HB1 := Lib.hid B1
  have HNV := Lib.hid hn
  have HDS := Lib.hid hds
  have HRC := Lib.hid hrc
  have HV2 := Lib.hid h2
  have HVS := Lib.hid hvs
  have HD := Lib.hid hd
  have hcd := (rdInts_cap hds).2
  have hcv := (rdInts_cap h2).2
  clear hn hds hrc h2 hvs hd ev hA bA bB bAB lA lB oA oB oA' gA gB hgA hgB hW1 bP B1
  go_enter Try.func80, Try.ntmps80
  go_wp2
  rw [HW.out]
  go_region_held3 (fun w' => w'.cell? ⟨w.heap.size, 0, none⟩ = some (.int .i64 c.kind) ∧ w'.cell? ⟨w.heap.size, 1, none⟩ = some (.slice a2 n c2) ∧ w'.cell? ⟨w.heap.size, 2, none⟩ = some (.slice a3 c.args.length c3) ∧ w'.cell? ⟨w.heap.size, 3, none⟩ = some (.int .i64 c.bound) ∧ w'.cell? ⟨w.heap.size, 4, none⟩ = some (.slice a5 c.rows.length c5)) (first | go_keep | exact ⟨y0, y1, y2, y3, y4⟩ | exact ⟨z0, z1, z2, z3, z4⟩) (fail)
  · have HE : Hid (EnSt W1 c ds wB.heap.size gA0 gB0 n a2 a3 a5 da c2 c3 c5 dc (List.replicate n 0) (List.replicate n 0) (wB.alloc (.cells #[.int .i64 c.kind, .slice a2 n c2, .slice a3 c.args.length c3, .int .i64 c.bound, .slice a5 c.rows.length c5, .slice da ds.length dc, .slice (some ⟨gA0, 0, none⟩) n n, .slice (some ⟨gB0, 0, none⟩) n n] 124))) := Lib.hid (enSt_new HAB.out HOA.out HOB.out)
    have HN : Hid (W1.heap.size ≤ gA0 ∧ W1.heap.size ≤ gB0 ∧ gA0 ≠ gB0 ∧ gB0 ≠ wB.heap.size ∧ gA0 ≠ wB.heap.size ∧ gA0 < wB.heap.size ∧ gB0 < wB.heap.size) := Lib.hid (by have := HG.out; omega)
    have P3 := Lib.hid ((HP.out.below HAB.out).alloc (.cells #[.int .i64 c.kind, .slice a2 n c2, .slice a3 c.args.length c3, .int .i64 c.bound, .slice a5 c.rows.length c5, .slice da ds.length dc, .slice (some ⟨gA0, 0, none⟩) n n, .slice (some ⟨gB0, 0, none⟩) n n] 124))
    clear p0 p1 p2 p3 p4 y0 y1 y2 y3 y4 z0 z1 z2 z3 z4 hA2 hB
    obtain ⟨E, hE⟩ : ∃ E, E = wB.heap.size := ⟨_, rfl⟩
    obtain ⟨W3, hW3⟩ : ∃ W3, wB.alloc (.cells #[.int .i64 c.kind, .slice a2 n c2, .slice a3 c.args.length c3, .int .i64 c.bound, .slice a5 c.rows.length c5, .slice da ds.length dc, .slice (some ⟨gA0, 0, none⟩) n n, .slice (some ⟨gB0, 0, none⟩) n n] 124) = W3 := ⟨_, rfl⟩
    have hE3 : E < W3.heap.size := by rw [← hW3, hE]; simp
    rw [hW3] at HE P3 ⊢
    rw [← hE] at HE HN ⊢
    have HE3 := Lib.hid hE3
    clear hE hW3 hE3
    have hcall := walk_any (HRC.out.below HB1.out) (HDS.out.below HB1.out) hk HNV.out h1 h4 HVS.out HD.out HN.out.1 HN.out.2.1 HN.out.2.2.1 HN.out.2.2.2.1 HN.out.2.2.2.2.1 c.vars 0 _ _ W3 rfl (Nat.zero_le _) HE.out (by intro j hj; simp at hj) (by intro j hj; simp at hj; simp [hj])
    have HCALL := Lib.hid hcall
    clear hcall
    go_wp2_with fail
    refine HCALL.out.mono ?_
    rintro e w4 ⟨⟨ve, rfl⟩, xs4, -, st4, sm4⟩
    rw [show supP c ds ((List.replicate n 0).take 0) c.vars (List.replicate n 0) = supL c ds from by unfold supL; rw [← HNV.out]; rfl] at st4
    have HS4 := Lib.hid st4
    have HL4 : Hid (gA0 < w4.heap.size ∧ gB0 < w4.heap.size ∧ E < w4.heap.size ∧ W1.heap.size ≤ w4.heap.size) := Lib.hid ⟨own_lt st4.x, own_lt st4.s, (Array.getElem?_eq_some_iff.1 st4.e).1, st4.b.size⟩
    clear st4 sm4 HCALL HE P3
    go_wp2_with fail
    refine (scopyInts_any _ ds w4 ((HDS.out.below HB1.out).below HS4.out.b) hdl (by omega)).mono ?_
    rintro e w5 ⟨v5, rfl, o5, b5⟩
    obtain ⟨m, hm⟩ : ∃ m, m = ds.length := ⟨_, rfl⟩
    obtain ⟨g5, c5', ev5⟩ : ∃ g c', v5 = .slice (some ⟨g, 0, none⟩) m c' := by
      rcases o5.2 with ⟨_, h0⟩ | ⟨g, cap, _, e, _⟩
      · omega
      · exact ⟨g, cap, by rw [hm]; exact e⟩
    subst ev5
    rw [← hm] at o5
    have HG5 : Hid (W1.heap.size ≤ g5 ∧ g5 ≠ gA0 ∧ g5 ≠ gB0 ∧ g5 ≠ E) := Lib.hid (by
      have := (o5.lt g5 (by simp [Value.ownBlock])).1
      have := HL4.out
      omega)
    have HS5 := Lib.hid (HS4.out.below b5)
    have HO5 : Hid (w5.ownsRow w4.heap.size 3 1 (.slice (some ⟨g5, 0, none⟩) m c5') m ((putL c ds (supL c ds) 0).map (Value.int .i64))) := Lib.hid o5
    have HM := Lib.hid hm
    have HW4 : Hid (w.heap.size ≤ w4.heap.size) := Lib.hid (Nat.le_trans HB1.out.size HL4.out.2.2.2)
    clear o5 b5 HS4 hm
    obtain ⟨p0, p1, p2, p3, p4⟩ := (HP.out.below HS5.out.b).cell
    go_wp2
    clear p0 p1 p2 p3 p4
    go_loopw [7] (fun q wr => ∃ j : Nat, j ≤ n ∧ q = .int .i64 j ∧ Hid (EnSt W1 c ds E gA0 gB0 n a2 a3 a5 da c2 c3 c5 dc xs4 (supL c ds) wr) ∧ Hid (wr.ownsRow w4.heap.size 3 1 (.slice (some ⟨g5, 0, none⟩) m c5') m ((putL c ds (supL c ds) j).map (Value.int .i64)))) (fun q _ => n - (intOf q).toNat)
    case atStart => exact ⟨0, Nat.zero_le _, rfl, HS5, HO5⟩
    case round =>
      obtain ⟨j, hj, rfl, HST, HO⟩ := hrel
      obtain ⟨p0, p1, p2, p3, p4⟩ := (HP.out.below HST.out.b).cell
      by_cases hlt : j < n
      · obtain ⟨b, off, rfl, q1⟩ := rdInts_at ((HV2.out.below HB1.out).below HST.out.b) hlt
        have hv1 := HVS.out j (by have := HNV.out; omega)
        obtain ⟨z, hz⟩ : ∃ z : Nat, c.vars[j]?.getD 0 = (z : Int) := ⟨(c.vars[j]?.getD 0).toNat, by omega⟩
        have hzm : z < m := by have := HM.out; omega
        rw [hz] at q1
        have HPU : Hid (putL c ds (supL c ds) (j + 1) = (putL c ds (supL c ds) j).set z ((supL c ds)[j]?.getD 0)) := Lib.hid (by rw [putL, hz]; rfl)
        obtain ⟨e0, e1, e2, e3, e4, e5, e6, e7⟩ := HST.out.cell
        obtain ⟨s0, fs⟩ := HST.out.scell hlt
        obtain ⟨y, hy⟩ : ∃ y, y = (supL c ds)[j]?.getD 0 := ⟨_, rfl⟩
        rw [← hy] at s0 HPU
        have hoc := HO.out.cellAt z (by simpa using hzm)
        have hof := HO.out.frozenAt z
        obtain ⟨y0, hy0⟩ : ∃ y0, (putL c ds (supL c ds) j)[z]? = some y0 := ⟨_, List.getElem?_eq_getElem (by rw [putL_length]; have := HM.out; omega)⟩
        rw [List.getElem?_map, hy0] at hoc
        simp only [Option.map_some] at hoc
        clear hv1 hz hy hy0 e0 e1 e2 e3 e4 e5 e6
        go_wp2_with fail
        go_region
        all_goals have S2 := Lib.hid (HST.out.drew.setO HG5.out.1 HG5.out.2.1 HG5.out.2.2.1 HG5.out.2.2.2 z (.int .i64 y))
        all_goals have O2 : Hid ((wr.drew.setCell ⟨g5, z, none⟩ (.int .i64 y)).ownsRow w4.heap.size 3 1 (.slice (some ⟨g5, 0, none⟩) m c5') m ((putL c ds (supL c ds) (j + 1)).map (Value.int .i64))) := Lib.hid (by rw [HPU.out, List.map_set]; exact ((show wr.drew.ownsRow _ _ _ _ _ _ from HO.out).stored z (.int .i64 y)).1)
        all_goals clear p0 p1 p2 p3 p4 q1 e7 s0 fs hoc hof
        all_goals go_wp2
        all_goals go_roundw
        all_goals first
          | exact ⟨j + 1, by omega, by go_num, S2, O2⟩
          | (simp [intOf]; omega)
      · obtain rfl : j = n := by omega
        have HFI : Hid (wr.ownsRow w.heap.size 3 1 (.slice (some ⟨g5, 0, none⟩) m c5') (filL c ds).length ((filL c ds).map (Value.int .i64))) := Lib.hid (by
          unfold filL
          rw [putL_length, ← HNV.out, ← HM.out]
          exact own_mono HO.out HW4.out)
        have HBF : Hid (Below w.heap.size w wr) := Lib.hid (HB1.out.trans (HST.out.b.mono HB1.out.size))
        clear p2 p3 p4
        go_wp2
        go_ret
        exact ⟨_, rfl, HFI.out, HBF.out⟩
  · have HE : Hid (EnSt W1 c ds wB.heap.size gB0 gA0 n a2 a3 a5 da c2 c3 c5 dc (List.replicate n 0) (List.replicate n 0) (wB.alloc (.cells #[.int .i64 c.kind, .slice a2 n c2, .slice a3 c.args.length c3, .int .i64 c.bound, .slice a5 c.rows.length c5, .slice da ds.length dc, .slice (some ⟨gB0, 0, none⟩) n n, .slice (some ⟨gA0, 0, none⟩) n n] 124))) := Lib.hid (enSt_new HAB.out HOB.out HOA.out)
    have HN : Hid (W1.heap.size ≤ gB0 ∧ W1.heap.size ≤ gA0 ∧ gB0 ≠ gA0 ∧ gA0 ≠ wB.heap.size ∧ gB0 ≠ wB.heap.size ∧ gB0 < wB.heap.size ∧ gA0 < wB.heap.size) := Lib.hid (by have := HG.out; omega)
    have P3 := Lib.hid ((HP.out.below HAB.out).alloc (.cells #[.int .i64 c.kind, .slice a2 n c2, .slice a3 c.args.length c3, .int .i64 c.bound, .slice a5 c.rows.length c5, .slice da ds.length dc, .slice (some ⟨gB0, 0, none⟩) n n, .slice (some ⟨gA0, 0, none⟩) n n] 124))
    clear p0 p1 p2 p3 p4 y0 y1 y2 y3 y4 z0 z1 z2 z3 z4 hA2 hB
    obtain ⟨E, hE⟩ : ∃ E, E = wB.heap.size := ⟨_, rfl⟩
    obtain ⟨W3, hW3⟩ : ∃ W3, wB.alloc (.cells #[.int .i64 c.kind, .slice a2 n c2, .slice a3 c.args.length c3, .int .i64 c.bound, .slice a5 c.rows.length c5, .slice da ds.length dc, .slice (some ⟨gB0, 0, none⟩) n n, .slice (some ⟨gA0, 0, none⟩) n n] 124) = W3 := ⟨_, rfl⟩
    have hE3 : E < W3.heap.size := by rw [← hW3, hE]; simp
    rw [hW3] at HE P3 ⊢
    rw [← hE] at HE HN ⊢
    have HE3 := Lib.hid hE3
    clear hE hW3 hE3
    have hcall := walk_any (HRC.out.below HB1.out) (HDS.out.below HB1.out) hk HNV.out h1 h4 HVS.out HD.out HN.out.1 HN.out.2.1 HN.out.2.2.1 HN.out.2.2.2.1 HN.out.2.2.2.2.1 c.vars 0 _ _ W3 rfl (Nat.zero_le _) HE.out (by intro j hj; simp at hj) (by intro j hj; simp at hj; simp [hj])
    have HCALL := Lib.hid hcall
    clear hcall
    go_wp2_with fail
    refine HCALL.out.mono ?_
    rintro e w4 ⟨⟨ve, rfl⟩, xs4, -, st4, sm4⟩
    rw [show supP c ds ((List.replicate n 0).take 0) c.vars (List.replicate n 0) = supL c ds from by unfold supL; rw [← HNV.out]; rfl] at st4
    have HS4 := Lib.hid st4
    have HL4 : Hid (gB0 < w4.heap.size ∧ gA0 < w4.heap.size ∧ E < w4.heap.size ∧ W1.heap.size ≤ w4.heap.size) := Lib.hid ⟨own_lt st4.x, own_lt st4.s, (Array.getElem?_eq_some_iff.1 st4.e).1, st4.b.size⟩
    clear st4 sm4 HCALL HE P3
    go_wp2_with fail
    refine (scopyInts_any _ ds w4 ((HDS.out.below HB1.out).below HS4.out.b) hdl (by omega)).mono ?_
    rintro e w5 ⟨v5, rfl, o5, b5⟩
    obtain ⟨m, hm⟩ : ∃ m, m = ds.length := ⟨_, rfl⟩
    obtain ⟨g5, c5', ev5⟩ : ∃ g c', v5 = .slice (some ⟨g, 0, none⟩) m c' := by
      rcases o5.2 with ⟨_, h0⟩ | ⟨g, cap, _, e, _⟩
      · omega
      · exact ⟨g, cap, by rw [hm]; exact e⟩
    subst ev5
    rw [← hm] at o5
    have HG5 : Hid (W1.heap.size ≤ g5 ∧ g5 ≠ gB0 ∧ g5 ≠ gA0 ∧ g5 ≠ E) := Lib.hid (by
      have := (o5.lt g5 (by simp [Value.ownBlock])).1
      have := HL4.out
      omega)
    have HS5 := Lib.hid (HS4.out.below b5)
    have HO5 : Hid (w5.ownsRow w4.heap.size 3 1 (.slice (some ⟨g5, 0, none⟩) m c5') m ((putL c ds (supL c ds) 0).map (Value.int .i64))) := Lib.hid o5
    have HM := Lib.hid hm
    have HW4 : Hid (w.heap.size ≤ w4.heap.size) := Lib.hid (Nat.le_trans HB1.out.size HL4.out.2.2.2)
    clear o5 b5 HS4 hm
    obtain ⟨p0, p1, p2, p3, p4⟩ := (HP.out.below HS5.out.b).cell
    go_wp2
    clear p0 p1 p2 p3 p4
    go_loopw [7] (fun q wr => ∃ j : Nat, j ≤ n ∧ q = .int .i64 j ∧ Hid (EnSt W1 c ds E gB0 gA0 n a2 a3 a5 da c2 c3 c5 dc xs4 (supL c ds) wr) ∧ Hid (wr.ownsRow w4.heap.size 3 1 (.slice (some ⟨g5, 0, none⟩) m c5') m ((putL c ds (supL c ds) j).map (Value.int .i64)))) (fun q _ => n - (intOf q).toNat)
    case atStart => exact ⟨0, Nat.zero_le _, rfl, HS5, HO5⟩
    case round =>
      obtain ⟨j, hj, rfl, HST, HO⟩ := hrel
      obtain ⟨p0, p1, p2, p3, p4⟩ := (HP.out.below HST.out.b).cell
      by_cases hlt : j < n
      · obtain ⟨b, off, rfl, q1⟩ := rdInts_at ((HV2.out.below HB1.out).below HST.out.b) hlt
        have hv1 := HVS.out j (by have := HNV.out; omega)
        obtain ⟨z, hz⟩ : ∃ z : Nat, c.vars[j]?.getD 0 = (z : Int) := ⟨(c.vars[j]?.getD 0).toNat, by omega⟩
        have hzm : z < m := by have := HM.out; omega
        rw [hz] at q1
        have HPU : Hid (putL c ds (supL c ds) (j + 1) = (putL c ds (supL c ds) j).set z ((supL c ds)[j]?.getD 0)) := Lib.hid (by rw [putL, hz]; rfl)
        obtain ⟨e0, e1, e2, e3, e4, e5, e6, e7⟩ := HST.out.cell
        obtain ⟨s0, fs⟩ := HST.out.scell hlt
        obtain ⟨y, hy⟩ : ∃ y, y = (supL c ds)[j]?.getD 0 := ⟨_, rfl⟩
        rw [← hy] at s0 HPU
        have hoc := HO.out.cellAt z (by simpa using hzm)
        have hof := HO.out.frozenAt z
        obtain ⟨y0, hy0⟩ : ∃ y0, (putL c ds (supL c ds) j)[z]? = some y0 := ⟨_, List.getElem?_eq_getElem (by rw [putL_length]; have := HM.out; omega)⟩
        rw [List.getElem?_map, hy0] at hoc
        simp only [Option.map_some] at hoc
        clear hv1 hz hy hy0 e0 e1 e2 e3 e4 e5 e6
        go_wp2_with fail
        go_region
        all_goals have S2 := Lib.hid (HST.out.drew.setO HG5.out.1 HG5.out.2.1 HG5.out.2.2.1 HG5.out.2.2.2 z (.int .i64 y))
        all_goals have O2 : Hid ((wr.drew.setCell ⟨g5, z, none⟩ (.int .i64 y)).ownsRow w4.heap.size 3 1 (.slice (some ⟨g5, 0, none⟩) m c5') m ((putL c ds (supL c ds) (j + 1)).map (Value.int .i64))) := Lib.hid (by rw [HPU.out, List.map_set]; exact ((show wr.drew.ownsRow _ _ _ _ _ _ from HO.out).stored z (.int .i64 y)).1)
        all_goals clear p0 p1 p2 p3 p4 q1 e7 s0 fs hoc hof
        all_goals go_wp2
        all_goals go_roundw
        all_goals first
          | exact ⟨j + 1, by omega, by go_num, S2, O2⟩
          | (simp [intOf]; omega)
      · obtain rfl : j = n := by omega
        have HFI : Hid (wr.ownsRow w.heap.size 3 1 (.slice (some ⟨g5, 0, none⟩) m c5') (filL c ds).length ((filL c ds).map (Value.int .i64))) := Lib.hid (by
          unfold filL
          rw [putL_length, ← HNV.out, ← HM.out]
          exact own_mono HO.out HW4.out)
        have HBF : Hid (Below w.heap.size w wr) := Lib.hid (HB1.out.trans (HST.out.b.mono HB1.out.size))
        clear p2 p3 p4
        go_wp2
        go_ret
        exact ⟨_, rfl, HFI.out, HBF.out⟩
end Go.Proofs.Ytipapmmjfoaddaa

/-! The reference's Filter. -/
namespace Go.Proofs.Ytipapmmjfoaddaa
open Go.ChangeShapes Go.WideShapes Go.ChangeAt Go.RowKit
set_option linter.unusedVariables false
set_option linter.unusedSimpArgs false

/-- Domains and a constraint that may be filtered. -/
def okB (c : Con) (ds : List Int) : Bool := (wiB ds.length 1 4 && allB ds 0 63) && vcB c ds.length
/-- What Filter returns. -/
def fltL (c : Con) (ds : List Int) : List Int := if okB c ds then filL c ds else []

theorem ok_parts {c : Con} {ds : List Int} (h : okB c ds = true) : 1 ≤ ds.length ∧ ds.length ≤ 4 ∧ Small ds 0 63 ∧ kindB c = true ∧ 1 ≤ c.vars.length ∧ c.vars.length ≤ 4 ∧ Small c.vars 0 (ds.length - 1) ∧ vcB c ds.length = true := by
  unfold okB at h
  simp only [Bool.and_eq_true] at h
  obtain ⟨⟨h1, h2⟩, h3⟩ := h
  have w1 := wiB_in h1
  have hv := h3
  unfold vcB at hv
  simp only [Bool.and_eq_true] at hv
  obtain ⟨⟨⟨e1, e2⟩, _⟩, e4⟩ := hv
  have w2 := wiB_in e1
  exact ⟨by omega, by omega, small_of h2, e4, by omega, by omega, small_of e2, h3⟩

end Go.Proofs.Ytipapmmjfoaddaa

/-! The reference's IsConsistent. -/
namespace Go.Proofs.Ytipapmmjfoaddaa
open Go.ChangeShapes Go.WideShapes Go.ChangeAt Go.RowKit
set_option linter.unusedVariables false
set_option linter.unusedSimpArgs false

/-- A domain is empty. -/
def emptyB (ds : List Int) : Bool := decide (0 ∈ ds)
/-- Filtering with any of the constraints changes nothing. -/
def consI (cs : List Con) (ds : List Int) : Bool := cs.all fun c => decide (filL c ds = ds)
theorem consI_true {cs : List Con} {ds : List Int} (h : ∀ (j : Nat) (c : Con), j < cs.length → cs[j]? = some c → filL c ds = ds) : consI cs ds = true := by
  unfold consI
  rw [List.all_eq_true]
  intro x hx
  obtain ⟨j, hj, rfl⟩ := List.mem_iff_getElem.1 hx
  exact decide_eq_true (h j _ hj (List.getElem?_eq_getElem hj))
theorem consI_false {cs : List Con} {ds : List Int} {j : Nat} {c : Con} (hc : cs[j]? = some c) (h : ¬ filL c ds = ds) : consI cs ds = false := by
  unfold consI
  rw [List.all_eq_false]
  exact ⟨c, List.mem_of_getElem? hc, by simp [h]⟩
/-- The constraint c may be filtered on n domains. -/
structure OkC (c : Con) (n : Nat) : Prop where
  kind : kindB c = true
  one : 1 ≤ c.vars.length
  four : c.vars.length ≤ 4
  vars : Small c.vars 0 ((n : Int) - 1)
  vc : vcB c n = true
theorem okC_of {c : Con} {n : Nat} (h : vcB c n = true) (h4 : n ≤ 4) : OkC c n := by
  have hv := h
  unfold vcB at hv
  simp only [Bool.and_eq_true] at hv
  obtain ⟨⟨⟨e1, e2⟩, _⟩, e4⟩ := hv
  have w2 := wiB_in e1
  exact ⟨e4, by omega, by omega, small_of e2, h⟩
theorem okC_mem {m : Mod} (hm : vmB m = true) {c : Con} (hc : c ∈ m.cons) : OkC c m.doms.length := by
  unfold vmB at hm
  simp only [Bool.and_eq_true] at hm
  obtain ⟨⟨⟨h1, _⟩, _⟩, h4⟩ := hm
  unfold consB at h4
  rw [List.all_eq_true] at h4
  have w1 := wiB_in h1
  exact okC_of (h4 c hc) (by omega)

theorem doms_small' {m : Mod} (hm : vmB m = true) : Small m.doms 0 63 ∧ m.doms.length ≤ 4 ∧ 1 ≤ m.doms.length ∧ m.cons.length ≤ 6 := by
  unfold vmB at hm
  simp only [Bool.and_eq_true] at hm
  obtain ⟨⟨⟨h1, h2⟩, h3⟩, h4⟩ := hm
  have := wiB_in h1
  exact ⟨small_of h2, by omega, by omega, of_decide_eq_true h3⟩

set_option maxRecDepth 100000 in
set_option maxHeartbeats 1000000 in
theorem shasEmpty_any (dv : Value) (ds : List Int) (w : World) (h : RdInts w dv ds) :
    Calls Try.prog 25 #[dv] w fun e w' => e = .returned (.bool (emptyB ds)) ∧ w = w' := by
  have HX := Lib.hid h
  obtain ⟨ax, cx, e2, -⟩ := id h
  rw [e2] at HX ⊢
  have hc := (rdInts_cap HX.out).2
  obtain ⟨n, hn⟩ : ∃ n, n = ds.length := ⟨_, rfl⟩
  rw [← hn] at HX hc ⊢
  have HN := Lib.hid hn
  clear e2 h hn
  go_enter Try.func25, Try.ntmps25
  go_wp2
  go_loop [3] (fun i => ∃ k : Nat, k ≤ n ∧ i = .int .i64 k ∧ Hid (∀ j, j < k → ds[j]?.getD 0 ≠ 0)) (fun i => n - (intOf i).toNat)
  case atStart => exact ⟨0, Nat.zero_le _, rfl, fun j hj => by omega⟩
  case round =>
    obtain ⟨k, hk, rfl, HE⟩ := hrel
    by_cases hlt : k < n
    · obtain ⟨b, off, rfl, q1⟩ := rdInts_at HX.out hlt
      obtain ⟨d, hd⟩ : ∃ d, d = ds[k]?.getD 0 := ⟨_, rfl⟩
      rw [← hd] at q1
      have HD := Lib.hid hd
      clear hd
      cases hw : (d == 0)
      · go_wp2
        go_round
        case rel => exact ⟨k + 1, by omega, by go_num, fun j hj => by by_cases e : j = k; (· subst e; rw [← HD.out]; simpa using hw); (· exact HE.out j (by omega))⟩
        case measure => simp [intOf]; omega
      · have HF : Hid (emptyB ds = true) := Lib.hid (by
          have hk' : k < ds.length := by have := HN.out; omega
          have hz : d = 0 := by simpa using hw
          have h1 := HD.out
          rw [List.getElem?_eq_getElem hk'] at h1
          unfold emptyB
          rw [decide_eq_true_iff, ← hz, h1]
          exact List.getElem_mem hk')
        go_wp2
        go_ret
        exact ⟨ret_bool HF.out.symm, rfl⟩
    · obtain rfl : k = n := by omega
      have HF : Hid (emptyB ds = false) := Lib.hid (by
        unfold emptyB
        rw [decide_eq_false_iff_not]
        intro hm
        obtain ⟨j, hj, he⟩ := List.mem_iff_getElem.1 hm
        refine HE.out j (by have := HN.out; omega) ?_
        rw [List.getElem?_eq_getElem hj]
        exact he)
      clear HE
      go_wp2
      go_ret
      exact ⟨ret_bool HF.out.symm, rfl⟩

set_option maxRecDepth 100000 in
set_option maxHeartbeats 1000000 in
theorem sequalInts_any (v1 v2 : Value) (xs ys : List Int) (w : World) (h1 : RdInts w v1 xs) (h2 : RdInts w v2 ys) :
    Calls Try.prog 99 #[v1, v2] w (EqPost xs ys w) := by
  obtain ⟨a1, c1, rfl, hl1, hm1, h1⟩ := h1
  obtain ⟨a2, c2, rfl, hl2, hm2, h2⟩ := h2
  unfold maxLen at hm1 hm2
  by_cases hl : xs.length = ys.length
  · have hne : ((xs.length : Int) != (ys.length : Int)) = false := by simp [hl]
    by_cases h0 : xs.length = 0
    · have hx : xs = [] := List.eq_nil_of_length_eq_zero h0
      have hy : ys = [] := List.eq_nil_of_length_eq_zero (by omega)
      subst hx hy
      clear h1 h2
      go_enter Try.func99, Try.ntmps99
      go_wp2
      go_loop [5] (fun i => i = .int .i64 0) (fun _ => 0)
      case atStart => rfl
      case round =>
        subst hrel
        go_wp2
        go_ret
        exact ⟨rfl, 0, rfl⟩
    · rcases h1 with h1 | ⟨b1, o1, rfl, g1⟩
      · omega
      rcases h2 with h2 | ⟨b2, o2, rfl, g2⟩
      · omega
      have HL := Lib.hid hl
      rw [← hl] at g2 hne ⊢
      obtain ⟨n, hn⟩ : ∃ n, n = xs.length := ⟨_, rfl⟩
      rw [← hn] at g1 g2 hne hl1 h0 ⊢
      have HN := Lib.hid hn
      clear hl hn
      go_enter Try.func99, Try.ntmps99
      go_wp2
      go_loopw [5] (fun i wr => ∃ k nq : Nat, k ≤ n ∧ i = .int .i64 k ∧ Hid (∀ j, j < k → xs[j]?.getD 0 = ys[j]?.getD 0) ∧ wr = w.drewN nq) (fun i _ => n - (intOf i).toNat)
      case atStart => exact ⟨0, 0, Nat.zero_le _, rfl, fun j hj => by omega, rfl⟩
      case round =>
        obtain ⟨k, nq, hk, rfl, HE, rfl⟩ := hrel
        by_cases hlt : k < n
        · have q1 := g1 k hlt
          have q2 := g2 k hlt
          clear g1 g2
          by_cases he : xs[k]?.getD 0 = ys[k]?.getD 0
          · have hb : (xs[k]?.getD 0 != ys[k]?.getD 0) = false := by simp [he]
            have HX := Lib.hid he
            clear he
            go_wp2_with fail
            go_quiet (fail)
            go_wp2
            go_roundw
            case rel => exact ⟨k + 1, _, by omega, by go_num, fun j hj => by by_cases e : j = k; (· subst e; exact HX.out); (· exact HE.out j (by omega)), rfl⟩
            case measure => simp [intOf]; omega
          · have hb : (xs[k]?.getD 0 != ys[k]?.getD 0) = true := by simp [he]
            go_wp2_with fail
            go_quiet (fail)
            go_wp2
            go_ret
            refine ⟨ret_bool (decide_eq_false (fun e => he (by rw [e]))).symm, ?_⟩
            rw [World.drewN_drewN]
            exact ⟨_, rfl⟩
        · obtain rfl : k = n := by omega
          have hfin : decide (xs = ys) = true := by rw [decide_eq_true_iff]; exact getD_ext HL.out (fun j hj => HE.out j (by have := HN.out; omega))
          have HF := Lib.hid hfin
          clear hfin g1 g2
          go_wp2
          go_ret
          exact ⟨ret_bool HF.out.symm, _, rfl⟩
  · have hne : ((xs.length : Int) != (ys.length : Int)) = true := by simp; omega
    clear h1 h2
    go_enter Try.func99, Try.ntmps99
    go_wp2
    go_ret
    exact ⟨ret_bool (decide_eq_false (fun e => hl (by rw [e]))).symm, 0, rfl⟩



set_option maxRecDepth 100000 in
set_option maxHeartbeats 4000000 in
theorem sisConsistent_any (m : Mod) (v dv : Value) (ds : List Int) (w : World) (h : RdModel w v m) (hd : RdInts w dv ds) (h1 : 1 ≤ ds.length) (h4 : ds.length ≤ 4) (hs : Small ds 0 63) (hok : ∀ c ∈ m.cons, OkC c ds.length) (hm6 : m.cons.length ≤ 6) :
    Calls Try.prog 79 #[v, dv] w (BoolPost (consI m.cons ds) w) := by
  obtain ⟨a1, a2, c1, c2, rfl, g1, g2⟩ := rdModel_slices h
  obtain ⟨ax, cx, ev, -⟩ := id hd
  rw [ev] at hd ⊢
  obtain ⟨W1, hW1⟩ : ∃ W1, w.alloc (.cells #[.slice a1 m.doms.length c1, .slice a2 m.cons.length c2] 30) = W1 := ⟨_, rfl⟩
  have B1 : Below w.heap.size w W1 := by rw [← hW1]; exact (Below.refl _ _).alloc (Nat.le_refl _) _
  have bP : Blk2 W1 w.heap.size 30 (.slice a1 m.doms.length c1) (.slice a2 m.cons.length c2) := by rw [← hW1]; exact Blk2.new w _ _ _
  have HD := Lib.hid (hd.below B1)
  have H2 := Lib.hid (g2.below B1)
  have HB1 := Lib.hid B1
  have HW := Lib.hid hW1
  have HP := Lib.hid bP
  have hcd := (rdInts_cap hd).2
  have hc2 := (rdCons_cap g2).2
  have HOK := Lib.hid hok
  obtain ⟨k2, hk2⟩ : ∃ k2, k2 = m.cons.length := ⟨_, rfl⟩
  rw [← hk2] at hc2 H2 HP hm6 HW ⊢
  have HN := Lib.hid hk2
  clear h hd g1 g2 hW1 B1 bP ev hok hk2
  obtain ⟨p0, p1⟩ := HP.out.cell
  go_enter Try.func79, Try.ntmps79
  go_wp2
  rw [HW.out]
  clear p0 p1
  go_loopw [5] (fun i wr => ∃ j : Nat, j ≤ k2 ∧ i = .int .i64 j ∧ Hid (∀ (q : Nat) (c : Con), q < j → m.cons[q]? = some c → filL c ds = ds) ∧ Hid (Below W1.heap.size W1 wr)) (fun i _ => k2 - (intOf i).toNat)
  case atStart => exact ⟨0, Nat.zero_le _, rfl, Lib.hid (fun q c hq => by omega), Lib.hid (Below.refl _ _)⟩
  case round =>
    obtain ⟨j, hj, rfl, HE, HBE⟩ := hrel
    obtain ⟨p0, p1⟩ := (HP.out.below HBE.out).cell
    by_cases hlt : j < k2
    · obtain ⟨b, off, c, x2, x3, x5, y2, y3, y5, rfl, hck, t0, t1, t2, t3, t4, hr⟩ := rdCons_at (H2.out.below HBE.out) hlt
      have hoc := HOK.out c (List.mem_of_getElem? hck)
      have HCK := Lib.hid hck
      have HC := Lib.hid (ssupported_any c _ _ ds wr hr (HD.out.below HBE.out) hoc.kind hoc.one hoc.four hoc.vars hs h1 h4)
      clear hoc hck hr
      go_wp2_with fail
      refine HC.out.mono ?_
      rintro e w3 ⟨v3, rfl, o3, b3⟩
      have HR3 := Lib.hid (rdInts_of_own o3)
      obtain ⟨a3, n3, c3, e3⟩ := own_slice o3
      rw [e3] at HR3 ⊢
      have HD3 := Lib.hid ((HD.out.below HBE.out).below b3)
      have HB3 := Lib.hid (HBE.out.trans (b3.mono HBE.out.size))
      clear o3 e3 b3 HC t0 t1 t2 t3 t4 p0 p1
      go_wp2_with fail
      refine (sequalInts_any _ _ _ ds w3 HR3.out HD3.out).mono ?_
      rintro e w4 ⟨rfl, kk, e4⟩
      have b4 : Below w3.heap.size w3 w4 := by rw [e4]; exact below_drewN' (Below.refl _ _) _
      have HB4 := Lib.hid (HB3.out.trans (b4.mono HB3.out.size))
      clear e4 b4 HR3 HD3
      by_cases he : filL c ds = ds
      · rw [decide_eq_true he]
        go_wp2
        go_roundw
        case rel => exact ⟨j + 1, by omega, by go_num, Lib.hid (fun q c' hq hc' => by by_cases e : q = j; (· subst e; rw [HCK.out] at hc'; obtain rfl := Option.some.inj hc'; exact he); (· exact HE.out q c' (by omega) hc')), HB4⟩
        case measure => simp [intOf]; omega
      · have HF : Hid (consI m.cons ds = false) := Lib.hid (consI_false HCK.out he)
        rw [decide_eq_false he]
        go_wp2
        go_ret
        exact ⟨ret_bool HF.out.symm, HB1.out.trans (HB4.out.mono HB1.out.size)⟩
    · obtain rfl : j = k2 := by omega
      have HF : Hid (consI m.cons ds = true) := Lib.hid (consI_true (fun q c hq hc => HE.out q c (by have := HN.out; omega) hc))
      clear HE
      go_wp2
      go_ret
      exact ⟨ret_bool HF.out.symm, HB1.out.trans (HBE.out.mono HB1.out.size)⟩

/-- What IsConsistent returns. -/
def isConB (m : Mod) : Bool := vmB m && !emptyB m.doms && consI m.cons m.doms

end Go.Proofs.Ytipapmmjfoaddaa

/-! The program's propagator of a constraint. -/
namespace Go.Proofs.Ytipapmmjfoaddaa
open Go.ChangeShapes Go.WideShapes Go.ChangeAt Go.RowKit
set_option linter.unusedVariables false
set_option linter.unusedSimpArgs false

/-- The rules' tests. -/
def isTest (F : Nat) : Prop := F = 101 ∨ F = 102 ∨ F = 103 ∨ F = 104 ∨ F = 105 ∨ F = 106 ∨ F = 107 ∨ F = 108 ∨ F = 109
/-- The rule that the program picks answers as the one test does, at every tuple. -/
theorem pick_all (c : Con) (hk : kindB c = true) : ∃ F : Nat, isTest F ∧
    (∀ (cv : Value) (w : World), RdCon w cv c → Calls Try.prog 85 #[cv] w (fun e w' => e = .returned (.func (.func F) #[cv] #[]) ∧ Below w.heap.size w w')) ∧
    ∀ (cv xv : Value) (x : List Int) (w : World), Fit c x → RdCon w cv c → RdInts w xv x → Calls Try.prog F #[cv, xv] w (BoolPost (satB c x) w) := by
  unfold satB isTest
  rcases kind_cases hk with ⟨k, e1, e2⟩ | ⟨k, e1, e2, e3⟩ | k | ⟨k, e1, e2⟩ | ⟨k, e1⟩ | ⟨k, e1⟩ | ⟨k, e1, e2, e3⟩ | ⟨k, e1, e2⟩ | k
  · exact ⟨_, .inl rfl, fun cv w h => test1 c cv w h k, fun cv xv x w' f h' hx => by rw [if_pos k]; exact isat1 c cv xv x w' h' hx (by have := f.len; omega) f.four e2 f.small⟩
  · exact ⟨_, .inr (.inl rfl), fun cv w h => test2 c cv w h k, fun cv xv x w' f h' hx => by rw [if_neg (by omega), if_pos k]; exact isat2 c cv xv x w' h' hx e2 (by have := f.len; omega) e3 f.small⟩
  · exact ⟨_, .inr (.inr (.inl rfl)), fun cv w h => test3 c cv w h k, fun cv xv x w' f h' hx => by rw [if_neg (by omega), if_neg (by omega), if_pos k]; exact isat3 c cv xv x w' h' hx f.all⟩
  · exact ⟨_, .inr (.inr (.inr (.inl rfl))), fun cv w h => test4 c cv w h k, fun cv xv x w' f h' hx => by rw [if_neg (by omega), if_neg (by omega), if_neg (by omega), if_pos k]; exact isat4 c cv xv x w' h' hx e2 (by have := f.len; omega) f.small⟩
  · exact ⟨_, .inr (.inr (.inr (.inr (.inl rfl)))), fun cv w h => test5 c cv w h k, fun cv xv x w' f h' hx => by rw [if_neg (by omega), if_neg (by omega), if_neg (by omega), if_neg (by omega), if_pos k]; exact isat5 c cv xv x w' h' hx⟩
  · exact ⟨_, .inr (.inr (.inr (.inr (.inr (.inl rfl))))), fun cv w h => test6 c cv w h k, fun cv xv x w' f h' hx => by rw [if_neg (by omega), if_neg (by omega), if_neg (by omega), if_neg (by omega), if_neg (by omega), if_pos k]; exact isat6 c cv xv x w' h' hx e1 f.four⟩
  · exact ⟨_, .inr (.inr (.inr (.inr (.inr (.inr (.inl rfl)))))), fun cv w h => test7 c cv w h k, fun cv xv x w' f h' hx => by rw [if_neg (by omega), if_neg (by omega), if_neg (by omega), if_neg (by omega), if_neg (by omega), if_neg (by omega), if_pos k, cap_eq (by have := f.len; omega) (by have := f.len; omega) f.small e3]; exact isat7 c cv xv x w' h' hx (by have := f.len; omega) f.four e2 f.small f.one⟩
  · exact ⟨_, .inr (.inr (.inr (.inr (.inr (.inr (.inr (.inl rfl))))))), fun cv w h => test8 c cv w h k, fun cv xv x w' f h' hx => by rw [if_neg (by omega), if_neg (by omega), if_neg (by omega), if_neg (by omega), if_neg (by omega), if_neg (by omega), if_neg (by omega), if_pos k]; exact isat8 c cv xv x w' h' hx e1 f.four e2 f.small⟩
  · exact ⟨_, .inr (.inr (.inr (.inr (.inr (.inr (.inr (.inr rfl))))))), fun cv w h => test9 c cv w h k, fun cv xv x w' f h' hx => by rw [if_neg (by omega), if_neg (by omega), if_neg (by omega), if_neg (by omega), if_neg (by omega), if_neg (by omega), if_neg (by omega), if_neg (by omega), circ_eq x f.one f.four f.small]; exact isat9 c cv xv x w' h' hx f.one f.four f.small⟩

set_option maxRecDepth 100000 in
set_option maxHeartbeats 2000000 in
theorem icopyInts_any (v : Value) (xs : List Int) (w : World) (h : RdInts w v xs) (h0 : 1 ≤ xs.length) (hx : xs.length ≤ 1048576) :
    Calls Try.prog 110 #[v] w (IntsPost xs w) := by
  obtain ⟨a, cap, rfl, hl, hm, hx3⟩ := h
  obtain ⟨b, off, rfl, hcell⟩ : ∃ b off, a = some ⟨b, off, none⟩ ∧ ∀ i, i < xs.length → w.cell? ⟨b, off + i, none⟩ = some (.int .i64 (xs[i]?.getD 0)) := by
    rcases hx3 with h | h
    · omega
    · exact h
  have HC := Lib.hid hcell
  obtain ⟨n, hn⟩ : ∃ n, n = xs.length := ⟨_, rfl⟩
  have HN := Lib.hid hn
  rw [← hn] at hl h0 hx ⊢
  unfold maxLen at hm
  clear hcell hx3 hn
  obtain ⟨i0, hi, hz0, hz1, hz2⟩ := info_parts Try.info3
  have hmade := World.ownsRow_nil w w.heap.size 3 1
  go_enter Try.func110, Try.ntmps110
  go_wp2_with (at_builtin; refine wpList_append_own _ rfl _ _ 22 rfl w.heap.size 3 i0 (.int .i64 0) 1 8 Try.underlying22 hi hz0 hz1 hz2 rfl (by decide) _ 0 [] rfl hmade ⟨b, off, none⟩ n cap (xs.map (Value.int .i64)) rfl (by rw [List.length_map, HN.out]; omega) (fun j u hu => ?_) (fun u hu => ?_) (by unfold maxLen; omega) (by omega) (Nat.le_refl _) ?_)
  · have hj : j < xs.length := by have := (List.getElem?_eq_some_iff.1 hu).1; simpa using this
    rw [addr_add, HC.out j hj]
    rw [List.getElem?_map, List.getElem?_eq_getElem hj] at hu
    rw [List.getElem?_eq_getElem hj]
    simpa using hu
  · obtain ⟨x, _, rfl⟩ := List.mem_map.1 hu
    rfl
  · intro v' w' hown hgrow _
    have hb : Below w.heap.size w w' := (Below.refl _ w).grown hgrow (Nat.le_refl _) (fun q e => by simp [Value.ownBlock] at e)
    have HO := Lib.hid (show w'.ownsRow w.heap.size 3 1 v' xs.length (xs.map (Value.int .i64)) by rw [← HN.out]; simpa using hown)
    have HB := Lib.hid hb
    clear hown hgrow hb
    go_wp2
    go_ret
    exact ⟨_, rfl, HO.out, HB.out⟩
end Go.Proofs.Ytipapmmjfoaddaa
