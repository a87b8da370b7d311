/- The program's count of continuations: a table that is filled from the last layer on. -/
import Derived.Test.YtjdbfiiaadphhaaDgC
import Derived.Test.YtjdbfiiaadphhaaDrL
namespace Go.Proofs.Ytjdbfiiaadphhaa
open Go.ChangeShapes Go.WideShapes Go.ChangeAt Go.RowKit Go.Deep
set_option linter.unusedVariables false
set_option linter.unusedSimpArgs false

/-- The row of layer j. -/
def cnRow (d : Dg) (j : Nat) : List Int := if j < d.length then (List.range (d[j]?.getD []).length).map (fun a => ((cntF d (d.length - j) j a : Nat) : Int)) else [1]
/-- The first k counts of a row of r, then zeros. -/
def filC (d : Dg) (m i r k : Nat) : List Int := (List.range r).map fun a => if a < k then ((cntF d (m + 1) i a : Nat) : Int) else 0
theorem filC_length (d : Dg) (m i r k : Nat) : (filC d m i r k).length = r := by simp [filC]
theorem filC_zero (d : Dg) (m i r : Nat) : filC d m i r 0 = List.replicate r 0 := by
  refine List.ext_getElem (by simp [filC]) (fun j h1 h2 => ?_)
  simp [filC]
theorem filC_at {d : Dg} {m i r k j : Nat} (h : j < r) : (filC d m i r k)[j]?.getD 0 = if j < k then ((cntF d (m + 1) i j : Nat) : Int) else 0 := by
  simp [filC, h]
theorem filC_step {d : Dg} {m i r k : Nat} (h : k < r) : (filC d m i r k).set k ((cntF d (m + 1) i k : Nat) : Int) = filC d m i r (k + 1) := by
  refine List.ext_getElem (by simp [filC]) (fun j h1 h2 => ?_)
  simp only [filC, List.length_set, List.length_map, List.length_range] at h1
  by_cases e : j = k
  · subst e
    rw [List.getElem_set_self]
    simp [filC]
  · rw [List.getElem_set_ne (Ne.symm e)]
    simp only [filC, List.getElem_map, List.getElem_range]
    by_cases h3 : j < k
    · rw [if_pos h3, if_pos (by omega)]
    · rw [if_neg h3, if_neg (by omega)]
theorem filC_set0 (d : Dg) (m i r k : Nat) (h : k < r) : (filC d m i r k).set k 0 = filC d m i r k := by
  refine List.ext_getElem (by simp [filC]) (fun j h1 h2 => ?_)
  simp only [filC, List.length_set, List.length_map, List.length_range] at h1
  by_cases e : j = k
  · subst e
    rw [List.getElem_set_self]
    simp [filC]
  · rw [List.getElem_set_ne (Ne.symm e)]
theorem filC_all {d : Dg} {m i r : Nat} (hi : i < d.length) (hm : d.length - i = m + 1) (hr : r = (d[i]?.getD []).length) : filC d m i r r = cnRow d i := by
  unfold filC cnRow
  rw [if_pos hi, hm, hr]
  refine List.map_congr_left (fun a ha => ?_)
  rw [if_pos (List.mem_range.1 ha)]
theorem cnRow_at {d : Dg} {j z : Nat} (hj : j < d.length) (hz : z < (d[j]?.getD []).length) : (cnRow d j)[z]? = some ((cntF d (d.length - j) j z : Nat) : Int) := by
  unfold cnRow
  rw [if_pos hj]
  simp [hz]
/-- What an edge of layer i leads to. -/
theorem cnRow_next {d : Dg} {i m z : Nat} (hi : i < d.length) (hm : d.length - i = m + 1) (hz : (z : Int) ≤ (nxtD d i : Int) - 1) : (cnRow d (i + 1))[z]? = some ((cntF d m (i + 1) z : Nat) : Int) := by
  by_cases h : i + 1 < d.length
  · rw [nxtD_lt h] at hz
    rw [cnRow_at h (by omega), show d.length - (i + 1) = m from by omega]
  · have hn : nxtD d i = 1 := by unfold nxtD; rw [if_neg h]
    rw [hn] at hz
    obtain rfl : z = 0 := by omega
    obtain rfl : m = 0 := by omega
    unfold cnRow
    rw [if_neg h]
    rfl
/-- The rows from j on are done; G: the block of the table; their blocks lie below top. -/
structure CS (w : World) (G : Nat) (d : Dg) (n j top : Nat) (W : World) (vs : List Value) : Prop where
  own : W.ownsRow w.heap.size 32 1 (.slice (some ⟨G, 0, none⟩) (n + 1) (n + 1)) (n + 1) vs
  row : ∀ t, j ≤ t → t ≤ n → ∃ g c, vs[t]? = some (.slice (some ⟨g, 0, none⟩) (cnRow d t).length c) ∧ g ≠ G ∧ g < top ∧ W.ownsRow w.heap.size 3 1 (.slice (some ⟨g, 0, none⟩) (cnRow d t).length c) (cnRow d t).length ((cnRow d t).map (Value.int .i64))
  low : Below w.heap.size w W
  top : top ≤ W.heap.size
section
variable {w W W' : World} {G n j top : Nat} {d : Dg} {vs : List Value}
theorem CS.below (h : CS w G d n j top W vs) (hb : Below W.heap.size W W') : CS w G d n j top W' vs :=
  ⟨own_below h.own hb, fun t h1 h2 => by
    obtain ⟨g, c, e1, e2, e3, e4⟩ := h.row t h1 h2
    exact ⟨g, c, e1, e2, e3, own_below e4 hb⟩, h.low.trans (hb.mono h.low.size), Nat.le_trans h.top hb.size⟩
theorem CS.set (h : CS w G d n j top W vs) {H : Nat} (hH : top ≤ H) (hG : H ≠ G) (hw : w.heap.size ≤ H) (k : Nat) (v : Value) : CS w G d n j top (W.setCell ⟨H, k, none⟩ v) vs :=
  ⟨own_keepB h.own (fun b hb => Below.heap_setCell _ _ _ _ (by show b ≠ H; cases hb; exact fun e => hG e.symm)), fun t h1 h2 => by
    obtain ⟨g, c, e1, e2, e3, e4⟩ := h.row t h1 h2
    exact ⟨g, c, e1, e2, e3, own_keepB e4 (fun b hb => Below.heap_setCell _ _ _ _ (by show b ≠ H; cases hb; show g ≠ H; omega))⟩, h.low.setCell (p := ⟨H, k, none⟩) hw _, by simpa using h.top⟩
theorem CS.put (h : CS w G d n j top W vs) {i : Nat} (hi : i < j) (u : Value) : CS w G d n j top (W.setCell ⟨G, i, none⟩ u) (vs.set i u) :=
  ⟨(h.own.stored i u).1, fun t h1 h2 => by
    obtain ⟨g, c, e1, e2, e3, e4⟩ := h.row t h1 h2
    exact ⟨g, c, by rw [List.getElem?_set_ne (by omega)]; exact e1, e2, e3, own_keepB e4 (fun b hb => Below.heap_setCell _ _ _ _ (by show b ≠ G; cases hb; exact e2))⟩, h.low.setCell (p := ⟨G, i, none⟩) (h.own.lt G rfl).1 _, by simpa using h.top⟩
theorem CS.done {i H c : Nat} (h : CS w G d n (i + 1) top W vs) (hH : top ≤ H) (hG : H ≠ G) (e : vs[i]? = some (.slice (some ⟨H, 0, none⟩) (cnRow d i).length c)) (ho : W.ownsRow w.heap.size 3 1 (.slice (some ⟨H, 0, none⟩) (cnRow d i).length c) (cnRow d i).length ((cnRow d i).map (Value.int .i64))) : CS w G d n i (H + 1) W vs :=
  ⟨h.own, fun t h1 h2 => by
    by_cases et : t = i
    · subst et
      exact ⟨H, c, e, hG, Nat.lt_succ_self _, ho⟩
    · obtain ⟨g, c', e1, e2, e3, e4⟩ := h.row t (by omega) h2
      exact ⟨g, c', e1, e2, by omega, e4⟩, h.low, (ho.lt H rfl).2⟩
theorem CS.rd (h : CS w G d n 0 top W vs) (hn : n = d.length) (hm : n + 1 ≤ maxLen) : RdRows W (.slice (some ⟨G, 0, none⟩) (n + 1) (n + 1)) ((List.range (d.length + 1)).map (cnRow d)) := by
  have hl : ((List.range (d.length + 1)).map (cnRow d)).length = n + 1 := by simp [hn]
  refine ⟨_, n + 1, by rw [hl], by rw [hl]; exact Nat.le_refl _, hm, .inr ⟨G, 0, rfl, fun i hi => ?_⟩⟩
  rw [hl] at hi
  obtain ⟨g, c, e1, e2, e3, e4⟩ := h.row i (Nat.zero_le _) (by omega)
  refine ⟨.slice (some ⟨g, 0, none⟩) (cnRow d i).length c, ?_, ?_⟩
  · rw [Nat.zero_add, h.own.cellAt i (by omega)]
    exact e1
  · have : ((List.range (d.length + 1)).map (cnRow d))[i]?.getD [] = cnRow d i := by simp [show i < d.length + 1 by omega]
    rw [this]
    exact rdInts_of_own e4
end

/-- The table. -/
def ContPost (d : Dg) (w : World) (e : Ending) (w' : World) : Prop := ∃ (G n : Nat), n = d.length ∧ e = .returned (.slice (some ⟨G, 0, none⟩) (n + 1) (n + 1)) ∧ RdRows w' (.slice (some ⟨G, 0, none⟩) (n + 1) (n + 1)) ((List.range (d.length + 1)).map (cnRow d)) ∧ Below w.heap.size w w'
theorem own_two (W : World) (B H : Nat) (r : Nat) (xs : List Int) (k : Nat) (z : Int) (h : W.ownsRow B 3 1 (.slice (some ⟨H, 0, none⟩) r r) r (xs.map (Value.int .i64))) : (W.setCell ⟨H, k, none⟩ (.int .i64 z)).ownsRow B 3 1 (.slice (some ⟨H, 0, none⟩) r r) r ((xs.set k z).map (Value.int .i64)) := by
  have := (h.stored k (.int .i64 z)).1
  rw [List.map_set]
  exact this

set_option maxRecDepth 100000 in
set_option maxHeartbeats 8000000 in
theorem icont_any (dv : Value) (d : Dg) (w : World) (h : RdR3 w dv d) (hd : dgB d = true) :
    Calls Try.prog 77 #[dv] w (ContPost d w) := by
  obtain ⟨hp1, hp4, hp0, hpl⟩ := dgB_parts hd
  have HLY := Lib.hid hpl
  have H := Lib.hid h
  obtain ⟨dx, capd, ev, hl, hm, _⟩ := h
  unfold maxLen at hm
  rw [ev] at H ⊢
  obtain ⟨n, hn⟩ : ∃ n, n = d.length := ⟨_, rfl⟩
  have HN := Lib.hid hn
  rw [← hn] at hl H hp4 hp1 ⊢
  clear hn ev hd hp0 hpl
  obtain ⟨i0, hi, hz0, hz1, hz2⟩ := info_parts Try.info32
  obtain ⟨j0, hj, hy0, hy1, hy2⟩ := info_parts Try.info3
  obtain ⟨G, hG⟩ : ∃ G, G = w.heap.size := ⟨_, rfl⟩
  have HG := Lib.hid hG
  obtain ⟨n1, hn1⟩ : ∃ n1, n1 = n + 1 := ⟨_, rfl⟩
  have hnn : (n : Int) + 1 = (n1 : Int) := by omega
  have HN1 := Lib.hid hn1
  have hn5 : n1 ≤ 5 ∧ 2 ≤ n1 := by omega
  have hnlt : n < n1 := by omega
  clear hG hn1
  go_enter Try.func77, Try.ntmps77
  go_wp2_with (at_make; refine wpList_make_full _ rfl _ _ 44 rfl w.heap.size 32 i0 (.slice none 0 0) 1 Try.underlying44 hi hz0 hz1 .i64 .i64 _ _ n1 rfl rfl rfl rfl (by rw [hz2]; omega) (by unfold maxLen; omega) (Nat.le_refl _) ?_; intro w1 hown hgrow; rw [madeRows] at hown; have hc1 := hown.cellAt n (by omega); rw [List.getElem?_replicate, if_pos hnlt] at hc1; have hf1 := hown.frozenAt n; have hGl := (hown.lt w.heap.size rfl).2; have hGne : w.heap.size ≠ w1.heap.size := (by omega); have HOWN := Lib.hid hown; have HGROW := Lib.hid hgrow; clear hown hgrow)
  have hown := HOWN.out
  have hgrow := HGROW.out
  rw [← HG.out] at hown
  rw [← HG.out]
  clear hc1 hf1 hGne hGl HOWN HGROW
  have hb1 := below_of_grown hgrow
  have hGl : G < w1.heap.size := (hown.lt G rfl).2
  have HC0 : Hid (CS w G d n n (w1.heap.size + 1) ((w1.setCell ⟨G, n, none⟩ (.slice (some ⟨w1.heap.size, 0, none⟩) 1 1)).alloc (.cells #[.int .i64 1] 3)) ((List.replicate n1 (.slice none 0 0)).set n (.slice (some ⟨w1.heap.size, 0, none⟩) 1 1))) := Lib.hid (by
    have h0 : CS w G d n (n + 1) (w1.heap.size) w1 (List.replicate n1 (.slice none 0 0)) :=
      ⟨by rw [← HN1.out]; exact own_mono hown (by have := HG.out; omega), fun t h1 h2 => by omega, hb1, Nat.le_refl _⟩
    have h1 := h0.put (i := n) (by omega) (.slice (some ⟨w1.heap.size, 0, none⟩) 1 1)
    have hcn : cnRow d n = [1] := by unfold cnRow; rw [if_neg (by have := HN.out; omega)]
    have hsz : (w1.setCell ⟨G, n, none⟩ (.slice (some ⟨w1.heap.size, 0, none⟩) 1 1)).heap.size = w1.heap.size := by simp
    have h2 := h1.below ((Below.refl _ (w1.setCell ⟨G, n, none⟩ (.slice (some ⟨w1.heap.size, 0, none⟩) 1 1))).alloc (Nat.le_refl _) (.cells #[.int .i64 1] 3))
    refine h2.done (i := n) (H := w1.heap.size) (c := 1) (Nat.le_refl _) (by omega) (by rw [hcn, List.getElem?_set_self (by simp; omega)]; rfl) ?_
    rw [hcn]
    exact (⟨rfl, .inr ⟨w1.heap.size, 1, _, rfl, hb1.size, by have := World.alloc_heap_new (w1.setCell ⟨G, n, none⟩ (.slice (some ⟨w1.heap.size, 0, none⟩) 1 1)) (.cells #[.int .i64 1] 3); rw [hsz] at this; exact this, Nat.le_refl _, by unfold maxLen; omega, rfl, rfl⟩⟩ : ((w1.setCell ⟨G, n, none⟩ (.slice (some ⟨w1.heap.size, 0, none⟩) 1 1)).alloc (.cells #[.int .i64 1] 3)).ownsRow w.heap.size 3 1 (.slice (some ⟨w1.heap.size, 0, none⟩) 1 1) 1 [.int .i64 1]))
  clear hown hgrow hb1 hGl hnn
  go_loopw [4] (fun i wr => ∃ (j top : Nat) (i' : Int) (vs : List Value), i = .int .i64 i' ∧ Hid (i' = (j : Int) - 1) ∧ j ≤ n ∧ Hid (CS w G d n j top wr vs)) (fun i _ => (intOf i + 1).toNat)
  case atStart => exact ⟨n, _, _, _, rfl, Lib.hid rfl, Nat.le_refl _, HC0⟩
  case round =>
    obtain ⟨j, top, i', vs, rfl, HI', hjn, HC⟩ := hrel
    by_cases hj0 : 0 < j
    · obtain ⟨i, rfl⟩ : ∃ i, j = i + 1 := ⟨j - 1, by omega⟩
      have hi' : i' = (i : Int) := by have := HI'.out; omega
      subst hi'
      have hin : i < n := by omega
      obtain ⟨b, off, a2, r, c2, e2, q1, hr, hrc, hc2, hrows⟩ := rdR3_at H.out hin
      subst e2
      have q1' := (HC.out.low.cell (p := ⟨b, off + i, none⟩) (World.block_lt_of_cell? w _ q1)).trans q1
      have HQ1 := Lib.hid q1
      have HRW := Lib.hid hrows
      have HRL := Lib.hid hr
      have hlay := HLY.out i (by have := HN.out; omega)
      have hr216 : r ≤ 216 := by
        unfold layB at hlay
        simp only [Bool.and_eq_true] at hlay
        have := wiB_in hlay.2
        omega
      obtain ⟨Hb, hHb⟩ : ∃ Hb, Hb = wr.heap.size := ⟨_, rfl⟩
      have HHB := Lib.hid hHb
      obtain ⟨y0, hy0'⟩ : ∃ y0, vs[i]? = some y0 := by
        have := HC.out.own.1
        exact ⟨_, List.getElem?_eq_getElem (by omega)⟩
      have HY0 := Lib.hid hy0'
      have hbG : b ≠ G := by have hb : b < w.heap.size := World.block_lt_of_cell? w _ HQ1.out; have := HG.out; intro e; omega
      have hGb : G ≠ b := Ne.symm hbG
      clear hHb q1 hrows hr hlay hy0'
      go_wp2_with (at_make; refine wpList_make_full _ rfl _ _ 32 rfl wr.heap.size 3 j0 (.int .i64 0) 1 Try.underlying32 hj hy0 hy1 .i64 .i64 _ _ r rfl rfl rfl rfl (by rw [hy2]; omega) (by unfold maxLen; omega) (Nat.le_refl _) ?_; intro w3 hown hgrow; rw [madeInts] at hown; have hC3 := HC.out.below (below_of_grown hgrow); have hc3 := hC3.own.cellAt i (by omega); rw [HY0.out] at hc3; have hf3 := hC3.own.frozenAt i; have HOWN := Lib.hid hown; have HGROW := Lib.hid hgrow; have q3 := (hC3.low.cell (p := ⟨b, off + i, none⟩) (World.block_lt_of_cell? w _ HQ1.out)).trans HQ1.out; clear hown hgrow hC3 q1')
      have hown := HOWN.out
      have hgrow := HGROW.out
      rw [← HHB.out] at hown
      rw [← HHB.out]
      clear hc3 hf3 HOWN HGROW
      have hb3 := below_of_grown hgrow
      have hH3 : Hb < w3.heap.size := (hown.lt Hb rfl).2
      have hC3 := HC.out.below hb3
      have hGH : G ≠ Hb := by have := (HC.out.own.lt G rfl).2; have := HHB.out; omega
      have hwH : w.heap.size ≤ Hb := by rw [HHB.out]; exact HC.out.low.size
      have htH : top ≤ Hb := by rw [HHB.out]; exact HC.out.top
      obtain ⟨W4, hW4⟩ : ∃ W4, w3.setCell ⟨G, i, none⟩ (.slice (some ⟨Hb, 0, none⟩) r r) = W4 := ⟨_, rfl⟩
      obtain ⟨vs4, hvs4⟩ : ∃ vs4, vs4 = vs.set i (.slice (some ⟨Hb, 0, none⟩) r r) := ⟨_, rfl⟩
      have hC4 : CS w G d n (i + 1) top W4 vs4 := by rw [← hW4, hvs4]; exact hC3.put (by omega) _
      have ho4 : W4.ownsRow w.heap.size 3 1 (.slice (some ⟨Hb, 0, none⟩) r r) r ((List.replicate r 0).map (Value.int .i64)) := by
        rw [← hW4]
        exact own_keepB (own_mono hown hwH) (fun q hq => Below.heap_setCell _ _ _ _ (by show q ≠ G; cases hq; exact fun e => hGH e.symm))
      obtain ⟨m, hmm⟩ : ∃ m, m = n - i - 1 := ⟨_, rfl⟩
      have HM : Hid (d.length - i = m + 1) := Lib.hid (by have := HN.out; omega)
      have HV4 : Hid (vs4[i]? = some (.slice (some ⟨Hb, 0, none⟩) r r)) := Lib.hid (by rw [hvs4, List.getElem?_set_self (by have := HC.out.own.1; omega)])
      have HC4 := Lib.hid hC4
      have HO4 : Hid (W4.ownsRow w.heap.size 3 1 (.slice (some ⟨Hb, 0, none⟩) r r) r ((filC d m i r 0).map (Value.int .i64))) := Lib.hid (by rw [filC_zero]; exact ho4)
      have HGH := Lib.hid (show Hb ≠ G ∧ w.heap.size ≤ Hb ∧ top ≤ Hb ∧ m ≤ 3 from ⟨fun e => hGH e.symm, hwH, htH, by omega⟩)
      have HW4 := Lib.hid hW4
      have q4 := (hC4.low.cell (p := ⟨b, off + i, none⟩) (World.block_lt_of_cell? w _ HQ1.out)).trans HQ1.out
      clear hown hgrow hb3 hH3 hC3 hGH hwH htH hvs4 hC4 ho4 hmm hW4 HC
      rw [HW4.out]
      clear HW4 q4 hbG hGb HY0
      obtain ⟨wr0, hwr0⟩ : ∃ x, x = wr := ⟨_, rfl⟩
      subst hwr0
      go_loopw [39] (fun ks wr => ∃ k : Nat, k ≤ r ∧ ks = .int .i64 k ∧ Hid (CS w G d n (i + 1) top wr vs4) ∧ Hid (wr.ownsRow w.heap.size 3 1 (.slice (some ⟨Hb, 0, none⟩) r r) r ((filC d m i r k).map (Value.int .i64)))) (fun ks _ => r - (intOf ks).toNat)
      case atStart => exact ⟨0, Nat.zero_le _, rfl, HC4, HO4⟩
      case round =>
        obtain ⟨k, hk, rfl, HC5, HO5⟩ := hrel
        by_cases hkr : k < r
        · obtain ⟨b2, o2, a4, rl, c4, e4, p0, hrl, hrl4, hc4, hrow⟩ := rdRows_at' HRW.out hkr
          subst e4
          have p1 := (HC5.out.low.cell (p := ⟨b2, o2 + k, none⟩) (World.block_lt_of_cell? w _ p0)).trans p0
          have HROW := Lib.hid hrow
          have h6 := (layB_ent (HLY.out i (by have := HN.out; omega)) (show k < (d[i]?.getD []).length by have := HRL.out; omega) (show (0 : Int) ≤ 0 by omega) (by omega)).1
          have hr6 : rl = 6 := by omega
          have HF0 : Hid (wr.ownsRow w.heap.size 3 1 (.slice (some ⟨Hb, 0, none⟩) r r) r (((filC d m i r k).set k ((0 : Nat) : Int)).map (Value.int .i64))) := Lib.hid (by rw [show ((0 : Nat) : Int) = 0 from rfl, filC_set0 d m i r k hkr]; exact HO5.out)
          subst hr6
          clear hrow hrl h6 HC4 HO4 HO5 p0
          go_wp2_with fail
          clear p1
          obtain ⟨wr2, hwr2⟩ : ∃ x, x = wr := ⟨_, rfl⟩
          subst hwr2
          go_loopw [46] (fun vs' wr => ∃ (v t : Nat), v ≤ 6 ∧ vs' = .int .i64 v ∧ t ≤ 216 * v ∧ Hid (t = sumV (addF d m i k) v) ∧ Hid (CS w G d n (i + 1) top wr vs4) ∧ Hid (wr.ownsRow w.heap.size 3 1 (.slice (some ⟨Hb, 0, none⟩) r r) r (((filC d m i r k).set k (t : Int)).map (Value.int .i64)))) (fun vs' _ => 6 - (intOf vs').toNat)
          case atStart => exact ⟨0, 0, by omega, rfl, by omega, Lib.hid rfl, HC5, HF0⟩
          case round =>
            obtain ⟨v, t, hv, rfl, ht, HT, HC6, HO6⟩ := hrel
            by_cases hv6 : v < 6
            · have hv5 : v ≤ 5 := by omega
              obtain ⟨b6, o6, e6, q6⟩ := rdInts_at HROW.out hv6
              subst e6
              have q7 := (HC6.out.low.cell (p := ⟨b6, o6 + v, none⟩) (World.block_lt_of_cell? w _ q6)).trans q6
              obtain ⟨y, hy⟩ : ∃ y, y = entD d i k (v : Int) := ⟨_, rfl⟩
              have hy0 : ((d[i]?.getD [])[k]?.getD [])[v]?.getD 0 = y := hy.symm
              rw [hy0] at q7
              have hent := layB_ent (HLY.out i (by have := HN.out; omega)) (show k < (d[i]?.getD []).length by have := HRL.out; omega) (show (0 : Int) ≤ (v : Int) by omega) (by omega)
              rw [← hy] at hent
              by_cases hyn : y = -1
              · have HS : Hid (t = sumV (addF d m i k) (v + 1)) := Lib.hid (by
                  show _ = sumV (addF d m i k) v + addF d m i k v
                  have e1 : addF d m i k v = 0 := by unfold addF; rw [← hy, if_neg (by omega)]
                  rw [e1, ← HT.out]
                  rfl)
                clear hy hy0 hent q6
                subst hyn
                go_wp2
                go_roundw
                case rel => exact ⟨v + 1, t, by omega, by go_num, by omega, HS, HC6, HO6⟩
                case measure => simp [intOf]; omega
              · obtain ⟨z, rfl⟩ := Int.eq_ofNat_of_zero_le (show 0 ≤ y by omega)
                obtain ⟨c, hc⟩ : ∃ c, c = cntF d m (i + 1) z := ⟨_, rfl⟩
                have hcl : c ≤ 216 := by rw [hc]; exact Nat.le_trans (cntF_le d m _ _) (six_le HGH.out.2.2.2)
                have HS : Hid (t + c = sumV (addF d m i k) (v + 1)) := Lib.hid (by
                  show _ = sumV (addF d m i k) v + addF d m i k v
                  have e1 : addF d m i k v = c := by unfold addF; rw [← hy, if_pos (by omega), hc]; rfl
                  rw [e1, ← HT.out])
                have hzr := cnRow_next (m := m) (show i < d.length by have := HN.out; omega) HM.out hent.2.2
                rw [← hc] at hzr
                obtain ⟨g', c', e1, e2, e3, e4⟩ := HC6.out.row (i + 1) (Nat.le_refl _) (by omega)
                obtain ⟨L, hL⟩ : ∃ L, L = (cnRow d (i + 1)).length := ⟨_, rfl⟩
                have hzL : z < L := by rw [hL]; exact (List.getElem?_eq_some_iff.1 hzr).1
                have d1 := HC6.out.own.cellAt i (by omega)
                rw [HV4.out] at d1
                have d3 := HC6.out.own.cellAt (i + 1) (by omega)
                rw [e1] at d3
                have d4 := e4.cellAt z (by rw [← hL]; omega)
                rw [List.getElem?_map, hzr] at d4
                simp only [Option.map_some] at d4
                rw [← hL] at d3
                have d2 := HO6.out.cellAt k (by omega)
                rw [List.getElem?_map, List.getElem?_set_self (by rw [filC_length]; exact hkr)] at d2
                simp only [Option.map_some] at d2
                have d5 := HO6.out.frozenAt k
                have hz1 : ((z : Int) != -1) = true := by rw [bne_iff_ne]; omega
                have HC7 : Hid (CS w G d n (i + 1) top (wr.drew.setCell ⟨Hb, k, none⟩ (.int .i64 ((t + c : Nat) : Int))) vs4) := Lib.hid ((HC6.out.below (Below.refl _ wr).drew).set HGH.out.2.2.1 HGH.out.1 HGH.out.2.1 _ _)
                have HO7 : Hid ((wr.drew.setCell ⟨Hb, k, none⟩ (.int .i64 ((t + c : Nat) : Int))).ownsRow w.heap.size 3 1 (.slice (some ⟨Hb, 0, none⟩) r r) r (((filC d m i r k).set k ((t + c : Nat) : Int)).map (Value.int .i64))) := Lib.hid (by
                  have := own_two wr.drew w.heap.size Hb r _ k ((t + c : Nat) : Int) (own_below HO6.out (Below.refl _ wr).drew)
                  rw [List.set_set] at this
                  exact this)
                have hin1 : i + 1 < n1 := by have := HN1.out; omega
                have hi1 : i < n1 := by omega
                clear hy hy0 hent q6 hc hzr e1 e2 e3 e4 hL hyn
                go_wp2_with fail
                go_region
                rw [← Int.natCast_add]
                clear d1 d2 d3 d4 d5 q7 hz1 HC6 HO6
                go_wp2
                go_roundw
                case rel => exact ⟨v + 1, t + c, by omega, by go_num, by omega, HS, HC7, HO7⟩
                case measure => simp [intOf]; omega
            · obtain rfl : v = 6 := by omega
              have HF : Hid (wr.ownsRow w.heap.size 3 1 (.slice (some ⟨Hb, 0, none⟩) r r) r ((filC d m i r (k + 1)).map (Value.int .i64))) := Lib.hid (by
                rw [← filC_step hkr, cntF_succ, ← HT.out]
                exact HO6.out)
              go_wp2
              go_roundw
              case rel => exact ⟨k + 1, by omega, by go_num, HC6, HF⟩
              case measure => simp [intOf]; omega
        · obtain rfl : k = r := by omega
          have HC7 : Hid (CS w G d n i (Hb + 1) wr vs4) := Lib.hid (by
            have hrow : filC d m i k k = cnRow d i := filC_all (by have := HN.out; omega) HM.out HRL.out
            have hl : (cnRow d i).length = k := by rw [← hrow, filC_length]
            refine HC5.out.done (H := Hb) (c := k) HGH.out.2.2.1 HGH.out.1 (by rw [hl]; exact HV4.out) ?_
            rw [hl, ← hrow]
            exact HO5.out)
          go_wp2
          go_roundw
          case rel => exact ⟨i, _, _, vs4, rfl, Lib.hid rfl, by omega, HC7⟩
          case measure => first | (simp [intOf]; done) | (simp [intOf]; omega)
    · obtain rfl : j = 0 := by omega
      have hi' : i' = -1 := by have := HI'.out; omega
      subst hi'
      have HR := Lib.hid (HC.out.rd HN.out (by unfold maxLen; omega))
      go_wp2
      go_ret
      exact ⟨G, n, HN.out, by have e := HN1.out; show Ending.returned (.slice (some ⟨G, 0, none⟩) n1 n1) = _; rw [e], HR.out, HC.out.low⟩

set_option maxRecDepth 100000 in
set_option maxHeartbeats 2000000 in
theorem iDC_any (v : Value) (d : Dg) (w : World) (h : RdR3 w v d) :
    Calls Try.prog 28 #[v] w fun e w' => e = .returned (.int .i64 (dcN d)) ∧ Below w.heap.size w w' := by
  obtain ⟨b, hb⟩ : ∃ b, b = dgB d := ⟨_, rfl⟩
  have HV : Hid (Calls Try.prog 21 #[v] w fun e w' => e = .returned (.bool b) ∧ w = w') := Lib.hid (by rw [hb]; exact iValidDiagram_any v d w h)
  cases b
  · have HF : Hid (dcN d = -1) := Lib.hid (by unfold dcN; rw [← hb]; rfl)
    clear hb
    go_enter Try.func28, Try.ntmps28
    go_wp2_with (go_at_call 21; refine HV.out.mono ?_; rintro e w' ⟨rfl, rfl⟩)
    go_ret
    exact ⟨ret_int HF.out.symm, Below.refl _ _⟩
  · have hp := dgB_parts hb.symm
    have hc : (cnRow d 0)[0]?.getD 0 = dcN d := by
      rw [cnRow_at (by omega) (by rw [hp.2.2.1]; omega)]
      unfold dcN
      rw [← hb]
      rfl
    have hl : 0 < (cnRow d 0).length := by
      unfold cnRow
      rw [if_pos (by omega)]
      simp [hp.2.2.1]
    have HP : Hid (Calls Try.prog 77 #[v] w (ContPost d w)) := Lib.hid (icont_any v d w h hb.symm)
    have HCX := Lib.hid hc
    have HLX := Lib.hid hl
    clear hb hp hc hl
    go_enter Try.func28, Try.ntmps28
    go_wp2_with (first | (go_at_call 21; refine HV.out.mono ?_; rintro e w' ⟨rfl, rfl⟩) | fail)
    refine HP.out.mono ?_
    rintro e w' ⟨G, n, hn, rfl, hr, hb⟩
    have h0 : ((List.range (d.length + 1)).map (cnRow d))[0]?.getD [] = cnRow d 0 := by simp
    obtain ⟨b1, o1, a1, r, c1, e1, q1, hrl, hrc, hc1, hrow⟩ := rdRows_at' hr (show 0 < n + 1 by omega)
    rw [h0] at hrl hrow
    obtain ⟨b2, o2, e2, q2⟩ := rdInts_at hrow (show 0 < r by have := HLX.out; omega)
    rw [HCX.out] at q2
    simp at e1
    obtain ⟨rfl, rfl⟩ := e1
    subst e2
    have hr0 : 0 < r := by have := HLX.out; omega
    have HB := Lib.hid hb
    obtain ⟨n1, hn1⟩ : ∃ n1, n1 = n + 1 := ⟨_, rfl⟩
    have hn0 : 0 < n1 := by omega
    rw [← hn1]
    simp only [Nat.add_zero] at q1 q2
    clear hr hb h0 hrl hrow hn hn1
    go_wp2
    go_ret
    exact ⟨rfl, HB.out⟩
end Go.Proofs.Ytjdbfiiaadphhaa
