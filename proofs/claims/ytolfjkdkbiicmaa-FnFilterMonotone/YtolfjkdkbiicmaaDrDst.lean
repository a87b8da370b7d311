/- The draw of Distance's arguments: two lists. -/
import Derived.Test.YtolfjkdkbiicmaaWo
import Derived.Test.YtolfjkdkbiicmaaFi
namespace Go.Proofs.Ytolfjkdkbiicmaa
open Go.ChangeShapes Go.WideShapes Go.ChangeAt Go.RowKit
set_option linter.unusedVariables false
set_option linter.unusedSimpArgs false

set_option maxRecDepth 100000 in
set_option maxHeartbeats 2000000 in
theorem scopyInts_at (b off n cap : Nat) (xs : List Int) (w : World) (hn : n = xs.length) (h : RdInts w (.slice (some ⟨b, off, none⟩) n cap) xs) (hx : n ≤ 1048576) :
    Calls Try.prog 106 #[.slice (some ⟨b, off, none⟩) n cap] w (IntsPost xs w) := by
  have hcap := rdInts_cap h
  have hcell : ∀ i, i < n → w.cell? ⟨b, off + i, none⟩ = some (.int .i64 (xs[i]?.getD 0)) := fun i hi => by
    obtain ⟨b', o', e, q⟩ := rdInts_at h hi
    simp at e
    obtain ⟨rfl, rfl⟩ := e
    exact q
  have HC := Lib.hid hcell
  have HN := Lib.hid hn
  have hcap2 := hcap.2
  have hcap1 := hcap.1
  clear hcell h hn hcap
  obtain ⟨i0, hi, hz0, hz1, hz2⟩ := info_parts Try.info3
  have hmade := ownsRow_made w 3
  go_enter Try.func106, Try.ntmps106
  go_wp2_with (at_builtin; refine wpList_append_own _ rfl _ _ 23 rfl w.heap.size 3 i0 (.int .i64 0) 1 8 Try.underlying23 hi hz0 hz1 hz2 rfl (by decide) _ 0 [] rfl hmade ⟨b, off, none⟩ n cap (xs.map (Value.int .i64)) rfl (by rw [List.length_map, HN.out]; omega) (fun j u hu => ?_) (fun u hu => ?_) (by unfold maxLen; omega) (by omega) (by simp) ?_)
  · have hj : j < xs.length := by have := (List.getElem?_eq_some_iff.1 hu).1; simpa using this
    have hb := World.block_lt_of_cell? w _ (HC.out j (by rw [HN.out]; exact hj))
    rw [addr_add, World.cell?_alloc_old _ _ _ (by show b ≠ w.heap.size; exact Nat.ne_of_lt hb), HC.out j (by rw [HN.out]; exact hj)]
    rw [List.getElem?_map, List.getElem?_eq_getElem hj] at hu
    rw [List.getElem?_eq_getElem hj]
    simpa using hu
  · obtain ⟨x, _, rfl⟩ := List.mem_map.1 hu
    rfl
  · intro v' w' hown hgrow _
    have hb : Below w.heap.size w w' := ((Below.refl _ w).alloc (Nat.le_refl _) _).grown hgrow (by simp) (fun q e => by simp [Value.ownBlock] at e; omega)
    have HO := Lib.hid (show w'.ownsRow w.heap.size 3 1 v' xs.length (xs.map (Value.int .i64)) by simpa using hown)
    have HB := Lib.hid hb
    clear hown hgrow hb
    go_wp2
    go_ret
    exact ⟨_, rfl, HO.out, HB.out⟩

/-- Two lists that were drawn; the first one's place is no nil. -/
def TwoDrawnD (w : World) (e : Ending) (w' : World) : Prop := ∃ (g n c : Nat) (bv : Value) (x y : List Int), e = .returned (.tuple #[.slice (some ⟨g, 0, none⟩) n c, bv]) ∧ n = x.length ∧ RdInts w' (.slice (some ⟨g, 0, none⟩) n c) x ∧ RdInts w' bv y ∧ x.length ≤ 10 ∧ y.length ≤ 10 ∧ Below w.heap.size w w'

set_option maxRecDepth 100000 in
set_option maxHeartbeats 8000000 in
theorem drawDst_any (a : Option Addr) (len cap : Nat) (w : World) (h : CodeOk w.heap.size w a len cap) :
    Calls Try.prog 39 #[.slice a len cap] w (TwoDrawnD w) := by
  obtain ⟨i0, hi, hz0, hz1, hz2⟩ := info_parts Try.info3
  go_enter Try.func39, Try.ntmps39
  go_wp2_with fail
  refine (newReader_any w.heap.size a len cap w (Nat.le_refl _) h).mono ?_
  rintro e w1 ⟨rfl, hr, hb, hz⟩
  have HB1 := Lib.hid hb
  have HR1 := Lib.hid hr
  have HZ1 := Lib.hid hz
  clear hz h hr hb
  go_wp2_with fail
  refine (pick_dn w.heap.size w.heap.size 0 5 w1 HR1.out (by omega) (by omega) (by omega)).mono ?_
  rintro e w2 ⟨x, rfl, hx0, hx1, r2, d2⟩
  obtain ⟨k, rfl⟩ := Int.eq_ofNat_of_zero_le hx0
  have hk6 : k < 5 := by omega
  have HR2 := Lib.hid r2
  have HS2 := Lib.hid (show w.heap.size + 1 ≤ w2.heap.size by have := d2.size; have := HZ1.out; omega)
  have HB2 := Lib.hid (HB1.out.trans (d2.below (Nat.le_refl _) HB1.out.size))
  clear r2 d2 hx0 hx1 HR1
  go_wp2_with fail
  refine (randomRow_some w.heap.size w.heap.size k (0 + 1) w2 HR2.out (by omega) (by omega) (by omega)).mono ?_
  rintro e w3 ⟨av, xs, p3, rfl, hx3, o3, hp3, hp3', r3, d3, gA, cA, rfl⟩
  have hxl := hx3.1
  rw [hxl] at o3 ⊢
  have hga := own_at o3
  have HR3 := Lib.hid r3
  have HO3 := Lib.hid o3
  have HXL := Lib.hid hxl
  have HGA := Lib.hid hga
  have HS3 := Lib.hid (show w2.heap.size ≤ w3.heap.size from d3.size)
  have HB3 := Lib.hid (HB2.out.trans (d3.below (Nat.le_refl _) HB2.out.size))
  have hrd : RdInts w3 (.slice (some ⟨gA, 0, none⟩) k cA) xs := by
    have := rdInts_of_own (w := w3) (B := w2.heap.size) (v := .slice (some ⟨gA, 0, none⟩) k cA) (xs := xs) (by rw [hxl]; exact o3)
    exact this
  have hcA := (rdInts_cap hrd).2
  unfold maxLen at hcA
  have HRD := Lib.hid hrd
  clear r3 d3 o3 HR2 hxl hx3 hga hrd
  go_wp2_with fail
  refine (scopyInts_at gA 0 k cA xs w3 HXL.out.symm HRD.out (by omega)).mono ?_
  rintro e w4 ⟨bv, rfl, o4, b4⟩
  rw [HXL.out] at o4
  obtain ⟨ab, cb, ebv, hcb, hcb2⟩ := own_form o4
  subst ebv
  unfold maxLen at hcb2
  have HO4 := Lib.hid o4
  have HR4 := Lib.hid (HR3.out.below (b4.mono (by have := HS2.out; have := HS3.out; omega)))
  have HB4 := Lib.hid (HB3.out.trans (b4.mono HB3.out.size))
  have HS4 := Lib.hid (show w3.heap.size ≤ w4.heap.size from b4.size)
  have HRA := Lib.hid (HRD.out.below b4)
  clear o4 b4 HR3 HO3 HRD
  go_wp2
  go_loopw [7] (fun i wr => ∃ (j : Nat) (ys : List Int) (q : Int), j ≤ k ∧ i = .int .i64 j ∧ 0 ≤ q ∧ q ≤ 10 + 2 * j ∧ Hid (ys.length = k) ∧ Hid (wr.ownsRow w3.heap.size 3 1 (.slice ab k cb) k (ys.map (Value.int .i64))) ∧ Hid (Rd w.heap.size w.heap.size q wr) ∧ Hid (RdInts wr (.slice (some ⟨gA, 0, none⟩) k cA) xs) ∧ Hid (Below w.heap.size w wr ∧ w3.heap.size ≤ wr.heap.size)) (fun i _ => k - (intOf i).toNat)
  case atStart => exact ⟨0, xs, p3, Nat.zero_le _, rfl, by omega, by omega, HXL, HO4, HR4, HRA, Lib.hid ⟨HB4.out, HS4.out⟩⟩
  case round =>
    obtain ⟨j, ys, q, hj, rfl, hq0, hq1, HYL, HOB, HRW, HRX, HBW⟩ := hrel
    by_cases hlt : j < k
    · go_wp2_with fail
      refine (pick_dn w.heap.size w.heap.size q 3 wr HRW.out (by omega) (by omega) (by omega)).mono ?_
      rintro e w5 ⟨x, rfl, hx0, hx1, r5, d5⟩
      have HO5 := Lib.hid (own_dn HOB.out (by have := HS2.out; have := HS3.out; omega) d5)
      have HR5 := Lib.hid r5
      have HX5 := Lib.hid ((HRX.out.inc (Inc.of_below (Below.refl _ wr))))
      have HK5 : Hid (RdInts w5 (.slice (some ⟨gA, 0, none⟩) k cA) xs) := Lib.hid (by
        obtain ⟨a', c', e', h1, h2, h3⟩ := HRX.out
        refine ⟨a', c', e', h1, h2, ?_⟩
        rcases h3 with h3 | ⟨b', off', ea', h3⟩
        · exact .inl h3
        · refine .inr ⟨b', off', ea', fun i hi => ?_⟩
          have hh := h3 i hi
          simp at e'
          obtain ⟨rfl, _, _⟩ := e'
          simp at ea'
          obtain ⟨rfl, rfl⟩ := ea'
          have hb := World.block_lt_of_cell? wr _ hh
          exact (wo_cell_same (d5.block gA hb (by have := HGA.out; have := HS2.out; omega))).trans hh)
      have HB5 := Lib.hid (show Below w.heap.size w w5 ∧ w3.heap.size ≤ w5.heap.size from ⟨HBW.out.1.trans (d5.below (Nat.le_refl _) HBW.out.1.size), Nat.le_trans HBW.out.2 d5.size⟩)
      clear r5 d5 hx0 hx1 HOB HRW HRX HBW HX5
      cases hx : (x == 0)
      · go_wp2
        go_roundw
        case rel => exact ⟨j + 1, ys, _, by omega, by go_num, by omega, by omega, HYL, HO5, HR5, HK5, HB5⟩
        case measure => simp [intOf]; omega
      · have hyl := HYL.out
        obtain ⟨g, cg, eg, hg, hxt⟩ := xt_of_own (by rw [hyl]; exact HO5.out) (by omega)
        rw [hyl] at eg
        simp at eg
        obtain ⟨rfl, rfl⟩ := eg
        go_wp2_with fail
        refine (pick_dn w.heap.size w.heap.size (q + 1) 6 w5 HR5.out (by omega) (by omega) (by omega)).mono ?_
        rintro e w6 ⟨y, rfl, hy0, hy1, r6, d6⟩
        have hgl := hxt.lt
        have hx6 : XT g cb ys w6 := hxt.keep (d6.block g hgl (by have := HS2.out; have := HS3.out; omega))
        have k1 := hx6.at (i := j) (by omega)
        have k2 := hx6.unfrozen j
        have hx7 := hx6.set (i := j) (by omega) y
        have HX7 := Lib.hid hx7
        have HG := Lib.hid hg
        have HR7 : Hid (Rd w.heap.size w.heap.size (q + 1 + 1) (w6.setCell ⟨g, j, none⟩ (.int .i64 y))) := Lib.hid (r6.below ((Below.refl (w.heap.size + 1) w6).setCell (by show _ ≤ g; have := HS2.out; have := HS3.out; omega) _))
        have HB7 := Lib.hid (show Below w.heap.size w (w6.setCell ⟨g, j, none⟩ (.int .i64 y)) ∧ w3.heap.size ≤ (w6.setCell ⟨g, j, none⟩ (.int .i64 y)).heap.size from ⟨(HB5.out.1.trans (d6.below (Nat.le_refl _) HB5.out.1.size)).setCell (by show _ ≤ g; have := HS2.out; have := HS3.out; omega) _, by have := HB5.out.2; have := d6.size; simp; omega⟩)
        have HK7 : Hid (RdInts (w6.setCell ⟨g, j, none⟩ (.int .i64 y)) (.slice (some ⟨gA, 0, none⟩) k cA) xs) := Lib.hid (by
          obtain ⟨a', c', e', h1, h2, h3⟩ := HK5.out
          refine ⟨a', c', e', h1, h2, ?_⟩
          rcases h3 with h3 | ⟨b', off', ea', h3⟩
          · exact .inl h3
          · refine .inr ⟨b', off', ea', fun i hi => ?_⟩
            have hh := h3 i hi
            simp at e'
            obtain ⟨rfl, _, _⟩ := e'
            simp at ea'
            obtain ⟨rfl, rfl⟩ := ea'
            have hb := World.block_lt_of_cell? w5 _ hh
            rw [cell_set_ne _ _ _ _ (by intro h; have := congrArg Addr.block h; simp at this; have := HGA.out; omega)]
            exact (wo_cell_same (d6.block gA hb (by have := HGA.out; have := HS2.out; omega))).trans hh)
        clear r6 d6 hx6 hx7 hxt hg hgl hyl hy0 hy1 HR5 HK5 HB5 HO5
        go_wp2
        go_roundw
        case rel => exact ⟨j + 1, ys.set j y, _, by omega, by go_num, by omega, by omega, Lib.hid (by rw [List.length_set]; exact HYL.out), Lib.hid (by have := own_of_xt HX7.out HG.out; rw [List.length_set, HYL.out] at this; exact this), HR7, HK7, HB7⟩
        case measure => simp [intOf]; omega
    · obtain rfl : j = k := by omega
      go_wp2_with fail
      refine (pick_dn w.heap.size w.heap.size q 8 wr HRW.out (by omega) (by omega) (by omega)).mono ?_
      rintro e w5 ⟨x, rfl, hx0, hx1, r5, d5⟩
      have hO5 := own_dn HOB.out (by have := HS2.out; have := HS3.out; omega) d5
      have HK5 : Hid (RdInts w5 (.slice (some ⟨gA, 0, none⟩) j cA) xs) := Lib.hid (by
        obtain ⟨a', c', e', h1, h2, h3⟩ := HRX.out
        refine ⟨a', c', e', h1, h2, ?_⟩
        rcases h3 with h3 | ⟨b', off', ea', h3⟩
        · exact .inl h3
        · refine .inr ⟨b', off', ea', fun i hi => ?_⟩
          have hh := h3 i hi
          simp at e'
          obtain ⟨rfl, _, _⟩ := e'
          simp at ea'
          obtain ⟨rfl, rfl⟩ := ea'
          have hb := World.block_lt_of_cell? wr _ hh
          exact (wo_cell_same (d5.block gA hb (by have := HGA.out; have := HS2.out; omega))).trans hh)
      have hB5 : Below w.heap.size w w5 := HBW.out.1.trans (d5.below (Nat.le_refl _) HBW.out.1.size)
      have HBW5 := Lib.hid HBW.out.2
      clear r5 hx0 hx1 HOB HRW HRX HBW
      have hyl : ys.length ≤ 1000 := by have := HYL.out; omega
      have hsz5 : w3.heap.size ≤ w5.heap.size := Nat.le_trans HBW5.out d5.size
      clear d5 HBW5
      cases hx : (x == 0)
      · have HO5 := Lib.hid hO5
        have HB5 := Lib.hid hB5
        clear hO5 hB5
        go_wp2
        go_ret2
        exact ⟨gA, j, cA, _, xs, ys, rfl, HXL.out.symm, HK5.out, rdInts_of_own (by rw [HYL.out]; exact HO5.out), by have := HXL.out; omega, by have := HYL.out; omega, HB5.out⟩
      · go_wp2_with (at_builtin; refine wpList_append_own _ rfl _ _ 23 rfl w3.heap.size 3 i0 (.int .i64 0) 1 8 Try.underlying23 hi hz0 hz1 hz2 rfl (by decide) _ _ _ rfl (hO5.alloc _) ⟨w5.heap.size, 0, none⟩ 1 1 [.int .i64 1] rfl rfl (cell_one_new _ _ _) (by simp [Value.oneCell']) (by unfold maxLen; omega) (by omega) (by simp; omega) ?_; intro v' w6 hown' hgrow _)
        have hge : ∀ q, Value.ownBlock _ = some q → w3.heap.size ≤ q := fun q e => (hO5.lt q e).1
        have hb6 : Below w.heap.size w w6 := (hB5.alloc hB5.size _).grown hgrow (by have := hB5.size; simp; omega) (fun q e => by have := hge q e; have := HB3.out.size; omega)
        have HB6 := Lib.hid hb6
        have HO6 := Lib.hid hown'
        have HK6 : Hid (RdInts w6 (.slice (some ⟨gA, 0, none⟩) j cA) xs) := Lib.hid (by
          have hk : Below w3.heap.size w5 w6 := ((Below.refl w3.heap.size w5).alloc (hsz5) _).grown hgrow (by simp; omega) hge
          obtain ⟨a', c', e', h1, h2, h3⟩ := HK5.out
          refine ⟨a', c', e', h1, h2, ?_⟩
          rcases h3 with h3 | ⟨b', off', ea', h3⟩
          · exact .inl h3
          · refine .inr ⟨b', off', ea', fun i hi => ?_⟩
            have hh := h3 i hi
            simp at e'
            obtain ⟨rfl, _, _⟩ := e'
            simp at ea'
            obtain ⟨rfl, rfl⟩ := ea'
            exact (hk.cell (by show gA < _; exact HGA.out.2)).trans hh)
        clear hO5 hown' hgrow hB5 hb6 hge HK5
        go_wp2
        go_ret2
        exact ⟨gA, j, cA, _, xs, ys ++ [1], rfl, HXL.out.symm, HK6.out, rdInts_of_own (by have := HO6.out; rw [List.length_append, HYL.out, List.map_append]; exact this), by have := HXL.out; omega, by have := HYL.out; simp; omega, HB6.out⟩
end Go.Proofs.Ytolfjkdkbiicmaa
