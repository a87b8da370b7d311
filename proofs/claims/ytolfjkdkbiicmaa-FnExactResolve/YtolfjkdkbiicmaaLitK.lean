/- The program's UnitPropagate. -/
import Derived.Test.YtolfjkdkbiicmaaLitF
namespace Go.Proofs.Ytolfjkdkbiicmaa
open Go.ChangeShapes Go.WideShapes Go.ChangeAt Go.RowKit Go.Deep Go.Shelf
set_option linter.unusedVariables false
set_option linter.unusedSimpArgs false

/-- The activation inside the region of propagate. -/
def prAct (z0 z1 z2 z3 z4 z5 z6 z7 z8 z9 z10 z11 z12 z13 z14 z15 z16 z17 z18 z19 z20 z21 z22 z23 z24 : Value) : Act := { tmps := #[z0, z1, z2, z3, z4, z5, z6, z7, z8, z9, z10, z11, z12, z13, z14, z15, z16, z17, z18, z19, z20, z21, z22, z23, z24], defers := [] }
section
set_option maxRecDepth 100000
theorem index_wat0 (w : World) (b n c : Nat) (hj : 0 < n) : (Instr.indexAt 116 (.slice (some ⟨b, 0, none⟩) n c) (.int .i64 0)).run Try.prog w = .ok (.pointer (some ⟨b, 0, none⟩)) w := by
  go_simp
theorem zero_int (w : World) : (zeroValue 3).run Try.prog w = .ok (.int .i64 0) w := by
  go_simp
end
theorem own_clear {w : World} {B g n c : Nat} {ds : List Int} (h : w.ownsRow B 3 1 (.slice (some ⟨g, 0, none⟩) n c) n (ds.map (Value.int .i64))) (h4 : n ≤ 4) : (w.setCells g 0 (List.replicate n (.int .i64 0))).ownsRow B 3 1 (.slice (some ⟨g, 0, none⟩) n c) n ((List.replicate n 0).map (Value.int .i64)) := by
  have hl : ds.length = n := by have := h.1; simpa using this
  match ds, hl with
  | [], e => subst e; exact h
  | [a], e => subst e; exact (h.stored 0 (.int .i64 0)).1
  | [a, b], e => subst e; exact ((h.stored 0 (.int .i64 0)).1.stored 1 (.int .i64 0)).1
  | [a, b, d], e => subst e; exact (((h.stored 0 (.int .i64 0)).1.stored 1 (.int .i64 0)).1.stored 2 (.int .i64 0)).1
  | [a, b, d, f], e => subst e; exact ((((h.stored 0 (.int .i64 0)).1.stored 1 (.int .i64 0)).1.stored 2 (.int .i64 0)).1.stored 3 (.int .i64 0)).1
  | a :: b :: d :: f :: k :: r, e => simp at e; omega
theorem below_setCells {B : Nat} {w0 : World} {g : Nat} (hg : B ≤ g) : ∀ (vs : List Value) (o : Nat) (w : World), Below B w0 w → Below B w0 (w.setCells g o vs)
  | [], _, _, h => h
  | v :: vs, o, w, h => below_setCells hg vs (o + 1) _ (h.setCell (p := ⟨g, o, none⟩) hg v)

set_option maxRecDepth 100000 in
set_option maxHeartbeats 16000000 in
theorem wpropagate_any (v : Value) (ls : List Lit) (ds : List Int) (m B gd n cd : Nat) (w0 w : World) (h : OwnC w w0.heap.size v m ls) (hd : w0.ownsRow B 3 1 (.slice (some ⟨gd, 0, none⟩) n cd) n (ds.map (Value.int .i64))) (hB : B ≤ w0.heap.size) (hb : Below w0.heap.size w0 w) (hvi : VarsIn ls ds.length) (hva : ∀ l ∈ ls, 0 ≤ l.val ∧ l.val ≤ 5) (h1 : 1 ≤ n) (h4 : n ≤ 4) :
    Calls Try.prog 99 #[v, .slice (some ⟨gd, 0, none⟩) n cd] w fun e w' => (∃ u, e = .returned u) ∧ w'.ownsRow B 3 1 (.slice (some ⟨gd, 0, none⟩) n cd) n ((upL ls ds).map (Value.int .i64)) ∧ Below B w0 w' := by
  have hl : ds.length = n := by have := hd.1; simpa using this
  have hgd := hd.lt gd rfl
  have HRD : Hid (RdInts w0 (.slice (some ⟨gd, 0, none⟩) n cd) ds) := Lib.hid (by rw [← hl] at hd ⊢; exact rdInts_of_own (show w0.ownsRow B 3 1 (.slice (some ⟨gd, 0, none⟩) ds.length cd) ds.length (ds.map (Value.int .i64)) from hd))
  have HOD := Lib.hid hd
  have HL := Lib.hid hl
  have HB0 := Lib.hid hB
  have HGD := Lib.hid hgd
  have HVA := Lib.hid hva
  have HVI := Lib.hid hvi
  have HW := Lib.hid (watch_any v _ ls ds m w0 w h HRD.out hb hvi hva)
  have HML := Lib.hid h.1
  obtain ⟨a, c, ev, hmc, hcm, hform⟩ := h.form
  rw [ev] at HW ⊢
  clear h hd hl hB hgd hb hvi hva ev
  go_enter Try.func99, Try.ntmps99
  go_wp2_with fail
  refine HW.out.mono ?_
  rintro e w2 ⟨t, cs, rfl, oc, b2, hcase⟩
  have HOC := Lib.hid oc
  have HB2 := Lib.hid b2
  have HOW2 : Hid (w2.ownsRow B 3 1 (.slice (some ⟨gd, 0, none⟩) n cd) n (ds.map (Value.int .i64))) := Lib.hid (own_below HOD.out b2)
  have HBB : Hid (Below B w0 w2) := Lib.hid (b2.mono HB0.out)
  clear oc b2
  rcases hcase with ⟨rfl, hp⟩ | ⟨l, rfl, hp, hc0⟩ | ⟨rfl, hp⟩
  · have HUP : Hid (upL ls ds = List.replicate n 0) := Lib.hid (by rw [upL_none hp, HL.out])
    clear hp
    have HF : Hid ((w2.setCells gd 0 (List.replicate n (.int .i64 0))).ownsRow B 3 1 (.slice (some ⟨gd, 0, none⟩) n cd) n ((upL ls ds).map (Value.int .i64))) := Lib.hid (by rw [HUP.out]; exact own_clear HOW2.out h4)
    have HBF := Lib.hid (below_setCells HGD.out.1 (List.replicate n (.int .i64 0)) 0 w2 HBB.out)
    have hcl := Lib.run_clear_slice (P := Try.prog) w2 23 3 0 (.int .i64 0) Try.underlying23 zero_int rfl rfl gd 0 n cd (by omega) (fun j hj => by
      rw [Nat.zero_add, HOW2.out.cellAt j (by omega)]
      have : (ds.map (Value.int .i64)).length = n := by rw [List.length_map, HL.out]
      rw [List.getElem?_eq_getElem (by omega)]
      rfl) (fun j hj => by
      rw [Nat.zero_add]
      exact HOW2.out.frozenAt j)
    obtain ⟨W9, hW9⟩ : ∃ W9, w2.setCells gd 0 (List.replicate n (.int .i64 0)) = W9 := ⟨_, rfl⟩
    rw [hW9] at HF HBF hcl
    clear hW9
    go_wp2
    refine bodyPost_end (results_none rfl _ _ _) rfl ?_
    exact ⟨⟨_, rfl⟩, HF.out, HBF.out⟩
  · have HUP := Lib.hid (upL_one hp)
    have hmem : l ∈ ls := by
      have : l ∈ posL ls ds := by rw [hp]; exact List.mem_cons_self ..
      exact (List.mem_filter.1 this).1
    have hm0 : 0 < m := by
      rw [← HML.out]
      exact List.length_pos_of_mem hmem
    obtain ⟨g, rfl, hgB⟩ := hform hm0
    obtain ⟨hv0, hv1⟩ := HVI.out l hmem
    obtain ⟨ha0, ha1⟩ := HVA.out l hmem
    have HE := Lib.hid (idomL_any l w2.drew ha0 ha1)
    obtain ⟨dm, hdm⟩ : ∃ dm, dm = domL l := ⟨_, rfl⟩
    rw [← hdm] at HE HUP
    have HOCD := Lib.hid (HOC.out.below (Below.refl _ _).drew)
    have hla := HOCD.out.cells hc0
    rw [Nat.zero_mul] at hla
    obtain ⟨lv, la, ln⟩ := l
    simp only at hv0 hv1 HUP HE
    obtain ⟨x, rfl⟩ : ∃ x : Nat, lv = x := ⟨lv.toNat, by omega⟩
    have hxn : x < n := by have := HL.out; omega
    simp only [Int.toNat_natCast] at HUP
    obtain ⟨d, hdd⟩ : ∃ d, d = ds[x]?.getD 0 := ⟨_, rfl⟩
    rw [← hdd] at HUP
    have HOW : Hid (w2.drew.ownsRow B 3 1 (.slice (some ⟨gd, 0, none⟩) n cd) n (ds.map (Value.int .i64))) := Lib.hid (own_below HOW2.out (Below.refl _ _).drew)
    have hS : LitAt g 0 ⟨x, la, ln⟩ w2.drew ∧ w2.drew.cell? ⟨gd, x, none⟩ = some (.int .i64 d) := ⟨hla, by
      have hx : x < ds.length := by rw [HL.out]; exact hxn
      rw [HOW.out.cellAt x (by omega), List.getElem?_map, List.getElem?_eq_getElem hx, hdd, List.getElem?_eq_getElem hx]
      rfl⟩
    have HBD := Lib.hid HBB.out.drew
    clear hp hmem hla hc0 hdm hdd ha0 ha1 hv0 hv1
    go_wp2_with fail
    refine region_z (fun w' => LitAt g 0 ⟨x, la, ln⟩ w' ∧ w'.cell? ⟨gd, x, none⟩ = some (.int .i64 d)) (fun i => i == 13) rfl ?_
    change wpAnyZ Try.prog .any _ _ _ _ 14 _ (prAct _ _ _ _ _ _ _ _ _ _ _ _ _ _ _ _ _ _ _ _ _ _ _ _ _) w2.drew
    refine wpAnyZ_takeW (i := 0) (v := .slice (some ⟨gd, 0, none⟩) n cd) rfl (by kernel_rfl) (by kernel_rfl) (by kernel_rfl) (fun _ _ _ h => h) (.inl ⟨rfl, fun w' hw' => rfl⟩) ?_
    change wpAnyZ Try.prog .any _ _ _ _ 13 _ (prAct _ _ _ _ _ _ _ _ _ _ _ _ (.slice (some ⟨gd, 0, none⟩) n cd) _ _ _ _ _ _ _ _ _ _ _ _) w2.drew
    refine wpAnyZ_takeW (i := 1) (v := .slice (some ⟨g, 0, none⟩) m c) rfl (by kernel_rfl) (by kernel_rfl) (by kernel_rfl) (fun _ _ _ h => h) (.inl ⟨rfl, fun w' hw' => rfl⟩) ?_
    change wpAnyZ Try.prog .any _ _ _ _ 12 _ (prAct _ _ _ _ _ _ _ _ _ _ _ _ (.slice (some ⟨gd, 0, none⟩) n cd) (.slice (some ⟨g, 0, none⟩) m c) _ _ _ _ _ _ _ _ _ _ _) w2.drew
    refine wpAnyZ_takeW (i := 2) (v := .pointer (some ⟨g, 0, none⟩)) rfl (by kernel_rfl) (by kernel_rfl) (by kernel_rfl) (fun _ _ _ h => h) (.inl ⟨rfl, fun w' hw' => exec_index rfl rfl rfl (index_wat0 w' _ _ _ hm0)⟩) ?_
    change wpAnyZ Try.prog .any _ _ _ _ 11 _ (prAct _ _ _ _ _ _ _ _ _ _ _ _ (.slice (some ⟨gd, 0, none⟩) n cd) (.slice (some ⟨g, 0, none⟩) m c) (.pointer (some ⟨g, 0, none⟩)) _ _ _ _ _ _ _ _ _ _) w2.drew
    refine wpAnyZ_takeW (i := 3) (v := .pointer (some ⟨g, 0, none⟩)) rfl (by kernel_rfl) (by kernel_rfl) (by kernel_rfl) (fun _ _ _ h => h) (.inl ⟨rfl, fun w' hw' => exec_field0 rfl rfl⟩) ?_
    change wpAnyZ Try.prog .any _ _ _ _ 10 _ (prAct _ _ _ _ _ _ _ _ _ _ _ _ (.slice (some ⟨gd, 0, none⟩) n cd) (.slice (some ⟨g, 0, none⟩) m c) (.pointer (some ⟨g, 0, none⟩)) (.pointer (some ⟨g, 0, none⟩)) _ _ _ _ _ _ _ _ _) w2.drew
    refine wpAnyZ_take (i := 4) (v := .int .i64 x) rfl (by kernel_rfl) (by kernel_rfl) (by kernel_rfl) (by kernel_rfl) (fun _ _ _ h => h) (.inl ⟨rfl, fun w' hw' => exec_load rfl rfl (load_int w' _ _ _ hw'.1.1)⟩) hS ?_
    change wpAnyZ Try.prog .any _ _ _ _ 9 _ (prAct _ _ _ _ _ _ _ _ _ _ _ _ (.slice (some ⟨gd, 0, none⟩) n cd) (.slice (some ⟨g, 0, none⟩) m c) (.pointer (some ⟨g, 0, none⟩)) (.pointer (some ⟨g, 0, none⟩)) (.int .i64 x) _ _ _ _ _ _ _ _) w2.drew
    refine wpAnyZ_takeW (i := 5) (v := .pointer (some ⟨gd, x, none⟩)) rfl (by kernel_rfl) (by kernel_rfl) (by kernel_rfl) (fun _ _ _ h => h) (.inl ⟨rfl, fun w' hw' => exec_index rfl rfl rfl (index0_ints w' _ _ _ _ hxn)⟩) ?_
    change wpAnyZ Try.prog .any _ _ _ _ 8 _ (prAct _ _ _ _ _ _ _ _ _ _ _ _ (.slice (some ⟨gd, 0, none⟩) n cd) (.slice (some ⟨g, 0, none⟩) m c) (.pointer (some ⟨g, 0, none⟩)) (.pointer (some ⟨g, 0, none⟩)) (.int .i64 x) (.pointer (some ⟨gd, x, none⟩)) _ _ _ _ _ _ _) w2.drew
    refine wpAnyZ_take (i := 6) (v := .int .i64 d) rfl (by kernel_rfl) (by kernel_rfl) (by kernel_rfl) (by kernel_rfl) (fun _ _ _ h => h) (.inl ⟨rfl, fun w' hw' => exec_load rfl rfl (load_int w' _ _ _ hw'.2)⟩) hS ?_
    change wpAnyZ Try.prog .any _ _ _ _ 7 _ (prAct _ _ _ _ _ _ _ _ _ _ _ _ (.slice (some ⟨gd, 0, none⟩) n cd) (.slice (some ⟨g, 0, none⟩) m c) (.pointer (some ⟨g, 0, none⟩)) (.pointer (some ⟨g, 0, none⟩)) (.int .i64 x) (.pointer (some ⟨gd, x, none⟩)) (.int .i64 d) _ _ _ _ _ _) w2.drew
    refine wpAnyZ_takeW (i := 7) (v := .slice (some ⟨g, 0, none⟩) m c) rfl (by kernel_rfl) (by kernel_rfl) (by kernel_rfl) (fun _ _ _ h => h) (.inl ⟨rfl, fun w' hw' => rfl⟩) ?_
    change wpAnyZ Try.prog .any _ _ _ _ 6 _ (prAct _ _ _ _ _ _ _ _ _ _ _ _ (.slice (some ⟨gd, 0, none⟩) n cd) (.slice (some ⟨g, 0, none⟩) m c) (.pointer (some ⟨g, 0, none⟩)) (.pointer (some ⟨g, 0, none⟩)) (.int .i64 x) (.pointer (some ⟨gd, x, none⟩)) (.int .i64 d) (.slice (some ⟨g, 0, none⟩) m c) _ _ _ _ _) w2.drew
    refine wpAnyZ_takeW (i := 8) (v := .pointer (some ⟨g, 0, none⟩)) rfl (by kernel_rfl) (by kernel_rfl) (by kernel_rfl) (fun _ _ _ h => h) (.inl ⟨rfl, fun w' hw' => exec_index rfl rfl rfl (index_wat0 w' _ _ _ hm0)⟩) ?_
    change wpAnyZ Try.prog .any _ _ _ _ 5 _ (prAct _ _ _ _ _ _ _ _ _ _ _ _ (.slice (some ⟨gd, 0, none⟩) n cd) (.slice (some ⟨g, 0, none⟩) m c) (.pointer (some ⟨g, 0, none⟩)) (.pointer (some ⟨g, 0, none⟩)) (.int .i64 x) (.pointer (some ⟨gd, x, none⟩)) (.int .i64 d) (.slice (some ⟨g, 0, none⟩) m c) (.pointer (some ⟨g, 0, none⟩)) _ _ _ _) w2.drew
    refine wpAnyZ_take (i := 9) (v := .agg #[.int .i64 x, .int .i64 la, .bool ln]) rfl (by kernel_rfl) (by kernel_rfl) (by kernel_rfl) (by kernel_rfl) (fun _ _ _ h => h) (.inl ⟨rfl, fun w' hw' => exec_load rfl rfl (load_litO w' _ _ _ _ _ hw'.1.1 hw'.1.2.1 hw'.1.2.2)⟩) hS ?_
    change wpAnyZ Try.prog .any _ _ _ _ 4 _ (prAct _ _ _ _ _ _ _ _ _ _ _ _ (.slice (some ⟨gd, 0, none⟩) n cd) (.slice (some ⟨g, 0, none⟩) m c) (.pointer (some ⟨g, 0, none⟩)) (.pointer (some ⟨g, 0, none⟩)) (.int .i64 x) (.pointer (some ⟨gd, x, none⟩)) (.int .i64 d) (.slice (some ⟨g, 0, none⟩) m c) (.pointer (some ⟨g, 0, none⟩)) (.agg #[.int .i64 x, .int .i64 la, .bool ln]) _ _ _) w2.drew
    refine wpAnyZ_one (i := 10) (by kernel_rfl) rfl (fun K' hK' => ?_)
    refine step_callL1 _ rfl 160 _ _ _ rfl rfl (enters_of Try.func160 (by kernel_rfl) rfl) _ HE.out (fun c w' h => by cases h.1) (fun w' h => by cases h.1) ?_
    rintro v9 w9 ⟨e9, b9⟩
    obtain rfl : v9 = .int .i64 dm := by injection e9
    have hS9 : LitAt g 0 ⟨x, la, ln⟩ w9 ∧ w9.cell? ⟨gd, x, none⟩ = some (.int .i64 d) := ⟨litAt_below hS.1 b9, (b9.cell (World.block_lt_of_cell? _ _ hS.2)).trans hS.2⟩
    have HB9 := Lib.hid b9
    clear b9
    refine hK'.out _ _ (fun _ _ => hS9) ?_
    clear hK' K'
    change wpAnyZ Try.prog .any _ _ _ _ 3 _ (prAct _ _ _ _ _ _ _ _ _ _ _ _ (.slice (some ⟨gd, 0, none⟩) n cd) (.slice (some ⟨g, 0, none⟩) m c) (.pointer (some ⟨g, 0, none⟩)) (.pointer (some ⟨g, 0, none⟩)) (.int .i64 x) (.pointer (some ⟨gd, x, none⟩)) (.int .i64 d) (.slice (some ⟨g, 0, none⟩) m c) (.pointer (some ⟨g, 0, none⟩)) (.agg #[.int .i64 x, .int .i64 la, .bool ln]) (.int .i64 dm) _ _) w9
    refine wpAnyZ_takeW (i := 11) (v := .int .i64 (bits .and .i64 d dm)) rfl (by kernel_rfl) (by kernel_rfl) (by kernel_rfl) (fun _ _ _ h => h) (.inl ⟨rfl, fun w' hw' => exec_bin rfl rfl rfl (and_ints _ _ _ _ _)⟩) ?_
    change wpAnyZ Try.prog .any _ _ _ _ 2 _ (prAct _ _ _ _ _ _ _ _ _ _ _ _ (.slice (some ⟨gd, 0, none⟩) n cd) (.slice (some ⟨g, 0, none⟩) m c) (.pointer (some ⟨g, 0, none⟩)) (.pointer (some ⟨g, 0, none⟩)) (.int .i64 x) (.pointer (some ⟨gd, x, none⟩)) (.int .i64 d) (.slice (some ⟨g, 0, none⟩) m c) (.pointer (some ⟨g, 0, none⟩)) (.agg #[.int .i64 x, .int .i64 la, .bool ln]) (.int .i64 dm) (.int .i64 (bits .and .i64 d dm)) _) w9
    refine wpAnyZ_takeW (i := 12) (v := .pointer (some ⟨gd, x, none⟩)) rfl (by kernel_rfl) (by kernel_rfl) (by kernel_rfl) (fun _ _ _ h => h) (.inl ⟨rfl, fun w' hw' => exec_index rfl rfl rfl (index0_ints w' _ _ _ _ hxn)⟩) ?_
    change wpAnyZ Try.prog .any _ _ _ _ 1 _ (prAct _ _ _ _ _ _ _ _ _ _ _ _ (.slice (some ⟨gd, 0, none⟩) n cd) (.slice (some ⟨g, 0, none⟩) m c) (.pointer (some ⟨g, 0, none⟩)) (.pointer (some ⟨g, 0, none⟩)) (.int .i64 x) (.pointer (some ⟨gd, x, none⟩)) (.int .i64 d) (.slice (some ⟨g, 0, none⟩) m c) (.pointer (some ⟨g, 0, none⟩)) (.agg #[.int .i64 x, .int .i64 la, .bool ln]) (.int .i64 dm) (.int .i64 (bits .and .i64 d dm)) (.pointer (some ⟨gd, x, none⟩))) w9
    refine wpAnyZ_one (i := 13) (by kernel_rfl) rfl (fun K' hK' => ?_)
    have HC9 := cf_cell HOW.out HB9.out hS9.2
    refine step_skip _ (w9.setCell ⟨gd, x, none⟩ (.int .i64 (bits .and .i64 d dm))) rfl (exec_store rfl rfl rfl (store_int _ _ _ _ _ hS9.2 HC9)) ?_
    refine hK'.out _ _ (fun h => by cases h) ?_
    clear hK' K'
    change wpAnyZ Try.prog .any _ _ _ _ 0 _ (prAct _ _ _ _ _ _ _ _ _ _ _ _ (.slice (some ⟨gd, 0, none⟩) n cd) (.slice (some ⟨g, 0, none⟩) m c) (.pointer (some ⟨g, 0, none⟩)) (.pointer (some ⟨g, 0, none⟩)) (.int .i64 x) (.pointer (some ⟨gd, x, none⟩)) (.int .i64 d) (.slice (some ⟨g, 0, none⟩) m c) (.pointer (some ⟨g, 0, none⟩)) (.agg #[.int .i64 x, .int .i64 la, .bool ln]) (.int .i64 dm) (.int .i64 (bits .and .i64 d dm)) (.pointer (some ⟨gd, x, none⟩))) (w9.setCell ⟨gd, x, none⟩ (.int .i64 (bits .and .i64 d dm)))
    refine wpAnyZ_done (by kernel_rfl) ?_ _
    unfold prAct
    have HF9 : Hid ((w9.setCell ⟨gd, x, none⟩ (.int .i64 (bits .and .i64 d dm))).ownsRow B 3 1 (.slice (some ⟨gd, 0, none⟩) n cd) n ((upL ls ds).map (Value.int .i64))) := Lib.hid (by
      have := ((own_below HOW.out HB9.out).stored x (.int .i64 (bits .and .i64 d dm))).1
      rw [HUP.out, List.map_set]
      exact this)
    have HB10 : Hid (Below B w0 (w9.setCell ⟨gd, x, none⟩ (.int .i64 (bits .and .i64 d dm)))) := Lib.hid ((HBD.out.trans (HB9.out.mono (Nat.le_trans HB0.out HBD.out.size))).setCell (p := ⟨gd, x, none⟩) HGD.out.1 _)
    clear hS hS9 HC9
    go_wp2
    refine bodyPost_end (results_none rfl _ _ _) rfl ?_
    exact ⟨⟨_, rfl⟩, HF9.out, HB10.out⟩
  · have HUP := Lib.hid (upL_two hp)
    clear hp
    go_wp2
    refine bodyPost_end (results_none rfl _ _ _) rfl ?_
    exact ⟨⟨_, rfl⟩, by rw [HUP.out]; exact HOW2.out, HBB.out⟩

set_option maxRecDepth 100000 in
set_option maxHeartbeats 2000000 in
theorem watchedOf_any (v : Value) (ls : List Lit) (w : World) (h : RdLits w v ls) (hx : ls.length ≤ 1000) :
    Calls Try.prog 98 #[v] w fun e w' => ∃ v', e = .returned v' ∧ OwnC w' w.heap.size v' ls.length ls ∧ Below w.heap.size w w' := by
  have HC := Lib.hid (clone_any v ls w h hx)
  obtain ⟨a, cap, ev, _⟩ := h
  rw [ev] at HC ⊢
  clear ev
  go_enter Try.func98, Try.ntmps98
  go_wp2_with fail
  refine HC.out.mono ?_
  rintro e w2 ⟨v', rfl, oc, b⟩
  obtain ⟨a2, c2, e2, _⟩ := oc.form
  subst e2
  have HO := Lib.hid oc
  have HB := Lib.hid b
  clear oc b
  go_wp2
  go_ret
  exact ⟨_, rfl, HO.out, HB.out⟩

set_option maxRecDepth 100000 in
set_option maxHeartbeats 8000000 in
theorem iUnitPropagate_any (v dv : Value) (ls : List Lit) (ds : List Int) (w : World) (h : RdLits w v ls) (hd : RdInts w dv ds) :
    Calls Try.prog 32 #[v, dv] w (IntsPost (uprL ls ds) w) := by
  have HC := Lib.hid h
  have HD := Lib.hid hd
  obtain ⟨a, cap, ev, _⟩ := h
  rw [ev] at HC ⊢
  obtain ⟨ax, cx, ex, -⟩ := hd
  obtain ⟨n, hn'⟩ : ∃ n, n = ds.length := ⟨_, rfl⟩
  have HN := Lib.hid hn'
  have HU : Hid (uprL ls ds = if (wiB n 1 4 && allB ds 0 63) && clB ls n then upL ls ds else []) := Lib.hid (by rw [hn']; rfl)
  rw [ex] at HD ⊢
  rw [← hn'] at HD ⊢
  clear ev ex hn'
  have hcx := (rdInts_cap HD.out).2
  unfold IntsPost
  cases h1 : (wiB n 1 4 && allB ds 0 63)
  · rw [h1] at HU
    go_enter Try.func32, Try.ntmps32
    go_wp2_with fail
    refine (validDomains_any _ ds w HD.out).mono ?_
    rintro e w' ⟨rfl, rfl⟩
    rw [← HN.out, h1]
    go_wp2
    go_ret
    refine ⟨_, rfl, ?_, Below.refl _ _⟩
    rw [HU.out]
    exact World.ownsRow_nil _ _ _ _
  rw [h1] at HU
  have h1' := h1
  rw [Bool.and_eq_true] at h1'
  have hb := wiB_in h1'.1
  have HV := Lib.hid (iValidClause_any _ ls n w HC.out)
  unfold BoolPost at HV
  have hvc : vclB ls n = clB ls n := by unfold vclB; rw [h1'.1]; rfl
  rw [hvc] at HV
  cases h2 : clB ls n
  · rw [h2] at HU HV
    go_enter Try.func32, Try.ntmps32
    go_wp2_with fail
    refine (validDomains_any _ ds w HD.out).mono ?_
    rintro e w' ⟨rfl, rfl⟩
    rw [← HN.out, h1]
    go_wp2_with fail
    refine HV.out.mono ?_
    rintro e w2 ⟨rfl, b⟩
    have HB := Lib.hid b
    clear b
    go_wp2
    go_ret
    refine ⟨_, rfl, ?_, HB.out⟩
    rw [HU.out]
    exact World.ownsRow_nil _ _ _ _
  rw [h2] at HU HV
  have HVI : Hid (VarsIn ls ds.length) := Lib.hid (by rw [← HN.out]; exact clB_vars h2)
  have HVA : Hid (∀ l ∈ ls, 0 ≤ l.val ∧ l.val ≤ 5) := Lib.hid (fun l hl => clB_vals h2 hl)
  have HL12 := Lib.hid (clB_len h2)
  have H14 : Hid (1 ≤ ds.length ∧ ds.length ≤ 4) := Lib.hid (by rw [← HN.out]; omega)
  clear hvc
  go_enter Try.func32, Try.ntmps32
  go_wp2_with fail
  refine (validDomains_any _ ds w HD.out).mono ?_
  rintro e w' ⟨rfl, rfl⟩
  rw [← HN.out, h1]
  go_wp2_with fail
  refine HV.out.mono ?_
  rintro e w2 ⟨rfl, b⟩
  have HB := Lib.hid b
  clear b
  go_wp2_with fail
  refine (icopyInts_any _ ds w2 (HD.out.below HB.out) H14.out.1 (by have := H14.out; omega)).mono ?_
  rintro e w3 ⟨v3, rfl, o3, b⟩
  rw [← HN.out] at o3
  obtain ⟨gd, cd, ev3, hg1, hg2⟩ := o3.form (by omega)
  subst ev3
  have HB3 := Lib.hid (HB.out.trans (b.mono HB.out.size))
  have HO3 := Lib.hid (own_mono o3 HB.out.size)
  clear b o3
  go_wp2_with fail
  refine (watchedOf_any _ ls w3 (HC.out.below HB3.out) (by have := HL12.out; omega)).mono ?_
  rintro e w4 ⟨v4, rfl, oc, b⟩
  obtain ⟨a4, c4, e4, _⟩ := oc.form
  subst e4
  have HOC := Lib.hid oc
  have HB4 := Lib.hid b
  clear oc b
  go_wp2_with fail
  refine (wpropagate_any _ ls ds ls.length w.heap.size gd n cd w3 w4 HOC.out HO3.out HB3.out.size HB4.out HVI.out HVA.out (by omega) (by omega)).mono ?_
  rintro e w5 ⟨⟨u, rfl⟩, o5, b5⟩
  have HO5 := Lib.hid o5
  have HB5 := Lib.hid (HB3.out.trans b5)
  clear o5 b5
  go_wp2
  go_ret
  refine ⟨_, rfl, ?_, HB5.out⟩
  have HU' : uprL ls ds = upL ls ds := HU.out
  rw [HU', upL_length, ← HN.out]
  exact HO5.out
end Go.Proofs.Ytolfjkdkbiicmaa
