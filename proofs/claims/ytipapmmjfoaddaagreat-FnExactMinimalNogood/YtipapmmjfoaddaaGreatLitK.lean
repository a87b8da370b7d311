/- The program's UnitPropagate. -/
import Derived.Test.YtipapmmjfoaddaaGreatLitF
namespace Go.Proofs.YtipapmmjfoaddaaGreat
open Go.ChangeShapes Go.WideShapes Go.ChangeAt Go.RowKit Go.Deep Go.Shelf
set_option linter.unusedVariables false
set_option linter.unusedSimpArgs false

/-- The activation inside the region of propagate. -/
def lprAct (z0 z1 z2 z3 z4 z5 z6 z7 z8 z9 z10 z11 z12 z13 z14 z15 z16 z17 z18 z19 z20 z21 z22 z23 z24 : Value) : Act := { tmps := #[z0, z1, z2, z3, z4, z5, z6, z7, z8, z9, z10, z11, z12, z13, z14, z15, z16, z17, z18, z19, z20, z21, z22, z23, z24], defers := [] }
section
set_option maxRecDepth 100000
theorem index_wat0 (w : World) (b n c : Nat) (hj : 0 < n) : (Instr.indexAt 158 (.slice (some ⟨b, 0, none⟩) n c) (.int .i64 0)).run Tryz.prog w = .ok (.pointer (some ⟨b, 0, none⟩)) w := by
  go_simp
theorem zero_int (w : World) : (zeroValue 3).run Tryz.prog w = .ok (.int .i64 0) w := by
  go_simp
end
theorem own_clear {w : World} {B g n c : Nat} {ds : List Int} (h : w.ownsRow B 3 1 (.slice (some ⟨g, 0, none⟩) n c) n (ds.map (Value.int .i64))) (h4 : n ≤ 4) : (w.setCells g 0 (List.replicate n (.int .i64 0))).ownsRow B 3 1 (.slice (some ⟨g, 0, none⟩) n c) n ((List.replicate n 0).map (Value.int .i64)) := by
  have hl : ds.length = n := by have := h.1; simpa using this
  match ds, hl with
  | [], e => subst e; exact h
  | [a], e => subst e; exact (h.stored 0 (.int .i64 0)).1
  | [a, b], e => subst e; exact ((h.stored 0 (.int .i64 0)).1.stored 1 (.int .i64 0)).1
  | [a, b, d], e => subst e; exact (((h.stored 0 (.int .i64 0)).1.stored 1 (.int .i64 0)).1.stored 2 (.int .i64 0)).1
  | [a, b, d, f], e => subst e; exact ((((h.stored 0 (.int .i64 0)).1.stored 1 (.int .i64 0)).1.stored 2 (.int .i64 0)).1.stored 3 (.int .i64 0)).1
  | a :: b :: d :: f :: k :: r, e => simp at e; omega
theorem below_setCells {B : Nat} {w0 : World} {g : Nat} (hg : B ≤ g) : ∀ (vs : List Value) (o : Nat) (w : World), Below B w0 w → Below B w0 (w.setCells g o vs)
  | [], _, _, h => h
  | v :: vs, o, w, h => below_setCells hg vs (o + 1) _ (h.setCell (p := ⟨g, o, none⟩) hg v)

theorem litNeInt : (91 : TypeId) ≠ 3 := by decide
theorem setCells_blk (g D : Nat) (hne : D ≠ g) : ∀ (vs : List Value) (o : Nat) (X : World), (X.setCells g o vs).heap[D]? = X.heap[D]?
  | [], _, _ => rfl
  | v :: vs, o, X => by
    rw [World.setCells, setCells_blk g D hne vs]
    exact Below.heap_setCell _ _ _ _ (by show D ≠ g; exact hne)

set_option maxRecDepth 100000 in
set_option maxHeartbeats 16000000 in
theorem wpropagate_any (v : Value) (ls : List Lit) (ds : List Int) (m B Bc gd n cd : Nat) (w : World) (h : OwnC w Bc v m ls) (hd : w.ownsRow B 3 1 (.slice (some ⟨gd, 0, none⟩) n cd) n (ds.map (Value.int .i64))) (hvi : VarsIn ls ds.length) (hva : ∀ l ∈ ls, 0 ≤ l.val ∧ l.val ≤ 5) (h1 : 1 ≤ n) (h4 : n ≤ 4) :
    Calls Tryz.prog 181 #[v, .slice (some ⟨gd, 0, none⟩) n cd] w fun e w' => (∃ u, e = .returned u) ∧ w'.ownsRow B 3 1 (.slice (some ⟨gd, 0, none⟩) n cd) n ((upL ls ds).map (Value.int .i64)) ∧ (∃ cs, cs.Perm ls ∧ OwnC w' Bc v m cs) ∧ OffB (fun b => v.ownBlock = some b ∨ b = gd) w w' := by
  have hl : ds.length = n := by have := hd.1; simpa using this
  have hne : v.ownBlock ≠ some gd := fun e => ownApart h.2 hd litNeInt e rfl
  have hGK : GKeep (fun X => OffB (fun b => v.ownBlock = some b) w X ∧ X.ownsRow B 3 1 (.slice (some ⟨gd, 0, none⟩) n cd) n (ds.map (Value.int .i64))) v :=
    ⟨fun X Y hX hb => ⟨hX.1.step hb, own_below hX.2 hb⟩, fun X g p u hX hg => ⟨hX.1.set u hg, ownKeep hX.2 (fun b hb => Below.heap_setCell _ _ _ _ (by show b ≠ g; intro e; subst e; injection hb with hb; subst hb; exact hne hg))⟩⟩
  have hRD : ∀ X, (OffB (fun b => v.ownBlock = some b) w X ∧ X.ownsRow B 3 1 (.slice (some ⟨gd, 0, none⟩) n cd) n (ds.map (Value.int .i64))) → RdInts X (.slice (some ⟨gd, 0, none⟩) n cd) ds := fun X hX => by
    have hd := hX.2
    rw [← hl] at hd ⊢
    exact rdInts_of_own (show X.ownsRow B 3 1 (.slice (some ⟨gd, 0, none⟩) ds.length cd) ds.length (ds.map (Value.int .i64)) from hd)
  have HNE := Lib.hid hne
  have HL := Lib.hid hl
  have HVA := Lib.hid hva
  have HVI := Lib.hid hvi
  have HW := Lib.hid (watch_any v _ ls ds m Bc _ w h hGK hRD ⟨OffB.refl _ _, hd⟩ hvi hva)
  have HML := Lib.hid h.1
  obtain ⟨a, c, ev, hmc, hcm, hform⟩ := h.form
  rw [ev] at HW HNE ⊢
  clear h hd hl hvi hva ev hne hGK hRD
  go_enter Tryz.func181, Tryz.ntmps181
  go_wp2_with fail
  refine HW.out.mono ?_
  rintro e w2 ⟨t, cs, rfl, oc, pm, ⟨b2, o2⟩, hcase⟩
  have HOC := Lib.hid oc
  have HPM := Lib.hid pm
  have HOW2 := Lib.hid o2
  have HBB : Hid (OffB (fun b => (Value.slice a m c).ownBlock = some b ∨ b = gd) w w2) := Lib.hid (b2.imp (fun b _ h => .inl h))
  clear oc b2 pm o2
  rcases hcase with ⟨rfl, hp⟩ | ⟨l, rfl, hp, hc0⟩ | ⟨rfl, hp⟩
  · have HUP : Hid (upL ls ds = List.replicate n 0) := Lib.hid (by rw [upL_none hp, HL.out])
    clear hp
    have HF : Hid ((w2.setCells gd 0 (List.replicate n (.int .i64 0))).ownsRow B 3 1 (.slice (some ⟨gd, 0, none⟩) n cd) n ((upL ls ds).map (Value.int .i64))) := Lib.hid (by rw [HUP.out]; exact own_clear HOW2.out h4)
    have HBF := Lib.hid (OffB.sets (.inr rfl) (List.replicate n (.int .i64 0)) 0 w2 HBB.out)
    have HCF : Hid (OwnC (w2.setCells gd 0 (List.replicate n (.int .i64 0))) Bc (.slice a m c) m cs) := Lib.hid (HOC.out.keep (fun b hb => setCells_blk gd b (fun e => HNE.out (by rw [hb, e])) _ _ _))
    have hcl := Lib.run_clear_slice (P := Tryz.prog) w2 22 3 0 (.int .i64 0) Tryz.underlying22 zero_int rfl rfl gd 0 n cd (by omega) (fun j hj => by
      rw [Nat.zero_add, HOW2.out.cellAt j (by omega)]
      have : (ds.map (Value.int .i64)).length = n := by rw [List.length_map, HL.out]
      rw [List.getElem?_eq_getElem (by omega)]
      rfl) (fun j hj => by
      rw [Nat.zero_add]
      exact HOW2.out.frozenAt j)
    obtain ⟨W9, hW9⟩ : ∃ W9, w2.setCells gd 0 (List.replicate n (.int .i64 0)) = W9 := ⟨_, rfl⟩
    rw [hW9] at HF HBF HCF hcl
    clear hW9
    go_wp2
    refine bodyPost_end (results_none rfl _ _ _) rfl ?_
    exact ⟨⟨_, rfl⟩, HF.out, ⟨cs, HPM.out, HCF.out⟩, HBF.out⟩
  · have HUP := Lib.hid (upL_one hp)
    have hmem : l ∈ ls := by
      have : l ∈ posL ls ds := by rw [hp]; exact List.mem_cons_self ..
      exact (List.mem_filter.1 this).1
    have hm0 : 0 < m := by
      rw [← HML.out]
      exact List.length_pos_of_mem hmem
    obtain ⟨g, rfl, hgB⟩ := hform hm0
    obtain ⟨hv0, hv1⟩ := HVI.out l hmem
    obtain ⟨ha0, ha1⟩ := HVA.out l hmem
    have HE := Lib.hid (idomL_any l w2.drew ha0 ha1)
    obtain ⟨dm, hdm⟩ : ∃ dm, dm = domL l := ⟨_, rfl⟩
    rw [← hdm] at HE HUP
    have HOCD := Lib.hid (HOC.out.below (Below.refl _ _).drew)
    have hla := HOCD.out.cells hc0
    rw [Nat.zero_mul] at hla
    obtain ⟨lv, la, ln⟩ := l
    simp only at hv0 hv1 HUP HE
    obtain ⟨x, rfl⟩ : ∃ x : Nat, lv = x := ⟨lv.toNat, by omega⟩
    have hxn : x < n := by have := HL.out; omega
    simp only [Int.toNat_natCast] at HUP
    obtain ⟨d, hdd⟩ : ∃ d, d = ds[x]?.getD 0 := ⟨_, rfl⟩
    rw [← hdd] at HUP
    have HOW : Hid (w2.drew.ownsRow B 3 1 (.slice (some ⟨gd, 0, none⟩) n cd) n (ds.map (Value.int .i64))) := Lib.hid (own_below HOW2.out (Below.refl _ _).drew)
    have hS : LitAt g 0 ⟨x, la, ln⟩ w2.drew ∧ w2.drew.cell? ⟨gd, x, none⟩ = some (.int .i64 d) := ⟨hla, by
      have hx : x < ds.length := by rw [HL.out]; exact hxn
      rw [HOW.out.cellAt x (by omega), List.getElem?_map, List.getElem?_eq_getElem hx, hdd, List.getElem?_eq_getElem hx]
      rfl⟩
    have HBD := Lib.hid (HBB.out.step (Below.refl _ _).drew)
    clear hp hmem hla hc0 hdm hdd ha0 ha1 hv0 hv1
    go_wp2_with fail
    refine region_z (fun w' => LitAt g 0 ⟨x, la, ln⟩ w' ∧ w'.cell? ⟨gd, x, none⟩ = some (.int .i64 d)) (fun i => i == 13) rfl ?_
    change wpAnyZ Tryz.prog .any _ _ _ _ 14 _ (lprAct _ _ _ _ _ _ _ _ _ _ _ _ _ _ _ _ _ _ _ _ _ _ _ _ _) w2.drew
    refine wpAnyZ_takeW (i := 0) (v := .slice (some ⟨gd, 0, none⟩) n cd) rfl (by kernel_rfl) (by kernel_rfl) (by kernel_rfl) (fun _ _ _ h => h) (.inl ⟨rfl, fun w' hw' => rfl⟩) ?_
    change wpAnyZ Tryz.prog .any _ _ _ _ 13 _ (lprAct _ _ _ _ _ _ _ _ _ _ _ _ (.slice (some ⟨gd, 0, none⟩) n cd) _ _ _ _ _ _ _ _ _ _ _ _) w2.drew
    refine wpAnyZ_takeW (i := 1) (v := .slice (some ⟨g, 0, none⟩) m c) rfl (by kernel_rfl) (by kernel_rfl) (by kernel_rfl) (fun _ _ _ h => h) (.inl ⟨rfl, fun w' hw' => rfl⟩) ?_
    change wpAnyZ Tryz.prog .any _ _ _ _ 12 _ (lprAct _ _ _ _ _ _ _ _ _ _ _ _ (.slice (some ⟨gd, 0, none⟩) n cd) (.slice (some ⟨g, 0, none⟩) m c) _ _ _ _ _ _ _ _ _ _ _) w2.drew
    refine wpAnyZ_takeW (i := 2) (v := .pointer (some ⟨g, 0, none⟩)) rfl (by kernel_rfl) (by kernel_rfl) (by kernel_rfl) (fun _ _ _ h => h) (.inl ⟨rfl, fun w' hw' => exec_index rfl rfl rfl (index_wat0 w' _ _ _ hm0)⟩) ?_
    change wpAnyZ Tryz.prog .any _ _ _ _ 11 _ (lprAct _ _ _ _ _ _ _ _ _ _ _ _ (.slice (some ⟨gd, 0, none⟩) n cd) (.slice (some ⟨g, 0, none⟩) m c) (.pointer (some ⟨g, 0, none⟩)) _ _ _ _ _ _ _ _ _ _) w2.drew
    refine wpAnyZ_takeW (i := 3) (v := .pointer (some ⟨g, 0, none⟩)) rfl (by kernel_rfl) (by kernel_rfl) (by kernel_rfl) (fun _ _ _ h => h) (.inl ⟨rfl, fun w' hw' => exec_field0 rfl rfl⟩) ?_
    change wpAnyZ Tryz.prog .any _ _ _ _ 10 _ (lprAct _ _ _ _ _ _ _ _ _ _ _ _ (.slice (some ⟨gd, 0, none⟩) n cd) (.slice (some ⟨g, 0, none⟩) m c) (.pointer (some ⟨g, 0, none⟩)) (.pointer (some ⟨g, 0, none⟩)) _ _ _ _ _ _ _ _ _) w2.drew
    refine wpAnyZ_take (i := 4) (v := .int .i64 x) rfl (by kernel_rfl) (by kernel_rfl) (by kernel_rfl) (by kernel_rfl) (fun _ _ _ h => h) (.inl ⟨rfl, fun w' hw' => exec_load rfl rfl (load_int w' _ _ _ hw'.1.1)⟩) hS ?_
    change wpAnyZ Tryz.prog .any _ _ _ _ 9 _ (lprAct _ _ _ _ _ _ _ _ _ _ _ _ (.slice (some ⟨gd, 0, none⟩) n cd) (.slice (some ⟨g, 0, none⟩) m c) (.pointer (some ⟨g, 0, none⟩)) (.pointer (some ⟨g, 0, none⟩)) (.int .i64 x) _ _ _ _ _ _ _ _) w2.drew
    refine wpAnyZ_takeW (i := 5) (v := .pointer (some ⟨gd, x, none⟩)) rfl (by kernel_rfl) (by kernel_rfl) (by kernel_rfl) (fun _ _ _ h => h) (.inl ⟨rfl, fun w' hw' => exec_index rfl rfl rfl (index0_ints w' _ _ _ _ hxn)⟩) ?_
    change wpAnyZ Tryz.prog .any _ _ _ _ 8 _ (lprAct _ _ _ _ _ _ _ _ _ _ _ _ (.slice (some ⟨gd, 0, none⟩) n cd) (.slice (some ⟨g, 0, none⟩) m c) (.pointer (some ⟨g, 0, none⟩)) (.pointer (some ⟨g, 0, none⟩)) (.int .i64 x) (.pointer (some ⟨gd, x, none⟩)) _ _ _ _ _ _ _) w2.drew
    refine wpAnyZ_take (i := 6) (v := .int .i64 d) rfl (by kernel_rfl) (by kernel_rfl) (by kernel_rfl) (by kernel_rfl) (fun _ _ _ h => h) (.inl ⟨rfl, fun w' hw' => exec_load rfl rfl (load_int w' _ _ _ hw'.2)⟩) hS ?_
    change wpAnyZ Tryz.prog .any _ _ _ _ 7 _ (lprAct _ _ _ _ _ _ _ _ _ _ _ _ (.slice (some ⟨gd, 0, none⟩) n cd) (.slice (some ⟨g, 0, none⟩) m c) (.pointer (some ⟨g, 0, none⟩)) (.pointer (some ⟨g, 0, none⟩)) (.int .i64 x) (.pointer (some ⟨gd, x, none⟩)) (.int .i64 d) _ _ _ _ _ _) w2.drew
    refine wpAnyZ_takeW (i := 7) (v := .slice (some ⟨g, 0, none⟩) m c) rfl (by kernel_rfl) (by kernel_rfl) (by kernel_rfl) (fun _ _ _ h => h) (.inl ⟨rfl, fun w' hw' => rfl⟩) ?_
    change wpAnyZ Tryz.prog .any _ _ _ _ 6 _ (lprAct _ _ _ _ _ _ _ _ _ _ _ _ (.slice (some ⟨gd, 0, none⟩) n cd) (.slice (some ⟨g, 0, none⟩) m c) (.pointer (some ⟨g, 0, none⟩)) (.pointer (some ⟨g, 0, none⟩)) (.int .i64 x) (.pointer (some ⟨gd, x, none⟩)) (.int .i64 d) (.slice (some ⟨g, 0, none⟩) m c) _ _ _ _ _) w2.drew
    refine wpAnyZ_takeW (i := 8) (v := .pointer (some ⟨g, 0, none⟩)) rfl (by kernel_rfl) (by kernel_rfl) (by kernel_rfl) (fun _ _ _ h => h) (.inl ⟨rfl, fun w' hw' => exec_index rfl rfl rfl (index_wat0 w' _ _ _ hm0)⟩) ?_
    change wpAnyZ Tryz.prog .any _ _ _ _ 5 _ (lprAct _ _ _ _ _ _ _ _ _ _ _ _ (.slice (some ⟨gd, 0, none⟩) n cd) (.slice (some ⟨g, 0, none⟩) m c) (.pointer (some ⟨g, 0, none⟩)) (.pointer (some ⟨g, 0, none⟩)) (.int .i64 x) (.pointer (some ⟨gd, x, none⟩)) (.int .i64 d) (.slice (some ⟨g, 0, none⟩) m c) (.pointer (some ⟨g, 0, none⟩)) _ _ _ _) w2.drew
    refine wpAnyZ_take (i := 9) (v := .agg #[.int .i64 x, .int .i64 la, .bool ln]) rfl (by kernel_rfl) (by kernel_rfl) (by kernel_rfl) (by kernel_rfl) (fun _ _ _ h => h) (.inl ⟨rfl, fun w' hw' => exec_load rfl rfl (load_litO w' _ _ _ _ _ hw'.1.1 hw'.1.2.1 hw'.1.2.2)⟩) hS ?_
    change wpAnyZ Tryz.prog .any _ _ _ _ 4 _ (lprAct _ _ _ _ _ _ _ _ _ _ _ _ (.slice (some ⟨gd, 0, none⟩) n cd) (.slice (some ⟨g, 0, none⟩) m c) (.pointer (some ⟨g, 0, none⟩)) (.pointer (some ⟨g, 0, none⟩)) (.int .i64 x) (.pointer (some ⟨gd, x, none⟩)) (.int .i64 d) (.slice (some ⟨g, 0, none⟩) m c) (.pointer (some ⟨g, 0, none⟩)) (.agg #[.int .i64 x, .int .i64 la, .bool ln]) _ _ _) w2.drew
    refine wpAnyZ_one (i := 10) (by kernel_rfl) rfl (fun K' hK' => ?_)
    refine step_callL1 _ rfl 157 _ _ _ rfl rfl (enters_of Tryz.func157 (by kernel_rfl) rfl) _ HE.out (fun c w' h => by cases h.1) (fun w' h => by cases h.1) ?_
    rintro v9 w9 ⟨e9, b9⟩
    obtain rfl : v9 = .int .i64 dm := by injection e9
    have hS9 : LitAt g 0 ⟨x, la, ln⟩ w9 ∧ w9.cell? ⟨gd, x, none⟩ = some (.int .i64 d) := ⟨litAt_below hS.1 b9, (b9.cell (World.block_lt_of_cell? _ _ hS.2)).trans hS.2⟩
    have HB9 := Lib.hid b9
    clear b9
    refine hK'.out _ _ (fun _ _ => hS9) ?_
    clear hK' K'
    change wpAnyZ Tryz.prog .any _ _ _ _ 3 _ (lprAct _ _ _ _ _ _ _ _ _ _ _ _ (.slice (some ⟨gd, 0, none⟩) n cd) (.slice (some ⟨g, 0, none⟩) m c) (.pointer (some ⟨g, 0, none⟩)) (.pointer (some ⟨g, 0, none⟩)) (.int .i64 x) (.pointer (some ⟨gd, x, none⟩)) (.int .i64 d) (.slice (some ⟨g, 0, none⟩) m c) (.pointer (some ⟨g, 0, none⟩)) (.agg #[.int .i64 x, .int .i64 la, .bool ln]) (.int .i64 dm) _ _) w9
    refine wpAnyZ_takeW (i := 11) (v := .int .i64 (bits .and .i64 d dm)) rfl (by kernel_rfl) (by kernel_rfl) (by kernel_rfl) (fun _ _ _ h => h) (.inl ⟨rfl, fun w' hw' => exec_bin rfl rfl rfl (and_ints _ _ _ _ _)⟩) ?_
    change wpAnyZ Tryz.prog .any _ _ _ _ 2 _ (lprAct _ _ _ _ _ _ _ _ _ _ _ _ (.slice (some ⟨gd, 0, none⟩) n cd) (.slice (some ⟨g, 0, none⟩) m c) (.pointer (some ⟨g, 0, none⟩)) (.pointer (some ⟨g, 0, none⟩)) (.int .i64 x) (.pointer (some ⟨gd, x, none⟩)) (.int .i64 d) (.slice (some ⟨g, 0, none⟩) m c) (.pointer (some ⟨g, 0, none⟩)) (.agg #[.int .i64 x, .int .i64 la, .bool ln]) (.int .i64 dm) (.int .i64 (bits .and .i64 d dm)) _) w9
    refine wpAnyZ_takeW (i := 12) (v := .pointer (some ⟨gd, x, none⟩)) rfl (by kernel_rfl) (by kernel_rfl) (by kernel_rfl) (fun _ _ _ h => h) (.inl ⟨rfl, fun w' hw' => exec_index rfl rfl rfl (index0_ints w' _ _ _ _ hxn)⟩) ?_
    change wpAnyZ Tryz.prog .any _ _ _ _ 1 _ (lprAct _ _ _ _ _ _ _ _ _ _ _ _ (.slice (some ⟨gd, 0, none⟩) n cd) (.slice (some ⟨g, 0, none⟩) m c) (.pointer (some ⟨g, 0, none⟩)) (.pointer (some ⟨g, 0, none⟩)) (.int .i64 x) (.pointer (some ⟨gd, x, none⟩)) (.int .i64 d) (.slice (some ⟨g, 0, none⟩) m c) (.pointer (some ⟨g, 0, none⟩)) (.agg #[.int .i64 x, .int .i64 la, .bool ln]) (.int .i64 dm) (.int .i64 (bits .and .i64 d dm)) (.pointer (some ⟨gd, x, none⟩))) w9
    refine wpAnyZ_one (i := 13) (by kernel_rfl) rfl (fun K' hK' => ?_)
    have HC9 := cf_cell HOW.out HB9.out hS9.2
    refine step_skip _ (w9.setCell ⟨gd, x, none⟩ (.int .i64 (bits .and .i64 d dm))) rfl (exec_store rfl rfl rfl (store_int _ _ _ _ _ hS9.2 HC9)) ?_
    refine hK'.out _ _ (fun h => by cases h) ?_
    clear hK' K'
    change wpAnyZ Tryz.prog .any _ _ _ _ 0 _ (lprAct _ _ _ _ _ _ _ _ _ _ _ _ (.slice (some ⟨gd, 0, none⟩) n cd) (.slice (some ⟨g, 0, none⟩) m c) (.pointer (some ⟨g, 0, none⟩)) (.pointer (some ⟨g, 0, none⟩)) (.int .i64 x) (.pointer (some ⟨gd, x, none⟩)) (.int .i64 d) (.slice (some ⟨g, 0, none⟩) m c) (.pointer (some ⟨g, 0, none⟩)) (.agg #[.int .i64 x, .int .i64 la, .bool ln]) (.int .i64 dm) (.int .i64 (bits .and .i64 d dm)) (.pointer (some ⟨gd, x, none⟩))) (w9.setCell ⟨gd, x, none⟩ (.int .i64 (bits .and .i64 d dm)))
    refine wpAnyZ_done (by kernel_rfl) ?_ _
    unfold lprAct
    have HF9 : Hid ((w9.setCell ⟨gd, x, none⟩ (.int .i64 (bits .and .i64 d dm))).ownsRow B 3 1 (.slice (some ⟨gd, 0, none⟩) n cd) n ((upL ls ds).map (Value.int .i64))) := Lib.hid (by
      have := ((own_below HOW.out HB9.out).stored x (.int .i64 (bits .and .i64 d dm))).1
      rw [HUP.out, List.map_set]
      exact this)
    have HB10 : Hid (OffB (fun b => (Value.slice (some ⟨g, 0, none⟩) m c).ownBlock = some b ∨ b = gd) w (w9.setCell ⟨gd, x, none⟩ (.int .i64 (bits .and .i64 d dm)))) := Lib.hid ((HBD.out.step HB9.out).set _ (.inr rfl))
    have HC10 : Hid (OwnC (w9.setCell ⟨gd, x, none⟩ (.int .i64 (bits .and .i64 d dm))) Bc (.slice (some ⟨g, 0, none⟩) m c) m cs) := Lib.hid ((HOCD.out.below HB9.out).keep (fun b hb => Below.heap_setCell _ _ _ _ (by show b ≠ gd; intro e; exact HNE.out (by rw [hb, e]))))
    clear hS hS9 HC9
    go_wp2
    refine bodyPost_end (results_none rfl _ _ _) rfl ?_
    exact ⟨⟨_, rfl⟩, HF9.out, ⟨cs, HPM.out, HC10.out⟩, HB10.out⟩
  · have HUP := Lib.hid (upL_two hp)
    clear hp
    go_wp2
    refine bodyPost_end (results_none rfl _ _ _) rfl ?_
    exact ⟨⟨_, rfl⟩, by rw [HUP.out]; exact HOW2.out, ⟨cs, HPM.out, HOC.out⟩, HBB.out⟩

set_option maxRecDepth 100000 in
set_option maxHeartbeats 2000000 in
theorem watchedOf_any (v : Value) (ls : List Lit) (w : World) (h : RdLits w v ls) (hx : ls.length ≤ 1000) :
    Calls Tryz.prog 155 #[v] w fun e w' => ∃ v', e = .returned v' ∧ OwnC w' w.heap.size v' ls.length ls ∧ Below w.heap.size w w' := by
  have HC := Lib.hid (clone_any v ls w h hx)
  obtain ⟨a, cap, ev, _⟩ := h
  rw [ev] at HC ⊢
  clear ev
  go_enter Tryz.func155, Tryz.ntmps155
  go_wp2_with fail
  refine HC.out.mono ?_
  rintro e w2 ⟨v', rfl, oc, b⟩
  obtain ⟨a2, c2, e2, _⟩ := oc.form
  subst e2
  have HO := Lib.hid oc
  have HB := Lib.hid b
  clear oc b
  go_wp2
  go_ret
  exact ⟨_, rfl, HO.out, HB.out⟩

end Go.Proofs.YtipapmmjfoaddaaGreat
