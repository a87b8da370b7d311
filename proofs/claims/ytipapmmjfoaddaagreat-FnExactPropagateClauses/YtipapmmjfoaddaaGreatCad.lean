/- The program's checker with clauses of its own. -/
import Derived.Test.YtipapmmjfoaddaaGreatUni
import Derived.Test.YtipapmmjfoaddaaGreatClz
import Derived.Deep.AppendLies
namespace Go.Proofs.YtipapmmjfoaddaaGreat
open Go.ChangeShapes Go.WideShapes Go.ChangeAt Go.RowKit Go.Deep Go.Shelf
set_option linter.unusedVariables false
set_option linter.unusedSimpArgs false

theorem blk3_set {w : World} {D : Nat} {a b c : Value} {t : TypeId} {fr : Nat × Nat} (h : w.heap[D]? = some (.cells #[a, b, c] t fr)) (v : Value) : (w.setCell ⟨D, 2, none⟩ v).heap[D]? = some (.cells #[a, b, v] t fr) := by
  obtain ⟨hlt, hk⟩ := Array.getElem?_eq_some_iff.1 h
  show (w.heap.modify D _)[D]? = _
  rw [Array.getElem?_eq_getElem (by rw [Array.size_modify]; exact hlt), Array.getElem_modify_self, hk]
  rfl
section
set_option maxRecDepth 100000
theorem exec_field2 {w : World} {ev : Operand → Value} {o : Oper} {x : Operand} {b : Nat} (ho : o.op = .fieldAddr 129 x 2) (hx : ev x = .pointer (some ⟨b, 0, none⟩)) : (execOp ev o).run Tryz.prog w = .ok (.value (.pointer (some ⟨b, 2, none⟩))) w := by
  unfold execOp
  simp only [ho, hx]
  go_simp
theorem exec_nil {w : World} {ev : Operand → Value} {o : Oper} {x : Operand} {b : Nat} (ho : o.op = .nilCheck x) (hx : ev x = .pointer (some ⟨b, 0, none⟩)) : (execOp ev o).run Tryz.prog w = .ok (.value (.pointer (some ⟨b, 0, none⟩))) w := by
  unfold execOp
  simp only [ho, hx]
  go_simp
theorem load_wats (w : World) (g o : Nat) (a : Option Addr) (n c : Nat) (h : w.cell? ⟨g, o, none⟩ = some (.slice a n c)) : (loadVar 127 ⟨g, o, none⟩).run Tryz.prog w = .ok (.slice a n c) w := by
  go_simp
theorem store_wats (w : World) (g o : Nat) (v : Value) (a : Option Addr) (n c : Nat) (h : w.cell? ⟨g, o, none⟩ = some v) (hf : w.frozen? ⟨g, o, none⟩ = false) : (Instr.storeAt 127 (.pointer (some ⟨g, o, none⟩)) (.slice a n c)).run Tryz.prog w = .ok () (w.setCell ⟨g, o, none⟩ (.slice a n c)) := by
  go_simp
theorem build_wat (w : World) (a : Option Addr) (n c : Nat) : (Instr.buildSlice 127 1 #[(0, .slice a n c)]).run Tryz.prog w = .ok (.slice (some ⟨w.heap.size, 0, none⟩) 1 1) (w.alloc (.cells #[.slice a n c] 158)) := by
  go_simp
end
theorem infoWat : (Tryz.prog.info? 158).map (fun i => (i.zero, i.size, i.bytes)) = some (some (.slice none 0 0), 1, 24) := by kernel_rfl
theorem tyCP : (158 : TypeId) ≠ 113 := by decide
theorem tyCK : (158 : TypeId) ≠ 129 := by decide
theorem tyPK : (113 : TypeId) ≠ 129 := by decide
theorem Chk.frozen {w0 : World} {cs : List Con} {ds : List Int} {D : Nat} {pv dv cv : Value} {P : List (Value × Nat × Value)} {vals : List Value} {cls : List (List Lit)} {X : World} (h : Chk w0 cs ds D pv dv cv P vals cls X) (i : Nat) : X.frozen? ⟨D, i, none⟩ = false := by
  have := h.box
  simp [World.frozen?, this]
/-- A clause has been added. -/
theorem Chk.added {w0 : World} {cs : List Con} {ds : List Int} {D : Nat} {pv dv cv : Value} {P : List (Value × Nat × Value)} {vals : List Value} {cls : List (List Lit)} {X X2 X3 w6 : World} (h : Chk w0 cs ds D pv dv cv P vals cls X) {c : List Lit} {u : Value} {g cap : Nat}
    (b2 : Below X.heap.size X X2) (hu : OwnC X2 X.heap.size u c.length c) (b3 : Below X2.heap.size X2 X3) (hg : X3.grownBy w6 cv.ownBlock)
    (hown : w6.ownsRow w0.heap.size 158 1 (.slice (some ⟨g, 0, none⟩) (cls.length + 1) cap) (cls.length + 1) (vals ++ [u])) :
    Chk w0 cs ds D pv dv (.slice (some ⟨g, 0, none⟩) (cls.length + 1) cap) P (vals ++ [u]) (cls ++ [c]) (w6.setCell ⟨D, 2, none⟩ (.slice (some ⟨g, 0, none⟩) (cls.length + 1) cap)) ∧ OffB (fun b => b = D ∨ cv.ownBlock = some b) X (w6.setCell ⟨D, 2, none⟩ (.slice (some ⟨g, 0, none⟩) (cls.length + 1) cap)) := by
  have h3 := (h.step b2).step b3
  have hcv : ∀ b, cv.ownBlock = some b → w0.heap.size ≤ b ∧ ∃ cur, X3.heap[b]? = some (.cells cur 158 (0, 0)) := fun b hb => by
    obtain ⟨q1, _, q3⟩ := ownBlk h3.row hb
    exact ⟨q1, q3⟩
  have keep6 : ∀ (b : Nat) (cur : Array Value) (t : TypeId), X3.heap[b]? = some (.cells cur t (0, 0)) → 158 ≠ t → w6.heap[b]? = X3.heap[b]? := fun b cur t hb ht => hg.block b (Array.getElem?_eq_some_iff.1 hb).1 (fun e => by
    obtain ⟨_, c', hc'⟩ := hcv b e.symm
    exact blkNe hc' hb ht rfl)
  have keepD : ∀ b, b ≠ D → (w6.setCell ⟨D, 2, none⟩ (.slice (some ⟨g, 0, none⟩) (cls.length + 1) cap)).heap[b]? = w6.heap[b]? := fun b hb => Below.heap_setCell _ _ _ _ (by show b ≠ D; exact hb)
  have box6 : w6.heap[D]? = some (.cells #[pv, dv, cv] 129 (0, 0)) := (keep6 _ _ _ h3.box tyCK).trans h3.box
  have keep : ∀ (b : Nat) (cur : Array Value) (t : TypeId), X3.heap[b]? = some (.cells cur t (0, 0)) → 158 ≠ t → t ≠ 129 → (w6.setCell ⟨D, 2, none⟩ (.slice (some ⟨g, 0, none⟩) (cls.length + 1) cap)).heap[b]? = X3.heap[b]? := fun b cur t hb ht ht2 => (keepD b (fun e => blkNe hb h3.box ht2 e)).trans (keep6 b cur t hb ht)
  have hul : ∀ b, u.ownBlock = some b → X.heap.size ≤ b := fun b hb => (ownBlk hu.2 hb).1
  have hvl : ∀ (i : Nat) (v : Value) (b : Nat), vals[i]? = some v → v.ownBlock = some b → b < X.heap.size := fun i v b hi hb => (h.clB ⟨v, List.mem_of_getElem? hi, hb⟩).2.1
  have hlen := h.len
  have b6 : Below w0.heap.size w0 w6 := h3.b.grown hg h3.b.size (fun r e => (hcv r e).1)
  refine ⟨⟨b6.setCell (p := ⟨D, 2, none⟩) h.hD _, h.hD, blk3_set box6 _, ownKeep h3.pr (fun b hb => ?_), h.po, h.dr, ?_, fun i ls hi => ?_, fun i j x y b hi hj hij hx => ?_⟩, ?_⟩
  · obtain ⟨_, _, cur, hc⟩ := ownBlk h3.pr hb
    exact keep _ _ _ hc tyCP tyPK
  · rw [List.length_append]
    refine ownKeep hown (fun b hb => keepD b (fun e => ?_))
    obtain ⟨_, _, cur, hc⟩ := ownBlk hown hb
    exact blkNe hc box6 tyCK e
  · by_cases hi' : i < cls.length
    · rw [List.getElem?_append_left hi'] at hi
      obtain ⟨v, ks, h1, h2, hq⟩ := h3.cl i ls hi
      refine ⟨v, ks, by rw [List.getElem?_append_left (by omega)]; exact h1, h2, hq.keep (fun b hb => ?_)⟩
      obtain ⟨_, _, cur, hc⟩ := ownBlk hq.2 hb
      exact keep _ _ _ hc tyLC.symm tyLK
    · rw [List.getElem?_append_right (by omega)] at hi
      have : i - cls.length = 0 := by
        have := (List.getElem?_eq_some_iff.1 hi).1
        simp at this
        omega
      rw [this] at hi
      simp at hi
      subst hi
      have hu3 := hu.below b3
      refine ⟨u, c, by rw [List.getElem?_append_right (by omega), hlen, this]; rfl, List.Perm.refl _, ⟨hu.1, own_mono (ownKeep hu3.2 (fun b hb => ?_)) h.b.size⟩⟩
      obtain ⟨_, _, cur, hc⟩ := ownBlk hu3.2 hb
      exact keep _ _ _ hc tyLC.symm tyLK
  · intro hy
    by_cases hi' : i < vals.length
    · rw [List.getElem?_append_left hi'] at hi
      by_cases hj' : j < vals.length
      · rw [List.getElem?_append_left hj'] at hj
        exact h.ap i j x y b hi hj hij hx hy
      · rw [List.getElem?_append_right (by omega)] at hj
        have : j - vals.length = 0 := by
          have := (List.getElem?_eq_some_iff.1 hj).1
          simp at this
          omega
        rw [this] at hj
        simp at hj
        subst hj
        have q1 := hvl i x b hi hx
        have q2 := hul b hy
        omega
    · rw [List.getElem?_append_right (by omega)] at hi
      have h0 : i - vals.length = 0 := by
        have := (List.getElem?_eq_some_iff.1 hi).1
        simp at this
        omega
      rw [h0] at hi
      simp at hi
      subst hi
      by_cases hj' : j < vals.length
      · rw [List.getElem?_append_left hj'] at hj
        have q1 := hvl j y b hj hy
        have q2 := hul b hx
        omega
      · have := (List.getElem?_eq_some_iff.1 hj).1
        simp at this
        omega
  · refine ⟨hg.os.trans (b3.os.trans b2.os), hg.tape.trans (b3.tape.trans b2.tape), hg.output.trans (b3.output.trans b2.output), by have := hg.size; have := b3.size; have := b2.size; simp; omega, fun b hb hn => ?_⟩
    have l2 : b < X2.heap.size := Nat.lt_of_lt_of_le hb b2.size
    have l3 : b < X3.heap.size := Nat.lt_of_lt_of_le l2 b3.size
    exact (keepD b (fun e => hn (.inl e))).trans ((hg.block b l3 (fun e => hn (.inr e.symm))).trans ((b3.block b l2).trans (b2.block b hb)))

/-- The activation inside the region of add. -/
def adAct (z0 z1 z2 z3 z4 z5 z6 z7 z8 z9 z10 z11 z12 z13 z14 : Value) : Act := { tmps := #[z0, z1, z2, z3, z4, z5, z6, z7, z8, z9, z10, z11, z12, z13, z14], defers := [] }
set_option maxRecDepth 100000 in
set_option maxHeartbeats 8000000 in
theorem add_any {w0 : World} {cs : List Con} {ds : List Int} {D : Nat} {pv dv cv : Value} {P : List (Value × Nat × Value)} {vals : List Value} {cls : List (List Lit)} {X : World} (h : Chk w0 cs ds D pv dv cv P vals cls X) {lv : Value} {c : List Lit}
    (hl : RdLits X lv c) (hx : c.length ≤ 1000) (hn : cls.length ≤ 1000000) :
    Calls Tryz.prog 118 #[.pointer (some ⟨D, 0, none⟩), lv] X fun e Y => (∃ u, e = .returned u) ∧ ∃ cv' u', Chk w0 cs ds D pv dv cv' P (vals ++ [u']) (cls ++ [c]) Y ∧ OffB (fun b => b = D ∨ cv.ownBlock = some b) X Y := by
  obtain ⟨ca, cc, ecv, hk1, hk2, -⟩ := ownForm h.row
  have HWO := Lib.hid (watchedOf_any lv c X.drew (hl.below (Below.refl _ _).drew) hx)
  obtain ⟨la, lc, elv, -⟩ := id hl
  have hlc := (rdLits_len (by rwa [elv] at hl)).2
  have hlc1 := hlc.1
  have hlc2 := hlc.2
  obtain ⟨nl, hnl⟩ : ∃ nl, nl = c.length := ⟨_, rfl⟩
  obtain ⟨k, hk⟩ : ∃ k, k = cls.length := ⟨_, rfl⟩
  rw [← hnl] at elv hlc1
  rw [← hk] at ecv hk1 hn
  subst ecv elv
  have HK := Lib.hid hk
  have HX := Lib.hid h
  have HXB := Lib.hid h.b.size
  have hS : X.drew.cell? ⟨D, 2, none⟩ = some (.slice ca k cc) := h.cell.2.2
  obtain ⟨i0, hi, hz0, hz1, hz2⟩ := info_parts infoWat
  clear h hl hx hnl hk hlc
  go_enter Tryz.func118, Tryz.ntmps118
  go_wp2_with fail
  refine region_x (fun w' => w'.cell? ⟨D, 2, none⟩ = some (.slice ca k cc)) (fun j => j == 11) rfl ?_
  change wpAnyX Tryz.prog .any _ _ _ _ 12 _ (adAct _ _ _ _ _ _ _ _ _ _ _ _ _ _ _) X.drew
  refine wpAnyX_take (i := 0) (v := .pointer (some ⟨D, 0, none⟩)) rfl (by kernel_rfl) (by kernel_rfl) (by kernel_rfl) (by kernel_rfl) (fun _ _ _ h => h) (.inl ⟨rfl, fun w' hw' => rfl⟩) hS ?_
  change wpAnyX Tryz.prog .any _ _ _ _ 11 _ (adAct _ _ _ _ (.pointer (some ⟨D, 0, none⟩)) _ _ _ _ _ _ _ _ _ _) X.drew
  refine wpAnyX_take (i := 1) (v := .pointer (some ⟨D, 0, none⟩)) rfl (by kernel_rfl) (by kernel_rfl) (by kernel_rfl) (by kernel_rfl) (fun _ _ _ h => h) (.inl ⟨rfl, fun w' hw' => rfl⟩) hS ?_
  change wpAnyX Tryz.prog .any _ _ _ _ 10 _ (adAct _ _ _ _ (.pointer (some ⟨D, 0, none⟩)) (.pointer (some ⟨D, 0, none⟩)) _ _ _ _ _ _ _ _ _) X.drew
  refine wpAnyX_take (i := 2) (v := .pointer (some ⟨D, 0, none⟩)) rfl (by kernel_rfl) (by kernel_rfl) (by kernel_rfl) (by kernel_rfl) (fun _ _ _ h => h) (.inl ⟨rfl, fun w' hw' => exec_nil rfl rfl⟩) hS ?_
  change wpAnyX Tryz.prog .any _ _ _ _ 9 _ (adAct _ _ _ _ (.pointer (some ⟨D, 0, none⟩)) (.pointer (some ⟨D, 0, none⟩)) (.pointer (some ⟨D, 0, none⟩)) _ _ _ _ _ _ _ _) X.drew
  refine wpAnyX_take (i := 3) (v := .pointer (some ⟨D, 2, none⟩)) rfl (by kernel_rfl) (by kernel_rfl) (by kernel_rfl) (by kernel_rfl) (fun _ _ _ h => h) (.inl ⟨rfl, fun w' hw' => exec_field2 rfl rfl⟩) hS ?_
  change wpAnyX Tryz.prog .any _ _ _ _ 8 _ (adAct _ _ _ _ (.pointer (some ⟨D, 0, none⟩)) (.pointer (some ⟨D, 0, none⟩)) (.pointer (some ⟨D, 0, none⟩)) (.pointer (some ⟨D, 2, none⟩)) _ _ _ _ _ _ _) X.drew
  refine wpAnyX_take (i := 4) (v := .slice ca k cc) rfl (by kernel_rfl) (by kernel_rfl) (by kernel_rfl) (by kernel_rfl) (fun _ _ _ h => h) (.inl ⟨rfl, fun w' hw' => exec_load rfl rfl (load_wats w' _ _ _ _ _ hw')⟩) hS ?_
  change wpAnyX Tryz.prog .any _ _ _ _ 7 _ (adAct _ _ _ _ (.pointer (some ⟨D, 0, none⟩)) (.pointer (some ⟨D, 0, none⟩)) (.pointer (some ⟨D, 0, none⟩)) (.pointer (some ⟨D, 2, none⟩)) (.slice ca k cc) _ _ _ _ _ _) X.drew
  refine wpAnyX_take (i := 5) (v := .slice la nl lc) rfl (by kernel_rfl) (by kernel_rfl) (by kernel_rfl) (by kernel_rfl) (fun _ _ _ h => h) (.inl ⟨rfl, fun w' hw' => rfl⟩) hS ?_
  change wpAnyX Tryz.prog .any _ _ _ _ 6 _ (adAct _ _ _ _ (.pointer (some ⟨D, 0, none⟩)) (.pointer (some ⟨D, 0, none⟩)) (.pointer (some ⟨D, 0, none⟩)) (.pointer (some ⟨D, 2, none⟩)) (.slice ca k cc) (.slice la nl lc) _ _ _ _ _) X.drew
  refine wpAnyX_one (i := 6) (by kernel_rfl) rfl (fun K' hK' => ?_)
  refine step_callL1 _ rfl 155 _ _ _ rfl rfl (enters_of Tryz.func155 (by kernel_rfl) rfl) _ HWO.out (fun c w' h => by obtain ⟨_, h, _⟩ := h; cases h) (fun w' h => by obtain ⟨_, h, _⟩ := h; cases h) ?_
  rintro vq X2 ⟨v2, e2, o2, b2⟩
  injection e2 with e2
  subst e2
  obtain ⟨ua, uc, eu, -⟩ := o2.form
  subst eu
  have HB2 : Hid (Below X.heap.size X X2) := Lib.hid ((show Below X.heap.size X X.drew from (Below.refl _ _).drew).trans b2)
  have HU2 : Hid (OwnC X2 X.heap.size (.slice ua c.length uc) c.length c) := Lib.hid o2
  have hS2 : X2.cell? ⟨D, 2, none⟩ = some (.slice ca k cc) := (HX.out.step HB2.out).cell.2.2
  clear o2 b2
  refine hK'.out _ _ (fun _ => hS2) ?_
  clear hK' K'
  change wpAnyX Tryz.prog .any _ _ _ _ 5 _ (adAct _ _ _ _ (.pointer (some ⟨D, 0, none⟩)) (.pointer (some ⟨D, 0, none⟩)) (.pointer (some ⟨D, 0, none⟩)) (.pointer (some ⟨D, 2, none⟩)) (.slice ca k cc) (.slice la nl lc) (.slice ua c.length uc) _ _ _ _) X2
  refine wpAnyX_one (i := 7) (by kernel_rfl) rfl (fun K' hK' => ?_)
  refine step_value _ (X2.alloc (.cells #[.slice ua c.length uc] 158)) rfl _ (exec_build1 rfl rfl (build_wat X2 _ _ _)) ?_
  have hS3 : (X2.alloc (.cells #[.slice ua c.length uc] 158)).cell? ⟨D, 2, none⟩ = some (.slice ca k cc) := ((HX.out.step HB2.out).step ((Below.refl _ _).alloc (Nat.le_refl _) _)).cell.2.2
  refine hK'.out _ _ (fun _ => hS3) ?_
  clear hK' K'
  change wpAnyX Tryz.prog .any _ _ _ _ 4 _ (adAct _ _ _ _ (.pointer (some ⟨D, 0, none⟩)) (.pointer (some ⟨D, 0, none⟩)) (.pointer (some ⟨D, 0, none⟩)) (.pointer (some ⟨D, 2, none⟩)) (.slice ca k cc) (.slice la nl lc) (.slice ua c.length uc) (.slice (some ⟨X2.heap.size, 0, none⟩) 1 1) _ _ _) (X2.alloc (.cells #[.slice ua c.length uc] 158))
  refine wpAnyX_one (i := 8) (by kernel_rfl) rfl (fun K' hK' => ?_)
  refine step_append_lies _ rfl (.tmp 8) (.tmp 11) 127 rfl w0.heap.size 158 i0 (.slice none 0 0) 1 24 Tryz.underlying127 hi hz0 hz1 hz2 rfl (by decide) _ k vals rfl (by have := ((HX.out.step HB2.out).step ((Below.refl _ _).alloc (Nat.le_refl _) (.cells #[.slice ua c.length uc] 158))).row; rw [← HK.out] at this; exact this) ⟨X2.heap.size, 0, none⟩ 1 1 [.slice ua c.length uc] rfl rfl (World.news_of_block (World.alloc_heap_new X2 _)) (by simp [Value.oneCell']) (by decide) (by unfold maxLen; omega) (by omega) (by have := HXB.out; have := HB2.out.size; simp; omega) _ rfl ?_
  intro g cap' w6 hown hgrow hat hlt6
  have HO6 := Lib.hid hown
  have HG6 := Lib.hid hgrow
  have hS6 : w6.cell? ⟨D, 2, none⟩ = some (.slice ca k cc) := by
    have h3 := (HX.out.step HB2.out).step ((Below.refl _ _).alloc (Nat.le_refl _) (.cells #[.slice ua c.length uc] 158))
    refine (World.cell?_of_block (w := (X2.alloc (.cells #[.slice ua c.length uc] 158))) (hgrow.block D h3.lt (fun e => ?_))).trans h3.cell.2.2
    obtain ⟨_, _, cur, hc⟩ := ownBlk h3.row e.symm
    exact blkNe hc h3.box tyCK rfl
  have hF6 : w6.frozen? ⟨D, 2, none⟩ = false := by
    have h3 := (HX.out.step HB2.out).step ((Below.refl _ _).alloc (Nat.le_refl _) (.cells #[.slice ua c.length uc] 158))
    refine (World.frozen?_of_block (w := (X2.alloc (.cells #[.slice ua c.length uc] 158))) (hgrow.block D h3.lt (fun e => ?_))).trans (h3.frozen 2)
    obtain ⟨_, _, cur, hc⟩ := ownBlk h3.row e.symm
    exact blkNe hc h3.box tyCK rfl
  clear hown hgrow hat hlt6
  refine hK'.out _ _ (fun _ => hS6) ?_
  clear hK' K'
  change wpAnyX Tryz.prog .any _ _ _ _ 3 _ (adAct _ _ _ _ (.pointer (some ⟨D, 0, none⟩)) (.pointer (some ⟨D, 0, none⟩)) (.pointer (some ⟨D, 0, none⟩)) (.pointer (some ⟨D, 2, none⟩)) (.slice ca k cc) (.slice la nl lc) (.slice ua c.length uc) (.slice (some ⟨X2.heap.size, 0, none⟩) 1 1) (.slice (some ⟨g, 0, none⟩) (k + 1) cap') _ _) w6
  refine wpAnyX_one (i := 9) (by kernel_rfl) rfl (fun K' hK' => ?_)
  refine step_value _ w6 rfl _ (exec_nil rfl rfl) ?_
  refine hK'.out _ _ (fun _ => hS6) ?_
  clear hK' K'
  change wpAnyX Tryz.prog .any _ _ _ _ 2 _ (adAct _ _ _ _ (.pointer (some ⟨D, 0, none⟩)) (.pointer (some ⟨D, 0, none⟩)) (.pointer (some ⟨D, 0, none⟩)) (.pointer (some ⟨D, 2, none⟩)) (.slice ca k cc) (.slice la nl lc) (.slice ua c.length uc) (.slice (some ⟨X2.heap.size, 0, none⟩) 1 1) (.slice (some ⟨g, 0, none⟩) (k + 1) cap') (.pointer (some ⟨D, 0, none⟩)) _) w6
  refine wpAnyX_take (i := 10) (v := .pointer (some ⟨D, 2, none⟩)) rfl (by kernel_rfl) (by kernel_rfl) (by kernel_rfl) (by kernel_rfl) (fun _ _ _ h => h) (.inl ⟨rfl, fun w' hw' => exec_field2 rfl rfl⟩) hS6 ?_
  change wpAnyX Tryz.prog .any _ _ _ _ 1 _ (adAct _ _ _ _ (.pointer (some ⟨D, 0, none⟩)) (.pointer (some ⟨D, 0, none⟩)) (.pointer (some ⟨D, 0, none⟩)) (.pointer (some ⟨D, 2, none⟩)) (.slice ca k cc) (.slice la nl lc) (.slice ua c.length uc) (.slice (some ⟨X2.heap.size, 0, none⟩) 1 1) (.slice (some ⟨g, 0, none⟩) (k + 1) cap') (.pointer (some ⟨D, 0, none⟩)) (.pointer (some ⟨D, 2, none⟩))) w6
  refine wpAnyX_one (i := 11) (by kernel_rfl) rfl (fun K' hK' => ?_)
  refine step_skip _ (w6.setCell ⟨D, 2, none⟩ (.slice (some ⟨g, 0, none⟩) (k + 1) cap')) rfl (exec_store rfl rfl rfl (store_wats _ _ _ _ _ _ _ hS6 hF6)) ?_
  refine hK'.out _ _ (fun _ => by rename_i h; cases h) ?_
  clear hK' K'
  change wpAnyX Tryz.prog .any _ _ _ _ 0 _ (adAct _ _ _ _ (.pointer (some ⟨D, 0, none⟩)) (.pointer (some ⟨D, 0, none⟩)) (.pointer (some ⟨D, 0, none⟩)) (.pointer (some ⟨D, 2, none⟩)) (.slice ca k cc) (.slice la nl lc) (.slice ua c.length uc) (.slice (some ⟨X2.heap.size, 0, none⟩) 1 1) (.slice (some ⟨g, 0, none⟩) (k + 1) cap') (.pointer (some ⟨D, 0, none⟩)) (.pointer (some ⟨D, 2, none⟩))) (w6.setCell ⟨D, 2, none⟩ (.slice (some ⟨g, 0, none⟩) (k + 1) cap'))
  refine wpAnyX_done (by kernel_rfl) ?_ _
  unfold adAct
  have hfin := HX.out.added HB2.out HU2.out ((Below.refl _ _).alloc (Nat.le_refl _) _) HG6.out (by rw [← HK.out]; exact HO6.out)
  rw [← HK.out] at hfin
  have HFIN := Lib.hid hfin
  clear hfin hS hS2 hS3 hS6
  go_wp2
  refine bodyPost_end (results_none rfl _ _ _) rfl ?_
  exact ⟨⟨_, rfl⟩, _, _, HFIN.out.1, HFIN.out.2⟩
end Go.Proofs.YtipapmmjfoaddaaGreat
