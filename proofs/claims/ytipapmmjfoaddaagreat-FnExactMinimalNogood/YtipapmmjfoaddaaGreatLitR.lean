/- The reference's Resolve. -/
import Derived.Test.YtipapmmjfoaddaaGreatLitU
import Derived.Test.YtipapmmjfoaddaaGreatOrdX
namespace Go.Proofs.YtipapmmjfoaddaaGreat
open Go.ChangeShapes Go.WideShapes Go.ChangeAt Go.RowKit Go.Deep Go.Shelf
set_option linter.unusedVariables false
set_option linter.unusedSimpArgs false

/-- The activation inside the region of the reference's without. -/
def woAct (z0 z1 z2 z3 z4 z5 z6 z7 z8 z9 z10 z11 z12 z13 z14 z15 z16 z17 z18 z19 z20 z21 z22 z23 z24 z25 z26 z27 : Value) : Act := { tmps := #[z0, z1, z2, z3, z4, z5, z6, z7, z8, z9, z10, z11, z12, z13, z14, z15, z16, z17, z18, z19, z20, z21, z22, z23, z24, z25, z26, z27], defers := [] }
set_option maxRecDepth 100000 in
theorem neq_lit (w : World) (x y : Operand) (l k : Lit) : (do eqGuard .neq 91 x y (.agg #[.int .i64 l.var, .int .i64 l.val, .bool l.neg]) (.agg #[.int .i64 k.var, .int .i64 k.val, .bool k.neg]); binOp .neq 91 (.agg #[.int .i64 l.var, .int .i64 l.val, .bool l.neg]) (.agg #[.int .i64 k.var, .int .i64 k.val, .bool k.neg]) : Sem Value).run Tryz.prog w = .ok (.bool (!decide (l = k))) w := by
  obtain ⟨a, b, c⟩ := l
  obtain ⟨p, q, r⟩ := k
  go_simp
  by_cases h1 : a = p
  · by_cases h2 : b = q
    · by_cases h3 : c = r <;> simp [h1, h2, h3]
    · simp [h1, h2]
  · simp [h1]
abbrev NeqRun (l o : Lit) (t : Bool) : Prop := ∀ (w' : World) (x y : Operand), (do eqGuard .neq 91 x y (.agg #[.int .i64 l.var, .int .i64 l.val, .bool l.neg]) (.agg #[.int .i64 o.var, .int .i64 o.val, .bool o.neg]); binOp .neq 91 (.agg #[.int .i64 l.var, .int .i64 l.val, .bool l.neg]) (.agg #[.int .i64 o.var, .int .i64 o.val, .bool o.neg]) : Sem Value).run Tryz.prog w' = .ok (.bool t) w'
/-- A clause without a literal. -/
def wioL (ls : List Lit) (l : Lit) : List Lit := ls.filter (fun o => !decide (o = l))
theorem wioL_step (ls : List Lit) (l : Lit) (k : Nat) (o : Lit) (h : ls[k]? = some o) : wioL (ls.take (k + 1)) l = wioL (ls.take k) l ++ (if (!decide (o = l)) = true then [o] else []) := by
  unfold wioL
  rw [List.take_add_one, h, List.filter_append]
  simp [List.filter_cons]
theorem wioL_len (ls : List Lit) (l : Lit) : (wioL ls l).length ≤ ls.length := List.length_filter_le _ _
theorem wioL_asc {ls : List Lit} (h : Asc ls) (l : Lit) : Asc (wioL ls l) := List.Pairwise.filter _ h
theorem mem_wioL (ls : List Lit) (l x : Lit) : x ∈ wioL ls l ↔ x ∈ ls ∧ x ≠ l := by
  unfold wioL
  rw [List.mem_filter]
  simp
theorem wioL_same (ls : List Lit) (l : Lit) : decide ((wioL ls l).length = ls.length) = !decide (l ∈ ls) := by
  by_cases h : l ∈ ls
  · rw [decide_eq_true h, decide_eq_false_iff_not.2 (fun e => ?_)]
    · rfl
    · have hs := List.filter_sublist (p := fun o => !decide (o = l)) (l := ls)
      have he : wioL ls l = ls := hs.eq_of_length e
      have := (mem_wioL ls l l).1 (by rw [he]; exact h)
      exact this.2 rfl
  · rw [decide_eq_false h]
    have : wioL ls l = ls := List.filter_eq_self.2 (fun x hx => by simp; exact fun e => h (e ▸ hx))
    rw [this]
    simp

set_option maxRecDepth 100000 in
set_option maxHeartbeats 8000000 in
theorem swithout_any (v : Value) (ls : List Lit) (l : Lit) (w : World) (h : RdLits w v ls) (hx : ls.length ≤ 1000) :
    Calls Tryz.prog 121 #[v, .agg #[.int .i64 l.var, .int .i64 l.val, .bool l.neg]] w (LitsPost (wioL ls l) w) := by
  unfold LitsPost
  obtain ⟨a, cap, ev, hl, hm, _⟩ := id h
  obtain ⟨m, hm'⟩ : ∃ m, m = ls.length := ⟨_, rfl⟩
  have HN := Lib.hid hm'
  rw [ev] at h ⊢
  rw [← hm'] at hl h hx ⊢
  obtain ⟨W0, hW0⟩ : ∃ W0, w.alloc (.cells #[.int .i64 l.var, .int .i64 l.val, .bool l.neg] 91) = W0 := ⟨_, rfl⟩
  obtain ⟨W, hW⟩ : ∃ W, W0.alloc (.cells #[] 91) = W := ⟨_, rfl⟩
  have b0 : Below w.heap.size w W0 := by rw [← hW0]; exact below1 _ _
  have b1 : Below W0.heap.size W0 W := by rw [← hW]; exact below1 _ _
  have hs0 : W0.heap.size = w.heap.size + 1 := by rw [← hW0, World.size_alloc]
  have HQ : Hid (LitCs w.heap.size l W0) := Lib.hid (by rw [← hW0]; exact (Blk3.new _ _ _ _ _).cell)
  have HC := Lib.hid (h.below b0)
  have HB := Lib.hid b0
  have HB1 := Lib.hid b1
  have HO0 : Hid (OwnL W W0.heap.size (.slice (some ⟨w.heap.size + 1, 0, none⟩) 0 0) (wioL (ls.take 0) l)) := Lib.hid (by
    have := ownL_new W0 W0.heap.size (Nat.le_refl _)
    rw [hW] at this
    rw [← hs0]
    exact this)
  have HW0 := Lib.hid hW0
  have HW := Lib.hid hW
  clear hm' ev h hW hW0 b1 b0 hs0
  unfold maxLen at hm
  go_enter Tryz.func121, Tryz.ntmps121
  go_wp2
  rw [HW0.out, HW.out]
  go_loopw [5, 6] (fun q i wr => ∃ k : Nat, k ≤ m ∧ i = .int .i64 k ∧ Hid (OwnL wr W0.heap.size q (wioL (ls.take k) l)) ∧ Hid (Below W0.heap.size W0 wr)) (fun _ i _ => m - (intOf i).toNat)
  case atStart => exact ⟨0, Nat.zero_le _, rfl, HO0, HB1⟩
  case round =>
    rename_i vo _
    obtain ⟨k, hk, rfl, HO, HBW⟩ := hrel
    by_cases hlt : k < m
    · obtain ⟨b, off, o, rfl, hck, k0, k1, k2⟩ := rdLits_at (HC.out.below HBW.out) hlt
      have HST := Lib.hid (wioL_step ls l k o hck)
      have hS : LitCs w.heap.size l wr.drew ∧ LitAt b (off + k * 3) o wr.drew := ⟨litCells_below HQ.out HBW.out.drew, k0, k1, k2⟩
      have HLE : Hid ((wioL (ls.take k) l).length ≤ 1000) := Lib.hid (by
        have h1 := wioL_len (ls.take k) l
        have h2 : (ls.take k).length ≤ k := by simp; omega
        omega)
      clear hck
      by_cases he : o = l
      · have HEQ : Hid (NeqRun o l false) := Lib.hid (fun w' x y => by rw [neq_lit, decide_eq_true he]; rfl)
        have HO2 : Hid (OwnL wr.drew W0.heap.size _ (wioL (ls.take (k + 1)) l)) := Lib.hid (by
          rw [HST.out, decide_eq_true he, if_neg (by simp), List.append_nil]
          exact HO.out.below (Below.refl _ _).drew)
        clear he k0 k1 k2
        go_wp2_with fail
        refine region_z (fun w' => LitCs w.heap.size l w' ∧ LitAt b (off + k * 3) o w') (fun _ => false) rfl ?_
        change wpAnyZ Tryz.prog .any _ _ _ _ 6 _ (woAct _ _ _ _ _ _ _ _ _ _ _ _ _ _ _ _ _ _ _ _ _ _ _ _ _ _ _ _) wr.drew
        refine wpAnyZ_takeW (i := 0) (v := .slice (some ⟨b, off, none⟩) m cap) rfl (by kernel_rfl) (by kernel_rfl) (by kernel_rfl) (fun _ _ _ h => h) (.inl ⟨rfl, fun w' hw' => rfl⟩) ?_
        change wpAnyZ Tryz.prog .any _ _ _ _ 5 _ (woAct _ _ _ _ _ _ _ _ _ _ _ _ _ _ (.slice (some ⟨b, off, none⟩) m cap) _ _ _ _ _ _ _ _ _ _ _ _ _) wr.drew
        refine wpAnyZ_takeW (i := 1) (v := .int .i64 k) rfl (by kernel_rfl) (by kernel_rfl) (by kernel_rfl) (fun _ _ _ h => h) (.inl ⟨rfl, fun w' hw' => rfl⟩) ?_
        change wpAnyZ Tryz.prog .any _ _ _ _ 4 _ (woAct _ _ _ _ _ _ _ _ _ _ _ _ _ _ (.slice (some ⟨b, off, none⟩) m cap) (.int .i64 k) _ _ _ _ _ _ _ _ _ _ _ _) wr.drew
        refine wpAnyZ_takeW (i := 2) (v := .pointer (some ⟨b, off + k * 3, none⟩)) rfl (by kernel_rfl) (by kernel_rfl) (by kernel_rfl) (fun _ _ _ h => h) (.inl ⟨rfl, fun w' hw' => exec_index rfl rfl rfl (index_lits w' _ _ _ _ _ hlt)⟩) ?_
        change wpAnyZ Tryz.prog .any _ _ _ _ 3 _ (woAct _ _ _ _ _ _ _ _ _ _ _ _ _ _ (.slice (some ⟨b, off, none⟩) m cap) (.int .i64 k) (.pointer (some ⟨b, off + k * 3, none⟩)) _ _ _ _ _ _ _ _ _ _ _) wr.drew
        refine wpAnyZ_take (i := 3) (v := .agg #[.int .i64 o.var, .int .i64 o.val, .bool o.neg]) rfl (by kernel_rfl) (by kernel_rfl) (by kernel_rfl) (by kernel_rfl) (fun _ _ _ h => h) (.inl ⟨rfl, fun w' hw' => exec_load rfl rfl (load_litO w' _ _ _ _ _ hw'.2.1 hw'.2.2.1 hw'.2.2.2)⟩) hS ?_
        change wpAnyZ Tryz.prog .any _ _ _ _ 2 _ (woAct _ _ _ _ _ _ _ _ _ _ _ _ _ _ (.slice (some ⟨b, off, none⟩) m cap) (.int .i64 k) (.pointer (some ⟨b, off + k * 3, none⟩)) (.agg #[.int .i64 o.var, .int .i64 o.val, .bool o.neg]) _ _ _ _ _ _ _ _ _ _) wr.drew
        refine wpAnyZ_take (i := 4) (v := .agg #[.int .i64 l.var, .int .i64 l.val, .bool l.neg]) rfl (by kernel_rfl) (by kernel_rfl) (by kernel_rfl) (by kernel_rfl) (fun _ _ _ h => h) (.inl ⟨rfl, fun w' hw' => exec_load rfl rfl (load_lit w' _ _ _ _ hw'.1.1 hw'.1.2.1 hw'.1.2.2)⟩) hS ?_
        change wpAnyZ Tryz.prog .any _ _ _ _ 1 _ (woAct _ _ _ _ _ _ _ _ _ _ _ _ _ _ (.slice (some ⟨b, off, none⟩) m cap) (.int .i64 k) (.pointer (some ⟨b, off + k * 3, none⟩)) (.agg #[.int .i64 o.var, .int .i64 o.val, .bool o.neg]) (.agg #[.int .i64 l.var, .int .i64 l.val, .bool l.neg]) _ _ _ _ _ _ _ _ _) wr.drew
        refine wpAnyZ_takeW (i := 5) (v := .bool false) rfl (by kernel_rfl) (by kernel_rfl) (by kernel_rfl) (fun _ _ _ h => h) (.inl ⟨rfl, fun w' hw' => exec_bin rfl rfl rfl (HEQ.out w' _ _)⟩) ?_
        change wpAnyZ Tryz.prog .any _ _ _ _ 0 _ (woAct _ _ _ _ _ _ _ _ _ _ _ _ _ _ (.slice (some ⟨b, off, none⟩) m cap) (.int .i64 k) (.pointer (some ⟨b, off + k * 3, none⟩)) (.agg #[.int .i64 o.var, .int .i64 o.val, .bool o.neg]) (.agg #[.int .i64 l.var, .int .i64 l.val, .bool l.neg]) (.bool false) _ _ _ _ _ _ _ _) wr.drew
        refine wpAnyZ_done (by kernel_rfl) ?_ _
        unfold woAct
        go_wp2
        go_roundw
        all_goals first
          | exact ⟨k + 1, by omega, by go_num, HO2, Lib.hid HBW.out.drew⟩
          | (simp [intOf]; omega)
      · have HEQ : Hid (NeqRun o l true) := Lib.hid (fun w' x y => by rw [neq_lit, decide_eq_false he]; rfl)
        have HST2 : Hid (wioL (ls.take (k + 1)) l = wioL (ls.take k) l ++ [o]) := Lib.hid (by rw [HST.out, decide_eq_false he]; rfl)
        obtain ⟨g, n, c, evo⟩ := HO.out.slice
        rw [evo] at HO ⊢
        have d0 := hS.2.1
        have d1 := hS.2.2.1
        have d2 := hS.2.2.2
        clear he k0 k1 k2 evo
        go_wp2_with fail
        refine region_z (fun w' => LitCs w.heap.size l w' ∧ LitAt b (off + k * 3) o w') (fun _ => false) rfl ?_
        change wpAnyZ Tryz.prog .any _ _ _ _ 6 _ (woAct _ _ _ _ _ _ _ _ _ _ _ _ _ _ _ _ _ _ _ _ _ _ _ _ _ _ _ _) wr.drew
        refine wpAnyZ_takeW (i := 0) (v := .slice (some ⟨b, off, none⟩) m cap) rfl (by kernel_rfl) (by kernel_rfl) (by kernel_rfl) (fun _ _ _ h => h) (.inl ⟨rfl, fun w' hw' => rfl⟩) ?_
        change wpAnyZ Tryz.prog .any _ _ _ _ 5 _ (woAct _ _ _ _ _ _ _ _ _ _ _ _ _ _ (.slice (some ⟨b, off, none⟩) m cap) _ _ _ _ _ _ _ _ _ _ _ _ _) wr.drew
        refine wpAnyZ_takeW (i := 1) (v := .int .i64 k) rfl (by kernel_rfl) (by kernel_rfl) (by kernel_rfl) (fun _ _ _ h => h) (.inl ⟨rfl, fun w' hw' => rfl⟩) ?_
        change wpAnyZ Tryz.prog .any _ _ _ _ 4 _ (woAct _ _ _ _ _ _ _ _ _ _ _ _ _ _ (.slice (some ⟨b, off, none⟩) m cap) (.int .i64 k) _ _ _ _ _ _ _ _ _ _ _ _) wr.drew
        refine wpAnyZ_takeW (i := 2) (v := .pointer (some ⟨b, off + k * 3, none⟩)) rfl (by kernel_rfl) (by kernel_rfl) (by kernel_rfl) (fun _ _ _ h => h) (.inl ⟨rfl, fun w' hw' => exec_index rfl rfl rfl (index_lits w' _ _ _ _ _ hlt)⟩) ?_
        change wpAnyZ Tryz.prog .any _ _ _ _ 3 _ (woAct _ _ _ _ _ _ _ _ _ _ _ _ _ _ (.slice (some ⟨b, off, none⟩) m cap) (.int .i64 k) (.pointer (some ⟨b, off + k * 3, none⟩)) _ _ _ _ _ _ _ _ _ _ _) wr.drew
        refine wpAnyZ_take (i := 3) (v := .agg #[.int .i64 o.var, .int .i64 o.val, .bool o.neg]) rfl (by kernel_rfl) (by kernel_rfl) (by kernel_rfl) (by kernel_rfl) (fun _ _ _ h => h) (.inl ⟨rfl, fun w' hw' => exec_load rfl rfl (load_litO w' _ _ _ _ _ hw'.2.1 hw'.2.2.1 hw'.2.2.2)⟩) hS ?_
        change wpAnyZ Tryz.prog .any _ _ _ _ 2 _ (woAct _ _ _ _ _ _ _ _ _ _ _ _ _ _ (.slice (some ⟨b, off, none⟩) m cap) (.int .i64 k) (.pointer (some ⟨b, off + k * 3, none⟩)) (.agg #[.int .i64 o.var, .int .i64 o.val, .bool o.neg]) _ _ _ _ _ _ _ _ _ _) wr.drew
        refine wpAnyZ_take (i := 4) (v := .agg #[.int .i64 l.var, .int .i64 l.val, .bool l.neg]) rfl (by kernel_rfl) (by kernel_rfl) (by kernel_rfl) (by kernel_rfl) (fun _ _ _ h => h) (.inl ⟨rfl, fun w' hw' => exec_load rfl rfl (load_lit w' _ _ _ _ hw'.1.1 hw'.1.2.1 hw'.1.2.2)⟩) hS ?_
        change wpAnyZ Tryz.prog .any _ _ _ _ 1 _ (woAct _ _ _ _ _ _ _ _ _ _ _ _ _ _ (.slice (some ⟨b, off, none⟩) m cap) (.int .i64 k) (.pointer (some ⟨b, off + k * 3, none⟩)) (.agg #[.int .i64 o.var, .int .i64 o.val, .bool o.neg]) (.agg #[.int .i64 l.var, .int .i64 l.val, .bool l.neg]) _ _ _ _ _ _ _ _ _) wr.drew
        refine wpAnyZ_takeW (i := 5) (v := .bool true) rfl (by kernel_rfl) (by kernel_rfl) (by kernel_rfl) (fun _ _ _ h => h) (.inl ⟨rfl, fun w' hw' => exec_bin rfl rfl rfl (HEQ.out w' _ _)⟩) ?_
        change wpAnyZ Tryz.prog .any _ _ _ _ 0 _ (woAct _ _ _ _ _ _ _ _ _ _ _ _ _ _ (.slice (some ⟨b, off, none⟩) m cap) (.int .i64 k) (.pointer (some ⟨b, off + k * 3, none⟩)) (.agg #[.int .i64 o.var, .int .i64 o.val, .bool o.neg]) (.agg #[.int .i64 l.var, .int .i64 l.val, .bool l.neg]) (.bool true) _ _ _ _ _ _ _ _) wr.drew
        refine wpAnyZ_done (by kernel_rfl) ?_ _
        unfold woAct
        have HXA : Hid (OwnL (wr.alloc (.cells #[.int .i64 o.var, .int .i64 o.val, .bool o.neg] 91)).drew W0.heap.size (.slice (some ⟨g, 0, none⟩) n c) (wioL (ls.take k) l) ∧ RdLits (wr.alloc (.cells #[.int .i64 o.var, .int .i64 o.val, .bool o.neg] 91)).drew (.slice (some ⟨wr.heap.size, 0, none⟩) 1 1) [o] ∧ W0.heap.size ≤ (wr.alloc (.cells #[.int .i64 o.var, .int .i64 o.val, .bool o.neg] 91)).drew.heap.size) := Lib.hid ⟨(HO.out.below (below1 _ _)).below (Below.refl _ _).drew, ((ownL_one wr wr.heap.size (Nat.le_refl _) o).below (Below.refl _ _).drew).rd, Nat.le_trans HBW.out.size (below1 wr _).drew.size⟩
        go_wp2_with (at_builtin; refine wpList_append_lits rfl _ _ rfl W0.heap.size _ _ (wioL (ls.take k) l) [o] rfl rfl HXA.out.1 HXA.out.2.1 HXA.out.2.2 (by have := HLE.out; omega) (by simp) ?_; intro v8 w8 own8 grow8; obtain ⟨g8, n8, c8, ev8⟩ := own8.slice; subst ev8)
        have HO8 : Hid (OwnL w8 W0.heap.size (.slice (some ⟨g8, 0, none⟩) n8 c8) (wioL (ls.take (k + 1)) l)) := Lib.hid (by rw [HST2.out]; exact own8)
        have HB8 : Hid (Below W0.heap.size W0 w8) := Lib.hid ((HBW.out.trans ((below1 wr _).drew.mono HBW.out.size)).grown grow8 (Nat.le_trans HBW.out.size (below1 wr _).drew.size) (fun q e => (HXA.out.1.1.lt q e).1))
        clear own8 grow8 d0 d1 d2
        go_wp2
        go_roundw
        all_goals first
          | exact ⟨k + 1, by omega, by go_num, HO8, HB8⟩
          | (simp [intOf]; omega)
    · obtain rfl : k = m := by omega
      have HF : Hid (wioL (ls.take k) l = wioL ls l) := Lib.hid (by rw [HN.out, List.take_length])
      rw [HF.out] at HO
      obtain ⟨g, n, c, evo⟩ := HO.out.slice
      rw [evo] at HO ⊢
      go_wp2
      go_ret
      exact ⟨_, rfl, HO.out.mono HB.out.size, HB.out.trans (HBW.out.mono HB.out.size)⟩
end Go.Proofs.YtipapmmjfoaddaaGreat
