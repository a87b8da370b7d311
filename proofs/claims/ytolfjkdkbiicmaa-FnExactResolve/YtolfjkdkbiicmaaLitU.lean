/- Subsumes, in both packages. -/
import Derived.Test.YtolfjkdkbiicmaaLitG
namespace Go.Proofs.Ytolfjkdkbiicmaa
open Go.ChangeShapes Go.WideShapes Go.ChangeAt Go.RowKit Go.Deep Go.Shelf
set_option linter.unusedVariables false
set_option linter.unusedSimpArgs false

/-- The activation inside the region of slices.Index. -/
def ixAct (z0 z1 z2 z3 z4 z5 z6 z7 z8 z9 z10 z11 z12 z13 z14 z15 z16 z17 z18 : Value) : Act := { tmps := #[z0, z1, z2, z3, z4, z5, z6, z7, z8, z9, z10, z11, z12, z13, z14, z15, z16, z17, z18], defers := [] }
abbrev EqlRun (l o : Lit) (t : Bool) : Prop := ∀ (w' : World) (x y : Operand), (do eqGuard .eql 47 x y (.agg #[.int .i64 l.var, .int .i64 l.val, .bool l.neg]) (.agg #[.int .i64 o.var, .int .i64 o.val, .bool o.neg]); binOp .eql 47 (.agg #[.int .i64 l.var, .int .i64 l.val, .bool l.neg]) (.agg #[.int .i64 o.var, .int .i64 o.val, .bool o.neg]) : Sem Value).run Try.prog w' = .ok (.bool t) w'

set_option maxRecDepth 100000 in
set_option maxHeartbeats 8000000 in
theorem indexL_any (v : Value) (ls : List Lit) (l : Lit) (w : World) (h : RdLits w v ls) :
    Calls Try.prog 162 #[v, .agg #[.int .i64 l.var, .int .i64 l.val, .bool l.neg]] w fun e w' => ∃ r : Int, e = .returned (.int .i64 r) ∧ (0 ≤ r ↔ l ∈ ls) ∧ Below w.heap.size w w' := by
  obtain ⟨a, cap, ev, hl, hm, _⟩ := id h
  obtain ⟨m, hm'⟩ : ∃ m, m = ls.length := ⟨_, rfl⟩
  have HN := Lib.hid hm'
  rw [ev] at h ⊢
  rw [← hm'] at hl h ⊢
  obtain ⟨W, hW⟩ : ∃ W, w.alloc (.cells #[.int .i64 l.var, .int .i64 l.val, .bool l.neg] 47) = W := ⟨_, rfl⟩
  have b1 : Below w.heap.size w W := by rw [← hW]; exact below1 _ _
  have HQ : Hid (LitCs w.heap.size l W) := Lib.hid (by rw [← hW]; exact (Blk3.new _ _ _ _ _).cell)
  have HC := Lib.hid (h.below b1)
  have HB := Lib.hid b1
  have HW := Lib.hid hW
  clear hm' ev h hW b1
  unfold maxLen at hm
  go_enter Try.func162, Try.ntmps162
  go_wp2
  rw [HW.out]
  go_loopw [8] (fun i wr => ∃ k : Nat, k ≤ m ∧ i = .int .i64 k ∧ Hid (∀ (j : Nat) (o : Lit), j < k → ls[j]? = some o → ¬ l = o) ∧ Hid (Below W.heap.size W wr)) (fun i _ => m - (intOf i).toNat)
  case atStart => exact ⟨0, Nat.zero_le _, rfl, Lib.hid (fun j l hj => by omega), Lib.hid (Below.refl _ _)⟩
  case round =>
    obtain ⟨k, hk, rfl, HS, HBW⟩ := hrel
    by_cases hlt : k < m
    · obtain ⟨b, off, o, rfl, hck, k0, k1, k2⟩ := rdLits_at (HC.out.below HBW.out) hlt
      have HCK := Lib.hid hck
      have hS : LitCs w.heap.size l wr.drew ∧ LitAt b (off + k * 3) o wr.drew := ⟨litCells_below HQ.out HBW.out.drew, k0, k1, k2⟩
      clear hck k0 k1 k2
      by_cases he : l = o
      · have HEQ : Hid (EqlRun l o true) := Lib.hid (fun w' x y => by rw [eql_lit, decide_eq_true he])
        have HM : Hid (l ∈ ls) := Lib.hid (by rw [he]; exact List.mem_of_getElem? HCK.out)
        clear he
        go_wp2_with fail
        refine region_x (fun w' => LitCs w.heap.size l w' ∧ LitAt b (off + k * 3) o w') (fun _ => false) rfl ?_
        change wpAnyX Try.prog .any _ _ _ _ 6 _ (ixAct _ _ _ _ _ _ _ _ _ _ _ _ _ _ _ _ _ _ _) wr.drew
        refine wpAnyX_take (i := 0) (v := .agg #[.int .i64 l.var, .int .i64 l.val, .bool l.neg]) rfl (by kernel_rfl) (by kernel_rfl) (by kernel_rfl) (by kernel_rfl) (fun _ _ _ h => h) (.inl ⟨rfl, fun w' hw' => exec_load rfl rfl (load_lit w' _ _ _ _ hw'.1.1 hw'.1.2.1 hw'.1.2.2)⟩) hS ?_
        change wpAnyX Try.prog .any _ _ _ _ 5 _ (ixAct _ _ _ _ _ _ _ _ _ _ _ (.agg #[.int .i64 l.var, .int .i64 l.val, .bool l.neg]) _ _ _ _ _ _ _) wr.drew
        refine wpAnyX_take (i := 1) (v := .slice (some ⟨b, off, none⟩) m cap) rfl (by kernel_rfl) (by kernel_rfl) (by kernel_rfl) (by kernel_rfl) (fun _ _ _ h => h) (.inl ⟨rfl, fun w' hw' => rfl⟩) hS ?_
        change wpAnyX Try.prog .any _ _ _ _ 4 _ (ixAct _ _ _ _ _ _ _ _ _ _ _ (.agg #[.int .i64 l.var, .int .i64 l.val, .bool l.neg]) (.slice (some ⟨b, off, none⟩) m cap) _ _ _ _ _ _) wr.drew
        refine wpAnyX_take (i := 2) (v := .int .i64 k) rfl (by kernel_rfl) (by kernel_rfl) (by kernel_rfl) (by kernel_rfl) (fun _ _ _ h => h) (.inl ⟨rfl, fun w' hw' => rfl⟩) hS ?_
        change wpAnyX Try.prog .any _ _ _ _ 3 _ (ixAct _ _ _ _ _ _ _ _ _ _ _ (.agg #[.int .i64 l.var, .int .i64 l.val, .bool l.neg]) (.slice (some ⟨b, off, none⟩) m cap) (.int .i64 k) _ _ _ _ _) wr.drew
        refine wpAnyX_take (i := 3) (v := .pointer (some ⟨b, off + k * 3, none⟩)) rfl (by kernel_rfl) (by kernel_rfl) (by kernel_rfl) (by kernel_rfl) (fun _ _ _ h => h) (.inl ⟨rfl, fun w' hw' => exec_index rfl rfl rfl (index_lits w' _ _ _ _ _ hlt)⟩) hS ?_
        change wpAnyX Try.prog .any _ _ _ _ 2 _ (ixAct _ _ _ _ _ _ _ _ _ _ _ (.agg #[.int .i64 l.var, .int .i64 l.val, .bool l.neg]) (.slice (some ⟨b, off, none⟩) m cap) (.int .i64 k) (.pointer (some ⟨b, off + k * 3, none⟩)) _ _ _ _) wr.drew
        refine wpAnyX_take (i := 4) (v := .agg #[.int .i64 o.var, .int .i64 o.val, .bool o.neg]) rfl (by kernel_rfl) (by kernel_rfl) (by kernel_rfl) (by kernel_rfl) (fun _ _ _ h => h) (.inl ⟨rfl, fun w' hw' => exec_load rfl rfl (load_litO w' _ _ _ _ _ hw'.2.1 hw'.2.2.1 hw'.2.2.2)⟩) hS ?_
        change wpAnyX Try.prog .any _ _ _ _ 1 _ (ixAct _ _ _ _ _ _ _ _ _ _ _ (.agg #[.int .i64 l.var, .int .i64 l.val, .bool l.neg]) (.slice (some ⟨b, off, none⟩) m cap) (.int .i64 k) (.pointer (some ⟨b, off + k * 3, none⟩)) (.agg #[.int .i64 o.var, .int .i64 o.val, .bool o.neg]) _ _ _) wr.drew
        refine wpAnyX_take (i := 5) (v := .bool true) rfl (by kernel_rfl) (by kernel_rfl) (by kernel_rfl) (by kernel_rfl) (fun _ _ _ h => h) (.inl ⟨rfl, fun w' hw' => exec_bin rfl rfl rfl (HEQ.out w' _ _)⟩) hS ?_
        change wpAnyX Try.prog .any _ _ _ _ 0 _ (ixAct _ _ _ _ _ _ _ _ _ _ _ (.agg #[.int .i64 l.var, .int .i64 l.val, .bool l.neg]) (.slice (some ⟨b, off, none⟩) m cap) (.int .i64 k) (.pointer (some ⟨b, off + k * 3, none⟩)) (.agg #[.int .i64 o.var, .int .i64 o.val, .bool o.neg]) (.bool true) _ _) wr.drew
        refine wpAnyX_done (by kernel_rfl) ?_ _
        unfold ixAct
        go_wp2
        go_ret
        exact ⟨k, rfl, ⟨fun _ => HM.out, fun _ => by omega⟩, (HB.out.trans (HBW.out.mono HB.out.size)).drew⟩
      · have HEQ : Hid (EqlRun l o false) := Lib.hid (fun w' x y => by rw [eql_lit, decide_eq_false he])
        have HS2 : Hid (∀ (j : Nat) (o : Lit), j < k + 1 → ls[j]? = some o → ¬ l = o) := Lib.hid (fun j q hj hq => by
          by_cases e : j = k
          · subst e; rw [HCK.out] at hq; obtain rfl := Option.some.inj hq; exact he
          · exact HS.out j q (by omega) hq)
        clear he
        go_wp2_with fail
        refine region_x (fun w' => LitCs w.heap.size l w' ∧ LitAt b (off + k * 3) o w') (fun _ => false) rfl ?_
        change wpAnyX Try.prog .any _ _ _ _ 6 _ (ixAct _ _ _ _ _ _ _ _ _ _ _ _ _ _ _ _ _ _ _) wr.drew
        refine wpAnyX_take (i := 0) (v := .agg #[.int .i64 l.var, .int .i64 l.val, .bool l.neg]) rfl (by kernel_rfl) (by kernel_rfl) (by kernel_rfl) (by kernel_rfl) (fun _ _ _ h => h) (.inl ⟨rfl, fun w' hw' => exec_load rfl rfl (load_lit w' _ _ _ _ hw'.1.1 hw'.1.2.1 hw'.1.2.2)⟩) hS ?_
        change wpAnyX Try.prog .any _ _ _ _ 5 _ (ixAct _ _ _ _ _ _ _ _ _ _ _ (.agg #[.int .i64 l.var, .int .i64 l.val, .bool l.neg]) _ _ _ _ _ _ _) wr.drew
        refine wpAnyX_take (i := 1) (v := .slice (some ⟨b, off, none⟩) m cap) rfl (by kernel_rfl) (by kernel_rfl) (by kernel_rfl) (by kernel_rfl) (fun _ _ _ h => h) (.inl ⟨rfl, fun w' hw' => rfl⟩) hS ?_
        change wpAnyX Try.prog .any _ _ _ _ 4 _ (ixAct _ _ _ _ _ _ _ _ _ _ _ (.agg #[.int .i64 l.var, .int .i64 l.val, .bool l.neg]) (.slice (some ⟨b, off, none⟩) m cap) _ _ _ _ _ _) wr.drew
        refine wpAnyX_take (i := 2) (v := .int .i64 k) rfl (by kernel_rfl) (by kernel_rfl) (by kernel_rfl) (by kernel_rfl) (fun _ _ _ h => h) (.inl ⟨rfl, fun w' hw' => rfl⟩) hS ?_
        change wpAnyX Try.prog .any _ _ _ _ 3 _ (ixAct _ _ _ _ _ _ _ _ _ _ _ (.agg #[.int .i64 l.var, .int .i64 l.val, .bool l.neg]) (.slice (some ⟨b, off, none⟩) m cap) (.int .i64 k) _ _ _ _ _) wr.drew
        refine wpAnyX_take (i := 3) (v := .pointer (some ⟨b, off + k * 3, none⟩)) rfl (by kernel_rfl) (by kernel_rfl) (by kernel_rfl) (by kernel_rfl) (fun _ _ _ h => h) (.inl ⟨rfl, fun w' hw' => exec_index rfl rfl rfl (index_lits w' _ _ _ _ _ hlt)⟩) hS ?_
        change wpAnyX Try.prog .any _ _ _ _ 2 _ (ixAct _ _ _ _ _ _ _ _ _ _ _ (.agg #[.int .i64 l.var, .int .i64 l.val, .bool l.neg]) (.slice (some ⟨b, off, none⟩) m cap) (.int .i64 k) (.pointer (some ⟨b, off + k * 3, none⟩)) _ _ _ _) wr.drew
        refine wpAnyX_take (i := 4) (v := .agg #[.int .i64 o.var, .int .i64 o.val, .bool o.neg]) rfl (by kernel_rfl) (by kernel_rfl) (by kernel_rfl) (by kernel_rfl) (fun _ _ _ h => h) (.inl ⟨rfl, fun w' hw' => exec_load rfl rfl (load_litO w' _ _ _ _ _ hw'.2.1 hw'.2.2.1 hw'.2.2.2)⟩) hS ?_
        change wpAnyX Try.prog .any _ _ _ _ 1 _ (ixAct _ _ _ _ _ _ _ _ _ _ _ (.agg #[.int .i64 l.var, .int .i64 l.val, .bool l.neg]) (.slice (some ⟨b, off, none⟩) m cap) (.int .i64 k) (.pointer (some ⟨b, off + k * 3, none⟩)) (.agg #[.int .i64 o.var, .int .i64 o.val, .bool o.neg]) _ _ _) wr.drew
        refine wpAnyX_take (i := 5) (v := .bool false) rfl (by kernel_rfl) (by kernel_rfl) (by kernel_rfl) (by kernel_rfl) (fun _ _ _ h => h) (.inl ⟨rfl, fun w' hw' => exec_bin rfl rfl rfl (HEQ.out w' _ _)⟩) hS ?_
        change wpAnyX Try.prog .any _ _ _ _ 0 _ (ixAct _ _ _ _ _ _ _ _ _ _ _ (.agg #[.int .i64 l.var, .int .i64 l.val, .bool l.neg]) (.slice (some ⟨b, off, none⟩) m cap) (.int .i64 k) (.pointer (some ⟨b, off + k * 3, none⟩)) (.agg #[.int .i64 o.var, .int .i64 o.val, .bool o.neg]) (.bool false) _ _) wr.drew
        refine wpAnyX_done (by kernel_rfl) ?_ _
        unfold ixAct
        go_wp2
        go_roundw
        all_goals first
          | exact ⟨k + 1, by omega, by go_num, HS2, Lib.hid HBW.out.drew⟩
          | (simp [intOf]; omega)
    · obtain rfl : k = m := by omega
      have HF : Hid (¬ l ∈ ls) := Lib.hid (fun hmem => by
        obtain ⟨j, hj⟩ := List.getElem?_of_mem hmem
        exact HS.out j l (by rw [HN.out]; exact (List.getElem?_eq_some_iff.1 hj).1) hj rfl)
      go_wp2
      go_ret
      exact ⟨-1, rfl, ⟨fun h => by omega, fun h => (HF.out h).elim⟩, HB.out.trans (HBW.out.mono HB.out.size)⟩

set_option maxRecDepth 100000 in
set_option maxHeartbeats 4000000 in
theorem containsL_any (v : Value) (ls : List Lit) (l : Lit) (w : World) (h : RdLits w v ls) :
    Calls Try.prog 105 #[v, .agg #[.int .i64 l.var, .int .i64 l.val, .bool l.neg]] w (BoolPost (decide (l ∈ ls)) w) := by
  obtain ⟨a, cap, ev, hl, hm, _⟩ := id h
  rw [ev] at h ⊢
  obtain ⟨W, hW⟩ : ∃ W, w.alloc (.cells #[.int .i64 l.var, .int .i64 l.val, .bool l.neg] 47) = W := ⟨_, rfl⟩
  have b1 : Below w.heap.size w W := by rw [← hW]; exact below1 _ _
  have q : Blk3 W w.heap.size 47 (.int .i64 l.var) (.int .i64 l.val) (.bool l.neg) := by rw [← hW]; exact Blk3.new _ _ _ _ _
  obtain ⟨c0, c1, c2⟩ := q.cell
  have HC := Lib.hid (indexL_any _ ls l W (h.below b1))
  have HB := Lib.hid b1
  have HW := Lib.hid hW
  clear ev h hW b1 q
  unfold BoolPost
  go_enter Try.func105, Try.ntmps105
  go_wp2_with fail
  rw [HW.out]
  refine HC.out.mono ?_
  rintro e w9 ⟨r, rfl, hr, b⟩
  have HR := Lib.hid hr
  have HB9 := Lib.hid (HB.out.trans (b.mono HB.out.size))
  clear hr b c0 c1 c2
  go_wp2
  go_ret
  refine ⟨ret_bool ?_, HB9.out⟩
  exact decide_eq_decide.2 HR.out

set_option maxRecDepth 100000 in
set_option maxHeartbeats 4000000 in
theorem su1_any (l : Lit) (lb : List Lit) (bx : Nat) (bv : Value) (w : World) (hb : Boxed w bx 41 bv) (h : RdLits w bv lb) :
    Calls Try.prog 104 #[.agg #[.int .i64 l.var, .int .i64 l.val, .bool l.neg], .pointer (some ⟨bx, 0, none⟩)] w fun e w' => e = .returned (.bool (!decide (l ∈ lb))) ∧ Below w.heap.size w w' := by
  obtain ⟨a, cap, ev, hl, hm, _⟩ := id h
  rw [ev] at h hb
  obtain ⟨W, hW⟩ : ∃ W, w.alloc (.cells #[.int .i64 l.var, .int .i64 l.val, .bool l.neg] 47) = W := ⟨_, rfl⟩
  have b1 : Below w.heap.size w W := by rw [← hW]; exact below1 _ _
  have q : Blk3 W w.heap.size 47 (.int .i64 l.var) (.int .i64 l.val) (.bool l.neg) := by rw [← hW]; exact Blk3.new _ _ _ _ _
  obtain ⟨c0, c1, c2⟩ := q.cell
  have d0 : W.cell? ⟨bx, 0, none⟩ = some (.slice a lb.length cap) := (b1.cell (World.block_lt_of_cell? w _ hb.cell)).trans hb.cell
  have HC := Lib.hid (containsL_any _ lb l W (h.below b1))
  unfold BoolPost at HC
  have HB := Lib.hid b1
  have HW := Lib.hid hW
  rw [← hW] at d0
  clear ev h hb hW b1 q c0 c1 c2
  go_enter Try.func104, Try.ntmps104
  go_wp2_with fail
  rw [HW.out]
  refine HC.out.mono ?_
  rintro e w9 ⟨rfl, b⟩
  have HB9 := Lib.hid (HB.out.trans (b.mono HB.out.size))
  clear b d0
  go_wp2
  go_ret
  exact ⟨rfl, HB9.out⟩

/-- Some literal of la is not in lb. -/
def sxB (la lb : List Lit) : Bool := la.any (fun l => !decide (l ∈ lb))
theorem sxB_all (la lb : List Lit) : (!sxB la lb) = la.all (fun l => decide (l ∈ lb)) := by
  unfold sxB
  induction la with
  | nil => rfl
  | cons l la ih => simp [ih]

set_option maxRecDepth 100000 in
set_option maxHeartbeats 4000000 in
theorem suIx_any (v bv : Value) (ls lb : List Lit) (bx : Nat) (w : World) (h : RdLits w v ls) (hb : Boxed w bx 41 bv) (hx : RdLits w bv lb) :
    Calls Try.prog 152 #[v, .func (.func 104) #[] #[.pointer (some ⟨bx, 0, none⟩)]] w fun e w' => ∃ r : Int, e = .returned (.int .i64 r) ∧ (0 ≤ r ↔ sxB ls lb = true) ∧ Below w.heap.size w w' := by
  have HC := Lib.hid h
  have HX := Lib.hid hx
  have HBX := Lib.hid hb
  obtain ⟨a, cap, ev, hl, hm, _⟩ := h
  obtain ⟨m, hm'⟩ : ∃ m, m = ls.length := ⟨_, rfl⟩
  have HN := Lib.hid hm'
  rw [ev] at HC ⊢
  rw [← hm'] at hl HC ⊢
  clear hm' ev hx hb
  unfold maxLen at hm
  go_enter Try.func152, Try.ntmps152
  go_wp2
  go_loopw [8] (fun i wr => ∃ k : Nat, k ≤ m ∧ i = .int .i64 k ∧ Hid (∀ (j : Nat) (l : Lit), j < k → ls[j]? = some l → (!decide (l ∈ lb)) = false) ∧ Below w.heap.size w wr) (fun i _ => m - (intOf i).toNat)
  case atStart => exact ⟨0, Nat.zero_le _, rfl, Lib.hid (fun j l hj => by omega), Below.refl _ _⟩
  case round =>
    obtain ⟨k, hk, rfl, HS, hbel⟩ := hrel
    by_cases hlt : k < m
    · obtain ⟨b, off, l, rfl, hck, k0, k1, k2⟩ := rdLits_at (HC.out.below hbel) hlt
      have HE := Lib.hid (su1_any l lb bx bv wr ((hbel.block bx HBX.out.lt).trans HBX.out) (HX.out.below hbel))
      have HCK := Lib.hid hck
      have HB : Hid (Below w.heap.size w wr) := Lib.hid hbel
      clear hck hbel
      cases h3 : (!decide (l ∈ lb))
      · rw [h3] at HE
        have H3 := Lib.hid h3
        clear h3
        go_wp2_with (go_at_call 104; refine HE.out.mono ?_; rintro e w9 ⟨rfl, b9⟩; have B9 := Lib.hid (HB.out.trans (b9.mono HB.out.size)); clear b9)
        go_roundw
        case rel => exact ⟨k + 1, by omega, by go_num, Lib.hid (fun i l hi hl => by by_cases e : i = k; (· subst e; rw [HCK.out] at hl; obtain rfl := Option.some.inj hl; exact H3.out); (· exact HS.out i l (by omega) hl)), B9.out⟩
        case measure => simp [intOf]; omega
      · have HF : Hid (sxB ls lb = true) := Lib.hid (List.any_eq_true.2 ⟨l, List.mem_of_getElem? HCK.out, h3⟩)
        rw [h3] at HE
        clear h3
        go_wp2_with (go_at_call 104; refine HE.out.mono ?_; rintro e w9 ⟨rfl, b9⟩; have B9 := Lib.hid (HB.out.trans (b9.mono HB.out.size)); clear b9)
        go_ret
        exact ⟨k, rfl, ⟨fun _ => HF.out, fun _ => by omega⟩, B9.out⟩
    · obtain rfl : k = m := by omega
      have HF : Hid (sxB ls lb = false) := Lib.hid (by
        unfold sxB
        rw [List.any_eq_false]
        intro l hl
        obtain ⟨i, hi⟩ := List.getElem?_of_mem hl
        rw [HS.out i l (by rw [HN.out]; exact (List.getElem?_eq_some_iff.1 hi).1) hi]
        exact Bool.false_ne_true)
      go_wp2
      go_ret
      exact ⟨-1, rfl, ⟨fun h => by omega, fun h => by rw [HF.out] at h; cases h⟩, hbel⟩

set_option maxRecDepth 100000 in
theorem suCf_any (v bv : Value) (ls lb : List Lit) (bx : Nat) (w : World) (h : RdLits w v ls) (hb : Boxed w bx 41 bv) (hx : RdLits w bv lb) :
    Calls Try.prog 89 #[v, .func (.func 104) #[] #[.pointer (some ⟨bx, 0, none⟩)]] w (BoolPost (sxB ls lb) w) := by
  have HC := Lib.hid (suIx_any v bv ls lb bx w h hb hx)
  obtain ⟨a, cap, ev, hl, hm, _⟩ := h
  rw [ev] at HC ⊢
  clear ev hb hx
  unfold BoolPost
  go_enter Try.func89, Try.ntmps89
  go_wp2_with fail
  refine HC.out.mono ?_
  rintro e w9 ⟨r, rfl, hr, b⟩
  have HR := Lib.hid hr
  have HB := Lib.hid b
  clear hr b
  go_wp2
  go_ret
  refine ⟨ret_bool ?_, HB.out⟩
  cases hh : sxB ls lb
  · rw [hh] at HR
    exact decide_eq_false (fun h => by have := HR.out.1 h; cases this)
  · exact decide_eq_true (HR.out.2 hh)

set_option maxRecDepth 100000 in
set_option maxHeartbeats 4000000 in
theorem iSubsumes_any (n : Int) (av bv : Value) (la lb : List Lit) (w : World) (ha : RdLits w av la) (hb : RdLits w bv lb) :
    Calls Try.prog 36 #[.int .i64 n, av, bv] w (BoolPost (suB n la lb) w) := by
  obtain ⟨bA, cb, eb, _⟩ := id hb
  rw [eb] at hb ⊢
  obtain ⟨m, hm'⟩ : ∃ m, m = lb.length := ⟨_, rfl⟩
  rw [← hm'] at hb ⊢
  obtain ⟨W, hW⟩ : ∃ W, w.alloc (.cells #[.slice bA m cb] 41) = W := ⟨_, rfl⟩
  have b1 : Below w.heap.size w W := by rw [← hW]; exact below1 _ _
  have HBX : Hid (Boxed W w.heap.size 41 (.slice bA m cb)) := Lib.hid (by rw [← hW]; exact World.alloc_heap_new _ _)
  have HA := Lib.hid (ha.below b1)
  have HX := Lib.hid (hb.below b1)
  have HB := Lib.hid b1
  have HW := Lib.hid hW
  have c0 := HBX.out.cell
  have HVC := Lib.hid (iValidClause_any av la n W HA.out)
  unfold BoolPost at HVC ⊢
  clear ha hb eb b1 hW hm'
  cases h1 : vclB la n
  · have HF : Hid (suB n la lb = false) := Lib.hid (by unfold suB; rw [h1]; rfl)
    rw [h1] at HVC
    go_enter Try.func36, Try.ntmps36
    go_wp2_with fail
    rw [HW.out]
    refine HVC.out.mono ?_
    rintro e w2 ⟨rfl, b⟩
    have HB2 := Lib.hid (HB.out.trans (b.mono HB.out.size))
    clear b c0
    go_wp2
    go_ret
    exact ⟨ret_bool HF.out.symm, HB2.out⟩
  rw [h1] at HVC
  cases h2 : vclB lb n
  · have HF : Hid (suB n la lb = false) := Lib.hid (by unfold suB; rw [h1, h2]; rfl)
    go_enter Try.func36, Try.ntmps36
    go_wp2_with fail
    rw [HW.out]
    refine HVC.out.mono ?_
    rintro e w2 ⟨rfl, b⟩
    have HB2 := Lib.hid (HB.out.trans (b.mono HB.out.size))
    have c0' := (b.cell (World.block_lt_of_cell? W _ c0)).trans c0
    have HX2 := Lib.hid (HX.out.below b)
    clear b c0
    go_wp2_with fail
    refine (iValidClause_any _ lb n w2 HX2.out).mono ?_
    rintro e w3 ⟨rfl, b⟩
    have HB3 := Lib.hid (HB2.out.trans (b.mono HB2.out.size))
    clear b c0'
    rw [h2]
    go_wp2
    go_ret
    exact ⟨ret_bool HF.out.symm, HB3.out⟩
  have HF : Hid (suB n la lb = !sxB la lb) := Lib.hid (by unfold suB; rw [h1, h2, sxB_all]; rfl)
  go_enter Try.func36, Try.ntmps36
  go_wp2_with fail
  rw [HW.out]
  refine HVC.out.mono ?_
  rintro e w2 ⟨rfl, b⟩
  have HB2 := Lib.hid (HB.out.trans (b.mono HB.out.size))
  have c0' := (b.cell (World.block_lt_of_cell? W _ c0)).trans c0
  have HX2 := Lib.hid (HX.out.below b)
  have HA2 := Lib.hid (HA.out.below b)
  have HBX2 : Hid (Boxed w2 w.heap.size 41 (.slice bA m cb)) := Lib.hid ((b.block _ HBX.out.lt).trans HBX.out)
  clear b c0
  go_wp2_with fail
  refine (iValidClause_any _ lb n w2 HX2.out).mono ?_
  rintro e w3 ⟨rfl, b⟩
  have HB3 := Lib.hid (HB2.out.trans (b.mono HB2.out.size))
  have HX3 := Lib.hid (HX2.out.below b)
  have HA3 := Lib.hid (HA2.out.below b)
  have HBX3 : Hid (Boxed w3 w.heap.size 41 (.slice bA m cb)) := Lib.hid ((b.block _ HBX2.out.lt).trans HBX2.out)
  clear b c0'
  rw [h2]
  go_wp2_with fail
  refine (suCf_any _ _ la lb w.heap.size w3 HA3.out HBX3.out HX3.out).mono ?_
  rintro e w4 ⟨rfl, b⟩
  have HB4 := Lib.hid (HB3.out.trans (b.mono HB3.out.size))
  clear b
  go_wp2
  go_ret
  exact ⟨ret_bool HF.out.symm, HB4.out⟩

theorem vclB_cl {ls : List Lit} {n : Int} (h : vclB ls n = true) : clB ls n = true := by
  unfold vclB at h
  rw [Bool.and_eq_true] at h
  exact h.2
set_option maxRecDepth 100000 in
set_option maxHeartbeats 4000000 in
theorem sSubsumes_any (n : Int) (av bv : Value) (la lb : List Lit) (w : World) (ha : RdLits w av la) (hb : RdLits w bv lb) :
    Calls Try.prog 37 #[.int .i64 n, av, bv] w (BoolPost (suB n la lb) w) := by
  obtain ⟨bA, cb, eb, _⟩ := id hb
  rw [eb] at hb ⊢
  obtain ⟨m, hm'⟩ : ∃ m, m = lb.length := ⟨_, rfl⟩
  rw [← hm'] at hb ⊢
  have HM := Lib.hid hm'
  have HA := Lib.hid ha
  have HX := Lib.hid hb
  have HVC := Lib.hid (sValidClause_any av la n w ha)
  unfold BoolPost at HVC ⊢
  clear ha hb eb hm'
  cases h1 : vclB la n
  · have HF : Hid (suB n la lb = false) := Lib.hid (by unfold suB; rw [h1]; rfl)
    rw [h1] at HVC
    go_enter Try.func37, Try.ntmps37
    go_wp2_with fail
    refine HVC.out.mono ?_
    rintro e w2 ⟨rfl, b⟩
    have HB2 := Lib.hid b
    clear b
    go_wp2
    go_ret
    exact ⟨ret_bool HF.out.symm, HB2.out⟩
  rw [h1] at HVC
  cases h2 : vclB lb n
  · have HF : Hid (suB n la lb = false) := Lib.hid (by unfold suB; rw [h1, h2]; rfl)
    go_enter Try.func37, Try.ntmps37
    go_wp2_with fail
    refine HVC.out.mono ?_
    rintro e w2 ⟨rfl, b⟩
    have HB2 := Lib.hid b
    clear b
    go_wp2_with fail
    refine (sValidClause_any _ lb n w2 (HX.out.below HB2.out)).mono ?_
    rintro e w3 ⟨rfl, b⟩
    have HB3 := Lib.hid (HB2.out.trans (b.mono HB2.out.size))
    clear b
    rw [h2]
    go_wp2
    go_ret
    exact ⟨ret_bool HF.out.symm, HB3.out⟩
  have hca := vclB_cl h1
  have hcb := vclB_cl h2
  have hla := clB_len hca
  have hlb := clB_len hcb
  obtain ⟨q, hq⟩ : ∃ q, q = (mrgL lb la).length := ⟨_, rfl⟩
  have HF : Hid (suB n la lb = ((q : Int) == (m : Int))) := Lib.hid (by
    unfold suB
    rw [h1, h2, ← mrgL_len_iff la lb (clB_asc hcb), ← hq, ← HM.out]
    show _ = decide ((q : Int) = (m : Int))
    simp only [Bool.true_and]
    exact decide_eq_decide.2 (by omega))
  have HQ := Lib.hid hq
  have HASC := Lib.hid (clB_asc hcb)
  have H12 := Lib.hid (And.intro hla hlb)
  clear hca hcb hla hlb hq
  go_enter Try.func37, Try.ntmps37
  go_wp2_with fail
  refine HVC.out.mono ?_
  rintro e w2 ⟨rfl, b⟩
  have HB2 := Lib.hid b
  clear b
  go_wp2_with fail
  refine (sValidClause_any _ lb n w2 (HX.out.below HB2.out)).mono ?_
  rintro e w3 ⟨rfl, b⟩
  have HB3 := Lib.hid (HB2.out.trans (b.mono HB2.out.size))
  clear b
  rw [h2]
  go_wp2_with fail
  refine (smerge_any _ _ lb la w3 (HX.out.below HB3.out) (HA.out.below HB3.out) (by have := H12.out; omega) (by have := H12.out; omega) HASC.out).mono ?_
  rintro e w4 ⟨v4, rfl, own4, b⟩
  have HB4 := Lib.hid (HB3.out.trans (b.mono HB3.out.size))
  obtain ⟨_, g4, c4, ev4, _⟩ := own4
  rw [← HQ.out] at ev4
  subst ev4
  clear b
  go_wp2
  go_ret
  exact ⟨ret_bool HF.out.symm, HB4.out⟩
end Go.Proofs.Ytolfjkdkbiicmaa
