/- The laws' own helper hasLiteral. -/
import Derived.Test.YtolfjkdkbiicmaaLitU
namespace Go.Proofs.Ytolfjkdkbiicmaa
open Go.ChangeShapes Go.WideShapes Go.ChangeAt Go.RowKit Go.Deep Go.Shelf
set_option linter.unusedVariables false
set_option linter.unusedSimpArgs false

def hlAct (z0 z1 z2 z3 z4 z5 z6 z7 z8 z9 z10 z11 z12 z13 z14 z15 z16 z17 : Value) : Act := { tmps := #[z0, z1, z2, z3, z4, z5, z6, z7, z8, z9, z10, z11, z12, z13, z14, z15, z16, z17], defers := [] }
set_option maxRecDepth 100000 in
set_option maxHeartbeats 8000000 in
theorem hasLit_any (v : Value) (ls : List Lit) (l : Lit) (w : World) (h : RdLits w v ls) :
    Calls Try.prog 38 #[v, .agg #[.int .i64 l.var, .int .i64 l.val, .bool l.neg]] w (BoolPost (decide (l ∈ ls)) w) := by
  unfold BoolPost
  obtain ⟨a, cap, ev, hl, hm, _⟩ := id h
  obtain ⟨m, hm'⟩ : ∃ m, m = ls.length := ⟨_, rfl⟩
  have HN := Lib.hid hm'
  rw [ev] at h ⊢
  rw [← hm'] at hl h ⊢
  obtain ⟨W, hW⟩ : ∃ W, w.alloc (.cells #[.int .i64 l.var, .int .i64 l.val, .bool l.neg] 47) = W := ⟨_, rfl⟩
  have b1 : Below w.heap.size w W := by rw [← hW]; exact below1 _ _
  have HQ : Hid (LitCs w.heap.size l W) := Lib.hid (by rw [← hW]; exact (Blk3.new _ _ _ _ _).cell)
  have HC := Lib.hid (h.below b1)
  have HB := Lib.hid b1
  have HW := Lib.hid hW
  clear hm' ev h hW b1
  unfold maxLen at hm
  go_enter Try.func38, Try.ntmps38
  go_wp2
  rw [HW.out]
  go_loopw [5] (fun i wr => ∃ k : Nat, k ≤ m ∧ i = .int .i64 k ∧ Hid (∀ (j : Nat) (o : Lit), j < k → ls[j]? = some o → ¬ o = l) ∧ Hid (Below W.heap.size W wr)) (fun i _ => m - (intOf i).toNat)
  case atStart => exact ⟨0, Nat.zero_le _, rfl, Lib.hid (fun j l hj => by omega), Lib.hid (Below.refl _ _)⟩
  case round =>
    obtain ⟨k, hk, rfl, HS, HBW⟩ := hrel
    by_cases hlt : k < m
    · obtain ⟨b, off, o, rfl, hck, k0, k1, k2⟩ := rdLits_at (HC.out.below HBW.out) hlt
      have HCK := Lib.hid hck
      have hS : LitCs w.heap.size l wr.drew ∧ LitAt b (off + k * 3) o wr.drew := ⟨litCells_below HQ.out HBW.out.drew, k0, k1, k2⟩
      clear hck k0 k1 k2
      by_cases he : o = l
      · have HEQ : Hid (EqlRun o l true) := Lib.hid (fun w' x y => by rw [eql_lit, decide_eq_true he])
        have HM : Hid (l ∈ ls) := Lib.hid (by rw [← he]; exact List.mem_of_getElem? HCK.out)
        clear he
        go_wp2_with fail
        refine region_x (fun w' => LitCs w.heap.size l w' ∧ LitAt b (off + k * 3) o w') (fun _ => false) rfl ?_
        change wpAnyX Try.prog .any _ _ _ _ 6 _ (hlAct _ _ _ _ _ _ _ _ _ _ _ _ _ _ _ _ _ _) wr.drew
        refine wpAnyX_take (i := 0) (v := .slice (some ⟨b, off, none⟩) m cap) rfl (by kernel_rfl) (by kernel_rfl) (by kernel_rfl) (by kernel_rfl) (fun _ _ _ h => h) (.inl ⟨rfl, fun w' hw' => rfl⟩) hS ?_
        change wpAnyX Try.prog .any _ _ _ _ 5 _ (hlAct _ _ _ _ _ _ _ _ _ _ _ _ (.slice (some ⟨b, off, none⟩) m cap) _ _ _ _ _) wr.drew
        refine wpAnyX_take (i := 1) (v := .int .i64 k) rfl (by kernel_rfl) (by kernel_rfl) (by kernel_rfl) (by kernel_rfl) (fun _ _ _ h => h) (.inl ⟨rfl, fun w' hw' => rfl⟩) hS ?_
        change wpAnyX Try.prog .any _ _ _ _ 4 _ (hlAct _ _ _ _ _ _ _ _ _ _ _ _ (.slice (some ⟨b, off, none⟩) m cap) (.int .i64 k) _ _ _ _) wr.drew
        refine wpAnyX_take (i := 2) (v := .pointer (some ⟨b, off + k * 3, none⟩)) rfl (by kernel_rfl) (by kernel_rfl) (by kernel_rfl) (by kernel_rfl) (fun _ _ _ h => h) (.inl ⟨rfl, fun w' hw' => exec_index rfl rfl rfl (index_lits w' _ _ _ _ _ hlt)⟩) hS ?_
        change wpAnyX Try.prog .any _ _ _ _ 3 _ (hlAct _ _ _ _ _ _ _ _ _ _ _ _ (.slice (some ⟨b, off, none⟩) m cap) (.int .i64 k) (.pointer (some ⟨b, off + k * 3, none⟩)) _ _ _) wr.drew
        refine wpAnyX_take (i := 3) (v := .agg #[.int .i64 o.var, .int .i64 o.val, .bool o.neg]) rfl (by kernel_rfl) (by kernel_rfl) (by kernel_rfl) (by kernel_rfl) (fun _ _ _ h => h) (.inl ⟨rfl, fun w' hw' => exec_load rfl rfl (load_litO w' _ _ _ _ _ hw'.2.1 hw'.2.2.1 hw'.2.2.2)⟩) hS ?_
        change wpAnyX Try.prog .any _ _ _ _ 2 _ (hlAct _ _ _ _ _ _ _ _ _ _ _ _ (.slice (some ⟨b, off, none⟩) m cap) (.int .i64 k) (.pointer (some ⟨b, off + k * 3, none⟩)) (.agg #[.int .i64 o.var, .int .i64 o.val, .bool o.neg]) _ _) wr.drew
        refine wpAnyX_take (i := 4) (v := .agg #[.int .i64 l.var, .int .i64 l.val, .bool l.neg]) rfl (by kernel_rfl) (by kernel_rfl) (by kernel_rfl) (by kernel_rfl) (fun _ _ _ h => h) (.inl ⟨rfl, fun w' hw' => exec_load rfl rfl (load_lit w' _ _ _ _ hw'.1.1 hw'.1.2.1 hw'.1.2.2)⟩) hS ?_
        change wpAnyX Try.prog .any _ _ _ _ 1 _ (hlAct _ _ _ _ _ _ _ _ _ _ _ _ (.slice (some ⟨b, off, none⟩) m cap) (.int .i64 k) (.pointer (some ⟨b, off + k * 3, none⟩)) (.agg #[.int .i64 o.var, .int .i64 o.val, .bool o.neg]) (.agg #[.int .i64 l.var, .int .i64 l.val, .bool l.neg]) _) wr.drew
        refine wpAnyX_take (i := 5) (v := .bool true) rfl (by kernel_rfl) (by kernel_rfl) (by kernel_rfl) (by kernel_rfl) (fun _ _ _ h => h) (.inl ⟨rfl, fun w' hw' => exec_bin rfl rfl rfl (HEQ.out w' _ _)⟩) hS ?_
        change wpAnyX Try.prog .any _ _ _ _ 0 _ (hlAct _ _ _ _ _ _ _ _ _ _ _ _ (.slice (some ⟨b, off, none⟩) m cap) (.int .i64 k) (.pointer (some ⟨b, off + k * 3, none⟩)) (.agg #[.int .i64 o.var, .int .i64 o.val, .bool o.neg]) (.agg #[.int .i64 l.var, .int .i64 l.val, .bool l.neg]) (.bool true)) wr.drew
        refine wpAnyX_done (by kernel_rfl) ?_ _
        unfold hlAct
        go_wp2
        go_ret
        exact ⟨ret_bool (decide_eq_true HM.out).symm, (HB.out.trans (HBW.out.mono HB.out.size)).drew⟩
      · have HEQ : Hid (EqlRun o l false) := Lib.hid (fun w' x y => by rw [eql_lit, decide_eq_false he])
        have HS2 : Hid (∀ (j : Nat) (o : Lit), j < k + 1 → ls[j]? = some o → ¬ o = l) := Lib.hid (fun j q hj hq => by
          by_cases e : j = k
          · subst e; rw [HCK.out] at hq; obtain rfl := Option.some.inj hq; exact he
          · exact HS.out j q (by omega) hq)
        clear he
        go_wp2_with fail
        refine region_x (fun w' => LitCs w.heap.size l w' ∧ LitAt b (off + k * 3) o w') (fun _ => false) rfl ?_
        change wpAnyX Try.prog .any _ _ _ _ 6 _ (hlAct _ _ _ _ _ _ _ _ _ _ _ _ _ _ _ _ _ _) wr.drew
        refine wpAnyX_take (i := 0) (v := .slice (some ⟨b, off, none⟩) m cap) rfl (by kernel_rfl) (by kernel_rfl) (by kernel_rfl) (by kernel_rfl) (fun _ _ _ h => h) (.inl ⟨rfl, fun w' hw' => rfl⟩) hS ?_
        change wpAnyX Try.prog .any _ _ _ _ 5 _ (hlAct _ _ _ _ _ _ _ _ _ _ _ _ (.slice (some ⟨b, off, none⟩) m cap) _ _ _ _ _) wr.drew
        refine wpAnyX_take (i := 1) (v := .int .i64 k) rfl (by kernel_rfl) (by kernel_rfl) (by kernel_rfl) (by kernel_rfl) (fun _ _ _ h => h) (.inl ⟨rfl, fun w' hw' => rfl⟩) hS ?_
        change wpAnyX Try.prog .any _ _ _ _ 4 _ (hlAct _ _ _ _ _ _ _ _ _ _ _ _ (.slice (some ⟨b, off, none⟩) m cap) (.int .i64 k) _ _ _ _) wr.drew
        refine wpAnyX_take (i := 2) (v := .pointer (some ⟨b, off + k * 3, none⟩)) rfl (by kernel_rfl) (by kernel_rfl) (by kernel_rfl) (by kernel_rfl) (fun _ _ _ h => h) (.inl ⟨rfl, fun w' hw' => exec_index rfl rfl rfl (index_lits w' _ _ _ _ _ hlt)⟩) hS ?_
        change wpAnyX Try.prog .any _ _ _ _ 3 _ (hlAct _ _ _ _ _ _ _ _ _ _ _ _ (.slice (some ⟨b, off, none⟩) m cap) (.int .i64 k) (.pointer (some ⟨b, off + k * 3, none⟩)) _ _ _) wr.drew
        refine wpAnyX_take (i := 3) (v := .agg #[.int .i64 o.var, .int .i64 o.val, .bool o.neg]) rfl (by kernel_rfl) (by kernel_rfl) (by kernel_rfl) (by kernel_rfl) (fun _ _ _ h => h) (.inl ⟨rfl, fun w' hw' => exec_load rfl rfl (load_litO w' _ _ _ _ _ hw'.2.1 hw'.2.2.1 hw'.2.2.2)⟩) hS ?_
        change wpAnyX Try.prog .any _ _ _ _ 2 _ (hlAct _ _ _ _ _ _ _ _ _ _ _ _ (.slice (some ⟨b, off, none⟩) m cap) (.int .i64 k) (.pointer (some ⟨b, off + k * 3, none⟩)) (.agg #[.int .i64 o.var, .int .i64 o.val, .bool o.neg]) _ _) wr.drew
        refine wpAnyX_take (i := 4) (v := .agg #[.int .i64 l.var, .int .i64 l.val, .bool l.neg]) rfl (by kernel_rfl) (by kernel_rfl) (by kernel_rfl) (by kernel_rfl) (fun _ _ _ h => h) (.inl ⟨rfl, fun w' hw' => exec_load rfl rfl (load_lit w' _ _ _ _ hw'.1.1 hw'.1.2.1 hw'.1.2.2)⟩) hS ?_
        change wpAnyX Try.prog .any _ _ _ _ 1 _ (hlAct _ _ _ _ _ _ _ _ _ _ _ _ (.slice (some ⟨b, off, none⟩) m cap) (.int .i64 k) (.pointer (some ⟨b, off + k * 3, none⟩)) (.agg #[.int .i64 o.var, .int .i64 o.val, .bool o.neg]) (.agg #[.int .i64 l.var, .int .i64 l.val, .bool l.neg]) _) wr.drew
        refine wpAnyX_take (i := 5) (v := .bool false) rfl (by kernel_rfl) (by kernel_rfl) (by kernel_rfl) (by kernel_rfl) (fun _ _ _ h => h) (.inl ⟨rfl, fun w' hw' => exec_bin rfl rfl rfl (HEQ.out w' _ _)⟩) hS ?_
        change wpAnyX Try.prog .any _ _ _ _ 0 _ (hlAct _ _ _ _ _ _ _ _ _ _ _ _ (.slice (some ⟨b, off, none⟩) m cap) (.int .i64 k) (.pointer (some ⟨b, off + k * 3, none⟩)) (.agg #[.int .i64 o.var, .int .i64 o.val, .bool o.neg]) (.agg #[.int .i64 l.var, .int .i64 l.val, .bool l.neg]) (.bool false)) wr.drew
        refine wpAnyX_done (by kernel_rfl) ?_ _
        unfold hlAct
        go_wp2
        go_roundw
        all_goals first
          | exact ⟨k + 1, by omega, by go_num, HS2, Lib.hid HBW.out.drew⟩
          | (simp [intOf]; omega)
    · obtain rfl : k = m := by omega
      have HF : Hid (¬ l ∈ ls) := Lib.hid (fun hmem => by
        obtain ⟨j, hj⟩ := List.getElem?_of_mem hmem
        exact HS.out j l (by rw [HN.out]; exact (List.getElem?_eq_some_iff.1 hj).1) hj rfl)
      go_wp2
      go_ret
      exact ⟨ret_bool (decide_eq_false HF.out).symm, HB.out.trans (HBW.out.mono HB.out.size)⟩
end Go.Proofs.Ytolfjkdkbiicmaa
