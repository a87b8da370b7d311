/- The program's ValidClause. -/
import Derived.Test.YtipapmmjfoaddaaGreatLitW
import Derived.Test.YtipapmmjfoaddaaGreatEx
import Derived.Test.YtipapmmjfoaddaaGreatOrdX
namespace Go.Proofs.YtipapmmjfoaddaaGreat
open Go.ChangeShapes Go.WideShapes Go.ChangeAt Go.RowKit Go.Deep Go.Shelf
set_option linter.unusedVariables false
set_option linter.unusedSimpArgs false

/-- The activation inside the region of the program's test. -/
def vcAct (z0 z1 z2 z3 z4 z5 z6 z7 z8 z9 z10 z11 z12 z13 z14 z15 z16 z17 z18 z19 z20 z21 x22 x23 x24 x25 x26 x27 x28 x29 x30 x31 x32 x33 x34 x35 x36 x37 x38 x39 z40 : Value) : Act := { tmps := #[z0, z1, z2, z3, z4, z5, z6, z7, z8, z9, z10, z11, z12, z13, z14, z15, z16, z17, z18, z19, z20, z21, x22, x23, x24, x25, x26, x27, x28, x29, x30, x31, x32, x33, x34, x35, x36, x37, x38, x39, z40], defers := [] }
/-- The literal l lies in block B. -/
def LitCs (B : Nat) (l : Lit) (w : World) : Prop := w.cell? ⟨B, 0, none⟩ = some (.int .i64 l.var) ∧ w.cell? ⟨B, 1, none⟩ = some (.int .i64 l.val) ∧ w.cell? ⟨B, 2, none⟩ = some (.bool l.neg)
theorem litCells_below {B : Nat} {l : Lit} {w w' : World} (h : LitCs B l w) (b : Below w.heap.size w w') : LitCs B l w' :=
  ⟨(b.cell (World.block_lt_of_cell? w _ h.1)).trans h.1, (b.cell (World.block_lt_of_cell? w _ h.2.1)).trans h.2.1, (b.cell (World.block_lt_of_cell? w _ h.2.2)).trans h.2.2⟩
set_option maxRecDepth 100000 in
theorem load_lit (w : World) (g : Nat) (x y : Int) (z : Bool) (h0 : w.cell? ⟨g, 0, none⟩ = some (.int .i64 x)) (h1 : w.cell? ⟨g, 1, none⟩ = some (.int .i64 y)) (h2 : w.cell? ⟨g, 2, none⟩ = some (.bool z)) : (loadVar 91 ⟨g, 0, none⟩).run Tryz.prog w = .ok (.agg #[.int .i64 x, .int .i64 y, .bool z]) w := by
  go_simp
theorem step_callL2 {P : Program} (w : World) {ops : Array Oper} {o : Oper} {a : Act} {K : Act → World → Prop} {Q : Exit → Act → World → Prop} {E : Prop} (hgd : o.guard = none) (F : FuncId) (x0 x1 : Operand) (v0 v1 : Value) (ts : Array TypeId)
    (ho : o.op = .call { callee := .value (.func F), args := #[x0, x1], argTypes := ts }) (h0 : a.eval x0 = v0) (h1 : a.eval x1 = v1) (eg : ∀ gs w, (callFunc F gs).run P w = .ok (.enter F gs) w)
    (R : Ending → World → Prop) (h : Calls P F #[v0, v1] w R) (hp : ∀ c w', ¬ R (.panicked c) w') (hou : ∀ w', ¬ R .outgrown w') (hR : ∀ v w', R (.returned v) w' → K (a.put o.dst v) w') :
    if Region.wanted o (yielded ops a.tmps) = true then Oper.wp P o a w K Q else E := by
  have hw : Region.wanted o (yielded ops a.tmps) = true := by simp [Region.wanted, hgd]
  rw [if_pos hw]
  have hrun : (execOp a.eval o).run P w = .ok (.enter F #[v0, v1]) w := by
    have hf : a.eval (.func F) = .func (.func F) #[] #[] := rfl
    simp [execOp, ho, resolve, invoke, eg, Deferred.ofValue, h0, h1, hf]
  unfold Oper.wp
  rw [hrun]
  refine Calls.mono h ?_
  intro e w' hr
  cases e with
  | returned v => exact hR v w' hr
  | panicked c => exact (hp c w' hr).elim
  | outgrown => exact (hou w' hr).elim

theorem Blk3.drew {w : World} {b : Nat} {t : TypeId} {u0 u1 u2 : Value} (h : Blk3 w b t u0 u1 u2) : Blk3 w.drew b t u0 u1 u2 := h
theorem RdLits.drew {w : World} {v : Value} {ls : List Lit} (h : RdLits w v ls) : RdLits w.drew v ls := h.below (Below.refl _ _).drew

set_option maxRecDepth 100000 in
set_option maxHeartbeats 16000000 in
theorem iValidClause_any (v : Value) (ls : List Lit) (n : Int) (w : World) (h : RdLits w v ls) :
    Calls Tryz.prog 83 #[v, .int .i64 n] w (BoolPost (vclB ls n) w) := by
  have HC := Lib.hid h
  obtain ⟨a, cap, ev, hl, hm, _⟩ := h
  obtain ⟨m, hm'⟩ : ∃ m, m = ls.length := ⟨_, rfl⟩
  have HN := Lib.hid hm'
  rw [ev] at HC ⊢
  rw [← hm'] at hl HC ⊢
  clear hm' ev
  unfold maxLen at hm
  unfold BoolPost
  cases h1 : wiB n 1 4
  · have HF : Hid (vclB ls n = false) := Lib.hid (by unfold vclB; rw [h1]; rfl)
    go_enter Tryz.func83, Tryz.ntmps83
    go_wp2_with fail
    refine (within_any _ _ _ _).mono ?_
    rintro e w' ⟨rfl, rfl⟩
    rw [h1]
    go_wp2
    go_ret
    exact ⟨ret_bool HF.out.symm, Below.refl _ _⟩
  have hb := wiB_in h1
  have hn1 := hb.1
  have hn4 := hb.2
  clear hb
  have HF : Hid (vclB ls n = clB ls n) := Lib.hid (by unfold vclB; rw [h1]; rfl)
  by_cases h12 : (m : Int) > 12
  · have HF2 : Hid (vclB ls n = false) := Lib.hid (by rw [HF.out]; unfold clB; rw [← HN.out, decide_eq_false (by omega)]; rfl)
    go_enter Tryz.func83, Tryz.ntmps83
    go_wp2_with fail
    refine (within_any _ _ _ _).mono ?_
    rintro e w' ⟨rfl, rfl⟩
    rw [h1]
    go_wp2
    go_ret
    exact ⟨ret_bool HF2.out.symm, Below.refl _ _⟩
  have hm12 : m ≤ 12 := by omega
  go_enter Tryz.func83, Tryz.ntmps83
  go_wp2_with fail
  refine (within_any _ _ _ _).mono ?_
  rintro e w' ⟨rfl, rfl⟩
  rw [h1]
  clear h1
  go_wp2
  go_loopw [17] (fun i wr => ∃ k : Nat, k ≤ m ∧ i = .int .i64 k ∧ Hid (∀ j, j < k → stB ls n j = true) ∧ Below w.heap.size w wr) (fun i _ => m - (intOf i).toNat)
  case atStart => exact ⟨0, Nat.zero_le _, rfl, Lib.hid (fun j hj => by omega), Below.refl _ _⟩
  case round =>
    obtain ⟨k, hk, rfl, HS, hbel⟩ := hrel
    by_cases hlt : k < m
    · obtain ⟨b, off, l, rfl, hck, k0, k1, k2⟩ := rdLits_at (HC.out.below hbel) hlt
      have HCK := Lib.hid hck
      obtain ⟨W, hW⟩ : ∃ W, wr.alloc (.cells #[.int .i64 l.var, .int .i64 l.val, .bool l.neg] 91) = W := ⟨_, rfl⟩
      have b1 : Below wr.heap.size wr W := by rw [← hW]; exact below1 _ _
      have q0 : Blk3 W wr.heap.size 91 (.int .i64 l.var) (.int .i64 l.val) (.bool l.neg) := by rw [← hW]; exact Blk3.new _ _ _ _ _
      have HBW : Hid (Below w.heap.size w W) := Lib.hid (hbel.trans (b1.mono hbel.size))
      have HCW := Lib.hid (HC.out.below HBW.out)
      have HW := Lib.hid hW
      have HKL : Hid (k < ls.length) := Lib.hid (by rw [← HN.out]; exact hlt)
      clear hck hbel hW b1
      obtain ⟨c0, c1, c2⟩ := q0.cell
      have HQ0 := Lib.hid q0
      clear q0
      cases h3 : litOk l n
      · have HF2 : Hid (clB ls n = false) := Lib.hid (clB_false HKL.out (by unfold stB; rw [HCK.out]; simp [h3]))
        have HE := Lib.hid (isLiteral_any l n W.drew hn1 hn4)
        rw [h3] at HE
        have HBD := Lib.hid HBW.out.drew
        go_wp2_with fail
        rw [HW.out]
        refine region_x (LitCs wr.heap.size l) (fun _ => false) rfl ?_
        have hS : LitCs wr.heap.size l W.drew := ⟨c0, c1, c2⟩
        change wpAnyX Tryz.prog .any _ _ _ _ 18 _ (vcAct _ _ _ _ _ _ _ _ _ _ _ _ _ _ _ _ _ _ _ _ _ _ _ _ _ _ _ _ _ _ _ _ _ _ _ _ _ _ _ _ _) W.drew
        refine wpAnyX_take (i := 0) (v := .agg #[.int .i64 l.var, .int .i64 l.val, .bool l.neg]) rfl (by kernel_rfl) (by kernel_rfl) (by kernel_rfl) (by kernel_rfl) (fun _ _ _ h => h) (.inl ⟨rfl, fun w' hw' => exec_load rfl rfl (load_lit w' _ _ _ _ hw'.1 hw'.2.1 hw'.2.2)⟩) hS ?_
        change wpAnyX Tryz.prog .any _ _ _ _ 17 _ (vcAct _ _ _ _ _ _ _ _ _ _ _ _ _ _ _ _ _ _ _ _ _ _ (.agg #[.int .i64 l.var, .int .i64 l.val, .bool l.neg]) _ _ _ _ _ _ _ _ _ _ _ _ _ _ _ _ _ _) W.drew
        refine wpAnyX_take (i := 1) (v := .int .i64 n) rfl (by kernel_rfl) (by kernel_rfl) (by kernel_rfl) (by kernel_rfl) (fun _ _ _ h => h) (.inl ⟨rfl, fun w' hw' => rfl⟩) hS ?_
        change wpAnyX Tryz.prog .any _ _ _ _ 16 _ (vcAct _ _ _ _ _ _ _ _ _ _ _ _ _ _ _ _ _ _ _ _ _ _ (.agg #[.int .i64 l.var, .int .i64 l.val, .bool l.neg]) (.int .i64 n) _ _ _ _ _ _ _ _ _ _ _ _ _ _ _ _ _) W.drew
        refine wpAnyX_one (i := 2) (by kernel_rfl) rfl (fun K' hK' => ?_)
        refine step_callL2 _ rfl 128 _ _ _ _ _ rfl rfl rfl (enters_of Tryz.func128 (by kernel_rfl) rfl) _ HE.out (fun c w' h => by cases h.1) (fun w' h => by cases h.1) ?_
        rintro v9 w9 ⟨e9, b9⟩
        obtain rfl : v9 = .bool false := by injection e9
        have B9 := Lib.hid (HBD.out.trans (b9.mono HBD.out.size))
        have hS9 := litCells_below hS b9
        refine hK'.out _ _ (fun _ => hS9) ?_
        clear hK' K' b9
        change wpAnyX Tryz.prog .any _ _ _ _ 15 _ (vcAct _ _ _ _ _ _ _ _ _ _ _ _ _ _ _ _ _ _ _ _ _ _ (.agg #[.int .i64 l.var, .int .i64 l.val, .bool l.neg]) (.int .i64 n) (.bool false) _ _ _ _ _ _ _ _ _ _ _ _ _ _ _ _) w9
        refine wpAnyX_take (i := 3) (v := .bool true) rfl (by kernel_rfl) (by kernel_rfl) (by kernel_rfl) (by kernel_rfl) (fun _ _ _ h => h) (.inl ⟨rfl, fun w' hw' => rfl⟩) hS9 ?_
        change wpAnyX Tryz.prog .any _ _ _ _ 14 _ (vcAct _ _ _ _ _ _ _ _ _ _ _ _ _ _ _ _ _ _ _ _ _ _ (.agg #[.int .i64 l.var, .int .i64 l.val, .bool l.neg]) (.int .i64 n) (.bool false) (.bool true) _ _ _ _ _ _ _ _ _ _ _ _ _ _ _) w9
        refine wpAnyX_take (i := 4) (v := .bool true) rfl (by kernel_rfl) (by kernel_rfl) (by kernel_rfl) (by kernel_rfl) (fun _ _ _ h => h) (.inl ⟨rfl, fun w' hw' => rfl⟩) hS9 ?_
        change wpAnyX Tryz.prog .any _ _ _ _ 13 _ (vcAct _ _ _ _ _ _ _ _ _ _ _ _ _ _ _ _ _ _ _ _ _ _ (.agg #[.int .i64 l.var, .int .i64 l.val, .bool l.neg]) (.int .i64 n) (.bool false) (.bool true) (.bool true) _ _ _ _ _ _ _ _ _ _ _ _ _ _) w9
        refine wpAnyX_take (i := 5) (v := undef) rfl (by kernel_rfl) (by kernel_rfl) (by kernel_rfl) (by kernel_rfl) (fun _ _ _ h => h) (.inr ⟨rfl, rfl⟩) hS9 ?_
        change wpAnyX Tryz.prog .any _ _ _ _ 12 _ (vcAct _ _ _ _ _ _ _ _ _ _ _ _ _ _ _ _ _ _ _ _ _ _ (.agg #[.int .i64 l.var, .int .i64 l.val, .bool l.neg]) (.int .i64 n) (.bool false) (.bool true) (.bool true) (undef) _ _ _ _ _ _ _ _ _ _ _ _ _) w9
        refine wpAnyX_take (i := 6) (v := undef) rfl (by kernel_rfl) (by kernel_rfl) (by kernel_rfl) (by kernel_rfl) (fun _ _ _ h => h) (.inr ⟨rfl, rfl⟩) hS9 ?_
        change wpAnyX Tryz.prog .any _ _ _ _ 11 _ (vcAct _ _ _ _ _ _ _ _ _ _ _ _ _ _ _ _ _ _ _ _ _ _ (.agg #[.int .i64 l.var, .int .i64 l.val, .bool l.neg]) (.int .i64 n) (.bool false) (.bool true) (.bool true) (undef) (undef) _ _ _ _ _ _ _ _ _ _ _ _) w9
        refine wpAnyX_take (i := 7) (v := undef) rfl (by kernel_rfl) (by kernel_rfl) (by kernel_rfl) (by kernel_rfl) (fun _ _ _ h => h) (.inr ⟨rfl, rfl⟩) hS9 ?_
        change wpAnyX Tryz.prog .any _ _ _ _ 10 _ (vcAct _ _ _ _ _ _ _ _ _ _ _ _ _ _ _ _ _ _ _ _ _ _ (.agg #[.int .i64 l.var, .int .i64 l.val, .bool l.neg]) (.int .i64 n) (.bool false) (.bool true) (.bool true) (undef) (undef) (undef) _ _ _ _ _ _ _ _ _ _ _) w9
        refine wpAnyX_take (i := 8) (v := undef) rfl (by kernel_rfl) (by kernel_rfl) (by kernel_rfl) (by kernel_rfl) (fun _ _ _ h => h) (.inr ⟨rfl, rfl⟩) hS9 ?_
        change wpAnyX Tryz.prog .any _ _ _ _ 9 _ (vcAct _ _ _ _ _ _ _ _ _ _ _ _ _ _ _ _ _ _ _ _ _ _ (.agg #[.int .i64 l.var, .int .i64 l.val, .bool l.neg]) (.int .i64 n) (.bool false) (.bool true) (.bool true) (undef) (undef) (undef) (undef) _ _ _ _ _ _ _ _ _ _) w9
        refine wpAnyX_take (i := 9) (v := undef) rfl (by kernel_rfl) (by kernel_rfl) (by kernel_rfl) (by kernel_rfl) (fun _ _ _ h => h) (.inr ⟨rfl, rfl⟩) hS9 ?_
        change wpAnyX Tryz.prog .any _ _ _ _ 8 _ (vcAct _ _ _ _ _ _ _ _ _ _ _ _ _ _ _ _ _ _ _ _ _ _ (.agg #[.int .i64 l.var, .int .i64 l.val, .bool l.neg]) (.int .i64 n) (.bool false) (.bool true) (.bool true) (undef) (undef) (undef) (undef) (undef) _ _ _ _ _ _ _ _ _) w9
        refine wpAnyX_take (i := 10) (v := undef) rfl (by kernel_rfl) (by kernel_rfl) (by kernel_rfl) (by kernel_rfl) (fun _ _ _ h => h) (.inr ⟨rfl, rfl⟩) hS9 ?_
        change wpAnyX Tryz.prog .any _ _ _ _ 7 _ (vcAct _ _ _ _ _ _ _ _ _ _ _ _ _ _ _ _ _ _ _ _ _ _ (.agg #[.int .i64 l.var, .int .i64 l.val, .bool l.neg]) (.int .i64 n) (.bool false) (.bool true) (.bool true) (undef) (undef) (undef) (undef) (undef) (undef) _ _ _ _ _ _ _ _) w9
        refine wpAnyX_take (i := 11) (v := undef) rfl (by kernel_rfl) (by kernel_rfl) (by kernel_rfl) (by kernel_rfl) (fun _ _ _ h => h) (.inr ⟨rfl, rfl⟩) hS9 ?_
        change wpAnyX Tryz.prog .any _ _ _ _ 6 _ (vcAct _ _ _ _ _ _ _ _ _ _ _ _ _ _ _ _ _ _ _ _ _ _ (.agg #[.int .i64 l.var, .int .i64 l.val, .bool l.neg]) (.int .i64 n) (.bool false) (.bool true) (.bool true) (undef) (undef) (undef) (undef) (undef) (undef) (undef) _ _ _ _ _ _ _) w9
        refine wpAnyX_take (i := 12) (v := undef) rfl (by kernel_rfl) (by kernel_rfl) (by kernel_rfl) (by kernel_rfl) (fun _ _ _ h => h) (.inr ⟨rfl, rfl⟩) hS9 ?_
        change wpAnyX Tryz.prog .any _ _ _ _ 5 _ (vcAct _ _ _ _ _ _ _ _ _ _ _ _ _ _ _ _ _ _ _ _ _ _ (.agg #[.int .i64 l.var, .int .i64 l.val, .bool l.neg]) (.int .i64 n) (.bool false) (.bool true) (.bool true) (undef) (undef) (undef) (undef) (undef) (undef) (undef) (undef) _ _ _ _ _ _) w9
        refine wpAnyX_take (i := 13) (v := undef) rfl (by kernel_rfl) (by kernel_rfl) (by kernel_rfl) (by kernel_rfl) (fun _ _ _ h => h) (.inr ⟨rfl, rfl⟩) hS9 ?_
        change wpAnyX Tryz.prog .any _ _ _ _ 4 _ (vcAct _ _ _ _ _ _ _ _ _ _ _ _ _ _ _ _ _ _ _ _ _ _ (.agg #[.int .i64 l.var, .int .i64 l.val, .bool l.neg]) (.int .i64 n) (.bool false) (.bool true) (.bool true) (undef) (undef) (undef) (undef) (undef) (undef) (undef) (undef) (undef) _ _ _ _ _) w9
        refine wpAnyX_take (i := 14) (v := undef) rfl (by kernel_rfl) (by kernel_rfl) (by kernel_rfl) (by kernel_rfl) (fun _ _ _ h => h) (.inr ⟨rfl, rfl⟩) hS9 ?_
        change wpAnyX Tryz.prog .any _ _ _ _ 3 _ (vcAct _ _ _ _ _ _ _ _ _ _ _ _ _ _ _ _ _ _ _ _ _ _ (.agg #[.int .i64 l.var, .int .i64 l.val, .bool l.neg]) (.int .i64 n) (.bool false) (.bool true) (.bool true) (undef) (undef) (undef) (undef) (undef) (undef) (undef) (undef) (undef) (undef) _ _ _ _) w9
        refine wpAnyX_take (i := 15) (v := undef) rfl (by kernel_rfl) (by kernel_rfl) (by kernel_rfl) (by kernel_rfl) (fun _ _ _ h => h) (.inr ⟨rfl, rfl⟩) hS9 ?_
        change wpAnyX Tryz.prog .any _ _ _ _ 2 _ (vcAct _ _ _ _ _ _ _ _ _ _ _ _ _ _ _ _ _ _ _ _ _ _ (.agg #[.int .i64 l.var, .int .i64 l.val, .bool l.neg]) (.int .i64 n) (.bool false) (.bool true) (.bool true) (undef) (undef) (undef) (undef) (undef) (undef) (undef) (undef) (undef) (undef) (undef) _ _ _) w9
        refine wpAnyX_take (i := 16) (v := undef) rfl (by kernel_rfl) (by kernel_rfl) (by kernel_rfl) (by kernel_rfl) (fun _ _ _ h => h) (.inr ⟨rfl, rfl⟩) hS9 ?_
        change wpAnyX Tryz.prog .any _ _ _ _ 1 _ (vcAct _ _ _ _ _ _ _ _ _ _ _ _ _ _ _ _ _ _ _ _ _ _ (.agg #[.int .i64 l.var, .int .i64 l.val, .bool l.neg]) (.int .i64 n) (.bool false) (.bool true) (.bool true) (undef) (undef) (undef) (undef) (undef) (undef) (undef) (undef) (undef) (undef) (undef) (undef) _ _) w9
        refine wpAnyX_take (i := 17) (v := .bool true) rfl (by kernel_rfl) (by kernel_rfl) (by kernel_rfl) (by kernel_rfl) (fun _ _ _ h => h) (.inl ⟨rfl, fun w' hw' => rfl⟩) hS9 ?_
        change wpAnyX Tryz.prog .any _ _ _ _ 0 _ (vcAct _ _ _ _ _ _ _ _ _ _ _ _ _ _ _ _ _ _ _ _ _ _ (.agg #[.int .i64 l.var, .int .i64 l.val, .bool l.neg]) (.int .i64 n) (.bool false) (.bool true) (.bool true) (undef) (undef) (undef) (undef) (undef) (undef) (undef) (undef) (undef) (undef) (undef) (undef) (.bool true) _) w9
        refine wpAnyX_done (by kernel_rfl) ?_ _
        unfold vcAct
        go_wp2
        go_ret
        exact ⟨ret_bool (by rw [HF.out]; exact HF2.out.symm), B9.out⟩
      have HE := Lib.hid (isLiteral_any l n W.drew hn1 hn4)
      rw [h3] at HE
      have HBD := Lib.hid HBW.out.drew
      by_cases hk0 : k = 0
      · subst hk0
        have HS1 : Hid (∀ j, j < 1 → stB ls n j = true) := Lib.hid (by
          intro j hj
          obtain rfl : j = 0 := by omega
          rw [st_zero HCK.out]
          exact h3)
        simp only [Nat.zero_mul, Nat.add_zero] at k0 k1 k2
        go_wp2_with fail
        rw [HW.out]
        refine region_x (LitCs wr.heap.size l) (fun _ => false) rfl ?_
        have hS : LitCs wr.heap.size l W.drew := ⟨c0, c1, c2⟩
        change wpAnyX Tryz.prog .any _ _ _ _ 18 _ (vcAct _ _ _ _ _ _ _ _ _ _ _ _ _ _ _ _ _ _ _ _ _ _ _ _ _ _ _ _ _ _ _ _ _ _ _ _ _ _ _ _ _) W.drew
        refine wpAnyX_take (i := 0) (v := .agg #[.int .i64 l.var, .int .i64 l.val, .bool l.neg]) rfl (by kernel_rfl) (by kernel_rfl) (by kernel_rfl) (by kernel_rfl) (fun _ _ _ h => h) (.inl ⟨rfl, fun w' hw' => exec_load rfl rfl (load_lit w' _ _ _ _ hw'.1 hw'.2.1 hw'.2.2)⟩) hS ?_
        change wpAnyX Tryz.prog .any _ _ _ _ 17 _ (vcAct _ _ _ _ _ _ _ _ _ _ _ _ _ _ _ _ _ _ _ _ _ _ (.agg #[.int .i64 l.var, .int .i64 l.val, .bool l.neg]) _ _ _ _ _ _ _ _ _ _ _ _ _ _ _ _ _ _) W.drew
        refine wpAnyX_take (i := 1) (v := .int .i64 n) rfl (by kernel_rfl) (by kernel_rfl) (by kernel_rfl) (by kernel_rfl) (fun _ _ _ h => h) (.inl ⟨rfl, fun w' hw' => rfl⟩) hS ?_
        change wpAnyX Tryz.prog .any _ _ _ _ 16 _ (vcAct _ _ _ _ _ _ _ _ _ _ _ _ _ _ _ _ _ _ _ _ _ _ (.agg #[.int .i64 l.var, .int .i64 l.val, .bool l.neg]) (.int .i64 n) _ _ _ _ _ _ _ _ _ _ _ _ _ _ _ _ _) W.drew
        refine wpAnyX_one (i := 2) (by kernel_rfl) rfl (fun K' hK' => ?_)
        refine step_callL2 _ rfl 128 _ _ _ _ _ rfl rfl rfl (enters_of Tryz.func128 (by kernel_rfl) rfl) _ HE.out (fun c w' h => by cases h.1) (fun w' h => by cases h.1) ?_
        rintro v9 w9 ⟨e9, b9⟩
        obtain rfl : v9 = .bool true := by injection e9
        have B9 := Lib.hid (HBD.out.trans (b9.mono HBD.out.size))
        have hS9 := litCells_below hS b9
        refine hK'.out _ _ (fun _ => hS9) ?_
        clear hK' K' b9
        change wpAnyX Tryz.prog .any _ _ _ _ 15 _ (vcAct _ _ _ _ _ _ _ _ _ _ _ _ _ _ _ _ _ _ _ _ _ _ (.agg #[.int .i64 l.var, .int .i64 l.val, .bool l.neg]) (.int .i64 n) (.bool true) _ _ _ _ _ _ _ _ _ _ _ _ _ _ _ _) w9
        refine wpAnyX_take (i := 3) (v := .bool false) rfl (by kernel_rfl) (by kernel_rfl) (by kernel_rfl) (by kernel_rfl) (fun _ _ _ h => h) (.inl ⟨rfl, fun w' hw' => rfl⟩) hS9 ?_
        change wpAnyX Tryz.prog .any _ _ _ _ 14 _ (vcAct _ _ _ _ _ _ _ _ _ _ _ _ _ _ _ _ _ _ _ _ _ _ (.agg #[.int .i64 l.var, .int .i64 l.val, .bool l.neg]) (.int .i64 n) (.bool true) (.bool false) _ _ _ _ _ _ _ _ _ _ _ _ _ _ _) w9
        refine wpAnyX_take (i := 4) (v := .bool false) rfl (by kernel_rfl) (by kernel_rfl) (by kernel_rfl) (by kernel_rfl) (fun _ _ _ h => h) (.inl ⟨rfl, fun w' hw' => rfl⟩) hS9 ?_
        change wpAnyX Tryz.prog .any _ _ _ _ 13 _ (vcAct _ _ _ _ _ _ _ _ _ _ _ _ _ _ _ _ _ _ _ _ _ _ (.agg #[.int .i64 l.var, .int .i64 l.val, .bool l.neg]) (.int .i64 n) (.bool true) (.bool false) (.bool false) _ _ _ _ _ _ _ _ _ _ _ _ _ _) w9
        refine wpAnyX_take (i := 5) (v := .int .i64 0) rfl (by kernel_rfl) (by kernel_rfl) (by kernel_rfl) (by kernel_rfl) (fun _ _ _ h => h) (.inl ⟨rfl, fun w' hw' => rfl⟩) hS9 ?_
        change wpAnyX Tryz.prog .any _ _ _ _ 12 _ (vcAct _ _ _ _ _ _ _ _ _ _ _ _ _ _ _ _ _ _ _ _ _ _ (.agg #[.int .i64 l.var, .int .i64 l.val, .bool l.neg]) (.int .i64 n) (.bool true) (.bool false) (.bool false) (.int .i64 0) _ _ _ _ _ _ _ _ _ _ _ _ _) w9
        refine wpAnyX_take (i := 6) (v := .bool false) rfl (by kernel_rfl) (by kernel_rfl) (by kernel_rfl) (by kernel_rfl) (fun _ _ _ h => h) (.inl ⟨rfl, fun w' hw' => rfl⟩) hS9 ?_
        change wpAnyX Tryz.prog .any _ _ _ _ 11 _ (vcAct _ _ _ _ _ _ _ _ _ _ _ _ _ _ _ _ _ _ _ _ _ _ (.agg #[.int .i64 l.var, .int .i64 l.val, .bool l.neg]) (.int .i64 n) (.bool true) (.bool false) (.bool false) (.int .i64 0) (.bool false) _ _ _ _ _ _ _ _ _ _ _ _) w9
        refine wpAnyX_take (i := 7) (v := .bool false) rfl (by kernel_rfl) (by kernel_rfl) (by kernel_rfl) (by kernel_rfl) (fun _ _ _ h => h) (.inl ⟨rfl, fun w' hw' => rfl⟩) hS9 ?_
        change wpAnyX Tryz.prog .any _ _ _ _ 10 _ (vcAct _ _ _ _ _ _ _ _ _ _ _ _ _ _ _ _ _ _ _ _ _ _ (.agg #[.int .i64 l.var, .int .i64 l.val, .bool l.neg]) (.int .i64 n) (.bool true) (.bool false) (.bool false) (.int .i64 0) (.bool false) (.bool false) _ _ _ _ _ _ _ _ _ _ _) w9
        refine wpAnyX_take (i := 8) (v := undef) rfl (by kernel_rfl) (by kernel_rfl) (by kernel_rfl) (by kernel_rfl) (fun _ _ _ h => h) (.inr ⟨rfl, rfl⟩) hS9 ?_
        change wpAnyX Tryz.prog .any _ _ _ _ 9 _ (vcAct _ _ _ _ _ _ _ _ _ _ _ _ _ _ _ _ _ _ _ _ _ _ (.agg #[.int .i64 l.var, .int .i64 l.val, .bool l.neg]) (.int .i64 n) (.bool true) (.bool false) (.bool false) (.int .i64 0) (.bool false) (.bool false) (undef) _ _ _ _ _ _ _ _ _ _) w9
        refine wpAnyX_take (i := 9) (v := undef) rfl (by kernel_rfl) (by kernel_rfl) (by kernel_rfl) (by kernel_rfl) (fun _ _ _ h => h) (.inr ⟨rfl, rfl⟩) hS9 ?_
        change wpAnyX Tryz.prog .any _ _ _ _ 8 _ (vcAct _ _ _ _ _ _ _ _ _ _ _ _ _ _ _ _ _ _ _ _ _ _ (.agg #[.int .i64 l.var, .int .i64 l.val, .bool l.neg]) (.int .i64 n) (.bool true) (.bool false) (.bool false) (.int .i64 0) (.bool false) (.bool false) (undef) (undef) _ _ _ _ _ _ _ _ _) w9
        refine wpAnyX_take (i := 10) (v := undef) rfl (by kernel_rfl) (by kernel_rfl) (by kernel_rfl) (by kernel_rfl) (fun _ _ _ h => h) (.inr ⟨rfl, rfl⟩) hS9 ?_
        change wpAnyX Tryz.prog .any _ _ _ _ 7 _ (vcAct _ _ _ _ _ _ _ _ _ _ _ _ _ _ _ _ _ _ _ _ _ _ (.agg #[.int .i64 l.var, .int .i64 l.val, .bool l.neg]) (.int .i64 n) (.bool true) (.bool false) (.bool false) (.int .i64 0) (.bool false) (.bool false) (undef) (undef) (undef) _ _ _ _ _ _ _ _) w9
        refine wpAnyX_take (i := 11) (v := undef) rfl (by kernel_rfl) (by kernel_rfl) (by kernel_rfl) (by kernel_rfl) (fun _ _ _ h => h) (.inr ⟨rfl, rfl⟩) hS9 ?_
        change wpAnyX Tryz.prog .any _ _ _ _ 6 _ (vcAct _ _ _ _ _ _ _ _ _ _ _ _ _ _ _ _ _ _ _ _ _ _ (.agg #[.int .i64 l.var, .int .i64 l.val, .bool l.neg]) (.int .i64 n) (.bool true) (.bool false) (.bool false) (.int .i64 0) (.bool false) (.bool false) (undef) (undef) (undef) (undef) _ _ _ _ _ _ _) w9
        refine wpAnyX_take (i := 12) (v := undef) rfl (by kernel_rfl) (by kernel_rfl) (by kernel_rfl) (by kernel_rfl) (fun _ _ _ h => h) (.inr ⟨rfl, rfl⟩) hS9 ?_
        change wpAnyX Tryz.prog .any _ _ _ _ 5 _ (vcAct _ _ _ _ _ _ _ _ _ _ _ _ _ _ _ _ _ _ _ _ _ _ (.agg #[.int .i64 l.var, .int .i64 l.val, .bool l.neg]) (.int .i64 n) (.bool true) (.bool false) (.bool false) (.int .i64 0) (.bool false) (.bool false) (undef) (undef) (undef) (undef) (undef) _ _ _ _ _ _) w9
        refine wpAnyX_take (i := 13) (v := undef) rfl (by kernel_rfl) (by kernel_rfl) (by kernel_rfl) (by kernel_rfl) (fun _ _ _ h => h) (.inr ⟨rfl, rfl⟩) hS9 ?_
        change wpAnyX Tryz.prog .any _ _ _ _ 4 _ (vcAct _ _ _ _ _ _ _ _ _ _ _ _ _ _ _ _ _ _ _ _ _ _ (.agg #[.int .i64 l.var, .int .i64 l.val, .bool l.neg]) (.int .i64 n) (.bool true) (.bool false) (.bool false) (.int .i64 0) (.bool false) (.bool false) (undef) (undef) (undef) (undef) (undef) (undef) _ _ _ _ _) w9
        refine wpAnyX_take (i := 14) (v := undef) rfl (by kernel_rfl) (by kernel_rfl) (by kernel_rfl) (by kernel_rfl) (fun _ _ _ h => h) (.inr ⟨rfl, rfl⟩) hS9 ?_
        change wpAnyX Tryz.prog .any _ _ _ _ 3 _ (vcAct _ _ _ _ _ _ _ _ _ _ _ _ _ _ _ _ _ _ _ _ _ _ (.agg #[.int .i64 l.var, .int .i64 l.val, .bool l.neg]) (.int .i64 n) (.bool true) (.bool false) (.bool false) (.int .i64 0) (.bool false) (.bool false) (undef) (undef) (undef) (undef) (undef) (undef) (undef) _ _ _ _) w9
        refine wpAnyX_take (i := 15) (v := undef) rfl (by kernel_rfl) (by kernel_rfl) (by kernel_rfl) (by kernel_rfl) (fun _ _ _ h => h) (.inr ⟨rfl, rfl⟩) hS9 ?_
        change wpAnyX Tryz.prog .any _ _ _ _ 2 _ (vcAct _ _ _ _ _ _ _ _ _ _ _ _ _ _ _ _ _ _ _ _ _ _ (.agg #[.int .i64 l.var, .int .i64 l.val, .bool l.neg]) (.int .i64 n) (.bool true) (.bool false) (.bool false) (.int .i64 0) (.bool false) (.bool false) (undef) (undef) (undef) (undef) (undef) (undef) (undef) (undef) _ _ _) w9
        refine wpAnyX_take (i := 16) (v := .bool false) rfl (by kernel_rfl) (by kernel_rfl) (by kernel_rfl) (by kernel_rfl) (fun _ _ _ h => h) (.inl ⟨rfl, fun w' hw' => rfl⟩) hS9 ?_
        change wpAnyX Tryz.prog .any _ _ _ _ 1 _ (vcAct _ _ _ _ _ _ _ _ _ _ _ _ _ _ _ _ _ _ _ _ _ _ (.agg #[.int .i64 l.var, .int .i64 l.val, .bool l.neg]) (.int .i64 n) (.bool true) (.bool false) (.bool false) (.int .i64 0) (.bool false) (.bool false) (undef) (undef) (undef) (undef) (undef) (undef) (undef) (undef) (.bool false) _ _) w9
        refine wpAnyX_take (i := 17) (v := .bool false) rfl (by kernel_rfl) (by kernel_rfl) (by kernel_rfl) (by kernel_rfl) (fun _ _ _ h => h) (.inl ⟨rfl, fun w' hw' => rfl⟩) hS9 ?_
        change wpAnyX Tryz.prog .any _ _ _ _ 0 _ (vcAct _ _ _ _ _ _ _ _ _ _ _ _ _ _ _ _ _ _ _ _ _ _ (.agg #[.int .i64 l.var, .int .i64 l.val, .bool l.neg]) (.int .i64 n) (.bool true) (.bool false) (.bool false) (.int .i64 0) (.bool false) (.bool false) (undef) (undef) (undef) (undef) (undef) (undef) (undef) (undef) (.bool false) (.bool false) _) w9
        refine wpAnyX_done (by kernel_rfl) ?_ _
        unfold vcAct
        go_wp2
        go_roundw
        all_goals first
          | exact ⟨1, by omega, by go_num, HS1, B9.out⟩
          | (simp [intOf]; omega)
      · obtain ⟨j, hj⟩ : ∃ j, k = j + 1 := ⟨k - 1, by omega⟩
        have hjm : j < m := by omega
        have hw1 : IntKind.i64.wrap ((k : Int) - 1) = (j : Int) := by
          have : (k : Int) - 1 = (j : Int) := by omega
          rw [this]
          exact wrap_nat (by omega)
        have hk1 : (0 : Int) ≤ (k : Int) := by omega
        have hk2 : (k : Int) < (m : Int) := by omega
        have hj1 : (0 : Int) ≤ (j : Int) := by omega
        have hj2 : (j : Int) < (m : Int) := by omega
        have hgt : decide (0 < k) = true := decide_eq_true (by omega)
        obtain ⟨b', off', p, hab, hcp, m0, m1, m2⟩ := rdLits_at HCW.out hjm
        injection hab with hab
        injection hab with hb' ho' _
        subst hb' ho'
        have HKJ := Lib.hid hj
        have HLC := Lib.hid (litCmp_lt p l)
        have HST : Hid (stB ls n k = litLt p l) := Lib.hid (by rw [hj] at HCK ⊢; rw [st_succ HCK.out hcp, h3]; rfl)
        clear hk0 hcp hj h3
        obtain ⟨q, hq⟩ : ∃ q, q = litCmp p l := ⟨_, rfl⟩
        rw [← hq] at HLC
        have HQE := Lib.hid hq
        clear hq
        cases h5 : litLt p l
        · rw [h5] at HST HLC
          have h6 : decide (0 ≤ q) = true := HLC.out
          have HF2 : Hid (clB ls n = false) := Lib.hid (clB_false HKL.out HST.out)
          clear h5
          go_wp2_with fail
          rw [HW.out]
          go_region_held3 (fun w' => w'.cell? ⟨wr.heap.size, 0, none⟩ = some (.int .i64 l.var) ∧ w'.cell? ⟨wr.heap.size, 1, none⟩ = some (.int .i64 l.val) ∧ w'.cell? ⟨wr.heap.size, 2, none⟩ = some (.bool l.neg) ∧ w'.cell? ⟨b, off + j * 3, none⟩ = some (.int .i64 p.var) ∧ w'.cell? ⟨b, off + j * 3 + 1, none⟩ = some (.int .i64 p.val) ∧ w'.cell? ⟨b, off + j * 3 + 2, none⟩ = some (.bool p.neg)) (first | exact ⟨c0, c1, c2, m0, m1, m2⟩ | exact ⟨e0, e1, e2, e3, e4, e5⟩ | exact ⟨g0, g1, g2, g3, g4, g5⟩) (first | (go_at_call 128; refine HE.out.mono ?_; rintro e w9 ⟨rfl, b9⟩; have B9 := Lib.hid (HBD.out.trans (b9.mono HBD.out.size)); have e0 := (b9.cell (World.block_lt_of_cell? W.drew _ c0)).trans c0; have e1 := (b9.cell (World.block_lt_of_cell? W.drew _ c1)).trans c1; have e2 := (b9.cell (World.block_lt_of_cell? W.drew _ c2)).trans c2; have e3 := (b9.cell (World.block_lt_of_cell? W.drew _ m0)).trans m0; have e4 := (b9.cell (World.block_lt_of_cell? W.drew _ m1)).trans m1; have e5 := (b9.cell (World.block_lt_of_cell? W.drew _ m2)).trans m2; clear b9) | (go_at_call 129; refine (compareLiterals_any p l w9).mono ?_; rintro e w10 ⟨rfl, b10⟩; rw [← HQE.out]; have B10 := Lib.hid (B9.out.trans (b10.mono B9.out.size)); have g0 := (b10.cell (World.block_lt_of_cell? w9 _ e0)).trans e0; have g1 := (b10.cell (World.block_lt_of_cell? w9 _ e1)).trans e1; have g2 := (b10.cell (World.block_lt_of_cell? w9 _ e2)).trans e2; have g3 := (b10.cell (World.block_lt_of_cell? w9 _ e3)).trans e3; have g4 := (b10.cell (World.block_lt_of_cell? w9 _ e4)).trans e4; have g5 := (b10.cell (World.block_lt_of_cell? w9 _ e5)).trans e5; clear b10))
          all_goals go_wp2
          all_goals go_ret
          all_goals exact ⟨ret_bool (by rw [HF.out]; exact HF2.out.symm), B10.out⟩
        · rw [h5] at HST HLC
          have h6 : decide (0 ≤ q) = false := HLC.out
          have HS1 : Hid (∀ i, i < k + 1 → stB ls n i = true) := Lib.hid (fun i hi => by
            by_cases e : i = k
            · rw [e]; exact HST.out
            · exact HS.out i (by omega))
          clear h5
          go_wp2_with fail
          rw [HW.out]
          go_region_held3 (fun w' => w'.cell? ⟨wr.heap.size, 0, none⟩ = some (.int .i64 l.var) ∧ w'.cell? ⟨wr.heap.size, 1, none⟩ = some (.int .i64 l.val) ∧ w'.cell? ⟨wr.heap.size, 2, none⟩ = some (.bool l.neg) ∧ w'.cell? ⟨b, off + j * 3, none⟩ = some (.int .i64 p.var) ∧ w'.cell? ⟨b, off + j * 3 + 1, none⟩ = some (.int .i64 p.val) ∧ w'.cell? ⟨b, off + j * 3 + 2, none⟩ = some (.bool p.neg)) (first | exact ⟨c0, c1, c2, m0, m1, m2⟩ | exact ⟨e0, e1, e2, e3, e4, e5⟩ | exact ⟨g0, g1, g2, g3, g4, g5⟩) (first | (go_at_call 128; refine HE.out.mono ?_; rintro e w9 ⟨rfl, b9⟩; have B9 := Lib.hid (HBD.out.trans (b9.mono HBD.out.size)); have e0 := (b9.cell (World.block_lt_of_cell? W.drew _ c0)).trans c0; have e1 := (b9.cell (World.block_lt_of_cell? W.drew _ c1)).trans c1; have e2 := (b9.cell (World.block_lt_of_cell? W.drew _ c2)).trans c2; have e3 := (b9.cell (World.block_lt_of_cell? W.drew _ m0)).trans m0; have e4 := (b9.cell (World.block_lt_of_cell? W.drew _ m1)).trans m1; have e5 := (b9.cell (World.block_lt_of_cell? W.drew _ m2)).trans m2; clear b9) | (go_at_call 129; refine (compareLiterals_any p l w9).mono ?_; rintro e w10 ⟨rfl, b10⟩; rw [← HQE.out]; have B10 := Lib.hid (B9.out.trans (b10.mono B9.out.size)); have g0 := (b10.cell (World.block_lt_of_cell? w9 _ e0)).trans e0; have g1 := (b10.cell (World.block_lt_of_cell? w9 _ e1)).trans e1; have g2 := (b10.cell (World.block_lt_of_cell? w9 _ e2)).trans e2; have g3 := (b10.cell (World.block_lt_of_cell? w9 _ e3)).trans e3; have g4 := (b10.cell (World.block_lt_of_cell? w9 _ e4)).trans e4; have g5 := (b10.cell (World.block_lt_of_cell? w9 _ e5)).trans e5; clear b10))
          all_goals go_wp2
          all_goals go_roundw
          all_goals first
            | exact ⟨k + 1, by omega, by go_num, HS1, B10.out⟩
            | (simp [intOf]; omega)
    · obtain rfl : k = m := by omega
      have HF2 : Hid (clB ls n = true) := Lib.hid (by rw [clB_all (fun j hj => HS.out j (by rw [HN.out]; exact hj)), ← HN.out]; exact decide_eq_true hm12)
      go_wp2
      go_ret
      exact ⟨ret_bool (by rw [HF.out]; exact HF2.out.symm), hbel⟩
end Go.Proofs.YtipapmmjfoaddaaGreat
