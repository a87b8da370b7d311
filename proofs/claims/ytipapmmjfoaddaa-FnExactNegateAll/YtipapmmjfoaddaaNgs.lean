/- The library's sort of at most twelve literals. The negations of a clause, both packages. -/
import Derived.Test.YtipapmmjfoaddaaLitK
import Derived.Test.YtipapmmjfoaddaaShelf
import Derived.Test.YtipapmmjfoaddaaLitA

/-! The library's sort of at most twelve literals. -/
namespace Go.Proofs.Ytipapmmjfoaddaa
open Go.ChangeShapes Go.WideShapes Go.ChangeAt Go.RowKit Go.Deep Go.Shelf
set_option linter.unusedVariables false
set_option linter.unusedSimpArgs false

theorem litLt_ntrans {a b c : Lit} (h1 : litLt a b = false) (h2 : litLt b c = false) : litLt a c = false := by
  cases h : litLt a c
  · rfl
  · rcases litLt_total b c h2 with e | e
    · subst e; rw [h1] at h; cases h
    · have := litLt_trans h e; rw [h1] at this; cases this
theorem litLt_asymm {a b : Lit} (h : litLt a b = true) : litLt b a = false := by
  cases h2 : litLt b a
  · rfl
  · have := litLt_trans h h2; rw [litLt_irrefl] at this; cases this
theorem litCmp_neg (l k : Lit) : decide (litCmp l k < 0) = litLt l k := by
  have := litCmp_lt l k
  cases h : litLt l k
  · rw [h] at this
    have := of_decide_eq_true this
    rw [decide_eq_false (by omega)]
  · rw [h] at this
    have := of_decide_eq_false this
    rw [decide_eq_true (by omega)]
/-- The first i literals are in order. -/
def SrtTo (cs : List Lit) (i : Nat) : Prop := ∀ (p q : Nat) (a b : Lit), p < q → q < i → cs[p]? = some a → cs[q]? = some b → litLt b a = false
/-- .. the first i + 1 but the one at j, which precedes those behind it. -/
def SrtIn (cs : List Lit) (i j : Nat) : Prop := (∀ (p q : Nat) (a b : Lit), p < q → q ≤ i → p ≠ j → q ≠ j → cs[p]? = some a → cs[q]? = some b → litLt b a = false) ∧ (∀ (q : Nat) (a b : Lit), j < q → q ≤ i → cs[j]? = some a → cs[q]? = some b → litLt b a = false)
theorem SrtTo.one (cs : List Lit) : SrtTo cs 1 := fun p q a b h1 h2 => by omega
theorem SrtIn.start {cs : List Lit} {i : Nat} (h : SrtTo cs i) : SrtIn cs i i := ⟨fun p q a b h1 h2 h3 h4 ha hb => h p q a b h1 (by omega) ha hb, fun q a b h1 h2 => by omega⟩
theorem SrtIn.swap {cs : List Lit} {i j : Nat} {x y : Lit} (h : SrtIn cs i (j + 1)) (hx : cs[j + 1]? = some x) (hy : cs[j]? = some y) (hlt : litLt x y = true) (hj : j + 1 ≤ i) : SrtIn ((cs.set (j + 1) y).set j x) i j := by
  have hl : j + 1 < cs.length := (List.getElem?_eq_some_iff.1 hx).1
  have e0 : ((cs.set (j + 1) y).set j x)[j]? = some x := by rw [List.getElem?_set_self (by simp; omega)]
  have e1 : ((cs.set (j + 1) y).set j x)[j + 1]? = some y := by rw [List.getElem?_set_ne (by omega), List.getElem?_set_self hl]
  have e2 : ∀ q, q ≠ j → q ≠ j + 1 → ((cs.set (j + 1) y).set j x)[q]? = cs[q]? := fun q h1 h2 => by rw [List.getElem?_set_ne (by omega), List.getElem?_set_ne (by omega)]
  refine ⟨fun p q a b h1 h2 h3 h4 ha hb => ?_, fun q a b h1 h2 ha hb => ?_⟩
  · by_cases hp : p = j + 1
    · subst hp
      rw [e1] at ha
      obtain rfl := Option.some.inj ha
      rw [e2 q h4 (by omega)] at hb
      exact h.1 j q _ b (by omega) h2 (by omega) (by omega) hy hb
    · rw [e2 p h3 hp] at ha
      by_cases hq : q = j + 1
      · subst hq
        rw [e1] at hb
        obtain rfl := Option.some.inj hb
        exact h.1 p j a _ (by omega) (by omega) (by omega) (by omega) ha hy
      · rw [e2 q h4 hq] at hb
        exact h.1 p q a b h1 h2 hp hq ha hb
  · rw [e0] at ha
    obtain rfl := Option.some.inj ha
    by_cases hq : q = j + 1
    · subst hq
      rw [e1] at hb
      obtain rfl := Option.some.inj hb
      exact litLt_asymm hlt
    · rw [e2 q (by omega) hq] at hb
      exact h.2 q _ b (by omega) h2 hx hb
theorem SrtIn.stop {cs : List Lit} {i j : Nat} (h : SrtIn cs i j) (hc : j = 0 ∨ ∃ (k : Nat) (x y : Lit), j = k + 1 ∧ cs[j]? = some x ∧ cs[k]? = some y ∧ litLt x y = false) : SrtTo cs (i + 1) := by
  intro p q a b h1 h2 ha hb
  by_cases hp : p = j
  · subst hp
    exact h.2 q a b h1 (by omega) ha hb
  · by_cases hq : q = j
    · subst hq
      rcases hc with hc | ⟨k, x, y, e, hx, hy, hxy⟩
      · omega
      · rw [hb] at hx
        obtain rfl := Option.some.inj hx
        by_cases hk : p = k
        · subst hk
          rw [ha] at hy
          obtain rfl := Option.some.inj hy
          exact hxy
        · exact litLt_ntrans hxy (h.1 p k a y (by omega) (by omega) hp (by omega) ha hy)
    · exact h.1 p q a b h1 (by omega) hp hq ha hb
theorem SrtTo.mono {cs : List Lit} {i k : Nat} (h : SrtTo cs i) (hk : k ≤ i) : SrtTo cs k := fun p q a b h1 h2 ha hb => h p q a b h1 (by omega) ha hb

theorem step_callV {P : Program} (w : World) {ops : Array Oper} {o : Oper} {a : Act} {K : Act → World → Prop} {Q : Exit → Act → World → Prop} {E : Prop} (hw : Region.wanted o (yielded ops a.tmps) = true) (F : FuncId) (c x0 x1 : Operand) (v0 v1 : Value) (ts : Array TypeId)
    (ho : o.op = .call { callee := .value c, args := #[x0, x1], argTypes := ts }) (hc : a.eval c = .func (.func F) #[] #[]) (h0 : a.eval x0 = v0) (h1 : a.eval x1 = v1) (eg : ∀ gs w, (callFunc F gs).run P w = .ok (.enter F gs) w)
    (R : Ending → World → Prop) (h : Calls P F #[v0, v1] w R) (hp : ∀ c w', ¬ R (.panicked c) w') (hou : ∀ w', ¬ R .outgrown w') (hR : ∀ v w', R (.returned v) w' → K (a.put o.dst v) w') :
    if Region.wanted o (yielded ops a.tmps) = true then Oper.wp P o a w K Q else E := by
  rw [if_pos hw]
  have hrun : (execOp a.eval o).run P w = .ok (.enter F #[v0, v1]) w := by
    simp [execOp, ho, resolve, invoke, eg, Deferred.ofValue, h0, h1, hc]
  unfold Oper.wp
  rw [hrun]
  refine Calls.mono h ?_
  intro e w' hr
  cases e with
  | returned v => exact hR v w' hr
  | panicked c => exact (hp c w' hr).elim
  | outgrown => exact (hou w' hr).elim
section
set_option maxRecDepth 100000
theorem gtr_ints (w : World) (x y : Operand) (d m : Int) : (do eqGuard .gtr 3 x y (.int .i64 d) (.int .i64 m); binOp .gtr 3 (.int .i64 d) (.int .i64 m) : Sem Value).run Try.prog w = .ok (.bool (decide (d > m))) w := by
  go_simp
theorem lss_ints (w : World) (x y : Operand) (d m : Int) : (do eqGuard .lss 3 x y (.int .i64 d) (.int .i64 m); binOp .lss 3 (.int .i64 d) (.int .i64 m) : Sem Value).run Try.prog w = .ok (.bool (decide (d < m))) w := by
  go_simp
theorem sub_ints (w : World) (x y : Operand) (d m : Int) : (do eqGuard .sub 3 x y (.int .i64 d) (.int .i64 m); binOp .sub 3 (.int .i64 d) (.int .i64 m) : Sem Value).run Try.prog w = .ok (.int .i64 (IntKind.i64.wrap (d - m))) w := by
  go_simp
theorem index_litsZ (w : World) (b n c j : Nat) (hj : j < n) : (Instr.indexAt 36 (.slice (some ⟨b, 0, none⟩) n c) (.int .i64 j)).run Try.prog w = .ok (.pointer (some ⟨b, j * 3, none⟩)) w := by
  have := index_lits w b 0 n c j hj
  rwa [Nat.zero_add] at this
theorem wrap_pred {j q : Nat} (h : j = q + 1) (hj : j ≤ 12) : IntKind.i64.wrap ((j : Int) - 1) = (q : Nat) := by
  subst h
  have : (((q + 1 : Nat) : Int) - 1) = (q : Nat) := by omega
  rw [this]
  rcases (show q = 0 ∨ q = 1 ∨ q = 2 ∨ q = 3 ∨ q = 4 ∨ q = 5 ∨ q = 6 ∨ q = 7 ∨ q = 8 ∨ q = 9 ∨ q = 10 ∨ q = 11 by omega) with rfl | rfl | rfl | rfl | rfl | rfl | rfl | rfl | rfl | rfl | rfl | rfl <;> rfl
theorem sub1_ints {j q : Nat} (h : j = q + 1) (hj : j ≤ 12) (w : World) (x y : Operand) : (do eqGuard .sub 3 x y (.int .i64 j) (.int .i64 1); binOp .sub 3 (.int .i64 j) (.int .i64 1) : Sem Value).run Try.prog w = .ok (.int .i64 q) w := by
  rw [sub_ints, wrap_pred h hj]
end
/-- The activation inside the regions of the insertion sort. -/
def srAct (z0 z1 z2 z3 z4 z5 z6 z7 z8 z9 z10 z11 z12 z13 z14 z15 z16 z17 z18 z19 z20 z21 z22 z23 z24 z25 z26 z27 z28 z29 z30 z31 z32 z33 z34 z35 z36 z37 z38 z39 z40 z41 z42 z43 z44 z45 z46 z47 z48 z49 z50 z51 z52 : Value) : Act := { tmps := #[z0, z1, z2, z3, z4, z5, z6, z7, z8, z9, z10, z11, z12, z13, z14, z15, z16, z17, z18, z19, z20, z21, z22, z23, z24, z25, z26, z27, z28, z29, z30, z31, z32, z33, z34, z35, z36, z37, z38, z39, z40, z41, z42, z43, z44, z45, z46, z47, z48, z49, z50, z51, z52], defers := [] }
set_option maxRecDepth 100000 in
set_option maxHeartbeats 16000000 in
theorem isort_any (ls : List Lit) (n B c g : Nat) (w : World) (h : OwnC w B (.slice (some ⟨g, 0, none⟩) n c) n ls) (h12 : n ≤ 12) (hc63 : c ≤ 9223372036854775807) (hnc : n ≤ c) :
    Calls Try.prog 116 #[.slice (some ⟨g, 0, none⟩) n c, .int .i64 0, .int .i64 n, .func (.func 68) #[] #[]] w fun e w' => (∃ u, e = .returned u) ∧ ∃ cs, cs.Perm ls ∧ SrtTo cs n ∧ OwnC w' B (.slice (some ⟨g, 0, none⟩) n c) n cs ∧ OffB (fun b => b = g) w w' := by
  have HO := Lib.hid h
  clear h
  go_enter Try.func116, Try.ntmps116
  go_wp2
  go_loopw [8] (fun i wr => ∃ (k : Nat) (cs : List Lit), 1 ≤ k ∧ (k ≤ n ∨ k = 1) ∧ i = .int .i64 k ∧ Hid (cs.Perm ls) ∧ Hid (SrtTo cs k) ∧ Hid (OwnC wr B (.slice (some ⟨g, 0, none⟩) n c) n cs) ∧ Hid (OffB (fun b => b = g) w wr)) (fun i _ => n - (intOf i).toNat)
  case atStart => exact ⟨1, ls, by omega, by omega, rfl, Lib.hid (List.Perm.refl _), Lib.hid (SrtTo.one ls), HO, Lib.hid (OffB.refl _ _)⟩
  case round =>
    obtain ⟨k, cs, hk1, hk2, rfl, HPM, HST, HOC, HOF⟩ := hrel
    by_cases hkn : k < n
    · go_wp2
      obtain ⟨wo, hwo⟩ : ∃ wo, wo = wr := ⟨_, rfl⟩
      subst hwo
      go_loopw [9] (fun j wr => ∃ (q : Nat) (ks : List Lit), q ≤ k ∧ j = .int .i64 q ∧ Hid (ks.Perm ls) ∧ Hid (SrtIn ks k q) ∧ Hid (OwnC wr B (.slice (some ⟨g, 0, none⟩) n c) n ks) ∧ Hid (OffB (fun b => b = g) w wr)) (fun j _ => (intOf j).toNat)
      case atStart => exact ⟨k, cs, Nat.le_refl _, rfl, HPM, Lib.hid (SrtIn.start HST.out), HOC, HOF⟩
      case round =>
        obtain ⟨q, ks, hq, rfl, HPK, HSK, HOK, HFK⟩ := hrel
        by_cases hq0 : q = 0
        · subst hq0
          have HST2 := Lib.hid (HSK.out.stop (.inl rfl))
          have hS : True := trivial
          go_wp2_with fail
          refine region_x (fun _ => True) (fun _ => false) rfl ?_
          change wpAnyX Try.prog .any _ _ _ _ 17 _ (srAct _ _ _ _ _ _ _ _ _ _ _ _ _ _ _ _ _ _ _ _ _ _ _ _ _ _ _ _ _ _ _ _ _ _ _ _ _ _ _ _ _ _ _ _ _ _ _ _ _ _ _ _ _) wr.drew
          refine wpAnyX_take (i := 0) (v := .int .i64 0) rfl (by kernel_rfl) (by kernel_rfl) (by kernel_rfl) (by kernel_rfl) (fun _ _ _ h => h) (.inl ⟨rfl, fun w' hw' => rfl⟩) hS ?_
          change wpAnyX Try.prog .any _ _ _ _ 16 _ (srAct _ _ _ _ _ _ _ _ _ _ _ _ _ _ _ _ _ _ (.int .i64 0) _ _ _ _ _ _ _ _ _ _ _ _ _ _ _ _ _ _ _ _ _ _ _ _ _ _ _ _ _ _ _ _ _ _) wr.drew
          refine wpAnyX_take (i := 1) (v := .int .i64 0) rfl (by kernel_rfl) (by kernel_rfl) (by kernel_rfl) (by kernel_rfl) (fun _ _ _ h => h) (.inl ⟨rfl, fun w' hw' => rfl⟩) hS ?_
          change wpAnyX Try.prog .any _ _ _ _ 15 _ (srAct _ _ _ _ _ _ _ _ _ _ _ _ _ _ _ _ _ _ (.int .i64 0) (.int .i64 0) _ _ _ _ _ _ _ _ _ _ _ _ _ _ _ _ _ _ _ _ _ _ _ _ _ _ _ _ _ _ _ _ _) wr.drew
          refine wpAnyX_take (i := 2) (v := .bool false) rfl (by kernel_rfl) (by kernel_rfl) (by kernel_rfl) (by kernel_rfl) (fun _ _ _ h => h) (.inl ⟨rfl, fun w' hw' => exec_bin rfl rfl rfl (gtr_ints _ _ _ _ _)⟩) hS ?_
          change wpAnyX Try.prog .any _ _ _ _ 14 _ (srAct _ _ _ _ _ _ _ _ _ _ _ _ _ _ _ _ _ _ (.int .i64 0) (.int .i64 0) (.bool false) _ _ _ _ _ _ _ _ _ _ _ _ _ _ _ _ _ _ _ _ _ _ _ _ _ _ _ _ _ _ _ _) wr.drew
          refine wpAnyX_take (i := 3) (v := .bool false) rfl (by kernel_rfl) (by kernel_rfl) (by kernel_rfl) (by kernel_rfl) (fun _ _ _ h => h) (.inl ⟨rfl, fun w' hw' => rfl⟩) hS ?_
          change wpAnyX Try.prog .any _ _ _ _ 13 _ (srAct _ _ _ _ _ _ _ _ _ _ _ _ _ _ _ _ _ _ (.int .i64 0) (.int .i64 0) (.bool false) (.bool false) _ _ _ _ _ _ _ _ _ _ _ _ _ _ _ _ _ _ _ _ _ _ _ _ _ _ _ _ _ _ _) wr.drew
          refine wpAnyX_take (i := 4) (v := undef) rfl (by kernel_rfl) (by kernel_rfl) (by kernel_rfl) (by kernel_rfl) (fun _ _ _ h => h) (.inr ⟨rfl, rfl⟩) hS ?_
          change wpAnyX Try.prog .any _ _ _ _ 12 _ (srAct _ _ _ _ _ _ _ _ _ _ _ _ _ _ _ _ _ _ (.int .i64 0) (.int .i64 0) (.bool false) (.bool false) (undef) _ _ _ _ _ _ _ _ _ _ _ _ _ _ _ _ _ _ _ _ _ _ _ _ _ _ _ _ _ _) wr.drew
          refine wpAnyX_take (i := 5) (v := undef) rfl (by kernel_rfl) (by kernel_rfl) (by kernel_rfl) (by kernel_rfl) (fun _ _ _ h => h) (.inr ⟨rfl, rfl⟩) hS ?_
          change wpAnyX Try.prog .any _ _ _ _ 11 _ (srAct _ _ _ _ _ _ _ _ _ _ _ _ _ _ _ _ _ _ (.int .i64 0) (.int .i64 0) (.bool false) (.bool false) (undef) (undef) _ _ _ _ _ _ _ _ _ _ _ _ _ _ _ _ _ _ _ _ _ _ _ _ _ _ _ _ _) wr.drew
          refine wpAnyX_take (i := 6) (v := undef) rfl (by kernel_rfl) (by kernel_rfl) (by kernel_rfl) (by kernel_rfl) (fun _ _ _ h => h) (.inr ⟨rfl, rfl⟩) hS ?_
          change wpAnyX Try.prog .any _ _ _ _ 10 _ (srAct _ _ _ _ _ _ _ _ _ _ _ _ _ _ _ _ _ _ (.int .i64 0) (.int .i64 0) (.bool false) (.bool false) (undef) (undef) (undef) _ _ _ _ _ _ _ _ _ _ _ _ _ _ _ _ _ _ _ _ _ _ _ _ _ _ _ _) wr.drew
          refine wpAnyX_take (i := 7) (v := undef) rfl (by kernel_rfl) (by kernel_rfl) (by kernel_rfl) (by kernel_rfl) (fun _ _ _ h => h) (.inr ⟨rfl, rfl⟩) hS ?_
          change wpAnyX Try.prog .any _ _ _ _ 9 _ (srAct _ _ _ _ _ _ _ _ _ _ _ _ _ _ _ _ _ _ (.int .i64 0) (.int .i64 0) (.bool false) (.bool false) (undef) (undef) (undef) (undef) _ _ _ _ _ _ _ _ _ _ _ _ _ _ _ _ _ _ _ _ _ _ _ _ _ _ _) wr.drew
          refine wpAnyX_take (i := 8) (v := undef) rfl (by kernel_rfl) (by kernel_rfl) (by kernel_rfl) (by kernel_rfl) (fun _ _ _ h => h) (.inr ⟨rfl, rfl⟩) hS ?_
          change wpAnyX Try.prog .any _ _ _ _ 8 _ (srAct _ _ _ _ _ _ _ _ _ _ _ _ _ _ _ _ _ _ (.int .i64 0) (.int .i64 0) (.bool false) (.bool false) (undef) (undef) (undef) (undef) (undef) _ _ _ _ _ _ _ _ _ _ _ _ _ _ _ _ _ _ _ _ _ _ _ _ _ _) wr.drew
          refine wpAnyX_take (i := 9) (v := undef) rfl (by kernel_rfl) (by kernel_rfl) (by kernel_rfl) (by kernel_rfl) (fun _ _ _ h => h) (.inr ⟨rfl, rfl⟩) hS ?_
          change wpAnyX Try.prog .any _ _ _ _ 7 _ (srAct _ _ _ _ _ _ _ _ _ _ _ _ _ _ _ _ _ _ (.int .i64 0) (.int .i64 0) (.bool false) (.bool false) (undef) (undef) (undef) (undef) (undef) (undef) _ _ _ _ _ _ _ _ _ _ _ _ _ _ _ _ _ _ _ _ _ _ _ _ _) wr.drew
          refine wpAnyX_take (i := 10) (v := undef) rfl (by kernel_rfl) (by kernel_rfl) (by kernel_rfl) (by kernel_rfl) (fun _ _ _ h => h) (.inr ⟨rfl, rfl⟩) hS ?_
          change wpAnyX Try.prog .any _ _ _ _ 6 _ (srAct _ _ _ _ _ _ _ _ _ _ _ _ _ _ _ _ _ _ (.int .i64 0) (.int .i64 0) (.bool false) (.bool false) (undef) (undef) (undef) (undef) (undef) (undef) (undef) _ _ _ _ _ _ _ _ _ _ _ _ _ _ _ _ _ _ _ _ _ _ _ _) wr.drew
          refine wpAnyX_take (i := 11) (v := undef) rfl (by kernel_rfl) (by kernel_rfl) (by kernel_rfl) (by kernel_rfl) (fun _ _ _ h => h) (.inr ⟨rfl, rfl⟩) hS ?_
          change wpAnyX Try.prog .any _ _ _ _ 5 _ (srAct _ _ _ _ _ _ _ _ _ _ _ _ _ _ _ _ _ _ (.int .i64 0) (.int .i64 0) (.bool false) (.bool false) (undef) (undef) (undef) (undef) (undef) (undef) (undef) (undef) _ _ _ _ _ _ _ _ _ _ _ _ _ _ _ _ _ _ _ _ _ _ _) wr.drew
          refine wpAnyX_take (i := 12) (v := undef) rfl (by kernel_rfl) (by kernel_rfl) (by kernel_rfl) (by kernel_rfl) (fun _ _ _ h => h) (.inr ⟨rfl, rfl⟩) hS ?_
          change wpAnyX Try.prog .any _ _ _ _ 4 _ (srAct _ _ _ _ _ _ _ _ _ _ _ _ _ _ _ _ _ _ (.int .i64 0) (.int .i64 0) (.bool false) (.bool false) (undef) (undef) (undef) (undef) (undef) (undef) (undef) (undef) (undef) _ _ _ _ _ _ _ _ _ _ _ _ _ _ _ _ _ _ _ _ _ _) wr.drew
          refine wpAnyX_take (i := 13) (v := undef) rfl (by kernel_rfl) (by kernel_rfl) (by kernel_rfl) (by kernel_rfl) (fun _ _ _ h => h) (.inr ⟨rfl, rfl⟩) hS ?_
          change wpAnyX Try.prog .any _ _ _ _ 3 _ (srAct _ _ _ _ _ _ _ _ _ _ _ _ _ _ _ _ _ _ (.int .i64 0) (.int .i64 0) (.bool false) (.bool false) (undef) (undef) (undef) (undef) (undef) (undef) (undef) (undef) (undef) (undef) _ _ _ _ _ _ _ _ _ _ _ _ _ _ _ _ _ _ _ _ _) wr.drew
          refine wpAnyX_take (i := 14) (v := undef) rfl (by kernel_rfl) (by kernel_rfl) (by kernel_rfl) (by kernel_rfl) (fun _ _ _ h => h) (.inr ⟨rfl, rfl⟩) hS ?_
          change wpAnyX Try.prog .any _ _ _ _ 2 _ (srAct _ _ _ _ _ _ _ _ _ _ _ _ _ _ _ _ _ _ (.int .i64 0) (.int .i64 0) (.bool false) (.bool false) (undef) (undef) (undef) (undef) (undef) (undef) (undef) (undef) (undef) (undef) (undef) _ _ _ _ _ _ _ _ _ _ _ _ _ _ _ _ _ _ _ _) wr.drew
          refine wpAnyX_take (i := 15) (v := undef) rfl (by kernel_rfl) (by kernel_rfl) (by kernel_rfl) (by kernel_rfl) (fun _ _ _ h => h) (.inr ⟨rfl, rfl⟩) hS ?_
          change wpAnyX Try.prog .any _ _ _ _ 1 _ (srAct _ _ _ _ _ _ _ _ _ _ _ _ _ _ _ _ _ _ (.int .i64 0) (.int .i64 0) (.bool false) (.bool false) (undef) (undef) (undef) (undef) (undef) (undef) (undef) (undef) (undef) (undef) (undef) (undef) _ _ _ _ _ _ _ _ _ _ _ _ _ _ _ _ _ _ _) wr.drew
          refine wpAnyX_take (i := 16) (v := .bool false) rfl (by kernel_rfl) (by kernel_rfl) (by kernel_rfl) (by kernel_rfl) (fun _ _ _ h => h) (.inl ⟨rfl, fun w' hw' => rfl⟩) hS ?_
          change wpAnyX Try.prog .any _ _ _ _ 0 _ (srAct _ _ _ _ _ _ _ _ _ _ _ _ _ _ _ _ _ _ (.int .i64 0) (.int .i64 0) (.bool false) (.bool false) (undef) (undef) (undef) (undef) (undef) (undef) (undef) (undef) (undef) (undef) (undef) (undef) (.bool false) _ _ _ _ _ _ _ _ _ _ _ _ _ _ _ _ _ _) wr.drew
          refine wpAnyX_done (by kernel_rfl) ?_ _
          unfold srAct
          go_wp2
          go_roundw
          all_goals first
            | exact ⟨k + 1, ks, by omega, by omega, by go_num, HPK, HST2, HOK.out.below (Below.refl _ _).drew |> Lib.hid, Lib.hid (HFK.out.step (Below.refl _ _).drew)⟩
            | (simp [intOf]; omega)
        · obtain ⟨p, hp⟩ : ∃ p, q = p + 1 := ⟨q - 1, by omega⟩
          have HQP := Lib.hid hp
          have hq12 : q ≤ 12 := by omega
          have hqn : q < n := by omega
          have hpn : p < n := by omega
          obtain ⟨x, hx⟩ : ∃ x, ks[q]? = some x := ⟨_, List.getElem?_eq_getElem (by rw [HOK.out.1]; exact hqn)⟩
          obtain ⟨y, hy⟩ : ∃ y, ks[p]? = some y := ⟨_, List.getElem?_eq_getElem (by rw [HOK.out.1]; exact hpn)⟩
          have HX := Lib.hid hx
          have HY := Lib.hid hy
          have HOD := Lib.hid (HOK.out.below (Below.refl wr.heap.size wr).drew)
          have hS : LitAt g (p * 3) y wr.drew ∧ LitAt g (q * 3) x wr.drew := by
            exact ⟨HOD.out.cells hy, HOD.out.cells hx⟩
          have HE := Lib.hid (compareLiterals_any x y wr.drew)
          have hcn := litCmp_neg x y
          obtain ⟨lc, hlc⟩ : ∃ lc, lc = litCmp x y := ⟨_, rfl⟩
          rw [← hlc] at HE hcn
          clear hx hy hlc hp
          cases hr : litLt x y
          · rw [hr] at hcn
            have HCN := Lib.hid hcn
            have HST2 := Lib.hid (HSK.out.stop (.inr ⟨p, x, y, HQP.out, HX.out, HY.out, hr⟩))
            clear hr hcn
            go_wp2_with fail
            refine region_x (fun w' => LitAt g (p * 3) y w' ∧ LitAt g (q * 3) x w') (fun _ => false) rfl ?_
            change wpAnyX Try.prog .any _ _ _ _ 17 _ (srAct _ _ _ _ _ _ _ _ _ _ _ _ _ _ _ _ _ _ _ _ _ _ _ _ _ _ _ _ _ _ _ _ _ _ _ _ _ _ _ _ _ _ _ _ _ _ _ _ _ _ _ _ _) wr.drew
            refine wpAnyX_take (i := 0) (v := .int .i64 q) rfl (by kernel_rfl) (by kernel_rfl) (by kernel_rfl) (by kernel_rfl) (fun _ _ _ h => h) (.inl ⟨rfl, fun w' hw' => rfl⟩) hS ?_
            change wpAnyX Try.prog .any _ _ _ _ 16 _ (srAct _ _ _ _ _ _ _ _ _ _ _ _ _ _ _ _ _ _ (.int .i64 q) _ _ _ _ _ _ _ _ _ _ _ _ _ _ _ _ _ _ _ _ _ _ _ _ _ _ _ _ _ _ _ _ _ _) wr.drew
            refine wpAnyX_take (i := 1) (v := .int .i64 0) rfl (by kernel_rfl) (by kernel_rfl) (by kernel_rfl) (by kernel_rfl) (fun _ _ _ h => h) (.inl ⟨rfl, fun w' hw' => rfl⟩) hS ?_
            change wpAnyX Try.prog .any _ _ _ _ 15 _ (srAct _ _ _ _ _ _ _ _ _ _ _ _ _ _ _ _ _ _ (.int .i64 q) (.int .i64 0) _ _ _ _ _ _ _ _ _ _ _ _ _ _ _ _ _ _ _ _ _ _ _ _ _ _ _ _ _ _ _ _ _) wr.drew
            refine wpAnyX_take (i := 2) (v := .bool true) rfl (by kernel_rfl) (by kernel_rfl) (by kernel_rfl) (by kernel_rfl) (fun _ _ _ h => h) (.inl ⟨rfl, fun w' hw' => exec_bin rfl rfl rfl ((gtr_ints _ _ _ _ _).trans (by rw [decide_eq_true (show (q : Int) > 0 by omega)]))⟩) hS ?_
            change wpAnyX Try.prog .any _ _ _ _ 14 _ (srAct _ _ _ _ _ _ _ _ _ _ _ _ _ _ _ _ _ _ (.int .i64 q) (.int .i64 0) (.bool true) _ _ _ _ _ _ _ _ _ _ _ _ _ _ _ _ _ _ _ _ _ _ _ _ _ _ _ _ _ _ _ _) wr.drew
            refine wpAnyX_take (i := 3) (v := .bool true) rfl (by kernel_rfl) (by kernel_rfl) (by kernel_rfl) (by kernel_rfl) (fun _ _ _ h => h) (.inl ⟨rfl, fun w' hw' => rfl⟩) hS ?_
            change wpAnyX Try.prog .any _ _ _ _ 13 _ (srAct _ _ _ _ _ _ _ _ _ _ _ _ _ _ _ _ _ _ (.int .i64 q) (.int .i64 0) (.bool true) (.bool true) _ _ _ _ _ _ _ _ _ _ _ _ _ _ _ _ _ _ _ _ _ _ _ _ _ _ _ _ _ _ _) wr.drew
            refine wpAnyX_take (i := 4) (v := .func (.func 68) #[] #[]) rfl (by kernel_rfl) (by kernel_rfl) (by kernel_rfl) (by kernel_rfl) (fun _ _ _ h => h) (.inl ⟨rfl, fun w' hw' => rfl⟩) hS ?_
            change wpAnyX Try.prog .any _ _ _ _ 12 _ (srAct _ _ _ _ _ _ _ _ _ _ _ _ _ _ _ _ _ _ (.int .i64 q) (.int .i64 0) (.bool true) (.bool true) (.func (.func 68) #[] #[]) _ _ _ _ _ _ _ _ _ _ _ _ _ _ _ _ _ _ _ _ _ _ _ _ _ _ _ _ _ _) wr.drew
            refine wpAnyX_take (i := 5) (v := .slice (some ⟨g, 0, none⟩) n c) rfl (by kernel_rfl) (by kernel_rfl) (by kernel_rfl) (by kernel_rfl) (fun _ _ _ h => h) (.inl ⟨rfl, fun w' hw' => rfl⟩) hS ?_
            change wpAnyX Try.prog .any _ _ _ _ 11 _ (srAct _ _ _ _ _ _ _ _ _ _ _ _ _ _ _ _ _ _ (.int .i64 q) (.int .i64 0) (.bool true) (.bool true) (.func (.func 68) #[] #[]) (.slice (some ⟨g, 0, none⟩) n c) _ _ _ _ _ _ _ _ _ _ _ _ _ _ _ _ _ _ _ _ _ _ _ _ _ _ _ _ _) wr.drew
            refine wpAnyX_take (i := 6) (v := .int .i64 q) rfl (by kernel_rfl) (by kernel_rfl) (by kernel_rfl) (by kernel_rfl) (fun _ _ _ h => h) (.inl ⟨rfl, fun w' hw' => rfl⟩) hS ?_
            change wpAnyX Try.prog .any _ _ _ _ 10 _ (srAct _ _ _ _ _ _ _ _ _ _ _ _ _ _ _ _ _ _ (.int .i64 q) (.int .i64 0) (.bool true) (.bool true) (.func (.func 68) #[] #[]) (.slice (some ⟨g, 0, none⟩) n c) (.int .i64 q) _ _ _ _ _ _ _ _ _ _ _ _ _ _ _ _ _ _ _ _ _ _ _ _ _ _ _ _) wr.drew
            refine wpAnyX_take (i := 7) (v := .pointer (some ⟨g, q * 3, none⟩)) rfl (by kernel_rfl) (by kernel_rfl) (by kernel_rfl) (by kernel_rfl) (fun _ _ _ h => h) (.inl ⟨rfl, fun w' hw' => exec_index rfl rfl rfl (index_litsZ w' _ _ _ _ hqn)⟩) hS ?_
            change wpAnyX Try.prog .any _ _ _ _ 9 _ (srAct _ _ _ _ _ _ _ _ _ _ _ _ _ _ _ _ _ _ (.int .i64 q) (.int .i64 0) (.bool true) (.bool true) (.func (.func 68) #[] #[]) (.slice (some ⟨g, 0, none⟩) n c) (.int .i64 q) (.pointer (some ⟨g, q * 3, none⟩)) _ _ _ _ _ _ _ _ _ _ _ _ _ _ _ _ _ _ _ _ _ _ _ _ _ _ _) wr.drew
            refine wpAnyX_take (i := 8) (v := .agg #[.int .i64 x.var, .int .i64 x.val, .bool x.neg]) rfl (by kernel_rfl) (by kernel_rfl) (by kernel_rfl) (by kernel_rfl) (fun _ _ _ h => h) (.inl ⟨rfl, fun w' hw' => exec_load rfl rfl (load_litO w' _ _ _ _ _ hw'.2.1 hw'.2.2.1 hw'.2.2.2)⟩) hS ?_
            change wpAnyX Try.prog .any _ _ _ _ 8 _ (srAct _ _ _ _ _ _ _ _ _ _ _ _ _ _ _ _ _ _ (.int .i64 q) (.int .i64 0) (.bool true) (.bool true) (.func (.func 68) #[] #[]) (.slice (some ⟨g, 0, none⟩) n c) (.int .i64 q) (.pointer (some ⟨g, q * 3, none⟩)) (.agg #[.int .i64 x.var, .int .i64 x.val, .bool x.neg]) _ _ _ _ _ _ _ _ _ _ _ _ _ _ _ _ _ _ _ _ _ _ _ _ _ _) wr.drew
            refine wpAnyX_take (i := 9) (v := .slice (some ⟨g, 0, none⟩) n c) rfl (by kernel_rfl) (by kernel_rfl) (by kernel_rfl) (by kernel_rfl) (fun _ _ _ h => h) (.inl ⟨rfl, fun w' hw' => rfl⟩) hS ?_
            change wpAnyX Try.prog .any _ _ _ _ 7 _ (srAct _ _ _ _ _ _ _ _ _ _ _ _ _ _ _ _ _ _ (.int .i64 q) (.int .i64 0) (.bool true) (.bool true) (.func (.func 68) #[] #[]) (.slice (some ⟨g, 0, none⟩) n c) (.int .i64 q) (.pointer (some ⟨g, q * 3, none⟩)) (.agg #[.int .i64 x.var, .int .i64 x.val, .bool x.neg]) (.slice (some ⟨g, 0, none⟩) n c) _ _ _ _ _ _ _ _ _ _ _ _ _ _ _ _ _ _ _ _ _ _ _ _ _) wr.drew
            refine wpAnyX_take (i := 10) (v := .int .i64 q) rfl (by kernel_rfl) (by kernel_rfl) (by kernel_rfl) (by kernel_rfl) (fun _ _ _ h => h) (.inl ⟨rfl, fun w' hw' => rfl⟩) hS ?_
            change wpAnyX Try.prog .any _ _ _ _ 6 _ (srAct _ _ _ _ _ _ _ _ _ _ _ _ _ _ _ _ _ _ (.int .i64 q) (.int .i64 0) (.bool true) (.bool true) (.func (.func 68) #[] #[]) (.slice (some ⟨g, 0, none⟩) n c) (.int .i64 q) (.pointer (some ⟨g, q * 3, none⟩)) (.agg #[.int .i64 x.var, .int .i64 x.val, .bool x.neg]) (.slice (some ⟨g, 0, none⟩) n c) (.int .i64 q) _ _ _ _ _ _ _ _ _ _ _ _ _ _ _ _ _ _ _ _ _ _ _ _) wr.drew
            refine wpAnyX_take (i := 11) (v := .int .i64 p) rfl (by kernel_rfl) (by kernel_rfl) (by kernel_rfl) (by kernel_rfl) (fun _ _ _ h => h) (.inl ⟨rfl, fun w' hw' => exec_bin rfl rfl rfl (sub1_ints HQP.out hq12 _ _ _)⟩) hS ?_
            change wpAnyX Try.prog .any _ _ _ _ 5 _ (srAct _ _ _ _ _ _ _ _ _ _ _ _ _ _ _ _ _ _ (.int .i64 q) (.int .i64 0) (.bool true) (.bool true) (.func (.func 68) #[] #[]) (.slice (some ⟨g, 0, none⟩) n c) (.int .i64 q) (.pointer (some ⟨g, q * 3, none⟩)) (.agg #[.int .i64 x.var, .int .i64 x.val, .bool x.neg]) (.slice (some ⟨g, 0, none⟩) n c) (.int .i64 q) (.int .i64 p) _ _ _ _ _ _ _ _ _ _ _ _ _ _ _ _ _ _ _ _ _ _ _) wr.drew
            refine wpAnyX_take (i := 12) (v := .pointer (some ⟨g, p * 3, none⟩)) rfl (by kernel_rfl) (by kernel_rfl) (by kernel_rfl) (by kernel_rfl) (fun _ _ _ h => h) (.inl ⟨rfl, fun w' hw' => exec_index rfl rfl rfl (index_litsZ w' _ _ _ _ hpn)⟩) hS ?_
            change wpAnyX Try.prog .any _ _ _ _ 4 _ (srAct _ _ _ _ _ _ _ _ _ _ _ _ _ _ _ _ _ _ (.int .i64 q) (.int .i64 0) (.bool true) (.bool true) (.func (.func 68) #[] #[]) (.slice (some ⟨g, 0, none⟩) n c) (.int .i64 q) (.pointer (some ⟨g, q * 3, none⟩)) (.agg #[.int .i64 x.var, .int .i64 x.val, .bool x.neg]) (.slice (some ⟨g, 0, none⟩) n c) (.int .i64 q) (.int .i64 p) (.pointer (some ⟨g, p * 3, none⟩)) _ _ _ _ _ _ _ _ _ _ _ _ _ _ _ _ _ _ _ _ _ _) wr.drew
            refine wpAnyX_take (i := 13) (v := .agg #[.int .i64 y.var, .int .i64 y.val, .bool y.neg]) rfl (by kernel_rfl) (by kernel_rfl) (by kernel_rfl) (by kernel_rfl) (fun _ _ _ h => h) (.inl ⟨rfl, fun w' hw' => exec_load rfl rfl (load_litO w' _ _ _ _ _ hw'.1.1 hw'.1.2.1 hw'.1.2.2)⟩) hS ?_
            change wpAnyX Try.prog .any _ _ _ _ 3 _ (srAct _ _ _ _ _ _ _ _ _ _ _ _ _ _ _ _ _ _ (.int .i64 q) (.int .i64 0) (.bool true) (.bool true) (.func (.func 68) #[] #[]) (.slice (some ⟨g, 0, none⟩) n c) (.int .i64 q) (.pointer (some ⟨g, q * 3, none⟩)) (.agg #[.int .i64 x.var, .int .i64 x.val, .bool x.neg]) (.slice (some ⟨g, 0, none⟩) n c) (.int .i64 q) (.int .i64 p) (.pointer (some ⟨g, p * 3, none⟩)) (.agg #[.int .i64 y.var, .int .i64 y.val, .bool y.neg]) _ _ _ _ _ _ _ _ _ _ _ _ _ _ _ _ _ _ _ _ _) wr.drew
            refine wpAnyX_one (i := 14) (by kernel_rfl) rfl (fun K' hK' => ?_)
            refine step_callV _ rfl 68 _ _ _ _ _ _ rfl rfl rfl rfl (enters_of Try.func68 (by kernel_rfl) rfl) _ HE.out (fun c w' h => by cases h.1) (fun w' h => by cases h.1) ?_
            rintro v9 w9 ⟨e9, b9⟩
            obtain rfl : v9 = .int .i64 lc := by injection e9
            have hS9 : LitAt g (p * 3) y w9 ∧ LitAt g (q * 3) x w9 := ⟨litAt_below hS.1 b9, litAt_below hS.2 b9⟩
            have HB9 := Lib.hid b9
            clear b9
            refine hK'.out _ _ (fun _ => hS9) ?_
            clear hK' K'
            change wpAnyX Try.prog .any _ _ _ _ 2 _ (srAct _ _ _ _ _ _ _ _ _ _ _ _ _ _ _ _ _ _ (.int .i64 q) (.int .i64 0) (.bool true) (.bool true) (.func (.func 68) #[] #[]) (.slice (some ⟨g, 0, none⟩) n c) (.int .i64 q) (.pointer (some ⟨g, q * 3, none⟩)) (.agg #[.int .i64 x.var, .int .i64 x.val, .bool x.neg]) (.slice (some ⟨g, 0, none⟩) n c) (.int .i64 q) (.int .i64 p) (.pointer (some ⟨g, p * 3, none⟩)) (.agg #[.int .i64 y.var, .int .i64 y.val, .bool y.neg]) (.int .i64 lc) _ _ _ _ _ _ _ _ _ _ _ _ _ _ _ _ _ _ _ _) w9
            refine wpAnyX_take (i := 15) (v := .bool false) rfl (by kernel_rfl) (by kernel_rfl) (by kernel_rfl) (by kernel_rfl) (fun _ _ _ h => h) (.inl ⟨rfl, fun w' hw' => exec_bin rfl rfl rfl ((lss_ints _ _ _ _ _).trans (by rw [HCN.out]))⟩) hS9 ?_
            change wpAnyX Try.prog .any _ _ _ _ 1 _ (srAct _ _ _ _ _ _ _ _ _ _ _ _ _ _ _ _ _ _ (.int .i64 q) (.int .i64 0) (.bool true) (.bool true) (.func (.func 68) #[] #[]) (.slice (some ⟨g, 0, none⟩) n c) (.int .i64 q) (.pointer (some ⟨g, q * 3, none⟩)) (.agg #[.int .i64 x.var, .int .i64 x.val, .bool x.neg]) (.slice (some ⟨g, 0, none⟩) n c) (.int .i64 q) (.int .i64 p) (.pointer (some ⟨g, p * 3, none⟩)) (.agg #[.int .i64 y.var, .int .i64 y.val, .bool y.neg]) (.int .i64 lc) (.bool false) _ _ _ _ _ _ _ _ _ _ _ _ _ _ _ _ _ _ _) w9
            refine wpAnyX_take (i := 16) (v := .bool false) rfl (by kernel_rfl) (by kernel_rfl) (by kernel_rfl) (by kernel_rfl) (fun _ _ _ h => h) (.inl ⟨rfl, fun w' hw' => rfl⟩) hS9 ?_
            change wpAnyX Try.prog .any _ _ _ _ 0 _ (srAct _ _ _ _ _ _ _ _ _ _ _ _ _ _ _ _ _ _ (.int .i64 q) (.int .i64 0) (.bool true) (.bool true) (.func (.func 68) #[] #[]) (.slice (some ⟨g, 0, none⟩) n c) (.int .i64 q) (.pointer (some ⟨g, q * 3, none⟩)) (.agg #[.int .i64 x.var, .int .i64 x.val, .bool x.neg]) (.slice (some ⟨g, 0, none⟩) n c) (.int .i64 q) (.int .i64 p) (.pointer (some ⟨g, p * 3, none⟩)) (.agg #[.int .i64 y.var, .int .i64 y.val, .bool y.neg]) (.int .i64 lc) (.bool false) (.bool false) _ _ _ _ _ _ _ _ _ _ _ _ _ _ _ _ _ _) w9
            refine wpAnyX_done (by kernel_rfl) ?_ _
            unfold srAct
            clear hS hS9
            have HO9 := Lib.hid (HOD.out.below HB9.out)
            have HF9 := Lib.hid ((HFK.out.step (Below.refl _ _).drew).step HB9.out)
            go_wp2
            go_roundw
            all_goals first
              | exact ⟨k + 1, ks, by omega, by omega, by go_num, HPK, HST2, HO9, HF9⟩
              | (simp [intOf]; omega)
          · rw [hr] at hcn
            have HCN := Lib.hid hcn
            have HSW := Lib.hid ((show SrtIn ks k (p + 1) from HQP.out ▸ HSK.out).swap (by rw [← HQP.out]; exact HX.out) HY.out hr (by have := HQP.out; omega))
            rw [← HQP.out] at HSW
            have HPS := Lib.hid ((swapPerm HX.out HY.out).trans HPK.out)
            clear hr hcn
            go_wp2_with fail
            refine region_x (fun w' => LitAt g (p * 3) y w' ∧ LitAt g (q * 3) x w') (fun _ => false) rfl ?_
            change wpAnyX Try.prog .any _ _ _ _ 17 _ (srAct _ _ _ _ _ _ _ _ _ _ _ _ _ _ _ _ _ _ _ _ _ _ _ _ _ _ _ _ _ _ _ _ _ _ _ _ _ _ _ _ _ _ _ _ _ _ _ _ _ _ _ _ _) wr.drew
            refine wpAnyX_take (i := 0) (v := .int .i64 q) rfl (by kernel_rfl) (by kernel_rfl) (by kernel_rfl) (by kernel_rfl) (fun _ _ _ h => h) (.inl ⟨rfl, fun w' hw' => rfl⟩) hS ?_
            change wpAnyX Try.prog .any _ _ _ _ 16 _ (srAct _ _ _ _ _ _ _ _ _ _ _ _ _ _ _ _ _ _ (.int .i64 q) _ _ _ _ _ _ _ _ _ _ _ _ _ _ _ _ _ _ _ _ _ _ _ _ _ _ _ _ _ _ _ _ _ _) wr.drew
            refine wpAnyX_take (i := 1) (v := .int .i64 0) rfl (by kernel_rfl) (by kernel_rfl) (by kernel_rfl) (by kernel_rfl) (fun _ _ _ h => h) (.inl ⟨rfl, fun w' hw' => rfl⟩) hS ?_
            change wpAnyX Try.prog .any _ _ _ _ 15 _ (srAct _ _ _ _ _ _ _ _ _ _ _ _ _ _ _ _ _ _ (.int .i64 q) (.int .i64 0) _ _ _ _ _ _ _ _ _ _ _ _ _ _ _ _ _ _ _ _ _ _ _ _ _ _ _ _ _ _ _ _ _) wr.drew
            refine wpAnyX_take (i := 2) (v := .bool true) rfl (by kernel_rfl) (by kernel_rfl) (by kernel_rfl) (by kernel_rfl) (fun _ _ _ h => h) (.inl ⟨rfl, fun w' hw' => exec_bin rfl rfl rfl ((gtr_ints _ _ _ _ _).trans (by rw [decide_eq_true (show (q : Int) > 0 by omega)]))⟩) hS ?_
            change wpAnyX Try.prog .any _ _ _ _ 14 _ (srAct _ _ _ _ _ _ _ _ _ _ _ _ _ _ _ _ _ _ (.int .i64 q) (.int .i64 0) (.bool true) _ _ _ _ _ _ _ _ _ _ _ _ _ _ _ _ _ _ _ _ _ _ _ _ _ _ _ _ _ _ _ _) wr.drew
            refine wpAnyX_take (i := 3) (v := .bool true) rfl (by kernel_rfl) (by kernel_rfl) (by kernel_rfl) (by kernel_rfl) (fun _ _ _ h => h) (.inl ⟨rfl, fun w' hw' => rfl⟩) hS ?_
            change wpAnyX Try.prog .any _ _ _ _ 13 _ (srAct _ _ _ _ _ _ _ _ _ _ _ _ _ _ _ _ _ _ (.int .i64 q) (.int .i64 0) (.bool true) (.bool true) _ _ _ _ _ _ _ _ _ _ _ _ _ _ _ _ _ _ _ _ _ _ _ _ _ _ _ _ _ _ _) wr.drew
            refine wpAnyX_take (i := 4) (v := .func (.func 68) #[] #[]) rfl (by kernel_rfl) (by kernel_rfl) (by kernel_rfl) (by kernel_rfl) (fun _ _ _ h => h) (.inl ⟨rfl, fun w' hw' => rfl⟩) hS ?_
            change wpAnyX Try.prog .any _ _ _ _ 12 _ (srAct _ _ _ _ _ _ _ _ _ _ _ _ _ _ _ _ _ _ (.int .i64 q) (.int .i64 0) (.bool true) (.bool true) (.func (.func 68) #[] #[]) _ _ _ _ _ _ _ _ _ _ _ _ _ _ _ _ _ _ _ _ _ _ _ _ _ _ _ _ _ _) wr.drew
            refine wpAnyX_take (i := 5) (v := .slice (some ⟨g, 0, none⟩) n c) rfl (by kernel_rfl) (by kernel_rfl) (by kernel_rfl) (by kernel_rfl) (fun _ _ _ h => h) (.inl ⟨rfl, fun w' hw' => rfl⟩) hS ?_
            change wpAnyX Try.prog .any _ _ _ _ 11 _ (srAct _ _ _ _ _ _ _ _ _ _ _ _ _ _ _ _ _ _ (.int .i64 q) (.int .i64 0) (.bool true) (.bool true) (.func (.func 68) #[] #[]) (.slice (some ⟨g, 0, none⟩) n c) _ _ _ _ _ _ _ _ _ _ _ _ _ _ _ _ _ _ _ _ _ _ _ _ _ _ _ _ _) wr.drew
            refine wpAnyX_take (i := 6) (v := .int .i64 q) rfl (by kernel_rfl) (by kernel_rfl) (by kernel_rfl) (by kernel_rfl) (fun _ _ _ h => h) (.inl ⟨rfl, fun w' hw' => rfl⟩) hS ?_
            change wpAnyX Try.prog .any _ _ _ _ 10 _ (srAct _ _ _ _ _ _ _ _ _ _ _ _ _ _ _ _ _ _ (.int .i64 q) (.int .i64 0) (.bool true) (.bool true) (.func (.func 68) #[] #[]) (.slice (some ⟨g, 0, none⟩) n c) (.int .i64 q) _ _ _ _ _ _ _ _ _ _ _ _ _ _ _ _ _ _ _ _ _ _ _ _ _ _ _ _) wr.drew
            refine wpAnyX_take (i := 7) (v := .pointer (some ⟨g, q * 3, none⟩)) rfl (by kernel_rfl) (by kernel_rfl) (by kernel_rfl) (by kernel_rfl) (fun _ _ _ h => h) (.inl ⟨rfl, fun w' hw' => exec_index rfl rfl rfl (index_litsZ w' _ _ _ _ hqn)⟩) hS ?_
            change wpAnyX Try.prog .any _ _ _ _ 9 _ (srAct _ _ _ _ _ _ _ _ _ _ _ _ _ _ _ _ _ _ (.int .i64 q) (.int .i64 0) (.bool true) (.bool true) (.func (.func 68) #[] #[]) (.slice (some ⟨g, 0, none⟩) n c) (.int .i64 q) (.pointer (some ⟨g, q * 3, none⟩)) _ _ _ _ _ _ _ _ _ _ _ _ _ _ _ _ _ _ _ _ _ _ _ _ _ _ _) wr.drew
            refine wpAnyX_take (i := 8) (v := .agg #[.int .i64 x.var, .int .i64 x.val, .bool x.neg]) rfl (by kernel_rfl) (by kernel_rfl) (by kernel_rfl) (by kernel_rfl) (fun _ _ _ h => h) (.inl ⟨rfl, fun w' hw' => exec_load rfl rfl (load_litO w' _ _ _ _ _ hw'.2.1 hw'.2.2.1 hw'.2.2.2)⟩) hS ?_
            change wpAnyX Try.prog .any _ _ _ _ 8 _ (srAct _ _ _ _ _ _ _ _ _ _ _ _ _ _ _ _ _ _ (.int .i64 q) (.int .i64 0) (.bool true) (.bool true) (.func (.func 68) #[] #[]) (.slice (some ⟨g, 0, none⟩) n c) (.int .i64 q) (.pointer (some ⟨g, q * 3, none⟩)) (.agg #[.int .i64 x.var, .int .i64 x.val, .bool x.neg]) _ _ _ _ _ _ _ _ _ _ _ _ _ _ _ _ _ _ _ _ _ _ _ _ _ _) wr.drew
            refine wpAnyX_take (i := 9) (v := .slice (some ⟨g, 0, none⟩) n c) rfl (by kernel_rfl) (by kernel_rfl) (by kernel_rfl) (by kernel_rfl) (fun _ _ _ h => h) (.inl ⟨rfl, fun w' hw' => rfl⟩) hS ?_
            change wpAnyX Try.prog .any _ _ _ _ 7 _ (srAct _ _ _ _ _ _ _ _ _ _ _ _ _ _ _ _ _ _ (.int .i64 q) (.int .i64 0) (.bool true) (.bool true) (.func (.func 68) #[] #[]) (.slice (some ⟨g, 0, none⟩) n c) (.int .i64 q) (.pointer (some ⟨g, q * 3, none⟩)) (.agg #[.int .i64 x.var, .int .i64 x.val, .bool x.neg]) (.slice (some ⟨g, 0, none⟩) n c) _ _ _ _ _ _ _ _ _ _ _ _ _ _ _ _ _ _ _ _ _ _ _ _ _) wr.drew
            refine wpAnyX_take (i := 10) (v := .int .i64 q) rfl (by kernel_rfl) (by kernel_rfl) (by kernel_rfl) (by kernel_rfl) (fun _ _ _ h => h) (.inl ⟨rfl, fun w' hw' => rfl⟩) hS ?_
            change wpAnyX Try.prog .any _ _ _ _ 6 _ (srAct _ _ _ _ _ _ _ _ _ _ _ _ _ _ _ _ _ _ (.int .i64 q) (.int .i64 0) (.bool true) (.bool true) (.func (.func 68) #[] #[]) (.slice (some ⟨g, 0, none⟩) n c) (.int .i64 q) (.pointer (some ⟨g, q * 3, none⟩)) (.agg #[.int .i64 x.var, .int .i64 x.val, .bool x.neg]) (.slice (some ⟨g, 0, none⟩) n c) (.int .i64 q) _ _ _ _ _ _ _ _ _ _ _ _ _ _ _ _ _ _ _ _ _ _ _ _) wr.drew
            refine wpAnyX_take (i := 11) (v := .int .i64 p) rfl (by kernel_rfl) (by kernel_rfl) (by kernel_rfl) (by kernel_rfl) (fun _ _ _ h => h) (.inl ⟨rfl, fun w' hw' => exec_bin rfl rfl rfl (sub1_ints HQP.out hq12 _ _ _)⟩) hS ?_
            change wpAnyX Try.prog .any _ _ _ _ 5 _ (srAct _ _ _ _ _ _ _ _ _ _ _ _ _ _ _ _ _ _ (.int .i64 q) (.int .i64 0) (.bool true) (.bool true) (.func (.func 68) #[] #[]) (.slice (some ⟨g, 0, none⟩) n c) (.int .i64 q) (.pointer (some ⟨g, q * 3, none⟩)) (.agg #[.int .i64 x.var, .int .i64 x.val, .bool x.neg]) (.slice (some ⟨g, 0, none⟩) n c) (.int .i64 q) (.int .i64 p) _ _ _ _ _ _ _ _ _ _ _ _ _ _ _ _ _ _ _ _ _ _ _) wr.drew
            refine wpAnyX_take (i := 12) (v := .pointer (some ⟨g, p * 3, none⟩)) rfl (by kernel_rfl) (by kernel_rfl) (by kernel_rfl) (by kernel_rfl) (fun _ _ _ h => h) (.inl ⟨rfl, fun w' hw' => exec_index rfl rfl rfl (index_litsZ w' _ _ _ _ hpn)⟩) hS ?_
            change wpAnyX Try.prog .any _ _ _ _ 4 _ (srAct _ _ _ _ _ _ _ _ _ _ _ _ _ _ _ _ _ _ (.int .i64 q) (.int .i64 0) (.bool true) (.bool true) (.func (.func 68) #[] #[]) (.slice (some ⟨g, 0, none⟩) n c) (.int .i64 q) (.pointer (some ⟨g, q * 3, none⟩)) (.agg #[.int .i64 x.var, .int .i64 x.val, .bool x.neg]) (.slice (some ⟨g, 0, none⟩) n c) (.int .i64 q) (.int .i64 p) (.pointer (some ⟨g, p * 3, none⟩)) _ _ _ _ _ _ _ _ _ _ _ _ _ _ _ _ _ _ _ _ _ _) wr.drew
            refine wpAnyX_take (i := 13) (v := .agg #[.int .i64 y.var, .int .i64 y.val, .bool y.neg]) rfl (by kernel_rfl) (by kernel_rfl) (by kernel_rfl) (by kernel_rfl) (fun _ _ _ h => h) (.inl ⟨rfl, fun w' hw' => exec_load rfl rfl (load_litO w' _ _ _ _ _ hw'.1.1 hw'.1.2.1 hw'.1.2.2)⟩) hS ?_
            change wpAnyX Try.prog .any _ _ _ _ 3 _ (srAct _ _ _ _ _ _ _ _ _ _ _ _ _ _ _ _ _ _ (.int .i64 q) (.int .i64 0) (.bool true) (.bool true) (.func (.func 68) #[] #[]) (.slice (some ⟨g, 0, none⟩) n c) (.int .i64 q) (.pointer (some ⟨g, q * 3, none⟩)) (.agg #[.int .i64 x.var, .int .i64 x.val, .bool x.neg]) (.slice (some ⟨g, 0, none⟩) n c) (.int .i64 q) (.int .i64 p) (.pointer (some ⟨g, p * 3, none⟩)) (.agg #[.int .i64 y.var, .int .i64 y.val, .bool y.neg]) _ _ _ _ _ _ _ _ _ _ _ _ _ _ _ _ _ _ _ _ _) wr.drew
            refine wpAnyX_one (i := 14) (by kernel_rfl) rfl (fun K' hK' => ?_)
            refine step_callV _ rfl 68 _ _ _ _ _ _ rfl rfl rfl rfl (enters_of Try.func68 (by kernel_rfl) rfl) _ HE.out (fun c w' h => by cases h.1) (fun w' h => by cases h.1) ?_
            rintro v9 w9 ⟨e9, b9⟩
            obtain rfl : v9 = .int .i64 lc := by injection e9
            have hS9 : LitAt g (p * 3) y w9 ∧ LitAt g (q * 3) x w9 := ⟨litAt_below hS.1 b9, litAt_below hS.2 b9⟩
            have HB9 := Lib.hid b9
            clear b9
            refine hK'.out _ _ (fun _ => hS9) ?_
            clear hK' K'
            change wpAnyX Try.prog .any _ _ _ _ 2 _ (srAct _ _ _ _ _ _ _ _ _ _ _ _ _ _ _ _ _ _ (.int .i64 q) (.int .i64 0) (.bool true) (.bool true) (.func (.func 68) #[] #[]) (.slice (some ⟨g, 0, none⟩) n c) (.int .i64 q) (.pointer (some ⟨g, q * 3, none⟩)) (.agg #[.int .i64 x.var, .int .i64 x.val, .bool x.neg]) (.slice (some ⟨g, 0, none⟩) n c) (.int .i64 q) (.int .i64 p) (.pointer (some ⟨g, p * 3, none⟩)) (.agg #[.int .i64 y.var, .int .i64 y.val, .bool y.neg]) (.int .i64 lc) _ _ _ _ _ _ _ _ _ _ _ _ _ _ _ _ _ _ _ _) w9
            refine wpAnyX_take (i := 15) (v := .bool true) rfl (by kernel_rfl) (by kernel_rfl) (by kernel_rfl) (by kernel_rfl) (fun _ _ _ h => h) (.inl ⟨rfl, fun w' hw' => exec_bin rfl rfl rfl ((lss_ints _ _ _ _ _).trans (by rw [HCN.out]))⟩) hS9 ?_
            change wpAnyX Try.prog .any _ _ _ _ 1 _ (srAct _ _ _ _ _ _ _ _ _ _ _ _ _ _ _ _ _ _ (.int .i64 q) (.int .i64 0) (.bool true) (.bool true) (.func (.func 68) #[] #[]) (.slice (some ⟨g, 0, none⟩) n c) (.int .i64 q) (.pointer (some ⟨g, q * 3, none⟩)) (.agg #[.int .i64 x.var, .int .i64 x.val, .bool x.neg]) (.slice (some ⟨g, 0, none⟩) n c) (.int .i64 q) (.int .i64 p) (.pointer (some ⟨g, p * 3, none⟩)) (.agg #[.int .i64 y.var, .int .i64 y.val, .bool y.neg]) (.int .i64 lc) (.bool true) _ _ _ _ _ _ _ _ _ _ _ _ _ _ _ _ _ _ _) w9
            refine wpAnyX_take (i := 16) (v := .bool true) rfl (by kernel_rfl) (by kernel_rfl) (by kernel_rfl) (by kernel_rfl) (fun _ _ _ h => h) (.inl ⟨rfl, fun w' hw' => rfl⟩) hS9 ?_
            change wpAnyX Try.prog .any _ _ _ _ 0 _ (srAct _ _ _ _ _ _ _ _ _ _ _ _ _ _ _ _ _ _ (.int .i64 q) (.int .i64 0) (.bool true) (.bool true) (.func (.func 68) #[] #[]) (.slice (some ⟨g, 0, none⟩) n c) (.int .i64 q) (.pointer (some ⟨g, q * 3, none⟩)) (.agg #[.int .i64 x.var, .int .i64 x.val, .bool x.neg]) (.slice (some ⟨g, 0, none⟩) n c) (.int .i64 q) (.int .i64 p) (.pointer (some ⟨g, p * 3, none⟩)) (.agg #[.int .i64 y.var, .int .i64 y.val, .bool y.neg]) (.int .i64 lc) (.bool true) (.bool true) _ _ _ _ _ _ _ _ _ _ _ _ _ _ _ _ _ _) w9
            refine wpAnyX_done (by kernel_rfl) ?_ _
            unfold srAct
            clear hS
            have HO9 := Lib.hid (HOD.out.below HB9.out)
            have HF9 := Lib.hid ((HFK.out.step (Below.refl _ _).drew).step HB9.out)
            have HOD9 := Lib.hid (HO9.out.below (Below.refl w9.heap.size w9).drew)
            have hT : LitAt g (p * 3) y w9.drew ∧ LitAt g (q * 3) x w9.drew := hS9
            clear hS9
            have HOD2 := Lib.hid (HOD9.out.set q y)
            obtain ⟨o2, ho2⟩ : ∃ o2, (ks.set q y)[p]? = some o2 := ⟨_, List.getElem?_eq_getElem (by rw [List.length_set, HOK.out.1]; exact hpn)⟩
            have HO2 := Lib.hid ho2
            have HOD3 := Lib.hid (HOD2.out.set p x)
            have HF3 : Hid (OffB (fun b => b = g) w (setLit (setLit w9.drew g (q * 3) y) g (p * 3) x)) := Lib.hid (((((((HF9.out.step (Below.refl _ _).drew).set _ rfl).set _ rfl).set _ rfl).set _ rfl).set _ rfl).set _ rfl)
            clear ho2
            go_wp2_with fail
            refine region_z (fun w' => LitAt g (p * 3) y w' ∧ LitAt g (q * 3) x w') (fun i => i == 15 || i == 17) rfl ?_
            change wpAnyZ Try.prog .any _ _ _ _ 18 _ (srAct _ _ _ _ _ _ _ _ _ _ _ _ _ _ _ _ _ _ _ _ _ _ _ _ _ _ _ _ _ _ _ _ _ _ _ _ _ _ _ _ _ _ _ _ _ _ _ _ _ _ _ _ _) w9.drew
            refine wpAnyZ_takeW (i := 0) (v := .slice (some ⟨g, 0, none⟩) n c) rfl (by kernel_rfl) (by kernel_rfl) (by kernel_rfl) (fun _ _ _ h => h) (.inl ⟨rfl, fun w' hw' => rfl⟩) ?_
            change wpAnyZ Try.prog .any _ _ _ _ 17 _ (srAct _ _ _ _ _ _ _ _ _ _ _ _ _ _ _ _ _ _ _ _ _ _ _ _ _ _ _ _ _ _ _ _ _ _ _ _ _ (.slice (some ⟨g, 0, none⟩) n c) _ _ _ _ _ _ _ _ _ _ _ _ _ _ _) w9.drew
            refine wpAnyZ_takeW (i := 1) (v := .int .i64 q) rfl (by kernel_rfl) (by kernel_rfl) (by kernel_rfl) (fun _ _ _ h => h) (.inl ⟨rfl, fun w' hw' => rfl⟩) ?_
            change wpAnyZ Try.prog .any _ _ _ _ 16 _ (srAct _ _ _ _ _ _ _ _ _ _ _ _ _ _ _ _ _ _ _ _ _ _ _ _ _ _ _ _ _ _ _ _ _ _ _ _ _ (.slice (some ⟨g, 0, none⟩) n c) (.int .i64 q) _ _ _ _ _ _ _ _ _ _ _ _ _ _) w9.drew
            refine wpAnyZ_takeW (i := 2) (v := .slice (some ⟨g, 0, none⟩) n c) rfl (by kernel_rfl) (by kernel_rfl) (by kernel_rfl) (fun _ _ _ h => h) (.inl ⟨rfl, fun w' hw' => rfl⟩) ?_
            change wpAnyZ Try.prog .any _ _ _ _ 15 _ (srAct _ _ _ _ _ _ _ _ _ _ _ _ _ _ _ _ _ _ _ _ _ _ _ _ _ _ _ _ _ _ _ _ _ _ _ _ _ (.slice (some ⟨g, 0, none⟩) n c) (.int .i64 q) (.slice (some ⟨g, 0, none⟩) n c) _ _ _ _ _ _ _ _ _ _ _ _ _) w9.drew
            refine wpAnyZ_takeW (i := 3) (v := .int .i64 q) rfl (by kernel_rfl) (by kernel_rfl) (by kernel_rfl) (fun _ _ _ h => h) (.inl ⟨rfl, fun w' hw' => rfl⟩) ?_
            change wpAnyZ Try.prog .any _ _ _ _ 14 _ (srAct _ _ _ _ _ _ _ _ _ _ _ _ _ _ _ _ _ _ _ _ _ _ _ _ _ _ _ _ _ _ _ _ _ _ _ _ _ (.slice (some ⟨g, 0, none⟩) n c) (.int .i64 q) (.slice (some ⟨g, 0, none⟩) n c) (.int .i64 q) _ _ _ _ _ _ _ _ _ _ _ _) w9.drew
            refine wpAnyZ_takeW (i := 4) (v := .int .i64 p) rfl (by kernel_rfl) (by kernel_rfl) (by kernel_rfl) (fun _ _ _ h => h) (.inl ⟨rfl, fun w' hw' => exec_bin rfl rfl rfl (sub1_ints HQP.out hq12 _ _ _)⟩) ?_
            change wpAnyZ Try.prog .any _ _ _ _ 13 _ (srAct _ _ _ _ _ _ _ _ _ _ _ _ _ _ _ _ _ _ _ _ _ _ _ _ _ _ _ _ _ _ _ _ _ _ _ _ _ (.slice (some ⟨g, 0, none⟩) n c) (.int .i64 q) (.slice (some ⟨g, 0, none⟩) n c) (.int .i64 q) (.int .i64 p) _ _ _ _ _ _ _ _ _ _ _) w9.drew
            refine wpAnyZ_takeW (i := 5) (v := .slice (some ⟨g, 0, none⟩) n c) rfl (by kernel_rfl) (by kernel_rfl) (by kernel_rfl) (fun _ _ _ h => h) (.inl ⟨rfl, fun w' hw' => rfl⟩) ?_
            change wpAnyZ Try.prog .any _ _ _ _ 12 _ (srAct _ _ _ _ _ _ _ _ _ _ _ _ _ _ _ _ _ _ _ _ _ _ _ _ _ _ _ _ _ _ _ _ _ _ _ _ _ (.slice (some ⟨g, 0, none⟩) n c) (.int .i64 q) (.slice (some ⟨g, 0, none⟩) n c) (.int .i64 q) (.int .i64 p) (.slice (some ⟨g, 0, none⟩) n c) _ _ _ _ _ _ _ _ _ _) w9.drew
            refine wpAnyZ_takeW (i := 6) (v := .int .i64 q) rfl (by kernel_rfl) (by kernel_rfl) (by kernel_rfl) (fun _ _ _ h => h) (.inl ⟨rfl, fun w' hw' => rfl⟩) ?_
            change wpAnyZ Try.prog .any _ _ _ _ 11 _ (srAct _ _ _ _ _ _ _ _ _ _ _ _ _ _ _ _ _ _ _ _ _ _ _ _ _ _ _ _ _ _ _ _ _ _ _ _ _ (.slice (some ⟨g, 0, none⟩) n c) (.int .i64 q) (.slice (some ⟨g, 0, none⟩) n c) (.int .i64 q) (.int .i64 p) (.slice (some ⟨g, 0, none⟩) n c) (.int .i64 q) _ _ _ _ _ _ _ _ _) w9.drew
            refine wpAnyZ_takeW (i := 7) (v := .int .i64 p) rfl (by kernel_rfl) (by kernel_rfl) (by kernel_rfl) (fun _ _ _ h => h) (.inl ⟨rfl, fun w' hw' => exec_bin rfl rfl rfl (sub1_ints HQP.out hq12 _ _ _)⟩) ?_
            change wpAnyZ Try.prog .any _ _ _ _ 10 _ (srAct _ _ _ _ _ _ _ _ _ _ _ _ _ _ _ _ _ _ _ _ _ _ _ _ _ _ _ _ _ _ _ _ _ _ _ _ _ (.slice (some ⟨g, 0, none⟩) n c) (.int .i64 q) (.slice (some ⟨g, 0, none⟩) n c) (.int .i64 q) (.int .i64 p) (.slice (some ⟨g, 0, none⟩) n c) (.int .i64 q) (.int .i64 p) _ _ _ _ _ _ _ _) w9.drew
            refine wpAnyZ_takeW (i := 8) (v := .pointer (some ⟨g, p * 3, none⟩)) rfl (by kernel_rfl) (by kernel_rfl) (by kernel_rfl) (fun _ _ _ h => h) (.inl ⟨rfl, fun w' hw' => exec_index rfl rfl rfl (index_litsZ w' _ _ _ _ hpn)⟩) ?_
            change wpAnyZ Try.prog .any _ _ _ _ 9 _ (srAct _ _ _ _ _ _ _ _ _ _ _ _ _ _ _ _ _ _ _ _ _ _ _ _ _ _ _ _ _ _ _ _ _ _ _ _ _ (.slice (some ⟨g, 0, none⟩) n c) (.int .i64 q) (.slice (some ⟨g, 0, none⟩) n c) (.int .i64 q) (.int .i64 p) (.slice (some ⟨g, 0, none⟩) n c) (.int .i64 q) (.int .i64 p) (.pointer (some ⟨g, p * 3, none⟩)) _ _ _ _ _ _ _) w9.drew
            refine wpAnyZ_take (i := 9) (v := .agg #[.int .i64 y.var, .int .i64 y.val, .bool y.neg]) rfl (by kernel_rfl) (by kernel_rfl) (by kernel_rfl) (by kernel_rfl) (fun _ _ _ h => h) (.inl ⟨rfl, fun w' hw' => exec_load rfl rfl (load_litO w' _ _ _ _ _ hw'.1.1 hw'.1.2.1 hw'.1.2.2)⟩) hT ?_
            change wpAnyZ Try.prog .any _ _ _ _ 8 _ (srAct _ _ _ _ _ _ _ _ _ _ _ _ _ _ _ _ _ _ _ _ _ _ _ _ _ _ _ _ _ _ _ _ _ _ _ _ _ (.slice (some ⟨g, 0, none⟩) n c) (.int .i64 q) (.slice (some ⟨g, 0, none⟩) n c) (.int .i64 q) (.int .i64 p) (.slice (some ⟨g, 0, none⟩) n c) (.int .i64 q) (.int .i64 p) (.pointer (some ⟨g, p * 3, none⟩)) (.agg #[.int .i64 y.var, .int .i64 y.val, .bool y.neg]) _ _ _ _ _ _) w9.drew
            refine wpAnyZ_takeW (i := 10) (v := .slice (some ⟨g, 0, none⟩) n c) rfl (by kernel_rfl) (by kernel_rfl) (by kernel_rfl) (fun _ _ _ h => h) (.inl ⟨rfl, fun w' hw' => rfl⟩) ?_
            change wpAnyZ Try.prog .any _ _ _ _ 7 _ (srAct _ _ _ _ _ _ _ _ _ _ _ _ _ _ _ _ _ _ _ _ _ _ _ _ _ _ _ _ _ _ _ _ _ _ _ _ _ (.slice (some ⟨g, 0, none⟩) n c) (.int .i64 q) (.slice (some ⟨g, 0, none⟩) n c) (.int .i64 q) (.int .i64 p) (.slice (some ⟨g, 0, none⟩) n c) (.int .i64 q) (.int .i64 p) (.pointer (some ⟨g, p * 3, none⟩)) (.agg #[.int .i64 y.var, .int .i64 y.val, .bool y.neg]) (.slice (some ⟨g, 0, none⟩) n c) _ _ _ _ _) w9.drew
            refine wpAnyZ_takeW (i := 11) (v := .int .i64 q) rfl (by kernel_rfl) (by kernel_rfl) (by kernel_rfl) (fun _ _ _ h => h) (.inl ⟨rfl, fun w' hw' => rfl⟩) ?_
            change wpAnyZ Try.prog .any _ _ _ _ 6 _ (srAct _ _ _ _ _ _ _ _ _ _ _ _ _ _ _ _ _ _ _ _ _ _ _ _ _ _ _ _ _ _ _ _ _ _ _ _ _ (.slice (some ⟨g, 0, none⟩) n c) (.int .i64 q) (.slice (some ⟨g, 0, none⟩) n c) (.int .i64 q) (.int .i64 p) (.slice (some ⟨g, 0, none⟩) n c) (.int .i64 q) (.int .i64 p) (.pointer (some ⟨g, p * 3, none⟩)) (.agg #[.int .i64 y.var, .int .i64 y.val, .bool y.neg]) (.slice (some ⟨g, 0, none⟩) n c) (.int .i64 q) _ _ _ _) w9.drew
            refine wpAnyZ_takeW (i := 12) (v := .pointer (some ⟨g, q * 3, none⟩)) rfl (by kernel_rfl) (by kernel_rfl) (by kernel_rfl) (fun _ _ _ h => h) (.inl ⟨rfl, fun w' hw' => exec_index rfl rfl rfl (index_litsZ w' _ _ _ _ hqn)⟩) ?_
            change wpAnyZ Try.prog .any _ _ _ _ 5 _ (srAct _ _ _ _ _ _ _ _ _ _ _ _ _ _ _ _ _ _ _ _ _ _ _ _ _ _ _ _ _ _ _ _ _ _ _ _ _ (.slice (some ⟨g, 0, none⟩) n c) (.int .i64 q) (.slice (some ⟨g, 0, none⟩) n c) (.int .i64 q) (.int .i64 p) (.slice (some ⟨g, 0, none⟩) n c) (.int .i64 q) (.int .i64 p) (.pointer (some ⟨g, p * 3, none⟩)) (.agg #[.int .i64 y.var, .int .i64 y.val, .bool y.neg]) (.slice (some ⟨g, 0, none⟩) n c) (.int .i64 q) (.pointer (some ⟨g, q * 3, none⟩)) _ _ _) w9.drew
            refine wpAnyZ_take (i := 13) (v := .agg #[.int .i64 x.var, .int .i64 x.val, .bool x.neg]) rfl (by kernel_rfl) (by kernel_rfl) (by kernel_rfl) (by kernel_rfl) (fun _ _ _ h => h) (.inl ⟨rfl, fun w' hw' => exec_load rfl rfl (load_litO w' _ _ _ _ _ hw'.2.1 hw'.2.2.1 hw'.2.2.2)⟩) hT ?_
            change wpAnyZ Try.prog .any _ _ _ _ 4 _ (srAct _ _ _ _ _ _ _ _ _ _ _ _ _ _ _ _ _ _ _ _ _ _ _ _ _ _ _ _ _ _ _ _ _ _ _ _ _ (.slice (some ⟨g, 0, none⟩) n c) (.int .i64 q) (.slice (some ⟨g, 0, none⟩) n c) (.int .i64 q) (.int .i64 p) (.slice (some ⟨g, 0, none⟩) n c) (.int .i64 q) (.int .i64 p) (.pointer (some ⟨g, p * 3, none⟩)) (.agg #[.int .i64 y.var, .int .i64 y.val, .bool y.neg]) (.slice (some ⟨g, 0, none⟩) n c) (.int .i64 q) (.pointer (some ⟨g, q * 3, none⟩)) (.agg #[.int .i64 x.var, .int .i64 x.val, .bool x.neg]) _ _) w9.drew
            refine wpAnyZ_takeW (i := 14) (v := .pointer (some ⟨g, q * 3, none⟩)) rfl (by kernel_rfl) (by kernel_rfl) (by kernel_rfl) (fun _ _ _ h => h) (.inl ⟨rfl, fun w' hw' => exec_index rfl rfl rfl (index_litsZ w' _ _ _ _ hqn)⟩) ?_
            change wpAnyZ Try.prog .any _ _ _ _ 3 _ (srAct _ _ _ _ _ _ _ _ _ _ _ _ _ _ _ _ _ _ _ _ _ _ _ _ _ _ _ _ _ _ _ _ _ _ _ _ _ (.slice (some ⟨g, 0, none⟩) n c) (.int .i64 q) (.slice (some ⟨g, 0, none⟩) n c) (.int .i64 q) (.int .i64 p) (.slice (some ⟨g, 0, none⟩) n c) (.int .i64 q) (.int .i64 p) (.pointer (some ⟨g, p * 3, none⟩)) (.agg #[.int .i64 y.var, .int .i64 y.val, .bool y.neg]) (.slice (some ⟨g, 0, none⟩) n c) (.int .i64 q) (.pointer (some ⟨g, q * 3, none⟩)) (.agg #[.int .i64 x.var, .int .i64 x.val, .bool x.neg]) (.pointer (some ⟨g, q * 3, none⟩)) _) w9.drew
            refine wpAnyZ_one (i := 15) (by kernel_rfl) rfl (fun K' hK' => ?_)
            refine step_skip _ (setLit w9.drew g (q * 3) y) rfl (exec_store rfl rfl rfl (store_lit _ _ _ y x hT.2 (HOD9.out.frozen _) (HOD9.out.frozen _) (HOD9.out.frozen _))) ?_
            refine hK'.out _ _ (fun h => by cases h) ?_
            clear hK' K'
            change wpAnyZ Try.prog .any _ _ _ _ 2 _ (srAct _ _ _ _ _ _ _ _ _ _ _ _ _ _ _ _ _ _ _ _ _ _ _ _ _ _ _ _ _ _ _ _ _ _ _ _ _ (.slice (some ⟨g, 0, none⟩) n c) (.int .i64 q) (.slice (some ⟨g, 0, none⟩) n c) (.int .i64 q) (.int .i64 p) (.slice (some ⟨g, 0, none⟩) n c) (.int .i64 q) (.int .i64 p) (.pointer (some ⟨g, p * 3, none⟩)) (.agg #[.int .i64 y.var, .int .i64 y.val, .bool y.neg]) (.slice (some ⟨g, 0, none⟩) n c) (.int .i64 q) (.pointer (some ⟨g, q * 3, none⟩)) (.agg #[.int .i64 x.var, .int .i64 x.val, .bool x.neg]) (.pointer (some ⟨g, q * 3, none⟩)) _) (setLit w9.drew g (q * 3) y)
            refine wpAnyZ_takeW (i := 16) (v := .pointer (some ⟨g, p * 3, none⟩)) rfl (by kernel_rfl) (by kernel_rfl) (by kernel_rfl) (fun _ _ _ h => h) (.inl ⟨rfl, fun w' hw' => exec_index rfl rfl rfl (index_litsZ w' _ _ _ _ hpn)⟩) ?_
            change wpAnyZ Try.prog .any _ _ _ _ 1 _ (srAct _ _ _ _ _ _ _ _ _ _ _ _ _ _ _ _ _ _ _ _ _ _ _ _ _ _ _ _ _ _ _ _ _ _ _ _ _ (.slice (some ⟨g, 0, none⟩) n c) (.int .i64 q) (.slice (some ⟨g, 0, none⟩) n c) (.int .i64 q) (.int .i64 p) (.slice (some ⟨g, 0, none⟩) n c) (.int .i64 q) (.int .i64 p) (.pointer (some ⟨g, p * 3, none⟩)) (.agg #[.int .i64 y.var, .int .i64 y.val, .bool y.neg]) (.slice (some ⟨g, 0, none⟩) n c) (.int .i64 q) (.pointer (some ⟨g, q * 3, none⟩)) (.agg #[.int .i64 x.var, .int .i64 x.val, .bool x.neg]) (.pointer (some ⟨g, q * 3, none⟩)) (.pointer (some ⟨g, p * 3, none⟩))) (setLit w9.drew g (q * 3) y)
            refine wpAnyZ_one (i := 17) (by kernel_rfl) rfl (fun K' hK' => ?_)
            refine step_skip _ (setLit (setLit w9.drew g (q * 3) y) g (p * 3) x) rfl (exec_store rfl rfl rfl (store_lit _ _ _ x o2 (HOD2.out.cells HO2.out) (HOD2.out.frozen _) (HOD2.out.frozen _) (HOD2.out.frozen _))) ?_
            refine hK'.out _ _ (fun h => by cases h) ?_
            clear hK' K'
            change wpAnyZ Try.prog .any _ _ _ _ 0 _ (srAct _ _ _ _ _ _ _ _ _ _ _ _ _ _ _ _ _ _ _ _ _ _ _ _ _ _ _ _ _ _ _ _ _ _ _ _ _ (.slice (some ⟨g, 0, none⟩) n c) (.int .i64 q) (.slice (some ⟨g, 0, none⟩) n c) (.int .i64 q) (.int .i64 p) (.slice (some ⟨g, 0, none⟩) n c) (.int .i64 q) (.int .i64 p) (.pointer (some ⟨g, p * 3, none⟩)) (.agg #[.int .i64 y.var, .int .i64 y.val, .bool y.neg]) (.slice (some ⟨g, 0, none⟩) n c) (.int .i64 q) (.pointer (some ⟨g, q * 3, none⟩)) (.agg #[.int .i64 x.var, .int .i64 x.val, .bool x.neg]) (.pointer (some ⟨g, q * 3, none⟩)) (.pointer (some ⟨g, p * 3, none⟩))) (setLit (setLit w9.drew g (q * 3) y) g (p * 3) x)
            refine wpAnyZ_done (by kernel_rfl) ?_ _
            unfold srAct
            go_wp2
            go_roundw
            case rel => exact ⟨p, (ks.set q y).set p x, by have := HQP.out; omega, by first | rw [wrap_pred HQP.out hq12] | (have := HQP.out; go_num), HPS, HSW, HOD3, HF3⟩
            case measure => simp [intOf]; have := HQP.out; omega
    · have HST2 := Lib.hid (HST.out.mono (show n ≤ k by omega))
      go_wp2
      refine bodyPost_end (results_none rfl _ _ _) rfl ?_
      exact ⟨⟨_, rfl⟩, cs, HPM.out, HST2.out, HOC.out, HOF.out⟩

set_option maxRecDepth 100000 in
set_option maxHeartbeats 8000000 in
theorem pdq_any (ls : List Lit) (n B c g : Nat) (lim : Int) (w : World) (h : OwnC w B (.slice (some ⟨g, 0, none⟩) n c) n ls) (h12 : n ≤ 12) (hc63 : c ≤ 9223372036854775807) (hnc : n ≤ c) :
    Calls Try.prog 96 #[.slice (some ⟨g, 0, none⟩) n c, .int .i64 0, .int .i64 n, .int .i64 lim, .func (.func 68) #[] #[]] w fun e w' => (∃ u, e = .returned u) ∧ ∃ cs, cs.Perm ls ∧ SrtTo cs n ∧ OwnC w' B (.slice (some ⟨g, 0, none⟩) n c) n cs ∧ OffB (fun b => b = g) w w' := by
  have HI := Lib.hid (isort_any ls n B c g w h h12 hc63 hnc)
  have hle : decide ((n : Int) ≤ 12) = true := by simp; omega
  clear h
  go_enter Try.func96, Try.ntmps96
  go_wp2
  go_loopw [1, 2] (fun x y wr => x = .int .i64 0 ∧ y = .int .i64 n ∧ wr = w) (fun _ _ _ => 0)
  case atStart => exact ⟨rfl, rfl, rfl⟩
  case round =>
    obtain ⟨rfl, rfl, rfl⟩ := hrel
    go_wp2_with fail
    refine HI.out.mono ?_
    rintro e w2 ⟨⟨u, rfl⟩, cs, h1, h2, h3, h4⟩
    have H1 := Lib.hid h1
    have H2 := Lib.hid h2
    have H3 := Lib.hid h3
    have H4 := Lib.hid h4
    clear h1 h2 h3 h4
    go_wp2
    refine bodyPost_ret (results_none rfl _ _ _) rfl ?_
    exact ⟨⟨_, rfl⟩, cs, H1.out, H2.out, H3.out, H4.out⟩

set_option maxRecDepth 100000 in
set_option maxHeartbeats 8000000 in
theorem sortLits_any (ls : List Lit) (n B c g : Nat) (w : World) (h : OwnC w B (.slice (some ⟨g, 0, none⟩) n c) n ls) (h12 : n ≤ 12) (hc63 : c ≤ 9223372036854775807) (hnc : n ≤ c) :
    Calls Try.prog 70 #[.slice (some ⟨g, 0, none⟩) n c, .func (.func 68) #[] #[]] w fun e w' => (∃ u, e = .returned u) ∧ ∃ cs, cs.Perm ls ∧ SrtTo cs n ∧ OwnC w' B (.slice (some ⟨g, 0, none⟩) n c) n cs ∧ OffB (fun b => b = g) w w' := by
  have HI := Lib.hid (fun lim => pdq_any ls n B c g lim w h h12 hc63 hnc)
  have HL := Lib.hid (Try.bits_Len n w (by omega) (by omega))
  clear h
  go_enter Try.func70, Try.ntmps70
  go_wp2_with fail
  refine HL.out.mono ?_
  rintro e w' ⟨rfl, rfl⟩
  obtain ⟨lim, hlim⟩ : ∃ lim : Int, lim = (Lib.bitLen (Int.toNat (n : Int)) : Nat) := ⟨_, rfl⟩
  rw [← hlim]
  clear hlim
  go_wp2_with fail
  refine (HI.out lim).mono ?_
  rintro e w2 ⟨⟨u, rfl⟩, cs, h1, h2, h3, h4⟩
  have H1 := Lib.hid h1
  have H2 := Lib.hid h2
  have H3 := Lib.hid h3
  have H4 := Lib.hid h4
  clear h1 h2 h3 h4
  go_wp2
  refine bodyPost_end (results_none rfl _ _ _) rfl ?_
  exact ⟨⟨_, rfl⟩, cs, H1.out, H2.out, H3.out, H4.out⟩
end Go.Proofs.Ytipapmmjfoaddaa

/-! The negations of a clause, both packages. -/
namespace Go.Proofs.Ytipapmmjfoaddaa
open Go.ChangeShapes Go.WideShapes Go.ChangeAt Go.RowKit Go.Deep Go.Shelf
set_option linter.unusedVariables false
set_option linter.unusedSimpArgs false

/-- The negation of a literal. -/
def ngL (l : Lit) : Lit := ⟨l.var, l.val, !l.neg⟩
set_option maxRecDepth 100000 in
set_option maxHeartbeats 2000000 in
theorem ng_any (l : Lit) (w : World) :
    Calls Try.prog 69 #[.agg #[.int .i64 l.var, .int .i64 l.val, .bool l.neg]] w fun e w' => e = .returned (.agg #[.int .i64 (ngL l).var, .int .i64 (ngL l).val, .bool (ngL l).neg]) ∧ Below w.heap.size w w' := by
  go_enter Try.func69, Try.ntmps69
  go_wp2
  refine bodyPost_ret (v := .agg #[.int .i64 l.var, .int .i64 l.val, .bool !l.neg]) (by simp [results, Try.results69, go_sem]) rfl ⟨rfl, below2 _ _ _⟩

set_option maxRecDepth 100000 in
set_option maxHeartbeats 4000000 in
theorem isort0_any (w : World) : Calls Try.prog 116 #[.slice none 0 0, .int .i64 0, .int .i64 0, .func (.func 68) #[] #[]] w fun e w' => (∃ u, e = .returned u) ∧ w' = w := by
  go_enter Try.func116, Try.ntmps116
  go_wp2
  go_loopw [8] (fun i wr => i = .int .i64 1 ∧ wr = w) (fun _ _ => 0)
  case atStart => exact ⟨rfl, rfl⟩
  case round =>
    obtain ⟨rfl, rfl⟩ := hrel
    go_wp2
    refine bodyPost_end (results_none rfl _ _ _) rfl ?_
    exact ⟨⟨_, rfl⟩, rfl⟩
set_option maxRecDepth 100000 in
set_option maxHeartbeats 4000000 in
theorem pdq0_any (lim : Int) (w : World) : Calls Try.prog 96 #[.slice none 0 0, .int .i64 0, .int .i64 0, .int .i64 lim, .func (.func 68) #[] #[]] w fun e w' => (∃ u, e = .returned u) ∧ w' = w := by
  go_enter Try.func96, Try.ntmps96
  go_wp2
  go_loopw [1, 2] (fun x y wr => x = .int .i64 0 ∧ y = .int .i64 0 ∧ wr = w) (fun _ _ _ => 0)
  case atStart => exact ⟨rfl, rfl, rfl⟩
  case round =>
    obtain ⟨rfl, rfl, rfl⟩ := hrel
    go_wp2_with fail
    refine (isort0_any wr).mono ?_
    rintro e w2 ⟨⟨u, rfl⟩, rfl⟩
    go_wp2
    refine bodyPost_ret (results_none rfl _ _ _) rfl ?_
    exact ⟨⟨_, rfl⟩, rfl⟩
set_option maxRecDepth 100000 in
set_option maxHeartbeats 4000000 in
theorem sort0_any (w : World) : Calls Try.prog 70 #[.slice none 0 0, .func (.func 68) #[] #[]] w fun e w' => (∃ u, e = .returned u) ∧ w' = w := by
  go_enter Try.func70, Try.ntmps70
  go_wp2_with fail
  refine (Try.bits_Len 0 w (by omega) (by omega)).mono ?_
  rintro e w' ⟨rfl, rfl⟩
  go_wp2_with fail
  refine (pdq0_any _ _).mono ?_
  rintro e w2 ⟨⟨u, rfl⟩, rfl⟩
  go_wp2
  refine bodyPost_end (results_none rfl _ _ _) rfl ?_
  exact ⟨⟨_, rfl⟩, rfl⟩

theorem rdLits_one (w : World) (l : Lit) : RdLits (w.alloc (.cells #[.int .i64 l.var, .int .i64 l.val, .bool l.neg] 64)) (.slice (some ⟨w.heap.size, 0, none⟩) 1 1) [l] := (ownL_one w 0 (Nat.zero_le _) l).rd

set_option maxRecDepth 100000 in
set_option maxHeartbeats 8000000 in
theorem negations_any (v : Value) (ls : List Lit) (w : World) (h : RdLits w v ls) (h12 : ls.length ≤ 12) :
    Calls Try.prog 40 #[v] w fun e w' => ∃ u cs, e = .returned u ∧ cs.Perm (ls.map ngL) ∧ SrtTo cs ls.length ∧ OwnC w' w.heap.size u ls.length cs ∧ Below w.heap.size w w' := by
  have HL := Lib.hid h
  obtain ⟨a, cap, ev, -⟩ := id h
  obtain ⟨m, hm⟩ : ∃ m, m = ls.length := ⟨_, rfl⟩
  rw [ev] at HL ⊢
  have hlc := rdLits_len HL.out
  rw [← hm] at HL hlc h12 ⊢
  have HM := Lib.hid hm
  have hlc1 := hlc.2.1
  have hlc2 := hlc.2.2
  clear ev h hm hlc
  go_enter Try.func40, Try.ntmps40
  go_wp2
  go_loopw [3, 8] (fun u i wr => ∃ k : Nat, k ≤ m ∧ i = .int .i64 k ∧ Hid (k = 0 → u = .slice none 0 0) ∧ Hid (OwnC wr w.heap.size u k ((ls.take k).map ngL)) ∧ Hid (Below w.heap.size w wr)) (fun _ i _ => m - (intOf i).toNat)
  case atStart => exact ⟨0, Nat.zero_le _, rfl, Lib.hid (fun _ => rfl), Lib.hid ⟨rfl, World.ownsRow_nil _ _ _ _⟩, Lib.hid (Below.refl _ _)⟩
  case round =>
    obtain ⟨k, hk, rfl, HN0, HO, HB⟩ := hrel
    by_cases hlt : k < m
    · obtain ⟨b, off, l, rfl, hck, c0, c1, c2⟩ := rdLits_at (HL.out.below HB.out) hlt
      obtain ⟨ua, uc, eu, -⟩ := HO.out.form
      have HTK : Hid ((ls.take (k + 1)).map ngL = (ls.take k).map ngL ++ [ngL l]) := Lib.hid (by rw [List.take_add_one, hck]; simp)
      have HTL : Hid (((ls.take k).map ngL).length = k) := Lib.hid HO.out.1
      obtain ⟨xs, hxs⟩ : ∃ xs, xs = (ls.take k).map ngL := ⟨_, rfl⟩
      rw [← hxs] at HO HTK HTL
      obtain ⟨W9, hW9⟩ : ∃ W9, wr.alloc (.cells #[.int .i64 l.var, .int .i64 l.val, .bool l.neg] 64) = W9 := ⟨_, rfl⟩
      have b9 : Below wr.heap.size wr W9 := by rw [← hW9]; exact below1 _ _
      have hq9 : LitAt wr.heap.size 0 l W9 := by
        have := (Blk3.new wr 64 (.int .i64 l.var) (.int .i64 l.val) (.bool l.neg)).cell
        rw [hW9] at this
        exact this
      obtain ⟨q0, q1, q2⟩ := hq9
      have HW9 := Lib.hid hW9
      have HB9 := Lib.hid b9
      have HNG := Lib.hid (ng_any l W9)
      obtain ⟨g, hg⟩ : ∃ g, g = ngL l := ⟨_, rfl⟩
      rw [← hg] at HNG HTK
      subst eu
      clear hck hxs hW9 b9 hg
      go_wp2_with fail
      rw [HW9.out]
      refine HNG.out.mono ?_
      rintro e w5 ⟨rfl, b5⟩
      have hb1 : Below wr.heap.size wr w5 := HB9.out.trans (b5.mono HB9.out.size)
      have HO5 := Lib.hid (HO.out.below hb1)
      have HB5 := Lib.hid (HB.out.trans (hb1.mono HB.out.size))
      obtain ⟨W6, hW6⟩ : ∃ W6, w5.alloc (.cells #[.int .i64 g.var, .int .i64 g.val, .bool g.neg] 64) = W6 := ⟨_, rfl⟩
      have b6 : Below w5.heap.size w5 W6 := by rw [← hW6]; exact below1 _ _
      have HR6 : Hid (RdLits W6 (.slice (some ⟨w5.heap.size, 0, none⟩) 1 1) [g]) := Lib.hid (by rw [← hW6]; exact rdLits_one w5 g)
      have HO6 := Lib.hid (HO5.out.below b6)
      have HB6 := Lib.hid (HB5.out.trans (b6.mono HB5.out.size))
      have HW6 := Lib.hid hW6
      clear c0 c1 c2 q0 q1 q2 b5 hb1 b6 hW6
      go_wp2_with (at_builtin; rw [HW6.out]; refine wpList_append_litsC rfl _ _ rfl w.heap.size _ _ xs [g] rfl rfl (by rw [HTL.out]; exact HO6.out) HR6.out HB6.out.size (by rw [HTL.out]; omega) (by simp) ?_; intro v8 w8 own8 grow8; obtain ⟨a8, n8, c8, e8⟩ := own8.slice3; subst e8)
      have HO8 : Hid (OwnC w8 w.heap.size (.slice a8 n8 c8) (k + 1) ((ls.take (k + 1)).map ngL)) := Lib.hid (by
        rw [HTK.out]
        rw [List.length_append, HTL.out] at own8
        exact own8)
      have HB8 := Lib.hid (HB6.out.grown grow8 HB6.out.size (fun q e => (HO6.out.2.lt q e).1))
      clear own8 grow8
      go_wp2
      go_roundw
      all_goals first
        | exact ⟨k + 1, by omega, by go_num, Lib.hid (fun h => by omega), HO8, HB8⟩
        | (simp [intOf]; omega)
    · obtain rfl : k = m := by omega
      have HTK : Hid (ls.take k = ls) := Lib.hid (by rw [HM.out, List.take_length])
      rw [HTK.out] at HO
      by_cases hk0 : 0 < k
      · obtain ⟨ua, uc, eu, hu1, hu2, hu3⟩ := HO.out.form
        subst eu
        obtain ⟨g, rfl, hg1⟩ := hu3 hk0
        have HS := Lib.hid (sortLits_any _ k w.heap.size uc g wr HO.out h12 hu2 hu1)
        go_wp2_with fail
        refine HS.out.mono ?_
        rintro e w5 ⟨⟨uu, rfl⟩, cs, h1, h2, h3, h4⟩
        have H1 := Lib.hid h1
        have H2 := Lib.hid h2
        have H3 := Lib.hid h3
        have HB5 : Hid (Below w.heap.size w w5) := Lib.hid (HB.out.trans (h4.below HB.out.size (fun b hb => by rw [hb]; exact hg1)))
        clear h1 h2 h3 h4
        go_wp2
        go_ret
        exact ⟨_, cs, rfl, H1.out, H2.out, H3.out, HB5.out⟩
      · have hu := HN0.out (by omega)
        obtain rfl : k = 0 := by omega
        have hls : ls = [] := List.eq_nil_of_length_eq_zero HM.out.symm
        have HOE := Lib.hid HO.out
        subst hls
        have HUE := Lib.hid hu
        clear hu HO HTK HL
        rw [HUE.out] at HOE
        rw [HUE.out]
        clear HUE
        go_wp2_with fail
        refine (sort0_any wr).mono ?_
        rintro e w5 ⟨⟨uu, rfl⟩, rfl⟩
        go_wp2
        go_ret
        exact ⟨_, [], rfl, List.Perm.refl _, fun p q a b h1 h2 => by omega, HOE.out, HB.out⟩
end Go.Proofs.Ytipapmmjfoaddaa
