/- The reference's UnitPropagate. -/
import Derived.Test.YtipapmmjfoaddaaLitD
import Derived.Test.YtipapmmjfoaddaaSupS
namespace Go.Proofs.Ytipapmmjfoaddaa
open Go.ChangeShapes Go.WideShapes Go.ChangeAt Go.RowKit Go.Deep Go.Shelf
set_option linter.unusedVariables false
set_option linter.unusedSimpArgs false

/-- The activation inside the region of clauseFilter. -/
def cfAct (z0 z1 z2 z3 z4 z5 z6 z7 z8 z9 z10 z11 z12 z13 z14 z15 z16 z17 z18 z19 z20 z21 z22 z23 z24 z25 z26 z27 z28 z29 z30 z31 z32 z33 z34 z35 z36 z37 z38 z39 z40 z41 z42 z43 z44 z45 z46 z47 z48 z49 z50 z51 z52 z53 z54 z55 z56 z57 z58 z59 z60 z61 : Value) : Act := { tmps := #[z0, z1, z2, z3, z4, z5, z6, z7, z8, z9, z10, z11, z12, z13, z14, z15, z16, z17, z18, z19, z20, z21, z22, z23, z24, z25, z26, z27, z28, z29, z30, z31, z32, z33, z34, z35, z36, z37, z38, z39, z40, z41, z42, z43, z44, z45, z46, z47, z48, z49, z50, z51, z52, z53, z54, z55, z56, z57, z58, z59, z60, z61], defers := [] }
set_option maxRecDepth 100000 in
theorem exec_field0 {w : World} {ev : Operand → Value} {o : Oper} {x : Operand} {b q : Nat} (ho : o.op = .fieldAddr 64 x 0) (hx : ev x = .pointer (some ⟨b, q, none⟩)) : (execOp ev o).run Try.prog w = .ok (.value (.pointer (some ⟨b, q, none⟩))) w := by
  unfold execOp
  simp only [ho, hx]
  go_simp
theorem and_ints (w : World) (x y : Operand) (d m : Int) : (do eqGuard .and 3 x y (.int .i64 d) (.int .i64 m); binOp .and 3 (.int .i64 d) (.int .i64 m) : Sem Value).run Try.prog w = .ok (.int .i64 (bits .and .i64 d m)) w := by
  go_simp
theorem step_callL1 {P : Program} (w : World) {ops : Array Oper} {o : Oper} {a : Act} {K : Act → World → Prop} {Q : Exit → Act → World → Prop} {E : Prop} (hgd : o.guard = none) (F : FuncId) (x0 : Operand) (v0 : Value) (ts : Array TypeId)
    (ho : o.op = .call { callee := .value (.func F), args := #[x0], argTypes := ts }) (h0 : a.eval x0 = v0) (eg : ∀ gs w, (callFunc F gs).run P w = .ok (.enter F gs) w)
    (R : Ending → World → Prop) (h : Calls P F #[v0] w R) (hp : ∀ c w', ¬ R (.panicked c) w') (hou : ∀ w', ¬ R .outgrown w') (hR : ∀ v w', R (.returned v) w' → K (a.put o.dst v) w') :
    if Region.wanted o (yielded ops a.tmps) = true then Oper.wp P o a w K Q else E := by
  have hw : Region.wanted o (yielded ops a.tmps) = true := by simp [Region.wanted, hgd]
  rw [if_pos hw]
  have hrun : (execOp a.eval o).run P w = .ok (.enter F #[v0]) w := by
    have hf : a.eval (.func F) = .func (.func F) #[] #[] := rfl
    simp [execOp, ho, resolve, invoke, eg, Deferred.ofValue, h0, hf]
  unfold Oper.wp
  rw [hrun]
  refine Calls.mono h ?_
  intro e w' hr
  cases e with
  | returned v => exact hR v w' hr
  | panicked c => exact (hp c w' hr).elim
  | outgrown => exact (hou w' hr).elim

/-- The literals that are not false on the domains. -/
def posL (ls : List Lit) (ds : List Int) : List Lit := ls.filter (posB ds)
/-- One step of unit propagation. -/
def upL (ls : List Lit) (ds : List Int) : List Int := match posL ls ds with
  | [] => List.replicate ds.length 0
  | [l] => ds.set l.var.toNat (andI (ds[l.var.toNat]?.getD 0) (domL l))
  | _ => ds
theorem upL_none {ls : List Lit} {ds : List Int} (h : posL ls ds = []) : upL ls ds = List.replicate ds.length 0 := by unfold upL; rw [h]
theorem upL_one {ls : List Lit} {ds : List Int} {l : Lit} (h : posL ls ds = [l]) : upL ls ds = ds.set l.var.toNat (andI (ds[l.var.toNat]?.getD 0) (domL l)) := by unfold upL; rw [h]
theorem upL_two {ls : List Lit} {ds : List Int} (h : 2 ≤ (posL ls ds).length) : upL ls ds = ds := by
  unfold upL
  split
  · rename_i e; rw [e] at h; simp at h
  · rename_i e; rw [e] at h; simp at h
  · rfl
theorem posL_step (ls : List Lit) (ds : List Int) (k : Nat) (l : Lit) (h : ls[k]? = some l) : posL (ls.take (k + 1)) ds = posL (ls.take k) ds ++ (if posB ds l then [l] else []) := by
  unfold posL
  rw [List.take_add_one, h, List.filter_append]
  simp [List.filter_cons]
theorem posL_len (ls : List Lit) (ds : List Int) (k : Nat) : (posL (ls.take k) ds).length ≤ (posL ls ds).length := by
  unfold posL
  have : ls.filter (posB ds) = (ls.take k).filter (posB ds) ++ (ls.drop k).filter (posB ds) := by rw [← List.filter_append, List.take_append_drop]
  rw [this, List.length_append]
  omega
theorem upL_length (ls : List Lit) (ds : List Int) : (upL ls ds).length = ds.length := by
  unfold upL
  split <;> simp
/-- The open literal so far. -/
def openOk (ls : List Lit) (ds : List Int) (k : Nat) (o : Int) : Prop := (o = -1 ∧ posL (ls.take k) ds = []) ∨ ∃ (j : Nat) (l : Lit), o = (j : Int) ∧ j < k ∧ ls[j]? = some l ∧ posL (ls.take k) ds = [l]

theorem cf_cell {w w' : World} {B g n c x : Nat} {xs : List Value} {d : Int} (ho : w.ownsRow B 3 1 (.slice (some ⟨g, 0, none⟩) n c) n xs) (hb : Below w.heap.size w w') (hc : w'.cell? ⟨g, x, none⟩ = some (.int .i64 d)) : w'.frozen? ⟨g, x, none⟩ = false :=
  (own_below ho hb).frozenAt x

end Go.Proofs.Ytipapmmjfoaddaa
