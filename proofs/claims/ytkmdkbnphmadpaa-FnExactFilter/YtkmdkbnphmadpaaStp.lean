/- One step of a region that draws its order: an operation whose run is known. -/
import Derived.Test.YtkmdkbnphmadpaaEx2
namespace Go.Proofs.Ytkmdkbnphmadpaa
open Go.ChangeShapes Go.WideShapes Go.ChangeAt Go.RowKit Go.Shelf
set_option linter.unusedVariables false
set_option linter.unusedSimpArgs false

theorem step_value {P : Program} (w w' : World) {ops : Array Oper} {o : Oper} {a : Act} {K : Act → World → Prop} {Q : Exit → Act → World → Prop} {E : Prop} (hgd : o.guard = none) (v : Value)
    (hrun : (execOp a.eval o).run P w = .ok (.value v) w') (hK : K (a.put o.dst v) w') : if Region.wanted o (yielded ops a.tmps) = true then Oper.wp P o a w K Q else E := by
  have hw : Region.wanted o (yielded ops a.tmps) = true := by simp [Region.wanted, hgd]
  rw [if_pos hw]
  unfold Oper.wp
  rw [hrun]
  exact hK
theorem step_skip {P : Program} (w w' : World) {ops : Array Oper} {o : Oper} {a : Act} {K : Act → World → Prop} {Q : Exit → Act → World → Prop} {E : Prop} (hgd : o.guard = none)
    (hrun : (execOp a.eval o).run P w = .ok .skip w') (hK : K (a.put o.dst undef) w') : if Region.wanted o (yielded ops a.tmps) = true then Oper.wp P o a w K Q else E := by
  have hw : Region.wanted o (yielded ops a.tmps) = true := by simp [Region.wanted, hgd]
  rw [if_pos hw]
  unfold Oper.wp
  rw [hrun]
  exact hK
theorem load_int (w : World) (g j : Nat) (z : Int) (hc : w.cell? ⟨g, j, none⟩ = some (.int .i64 z)) : (loadVar 3 ⟨g, j, none⟩).run Try.prog w = .ok (.int .i64 z) w := by
  go_simp
theorem exec_store {P : Program} {w w' : World} {ev : Operand → Value} {o : Oper} {ty : TypeId} {x y : Operand} {v u : Value} (ho : o.op = .store ty x y) (hx : ev x = v) (hy : ev y = u) (hl : (Instr.storeAt ty v u).run P w = .ok () w') : (execOp ev o).run P w = .ok .skip w' := by
  unfold execOp
  simp only [ho, hx, hy, Sem.run_bind, Sem.run_pure, Result.andThen_ok, hl]
theorem store_int (w : World) (g j : Nat) (z y : Int) (hc : w.cell? ⟨g, j, none⟩ = some (.int .i64 z)) (hf : w.frozen? ⟨g, j, none⟩ = false) : (Instr.storeAt 3 (.pointer (some ⟨g, j, none⟩)) (.int .i64 y)).run Try.prog w = .ok () (w.setCell ⟨g, j, none⟩ (.int .i64 y)) := by
  go_simp
theorem exec_bin {P : Program} {w : World} {ev : Operand → Value} {o : Oper} {op : BinOp} {ty : TypeId} {x y : Operand} {c : TypeId} {u v r : Value} (ho : o.op = .binOp op ty x y c) (hx : ev x = u) (hy : ev y = v) (hl : (do eqGuard op ty x y u v; binOp op ty u v : Sem Value).run P w = .ok r w) : (execOp ev o).run P w = .ok (.value r) w := by
  unfold execOp
  simp only [ho, hx, hy]
  rw [Sem.run_bind, hl]
  rfl
theorem or_ints (w : World) (x y : Operand) (d m : Int) : (do eqGuard .or 3 x y (.int .i64 d) (.int .i64 m); binOp .or 3 (.int .i64 d) (.int .i64 m) : Sem Value).run Try.prog w = .ok (.int .i64 (bits .or .i64 d m)) w := by
  go_simp
theorem exec_index {P : Program} {w : World} {ev : Operand → Value} {o : Oper} {ty : TypeId} {x y : Operand} {u v r : Value} (ho : o.op = .indexAddr ty x y) (hx : ev x = u) (hy : ev y = v) (hl : (Instr.indexAt ty u v).run P w = .ok r w) : (execOp ev o).run P w = .ok (.value r) w := by
  unfold execOp
  simp only [ho, hx, hy, Sem.run_bind, Sem.run_pure, Result.andThen_ok, hl]
theorem index_ints (w : World) (b off n c j : Nat) (hj : j < n) : (Instr.indexAt 22 (.slice (some ⟨b, off, none⟩) n c) (.int .i64 j)).run Try.prog w = .ok (.pointer (some ⟨b, off + j, none⟩)) w := by
  go_simp
theorem index0_ints (w : World) (b n c j : Nat) (hj : j < n) : (Instr.indexAt 22 (.slice (some ⟨b, 0, none⟩) n c) (.int .i64 j)).run Try.prog w = .ok (.pointer (some ⟨b, j, none⟩)) w := by
  go_simp
end Go.Proofs.Ytkmdkbnphmadpaa
