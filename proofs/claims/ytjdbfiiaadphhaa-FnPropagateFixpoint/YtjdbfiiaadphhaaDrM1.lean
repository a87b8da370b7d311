/- The draw of a model: single operations on models. -/
import Derived.Test.YtjdbfiiaadphhaaDrM0
import Derived.Test.YtjdbfiiaadphhaaEngI
namespace Go.Proofs.Ytjdbfiiaadphhaa
open Go.ChangeShapes Go.WideShapes Go.ChangeAt Go.RowKit Go.Shelf
set_option linter.unusedVariables false
set_option linter.unusedSimpArgs false

theorem Try.infoC : (Try.prog.info? 53).map (fun i => (i.zero, i.size, i.bytes)) = some (some (.agg #[.int .i64 0, .slice none 0 0, .slice none 0 0, .int .i64 0, .slice none 0 0]), 5, 88) := by kernel_rfl
section
set_option maxRecDepth 100000
theorem m_field0 {w : World} {ev : Operand → Value} {o : Oper} {x : Operand} {b : Nat} (ho : o.op = .fieldAddr 68 x 0) (hx : ev x = .pointer (some ⟨b, 0, none⟩)) : (execOp ev o).run Try.prog w = .ok (.value (.pointer (some ⟨b, 0, none⟩))) w := by
  unfold execOp
  simp only [ho, hx]
  go_simp
theorem m_field1 {w : World} {ev : Operand → Value} {o : Oper} {x : Operand} {b : Nat} (ho : o.op = .fieldAddr 68 x 1) (hx : ev x = .pointer (some ⟨b, 0, none⟩)) : (execOp ev o).run Try.prog w = .ok (.value (.pointer (some ⟨b, 1, none⟩))) w := by
  unfold execOp
  simp only [ho, hx]
  go_simp
theorem m_loadC (w : World) (g o : Nat) (a : Option Addr) (n c : Nat) (h : w.cell? ⟨g, o, none⟩ = some (.slice a n c)) : (loadVar 66 ⟨g, o, none⟩).run Try.prog w = .ok (.slice a n c) w := by
  go_simp
theorem m_storeC (w : World) (g o : Nat) (a a' : Option Addr) (n c n' c' : Nat) (h : w.cell? ⟨g, o, none⟩ = some (.slice a n c)) (hf : w.frozen? ⟨g, o, none⟩ = false) : (Instr.storeAt 66 (.pointer (some ⟨g, o, none⟩)) (.slice a' n' c')).run Try.prog w = .ok () (w.setCell ⟨g, o, none⟩ (.slice a' n' c')) := by
  go_simp
theorem m_build1 (w : World) (x y : Int) (a1 a2 a4 : Option Addr) (n1 n2 n4 c1 c2 c4 : Nat) : (Instr.buildSlice 66 1 #[(0, .agg #[.int .i64 x, .slice a1 n1 c1, .slice a2 n2 c2, .int .i64 y, .slice a4 n4 c4])]).run Try.prog w = .ok (.slice (some ⟨w.heap.size, 0, none⟩) 1 1) (w.alloc (.cells #[.int .i64 x, .slice a1 n1 c1, .slice a2 n2 c2, .int .i64 y, .slice a4 n4 c4] 53)) := by
  go_simp
theorem m_build3 (w : World) : (Instr.buildSlice 32 3 #[(0, .int .i64 (-1)), (1, .int .i64 64), (2, .int .i64 0)]).run Try.prog w = .ok (.slice (some ⟨w.heap.size, 0, none⟩) 3 3) (w.alloc (.cells #[.int .i64 (-1), .int .i64 64, .int .i64 0] 3)) := by
  go_simp
theorem m_exec3 {P : Program} {w w' : World} {ev : Operand → Value} {o : Oper} {ty : TypeId} {x0 x1 x2 : Operand} {u0 u1 u2 r : Value} (ho : o.op = .buildSlice ty 3 #[(0, x0), (1, x1), (2, x2)]) (h0 : ev x0 = u0) (h1 : ev x1 = u1) (h2 : ev x2 = u2) (hl : (Instr.buildSlice ty 3 #[(0, u0), (1, u1), (2, u2)]).run P w = .ok r w') : (execOp ev o).run P w = .ok (.value r) w' := by
  unfold execOp
  simp only [ho, h0, h1, h2, List.map_toArray, List.map_cons, List.map_nil, Sem.run_bind, Sem.run_pure, Result.andThen_ok, hl]
theorem m_lenI {w : World} {ev : Operand → Value} {o : Oper} {x : Operand} {a : Option Addr} {n c : Nat} (ho : o.op = .call { callee := .builtin .len, args := #[x], argTypes := #[32] }) (hx : ev x = .slice a n c) : (execOp ev o).run Try.prog w = .ok (.value (.int .i64 n)) w := by
  unfold execOp
  simp only [ho, resolve, invoke, builtin, Sem.run_bind, Sem.run_pure, Result.andThen_ok, List.map_toArray, List.map_cons, List.map_nil, hx]
  go_simp
theorem m_indexC (w : World) (b n c j : Nat) (hj : j < n) : (Instr.indexAt 66 (.slice (some ⟨b, 0, none⟩) n c) (.int .i64 j)).run Try.prog w = .ok (.pointer (some ⟨b, j * 5, none⟩)) w := by
  go_simp
theorem m_loadE (w : World) (g o : Nat) (x y : Int) (a1 a2 a4 : Option Addr) (n1 n2 n4 c1 c2 c4 : Nat) (h0 : w.cell? ⟨g, o, none⟩ = some (.int .i64 x)) (h1 : w.cell? ⟨g, o + 1, none⟩ = some (.slice a1 n1 c1)) (h2 : w.cell? ⟨g, o + 2, none⟩ = some (.slice a2 n2 c2)) (h3 : w.cell? ⟨g, o + 3, none⟩ = some (.int .i64 y)) (h4 : w.cell? ⟨g, o + 4, none⟩ = some (.slice a4 n4 c4)) :
    (loadVar 53 ⟨g, o, none⟩).run Try.prog w = .ok (.agg #[.int .i64 x, .slice a1 n1 c1, .slice a2 n2 c2, .int .i64 y, .slice a4 n4 c4]) w := by
  go_simp
theorem m_storeE (w : World) (g o : Nat) (x y z t : Int) (a1 a2 a4 b1 b2 b4 : Option Addr) (n1 n2 n4 c1 c2 c4 m1 m2 m4 d1 d2 d4 : Nat) (h0 : w.cell? ⟨g, o, none⟩ = some (.int .i64 x)) (h1 : w.cell? ⟨g, o + 1, none⟩ = some (.slice a1 n1 c1)) (h2 : w.cell? ⟨g, o + 2, none⟩ = some (.slice a2 n2 c2)) (h3 : w.cell? ⟨g, o + 3, none⟩ = some (.int .i64 y)) (h4 : w.cell? ⟨g, o + 4, none⟩ = some (.slice a4 n4 c4))
    (f0 : w.frozen? ⟨g, o, none⟩ = false) (f1 : w.frozen? ⟨g, o + 1, none⟩ = false) (f2 : w.frozen? ⟨g, o + 2, none⟩ = false) (f3 : w.frozen? ⟨g, o + 3, none⟩ = false) (f4 : w.frozen? ⟨g, o + 4, none⟩ = false) :
    (Instr.storeAt 53 (.pointer (some ⟨g, o, none⟩)) (.agg #[.int .i64 z, .slice b1 m1 d1, .slice b2 m2 d2, .int .i64 t, .slice b4 m4 d4])).run Try.prog w = .ok () (((((w.setCell ⟨g, o, none⟩ (.int .i64 z)).setCell ⟨g, o + 1, none⟩ (.slice b1 m1 d1)).setCell ⟨g, o + 2, none⟩ (.slice b2 m2 d2)).setCell ⟨g, o + 3, none⟩ (.int .i64 t)).setCell ⟨g, o + 4, none⟩ (.slice b4 m4 d4)) := by
  go_simp
end
theorem m_appendI {w : World} {ops : Array Oper} {o : Oper} {a : Act} {K : Act → World → Prop} {Q : Exit → Act → World → Prop} {E : Prop} (hgd : o.guard = none) (s x : Operand)
    (ho : o.op = .call { callee := .builtin .append, args := #[s, x], argTypes := #[32, 32] }) (B : Nat) (v : Value) (xs : List Value) (n g : Nat) (z : Int) (hs : a.eval s = v) (hx : a.eval x = .slice (some ⟨g, 0, none⟩) 1 1) (hv : w.ownsRow B 3 1 v n xs) (hg : w.cell? ⟨g, 0, none⟩ = some (.int .i64 z)) (hB : B ≤ w.heap.size) (hn : n ≤ 1048576)
    (h : ∀ v' w', w'.ownsRow B 3 1 v' (n + 1) (xs ++ [.int .i64 z]) → w.grownBy w' v.ownBlock → (v'.ownBlock = v.ownBlock ∨ ∀ g, v'.ownBlock = some g → w.heap.size ≤ g) → K (a.put o.dst v') w') : if Region.wanted o (yielded ops a.tmps) = true then Oper.wp Try.prog o a w K Q else E := by
  have hw : Region.wanted o (yielded ops a.tmps) = true := by simp [Region.wanted, hgd]
  rw [if_pos hw]
  obtain ⟨i0, hi, hz0, hz1, hz2⟩ := info_parts Try.info3
  obtain ⟨v', w', hr, h3, h4, h5⟩ := run_append_own_at (P := Try.prog) w B 32 o.type 3 i0 (.int .i64 0) 1 8 Try.underlying32 hi hz0 hz1 hz2 rfl (by decide) v n xs hv ⟨g, 0, none⟩ 1 1 [.int .i64 z] rfl (fun j u hu => by
    cases j with
    | zero => simp at hu; subst hu; simpa [Addr.add] using hg
    | succ j => simp at hu) (by simp [Value.oneCell']) (by unfold maxLen; omega) (by omega) hB
  unfold Oper.wp execOp
  simp only [ho, resolve, invoke, builtin, Sem.run_bind, Sem.run_pure, Result.andThen_ok, List.map_toArray, List.map_cons, List.map_nil, hs, hx, hr]
  exact h v' w' h3 h4 h5
/-- The five cells of a constraint that was just made. -/
theorem cells_one5 (w : World) (t : TypeId) (u0 u1 u2 u3 u4 : Value) (j : Nat) (u : Value) (h : [u0, u1, u2, u3, u4][j]? = some u) : (w.alloc (.cells #[u0, u1, u2, u3, u4] t)).cell? ((⟨w.heap.size, 0, none⟩ : Addr).add j) = some u := by
  rw [addr_add, Nat.zero_add]
  obtain ⟨c0, c1, c2, c3, c4⟩ := (Blk5.new w t u0 u1 u2 u3 u4).cell
  have hj := (List.getElem?_eq_some_iff.1 h).1
  simp at hj
  rcases (show j = 0 ∨ j = 1 ∨ j = 2 ∨ j = 3 ∨ j = 4 by omega) with rfl | rfl | rfl | rfl | rfl <;> simp at h <;> subst h <;> assumption
theorem m_appendC {w : World} {ops : Array Oper} {o : Oper} {a : Act} {K : Act → World → Prop} {Q : Exit → Act → World → Prop} {E : Prop} (hgd : o.guard = none) (s x : Operand)
    (ho : o.op = .call { callee := .builtin .append, args := #[s, x], argTypes := #[66, 66] }) (B : Nat) (v : Value) (xs : List Value) (n g : Nat) (z t : Int) (a1 a2 a4 : Option Addr) (n1 n2 n4 c1 c2 c4 : Nat) (hs : a.eval s = v) (hx : a.eval x = .slice (some ⟨g, 0, none⟩) 1 1) (hv : w.ownsRow B 53 5 v n xs)
    (hg : ∀ j u, [Value.int .i64 z, .slice a1 n1 c1, .slice a2 n2 c2, .int .i64 t, .slice a4 n4 c4][j]? = some u → w.cell? ((⟨g, 0, none⟩ : Addr).add j) = some u) (hB : B ≤ w.heap.size) (hn : n ≤ 1048576)
    (h : ∀ v' w', w'.ownsRow B 53 5 v' (n + 1) (xs ++ [.int .i64 z, .slice a1 n1 c1, .slice a2 n2 c2, .int .i64 t, .slice a4 n4 c4]) → w.grownBy w' v.ownBlock → (v'.ownBlock = v.ownBlock ∨ ∀ g, v'.ownBlock = some g → w.heap.size ≤ g) → K (a.put o.dst v') w') : if Region.wanted o (yielded ops a.tmps) = true then Oper.wp Try.prog o a w K Q else E := by
  have hw : Region.wanted o (yielded ops a.tmps) = true := by simp [Region.wanted, hgd]
  rw [if_pos hw]
  obtain ⟨i0, hi, hz0, hz1, hz2⟩ := info_parts Try.infoC
  obtain ⟨v', w', hr, h3, h4, h5⟩ := run_append_own_at (P := Try.prog) w B 66 o.type 53 i0 _ 5 88 Try.underlying66 hi hz0 hz1 hz2 rfl (by decide) v n xs hv ⟨g, 0, none⟩ 1 1 _ rfl hg (by simp [Value.oneCell']) (by unfold maxLen; omega) (by omega) hB
  unfold Oper.wp execOp
  simp only [ho, resolve, invoke, builtin, Sem.run_bind, Sem.run_pure, Result.andThen_ok, List.map_toArray, List.map_cons, List.map_nil, hs, hx, hr]
  exact h v' w' h3 h4 h5
theorem frozen_dnM {B C : Nat} {w w' : World} (h : Dn B w w') (hC : C < w.heap.size) (hB : C ≠ B) (j : Nat) : w'.frozen? ⟨C, j, none⟩ = w.frozen? ⟨C, j, none⟩ := by
  unfold World.frozen?
  rw [h.block C hC hB]
end Go.Proofs.Ytjdbfiiaadphhaa
