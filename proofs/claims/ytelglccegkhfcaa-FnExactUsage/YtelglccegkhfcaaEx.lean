/- The tuples of the program's propagator: one more variable, or a round at a whole tuple. The tuples of the program's propagator: all that begin with p. The tuples of the program's propagator: all that begin with p, in their order. One step of a region that draws its order: an operation whose run is known. -/
import Derived.Test.YtelglccegkhfcaaTup
import Derived.Test.YtelglccegkhfcaaRf
import Derived.Test.YtelglccegkhfcaaSolA
import Derived.Deep.RegionHeld3

/-! The tuples of the program's propagator: one more variable, or a round at a whole tuple. -/
namespace Go.Proofs.Ytelglccegkhfcaa
open Go.ChangeShapes Go.WideShapes Go.ChangeAt Go.RowKit Go.Shelf
set_option linter.unusedVariables false
set_option linter.unusedSimpArgs false

attribute [local go_sem] Oper.semAt_some

/-- The row that all tuples share, in block bx: it begins with p. -/
def XT (bx nv : Nat) (p : List Int) (W : World) : Prop := W.ownsRow bx 3 1 (.slice (some ⟨bx, 0, none⟩) p.length nv) p.length (p.map (Value.int .i64))
/-- The blocks above bx are as they were. -/
def Kr (bx : Nat) (W W' : World) : Prop := W.heap.size ≤ W'.heap.size ∧ ∀ b, bx < b → b < W.heap.size → W'.heap[b]? = W.heap[b]?
/-- The blocks from bx on are as they were. -/
def Kq (bx : Nat) (W W' : World) : Prop := W.heap.size ≤ W'.heap.size ∧ ∀ b, bx ≤ b → b < W.heap.size → W'.heap[b]? = W.heap[b]?
theorem XT.block {bx nv : Nat} {p : List Int} {W : World} (h : XT bx nv p W) : ∃ cur : Array Value, W.heap[bx]? = some (.cells cur 3 (0, 0)) ∧ p.length ≤ nv ∧ nv ≤ maxLen ∧ cur.size = nv ∧ cur.toList.take p.length = p.map (Value.int .i64) := by
  rcases h.2 with ⟨e, _⟩ | ⟨g, cap, cur, e, _, h1, h2, h3, h4, h5⟩
  · simp at e
  · simp at e
    obtain ⟨rfl, rfl⟩ := e
    exact ⟨cur, h1, h2, h3, by omega, by simpa using h5⟩
theorem XT.of_block {bx nv : Nat} {p : List Int} {W : World} {cur : Array Value} (h1 : W.heap[bx]? = some (.cells cur 3 (0, 0))) (h2 : p.length ≤ nv) (h3 : nv ≤ maxLen) (h4 : cur.size = nv) (h5 : cur.toList.take p.length = p.map (Value.int .i64)) : XT bx nv p W :=
  ⟨by simp, .inr ⟨bx, nv, cur, rfl, Nat.le_refl _, h1, h2, h3, by omega, by simpa using h5⟩⟩
theorem XT.lt {bx nv : Nat} {p : List Int} {W : World} (h : XT bx nv p W) : bx < W.heap.size := by
  obtain ⟨cur, h1, _⟩ := h.block
  exact (Array.getElem?_eq_some_iff.1 h1).1
theorem XT.keep {bx nv : Nat} {p : List Int} {W W' : World} (h : XT bx nv p W) (hk : W'.heap[bx]? = W.heap[bx]?) : XT bx nv p W' := by
  obtain ⟨cur, h1, h2, h3, h4, h5⟩ := h.block
  exact XT.of_block (hk.trans h1) h2 h3 h4 h5
theorem XT.take {bx nv : Nat} {p : List Int} {a : Int} {W : World} (h : XT bx nv (p ++ [a]) W) : XT bx nv p W := by
  obtain ⟨cur, h1, h2, h3, h4, h5⟩ := h.block
  simp at h2 h5
  refine XT.of_block h1 (by omega) h3 h4 ?_
  have := congrArg (List.take p.length) h5
  rw [List.take_take, Nat.min_eq_left (by omega)] at this
  rw [this]
  simp
theorem XT.rd {bx nv : Nat} {p : List Int} {W : World} (h : XT bx nv p W) : RdInts W (.slice (some ⟨bx, 0, none⟩) p.length nv) p := rdInts_of_own h
theorem Kq.kr {bx : Nat} {W W' : World} (h : Kq bx W W') : Kr bx W W' := ⟨h.1, fun b h1 h2 => h.2 b (by omega) h2⟩
theorem Kr.trans {bx : Nat} {A B C : World} (h : Kr bx A B) (k : Kr bx B C) : Kr bx A C := ⟨Nat.le_trans h.1 k.1, fun b h1 h2 => (k.2 b h1 (by have := h.1; omega)).trans (h.2 b h1 h2)⟩
theorem Kr.refl (bx : Nat) (W : World) : Kr bx W W := ⟨Nat.le_refl _, fun _ _ _ => rfl⟩
theorem Kr.alloc {bx : Nat} {A W : World} (h : Kr bx A W) (o : Obj) : Kr bx A (W.alloc o) := ⟨by have := h.1; simp; omega, fun b h1 h2 => (Below.heap_alloc _ _ _ (by have := h.1; omega)).trans (h.2 b h1 h2)⟩
theorem Kr.grown {bx : Nat} {A W W' : World} (h : Kr bx A W) (hg : W.grownBy W' (some bx)) : Kr bx A W' := ⟨Nat.le_trans h.1 hg.size, fun b h1 h2 => (hg.block b (by have := h.1; omega) (by simp; omega)).trans (h.2 b h1 h2)⟩
theorem Kr.far {bx : Nat} {A W W' : World} {row : Option Nat} (h : Kr bx A W) (hg : W.grownBy W' row) (hr : ∀ r, row = some r → A.heap.size ≤ r) : Kr bx A W' :=
  ⟨Nat.le_trans h.1 hg.size, fun b h1 h2 => (hg.block b (by have := h.1; omega) (fun e => by have := hr b e.symm; omega)).trans (h.2 b h1 h2)⟩
theorem Kr.boxed {bx : Nat} {A W : World} (h : Kr bx A W) {b : Nat} {t : TypeId} {v : Value} (hb : Boxed A b t v) (hlt : bx < b) : Boxed W b t v := (h.2 b hlt hb.lt).trans hb
theorem Kr.from {bx B : Nat} {A W : World} (h : Kr bx A W) (hB : bx < B) : KeepsFrom B A W := ⟨h.1, fun k o hk h1 _ => (h.2 k (by omega) (Array.getElem?_eq_some_iff.1 h1).1).trans h1⟩

theorem results_cell1 {P : Program} {fn : Func} {p : Tmp} {ty : TypeId} (h : fn.results = #[.cell p ty]) (tmps : Array Value) (w : World) (a : Addr) (v : Value)
    (hp : tmps.getD p undef = .pointer (some a)) (hl : (loadVar ty a).run P w = .ok v w) : (results fn tmps).run P w = .ok v w := by
  have hp' : tmps[p]?.getD undef = .pointer (some a) := by simpa using hp
  simp [results, h, hp', asAddr, hl]
theorem load_bool (w : World) (g : Nat) (b : Bool) (h : Boxed w g 4 (.bool b)) : (loadVar 4 ⟨g, 0, none⟩).run Try.prog w = .ok (.bool b) w := by
  have hc := h.cell
  go_simp

end Go.Proofs.Ytelglccegkhfcaa

/-! The tuples of the program's propagator: all that begin with p. -/
namespace Go.Proofs.Ytelglccegkhfcaa
open Go.ChangeShapes Go.WideShapes Go.ChangeAt Go.RowKit Go.Shelf
set_option linter.unusedVariables false
set_option linter.unusedSimpArgs false

attribute [local go_sem] Oper.semAt_some

theorem exec_load {P : Program} {w : World} {ev : Operand → Value} {o : Oper} {ty : TypeId} {x : Operand} {ad : Addr} {v : Value} (ho : o.op = .load ty x) (hx : ev x = .pointer (some ad)) (hl : (loadVar ty ad).run P w = .ok v w) : (execOp ev o).run P w = .ok (.value v) w := by
  unfold execOp
  simp only [ho, hx, Instr.loadAt, Instr.sureAddr, Sem.run_bind, Sem.run_pure, Result.andThen_ok, hl]
theorem load_ints (w : World) (g : Nat) (a : Option Addr) (n c : Nat) (h : Boxed w g 29 (.slice a n c)) : (loadVar 29 ⟨g, 0, none⟩).run Try.prog w = .ok (.slice a n c) w := by
  have hc := h.cell
  go_simp
theorem load_yield (w : World) (g l : Nat) (h : Boxed w g 106 (.func (.yield l) #[] #[])) : (loadVar 106 ⟨g, 0, none⟩).run Try.prog w = .ok (.func (.yield l) #[] #[]) w := by
  have hc := h.cell
  go_simp

theorem step_append_fits {P : Program} (w : World) {ops : Array Oper} {o : Oper} {a : Act} {K : Act → World → Prop} {Q : Exit → Act → World → Prop} {E : Prop} (hgd : o.guard = none) (s x : Operand) (t : TypeId)
    (ho : o.op = .call { callee := .builtin .append, args := #[s, x], argTypes := #[t, t] })
    (base : Nat) (e : TypeId) (i : TypeInfo) (size : Nat) (h1 : P.underlying t = some (.slice e)) (h2 : P.info? e = some i) (h4 : i.size = size)
    (g k cap : Nat) (xs : List Value) (hs : a.eval s = .slice (some ⟨g, 0, none⟩) k cap) (hown : w.ownsRow base e size (.slice (some ⟨g, 0, none⟩) k cap) k xs) (ad : Addr) (m c : Nat) (news : List Value) (hx : a.eval x = .slice (some ad) m c) (hn : news.length = m * size)
    (hc : ∀ j u, news[j]? = some u → w.cell? (ad.add j) = some u) (h1c : ∀ u ∈ news, u.oneCell' = true) (b1 : k + m ≤ cap)
    (hK : ∀ w', w'.ownsRow base e size (.slice (some ⟨g, 0, none⟩) (k + m) cap) (k + m) (xs ++ news) → w.grownBy w' (some g) → K (a.put o.dst (.slice (some ⟨g, 0, none⟩) (k + m) cap)) w') :
    if Region.wanted o (yielded ops a.tmps) = true then Oper.wp P o a w K Q else E := by
  have hw : Region.wanted o (yielded ops a.tmps) = true := by simp [Region.wanted, hgd]
  rw [if_pos hw]
  obtain ⟨w', hrun, r1, r2⟩ := run_append_fits (P := P) w base t o.type e i size h1 h2 h4 g k cap xs hown ad m c news hn hc h1c b1
  unfold Oper.wp
  simp [execOp, ho, resolve, invoke, builtin, hs, hx, hrun, Result.andThen]
  exact hK w' r1 r2

theorem step_call4 {P : Program} (w : World) {ops : Array Oper} {o : Oper} {a : Act} {K : Act → World → Prop} {Q : Exit → Act → World → Prop} {E : Prop} (hgd : o.guard = none) (F : FuncId) (x0 x1 x2 x3 : Operand) (v0 v1 v2 v3 : Value) (ts : Array TypeId)
    (ho : o.op = .call { callee := .value (.func F), args := #[x0, x1, x2, x3], argTypes := ts }) (h0 : a.eval x0 = v0) (h1 : a.eval x1 = v1) (h2 : a.eval x2 = v2) (h3 : a.eval x3 = v3) (eg : ∀ gs w, (callFunc F gs).run P w = .ok (.enter F gs) w)
    (R : Ending → World → Prop) (h : Calls P F #[v0, v1, v2, v3] w R) (hR : ∀ v w', R (.returned v) w' → K (a.put o.dst v) w') (hp : ∀ c w', ¬ R (.panicked c) w') (hou : ∀ w', ¬ R .outgrown w') :
    if Region.wanted o (yielded ops a.tmps) = true then Oper.wp P o a w K Q else E := by
  have hw : Region.wanted o (yielded ops a.tmps) = true := by simp [Region.wanted, hgd]
  rw [if_pos hw]
  have hrun : (execOp a.eval o).run P w = .ok (.enter F #[v0, v1, v2, v3]) w := by
    have hf : a.eval (.func F) = .func (.func F) #[] #[] := rfl
    simp [execOp, ho, resolve, invoke, eg, Deferred.ofValue, h0, h1, h2, h3, hf]
  unfold Oper.wp
  rw [hrun]
  refine Calls.mono h ?_
  intro e w' hr
  cases e with
  | returned v => exact hR v w' hr
  | panicked c => exact (hp c w' hr).elim
  | outgrown => exact (hou w' hr).elim

theorem alloc5 (W : World) (o0 o1 o2 o3 o4 : Obj) : let W0 := ((((W.alloc o0).alloc o1).alloc o2).alloc o3).alloc o4
    W0.heap.size = W.heap.size + 5 ∧ W0.heap[W.heap.size]? = some o0 ∧ W0.heap[W.heap.size + 1]? = some o1 ∧ W0.heap[W.heap.size + 2]? = some o2 ∧ W0.heap[W.heap.size + 3]? = some o3 ∧ W0.heap[W.heap.size + 4]? = some o4 := by
  show (((((W.heap.push o0).push o1).push o2).push o3).push o4).size = _ ∧ (((((W.heap.push o0).push o1).push o2).push o3).push o4)[W.heap.size]? = _ ∧ (((((W.heap.push o0).push o1).push o2).push o3).push o4)[W.heap.size + 1]? = _ ∧ (((((W.heap.push o0).push o1).push o2).push o3).push o4)[W.heap.size + 2]? = _ ∧ (((((W.heap.push o0).push o1).push o2).push o3).push o4)[W.heap.size + 3]? = _ ∧ (((((W.heap.push o0).push o1).push o2).push o3).push o4)[W.heap.size + 4]? = _
  simp only [Array.getElem?_push, Array.size_push]
  refine ⟨by first | trivial | omega, ?_, ?_, ?_, ?_, ?_⟩
  · rw [if_neg (by omega), if_neg (by omega), if_neg (by omega), if_neg (by omega), if_pos trivial]
  · rw [if_neg (by omega), if_neg (by omega), if_neg (by omega), if_pos trivial]
  · rw [if_neg (by omega), if_neg (by omega), if_pos trivial]
  · rw [if_neg (by omega), if_pos trivial]
  · rw [if_pos trivial]

end Go.Proofs.Ytelglccegkhfcaa

/-! The tuples of the program's propagator: all that begin with p, in their order. -/
namespace Go.Proofs.Ytelglccegkhfcaa
open Go.ChangeShapes Go.WideShapes Go.ChangeAt Go.RowKit Go.Shelf
set_option linter.unusedVariables false
set_option linter.unusedSimpArgs false
end Go.Proofs.Ytelglccegkhfcaa

/-! One step of a region that draws its order: an operation whose run is known. -/
namespace Go.Proofs.Ytelglccegkhfcaa
open Go.ChangeShapes Go.WideShapes Go.ChangeAt Go.RowKit Go.Shelf
set_option linter.unusedVariables false
set_option linter.unusedSimpArgs false

theorem step_value {P : Program} (w w' : World) {ops : Array Oper} {o : Oper} {a : Act} {K : Act → World → Prop} {Q : Exit → Act → World → Prop} {E : Prop} (hgd : o.guard = none) (v : Value)
    (hrun : (execOp a.eval o).run P w = .ok (.value v) w') (hK : K (a.put o.dst v) w') : if Region.wanted o (yielded ops a.tmps) = true then Oper.wp P o a w K Q else E := by
  have hw : Region.wanted o (yielded ops a.tmps) = true := by simp [Region.wanted, hgd]
  rw [if_pos hw]
  unfold Oper.wp
  rw [hrun]
  exact hK
theorem step_skip {P : Program} (w w' : World) {ops : Array Oper} {o : Oper} {a : Act} {K : Act → World → Prop} {Q : Exit → Act → World → Prop} {E : Prop} (hgd : o.guard = none)
    (hrun : (execOp a.eval o).run P w = .ok .skip w') (hK : K (a.put o.dst undef) w') : if Region.wanted o (yielded ops a.tmps) = true then Oper.wp P o a w K Q else E := by
  have hw : Region.wanted o (yielded ops a.tmps) = true := by simp [Region.wanted, hgd]
  rw [if_pos hw]
  unfold Oper.wp
  rw [hrun]
  exact hK
theorem load_int (w : World) (g j : Nat) (z : Int) (hc : w.cell? ⟨g, j, none⟩ = some (.int .i64 z)) : (loadVar 3 ⟨g, j, none⟩).run Try.prog w = .ok (.int .i64 z) w := by
  go_simp
theorem exec_store {P : Program} {w w' : World} {ev : Operand → Value} {o : Oper} {ty : TypeId} {x y : Operand} {v u : Value} (ho : o.op = .store ty x y) (hx : ev x = v) (hy : ev y = u) (hl : (Instr.storeAt ty v u).run P w = .ok () w') : (execOp ev o).run P w = .ok .skip w' := by
  unfold execOp
  simp only [ho, hx, hy, Sem.run_bind, Sem.run_pure, Result.andThen_ok, hl]
theorem store_int (w : World) (g j : Nat) (z y : Int) (hc : w.cell? ⟨g, j, none⟩ = some (.int .i64 z)) (hf : w.frozen? ⟨g, j, none⟩ = false) : (Instr.storeAt 3 (.pointer (some ⟨g, j, none⟩)) (.int .i64 y)).run Try.prog w = .ok () (w.setCell ⟨g, j, none⟩ (.int .i64 y)) := by
  go_simp
theorem exec_bin {P : Program} {w : World} {ev : Operand → Value} {o : Oper} {op : BinOp} {ty : TypeId} {x y : Operand} {c : TypeId} {u v r : Value} (ho : o.op = .binOp op ty x y c) (hx : ev x = u) (hy : ev y = v) (hl : (do eqGuard op ty x y u v; binOp op ty u v : Sem Value).run P w = .ok r w) : (execOp ev o).run P w = .ok (.value r) w := by
  unfold execOp
  simp only [ho, hx, hy]
  rw [Sem.run_bind, hl]
  rfl
theorem or_ints (w : World) (x y : Operand) (d m : Int) : (do eqGuard .or 3 x y (.int .i64 d) (.int .i64 m); binOp .or 3 (.int .i64 d) (.int .i64 m) : Sem Value).run Try.prog w = .ok (.int .i64 (bits .or .i64 d m)) w := by
  go_simp
theorem exec_index {P : Program} {w : World} {ev : Operand → Value} {o : Oper} {ty : TypeId} {x y : Operand} {u v r : Value} (ho : o.op = .indexAddr ty x y) (hx : ev x = u) (hy : ev y = v) (hl : (Instr.indexAt ty u v).run P w = .ok r w) : (execOp ev o).run P w = .ok (.value r) w := by
  unfold execOp
  simp only [ho, hx, hy, Sem.run_bind, Sem.run_pure, Result.andThen_ok, hl]
theorem index_ints (w : World) (b off n c j : Nat) (hj : j < n) : (Instr.indexAt 29 (.slice (some ⟨b, off, none⟩) n c) (.int .i64 j)).run Try.prog w = .ok (.pointer (some ⟨b, off + j, none⟩)) w := by
  go_simp
theorem index0_ints (w : World) (b n c j : Nat) (hj : j < n) : (Instr.indexAt 29 (.slice (some ⟨b, 0, none⟩) n c) (.int .i64 j)).run Try.prog w = .ok (.pointer (some ⟨b, j, none⟩)) w := by
  go_simp
end Go.Proofs.Ytelglccegkhfcaa
