/- The tuples of the program's propagator: one more variable, or a round at a whole tuple. The tuples of the program's propagator: all that begin with p. The tuples of the program's propagator: all that begin with p, in their order. One step of a region that draws its order: an operation whose run is known. -/
import Derived.Test.YtipapmmjfoaddaaTup
import Derived.Test.YtipapmmjfoaddaaRf
import Derived.Test.YtipapmmjfoaddaaSolA
import Derived.Deep.RegionHeld3

/-! The tuples of the program's propagator: one more variable, or a round at a whole tuple. -/
namespace Go.Proofs.Ytipapmmjfoaddaa
open Go.ChangeShapes Go.WideShapes Go.ChangeAt Go.RowKit Go.Shelf
set_option linter.unusedVariables false
set_option linter.unusedSimpArgs false

attribute [local go_sem] Oper.semAt_some

/-- The row that all tuples share, in block bx: it begins with p. -/
def XT (bx nv : Nat) (p : List Int) (W : World) : Prop := W.ownsRow bx 3 1 (.slice (some ⟨bx, 0, none⟩) p.length nv) p.length (p.map (Value.int .i64))
/-- The blocks above bx are as they were. -/
def Kr (bx : Nat) (W W' : World) : Prop := W.heap.size ≤ W'.heap.size ∧ ∀ b, bx < b → b < W.heap.size → W'.heap[b]? = W.heap[b]?
/-- The blocks from bx on are as they were. -/
def Kq (bx : Nat) (W W' : World) : Prop := W.heap.size ≤ W'.heap.size ∧ ∀ b, bx ≤ b → b < W.heap.size → W'.heap[b]? = W.heap[b]?
theorem XT.block {bx nv : Nat} {p : List Int} {W : World} (h : XT bx nv p W) : ∃ cur : Array Value, W.heap[bx]? = some (.cells cur 3 (0, 0)) ∧ p.length ≤ nv ∧ nv ≤ maxLen ∧ cur.size = nv ∧ cur.toList.take p.length = p.map (Value.int .i64) := by
  rcases h.2 with ⟨e, _⟩ | ⟨g, cap, cur, e, _, h1, h2, h3, h4, h5⟩
  · simp at e
  · simp at e
    obtain ⟨rfl, rfl⟩ := e
    exact ⟨cur, h1, h2, h3, by omega, by simpa using h5⟩
theorem XT.of_block {bx nv : Nat} {p : List Int} {W : World} {cur : Array Value} (h1 : W.heap[bx]? = some (.cells cur 3 (0, 0))) (h2 : p.length ≤ nv) (h3 : nv ≤ maxLen) (h4 : cur.size = nv) (h5 : cur.toList.take p.length = p.map (Value.int .i64)) : XT bx nv p W :=
  ⟨by simp, .inr ⟨bx, nv, cur, rfl, Nat.le_refl _, h1, h2, h3, by omega, by simpa using h5⟩⟩
theorem XT.lt {bx nv : Nat} {p : List Int} {W : World} (h : XT bx nv p W) : bx < W.heap.size := by
  obtain ⟨cur, h1, _⟩ := h.block
  exact (Array.getElem?_eq_some_iff.1 h1).1
theorem XT.keep {bx nv : Nat} {p : List Int} {W W' : World} (h : XT bx nv p W) (hk : W'.heap[bx]? = W.heap[bx]?) : XT bx nv p W' := by
  obtain ⟨cur, h1, h2, h3, h4, h5⟩ := h.block
  exact XT.of_block (hk.trans h1) h2 h3 h4 h5
theorem XT.take {bx nv : Nat} {p : List Int} {a : Int} {W : World} (h : XT bx nv (p ++ [a]) W) : XT bx nv p W := by
  obtain ⟨cur, h1, h2, h3, h4, h5⟩ := h.block
  simp at h2 h5
  refine XT.of_block h1 (by omega) h3 h4 ?_
  have := congrArg (List.take p.length) h5
  rw [List.take_take, Nat.min_eq_left (by omega)] at this
  rw [this]
  simp
theorem XT.rd {bx nv : Nat} {p : List Int} {W : World} (h : XT bx nv p W) : RdInts W (.slice (some ⟨bx, 0, none⟩) p.length nv) p := rdInts_of_own h
theorem Kq.kr {bx : Nat} {W W' : World} (h : Kq bx W W') : Kr bx W W' := ⟨h.1, fun b h1 h2 => h.2 b (by omega) h2⟩
theorem Kr.trans {bx : Nat} {A B C : World} (h : Kr bx A B) (k : Kr bx B C) : Kr bx A C := ⟨Nat.le_trans h.1 k.1, fun b h1 h2 => (k.2 b h1 (by have := h.1; omega)).trans (h.2 b h1 h2)⟩
theorem Kr.refl (bx : Nat) (W : World) : Kr bx W W := ⟨Nat.le_refl _, fun _ _ _ => rfl⟩
theorem Kr.alloc {bx : Nat} {A W : World} (h : Kr bx A W) (o : Obj) : Kr bx A (W.alloc o) := ⟨by have := h.1; simp; omega, fun b h1 h2 => (Below.heap_alloc _ _ _ (by have := h.1; omega)).trans (h.2 b h1 h2)⟩
theorem Kr.grown {bx : Nat} {A W W' : World} (h : Kr bx A W) (hg : W.grownBy W' (some bx)) : Kr bx A W' := ⟨Nat.le_trans h.1 hg.size, fun b h1 h2 => (hg.block b (by have := h.1; omega) (by simp; omega)).trans (h.2 b h1 h2)⟩
theorem Kr.far {bx : Nat} {A W W' : World} {row : Option Nat} (h : Kr bx A W) (hg : W.grownBy W' row) (hr : ∀ r, row = some r → A.heap.size ≤ r) : Kr bx A W' :=
  ⟨Nat.le_trans h.1 hg.size, fun b h1 h2 => (hg.block b (by have := h.1; omega) (fun e => by have := hr b e.symm; omega)).trans (h.2 b h1 h2)⟩
theorem Kr.boxed {bx : Nat} {A W : World} (h : Kr bx A W) {b : Nat} {t : TypeId} {v : Value} (hb : Boxed A b t v) (hlt : bx < b) : Boxed W b t v := (h.2 b hlt hb.lt).trans hb
theorem Kr.from {bx B : Nat} {A W : World} (h : Kr bx A W) (hB : bx < B) : KeepsFrom B A W := ⟨h.1, fun k o hk h1 _ => (h.2 k (by omega) (Array.getElem?_eq_some_iff.1 h1).1).trans h1⟩

theorem results_cell1 {P : Program} {fn : Func} {p : Tmp} {ty : TypeId} (h : fn.results = #[.cell p ty]) (tmps : Array Value) (w : World) (a : Addr) (v : Value)
    (hp : tmps.getD p undef = .pointer (some a)) (hl : (loadVar ty a).run P w = .ok v w) : (results fn tmps).run P w = .ok v w := by
  have hp' : tmps[p]?.getD undef = .pointer (some a) := by simpa using hp
  simp [results, h, hp', asAddr, hl]
theorem load_bool (w : World) (g : Nat) (b : Bool) (h : Boxed w g 4 (.bool b)) : (loadVar 4 ⟨g, 0, none⟩).run Try.prog w = .ok (.bool b) w := by
  have hc := h.cell
  go_simp

set_option maxRecDepth 100000 in
set_option maxHeartbeats 4000000 in
/-- A whole tuple: one round. -/
theorem ext_whole (l bx nv : Nat) (vv fv dv : Value) (ds : List Int) (vars t : List Int) (Jt Jx : World → Prop) (W : World)
    (hv : RdInts W vv vars) (hdv : RdInts W dv ds) (hn : vars.length = nv) (ht : t.length = nv) (hX : XT bx nv t W)
    (hJt : ∀ X Y, Jt X → Below bx X Y → Jt Y) (hJx : ∀ X Y, Jx X → Below bx X Y → Jx Y)
    (hY : ∀ W1, Below bx W W1 → XT bx nv t W1 → YieldAt Fence.wide 5 Try.prog l #[.slice (some ⟨bx, 0, none⟩) nv nv] W1 fun e W' => (e = .returned (.bool true) ∧ Jt W' ∧ Kq bx W1 W') ∨ (e = .returned (.bool false) ∧ Jx W' ∧ Kq bx W1 W')) :
    Calls Try.prog 147 #[.agg #[vv, fv], dv, .slice (some ⟨bx, 0, none⟩) nv nv, .func (.yield l) #[] #[]] W fun e W' =>
      (e = .returned (.bool true) ∧ Jt W' ∧ XT bx nv t W' ∧ Kr bx W W') ∨ (e = .returned (.bool false) ∧ Jx W' ∧ Kr bx W W') := by
  obtain ⟨av, cv, ev, -⟩ := id hv
  obtain ⟨ad, cd, ed, -⟩ := id hdv
  rw [ed]
  clear hdv ed
  rw [ev] at hv ⊢
  rw [hn] at hv ⊢
  have hcv := (rdInts_cap hv).2
  have hm := (rdInts_cap hX.rd).2
  have hbx := hX.lt
  rw [ht] at hm
  clear ev hv hn
  refine (callsIn_wide (n := 8)).1 ?_
  refine callsIn_of_wp_marks Try.func147 rfl trivial ?_ rfl
  simp only [Try.ntmps147, List.size_toArray, List.length_cons, List.length_nil, Nat.reduceAdd, Nat.reduceSub, Array.replicate_succ, Array.replicate_zero, List.push_toArray, List.append_toArray, List.nil_append, List.cons_append]
  have hd : ((nv : Int) == (nv : Int)) = true := by simp
  obtain ⟨W0, hW0⟩ : ∃ W0, ((((W.alloc (.cells #[.slice av nv cv, fv] 88)).alloc (.cells #[.slice ad ds.length cd] 22)).alloc (.cells #[.slice (some ⟨bx, 0, none⟩) nv nv] 22)).alloc (.cells #[.func (.yield l) #[] #[]] 50)).alloc (.cells #[.bool false] 4) = W0 := ⟨_, rfl⟩
  have b0 : Below W.heap.size W W0 := by rw [← hW0]; exact (((((Below.refl _ W).alloc (Nat.le_refl _) _).alloc (by simp) _).alloc (by simp; omega) _).alloc (by simp; omega) _).alloc (by simp; omega) _
  have hs0 : W0.heap.size = W.heap.size + 5 := by rw [← hW0]; simp
  have bR : Boxed W0 (W.heap.size + 4) 4 (.bool false) := by
    rw [← hW0]
    have := Boxed.new ((((W.alloc (.cells #[.slice av nv cv, fv] 88)).alloc (.cells #[.slice ad ds.length cd] 22)).alloc (.cells #[.slice (some ⟨bx, 0, none⟩) nv nv] 22)).alloc (.cells #[.func (.yield l) #[] #[]] 50)) 4 (.bool false)
    simpa using this
  have hX0 : XT bx nv t W0 := hX.keep (b0.block bx hbx)
  have hyy := yieldAt_wide (m' := 7) (hY W0 (b0.mono (by omega)) hX0)
  obtain ⟨fn, tmps, asg, bdy, hy, hR⟩ := hyy
  have bR' : Boxed W0 (W.heap.size + 1 + 1 + 1 + 1) 4 (.bool false) := bR
  subst hW0
  gi_wp2
  refine hR.mono ?_
  rintro e W' (⟨rfl, hj, hk⟩ | ⟨rfl, hj, hk⟩)
  all_goals
    have bR2 : Boxed W' (W.heap.size + 1 + 1 + 1 + 1) 4 (.bool false) := hk.kr.boxed bR' (by omega)
    have q := bR2.cell
    have f := bR2.frozen
    gi_wp2
  · have bR3 := bR2.set (.bool true)
    have hb3 : Below bx W' (W'.setCell ⟨W.heap.size + 1 + 1 + 1 + 1, 0, none⟩ (.bool true)) := (Below.refl _ _).setCell (by simp; omega) _
    refine ⟨_, results_cell1 rfl _ _ _ _ rfl (load_bool _ _ _ bR3), .inl ⟨rfl, hJt _ _ hj hb3, (hX0.keep (hk.2 bx (Nat.le_refl _) hX0.lt)).keep (Below.heap_setCell _ _ _ _ (by simp; omega)), ?_⟩⟩
    have k0 : Kr bx W W' := ⟨Nat.le_trans b0.size hk.1, fun b h1 h2 => (hk.2 b (by omega) (by have := b0.size; omega)).trans (b0.block b h2)⟩
    exact ⟨Nat.le_trans k0.1 hb3.size, fun b h1 h2 => (Below.heap_setCell _ _ _ _ (by simp; omega)).trans (k0.2 b h1 h2)⟩
  · have bR3 := bR2.set (.bool false)
    have hb3 : Below bx W' (W'.setCell ⟨W.heap.size + 1 + 1 + 1 + 1, 0, none⟩ (.bool false)) := (Below.refl _ _).setCell (by simp; omega) _
    refine ⟨_, results_cell1 rfl _ _ _ _ rfl (load_bool _ _ _ bR3), .inr ⟨rfl, hJx _ _ hj hb3, ?_⟩⟩
    have k0 : Kr bx W W' := ⟨Nat.le_trans b0.size hk.1, fun b h1 h2 => (hk.2 b (by omega) (by have := b0.size; omega)).trans (b0.block b h2)⟩
    exact ⟨Nat.le_trans k0.1 hb3.size, fun b h1 h2 => (Below.heap_setCell _ _ _ _ (by simp; omega)).trans (k0.2 b h1 h2)⟩
end Go.Proofs.Ytipapmmjfoaddaa

/-! The tuples of the program's propagator: all that begin with p. -/
namespace Go.Proofs.Ytipapmmjfoaddaa
open Go.ChangeShapes Go.WideShapes Go.ChangeAt Go.RowKit Go.Shelf
set_option linter.unusedVariables false
set_option linter.unusedSimpArgs false

attribute [local go_sem] Oper.semAt_some

theorem exec_load {P : Program} {w : World} {ev : Operand → Value} {o : Oper} {ty : TypeId} {x : Operand} {ad : Addr} {v : Value} (ho : o.op = .load ty x) (hx : ev x = .pointer (some ad)) (hl : (loadVar ty ad).run P w = .ok v w) : (execOp ev o).run P w = .ok (.value v) w := by
  unfold execOp
  simp only [ho, hx, Instr.loadAt, Instr.sureAddr, Sem.run_bind, Sem.run_pure, Result.andThen_ok, hl]
theorem load_ints (w : World) (g : Nat) (a : Option Addr) (n c : Nat) (h : Boxed w g 22 (.slice a n c)) : (loadVar 22 ⟨g, 0, none⟩).run Try.prog w = .ok (.slice a n c) w := by
  have hc := h.cell
  go_simp
theorem load_yield (w : World) (g l : Nat) (h : Boxed w g 50 (.func (.yield l) #[] #[])) : (loadVar 50 ⟨g, 0, none⟩).run Try.prog w = .ok (.func (.yield l) #[] #[]) w := by
  have hc := h.cell
  go_simp

theorem step_append_fits {P : Program} (w : World) {ops : Array Oper} {o : Oper} {a : Act} {K : Act → World → Prop} {Q : Exit → Act → World → Prop} {E : Prop} (hgd : o.guard = none) (s x : Operand) (t : TypeId)
    (ho : o.op = .call { callee := .builtin .append, args := #[s, x], argTypes := #[t, t] })
    (base : Nat) (e : TypeId) (i : TypeInfo) (size : Nat) (h1 : P.underlying t = some (.slice e)) (h2 : P.info? e = some i) (h4 : i.size = size)
    (g k cap : Nat) (xs : List Value) (hs : a.eval s = .slice (some ⟨g, 0, none⟩) k cap) (hown : w.ownsRow base e size (.slice (some ⟨g, 0, none⟩) k cap) k xs) (ad : Addr) (m c : Nat) (news : List Value) (hx : a.eval x = .slice (some ad) m c) (hn : news.length = m * size)
    (hc : ∀ j u, news[j]? = some u → w.cell? (ad.add j) = some u) (h1c : ∀ u ∈ news, u.oneCell' = true) (b1 : k + m ≤ cap)
    (hK : ∀ w', w'.ownsRow base e size (.slice (some ⟨g, 0, none⟩) (k + m) cap) (k + m) (xs ++ news) → w.grownBy w' (some g) → K (a.put o.dst (.slice (some ⟨g, 0, none⟩) (k + m) cap)) w') :
    if Region.wanted o (yielded ops a.tmps) = true then Oper.wp P o a w K Q else E := by
  have hw : Region.wanted o (yielded ops a.tmps) = true := by simp [Region.wanted, hgd]
  rw [if_pos hw]
  obtain ⟨w', hrun, r1, r2⟩ := run_append_fits (P := P) w base t o.type e i size h1 h2 h4 g k cap xs hown ad m c news hn hc h1c b1
  unfold Oper.wp
  simp [execOp, ho, resolve, invoke, builtin, hs, hx, hrun, Result.andThen]
  exact hK w' r1 r2

theorem step_call4 {P : Program} (w : World) {ops : Array Oper} {o : Oper} {a : Act} {K : Act → World → Prop} {Q : Exit → Act → World → Prop} {E : Prop} (hgd : o.guard = none) (F : FuncId) (x0 x1 x2 x3 : Operand) (v0 v1 v2 v3 : Value) (ts : Array TypeId)
    (ho : o.op = .call { callee := .value (.func F), args := #[x0, x1, x2, x3], argTypes := ts }) (h0 : a.eval x0 = v0) (h1 : a.eval x1 = v1) (h2 : a.eval x2 = v2) (h3 : a.eval x3 = v3) (eg : ∀ gs w, (callFunc F gs).run P w = .ok (.enter F gs) w)
    (R : Ending → World → Prop) (h : Calls P F #[v0, v1, v2, v3] w R) (hR : ∀ v w', R (.returned v) w' → K (a.put o.dst v) w') (hp : ∀ c w', ¬ R (.panicked c) w') (hou : ∀ w', ¬ R .outgrown w') :
    if Region.wanted o (yielded ops a.tmps) = true then Oper.wp P o a w K Q else E := by
  have hw : Region.wanted o (yielded ops a.tmps) = true := by simp [Region.wanted, hgd]
  rw [if_pos hw]
  have hrun : (execOp a.eval o).run P w = .ok (.enter F #[v0, v1, v2, v3]) w := by
    have hf : a.eval (.func F) = .func (.func F) #[] #[] := rfl
    simp [execOp, ho, resolve, invoke, eg, Deferred.ofValue, h0, h1, h2, h3, hf]
  unfold Oper.wp
  rw [hrun]
  refine Calls.mono h ?_
  intro e w' hr
  cases e with
  | returned v => exact hR v w' hr
  | panicked c => exact (hp c w' hr).elim
  | outgrown => exact (hou w' hr).elim

theorem alloc5 (W : World) (o0 o1 o2 o3 o4 : Obj) : let W0 := ((((W.alloc o0).alloc o1).alloc o2).alloc o3).alloc o4
    W0.heap.size = W.heap.size + 5 ∧ W0.heap[W.heap.size]? = some o0 ∧ W0.heap[W.heap.size + 1]? = some o1 ∧ W0.heap[W.heap.size + 2]? = some o2 ∧ W0.heap[W.heap.size + 3]? = some o3 ∧ W0.heap[W.heap.size + 4]? = some o4 := by
  show (((((W.heap.push o0).push o1).push o2).push o3).push o4).size = _ ∧ (((((W.heap.push o0).push o1).push o2).push o3).push o4)[W.heap.size]? = _ ∧ (((((W.heap.push o0).push o1).push o2).push o3).push o4)[W.heap.size + 1]? = _ ∧ (((((W.heap.push o0).push o1).push o2).push o3).push o4)[W.heap.size + 2]? = _ ∧ (((((W.heap.push o0).push o1).push o2).push o3).push o4)[W.heap.size + 3]? = _ ∧ (((((W.heap.push o0).push o1).push o2).push o3).push o4)[W.heap.size + 4]? = _
  simp only [Array.getElem?_push, Array.size_push]
  refine ⟨by first | trivial | omega, ?_, ?_, ?_, ?_, ?_⟩
  · rw [if_neg (by omega), if_neg (by omega), if_neg (by omega), if_neg (by omega), if_pos trivial]
  · rw [if_neg (by omega), if_neg (by omega), if_neg (by omega), if_pos trivial]
  · rw [if_neg (by omega), if_neg (by omega), if_pos trivial]
  · rw [if_neg (by omega), if_pos trivial]
  · rw [if_pos trivial]

set_option maxRecDepth 100000 in
set_option maxHeartbeats 4000000 in
/-- One variable more. -/
theorem ext_more (l bx nv : Nat) (vv fv dv : Value) (ds vars p : List Int) (d : Int) (z : Nat) (I : Nat → World → Prop) (Jx : World → Prop) (W : World)
    (hv : RdInts W vv vars) (hdv : RdInts W dv ds) (hn : vars.length = nv) (hn4 : nv ≤ 4) (hp : p.length < nv) (hX : XT bx nv p W)
    (hz : vars[p.length]?.getD 0 = (z : Int)) (hzl : z < ds.length) (hdz : ds[z]?.getD 0 = d) (h1 : 0 ≤ d) (h2 : d ≤ 63)
    (hI : ∀ k X Y, I k X → Below bx X Y → I k Y) (hJx : ∀ X Y, Jx X → Below bx X Y → Jx Y) (h0 : I 0 W)
    (hskip : ∀ (k : Nat) X, k < 6 → hasB d k = false → I k X → I (k + 1) X)
    (hcall : ∀ (k : Nat) X, k < 6 → hasB d k = true → I k X → XT bx nv (p ++ [(k : Int)]) X →
      Calls Try.prog 147 #[.agg #[vv, fv], dv, .slice (some ⟨bx, 0, none⟩) (p.length + 1) nv, .func (.yield l) #[] #[]] X fun e X' =>
        (e = .returned (.bool true) ∧ I (k + 1) X' ∧ XT bx nv (p ++ [(k : Int)]) X' ∧ Kr bx X X') ∨ (e = .returned (.bool false) ∧ Jx X' ∧ Kr bx X X')) :
    Calls Try.prog 147 #[.agg #[vv, fv], dv, .slice (some ⟨bx, 0, none⟩) p.length nv, .func (.yield l) #[] #[]] W fun e W' =>
      (e = .returned (.bool true) ∧ I 6 W' ∧ XT bx nv p W' ∧ Kr bx W W') ∨ (e = .returned (.bool false) ∧ Jx W' ∧ Kr bx W W') := by
  obtain ⟨i0, hi0, hz0, hz1, hz2⟩ := info_parts Try.info3
  obtain ⟨av, cv, ev, -⟩ := id hv
  obtain ⟨ad, cd, ed, -⟩ := id hdv
  rw [ed] at hdv hcall ⊢
  rw [ev] at hv hcall ⊢
  rw [hn] at hv hcall ⊢
  obtain ⟨q, hq⟩ : ∃ q, q = p.length := ⟨_, rfl⟩
  obtain ⟨nd, hnd⟩ : ∃ nd, nd = ds.length := ⟨_, rfl⟩
  have hcv := (rdInts_cap hv).2
  have hcd := (rdInts_cap hdv).2
  have hm := (rdInts_cap hX.rd).2
  have hbx := hX.lt
  obtain ⟨bv, ov, rfl, c1⟩ := rdInts_at hv (by rw [← hq] at hp; exact hp)
  rw [← hq] at hz
  rw [hz] at c1
  obtain ⟨bd, od, rfl, c2⟩ := rdInts_at hdv hzl
  rw [hdz] at c2
  rw [← hnd] at hcd hcall hzl ⊢
  rw [← hq] at hm hp hcall ⊢
  have HQ := Lib.hid hq
  have HND := Lib.hid hnd
  clear ev ed hv hdv hn hq hnd hz hdz
  have hbv := World.block_lt_of_cell? W _ c1
  have hbd := World.block_lt_of_cell? W _ c2
  simp at hbv hbd
  obtain ⟨W0, hW0⟩ : ∃ W0, ((((W.alloc (.cells #[.slice (some ⟨bv, ov, none⟩) nv cv, fv] 88)).alloc (.cells #[.slice (some ⟨bd, od, none⟩) nd cd] 22)).alloc (.cells #[.slice (some ⟨bx, 0, none⟩) q nv] 22)).alloc (.cells #[.func (.yield l) #[] #[]] 50)).alloc (.cells #[.bool false] 4) = W0 := ⟨_, rfl⟩
  obtain ⟨B, hB⟩ : ∃ B, B = W.heap.size := ⟨_, rfl⟩
  have b0 : Below W.heap.size W W0 := by rw [← hW0]; exact (((((Below.refl _ W).alloc (Nat.le_refl _) _).alloc (by simp) _).alloc (by simp; omega) _).alloc (by simp; omega) _).alloc (by simp; omega) _
  have h5 := alloc5 W (.cells #[.slice (some ⟨bv, ov, none⟩) nv cv, fv] 88) (.cells #[.slice (some ⟨bd, od, none⟩) nd cd] 22) (.cells #[.slice (some ⟨bx, 0, none⟩) q nv] 22) (.cells #[.func (.yield l) #[] #[]] 50) (.cells #[.bool false] 4)
  simp only [hW0] at h5
  obtain ⟨hs0, q0, bD, bX, bY, bR⟩ := h5
  have bD : Boxed W0 (W.heap.size + 1) 22 (.slice (some ⟨bd, od, none⟩) nd cd) := bD
  have bX : Boxed W0 (W.heap.size + 1 + 1) 22 (.slice (some ⟨bx, 0, none⟩) q nv) := bX
  have bY : Boxed W0 (W.heap.size + 1 + 1 + 1) 50 (.func (.yield l) #[] #[]) := bY
  have bR : Boxed W0 (W.heap.size + 1 + 1 + 1 + 1) 4 (.bool false) := bR
  have k0 : W0.cell? ⟨W.heap.size, 0, none⟩ = some (.slice (some ⟨bv, ov, none⟩) nv cv) := by simp [World.cell?, q0]
  have k1 : W0.cell? ⟨W.heap.size, 1, none⟩ = some fv := by simp [World.cell?, q0]
  have kD := bD.cell
  have kX := bX.cell
  have kY := bY.cell
  have e1 := (b0.cell (p := ⟨bv, ov + q, none⟩) hbv).trans c1
  have e2 := (b0.cell (p := ⟨bd, od + z, none⟩) hbd).trans c2
  refine (callsIn_wide (n := 8)).1 ?_
  refine callsIn_of_wp_marks Try.func147 rfl trivial ?_ rfl
  simp only [Try.ntmps147, List.size_toArray, List.length_cons, List.length_nil, Nat.reduceAdd, Nat.reduceSub, Array.replicate_succ, Array.replicate_zero, List.push_toArray, List.append_toArray, List.nil_append, List.cons_append]
  have hd : ((q : Int) == (nv : Int)) = false := by simp; omega
  gi_wp2
  refine wpIn_wide.2 ?_
  go_region_held3 (fun w' => w'.cell? ⟨W.heap.size, 0, none⟩ = some (.slice (some ⟨bv, ov, none⟩) nv cv) ∧ w'.cell? ⟨W.heap.size + 1, 0, none⟩ = some (.slice (some ⟨bd, od, none⟩) nd cd) ∧ w'.cell? ⟨W.heap.size + 1 + 1, 0, none⟩ = some (.slice (some ⟨bx, 0, none⟩) q nv) ∧ w'.cell? ⟨bv, ov + q, none⟩ = some (.int .i64 z) ∧ w'.cell? ⟨bd, od + z, none⟩ = some (.int .i64 d)) (first | go_keep | exact ⟨y0, y1, y2, y3, y4⟩) ((go_at_call 61; refine (callsIn_wide.1 (values_in 8 _ _)).mono ?_; rintro e w' ⟨rfl, rfl⟩))
  obtain ⟨V, hV⟩ : ∃ V, (W0.alloc (.cells #[.int .i64 d] 92)).drew = V := ⟨_, rfl⟩
  have sV : V.heap.size = W.heap.size + 6 := by rw [← hV]; show (W0.alloc _).heap.size = _; rw [World.size_alloc, hs0]
  have bV0 : Below W0.heap.size W0 V := by rw [← hV]; exact ((Below.refl _ _).alloc (Nat.le_refl _) _).drew
  have bV : Below W.heap.size W V := b0.trans (bV0.mono b0.size)
  have bB : Boxed V (W.heap.size + 5) 92 (.int .i64 d) := by
    have := Boxed.new W0 92 (.int .i64 d)
    rw [hs0] at this; rw [← hV]; exact this
  have q0V := (bV0.block W.heap.size (by omega)).trans q0
  have bDV : Boxed V (W.heap.size + 1) 22 (.slice (some ⟨bd, od, none⟩) nd cd) := (bV0.block _ (by omega)).trans bD
  have bXV : Boxed V (W.heap.size + 1 + 1) 22 (.slice (some ⟨bx, 0, none⟩) q nv) := (bV0.block _ (by omega)).trans bX
  have bYV : Boxed V (W.heap.size + 1 + 1 + 1) 50 (.func (.yield l) #[] #[]) := (bV0.block _ (by omega)).trans bY
  have bRV : Boxed V (W.heap.size + 1 + 1 + 1 + 1) 4 (.bool false) := (bV0.block _ (by omega)).trans bR
  have hXV := hX.keep (bV.block bx hbx)
  have hIV := hI 0 W V h0 (bV.mono (by omega))
  have kV : Kr bx W V := ⟨bV.size, fun b _ h => bV.block b h⟩
  rw [hV]
  clear hV hs0 q0 bD bX bY bR k0 k1 kD kX kY e1 e2 b0 hW0 bV0
  have HSV := Lib.hid sV
  have HBX := Lib.hid hbx
  gi_wp2
  refine rf_values (Bs := W.heap.size + 5) (d := d) (by omega) rfl h1 h2 rfl
    (fun k X => I k X ∧ XT bx nv p X ∧ Kr bx V X)
    (fun c k X => c = .ret ∧ Jx X ∧ Boxed X (W.heap.size + 1 + 1 + 1 + 1) 4 (.bool false) ∧ Kr bx W X ∧ V.heap.size ≤ X.heap.size) ?_ ?_ (fun k X h => (h.2.2.boxed bB (by omega)).cell) ?_ ⟨hIV, hXV, Kr.refl _ _⟩
    (fun k => { tmps := #[.agg #[.slice (some ⟨bv, ov, none⟩) nv cv, fv], .slice (some ⟨bd, od, none⟩) nd cd, .slice (some ⟨bx, 0, none⟩) q nv, .func (.yield l) #[] #[], .pointer (some ⟨W.heap.size, 0, none⟩), .pointer (some ⟨W.heap.size + 1, 0, none⟩), .pointer (some ⟨W.heap.size + 1 + 1, 0, none⟩), .pointer (some ⟨W.heap.size + 1 + 1 + 1, 0, none⟩), .pointer (some ⟨W.heap.size + 1 + 1 + 1 + 1, 0, none⟩), .int .i64 k,
      .slice (some ⟨bx, 0, none⟩) q nv, .int .i64 q, .pointer (some ⟨W.heap.size, 0, none⟩), .slice (some ⟨bv, ov, none⟩) nv cv, .int .i64 nv, .bool false, undef, undef, undef, .slice (some ⟨bd, od, none⟩) nd cd, .pointer (some ⟨W.heap.size, 0, none⟩), .slice (some ⟨bv, ov, none⟩) nv cv, .slice (some ⟨bx, 0, none⟩) q nv, .int .i64 q, .pointer (some ⟨bv, ov + q, none⟩), .int .i64 z, .pointer (some ⟨bd, od + z, none⟩), .int .i64 d,
      .func (.func 86) #[] #[.pointer (some ⟨W.heap.size + 5, 0, none⟩)], .int .i64 k, undef, undef, undef, undef, undef, undef, undef, undef, undef], defers := [] }) ?_ ?_ ?_ ?_
  · rintro s X Y row ⟨hs, hsx, hsk⟩ hg hr
    have hr' : ∀ r, row = some r → V.heap.size ≤ r := fun r e => (hr r e).1
    have hb : Below V.heap.size X Y := (Below.refl _ X).grown hg hsk.1 hr'
    exact ⟨hI _ _ _ hs (hb.mono (by omega)), hsx.keep (hb.block bx (by omega)), hsk.far hg hr'⟩
  · rintro c s X Y row ⟨hc, hs, hsb, hsk, hsz⟩ hg hr
    have hr' : ∀ r, row = some r → V.heap.size ≤ r := fun r e => (hr r e).1
    have hb : Below V.heap.size X Y := (Below.refl _ X).grown hg hsz hr'
    exact ⟨hc, hJx _ _ hs (hb.mono (by omega)), (hb.block _ (by omega)).trans hsb, hsk.far hg (fun r e => by have := hr' r e; omega), Nat.le_trans hsz hb.size⟩
  · rintro k X hk hh ⟨hs, hsx, hsk⟩
    exact ⟨hskip k X hk hh hs, hsx, hsk⟩
  · intro l' k X K hK
    gi_wp2
    exact hK
  · rintro l' k X hl' ⟨r, hr⟩ hk hh ⟨hi, hx, hkr⟩
    have qX := (hkr.2 W.heap.size (by omega) (by omega)).trans q0V
    have dX := hkr.boxed bDV (by omega)
    have xX := hkr.boxed bXV (by omega)
    have yX := hkr.boxed bYV (by omega)
    have rX := hkr.boxed bRV (by omega)
    gi_wp2
    refine region_round (fun w' => w'.heap[W.heap.size]? = some (.cells #[.slice (some ⟨bv, ov, none⟩) nv cv, fv] 88) ∧ Boxed w' (W.heap.size + 1) 22 (.slice (some ⟨bd, od, none⟩) nd cd) ∧ Boxed w' (W.heap.size + 1 + 1) 22 (.slice (some ⟨bx, 0, none⟩) q nv) ∧ Boxed w' (W.heap.size + 1 + 1 + 1) 50 (.func (.yield l) #[] #[])) (by kernel_rfl) (by kernel_rfl) ?_ ⟨qX, dX, xX, yX⟩ (fun hS => ?_)
    · rintro ⟨a, w', h⟩
      exact h
    refine wpAnyH_take (i := 0) (v := .agg #[.slice (some ⟨bv, ov, none⟩) nv cv, fv]) rfl (by kernel_rfl) (by kernel_rfl) (by kernel_rfl) (fun _ _ _ h => h) (.inl ⟨rfl, fun w' hw' => exec_load rfl rfl (run_loadVar_row w' _ _ _ _ _ _ hw'.1 Try.underlying88 rfl (by kernel_rfl))⟩) hS ?_
    refine wpAnyH_take (i := 1) (v := .slice (some ⟨bd, od, none⟩) nd cd) rfl (by kernel_rfl) (by kernel_rfl) (by kernel_rfl) (fun _ _ _ h => h) (.inl ⟨rfl, fun w' hw' => exec_load rfl rfl (load_ints w' _ _ _ _ hw'.2.1)⟩) hS ?_
    refine wpAnyH_take (i := 2) (v := .slice (some ⟨bx, 0, none⟩) q nv) rfl (by kernel_rfl) (by kernel_rfl) (by kernel_rfl) (fun _ _ _ h => h) (.inl ⟨rfl, fun w' hw' => exec_load rfl rfl (load_ints w' _ _ _ _ hw'.2.2.1)⟩) hS ?_
    refine wpAnyH_take (i := 3) (v := .int .i64 k) rfl (by kernel_rfl) (by kernel_rfl) (by kernel_rfl) (fun _ _ _ h => h) (.inl ⟨rfl, fun w' hw' => rfl⟩) hS ?_
    refine wpAnyH_take (i := 6) (v := .func (.yield l) #[] #[]) rfl (by kernel_rfl) (by kernel_rfl) (by kernel_rfl) (fun _ _ _ h => h) (.inl ⟨rfl, fun w' hw' => exec_load rfl rfl (load_yield w' _ _ hw'.2.2.2)⟩) hS ?_
    change wpAnyH Try.prog .any _ _ _ 4 _ { tmps := #[.agg #[.slice (some ⟨bv, ov, none⟩) nv cv, fv], .slice (some ⟨bd, od, none⟩) nd cd, .slice (some ⟨bx, 0, none⟩) q nv, .func (.yield l) #[] #[], .pointer (some ⟨W.heap.size, 0, none⟩), .pointer (some ⟨W.heap.size + 1, 0, none⟩), .pointer (some ⟨W.heap.size + 1 + 1, 0, none⟩), .pointer (some ⟨W.heap.size + 1 + 1 + 1, 0, none⟩), .pointer (some ⟨W.heap.size + 1 + 1 + 1 + 1, 0, none⟩), .int .i64 k,
      .slice (some ⟨bx, 0, none⟩) q nv, .int .i64 q, .pointer (some ⟨W.heap.size, 0, none⟩), .slice (some ⟨bv, ov, none⟩) nv cv, .int .i64 nv, .bool false, undef, undef, undef, .slice (some ⟨bd, od, none⟩) nd cd, .pointer (some ⟨W.heap.size, 0, none⟩), .slice (some ⟨bv, ov, none⟩) nv cv, .slice (some ⟨bx, 0, none⟩) q nv, .int .i64 q, .pointer (some ⟨bv, ov + q, none⟩), .int .i64 z, .pointer (some ⟨bd, od + z, none⟩), .int .i64 d,
      .func (.func 86) #[] #[.pointer (some ⟨W.heap.size + 5, 0, none⟩)], .int .i64 k, .agg #[.slice (some ⟨bv, ov, none⟩) nv cv, fv], .slice (some ⟨bd, od, none⟩) nd cd, .slice (some ⟨bx, 0, none⟩) q nv, .int .i64 k, undef, undef, .func (.yield l) #[] #[], undef, undef], defers := [] } X.drew
    refine wpAnyH_ready (rs := [4]) (by kernel_rfl) (by simp) (AllReadyH.cons rfl (fun K' hK' => ?_) AllReadyH.nil)
    simp only [List.getElem_toArray, List.getElem_cons_succ, List.getElem_cons_zero]
    go_wp2
    obtain ⟨X1, hX1⟩ : ∃ X1, (X.alloc (.cells #[.int .i64 k] 3)).drew = X1 := ⟨_, rfl⟩
    have b1 : Below X.heap.size X X1 := by rw [← hX1]; exact ((Below.refl _ _).alloc (Nat.le_refl _) _).drew
    have c1 : ∀ j u, [Value.int .i64 k][j]? = some u → X1.cell? ((⟨X.heap.size, 0, none⟩ : Addr).add j) = some u := by rw [← hX1]; exact cell_one_new X _ _
    have k1 : Kr bx X X1 := ⟨b1.size, fun b _ h => b1.block b h⟩
    have hx1 : XT bx nv p X1 := hx.keep (b1.block bx hx.lt)
    rw [hX1]
    clear hX1
    refine hK'.out _ _ ⟨(k1.2 _ (by omega) (by have := hkr.1; omega)).trans qX, k1.boxed dX (by omega), k1.boxed xX (by omega), k1.boxed yX (by omega)⟩ (fun hS1 => ?_)
    clear hK' K'
    refine wpAnyH_ready (rs := [5]) (by kernel_rfl) (by simp) (AllReadyH.cons rfl (fun K' hK' => ?_) AllReadyH.nil)
    refine step_append_fits X1 rfl (.tmp 32) (.tmp 34) 22 rfl bx 3 i0 1 Try.underlying22 hi0 hz1 bx q nv (p.map (Value.int .i64)) rfl (by rw [HQ.out]; exact hx1) ⟨X.heap.size, 0, none⟩ 1 1 [.int .i64 k] rfl rfl c1 (by simp [Value.oneCell']) (by omega) ?_
    intro X2 hown2 hg2
    have hx2 : XT bx nv (p ++ [(k : Int)]) X2 := by unfold XT; rw [List.length_append, List.map_append, ← HQ.out]; exact hown2
    have k2 : Kr bx X X2 := k1.grown hg2
    have b2 : Below bx X X2 := (b1.mono (by have := hx.lt; omega)).grown hg2 (by have := hx1.lt; omega) (fun r e => by cases e; omega)
    have hi2 := hI _ _ _ hi b2
    clear hown2 hg2 c1 b1 k1 hx1
    refine hK'.out _ _ ⟨(k2.2 _ (by omega) (by have := hkr.1; omega)).trans qX, k2.boxed dX (by omega), k2.boxed xX (by omega), k2.boxed yX (by omega)⟩ (fun hS2 => ?_)
    clear hK' K'
    change wpAnyH Try.prog .any _ _ _ 2 _ { tmps := #[.agg #[.slice (some ⟨bv, ov, none⟩) nv cv, fv], .slice (some ⟨bd, od, none⟩) nd cd, .slice (some ⟨bx, 0, none⟩) q nv, .func (.yield l) #[] #[], .pointer (some ⟨W.heap.size, 0, none⟩), .pointer (some ⟨W.heap.size + 1, 0, none⟩), .pointer (some ⟨W.heap.size + 1 + 1, 0, none⟩), .pointer (some ⟨W.heap.size + 1 + 1 + 1, 0, none⟩), .pointer (some ⟨W.heap.size + 1 + 1 + 1 + 1, 0, none⟩), .int .i64 k,
      .slice (some ⟨bx, 0, none⟩) q nv, .int .i64 q, .pointer (some ⟨W.heap.size, 0, none⟩), .slice (some ⟨bv, ov, none⟩) nv cv, .int .i64 nv, .bool false, undef, undef, undef, .slice (some ⟨bd, od, none⟩) nd cd, .pointer (some ⟨W.heap.size, 0, none⟩), .slice (some ⟨bv, ov, none⟩) nv cv, .slice (some ⟨bx, 0, none⟩) q nv, .int .i64 q, .pointer (some ⟨bv, ov + q, none⟩), .int .i64 z, .pointer (some ⟨bd, od + z, none⟩), .int .i64 d,
      .func (.func 86) #[] #[.pointer (some ⟨W.heap.size + 5, 0, none⟩)], .int .i64 k, .agg #[.slice (some ⟨bv, ov, none⟩) nv cv, fv], .slice (some ⟨bd, od, none⟩) nd cd, .slice (some ⟨bx, 0, none⟩) q nv, .int .i64 k, .slice (some ⟨X.heap.size, 0, none⟩) 1 1, .slice (some ⟨bx, 0, none⟩) (q + 1) nv, .func (.yield l) #[] #[], undef, undef], defers := [] } X2
    refine wpAnyH_ready (rs := [7]) (by kernel_rfl) (by simp) (AllReadyH.cons rfl (fun K' hK' => ?_) AllReadyH.nil)
    refine step_call4 X2 rfl 147 (.tmp 30) (.tmp 31) (.tmp 35) (.tmp 36) _ _ _ _ _ rfl rfl rfl rfl rfl (enters_of Try.func147 (by kernel_rfl) rfl) _ (hcall k X2 hk hh hi2 hx2) ?_ (fun c w' h => by rcases h with ⟨h, _⟩ | ⟨h, _⟩ <;> cases h) (fun w' h => by rcases h with ⟨h, _⟩ | ⟨h, _⟩ <;> cases h)
    rintro v X3 hres
    have hk3 : Kr bx X2 X3 := hres.elim (fun h => h.2.2.2) (fun h => h.2.2)
    have kx := k2.trans hk3
    refine hK'.out _ _ ⟨(kx.2 _ (by omega) (by have := hkr.1; omega)).trans qX, kx.boxed dX (by omega), kx.boxed xX (by omega), kx.boxed yX (by omega)⟩ (fun hS3 => ?_)
    clear hK' K'
    rcases hres with ⟨hv, hi3, hx3, -⟩ | ⟨hv, hj3, -⟩
    · obtain rfl : v = .bool true := by cases hv; rfl
      refine wpAnyH_take (i := 8) (v := .bool false) rfl (by kernel_rfl) (by kernel_rfl) (by kernel_rfl) (fun _ _ _ h => h) (.inl ⟨rfl, fun w' hw' => rfl⟩) hS3 ?_
      refine wpAnyH_done (by kernel_rfl) ?_ _
      change Exit.then _ _ .normal { tmps := #[.agg #[.slice (some ⟨bv, ov, none⟩) nv cv, fv], .slice (some ⟨bd, od, none⟩) nd cd, .slice (some ⟨bx, 0, none⟩) q nv, .func (.yield l) #[] #[], .pointer (some ⟨W.heap.size, 0, none⟩), .pointer (some ⟨W.heap.size + 1, 0, none⟩), .pointer (some ⟨W.heap.size + 1 + 1, 0, none⟩), .pointer (some ⟨W.heap.size + 1 + 1 + 1, 0, none⟩), .pointer (some ⟨W.heap.size + 1 + 1 + 1 + 1, 0, none⟩), .int .i64 k,
      .slice (some ⟨bx, 0, none⟩) q nv, .int .i64 q, .pointer (some ⟨W.heap.size, 0, none⟩), .slice (some ⟨bv, ov, none⟩) nv cv, .int .i64 nv, .bool false, undef, undef, undef, .slice (some ⟨bd, od, none⟩) nd cd, .pointer (some ⟨W.heap.size, 0, none⟩), .slice (some ⟨bv, ov, none⟩) nv cv, .slice (some ⟨bx, 0, none⟩) q nv, .int .i64 q, .pointer (some ⟨bv, ov + q, none⟩), .int .i64 z, .pointer (some ⟨bd, od + z, none⟩), .int .i64 d,
      .func (.func 86) #[] #[.pointer (some ⟨W.heap.size + 5, 0, none⟩)], .int .i64 k, .agg #[.slice (some ⟨bv, ov, none⟩) nv cv, fv], .slice (some ⟨bd, od, none⟩) nd cd, .slice (some ⟨bx, 0, none⟩) q nv, .int .i64 k, .slice (some ⟨X.heap.size, 0, none⟩) 1 1, .slice (some ⟨bx, 0, none⟩) (q + 1) nv, .func (.yield l) #[] #[], .bool true, .bool false], defers := [] } X3
      gi_wp2
      exact ⟨kx.from (by omega), trivial, hi3, hx3.take, hkr.trans kx⟩
    · obtain rfl : v = .bool false := by cases hv; rfl
      refine wpAnyH_take (i := 8) (v := .bool true) rfl (by kernel_rfl) (by kernel_rfl) (by kernel_rfl) (fun _ _ _ h => h) (.inl ⟨rfl, fun w' hw' => rfl⟩) hS3 ?_
      refine wpAnyH_done (by kernel_rfl) ?_ _
      change Exit.then _ _ .normal { tmps := #[.agg #[.slice (some ⟨bv, ov, none⟩) nv cv, fv], .slice (some ⟨bd, od, none⟩) nd cd, .slice (some ⟨bx, 0, none⟩) q nv, .func (.yield l) #[] #[], .pointer (some ⟨W.heap.size, 0, none⟩), .pointer (some ⟨W.heap.size + 1, 0, none⟩), .pointer (some ⟨W.heap.size + 1 + 1, 0, none⟩), .pointer (some ⟨W.heap.size + 1 + 1 + 1, 0, none⟩), .pointer (some ⟨W.heap.size + 1 + 1 + 1 + 1, 0, none⟩), .int .i64 k,
      .slice (some ⟨bx, 0, none⟩) q nv, .int .i64 q, .pointer (some ⟨W.heap.size, 0, none⟩), .slice (some ⟨bv, ov, none⟩) nv cv, .int .i64 nv, .bool false, undef, undef, undef, .slice (some ⟨bd, od, none⟩) nd cd, .pointer (some ⟨W.heap.size, 0, none⟩), .slice (some ⟨bv, ov, none⟩) nv cv, .slice (some ⟨bx, 0, none⟩) q nv, .int .i64 q, .pointer (some ⟨bv, ov + q, none⟩), .int .i64 z, .pointer (some ⟨bd, od + z, none⟩), .int .i64 d,
      .func (.func 86) #[] #[.pointer (some ⟨W.heap.size + 5, 0, none⟩)], .int .i64 k, .agg #[.slice (some ⟨bv, ov, none⟩) nv cv, fv], .slice (some ⟨bd, od, none⟩) nd cd, .slice (some ⟨bx, 0, none⟩) q nv, .int .i64 k, .slice (some ⟨X.heap.size, 0, none⟩) 1 1, .slice (some ⟨bx, 0, none⟩) (q + 1) nv, .func (.yield l) #[] #[], .bool false, .bool true], defers := [] } X3
      have r3 := kx.boxed rX (by omega)
      have q3 := r3.cell
      have f3 := r3.frozen
      have hg4 := grownBy_setCell' X3 (W.heap.size + 1 + 1 + 1 + 1) (.bool false)
      have b4 : Below W.heap.size X3 (X3.setCell ⟨W.heap.size + 1 + 1 + 1 + 1, 0, none⟩ (.bool false)) := (Below.refl _ X3).setCell (by simp; omega) _
      have r4 := r3.set (.bool false)
      gi_wp2
      refine ⟨(kx.from (by omega)).trans (KeepsFrom.of_grownBy hg4 (fun j e => by cases e; omega)), rfl, hJx _ _ hj3 (b4.mono (by omega)), r4, ((kV.trans hkr).trans kx).far hg4 (fun r e => by cases e; omega), ?_⟩
      have e1 := kx.1
      have e2 := hkr.1
      have e3 := b4.size
      omega
  · rintro D X hD ⟨hi, hx, hkr⟩ hK
    have rX := hkr.boxed bRV (by omega)
    have q1 := rX.cell
    have f1 := rX.frozen
    have hg1 := grownBy_setCell' X (W.heap.size + 1 + 1 + 1 + 1) (.bool true)
    have hK1 := (hg1.block D (Array.getElem?_eq_some_iff.1 hK).1 (by simp; omega)).trans hK
    have rY := rX.set (.bool true)
    gi_wp2
    refine ⟨by simp, .inl ⟨_, _, rfl, run_takeDeferred hK1, ?_⟩⟩
    have hZ : ∀ (o' : Obj), Below bx X ((X.setCell ⟨W.heap.size + 1 + 1 + 1 + 1, 0, none⟩ (.bool true)).putObj D o') ∧ Kr bx W ((X.setCell ⟨W.heap.size + 1 + 1 + 1 + 1, 0, none⟩ (.bool true)).putObj D o') ∧ ((X.setCell ⟨W.heap.size + 1 + 1 + 1 + 1, 0, none⟩ (.bool true)).putObj D o').heap[bx]? = X.heap[bx]? ∧ Boxed ((X.setCell ⟨W.heap.size + 1 + 1 + 1 + 1, 0, none⟩ (.bool true)).putObj D o') (W.heap.size + 1 + 1 + 1 + 1) 4 (.bool true) := by
      intro o'
      have hg2 := grownBy_putObj' (X.setCell ⟨W.heap.size + 1 + 1 + 1 + 1, 0, none⟩ (.bool true)) D o'
      have hsX := hkr.1
      have b1 : Below W.heap.size X (X.setCell ⟨W.heap.size + 1 + 1 + 1 + 1, 0, none⟩ (.bool true)) := (Below.refl _ X).grown hg1 (by omega) (fun r e => by cases e; omega)
      have b2 := b1.grown hg2 (by have := b1.size; omega) (fun r e => by cases e; omega)
      exact ⟨b2.mono (by omega), ⟨Nat.le_trans (kV.trans hkr).1 b2.size, fun b h1 h2 => (b2.block b h2).trans ((kV.trans hkr).2 b h1 h2)⟩, b2.block bx hbx, rY.kept hg2 (by simp; omega)⟩
    exact ⟨_, results_cell1 rfl _ _ _ _ rfl (load_bool _ _ _ (hZ _).2.2.2), .inl ⟨rfl, hI _ _ _ hi (hZ _).1, hx.keep (hZ _).2.2.1, (hZ _).2.1⟩⟩
  · rintro D c k X hD hk ⟨rfl, hj, hb, hkr, hsz⟩ hK
    gi_wp2
    refine ⟨by simp, .inl ⟨_, _, rfl, run_takeDeferred hK, ?_⟩⟩
    have hZ : ∀ (o' : Obj), Below W.heap.size X (X.putObj D o') ∧ Boxed (X.putObj D o') (W.heap.size + 1 + 1 + 1 + 1) 4 (.bool false) := by
      intro o'
      have hg2 := grownBy_putObj' X D o'
      exact ⟨(Below.refl _ X).grown hg2 (by omega) (fun r e => by cases e; omega), hb.kept hg2 (by simp; omega)⟩
    exact ⟨_, results_cell1 rfl _ _ _ _ rfl (load_bool _ _ _ (hZ _).2), .inr ⟨rfl, hJx _ _ hj ((hZ _).1.mono (by omega)), Nat.le_trans hkr.1 (hZ _).1.size, fun b h1 h2 => ((hZ _).1.block b h2).trans (hkr.2 b h1 h2)⟩⟩
end Go.Proofs.Ytipapmmjfoaddaa

/-! The tuples of the program's propagator: all that begin with p, in their order. -/
namespace Go.Proofs.Ytipapmmjfoaddaa
open Go.ChangeShapes Go.WideShapes Go.ChangeAt Go.RowKit Go.Shelf
set_option linter.unusedVariables false
set_option linter.unusedSimpArgs false

theorem ext_all (l bx nv : Nat) (vv fv dv : Value) (ds vars : List Int) (hn : vars.length = nv) (hn4 : nv ≤ 4) (hds : Small ds 0 63) (hvr : Small vars 0 ((ds.length : Int) - 1))
    (J : List (List Int) → World → Prop) (Jx : World → Prop) (hJ : ∀ T X Y, J T X → Below bx X Y → J T Y) (hJx : ∀ X Y, Jx X → Below bx X Y → Jx Y)
    (hJr : ∀ T X, J T X → RdInts X vv vars ∧ RdInts X dv ds)
    (hY : ∀ T t W1, J T W1 → XT bx nv t W1 → t.length = nv → Small t 0 5 → YieldAt Fence.wide 5 Try.prog l #[.slice (some ⟨bx, 0, none⟩) nv nv] W1 fun e W' => (e = .returned (.bool true) ∧ J (T ++ [t]) W' ∧ Kq bx W1 W') ∨ (e = .returned (.bool false) ∧ Jx W' ∧ Kq bx W1 W')) :
    ∀ (vs p : List Int), vs = vars.drop p.length → p.length ≤ nv → Small p 0 5 → ∀ T W, J T W → XT bx nv p W →
      Calls Try.prog 147 #[.agg #[vv, fv], dv, .slice (some ⟨bx, 0, none⟩) p.length nv, .func (.yield l) #[] #[]] W fun e W' =>
        (e = .returned (.bool true) ∧ J (T ++ (tups ds vs).map (p ++ ·)) W' ∧ XT bx nv p W' ∧ Kr bx W W') ∨ (e = .returned (.bool false) ∧ Jx W' ∧ Kr bx W W') := by
  intro vs
  induction vs with
  | nil =>
    intro p hd hp hs T W hj hx
    have hpl : p.length = nv := by have := congrArg List.length hd; simp at this; omega
    obtain ⟨r1, r2⟩ := hJr T W hj
    have e : T ++ (tups ds []).map (p ++ ·) = T ++ [p] := by simp [tups]
    rw [e, hpl]
    exact ext_whole l bx nv vv fv dv ds vars p (J (T ++ [p])) Jx W r1 r2 hn hpl hx (fun X Y h b => hJ _ X Y h b) hJx (fun W1 b x => hY T p W1 (hJ T W W1 hj b) x hpl hs)
  | cons v vs ih =>
    intro p hd hp hs T W hj hx
    have hlt : p.length < vars.length := by
      have := congrArg List.length hd
      simp at this; omega
    have hdr := List.drop_eq_getElem_cons hlt
    rw [hdr] at hd
    obtain ⟨hv, hvs⟩ := List.cons.inj hd
    obtain ⟨g1, g2⟩ := hvr p.length hlt
    rw [List.getElem?_eq_getElem hlt, Option.getD_some, ← hv] at g1 g2
    obtain ⟨z, rfl⟩ := Int.eq_ofNat_of_zero_le g1
    have hzl : z < ds.length := by omega
    obtain ⟨d1, d2⟩ := hds z hzl
    obtain ⟨r1, r2⟩ := hJr T W hj
    have key := ext_more l bx nv vv fv dv ds vars p (ds[z]?.getD 0) z (fun k X => J (T ++ (vL (ds[z]?.getD 0) k).flatMap fun a => (tups ds vs).map (fun t => p ++ a :: t)) X) Jx W r1 r2 hn hn4 (by omega) hx
      (by rw [List.getElem?_eq_getElem hlt, Option.getD_some, ← hv]) hzl rfl d1 d2 (fun k X Y h b => hJ _ X Y h b) hJx (by simpa [vL] using hj)
      (fun k X hk hh h => by simpa [vL, hh] using h)
      (fun k X hk hh h hxk => by
        have hl1 : (p ++ [(k : Int)]).length = p.length + 1 := by simp
        have hsk : Small (p ++ [(k : Int)]) 0 5 := by
          intro j hj'
          rw [hl1] at hj'
          by_cases e : j < p.length
          · rw [List.getElem?_append_left e]; exact hs j e
          · obtain rfl : j = p.length := by omega
            simp; omega
        have i1 := ih (p ++ [(k : Int)]) (by rw [hl1]; exact hvs) (by rw [hl1]; omega) hsk _ X h hxk
        rw [hl1] at i1
        refine i1.mono ?_
        rintro e X' (⟨he, h1, h2⟩ | h2)
        · refine .inl ⟨he, ?_, h2⟩
          have e1 : (vL (ds[z]?.getD 0) (k + 1)).flatMap (fun a => (tups ds vs).map (fun t => p ++ a :: t)) = (vL (ds[z]?.getD 0) k).flatMap (fun a => (tups ds vs).map (fun t => p ++ a :: t)) ++ (tups ds vs).map ((p ++ [(k : Int)]) ++ ·) := by
            rw [vL, hh, List.flatMap_append]; simp
          show J (T ++ _) X'
          rw [e1, ← List.append_assoc]
          exact h1
        · exact .inr h2)
    refine key.mono ?_
    rintro e X' (⟨he, h1, h2⟩ | h2)
    · refine .inl ⟨he, ?_, h2⟩
      have e1 : (tups ds ((z : Int) :: vs)).map (p ++ ·) = (vL (ds[z]?.getD 0) 6).flatMap fun a => (tups ds vs).map (fun t => p ++ a :: t) := by
        rw [tups, List.map_flatMap]
        simp only [List.map_map]
        rfl
      rw [e1]
      exact h1
    · exact .inr h2
end Go.Proofs.Ytipapmmjfoaddaa

/-! One step of a region that draws its order: an operation whose run is known. -/
namespace Go.Proofs.Ytipapmmjfoaddaa
open Go.ChangeShapes Go.WideShapes Go.ChangeAt Go.RowKit Go.Shelf
set_option linter.unusedVariables false
set_option linter.unusedSimpArgs false

theorem step_value {P : Program} (w w' : World) {ops : Array Oper} {o : Oper} {a : Act} {K : Act → World → Prop} {Q : Exit → Act → World → Prop} {E : Prop} (hgd : o.guard = none) (v : Value)
    (hrun : (execOp a.eval o).run P w = .ok (.value v) w') (hK : K (a.put o.dst v) w') : if Region.wanted o (yielded ops a.tmps) = true then Oper.wp P o a w K Q else E := by
  have hw : Region.wanted o (yielded ops a.tmps) = true := by simp [Region.wanted, hgd]
  rw [if_pos hw]
  unfold Oper.wp
  rw [hrun]
  exact hK
theorem step_skip {P : Program} (w w' : World) {ops : Array Oper} {o : Oper} {a : Act} {K : Act → World → Prop} {Q : Exit → Act → World → Prop} {E : Prop} (hgd : o.guard = none)
    (hrun : (execOp a.eval o).run P w = .ok .skip w') (hK : K (a.put o.dst undef) w') : if Region.wanted o (yielded ops a.tmps) = true then Oper.wp P o a w K Q else E := by
  have hw : Region.wanted o (yielded ops a.tmps) = true := by simp [Region.wanted, hgd]
  rw [if_pos hw]
  unfold Oper.wp
  rw [hrun]
  exact hK
theorem load_int (w : World) (g j : Nat) (z : Int) (hc : w.cell? ⟨g, j, none⟩ = some (.int .i64 z)) : (loadVar 3 ⟨g, j, none⟩).run Try.prog w = .ok (.int .i64 z) w := by
  go_simp
theorem exec_store {P : Program} {w w' : World} {ev : Operand → Value} {o : Oper} {ty : TypeId} {x y : Operand} {v u : Value} (ho : o.op = .store ty x y) (hx : ev x = v) (hy : ev y = u) (hl : (Instr.storeAt ty v u).run P w = .ok () w') : (execOp ev o).run P w = .ok .skip w' := by
  unfold execOp
  simp only [ho, hx, hy, Sem.run_bind, Sem.run_pure, Result.andThen_ok, hl]
theorem store_int (w : World) (g j : Nat) (z y : Int) (hc : w.cell? ⟨g, j, none⟩ = some (.int .i64 z)) (hf : w.frozen? ⟨g, j, none⟩ = false) : (Instr.storeAt 3 (.pointer (some ⟨g, j, none⟩)) (.int .i64 y)).run Try.prog w = .ok () (w.setCell ⟨g, j, none⟩ (.int .i64 y)) := by
  go_simp
theorem exec_bin {P : Program} {w : World} {ev : Operand → Value} {o : Oper} {op : BinOp} {ty : TypeId} {x y : Operand} {c : TypeId} {u v r : Value} (ho : o.op = .binOp op ty x y c) (hx : ev x = u) (hy : ev y = v) (hl : (do eqGuard op ty x y u v; binOp op ty u v : Sem Value).run P w = .ok r w) : (execOp ev o).run P w = .ok (.value r) w := by
  unfold execOp
  simp only [ho, hx, hy]
  rw [Sem.run_bind, hl]
  rfl
theorem or_ints (w : World) (x y : Operand) (d m : Int) : (do eqGuard .or 3 x y (.int .i64 d) (.int .i64 m); binOp .or 3 (.int .i64 d) (.int .i64 m) : Sem Value).run Try.prog w = .ok (.int .i64 (bits .or .i64 d m)) w := by
  go_simp
theorem exec_index {P : Program} {w : World} {ev : Operand → Value} {o : Oper} {ty : TypeId} {x y : Operand} {u v r : Value} (ho : o.op = .indexAddr ty x y) (hx : ev x = u) (hy : ev y = v) (hl : (Instr.indexAt ty u v).run P w = .ok r w) : (execOp ev o).run P w = .ok (.value r) w := by
  unfold execOp
  simp only [ho, hx, hy, Sem.run_bind, Sem.run_pure, Result.andThen_ok, hl]
theorem index_ints (w : World) (b off n c j : Nat) (hj : j < n) : (Instr.indexAt 22 (.slice (some ⟨b, off, none⟩) n c) (.int .i64 j)).run Try.prog w = .ok (.pointer (some ⟨b, off + j, none⟩)) w := by
  go_simp
theorem index0_ints (w : World) (b n c j : Nat) (hj : j < n) : (Instr.indexAt 22 (.slice (some ⟨b, 0, none⟩) n c) (.int .i64 j)).run Try.prog w = .ok (.pointer (some ⟨b, j, none⟩)) w := by
  go_simp
end Go.Proofs.Ytipapmmjfoaddaa
