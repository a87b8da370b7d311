/- The tuples of the program's propagator: one more variable, or a round at a whole tuple. -/
import Derived.Test.YtkmdkbnphmadpaaTup
import Derived.Test.YtkmdkbnphmadpaaRfV
import Derived.Test.YtkmdkbnphmadpaaRgR
import Derived.Test.YtkmdkbnphmadpaaSolA
namespace Go.Proofs.Ytkmdkbnphmadpaa
open Go.ChangeShapes Go.WideShapes Go.ChangeAt Go.RowKit Go.Shelf
set_option linter.unusedVariables false
set_option linter.unusedSimpArgs false

attribute [local go_sem] Oper.semAt_some

/-- The row that all tuples share, in block bx: it begins with p. -/
def XT (bx nv : Nat) (p : List Int) (W : World) : Prop := W.ownsRow bx 3 1 (.slice (some ⟨bx, 0, none⟩) p.length nv) p.length (p.map (Value.int .i64))
/-- The blocks above bx are as they were. -/
def Kr (bx : Nat) (W W' : World) : Prop := W.heap.size ≤ W'.heap.size ∧ ∀ b, bx < b → b < W.heap.size → W'.heap[b]? = W.heap[b]?
/-- The blocks from bx on are as they were. -/
def Kq (bx : Nat) (W W' : World) : Prop := W.heap.size ≤ W'.heap.size ∧ ∀ b, bx ≤ b → b < W.heap.size → W'.heap[b]? = W.heap[b]?
theorem XT.block {bx nv : Nat} {p : List Int} {W : World} (h : XT bx nv p W) : ∃ cur : Array Value, W.heap[bx]? = some (.cells cur 3 (0, 0)) ∧ p.length ≤ nv ∧ nv ≤ maxLen ∧ cur.size = nv ∧ cur.toList.take p.length = p.map (Value.int .i64) := by
  rcases h.2 with ⟨e, _⟩ | ⟨g, cap, cur, e, _, h1, h2, h3, h4, h5⟩
  · simp at e
  · simp at e
    obtain ⟨rfl, rfl⟩ := e
    exact ⟨cur, h1, h2, h3, by omega, by simpa using h5⟩
theorem XT.of_block {bx nv : Nat} {p : List Int} {W : World} {cur : Array Value} (h1 : W.heap[bx]? = some (.cells cur 3 (0, 0))) (h2 : p.length ≤ nv) (h3 : nv ≤ maxLen) (h4 : cur.size = nv) (h5 : cur.toList.take p.length = p.map (Value.int .i64)) : XT bx nv p W :=
  ⟨by simp, .inr ⟨bx, nv, cur, rfl, Nat.le_refl _, h1, h2, h3, by omega, by simpa using h5⟩⟩
theorem XT.lt {bx nv : Nat} {p : List Int} {W : World} (h : XT bx nv p W) : bx < W.heap.size := by
  obtain ⟨cur, h1, _⟩ := h.block
  exact (Array.getElem?_eq_some_iff.1 h1).1
theorem XT.keep {bx nv : Nat} {p : List Int} {W W' : World} (h : XT bx nv p W) (hk : W'.heap[bx]? = W.heap[bx]?) : XT bx nv p W' := by
  obtain ⟨cur, h1, h2, h3, h4, h5⟩ := h.block
  exact XT.of_block (hk.trans h1) h2 h3 h4 h5
theorem XT.take {bx nv : Nat} {p : List Int} {a : Int} {W : World} (h : XT bx nv (p ++ [a]) W) : XT bx nv p W := by
  obtain ⟨cur, h1, h2, h3, h4, h5⟩ := h.block
  simp at h2 h5
  refine XT.of_block h1 (by omega) h3 h4 ?_
  have := congrArg (List.take p.length) h5
  rw [List.take_take, Nat.min_eq_left (by omega)] at this
  rw [this]
  simp
theorem XT.rd {bx nv : Nat} {p : List Int} {W : World} (h : XT bx nv p W) : RdInts W (.slice (some ⟨bx, 0, none⟩) p.length nv) p := rdInts_of_own h
theorem Kq.kr {bx : Nat} {W W' : World} (h : Kq bx W W') : Kr bx W W' := ⟨h.1, fun b h1 h2 => h.2 b (by omega) h2⟩
theorem Kr.trans {bx : Nat} {A B C : World} (h : Kr bx A B) (k : Kr bx B C) : Kr bx A C := ⟨Nat.le_trans h.1 k.1, fun b h1 h2 => (k.2 b h1 (by have := h.1; omega)).trans (h.2 b h1 h2)⟩
theorem Kr.refl (bx : Nat) (W : World) : Kr bx W W := ⟨Nat.le_refl _, fun _ _ _ => rfl⟩
theorem Kr.alloc {bx : Nat} {A W : World} (h : Kr bx A W) (o : Obj) : Kr bx A (W.alloc o) := ⟨by have := h.1; simp; omega, fun b h1 h2 => (Below.heap_alloc _ _ _ (by have := h.1; omega)).trans (h.2 b h1 h2)⟩
theorem Kr.grown {bx : Nat} {A W W' : World} (h : Kr bx A W) (hg : W.grownBy W' (some bx)) : Kr bx A W' := ⟨Nat.le_trans h.1 hg.size, fun b h1 h2 => (hg.block b (by have := h.1; omega) (by simp; omega)).trans (h.2 b h1 h2)⟩
theorem Kr.far {bx : Nat} {A W W' : World} {row : Option Nat} (h : Kr bx A W) (hg : W.grownBy W' row) (hr : ∀ r, row = some r → A.heap.size ≤ r) : Kr bx A W' :=
  ⟨Nat.le_trans h.1 hg.size, fun b h1 h2 => (hg.block b (by have := h.1; omega) (fun e => by have := hr b e.symm; omega)).trans (h.2 b h1 h2)⟩
theorem Kr.boxed {bx : Nat} {A W : World} (h : Kr bx A W) {b : Nat} {t : TypeId} {v : Value} (hb : Boxed A b t v) (hlt : bx < b) : Boxed W b t v := (h.2 b hlt hb.lt).trans hb
theorem Kr.from {bx B : Nat} {A W : World} (h : Kr bx A W) (hB : bx < B) : KeepsFrom B A W := ⟨h.1, fun k o hk h1 _ => (h.2 k (by omega) (Array.getElem?_eq_some_iff.1 h1).1).trans h1⟩

theorem results_cell1 {P : Program} {fn : Func} {p : Tmp} {ty : TypeId} (h : fn.results = #[.cell p ty]) (tmps : Array Value) (w : World) (a : Addr) (v : Value)
    (hp : tmps.getD p undef = .pointer (some a)) (hl : (loadVar ty a).run P w = .ok v w) : (results fn tmps).run P w = .ok v w := by
  have hp' : tmps[p]?.getD undef = .pointer (some a) := by simpa using hp
  simp [results, h, hp', asAddr, hl]
theorem load_bool (w : World) (g : Nat) (b : Bool) (h : Boxed w g 4 (.bool b)) : (loadVar 4 ⟨g, 0, none⟩).run Try.prog w = .ok (.bool b) w := by
  have hc := h.cell
  go_simp

set_option maxRecDepth 100000 in
set_option maxHeartbeats 4000000 in
/-- A whole tuple: one round. -/
theorem ext_whole (l bx nv : Nat) (vv fv dv : Value) (ds : List Int) (vars t : List Int) (Jt Jx : World → Prop) (W : World)
    (hv : RdInts W vv vars) (hdv : RdInts W dv ds) (hn : vars.length = nv) (ht : t.length = nv) (hX : XT bx nv t W)
    (hJt : ∀ X Y, Jt X → Below bx X Y → Jt Y) (hJx : ∀ X Y, Jx X → Below bx X Y → Jx Y)
    (hY : ∀ W1, Below bx W W1 → XT bx nv t W1 → YieldAt Fence.wide 5 Try.prog l #[.slice (some ⟨bx, 0, none⟩) nv nv] W1 fun e W' => (e = .returned (.bool true) ∧ Jt W' ∧ Kq bx W1 W') ∨ (e = .returned (.bool false) ∧ Jx W' ∧ Kq bx W1 W')) :
    Calls Try.prog 157 #[.agg #[vv, fv], dv, .slice (some ⟨bx, 0, none⟩) nv nv, .func (.yield l) #[] #[]] W fun e W' =>
      (e = .returned (.bool true) ∧ Jt W' ∧ XT bx nv t W' ∧ Kr bx W W') ∨ (e = .returned (.bool false) ∧ Jx W' ∧ Kr bx W W') := by
  obtain ⟨av, cv, ev, -⟩ := id hv
  obtain ⟨ad, cd, ed, -⟩ := id hdv
  rw [ed]
  clear hdv ed
  rw [ev] at hv ⊢
  rw [hn] at hv ⊢
  have hcv := (rdInts_cap hv).2
  have hm := (rdInts_cap hX.rd).2
  have hbx := hX.lt
  rw [ht] at hm
  clear ev hv hn
  refine (callsIn_wide (n := 8)).1 ?_
  refine callsIn_of_wp_marks Try.func157 rfl trivial ?_ rfl
  simp only [Try.ntmps157, List.size_toArray, List.length_cons, List.length_nil, Nat.reduceAdd, Nat.reduceSub, Array.replicate_succ, Array.replicate_zero, List.push_toArray, List.append_toArray, List.nil_append, List.cons_append]
  have hd : ((nv : Int) == (nv : Int)) = true := by simp
  obtain ⟨W0, hW0⟩ : ∃ W0, ((((W.alloc (.cells #[.slice av nv cv, fv] 95)).alloc (.cells #[.slice ad ds.length cd] 22)).alloc (.cells #[.slice (some ⟨bx, 0, none⟩) nv nv] 22)).alloc (.cells #[.func (.yield l) #[] #[]] 86)).alloc (.cells #[.bool false] 4) = W0 := ⟨_, rfl⟩
  have b0 : Below W.heap.size W W0 := by rw [← hW0]; exact (((((Below.refl _ W).alloc (Nat.le_refl _) _).alloc (by simp) _).alloc (by simp; omega) _).alloc (by simp; omega) _).alloc (by simp; omega) _
  have hs0 : W0.heap.size = W.heap.size + 5 := by rw [← hW0]; simp
  have bR : Boxed W0 (W.heap.size + 4) 4 (.bool false) := by
    rw [← hW0]
    have := Boxed.new ((((W.alloc (.cells #[.slice av nv cv, fv] 95)).alloc (.cells #[.slice ad ds.length cd] 22)).alloc (.cells #[.slice (some ⟨bx, 0, none⟩) nv nv] 22)).alloc (.cells #[.func (.yield l) #[] #[]] 86)) 4 (.bool false)
    simpa using this
  have hX0 : XT bx nv t W0 := hX.keep (b0.block bx hbx)
  have hyy := yieldAt_wide (m' := 7) (hY W0 (b0.mono (by omega)) hX0)
  obtain ⟨fn, tmps, asg, bdy, hy, hR⟩ := hyy
  have bR' : Boxed W0 (W.heap.size + 1 + 1 + 1 + 1) 4 (.bool false) := bR
  subst hW0
  gi_wp2
  refine hR.mono ?_
  rintro e W' (⟨rfl, hj, hk⟩ | ⟨rfl, hj, hk⟩)
  all_goals
    have bR2 : Boxed W' (W.heap.size + 1 + 1 + 1 + 1) 4 (.bool false) := hk.kr.boxed bR' (by omega)
    have q := bR2.cell
    have f := bR2.frozen
    gi_wp2
  · have bR3 := bR2.set (.bool true)
    have hb3 : Below bx W' (W'.setCell ⟨W.heap.size + 1 + 1 + 1 + 1, 0, none⟩ (.bool true)) := (Below.refl _ _).setCell (by simp; omega) _
    refine ⟨_, results_cell1 rfl _ _ _ _ rfl (load_bool _ _ _ bR3), .inl ⟨rfl, hJt _ _ hj hb3, (hX0.keep (hk.2 bx (Nat.le_refl _) hX0.lt)).keep (Below.heap_setCell _ _ _ _ (by simp; omega)), ?_⟩⟩
    have k0 : Kr bx W W' := ⟨Nat.le_trans b0.size hk.1, fun b h1 h2 => (hk.2 b (by omega) (by have := b0.size; omega)).trans (b0.block b h2)⟩
    exact ⟨Nat.le_trans k0.1 hb3.size, fun b h1 h2 => (Below.heap_setCell _ _ _ _ (by simp; omega)).trans (k0.2 b h1 h2)⟩
  · have bR3 := bR2.set (.bool false)
    have hb3 : Below bx W' (W'.setCell ⟨W.heap.size + 1 + 1 + 1 + 1, 0, none⟩ (.bool false)) := (Below.refl _ _).setCell (by simp; omega) _
    refine ⟨_, results_cell1 rfl _ _ _ _ rfl (load_bool _ _ _ bR3), .inr ⟨rfl, hJx _ _ hj hb3, ?_⟩⟩
    have k0 : Kr bx W W' := ⟨Nat.le_trans b0.size hk.1, fun b h1 h2 => (hk.2 b (by omega) (by have := b0.size; omega)).trans (b0.block b h2)⟩
    exact ⟨Nat.le_trans k0.1 hb3.size, fun b h1 h2 => (Below.heap_setCell _ _ _ _ (by simp; omega)).trans (k0.2 b h1 h2)⟩
end Go.Proofs.Ytkmdkbnphmadpaa
