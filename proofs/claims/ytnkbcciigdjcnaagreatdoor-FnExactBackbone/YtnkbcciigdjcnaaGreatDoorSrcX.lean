/- The program's iterator over the nodes of a search. -/
import Derived.Test.YtnkbcciigdjcnaaGreatDoorSrcW
import Derived.Test.YtnkbcciigdjcnaaGreatDoorSrcT
import Derived.Maps.OwnIn
namespace Go.Proofs.YtnkbcciigdjcnaaGreatDoor
open Go.ChangeShapes Go.WideShapes Go.ChangeAt Go.RowKit Go.Shelf
set_option linter.unusedVariables false
set_option linter.unusedSimpArgs false

attribute [local go_sem] Oper.semAt_some

/-- From X to Y only block g has changed; there may be more blocks. -/
structure ExtG (g : Nat) (X Y : World) : Prop where
  os : Y.os = X.os
  tape : Y.tape = X.tape
  output : Y.output = X.output
  size : X.heap.size ≤ Y.heap.size
  block : ∀ b, b < X.heap.size → b ≠ g → Y.heap[b]? = X.heap[b]?
theorem ExtG.of_below {g : Nat} {X Y : World} (h : Below X.heap.size X Y) : ExtG g X Y := ⟨h.os, h.tape, h.output, h.size, fun b hb _ => h.block b hb⟩
theorem ExtG.below {g B : Nat} {w0 X Y : World} (h : ExtG g X Y) (hb : Below B w0 X) (h1 : B ≤ X.heap.size) (h2 : B ≤ g) : Below B w0 Y := ⟨h.os.trans hb.os, h.tape.trans hb.tape, h.output.trans hb.output, Nat.le_trans hb.size h.size, fun b hb' => (h.block b (by omega) (by omega)).trans (hb.block b hb')⟩
/-- What the loop's body keeps of the cells from block B on: block g, and all that are no arrays of rows. -/
structure KpV (B g : Nat) (X Y : World) : Prop where
  size : X.heap.size ≤ Y.heap.size
  block : ∀ (b : Nat) (cur : Array Value) (t : TypeId) (fr : Nat × Nat), B ≤ b → X.heap[b]? = some (.cells cur t fr) → (b = g ∨ t ≠ 22) → Y.heap[b]? = X.heap[b]?
theorem KpV.refl (B g : Nat) (X : World) : KpV B g X X := ⟨Nat.le_refl _, fun _ _ _ _ _ _ _ => rfl⟩
theorem KpV.trans {B g : Nat} {X Y Z : World} (h : KpV B g X Y) (k : KpV B g Y Z) : KpV B g X Z := ⟨Nat.le_trans h.size k.size, fun b cur t fr hB hb hc => by
  have e := h.block b cur t fr hB hb hc
  exact (k.block b cur t fr hB (e.trans hb) hc).trans e⟩
theorem KpV.of_below {B g : Nat} {X Y : World} (h : Below X.heap.size X Y) : KpV B g X Y := ⟨h.size, fun b _ _ _ _ hb _ => h.block b (Array.getElem?_eq_some_iff.1 hb).1⟩
theorem KpV.mono {B B' g : Nat} {X Y : World} (h : KpV B g X Y) (hB : B ≤ B') : KpV B' g X Y := ⟨h.size, fun b cur t fr hb => h.block b cur t fr (Nat.le_trans hB hb)⟩
theorem KpV.grown {B g : Nat} {X Y Z : World} {row : Option Nat} (h : KpV B g X Y) (hg : Y.grownBy Z row) (hr : ∀ r, row = some r → ∃ o : Obj, Y.heap[r]? = some o ∧ o.isCells = false) : KpV B g X Z :=
  ⟨Nat.le_trans h.size hg.size, fun b cur t fr hB hb hc => by
    have e := h.block b cur t fr hB hb hc
    refine (hg.block b (Nat.lt_of_lt_of_le (Array.getElem?_eq_some_iff.1 hb).1 h.size) (fun e' => ?_)).trans e
    obtain ⟨o, ho, hc'⟩ := hr b e'.symm
    rw [e, hb] at ho
    cases ho
    cases hc'⟩
theorem KpV.own {B g n sz : Nat} {e : TypeId} {X Y : World} {v : Value} {xs : List Value} (h : KpV B g X Y) (ho : X.ownsRow B e sz v n xs) (he : e ≠ 22) : Y.ownsRow B e sz v n xs := by
  refine ⟨ho.1, ?_⟩
  rcases ho.2 with h2 | ⟨g', cap, cur, e', h3, hg, rest⟩
  · exact .inl h2
  · exact .inr ⟨g', cap, cur, e', h3, (h.block g' _ _ _ h3 hg (.inr he)).trans hg, rest⟩
theorem KpV.boxed {B g b : Nat} {t : TypeId} {X Y : World} {v : Value} (h : KpV B g X Y) (hb : Boxed X b t v) (hB : B ≤ b) (ht : t ≠ 22) : Boxed Y b t v := (h.block b _ _ _ hB hb (.inr ht)).trans hb

/-- The stack: the domains of the nodes that are still to be visited, the next one last. -/
def StkSt (B : Nat) (dv0 : Value) (doms : List Int) (X : World) (sv : Value) (st : List (List Int)) : Prop :=
  ∃ vals : List Value, X.ownsRow B 22 1 sv st.length vals ∧ ∀ (i : Nat) (d : List Int), st[i]? = some d → ∃ u, vals[i]? = some u ∧ ((u = dv0 ∧ d = doms) ∨ X.ownsRow B 3 1 u d.length (d.map (Value.int .i64)))
theorem StkSt.keep {B : Nat} {dv0 : Value} {doms : List Int} {X Y : World} {sv : Value} {st : List (List Int)} (h : StkSt B dv0 doms X sv st) (hk : ∀ (b : Nat) (cur : Array Value) (t : TypeId), B ≤ b → X.heap[b]? = some (.cells cur t (0, 0)) → (sv.ownBlock = some b ∨ t ≠ 22) → Y.heap[b]? = X.heap[b]?) : StkSt B dv0 doms Y sv st := by
  obtain ⟨vals, h1, h2⟩ := h
  refine ⟨vals, own_keep' h1 (fun b cur hb hc => hk b cur _ (h1.lt b hb).1 hc (.inl hb)), fun i d hd => ?_⟩
  obtain ⟨u, h3, h4⟩ := h2 i d hd
  refine ⟨u, h3, ?_⟩
  rcases h4 with h4 | h4
  · exact .inl h4
  · exact .inr (own_keep' h4 (fun b cur hb hc => hk b cur _ (h4.lt b hb).1 hc (.inr type_ne)))
theorem StkSt.below {B : Nat} {dv0 : Value} {doms : List Int} {X Y : World} {sv : Value} {st : List (List Int)} (h : StkSt B dv0 doms X sv st) (hb : Below X.heap.size X Y) : StkSt B dv0 doms Y sv st := h.keep (fun b _ _ _ hb' _ => hb.block b (Array.getElem?_eq_some_iff.1 hb').1)
/-- The last one taken off. -/
theorem StkSt.pop {B : Nat} {dv0 : Value} {doms : List Int} {X : World} {sv : Value} {st : List (List Int)} {d : List Int} (h : StkSt B dv0 doms X sv (st ++ [d])) :
    ∃ g cap u, sv = .slice (some ⟨g, 0, none⟩) (st.length + 1) cap ∧ B ≤ g ∧ g < X.heap.size ∧ st.length + 1 ≤ cap ∧ cap ≤ 9223372036854775807 ∧ X.cell? ⟨g, st.length, none⟩ = some u ∧ ((u = dv0 ∧ d = doms) ∨ X.ownsRow B 3 1 u d.length (d.map (Value.int .i64))) ∧ StkSt B dv0 doms X (.slice (some ⟨g, 0, none⟩) st.length cap) st := by
  obtain ⟨vals, h1, h2⟩ := h
  have hl : vals.length = st.length + 1 := by have := h1.1; simpa using this
  obtain ⟨u, hu, hd⟩ := h2 st.length d (by simp)
  rw [List.length_append, List.length_singleton] at h1
  rcases h1.2 with ⟨_, h0⟩ | ⟨g, cap, cur, e, h3, hg, q1, q2, q3, q4⟩
  · omega
  · refine ⟨g, cap, u, e, h3, (Array.getElem?_eq_some_iff.1 hg).1, q1, by unfold maxLen at q2; omega, ?_, hd, vals.take st.length, ⟨by simp; omega, .inr ⟨g, cap, cur, rfl, h3, hg, by omega, q2, q3, ?_⟩⟩, fun i d' hd' => ?_⟩
    · subst e
      rw [h1.cellAt st.length (by omega)]
      exact hu
    · rw [← q4, List.take_take]
      congr 1
      omega
    · have hi : i < st.length := (List.getElem?_eq_some_iff.1 hd').1
      obtain ⟨u', e1, e2⟩ := h2 i d' (by rw [List.getElem?_append_left hi]; exact hd')
      exact ⟨u', by rw [List.getElem?_take_of_lt hi]; exact e1, e2⟩
/-- The rows that a stack shows. -/
def stkOf (w : World) : Value → List (List Int)
  | .slice (some p) n _ => (List.range n).map fun i => match w.cell? ⟨p.block, p.off + i, none⟩ with | some u => rowOf w u | none => []
  | _ => []
theorem StkSt.of {B : Nat} {dv0 : Value} {doms : List Int} {X : World} {sv : Value} {st : List (List Int)} (h : StkSt B dv0 doms X sv st) (hd : RdInts X dv0 doms) : stkOf X sv = st := by
  obtain ⟨vals, h1, h2⟩ := h
  have hl : vals.length = st.length := by have := h1.1; simpa using this
  rcases h1.2 with ⟨e, h0⟩ | ⟨g, cap, cur, e, h3, hg, q1, q2, q3, q4⟩
  · subst e
    rw [List.eq_nil_of_length_eq_zero h0]
    rfl
  · subst e
    apply List.ext_getElem (by simp [stkOf])
    intro i h5 h6
    obtain ⟨u, e1, e2⟩ := h2 i st[i] (List.getElem?_eq_getElem h6)
    have hc : X.cell? ⟨g, 0 + i, none⟩ = some u := by rw [Nat.zero_add, h1.cellAt i (by omega)]; exact e1
    simp only [stkOf, List.getElem_map, List.getElem_range, hc]
    rcases e2 with ⟨rfl, e2⟩ | e2
    · rw [e2]; exact rowOf_rd hd
    · exact rowOf_rd (rdInts_of_own e2)
/-- The weight of a stack. -/
def wgt (cs : List Con) (st : List (List Int)) : Nat := (st.map fun d => (visL cs d).length).sum
theorem wgt_append (cs : List Con) (a b : List (List Int)) : wgt cs (a ++ b) = wgt cs a + wgt cs b := by simp [wgt]
theorem wgt_reverse (cs : List Con) (a : List (List Int)) : wgt cs a.reverse = wgt cs a := by
  induction a with
  | nil => rfl
  | cons x a ih => rw [List.reverse_cons, wgt_append, ih]; simp [wgt]; omega
theorem wgt_flat (cs : List Con) : ∀ a : List (List Int), wgt cs a = (a.flatMap (visL cs)).length
  | [] => rfl
  | x :: a => by rw [List.flatMap_cons, List.length_append, ← wgt_flat cs a]; simp [wgt]
theorem wgt_node {cs : List Con} {n : Nat} {d : List Int} (h : OkD cs n d) (st : List (List Int)) : wgt cs (st ++ (kids (proL cs d)).reverse) < wgt cs (st ++ [d]) := by
  rw [wgt_append, wgt_append, wgt_reverse, wgt_flat cs (kids _), show wgt cs [d] = (visL cs d).length from by simp [wgt], visL_eq h]
  simp
theorem len_le_wgt {cs : List Con} {n : Nat} : ∀ {st : List (List Int)}, (∀ d ∈ st, OkD cs n d) → st.length ≤ wgt cs st
  | [], _ => Nat.le_refl _
  | d :: st, h => by
    have ih := len_le_wgt (st := st) (fun x hx => h x (by simp [hx]))
    have h1 : 1 ≤ (visL cs d).length := by rw [visL_eq (h d (by simp))]; simp
    simp only [wgt, List.map_cons, List.sum_cons, List.length_cons] at ih ⊢
    omega
theorem append_none (w : World) (ty : TypeId) (a : Option Addr) (n c : Nat) (hn : n ≤ c) (hc : c ≤ 9223372036854775807) : (Builtin.append_ #[43, 43] ty #[.slice a n c, .slice none 0 0]).run Tryz.prog w = .ok (.slice a n c) w := by
  have h1 : ¬ ((9223372036854775807 : Int) < (n : Int)) := by omega
  obtain ⟨i0, hi, hz0, hz1, hz2⟩ := info_parts Tryz.info22
  simp [Builtin.append_, run_underlying Tryz.underlying43, sizeOf, typeInfo, zeroValue, hi, hz0, Builtin.lenOf, h1, hn, run_firstCells_none]
  cases a <;> simp [storeCells]

theorem wpListIn_append_none {F : Fence} {nF : Nat} {w : World} {ops : Array Oper} {rest : List Oper} {o : Oper} {a : Act} {Q : Exit → Act → World → Prop}
    (hg : o.guard = none) (s x : Operand) (hop : o.op = Op.call { callee := Callee.builtin Builtin.append, args := #[s, x], argTypes := #[43, 43] }) (ad : Option Addr) (n c : Nat)
    (hs : a.eval s = .slice ad n c) (hx : a.eval x = .slice none 0 0) (hn : n ≤ c) (hc : c ≤ 9223372036854775807) (hK : wpListIn F nF Tryz.prog ops Q rest (a.put o.dst (.slice ad n c)) w) :
    wpListIn F nF Tryz.prog ops Q (o :: rest) a w := by
  refine wpListIn_plain hg fun K hK' => ?_
  have hrun := append_none w o.type ad n c hn hc
  unfold Oper.wpIn
  refine ⟨?_, ?_⟩
  · simp [Oper.about, hop, resolve, Target.leads, Sem.run_pure]
  · rw [Oper.semAt_plain F _ _ (by rw [hop]; intro c hc'; cases hc')]
    simp [execOp, hop, resolve, invoke, builtin, hs, hx, hrun, Result.andThen]
    exact hK' _ _ hK
theorem visitsTrue_any (v : Value) (w : World) : Calls Tryz.prog 69 #[v] w fun e w' => e = .returned (.bool true) ∧ w = w' := by
  go_enter Tryz.func69, Tryz.ntmps69
  go_wp2
  go_ret
  exact ⟨rfl, rfl⟩

/-- What stands while nodes are visited. -/
structure VSt {σ : Type} (m : Mod) (B Be : Nat) (dv0 pv : Value) (P : List (Value × Nat × Value)) (J : σ → List (List Int) → Nat → World → Prop) (s : σ) (st : List (List Int)) (g : Nat) (sv : Value) (X : World) : Prop where
  j : J s st g X
  e : Boxed X Be 80 pv
  p : X.ownsRow B 105 2 pv P.length (flatP P)
  k : StkSt B dv0 m.doms X sv st
  ok : ∀ d ∈ st, OkD m.cons m.doms.length d
  blk : sv.ownBlock = some g
  sz : B ≤ Be
  wb : wgt m.cons st ≤ 2591
theorem VSt.ext {σ : Type} {m : Mod} {B Be : Nat} {dv0 pv : Value} {P : List (Value × Nat × Value)} {J : σ → List (List Int) → Nat → World → Prop} {s : σ} {st : List (List Int)} {g : Nat} {sv : Value} {X Y : World} (h : VSt m B Be dv0 pv P J s st g sv X) (hb : Below X.heap.size X Y)
    (hJs : ∀ s st g g' X Y, J s st g X → ExtG g X Y → (g' = g ∨ X.heap.size ≤ g') → J s st g' Y) : VSt m B Be dv0 pv P J s st g sv Y :=
  ⟨hJs s st g g X Y h.j (ExtG.of_below hb) (.inl rfl), (hb.block _ h.e.lt).trans h.e, own_below h.p hb, h.k.below hb, h.ok, h.blk, h.sz, h.wb⟩

set_option maxRecDepth 100000 in
set_option maxHeartbeats 8000000 in
theorem visits1_any {σ : Type} (l Bm Bw : Nat) (m : Mod) (w0 : World) {a1 a2 : Option Addr} {c1 c2 : Nat} (hrm : RdModel w0 (.agg #[.slice a1 m.doms.length c1, .slice a2 m.cons.length c2]) m) (hv : vmB m = true)
    (J : σ → List (List Int) → Nat → World → Prop) (Jx : World → Prop) (nx : σ → List Int → σ)
    (hJ : ∀ s st g X, J s st g X → Below w0.heap.size w0 X ∧ Blk2 X Bm 31 (.slice a1 m.doms.length c1) (.slice a2 m.cons.length c2) ∧ Boxed X Bw 53 (.func (.func 69) #[] #[]))
    (hJs : ∀ s st g g' X Y, J s st g X → ExtG g X Y → (g' = g ∨ X.heap.size ≤ g') → J s st g' Y)
    (W : World)
    (hY : ∀ s st d g X dv, J s (st ++ [d]) g X → X.ownsRow W.heap.size 3 1 dv (proL m.cons d).length ((proL m.cons d).map (Value.int .i64)) → OkD m.cons m.doms.length d →
      YieldAt Fence.wide 7 Tryz.prog l #[dv] X fun e X' => (e = .returned (.bool true) ∧ J (nx s (proL m.cons d)) (st ++ (kids (proL m.cons d)).reverse) g X' ∧ KpV W.heap.size g X X') ∨ (e = .returned (.bool false) ∧ Jx X'))
    (s0 : σ) (h0 : J s0 [m.doms] W.heap.size W) :
    CallsIn Fence.wide 8 Tryz.prog 90 #[.func (.yield l) #[] #[], .pointer (some ⟨Bm, 0, none⟩), .pointer (some ⟨Bw, 0, none⟩)] W fun e W' => (∃ v, e = .returned v) ∧ ((∃ s g, J s [] g W') ∨ Jx W') := by
  obtain ⟨d1, d2, d3, d4⟩ := doms_small' hv
  obtain ⟨b0, bm, bw⟩ := hJ _ _ _ _ h0
  obtain ⟨u1, u2, eu, r1, r2⟩ := id hrm
  simp at eu
  obtain ⟨rfl, rfl⟩ := eu
  have HE := Lib.hid (engineOf2_any _ m.cons w0 W r2 b0 d4 (fun c hc => (okC_mem hv hc).kind))
  have HJ := Lib.hid hJ
  have HJS := Lib.hid hJs
  have HY := Lib.hid hY
  have H0 := Lib.hid h0
  have HR1 := Lib.hid r1
  have HOK := Lib.hid (fun c (hc : c ∈ m.cons) => okC_mem hv hc)
  have HBM := Lib.hid bm
  have HD := Lib.hid (And.intro d1 (And.intro d2 (And.intro d3 d4)))
  have HOD := Lib.hid (okD_mod hv)
  have HVL := Lib.hid (visL_len (okD_mod hv) d2)
  obtain ⟨p0, p1⟩ := bm.cell
  clear hrm hv hJ hJs hY h0 r1 r2 bm bw b0 d1 d2 d3 d4
  refine callsIn_of_wp Tryz.func90 rfl trivial ?_ rfl
  simp only [Tryz.ntmps90, List.size_toArray, List.length_cons, List.length_nil, Nat.reduceAdd, Nat.reduceSub, Array.replicate_succ, Array.replicate_zero, List.push_toArray, List.append_toArray, List.nil_append, List.cons_append]
  gi_wp2_with fail
  refine ⟨trivial, ?_⟩
  gi_at_call 62
  refine (callsIn_wide.2 HE.out).mono ?_
  rintro e w1 ⟨pv, P, rfl, ho, hpo, b1⟩
  obtain ⟨pa, pn, pc, epv⟩ := own_slice ho
  subst epv
  obtain ⟨W2, hW2⟩ : ∃ W2, w1.alloc (.cells #[.slice pa pn pc] 80) = W2 := ⟨_, rfl⟩
  obtain ⟨W3, hW3⟩ : ∃ W3, W2.alloc (.cells #[.slice a1 m.doms.length c1] 22) = W3 := ⟨_, rfl⟩
  have b2 : Below w1.heap.size w1 W2 := by rw [← hW2]; exact (Below.refl _ _).alloc (Nat.le_refl _) _
  have b3 : Below W2.heap.size W2 W3 := by rw [← hW3]; exact (Below.refl _ _).alloc (Nat.le_refl _) _
  have s2 : W2.heap.size = w1.heap.size + 1 := by rw [← hW2, World.size_alloc]
  have q2 : Boxed W2 w1.heap.size 80 (.slice pa pn pc) := by rw [← hW2]; exact World.alloc_heap_new _ _
  have q3 : W3.heap[W2.heap.size]? = some (.cells #[.slice a1 m.doms.length c1] 22) := by rw [← hW3]; exact World.alloc_heap_new _ _
  have bW2 : Below W.heap.size W W2 := b1.trans (b2.mono b1.size)
  have bW3 : Below W.heap.size W W3 := bW2.trans (b3.mono bW2.size)
  have hst : VSt m W.heap.size w1.heap.size (.slice a1 m.doms.length c1) (.slice pa pn pc) P J s0 [m.doms] W2.heap.size (.slice (some ⟨W2.heap.size, 0, none⟩) 1 1) W3 := by
    refine ⟨HJS.out _ _ _ _ W W3 H0.out (ExtG.of_below bW3) (.inr bW2.size), (b3.block _ q2.lt).trans q2, own_below (own_below ho b2) b3, ⟨[.slice a1 m.doms.length c1], ⟨rfl, .inr ⟨W2.heap.size, 1, _, rfl, bW2.size, q3, Nat.le_refl _, by simp [maxLen], rfl, rfl⟩⟩, fun i d hd => ?_⟩, fun d hd => by simp at hd; subst hd; exact HOD.out, rfl, b1.size, by simp only [wgt, List.map_cons, List.map_nil, List.sum_cons, List.sum_nil]; have := HVL.out; omega⟩
    cases i with
    | zero => simp at hd; subst hd; exact ⟨_, rfl, .inl ⟨rfl, rfl⟩⟩
    | succ i => simp at hd
  have HST := Lib.hid hst
  have HPO := Lib.hid hpo
  have HS2 := Lib.hid s2
  have k0 := (HBM.out.below bW2).cell.1
  rw [← hW2] at k0
  have HW2 := Lib.hid hW2
  have HW3 := Lib.hid hW3
  clear ho hpo b1 b2 b3 s2 q2 q3 bW2 bW3 hst hW2 hW3 p0 p1 HE
  gi_wp2
  rw [HW2.out, HW3.out, ← HS2.out]
  clear k0
  obtain ⟨Be, hBe⟩ : ∃ Be, Be = w1.heap.size := ⟨_, rfl⟩
  rw [← hBe] at HST ⊢
  obtain ⟨g0, hg0⟩ : ∃ g0, g0 = W2.heap.size := ⟨_, rfl⟩
  rw [← hg0] at HST ⊢
  clear hBe hg0 HS2 HW2 HW3
  obtain ⟨i0, hi, hz0, hz1, hz2⟩ := info_parts Tryz.info22
  gi_loopw [5] (fun sv wr => ∃ s st g, Hid (VSt m W.heap.size Be (.slice a1 m.doms.length c1) (.slice pa pn pc) P J s st g sv wr)) (fun sv wr => wgt m.cons (stkOf wr sv))
  case atStart => exact ⟨s0, [m.doms], g0, HST⟩
  case round =>
    obtain ⟨s, st, g, HV⟩ := hrel
    rcases List.eq_nil_or_concat st with rfl | ⟨st', d, hstd⟩
    · obtain ⟨cap, esv, hcap⟩ : ∃ cap, u5 = .slice (some ⟨g, 0, none⟩) 0 cap ∧ cap ≤ 9223372036854775807 := by
        obtain ⟨vals, h1, -⟩ := HV.out.k
        have hb := HV.out.blk
        rcases h1.2 with ⟨e, _⟩ | ⟨g', cap, cur, e, _, _, _, q2, _⟩
        · rw [e] at hb; cases hb
        · rw [e] at hb
          cases hb
          unfold maxLen at q2
          exact ⟨cap, e, by omega⟩
      subst esv
      have HJF := Lib.hid HV.out.j
      clear HV
      gi_wp2
      go_end0
      exact ⟨⟨_, rfl⟩, .inl ⟨s, g, HJF.out⟩⟩
    · rw [List.concat_eq_append] at hstd
      subst hstd
      obtain ⟨g', cap, u, esv, hgB, hgl, hc1, hc2, hcu, hud, hkk⟩ := HV.out.k.pop
      obtain rfl : g = g' := by have := HV.out.blk; rw [esv] at this; cases this; rfl
      obtain ⟨bw0, bmX, bwX⟩ := HJ.out _ _ _ _ HV.out.j
      have hod := HV.out.ok d (by simp)
      have hru : RdInts wr u d := by
        rcases hud with ⟨rfl, rfl⟩ | h
        · exact HR1.out.below bw0
        · exact rdInts_of_own h
      obtain ⟨ua, uc, euu, -⟩ := id hru
      obtain ⟨kk, hkl⟩ : ∃ kk, kk = st'.length := ⟨_, rfl⟩
      obtain ⟨nd, hnd⟩ : ∃ nd, nd = d.length := ⟨_, rfl⟩
      have hkb : kk ≤ 2591 := by
        have h1 := len_le_wgt HV.out.ok
        have h2 := HV.out.wb
        rw [List.length_append] at h1
        omega
      rw [← hkl] at esv hc1 hcu hkk
      rw [← hnd] at euu
      subst esv
      subst euu
      have hpo' : PrOf wr.drew m.cons P := ⟨HPO.out.1, fun i c p hc hp => ⟨(HPO.out.2 i c p hc hp).1, ((HPO.out.2 i c p hc hp).2.below bw0).below (Below.refl _ _).drew⟩⟩
      have hndl : nd = m.doms.length := by rw [hnd, hod.len]
      have hd4 := HD.out
      have HPR : Hid (Calls Tryz.prog 63 #[.agg #[.slice pa pn pc], .slice ua nd uc] wr.drew (fun e Y => ∃ va vn vc, e = .returned (.slice va vn vc) ∧ Y.ownsRow wr.heap.size 3 1 (.slice va vn vc) (proL m.cons d).length ((proL m.cons d).map (Value.int .i64)) ∧ Below wr.heap.size wr Y ∧ Boxed Y Be 80 (.slice pa pn pc) ∧ Y.cell? ⟨g, kk, none⟩ = some (.slice ua nd uc))) := by
        refine Lib.hid ((ipropagate_any m.cons P (.slice pa pn pc) (.slice ua nd uc) W.heap.size d wr.drew (own_below HV.out.p (Below.refl _ _).drew) hpo' hd4.2.2.2 (by rw [hod.len]; exact HOK.out) (hru.below (Below.refl _ _).drew) (by rw [hod.len]; omega) (by rw [hod.len]; omega) hod.small).mono ?_)
        rintro e Y ⟨v', rfl, o', b'⟩
        have bb : Below wr.heap.size wr Y := (show Below wr.heap.size wr wr.drew from (Below.refl _ _).drew).trans b'
        obtain ⟨va, vn, vc, ev⟩ := own_slice o'
        subst ev
        exact ⟨va, vn, vc, rfl, o', bb, (bb.block _ HV.out.e.lt).trans HV.out.e, (bb.cell (p := ⟨g, kk, none⟩) (World.block_lt_of_cell? wr _ hcu)).trans hcu⟩
      have HKK := Lib.hid hkk
      have HGB := Lib.hid (And.intro hgB hgl)
      have HOD' := Lib.hid hod
      have HKL := Lib.hid hkl
      have e0 := HV.out.e.cell
      clear hkk hgB hgl hod hkl hnd hpo' hndl hd4 hru hud bw0 bmX bwX
      have hk0 : (0 : Int) ≤ (kk : Int) := by omega
      have hk1 : (kk : Int) < (kk : Int) + 1 := by omega
      have hk2 : (kk : Int) < ((kk + 1 : Nat) : Int) := by omega
      have hk3 : (kk : Int) ≤ ((kk + 1 : Nat) : Int) := by omega
      gi_wp2
      refine wpIn_wide.2 ?_
      go_region_held3 (fun w' => w'.cell? ⟨Be, 0, none⟩ = some (.slice pa pn pc) ∧ w'.cell? ⟨g, kk, none⟩ = some (.slice ua nd uc)) (first | go_keep | exact ⟨z0, z1⟩ | exact ⟨e0, hcu⟩) (first | (go_at_call 63; refine HPR.out.mono ?_; rintro e Y ⟨va, vn, vc, rfl, oY, bY, eY, cY⟩; have z0 := eY.cell; have z1 := cY; have HOY := Lib.hid oY; have HBY := Lib.hid bY; clear oY bY eY cY))
      have HVY := Lib.hid (HV.out.ext HBY.out HJS.out)
      have q0 := (HJ.out _ _ _ _ HVY.out.j).2.2.cell
      obtain ⟨p, hp⟩ : ∃ p, p = proL m.cons d := ⟨_, rfl⟩
      have hop := (proL_ok HOD'.out).1
      rw [← hp] at HOY hop
      have HOP := Lib.hid hop
      have hWY : W.heap.size ≤ wr.heap.size := by have := HV.out.p; have h1 := HGB.out; omega
      have hyy := HY.out s st' d g Y (.slice va vn vc) HVY.out.j (own_mono (by rw [← hp]; exact HOY.out) hWY) HOD'.out
      have HWY := Lib.hid hWY
      rw [← hp] at hyy
      have HP := Lib.hid hp
      obtain ⟨fn, tmps, asg, bdy, hy, hR⟩ := hyy
      clear z0 z1 e0 hcu hp hop HPR hWY
      gi_wp2_with (refine ⟨trivial, ?_⟩; gi_at_call 69; refine (callsIn_wide.2 (visitsTrue_any _ _)).mono ?_; rintro e w' ⟨rfl, rfl⟩)
      refine hR.mono ?_
      rintro e Z (⟨rfl, hJZ, hkZ⟩ | ⟨rfl, hJx⟩)
      · have HJZ := Lib.hid hJZ
        have HKZ := Lib.hid hkZ
        have hoZ := hkZ.own (own_mono HOY.out HWY.out) type_ne
        have hd4 := HD.out
        have hpl := HOP.out.len
        have HBR := Lib.hid (branches_any (.slice va vn vc) p Z (rdInts_of_own hoZ) HOP.out.small (by omega) (by omega))
        clear hJZ hkZ hoZ hd4 hpl hR hy q0
        have HMW : Hid (wgt m.cons (stkOf wr (.slice (some ⟨g, 0, none⟩) (kk + 1) cap)) = wgt m.cons (st' ++ [d])) := Lib.hid (by rw [HV.out.k.of (HR1.out.below (HJ.out _ _ _ _ HV.out.j).1)])
        have HHB := Lib.hid (And.intro hkb (And.intro hc1 hc2))
        clear hk0 hk1 hk2 hk3 hc1 hkb
        gi_wp2_with fail
        refine ⟨trivial, ?_⟩
        gi_at_call 91
        refine (callsIn_wide.2 HBR.out).mono ?_
        rintro e Z2 ⟨bv, rfl, hbr, bz⟩
        have hkZ2 := ((HKK.out.below HBY.out).keep (fun b cur t hB hb hc => HKZ.out.block b _ _ _ hB hb (hc.imp (fun e => by cases e; rfl) id))).below bz
        have hjZ2 := HJS.out _ _ _ _ Z Z2 HJZ.out (ExtG.of_below bz) (.inl rfl)
        have heZ : Boxed Z Be 80 (.slice pa pn pc) := HKZ.out.boxed HVY.out.e HVY.out.sz (by decide)
        have heZ2 : Boxed Z2 Be 80 (.slice pa pn pc) := (bz.block _ heZ.lt).trans heZ
        have hpZ2 := own_below (HKZ.out.own HVY.out.p (by decide)) bz
        have hZsz : W.heap.size ≤ Z.heap.size := Nat.le_trans HWY.out (Nat.le_trans HBY.out.size HKZ.out.size)
        have hokN : ∀ d' ∈ st' ++ (kids p).reverse, OkD m.cons m.doms.length d' := fun d' hd' => by
          rcases List.mem_append.1 hd' with h | h
          · exact HV.out.ok d' (by simp [h])
          · exact (kid_ok HOP.out (List.mem_reverse.1 h)).1
        have hwN : wgt m.cons (st' ++ (kids p).reverse) < wgt m.cons (st' ++ [d]) := by rw [HP.out]; exact wgt_node HOD'.out st'
        have hwb := HV.out.wb
        obtain ⟨vals, s1, s2⟩ := hkZ2
        obtain ⟨cvals, c1', c2'⟩ := hbr
        have hgt := (row_block s1 (r := g) rfl).2
        obtain ⟨curg, hcurg⟩ := hgt
        rw [← HKL.out] at s1
        have hcl : cvals.length = (kids p).length := by have := c1'.1; simpa using this
        have hkml : (kids p).length ≤ 2591 := by
          have h1 := len_le_wgt hokN
          rw [List.length_append, List.length_reverse] at h1
          omega
        rw [List.length_reverse] at c1'
        -- what stands behind the append
        have fin : ∀ (v' : Value) (w5 : World) (g' : Nat), w5.ownsRow W.heap.size 22 1 v' (kk + (kids p).length) (vals ++ cvals) → Z2.grownBy w5 (some g) → v'.ownBlock = some g' → (g' = g ∨ Z2.heap.size ≤ g') → VSt m W.heap.size Be (.slice a1 m.doms.length c1) (.slice pa pn pc) P J (nx s p) (st' ++ (kids p).reverse) g' v' w5 := by
          intro v' w5 g' ho5 hg5 hb5 hgg
          have far : ∀ (b : Nat) (cur : Array Value) (t : TypeId) (fr : Nat × Nat), Z2.heap[b]? = some (Obj.cells cur t fr) → t ≠ 22 → w5.heap[b]? = Z2.heap[b]? := fun b cur t fr hb ht => hg5.block b (Array.getElem?_eq_some_iff.1 hb).1 (fun e => by
            cases e
            rw [hcurg] at hb
            injection hb with hb
            injection hb with _ e2 _
            exact ht e2.symm)
          refine ⟨HJS.out _ _ g g' Z2 w5 hjZ2 ⟨hg5.os, hg5.tape, hg5.output, hg5.size, fun b hb hne => hg5.block b hb (fun e => hne (by cases e; rfl))⟩ hgg, (far _ _ _ _ heZ2 (by decide)).trans heZ2, own_keep' hpZ2 (fun b cur _ hb => far b _ _ _ hb (by decide)), ⟨vals ++ cvals, by rw [List.length_append, List.length_reverse, ← HKL.out]; exact ho5, fun i d' hd' => ?_⟩, hokN, hb5, HVY.out.sz, by omega⟩
          have hvl : vals.length = kk := by have := s1.1; simpa using this
          by_cases hik : i < kk
          · rw [List.getElem?_append_left (by rw [← HKL.out]; exact hik)] at hd'
            obtain ⟨u', e1, e2⟩ := s2 i d' hd'
            refine ⟨u', by rw [List.getElem?_append_left (by omega)]; exact e1, ?_⟩
            rcases e2 with e2 | e2
            · exact .inl e2
            · exact .inr (own_keep' e2 (fun b cur _ hb => far b _ _ _ hb type_ne))
          · rw [List.getElem?_append_right (by rw [← HKL.out]; omega), ← HKL.out] at hd'
            obtain ⟨u', e1, e2⟩ := c2' (i - kk) d' hd'
            exact ⟨u', by rw [List.getElem?_append_right (by omega), hvl]; exact e1, .inr (own_mono (own_keep' e2 (fun b cur _ hb => far b _ _ _ hb type_ne)) hZsz)⟩
        have HFIN := Lib.hid fin
        have HWN := Lib.hid hwN
        have HRM := Lib.hid (fun (v' : Value) (w5 : World) (g' : Nat) (h : VSt m W.heap.size Be (.slice a1 m.doms.length c1) (.slice pa pn pc) P J (nx s p) (st' ++ (kids p).reverse) g' v' w5) => show wgt m.cons (stkOf w5 v') < wgt m.cons (stkOf wr (.slice (some ⟨g, 0, none⟩) (kk + 1) cap)) by
          rw [HMW.out, h.k.of (HR1.out.below (HJ.out _ _ _ _ h.j).1)]
          exact HWN.out)
        have hb' := HHB.out
        have hzW : W.heap.size ≤ Z2.heap.size := Nat.le_trans hZsz bz.size
        rcases c1'.2 with ⟨ebv, hn0⟩ | ⟨gc, capc, curc, ebv, hgc, hcc, r1, r2, r3, r4⟩
        · subst ebv
          have hf := fin (.slice (some ⟨g, 0, none⟩) kk cap) Z2 g (by
            have : cvals = [] := List.eq_nil_of_length_eq_zero (by omega)
            rw [this, hn0, List.append_nil, Nat.add_zero]
            exact s1) ⟨rfl, rfl, rfl, Nat.le_refl _, fun _ _ _ => rfl⟩ rfl (.inl rfl)
          have HF := Lib.hid hf
          clear fin hf hwN hokN hwb s1 s2 c1' c2' hcurg hcl hkml heZ heZ2 hpZ2 hjZ2 hZsz bz HBR hzW
          gi_wp2_with (gi_at_builtin; refine wpListIn_append_none rfl _ _ rfl _ kk cap rfl rfl (by omega) hc2 ?_)
          go_roundw
          case rel => exact ⟨nx s p, st' ++ (kids p).reverse, g, HF⟩
          case measure => exact HRM.out _ _ _ HF.out
        · subst ebv
          have HS1 := Lib.hid s1
          have HCC : Hid (∀ j u, cvals[j]? = some u → Z2.cell? ((⟨gc, 0, none⟩ : Addr).add j) = some u) := Lib.hid (fun j u hu => by
            rw [addr_add, Nat.zero_add, c1'.cellAt j (by have := (List.getElem?_eq_some_iff.1 hu).1; omega)]
            exact hu)
          have HOC : Hid (∀ u ∈ cvals, u.oneCell' = true) := Lib.hid (fun u hu => by
            obtain ⟨j, hj, rfl⟩ := List.mem_iff_getElem.1 hu
            have hjr : j < (kids p).reverse.length := by rw [List.length_reverse, ← hcl]; exact hj
            obtain ⟨u', e1, e2⟩ := c2' j (kids p).reverse[j] (List.getElem?_eq_getElem hjr)
            rw [List.getElem?_eq_getElem hj] at e1
            cases e1
            obtain ⟨xa, xn, xc, ex⟩ := own_slice e2
            rw [ex]
            rfl)
          have hkb2 := hb'.1
          obtain ⟨ml, hml⟩ : ∃ ml, ml = (kids p).length := ⟨_, rfl⟩
          rw [← hml] at hcl hkml r1 HFIN ⊢
          have HCL := Lib.hid hcl
          have HZW := Lib.hid hzW
          clear fin hwN hokN hwb s1 s2 c1' c2' hcurg hcl heZ heZ2 hpZ2 hjZ2 hZsz bz HBR hzW hml hgc hcc r1 r2 r3 r4 hb'
          gi_wp2_with (gi_at_builtin; refine wpListIn_append_own_at _ rfl _ _ 43 rfl W.heap.size 22 i0 (.slice none 0 0) 1 24 Tryz.underlying43 hi hz0 hz1 hz2 rfl (by decide) _ _ _ rfl HS1.out ⟨gc, 0, none⟩ ml capc cvals rfl (by rw [HCL.out]; omega) HCC.out HOC.out (by unfold maxLen; omega) (by omega) HZW.out ?_; intro v' w5 hown' hgrow _ hblk)
          obtain ⟨g', hb5, hg5⟩ : ∃ g', v'.ownBlock = some g' ∧ (g' = g ∨ Z2.heap.size ≤ g') := by
            rcases hblk with h | h
            · exact ⟨g, h, .inl rfl⟩
            · exact ⟨_, h, .inr (Nat.le_refl _)⟩
          have hf := HFIN.out v' w5 g' hown' hgrow hb5 hg5
          exact ⟨⟨_, _, g', Lib.hid hf⟩, HRM.out _ _ _ hf⟩
      · gi_wp2
        refine bodyPost_ret (results_none rfl _ _ _) rfl ?_
        exact ⟨⟨_, rfl⟩, .inr hJx⟩

/-- What a round of such a loop leaves. -/
def bdPost (B g : Nat) (In : World → Prop) (Ix : Code → World → Prop) (W : World) : Exit → Act → World → Prop
  | .normal, _, W' => KeepsFrom B W W' ∧ KpV (B + 2) g W W' ∧ In W'
  | .ret, _, W' => KeepsFrom B W W' ∧ Ix .ret W'
  | .exit id, _, W' => KeepsFrom B W W' ∧ Ix (.exit id) W'
  | .goto t, _, W' => KeepsFrom B W W' ∧ Ix (.goto t) W'
  | .panic _, _, _ => False
  | .outgrown, _, _ => False
/-- A fact that abides turns of what is no cells from block B on. -/
def OwnB (B : Nat) (R : World → Prop) : Prop := ∀ X Y row, R X → X.grownBy Y row → (∀ r, row = some r → B ≤ r ∧ ∃ o : Obj, X.heap[r]? = some o ∧ o.isCells = false) → R Y

/-- A loop over the nodes of a search, outside of any round. -/
theorem rf_visits {σ : Type} {n : Nat} {gop : Operand} {ps : Array Tmp} {assign body : Code} {Q : Exit → Act → World → Prop} {a : Act} {w : World} {Bm Bw : Nat} (m : Mod) (w0 : World) {a1 a2 : Option Addr} {c1 c2 : Nat} (hrm : RdModel w0 (.agg #[.slice a1 m.doms.length c1, .slice a2 m.cons.length c2]) m) (hv : vmB m = true)
    (hn : 2 ≤ n) (hg : a.eval gop = .func (.func 90) #[] #[.pointer (some ⟨Bm, 0, none⟩), .pointer (some ⟨Bw, 0, none⟩)]) (hps : ps.size = 1)
    (I : σ → List (List Int) → Nat → World → Prop) (Ix : Code → World → Prop) (nx : σ → List Int → σ)
    (hI : ∀ s st g X, I s st g X → Below w0.heap.size w0 X ∧ Blk2 X Bm 31 (.slice a1 m.doms.length c1) (.slice a2 m.cons.length c2) ∧ Boxed X Bw 53 (.func (.func 69) #[] #[]))
    (hIs : ∀ s st g g' X Y, w.heap.size + 2 ≤ g → I s st g X → ExtG g X Y → (g' = g ∨ X.heap.size ≤ g') → I s st g' Y)
    (hIo : ∀ s st g, OwnB w.heap.size (I s st g)) (hIxo : ∀ c, OwnB w.heap.size (Ix c))
    (s0 : σ) (h0 : I s0 [m.doms] (w.heap.size + 2) w) (a₁ : Value → Act)
    (hassign : ∀ (l : Nat) (dv : Value) (X : World) (K : Act → World → Prop), K (a₁ dv) X →
      assign.wpIn (Fence.wide.inRound l) (n - 1 - 1) Tryz.prog (Exit.then K (fun _ _ _ => False)) { tmps := (ps.zip #[dv]).foldl (fun t (p, v) => t.setIfInBounds p v) a.tmps, defers := [] } X)
    (hbody : ∀ (l : Nat) (s : σ) (st : List (List Int)) (d : List Int) (g : Nat) (X : World) (dv : Value), l = w.heap.size + 1 → (∃ r, X.heap[l]? = some (.loop r)) → I s (st ++ [d]) g X → w.heap.size + 2 ≤ g →
      X.ownsRow (w.heap.size + 2) 3 1 dv (proL m.cons d).length ((proL m.cons d).map (Value.int .i64)) → OkD m.cons m.doms.length d →
      body.wpIn (Fence.wide.inRound l) (n - 1 - 1) Tryz.prog (bdPost w.heap.size g (I (nx s (proL m.cons d)) (st ++ (kids (proL m.cons d)).reverse) g) Ix X) (a₁ dv) X)
    (hdone : ∀ (D : Nat) (s : σ) (g : Nat) (X : World), w.heap.size ≤ D → I s [] g X → X.heap[D]? = some (.deferred (some [])) → Q .normal { a with defers := { target := .collected D, args := #[] } :: a.defers } X)
    (hstop : ∀ (D : Nat) (c : Code) (X : World), w.heap.size ≤ D → Ix c X → X.heap[D]? = some (.deferred (some [])) → c.wpIn Fence.wide n Tryz.prog Q { a with defers := { target := .collected D, args := #[] } :: a.defers } X) :
    (Code.rangeFunc gop ps assign body).wpIn Fence.wide n Tryz.prog Q a w := by
  refine rf_outer2 (σ := (σ × List (List Int) × Nat) × Option World) (At := fun q q' vs X => ∃ st d dv, q.1.2.1 = st ++ [d] ∧ vs = #[dv] ∧ X.ownsRow (w.heap.size + 2) 3 1 dv (proL m.cons d).length ((proL m.cons d).map (Value.int .i64)) ∧ OkD m.cons m.doms.length d ∧ q' = ((nx q.1.1 (proL m.cons d), st ++ (kids (proL m.cons d)).reverse, q.1.2.2), some X)) (Kp := fun _ _ => True) (S := fun q => q.1.2.1 = []) (Sp := fun _ => True)
    rfl (by omega) hg trivial (enters_of Tryz.func90 (by kernel_rfl) rfl) (fun _ _ => trivial) (fun _ _ _ _ _ _ _ _ => trivial) (fun q q' vs X h => by obtain ⟨_, _, _, _, rfl, _⟩ := h; rw [hps]; rfl)
    (fun q X => I q.1.1 q.1.2.1 q.1.2.2 X ∧ w.heap.size + 2 ≤ q.1.2.2 ∧ ∀ X0, q.2 = some X0 → KpV (w.heap.size + 2) q.1.2.2 X0 X) (fun c _ X => Ix c X)
    (fun q q' vs a' X => ∃ st d dv X0, q.1.2.1 = st ++ [d] ∧ X.ownsRow (w.heap.size + 2) 3 1 dv (proL m.cons d).length ((proL m.cons d).map (Value.int .i64)) ∧ OkD m.cons m.doms.length d ∧ q' = ((nx q.1.1 (proL m.cons d), st ++ (kids (proL m.cons d)).reverse, q.1.2.2), some X0) ∧ KpV (w.heap.size + 2) q.1.2.2 X0 X ∧ a' = a₁ dv)
    ?_ ?_ ?_ ((s0, [m.doms], w.heap.size + 2), none) ⟨h0, Nat.le_refl _, fun X0 e => by cases e⟩ ?_ ?_ ?_ ?_ ?_
  · rintro q X Y row ⟨h1, h2, h3⟩ hgr hr
    exact ⟨hIo _ _ _ X Y row h1 hgr hr, h2, fun X0 e => (h3 X0 e).grown hgr (fun r e => (hr r e).2)⟩
  · exact fun c q X Y row h hgr hr => hIxo c X Y row h hgr hr
  · rintro q q' vs a' _ X Y row ⟨st, d, dv, X0, e1, e2, e3, e4, e5, e6⟩ hgr hr
    exact ⟨st, d, dv, X0, e1, own_keep' e2 (fun b cur _ hb => hgr.block b (Array.getElem?_eq_some_iff.1 hb).1 (fun e => by
      obtain ⟨o, ho, hc⟩ := (hr b e.symm).2
      rw [hb] at ho
      cases ho
      cases hc)), e3, e4, e5.grown hgr (fun r e => (hr r e).2), e6⟩
  · intro Rec RecX W1 hRec hRecX hB1 hs1 hI1 hR1 hY
    refine callsIn_wide.2 ((callsIn_wide.1 (visits1_any (σ := σ) (w.heap.size + 1) Bm Bw m w0 hrm hv (fun s st g X => I s st g X ∧ w.heap.size + 2 ≤ g ∧ w.heap.size + 2 ≤ X.heap.size ∧ Rec X) (fun X => ∃ c, Ix c X ∧ RecX c X) nx (fun s st g X h => hI _ _ _ _ h.1) ?_ W1 ?_ s0 ⟨by rw [hs1]; exact hI1.1, by omega, by omega, hR1⟩)).mono ?_)
    · rintro s st g g' X Y ⟨h1, h2, h3, h4⟩ he hgg
      have hys := he.size
      exact ⟨hIs s st g g' X Y h2 h1 he hgg, by omega, by omega, hRec X Y h4 (fun b h5 h6 => he.block b (by omega) (by omega))⟩
    · rintro s st d g X dv ⟨h1, h2, h3, h4⟩ ho hod
      rw [hs1] at ho ⊢
      obtain ⟨f0, tm, asg, bo, hrun, hR'⟩ := yieldAt_wide (m' := 7) (hY ((s, st ++ [d], g), none) ((nx s (proL m.cons d), st ++ (kids (proL m.cons d)).reverse, g), some X) #[dv] X ⟨⟨h1, h2, fun X0 e => by cases e⟩, h4⟩ ⟨st, d, dv, rfl, rfl, ho, hod, rfl⟩)
      refine ⟨f0, tm, asg, bo, hrun, hR'.mono ?_⟩
      rintro e X' (⟨rfl, ⟨⟨k1, k2, k3⟩, k4⟩, _⟩ | ⟨rfl, c, hh, hx⟩)
      · have := (k3 X rfl).size
        exact .inl ⟨rfl, ⟨k1, k2, by omega, k4⟩, k3 X rfl⟩
      · exact .inr ⟨rfl, c, hh, hx⟩
    · rintro e Y ⟨hv, (⟨s, g, h⟩ | ⟨c, h, hx⟩)⟩
      · exact ⟨hv, .inl ⟨((s, [], g), none), rfl, ⟨h.1, h.2.1, fun X0 e => by cases e⟩, h.2.2.2⟩⟩
      · exact ⟨hv, .inr ⟨((s0, [], 0), none), trivial, c, h, hx⟩⟩
  · rintro l q q' vs X K hi ⟨st, d, dv, e1, rfl, e2, e3, e4⟩ hK
    exact hassign l dv X K (hK _ X (KeepsFrom.refl _ _) trivial hi ⟨st, d, dv, X, e1, e2, e3, e4, KpV.refl _ _ _, rfl⟩)
  · rintro l q q' vs a' X hl hr ⟨h1, h2, h3⟩ ⟨st, d, dv, X0, e1, e2, e3, rfl, e5, rfl⟩
    rw [e1] at h1
    refine wpIn_mono (hbody l _ st d _ X dv hl hr h1 h2 e2 e3) ?_
    intro e a3 X3 hp
    cases e with
    | normal => exact ⟨hp.1, trivial, hp.2.2, h2, fun X1 e => by cases e; exact e5.trans hp.2.1⟩
    | ret => exact ⟨hp.1, hp.2⟩
    | exit id => exact ⟨hp.1, hp.2⟩
    | goto t => exact ⟨hp.1, hp.2⟩
    | panic ch => exact hp.elim
    | outgrown => exact hp.elim
  · rintro D q X hD hS h hK
    obtain ⟨⟨s, st, g⟩, ox⟩ := q
    simp only at hS h
    subst hS
    exact hdone D s g X hD h.1 hK
  · rintro D c q X hD _ h hK
    exact hstop D c X hD h hK
end Go.Proofs.YtnkbcciigdjcnaaGreatDoor
