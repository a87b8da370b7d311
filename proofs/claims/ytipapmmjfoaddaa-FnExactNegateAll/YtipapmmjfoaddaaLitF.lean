/- UnitPropagate: the reference's, and the program's watched clause. -/
import Derived.Test.YtipapmmjfoaddaaLitE
import Derived.Test.YtipapmmjfoaddaaOrdX
import Derived.Lib.SliceRun
namespace Go.Proofs.Ytipapmmjfoaddaa
open Go.ChangeShapes Go.WideShapes Go.ChangeAt Go.RowKit Go.Deep Go.Shelf
set_option linter.unusedVariables false
set_option linter.unusedSimpArgs false

/-- UnitPropagate as plain data. -/
def uprL (ls : List Lit) (ds : List Int) : List Int := if (wiB ds.length 1 4 && allB ds 0 63) && clB ls ds.length then upL ls ds else []
theorem uprL_le (ls : List Lit) (ds : List Int) : (uprL ls ds).length ≤ 1048576 := by
  unfold uprL
  split
  · rename_i h
    rw [Bool.and_eq_true, Bool.and_eq_true] at h
    have := wiB_in h.1.1
    rw [upL_length]
    omega
  · exact Nat.zero_le _

/-- A clause, perhaps nil, in memory of the call's own. -/
def OwnC (w : World) (B : Nat) (v : Value) (m : Nat) (ls : List Lit) : Prop := ls.length = m ∧ w.ownsRow B 64 3 v m (cellsL ls)
/-- What is watched so far: k literals looked at, t of them watched, the clause now cs. -/
def watOk (ls : List Lit) (ds : List Int) (k t : Nat) (cs : List Lit) : Prop :=
  (∀ j, k ≤ j → cs[j]? = ls[j]?) ∧ ((t = 0 ∧ posL (ls.take k) ds = []) ∨ (∃ l, t = 1 ∧ 1 ≤ k ∧ posL (ls.take k) ds = [l] ∧ cs[0]? = some l) ∨ (t = 2 ∧ 2 ≤ k ∧ 2 ≤ (posL (ls.take k) ds).length))
theorem watOk.no {ls : List Lit} {ds : List Int} {k t : Nat} {cs : List Lit} (h : watOk ls ds k t cs) {l : Lit} (hl : ls[k]? = some l) (hp : posB ds l = false) : watOk ls ds (k + 1) t cs := by
  have e := posL_step ls ds k l hl
  rw [hp, if_neg Bool.false_ne_true, List.append_nil] at e
  refine ⟨fun j hj => h.1 j (by omega), ?_⟩
  rw [e]
  rcases h.2 with ⟨e1, e2⟩ | ⟨q, e1, e2, e3, e4⟩ | ⟨e1, e2, e3⟩
  · exact .inl ⟨e1, e2⟩
  · exact .inr (.inl ⟨q, e1, by omega, e3, e4⟩)
  · exact .inr (.inr ⟨e1, by omega, e3⟩)
theorem watOk.yes {ls : List Lit} {ds : List Int} {k t : Nat} {cs : List Lit} (h : watOk ls ds k t cs) {l o : Lit} (hl : ls[k]? = some l) (hp : posB ds l = true) (ht : t < 2) (hk : k < cs.length) : t ≤ k ∧ watOk ls ds (k + 1) (t + 1) ((cs.set k o).set t l) := by
  have e := posL_step ls ds k l hl
  rw [hp, if_pos rfl] at e
  have htk : t ≤ k := by
    rcases h.2 with ⟨e1, _⟩ | ⟨q, e1, e2, _⟩ | ⟨e1, _⟩ <;> omega
  refine ⟨htk, fun j hj => ?_, ?_⟩
  · rw [List.getElem?_set_ne (by omega), List.getElem?_set_ne (by omega)]
    exact h.1 j (by omega)
  · rw [e]
    rcases h.2 with ⟨e1, e2⟩ | ⟨q, e1, e2, e3, e4⟩ | ⟨e1, e2, e3⟩
    · subst e1
      refine .inr (.inl ⟨l, rfl, by omega, by rw [e2]; rfl, ?_⟩)
      rw [List.getElem?_set_self (by simp; omega)]
    · subst e1
      exact .inr (.inr ⟨rfl, by omega, by rw [e3]; exact Nat.le_refl _⟩)
    · omega
theorem watOk.start (ls : List Lit) (ds : List Int) : watOk ls ds 0 0 ls := ⟨fun _ _ => rfl, .inl ⟨rfl, rfl⟩⟩
theorem cellsL_set : ∀ (cs : List Lit) (k : Nat) (l : Lit), cellsL (cs.set k l) = (((cellsL cs).set (k * 3) (.int .i64 l.var)).set (k * 3 + 1) (.int .i64 l.val)).set (k * 3 + 2) (.bool l.neg)
  | [], k, l => by simp [cellsL]
  | a :: cs, 0, l => rfl
  | a :: cs, k + 1, l => by
    rw [List.set_cons_succ]
    simp only [cellsL]
    rw [cellsL_set cs k l, show (k + 1) * 3 = k * 3 + 1 + 1 + 1 from by omega]
    rfl
theorem OwnC.cells {w : World} {B g m c : Nat} {ls : List Lit} (h : OwnC w B (.slice (some ⟨g, 0, none⟩) m c) m ls) {i : Nat} {l : Lit} (hi : ls[i]? = some l) : LitAt g (i * 3) l w := by
  obtain ⟨t0, t1, t2⟩ := cellsL_at ls i l hi
  have k : ∀ q u, (cellsL ls)[q]? = some u → w.cell? ⟨g, q, none⟩ = some u := fun q u hu => by
    have := h.2.cells (g := g) rfl q u hu
    rw [addr_add, Nat.zero_add] at this
    exact this
  exact ⟨k _ _ t0, k _ _ t1, k _ _ t2⟩
theorem OwnC.frozen {w : World} {B g m c : Nat} {ls : List Lit} (h : OwnC w B (.slice (some ⟨g, 0, none⟩) m c) m ls) (i : Nat) : w.frozen? ⟨g, i, none⟩ = false := h.2.frozenAt i
/-- The world behind the store of a literal. -/
def setLit (w : World) (g p : Nat) (l : Lit) : World := ((w.setCell ⟨g, p, none⟩ (.int .i64 l.var)).setCell ⟨g, p + 1, none⟩ (.int .i64 l.val)).setCell ⟨g, p + 2, none⟩ (.bool l.neg)
theorem OwnC.set {w : World} {B g m c : Nat} {ls : List Lit} (h : OwnC w B (.slice (some ⟨g, 0, none⟩) m c) m ls) (k : Nat) (l : Lit) : OwnC (setLit w g (k * 3) l) B (.slice (some ⟨g, 0, none⟩) m c) m (ls.set k l) := by
  refine ⟨by rw [List.length_set]; exact h.1, ?_⟩
  rw [cellsL_set]
  have t0 := (h.2.stored (k * 3) (.int .i64 l.var)).1
  have t1 := (t0.stored (k * 3 + 1) (.int .i64 l.val)).1
  exact (t1.stored (k * 3 + 2) (.bool l.neg)).1
theorem setLit_below {B : Nat} {w0 w : World} (h : Below B w0 w) {g : Nat} (hg : B ≤ g) (p : Nat) (l : Lit) : Below B w0 (setLit w g p l) :=
  ((h.setCell (p := ⟨g, p, none⟩) hg _).setCell (p := ⟨g, p + 1, none⟩) hg _).setCell (p := ⟨g, p + 2, none⟩) hg _
theorem OwnC.below {w w' : World} {B : Nat} {v : Value} {m : Nat} {ls : List Lit} (h : OwnC w B v m ls) (hb : Below w.heap.size w w') : OwnC w' B v m ls := ⟨h.1, own_below h.2 hb⟩
theorem OwnC.form {w : World} {B : Nat} {v : Value} {m : Nat} {ls : List Lit} (h : OwnC w B v m ls) : ∃ a c, v = .slice a m c ∧ m ≤ c ∧ c ≤ 9223372036854775807 ∧ (0 < m → ∃ g, a = some ⟨g, 0, none⟩ ∧ B ≤ g) := by
  rcases h.2.2 with ⟨e, h0⟩ | ⟨g, cap, cur, e, hB, _, q1, q2, _⟩
  · exact ⟨none, 0, by rw [h0]; exact e, by omega, by omega, fun h => by omega⟩
  · unfold maxLen at q2
    exact ⟨_, cap, e, q1, by omega, fun _ => ⟨g, rfl, hB⟩⟩
section
theorem store_lit (w : World) (g p : Nat) (l k : Lit) (h : LitAt g p k w) (f0 : w.frozen? ⟨g, p, none⟩ = false) (f1 : w.frozen? ⟨g, p + 1, none⟩ = false) (f2 : w.frozen? ⟨g, p + 2, none⟩ = false) : (Instr.storeAt 64 (.pointer (some ⟨g, p, none⟩)) (.agg #[.int .i64 l.var, .int .i64 l.val, .bool l.neg])).run Try.prog w = .ok () (setLit w g p l) := by
  obtain ⟨h0, h1, h2⟩ := h
  unfold setLit
  go_simp
end

/-- The activation inside the region that swaps. -/
def waAct (z0 z1 z2 z3 z4 z5 z6 z7 z8 z9 z10 z11 z12 z13 z14 z15 z16 z17 z18 z19 z20 z21 z22 z23 z24 z25 z26 z27 z28 z29 z30 z31 z32 z33 z34 z35 z36 z37 z38 z39 : Value) : Act := { tmps := #[z0, z1, z2, z3, z4, z5, z6, z7, z8, z9, z10, z11, z12, z13, z14, z15, z16, z17, z18, z19, z20, z21, z22, z23, z24, z25, z26, z27, z28, z29, z30, z31, z32, z33, z34, z35, z36, z37, z38, z39], defers := [] }
/-- Outside of the blocks S, the world Y is as X was. -/
structure OffB (S : Nat → Prop) (X Y : World) : Prop where
  os : Y.os = X.os
  tape : Y.tape = X.tape
  output : Y.output = X.output
  size : X.heap.size ≤ Y.heap.size
  block : ∀ b, b < X.heap.size → ¬ S b → Y.heap[b]? = X.heap[b]?
theorem OffB.refl (S : Nat → Prop) (X : World) : OffB S X X := ⟨rfl, rfl, rfl, Nat.le_refl _, fun _ _ _ => rfl⟩
theorem OffB.trans {S : Nat → Prop} {X Y Z : World} (h : OffB S X Y) (k : OffB S Y Z) : OffB S X Z :=
  ⟨k.os.trans h.os, k.tape.trans h.tape, k.output.trans h.output, Nat.le_trans h.size k.size, fun b hb hs => (k.block b (Nat.lt_of_lt_of_le hb h.size) hs).trans (h.block b hb hs)⟩
theorem OffB.imp {S T : Nat → Prop} {X Y : World} (h : OffB S X Y) (hi : ∀ b, b < X.heap.size → S b → T b) : OffB T X Y := ⟨h.os, h.tape, h.output, h.size, fun b hb hs => h.block b hb (fun k => hs (hi b hb k))⟩
theorem OffB.of_below {S : Nat → Prop} {X Y : World} (h : Below X.heap.size X Y) : OffB S X Y := ⟨h.os, h.tape, h.output, h.size, fun b hb _ => h.block b hb⟩
theorem OffB.step {S : Nat → Prop} {X Y Z : World} (h : OffB S X Y) (hb : Below Y.heap.size Y Z) : OffB S X Z := h.trans (OffB.of_below hb)
theorem OffB.set {S : Nat → Prop} {X Y : World} (h : OffB S X Y) {g p : Nat} (u : Value) (hg : S g) : OffB S X (Y.setCell ⟨g, p, none⟩ u) :=
  h.trans ⟨rfl, rfl, rfl, by simp, fun b _ hs => Below.heap_setCell _ _ _ _ (by show b ≠ g; exact fun e => hs (e ▸ hg))⟩
theorem OffB.sets {S : Nat → Prop} {X : World} {g : Nat} (hg : S g) : ∀ (vs : List Value) (o : Nat) (Y : World), OffB S X Y → OffB S X (Y.setCells g o vs)
  | [], _, _, h => h
  | v :: vs, o, Y, h => OffB.sets hg vs (o + 1) _ (h.set v hg)
theorem OffB.below {S : Nat → Prop} {X Y : World} (h : OffB S X Y) {B : Nat} (hB : B ≤ X.heap.size) (hs : ∀ b, S b → B ≤ b) : Below B X Y :=
  ⟨h.os, h.tape, h.output, h.size, fun b hb => h.block b (Nat.lt_of_lt_of_le hb hB) (fun k => by have := hs b k; omega)⟩
/-- A row of the call's own stays where its block does. -/
theorem ownKeep {w w' : World} {B : Nat} {e : TypeId} {sz n : Nat} {v : Value} {xs : List Value} (h : w.ownsRow B e sz v n xs) (hk : ∀ b, v.ownBlock = some b → w'.heap[b]? = w.heap[b]?) : w'.ownsRow B e sz v n xs := by
  refine ⟨h.1, ?_⟩
  rcases h.2 with h2 | ⟨g, cap, cur, e, h3, hg, rest⟩
  · exact .inl h2
  · exact .inr ⟨g, cap, cur, e, h3, (hk g (by rw [e]; rfl)).trans hg, rest⟩
theorem ownBlk {w : World} {B : Nat} {e : TypeId} {sz n : Nat} {v : Value} {xs : List Value} (h : w.ownsRow B e sz v n xs) {b : Nat} (hb : v.ownBlock = some b) : B ≤ b ∧ b < w.heap.size ∧ ∃ cur, w.heap[b]? = some (.cells cur e (0, 0)) := by
  rcases h.2 with ⟨e', _⟩ | ⟨g, cap, cur, e', h3, hg, _⟩
  · rw [e'] at hb; cases hb
  · rw [e'] at hb
    injection hb with hb
    subst hb
    exact ⟨h3, (Array.getElem?_eq_some_iff.1 hg).1, cur, hg⟩
/-- Rows of different types lie apart. -/
theorem ownApart {w : World} {B B' : Nat} {e e' : TypeId} {sz sz' n n' : Nat} {v v' : Value} {xs xs' : List Value} (h : w.ownsRow B e sz v n xs) (h' : w.ownsRow B' e' sz' v' n' xs') (hne : e ≠ e') {b : Nat} (hb : v.ownBlock = some b) : v'.ownBlock ≠ some b := by
  intro hb'
  obtain ⟨_, _, cur, h1⟩ := ownBlk h hb
  obtain ⟨_, _, cur', h2⟩ := ownBlk h' hb'
  rw [h1] at h2
  cases h2
  exact hne rfl
theorem OwnC.keep {w w' : World} {B : Nat} {v : Value} {m : Nat} {ls : List Lit} (h : OwnC w B v m ls) (hk : ∀ b, v.ownBlock = some b → w'.heap[b]? = w.heap[b]?) : OwnC w' B v m ls := ⟨h.1, ownKeep h.2 hk⟩
theorem swapPerm {cs : List Lit} {k t : Nat} {l o : Lit} (hk : cs[k]? = some l) (ht : cs[t]? = some o) : ((cs.set k o).set t l).Perm cs := by
  obtain ⟨h1, e1⟩ := List.getElem?_eq_some_iff.1 hk
  obtain ⟨h2, e2⟩ := List.getElem?_eq_some_iff.1 ht
  have := List.set_set_perm h1 h2
  rw [e1, e2] at this
  exact this
/-- G outlives what a call makes, and stores into v's own block. -/
def GKeep (G : World → Prop) (v : Value) : Prop := (∀ X Y, G X → Below X.heap.size X Y → G Y) ∧ (∀ X g p u, G X → v.ownBlock = some g → G (X.setCell ⟨g, p, none⟩ u))
theorem GKeep.lit {G : World → Prop} {m c g : Nat} (h : GKeep G (.slice (some ⟨g, 0, none⟩) m c)) {X : World} (hX : G X) (p : Nat) (l : Lit) : G (setLit X g p l) :=
  h.2 _ g _ _ (h.2 _ g _ _ (h.2 _ g _ _ hX rfl) rfl) rfl
/-- What watch leaves. -/
def WatPost (ls : List Lit) (ds : List Int) (G : World → Prop) (B : Nat) (v : Value) (m : Nat) (e : Ending) (w' : World) : Prop := ∃ (t : Nat) (cs : List Lit), e = .returned (.int .i64 t) ∧ OwnC w' B v m cs ∧ cs.Perm ls ∧ G w' ∧ ((t = 0 ∧ posL ls ds = []) ∨ (∃ l, t = 1 ∧ posL ls ds = [l] ∧ cs[0]? = some l) ∨ (t = 2 ∧ 2 ≤ (posL ls ds).length))
end Go.Proofs.Ytipapmmjfoaddaa
