/- Frames: the blocks of a set may turn, new blocks come; nothing else. -/
import Derived.Test.YtjdbfiiaadphhaaWo
namespace Go.Proofs.Ytjdbfiiaadphhaa
open Go.ChangeShapes Go.WideShapes Go.ChangeAt Go.RowKit
set_option linter.unusedVariables false
set_option linter.unusedSimpArgs false

/-- The world without the blocks of Q. -/
def av (Q : Nat → Bool) (w : World) : World := { w with heap := w.heap.mapIdx (fun i o => if Q i then .cells #[] 0 else o) }
theorem av_heap (Q : Nat → Bool) (w : World) (k : Nat) : (av Q w).heap[k]? = (w.heap[k]?).map (fun o => if Q k then .cells #[] 0 else o) := by
  show (w.heap.mapIdx _)[k]? = _
  rw [Array.getElem?_mapIdx]
theorem av_ne (Q : Nat → Bool) (w : World) {k : Nat} (h : Q k = false) : (av Q w).heap[k]? = w.heap[k]? := by
  rw [av_heap, h]
  simp
theorem av_at (Q : Nat → Bool) (w : World) {p : Addr} {x : Value} (h : (av Q w).cell? p = some x) : Q p.block = false ∧ w.cell? p = some x := by
  cases e : Q p.block
  · refine ⟨rfl, ?_⟩
    unfold World.cell? at h ⊢
    rw [av_ne Q w e] at h
    exact h
  · exfalso
    unfold World.cell? at h
    rw [av_heap, e] at h
    cases hw : w.heap[p.block]? with
    | none => rw [hw] at h; simp at h
    | some o => rw [hw] at h; simp at h
theorem av_mk (Q : Nat → Bool) (w : World) {p : Addr} {x : Value} (e : Q p.block = false) (h : w.cell? p = some x) : (av Q w).cell? p = some x := by
  unfold World.cell? at h ⊢
  rw [av_ne Q w e]
  exact h
theorem av_inc (Q : Nat → Bool) (w : World) : Inc (av Q w) w := fun p x h => (av_at Q w h).2
theorem av_wo (Q : Nat → Bool) (B : Nat) (hB : Q B = true) (w : World) : Inc (av Q w) (wo B w) := fun p x h => by
  obtain ⟨e, h1⟩ := av_at Q w h
  exact wo_mk B w (by intro e2; rw [e2, hB] at e; cases e) h1
theorem wo_av (Q : Nat → Bool) (B : Nat) (w : World) (hQ : ∀ k, k < w.heap.size → Q k = true → k = B) : Inc (wo B w) (av Q w) := fun p x h => by
  obtain ⟨e, h1⟩ := wo_at B w h
  refine av_mk Q w ?_ h1
  cases hq : Q p.block
  · rfl
  · exact absurd (hQ _ (World.block_lt_of_cell? w _ h1) hq) e
/-- Of the blocks of a, only those of Q may have turned. -/
structure Fr (Q : Nat → Bool) (a w : World) : Prop where
  os : w.os = a.os
  tape : w.tape = a.tape
  output : w.output = a.output
  size : a.heap.size ≤ w.heap.size
  block : ∀ k, k < a.heap.size → Q k = false → w.heap[k]? = a.heap[k]?
theorem Fr.refl (Q : Nat → Bool) (a : World) : Fr Q a a := ⟨rfl, rfl, rfl, Nat.le_refl _, fun _ _ _ => rfl⟩
theorem Fr.trans {Q : Nat → Bool} {a b c : World} (h : Fr Q a b) (k : Fr Q b c) : Fr Q a c :=
  ⟨k.os.trans h.os, k.tape.trans h.tape, k.output.trans h.output, Nat.le_trans h.size k.size, fun i hi hq => (k.block i (Nat.lt_of_lt_of_le hi h.size) hq).trans (h.block i hi hq)⟩
theorem Fr.of_below {Q : Nat → Bool} {a w : World} (h : Below a.heap.size a w) : Fr Q a w := ⟨h.os, h.tape, h.output, h.size, fun k hk _ => h.block k hk⟩
theorem Fr.low {Q : Nat → Bool} {a w w' : World} (h : Fr Q a w) (hb : Below a.heap.size w w') : Fr Q a w' :=
  ⟨hb.os.trans h.os, hb.tape.trans h.tape, hb.output.trans h.output, Nat.le_trans h.size hb.size, fun k hk hq => (hb.block k hk).trans (h.block k hk hq)⟩
theorem Fr.alloc {Q : Nat → Bool} {a w : World} (h : Fr Q a w) (o : Obj) : Fr Q a (w.alloc o) := h.low ((Below.refl _ _).alloc h.size o)
theorem Fr.grown {Q : Nat → Bool} {a w w' : World} {row : Option Nat} (h : Fr Q a w) (hg : w.grownBy w' row) (hr : ∀ k, row = some k → a.heap.size ≤ k) : Fr Q a w' :=
  h.low ((Below.refl _ w).grown hg h.size hr)
theorem Fr.setCell {Q : Nat → Bool} {a w : World} (h : Fr Q a w) {p : Addr} (hp : Q p.block = true) (v : Value) : Fr Q a (w.setCell p v) := by
  have hb : Below 0 w (w.setCell p v) := (Below.refl 0 w).setCell (p := p) (Nat.zero_le _) v
  exact ⟨hb.os.trans h.os, hb.tape.trans h.tape, hb.output.trans h.output, Nat.le_trans h.size hb.size, fun j hj hq => (Below.heap_setCell w _ v j (by intro e; rw [← e] at hp; rw [hp] at hq; cases hq)).trans (h.block j hj hq)⟩
theorem Fr.inc {Q : Nat → Bool} {a w : World} (h : Fr Q a w) : Inc (av Q a) (av Q w) := fun p x hp => by
  obtain ⟨e, h1⟩ := av_at Q a hp
  exact av_mk Q w e ((wo_cell_same (h.block _ (World.block_lt_of_cell? a _ h1) e)).trans h1)
theorem own_av {Q : Nat → Bool} {base : Nat} {w : World} {e : TypeId} {sz n : Nat} {v : Value} {xs : List Value} (h : w.ownsRow base e sz v n xs) (hQ : ∀ k, base ≤ k → Q k = false) : (av Q w).ownsRow base e sz v n xs := by
  refine ⟨h.1, ?_⟩
  rcases h.2 with h2 | ⟨g, cap, cur, e, h3, hg, rest⟩
  · exact .inl h2
  · exact .inr ⟨g, cap, cur, e, h3, (av_ne Q w (hQ g h3)).trans hg, rest⟩
theorem Fr.of_dn {Q : Nat → Bool} {B : Nat} {a w : World} (hQ : Q B = true) (h : Dn B a w) : Fr Q a w :=
  ⟨h.os, h.tape, h.output, h.size, fun k hk hq => h.block k hk (by intro e; rw [e, hQ] at hq; cases hq)⟩
theorem Dn.of_fr {Q : Nat → Bool} {B : Nat} {a w : World} (h : Fr Q a w) (hQ : ∀ k, k < a.heap.size → Q k = true → k = B) : Dn B a w :=
  ⟨h.os, h.tape, h.output, h.size, fun k hk hB => h.block k hk (by cases e : Q k; (· rfl); (· exact absurd (hQ k hk e) hB))⟩
theorem own_keepB {w w' : World} {B : Nat} {e : TypeId} {sz n : Nat} {v : Value} {xs : List Value} (h : w.ownsRow B e sz v n xs) (hk : ∀ b, v.ownBlock = some b → w'.heap[b]? = w.heap[b]?) : w'.ownsRow B e sz v n xs := by
  refine ⟨h.1, ?_⟩
  rcases h.2 with h2 | ⟨g, cap, cur, e, h3, hg, rest⟩
  · exact .inl h2
  · exact .inr ⟨g, cap, cur, e, h3, (hk g (by rw [e]; rfl)).trans hg, rest⟩

end Go.Proofs.Ytjdbfiiaadphhaa
