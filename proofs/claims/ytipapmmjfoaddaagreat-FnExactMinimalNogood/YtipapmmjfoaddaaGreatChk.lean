/- The proof checker between its calls. -/
import Derived.Test.YtipapmmjfoaddaaGreatLitK
import Derived.Test.YtipapmmjfoaddaaGreatProI
import Derived.Test.YtipapmmjfoaddaaGreatFxc
namespace Go.Proofs.YtipapmmjfoaddaaGreat
open Go.ChangeShapes Go.WideShapes Go.ChangeAt Go.RowKit Go.Deep Go.Shelf
set_option linter.unusedVariables false
set_option linter.unusedSimpArgs false

/-- The blocks of the clauses. -/
def ClB (vals : List Value) (b : Nat) : Prop := ∃ u, u ∈ vals ∧ u.ownBlock = some b
/-- The checker of a model whose constraints cs and domains ds lie in w0, with clauses cls of its own. -/
structure Chk (w0 : World) (cs : List Con) (ds : List Int) (D : Nat) (pv dv cv : Value) (P : List (Value × Nat × Value)) (vals : List Value) (cls : List (List Lit)) (X : World) : Prop where
  b : Below w0.heap.size w0 X
  hD : w0.heap.size ≤ D
  box : X.heap[D]? = some (.cells #[pv, dv, cv] 129 (0, 0))
  pr : X.ownsRow w0.heap.size 113 2 pv P.length (flatP P)
  po : PrOf w0 cs P
  dr : RdInts w0 dv ds
  row : X.ownsRow w0.heap.size 158 1 cv cls.length vals
  cl : ∀ (i : Nat) (ls : List Lit), cls[i]? = some ls → ∃ u ks, vals[i]? = some u ∧ ks.Perm ls ∧ OwnC X w0.heap.size u ls.length ks
  ap : ∀ (i j : Nat) (u v : Value) (g : Nat), vals[i]? = some u → vals[j]? = some v → i ≠ j → u.ownBlock = some g → v.ownBlock ≠ some g
theorem Chk.lt {w0 : World} {cs : List Con} {ds : List Int} {D : Nat} {pv dv cv : Value} {P : List (Value × Nat × Value)} {vals : List Value} {cls : List (List Lit)} {X : World} (h : Chk w0 cs ds D pv dv cv P vals cls X) : D < X.heap.size := (Array.getElem?_eq_some_iff.1 h.box).1
theorem Chk.len {w0 : World} {cs : List Con} {ds : List Int} {D : Nat} {pv dv cv : Value} {P : List (Value × Nat × Value)} {vals : List Value} {cls : List (List Lit)} {X : World} (h : Chk w0 cs ds D pv dv cv P vals cls X) : vals.length = cls.length := by
  have := h.row.1
  simpa using this
theorem Chk.step {w0 : World} {cs : List Con} {ds : List Int} {D : Nat} {pv dv cv : Value} {P : List (Value × Nat × Value)} {vals : List Value} {cls : List (List Lit)} {X Y : World} (h : Chk w0 cs ds D pv dv cv P vals cls X) (hb : Below X.heap.size X Y) : Chk w0 cs ds D pv dv cv P vals cls Y :=
  ⟨h.b.trans (hb.mono h.b.size), h.hD, (hb.block _ h.lt).trans h.box, own_below h.pr hb, h.po, h.dr, own_below h.row hb, fun i ls hi => by
    obtain ⟨u, ks, h1, h2, h3⟩ := h.cl i ls hi
    exact ⟨u, ks, h1, h2, h3.below hb⟩, h.ap⟩
theorem Chk.cell {w0 : World} {cs : List Con} {ds : List Int} {D : Nat} {pv dv cv : Value} {P : List (Value × Nat × Value)} {vals : List Value} {cls : List (List Lit)} {X : World} (h : Chk w0 cs ds D pv dv cv P vals cls X) : X.cell? ⟨D, 0, none⟩ = some pv ∧ X.cell? ⟨D, 1, none⟩ = some dv ∧ X.cell? ⟨D, 2, none⟩ = some cv := by
  have := h.box
  simp [World.cell?, this]
/-- The blocks of the clauses hold literals, and are the call's own. -/
theorem Chk.clB {w0 : World} {cs : List Con} {ds : List Int} {D : Nat} {pv dv cv : Value} {P : List (Value × Nat × Value)} {vals : List Value} {cls : List (List Lit)} {X : World} (h : Chk w0 cs ds D pv dv cv P vals cls X) {b : Nat} (hb : ClB vals b) : w0.heap.size ≤ b ∧ b < X.heap.size ∧ ∃ cur, X.heap[b]? = some (.cells cur 91 (0, 0)) := by
  obtain ⟨u, hu, hub⟩ := hb
  obtain ⟨i, hi, e⟩ := List.mem_iff_getElem.1 hu
  have hl := h.len
  obtain ⟨u', ks, h1, h2, h3⟩ := h.cl i (cls[i]'(by omega)) (List.getElem?_eq_getElem (by omega))
  rw [List.getElem?_eq_getElem hi, e] at h1
  obtain rfl := Option.some.inj h1
  exact ownBlk h3.2 hub
theorem OffB.next {S T : Nat → Prop} {X Y Z : World} (h : OffB S X Y) (k : OffB T Y Z) (hi : ∀ b, b < X.heap.size → T b → S b) : OffB S X Z :=
  ⟨k.os.trans h.os, k.tape.trans h.tape, k.output.trans h.output, Nat.le_trans h.size k.size, fun b hb hs => (k.block b (Nat.lt_of_lt_of_le hb h.size) (fun t => hs (hi b hb t))).trans (h.block b hb hs)⟩
section
theorem tyLP : (91 : TypeId) ≠ 113 := by decide
theorem tyLC : (91 : TypeId) ≠ 158 := by decide
theorem tyLK : (91 : TypeId) ≠ 129 := by decide
theorem tyIP : (3 : TypeId) ≠ 113 := by decide
theorem tyIC : (3 : TypeId) ≠ 158 := by decide
theorem tyIK : (3 : TypeId) ≠ 129 := by decide
end
theorem blkNe {X : World} {b b' : Nat} {c c' : Array Value} {t t' : TypeId} (h : X.heap[b]? = some (.cells c t (0, 0))) (h' : X.heap[b']? = some (.cells c' t' (0, 0))) (hne : t ≠ t') : b ≠ b' := by
  intro e
  subst e
  rw [h] at h'
  cases h'
  exact hne rfl
/-- One clause has propagated. -/
theorem Chk.prop {w0 : World} {cs : List Con} {ds : List Int} {D : Nat} {pv dv cv : Value} {P : List (Value × Nat × Value)} {vals : List Value} {cls : List (List Lit)} {X Y : World} (h : Chk w0 cs ds D pv dv cv P vals cls X) {i gd : Nat} {ls : List Lit} {u : Value} {cur : Array Value} (hi : cls[i]? = some ls) (hu : vals[i]? = some u)
    (hoff : OffB (fun b => u.ownBlock = some b ∨ b = gd) X Y) (hg : X.heap[gd]? = some (.cells cur 3 (0, 0))) (hg0 : w0.heap.size ≤ gd) (hc : ∃ ks, ks.Perm ls ∧ OwnC Y w0.heap.size u ls.length ks) : Chk w0 cs ds D pv dv cv P vals cls Y := by
  have hub : ∀ b, u.ownBlock = some b → w0.heap.size ≤ b ∧ b < X.heap.size ∧ ∃ cur, X.heap[b]? = some (.cells cur 91 (0, 0)) := fun b hb => h.clB ⟨u, List.mem_of_getElem? hu, hb⟩
  have keep : ∀ (b : Nat) (c : Array Value) (t : TypeId), X.heap[b]? = some (.cells c t (0, 0)) → 91 ≠ t → 3 ≠ t → Y.heap[b]? = X.heap[b]? := fun b c t hb h1 h2 => hoff.block b (Array.getElem?_eq_some_iff.1 hb).1 (by
    rintro (e | rfl)
    · obtain ⟨_, _, c', hc'⟩ := hub b e
      exact blkNe hc' hb h1 rfl
    · exact blkNe hg hb h2 rfl)
  refine ⟨h.b.trans (hoff.below h.b.size (fun b hb => ?_)), h.hD, (keep _ _ _ h.box tyLK tyIK).trans h.box, ownKeep h.pr (fun b hb => ?_), h.po, h.dr, ownKeep h.row (fun b hb => ?_), fun j ks hj => ?_, h.ap⟩
  · rcases hb with hb | rfl
    · exact (hub b hb).1
    · exact hg0
  · obtain ⟨_, _, c, hc⟩ := ownBlk h.pr hb
    exact keep _ _ _ hc tyLP tyIP
  · obtain ⟨_, _, c, hc⟩ := ownBlk h.row hb
    exact keep _ _ _ hc tyLC tyIC
  · by_cases e : j = i
    · subst e
      rw [hi] at hj
      obtain rfl := Option.some.inj hj
      obtain ⟨ks, h1, h2⟩ := hc
      exact ⟨u, ks, hu, h1, h2⟩
    · obtain ⟨v, ks', h1, h2, h3⟩ := h.cl j ks hj
      refine ⟨v, ks', h1, h2, h3.keep (fun b hb => ?_)⟩
      obtain ⟨_, hlt, c, hc⟩ := ownBlk h3.2 hb
      refine hoff.block b hlt ?_
      rintro (e' | rfl)
      · exact h.ap j i v u b h1 hu e hb e'
      · exact blkNe hc hg litNeInt rfl
end Go.Proofs.YtipapmmjfoaddaaGreat
