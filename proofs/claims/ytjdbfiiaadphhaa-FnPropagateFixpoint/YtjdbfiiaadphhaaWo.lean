/- Worlds without one block: what is read beside the reader.  -/
import Derived.Test.YtjdbfiiaadphhaaDrL
namespace Go.Proofs.Ytjdbfiiaadphhaa
open Go.ChangeShapes Go.WideShapes Go.ChangeAt Go.RowKit
set_option linter.unusedVariables false
set_option linter.unusedSimpArgs false

/-- What is read in w is read in w'. -/
def Inc (w w' : World) : Prop := ∀ (p : Addr) (x : Value), w.cell? p = some x → w'.cell? p = some x
theorem Inc.of_below {w w' : World} (h : Below w.heap.size w w') : Inc w w' := fun p x hp => (h.cell (World.block_lt_of_cell? w _ hp)).trans hp
theorem RdInts.inc {w w' : World} {v : Value} {xs : List Int} (h : RdInts w v xs) (hb : Inc w w') : RdInts w' v xs := by
  obtain ⟨a, cap, e, h1, h2, h3⟩ := h
  refine ⟨a, cap, e, h1, h2, ?_⟩
  rcases h3 with h3 | ⟨b, off, ea, h3⟩
  · exact .inl h3
  · exact .inr ⟨b, off, ea, fun i hi => hb _ _ (h3 i hi)⟩
theorem RdRows.inc {w w' : World} {v : Value} {xs : List (List Int)} (h : RdRows w v xs) (hb : Inc w w') : RdRows w' v xs := by
  obtain ⟨a, cap, e, h1, h2, h3⟩ := h
  refine ⟨a, cap, e, h1, h2, ?_⟩
  rcases h3 with h3 | ⟨b, off, ea, h3⟩
  · exact .inl h3
  · refine .inr ⟨b, off, ea, fun i hi => ?_⟩
    obtain ⟨u, hu, hr⟩ := h3 i hi
    exact ⟨u, hb _ _ hu, hr.inc hb⟩
theorem RdCon.inc {w w' : World} {v : Value} {c : Con} (h : RdCon w v c) (hb : Inc w w') : RdCon w' v c := by
  obtain ⟨u2, u3, u5, e, h2, h3, h5⟩ := h
  exact ⟨u2, u3, u5, e, h2.inc hb, h3.inc hb, h5.inc hb⟩
theorem RdCons.inc {w w' : World} {v : Value} {cs : List Con} (h : RdCons w v cs) (hb : Inc w w') : RdCons w' v cs := by
  obtain ⟨a, cap, e, h1, h2, h3⟩ := h
  refine ⟨a, cap, e, h1, h2, ?_⟩
  rcases h3 with h3 | ⟨b, off, ea, h3⟩
  · exact .inl h3
  · refine .inr ⟨b, off, ea, fun i c hi => ?_⟩
    obtain ⟨u2, u3, u5, e0, e1, e2, e3, e4, r2, r3, r5⟩ := h3 i c hi
    exact ⟨u2, u3, u5, hb _ _ e0, hb _ _ e1, hb _ _ e2, hb _ _ e3, hb _ _ e4, r2.inc hb, r3.inc hb, r5.inc hb⟩
/-- The world without block B: what is read in it does not lie there. -/
def wo (B : Nat) (w : World) : World := { w with heap := w.heap.setIfInBounds B (.cells #[] 0) }
theorem wo_ne (B : Nat) (w : World) {k : Nat} (h : k ≠ B) : (wo B w).heap[k]? = w.heap[k]? := by
  show (w.heap.setIfInBounds B _)[k]? = _
  rw [Array.getElem?_setIfInBounds_ne (Ne.symm h)]
theorem wo_size (B : Nat) (w : World) : (wo B w).heap.size = w.heap.size := by
  show (w.heap.setIfInBounds B _).size = _
  rw [Array.size_setIfInBounds]
theorem wo_at (B : Nat) (w : World) {p : Addr} {x : Value} (h : (wo B w).cell? p = some x) : p.block ≠ B ∧ w.cell? p = some x := by
  have hb := World.block_lt_of_cell? _ _ h
  rw [wo_size] at hb
  by_cases e : p.block = B
  · exfalso
    unfold World.cell? at h
    rw [show (wo B w).heap[p.block]? = some (.cells #[] 0) from by show (w.heap.setIfInBounds B _)[p.block]? = _; rw [e, Array.getElem?_setIfInBounds_self_of_lt (by omega)]] at h
    simp at h
  · refine ⟨e, ?_⟩
    unfold World.cell? at h ⊢
    rw [wo_ne B w e] at h
    exact h
theorem wo_mk (B : Nat) (w : World) {p : Addr} {x : Value} (e : p.block ≠ B) (h : w.cell? p = some x) : (wo B w).cell? p = some x := by
  unfold World.cell? at h ⊢
  rw [wo_ne B w e]
  exact h
theorem wo_inc (B : Nat) (w : World) : Inc (wo B w) w := fun p x h => (wo_at B w h).2
theorem wo_cell_same {w w' : World} {p : Addr} (h : w'.heap[p.block]? = w.heap[p.block]?) : w'.cell? p = w.cell? p := by
  unfold World.cell?
  rw [h]
theorem wo_below {B : Nat} {w w' : World} (h : Below w.heap.size w w') : Inc (wo B w) (wo B w') := fun p x hp => by
  obtain ⟨e, h1⟩ := wo_at B w hp
  exact wo_mk B w' e ((h.cell (World.block_lt_of_cell? w _ h1)).trans h1)
theorem wo_keep {B : Nat} {w w' : World} (h : ∀ k, k < w.heap.size → k ≠ B → w'.heap[k]? = w.heap[k]?) : Inc (wo B w) (wo B w') := fun p x hp => by
  obtain ⟨e, h1⟩ := wo_at B w hp
  exact wo_mk B w' e ((wo_cell_same (h _ (World.block_lt_of_cell? w _ h1) e)).trans h1)
theorem own_wo {B base : Nat} {w : World} {e : TypeId} {sz n : Nat} {v : Value} {xs : List Value} (h : w.ownsRow base e sz v n xs) (hB : B < base) : (wo B w).ownsRow base e sz v n xs := by
  refine ⟨h.1, ?_⟩
  rcases h.2 with h2 | ⟨g, cap, cur, e, h3, hg, rest⟩
  · exact .inl h2
  · exact .inr ⟨g, cap, cur, e, h3, (wo_ne B w (by omega)).trans hg, rest⟩
theorem own_form {w : World} {B : Nat} {e : TypeId} {sz n : Nat} {v : Value} {xs : List Value} (h : w.ownsRow B e sz v n xs) : ∃ a c, v = .slice a n c ∧ n ≤ c ∧ c ≤ maxLen := by
  rcases h.2 with ⟨e, h0⟩ | ⟨g, cap, cur, e, _, _, h3, h4, _⟩
  · exact ⟨none, 0, by rw [e, h0], by omega, by decide⟩
  · exact ⟨_, cap, e, h3, h4⟩
theorem own_at {w : World} {B g n c : Nat} {e : TypeId} {sz : Nat} {xs : List Value} (h : w.ownsRow B e sz (.slice (some ⟨g, 0, none⟩) n c) n xs) : B ≤ g ∧ g < w.heap.size := by
  rcases h.2 with ⟨e, _⟩ | ⟨g', cap, cur, e, hB, hg, _⟩
  · cases e
  · simp at e; obtain ⟨rfl, rfl⟩ := e; exact ⟨hB, (Array.getElem?_eq_some_iff.1 hg).1⟩
end Go.Proofs.Ytjdbfiiaadphhaa
