/- An outermost range over a function, with the loop's records told block by block. -/
import Derived.Test.YtkmdkbnphmadpaaRfW
namespace Go.Proofs.Ytkmdkbnphmadpaa
open Go.RowKit
set_option linter.unusedVariables false
set_option linter.unusedSimpArgs false

/-- A fact on the blocks lo .. hi - 1 alone. -/
def KeptAt (lo hi : Nat) (R : World → Prop) : Prop := ∀ X Y, R X → (∀ b, lo ≤ b → b < hi → Y.heap[b]? = X.heap[b]?) → R Y

section
variable {F : Fence} {n : Nat} {P : Program}

/-- An outermost loop. -/
theorem rf_outer2 {σ : Type} {g : Operand} {ps : Array Tmp} {assign body : Code} {Q : Exit → Act → World → Prop} {a : Act} {w : World}
    (hro : F.round = none) (h1 : 1 ≤ n) {gf : Nat} {lb : Array Value} (hg : a.eval g = .func (.func gf) #[] lb) (hFg : F.fn gf) (eg : ∀ args w, (callFunc gf args).run P w = .ok (.enter gf args) w)
    {At : σ → σ → Array Value → World → Prop} {Kp : World → World → Prop} {S Sp : σ → Prop}
    (hKt : ∀ {A B C : World}, Kp A B → Kp B C → Kp A C)
    (hKb : ∀ (W : World) (l : Nat) (o o' : Obj), w.heap.size ≤ l → l < w.heap.size + 2 → W.heap[l]? = some o → o.isCells = false → Kp W (W.putObj l o'))
    (hps : ∀ s s' vs W, At s s' vs W → vs.size = ps.size)
    (I : σ → World → Prop) (Ix : Code → σ → World → Prop) (Ax : σ → σ → Array Value → Act → World → Prop)
    (hI : OwnFrom w.heap.size I) (hIx : ∀ c, OwnFrom w.heap.size (Ix c)) (hAx : ∀ s s' vs a', OwnFrom w.heap.size (fun (_ : Unit) W => Ax s s' vs a' W)) (s0 : σ) (h0 : I s0 w)
    (hseq : ∀ (Rec : World → Prop) (RecX : Code → World → Prop) (W1 : World), KeptAt w.heap.size (w.heap.size + 2) Rec → (∀ c, KeptAt w.heap.size (w.heap.size + 2) (RecX c)) →
      Below w.heap.size w W1 → W1.heap.size = w.heap.size + 2 → I s0 W1 → Rec W1 →
      (∀ s s' vs W, I s W ∧ Rec W → At s s' vs W → YieldAt F (n - 1 - 1) P (w.heap.size + 1) vs W (YieldPost Rec RecX Kp I Ix s' W)) →
      CallsIn F (n - 1) P gf (#[.func (.yield (w.heap.size + 1)) #[] #[]] ++ lb) W1 (SeqPost Rec RecX S Sp I Ix))
    (hassign : ∀ (l : Nat) (s s' : σ) (vs : Array Value) (W : World) (K : Act → World → Prop), I s W → At s s' vs W →
      (∀ a' W', KeepsFrom w.heap.size W W' → Kp W W' → I s W' → Ax s s' vs a' W' → K a' W') →
      assign.wpIn (F.inRound l) (n - 1 - 1) P (Exit.then K (fun _ _ _ => False)) { tmps := (ps.zip vs).foldl (fun t (p, v) => t.setIfInBounds p v) a.tmps, defers := [] } W)
    (hbody : ∀ (l : Nat) (s s' : σ) (vs : Array Value) (a' : Act) (W : World), l = w.heap.size + 1 → (∃ r, W.heap[l]? = some (.loop r)) → I s W → Ax s s' vs a' W →
      body.wpIn (F.inRound l) (n - 1 - 1) P (outPost w.heap.size Kp I Ix s' W) a' W)
    (hdone : ∀ (D : Nat) (s : σ) (W : World), w.heap.size ≤ D → S s → I s W → W.heap[D]? = some (.deferred (some [])) → Q .normal { a with defers := { target := .collected D, args := #[] } :: a.defers } W)
    (hstop : ∀ (D : Nat) (c : Code) (s : σ) (W : World), w.heap.size ≤ D → Sp s → Ix c s W → W.heap[D]? = some (.deferred (some [])) → c.wpIn F n P Q { a with defers := { target := .collected D, args := #[] } :: a.defers } W) :
    (Code.rangeFunc g ps assign body).wpIn F n P Q a w := by
  have two : ∀ (W : World) (r r' : Loop), W.heap[w.heap.size + 1]? = some (.loop r) → W.heap[w.heap.size]? = some (.deferred (some [])) → (W.putObj (w.heap.size + 1) (.loop r')).heap[w.heap.size]? = some (.deferred (some [])) :=
    fun W r r' _ h => (World.putObj_heap_other (by omega)).trans h
  refine rf_core (L := w.heap.size + 1) (D := w.heap.size) (mark := [{ target := .collected w.heap.size, args := #[] }]) h1 hg hFg eg (At := At) (Kp := Kp) (S := S) (Sp := Sp)
    (fun s W => I s W ∧ W.heap[w.heap.size]? = some (.deferred (some []))) (fun c s W => Ix c s W ∧ W.heap[w.heap.size]? = some (.deferred (some []))) Ax
    (fun h k => hKt h k) (fun W r r' hl => hKb W _ _ _ (by omega) (by omega) hl rfl) ?_ ?_ ?_ hps ?_ ?_ ?_ ?_ ?_
  · exact fun W r r' s hl h => ⟨hI.putObj _ h.1 (by omega) hl rfl, two W r r' hl h.2⟩
  · exact fun W r r' c s hl h => ⟨(hIx c).putObj _ h.1 (by omega) hl rfl, two W r r' hl h.2⟩
  · exact fun W r r' s s' vs a' hl h => (hAx s s' vs a').putObj (s := ()) _ h (by omega) hl rfl
  · intro fn hfn
    obtain ⟨W1, hW1⟩ : ∃ W1, (w.alloc (.deferred (some []))).alloc (.loop (recOf a ps assign body w.heap.size fn .ready none)) = W1 := ⟨_, rfl⟩
    have hL1 : W1.heap[w.heap.size + 1]? = some (.loop (recOf a ps assign body w.heap.size fn .ready none)) := by
      rw [← hW1]; have := World.alloc_heap_new (w.alloc (.deferred (some []))) (.loop (recOf a ps assign body w.heap.size fn .ready none)); rwa [World.size_alloc] at this
    have hK1 : W1.heap[w.heap.size]? = some (.deferred (some [])) := by
      rw [← hW1]; exact (Below.heap_alloc _ _ _ (by simp)).trans (World.alloc_heap_new w _)
    refine ⟨W1, by rw [← hW1, hro]; exact run_enterLoop_outer _ _ _ _ _, fun hY => ?_⟩
    refine (hseq (fun W => W.heap[w.heap.size]? = some (.deferred (some [])) ∧ W.heap[w.heap.size + 1]? = some (.loop (recOf a ps assign body w.heap.size fn .ready none)))
      (fun c W => W.heap[w.heap.size]? = some (.deferred (some [])) ∧ W.heap[w.heap.size + 1]? = some (.loop (recOf a ps assign body w.heap.size fn .done (some c)))) W1 ?_ ?_ ?_ ?_ ?_ ⟨hK1, hL1⟩ ?_).mono ?_
    · exact fun X Y hX h => ⟨(h _ (by omega) (by omega)).trans hX.1, (h _ (by omega) (by omega)).trans hX.2⟩
    · exact fun c X Y hX h => ⟨(h _ (by omega) (by omega)).trans hX.1, (h _ (by omega) (by omega)).trans hX.2⟩
    · rw [← hW1]; exact ((Below.refl _ w).alloc (Nat.le_refl _) _).alloc (by simp) _
    · rw [← hW1]; simp
    · rw [← hW1]; exact hI.alloc _ (hI.alloc _ h0)
    · rintro s s' vs W ⟨hi, hk, hl⟩ hat
      obtain ⟨f0, tm, as, bo, hr, hR⟩ := hY s s' vs W ⟨⟨hi, hk⟩, hl⟩ hat
      refine ⟨f0, tm, as, bo, hr, hR.mono ?_⟩
      rintro e W' (⟨rfl, ⟨⟨hi', hk'⟩, hl'⟩, hkp⟩ | ⟨rfl, c, ⟨hi', hk'⟩, hl'⟩)
      · exact .inl ⟨rfl, ⟨hi', hk', hl'⟩, hkp⟩
      · exact .inr ⟨rfl, c, hi', hk', hl'⟩
    · rintro e W' ⟨hv, (⟨s, hS, hi', hk', hl'⟩ | ⟨s, hS, c, hi', hk', hl'⟩)⟩
      · exact ⟨hv, .inl ⟨s, hS, ⟨hi', hk'⟩, hl'⟩⟩
      · exact ⟨hv, .inr ⟨s, hS, c, ⟨hi', hk'⟩, hl'⟩⟩
  · rintro s s' vs W K ⟨r, hl⟩ ⟨hi, hk⟩ hat hK
    exact hassign _ s s' vs W K hi hat fun a' W' hkf hkp hi' hax => hK a' W' ((hkf.same _ _ (by omega) hl rfl).trans hl.symm) hkp ⟨hi', hkf.same _ _ (Nat.le_refl _) hk rfl⟩ hax
  · rintro s s' vs a' W ⟨r, hl⟩ ⟨hi, hk⟩ hax
    refine wpIn_mono (hbody _ s s' vs a' W rfl ⟨r, hl⟩ hi hax) ?_
    intro e a3 W3 hp
    cases e with
    | normal => exact ⟨(hp.1.same _ _ (by omega) hl rfl).trans hl.symm, hp.2.1, hp.2.2, hp.1.same _ _ (Nat.le_refl _) hk rfl⟩
    | ret => exact ⟨(hp.1.same _ _ (by omega) hl rfl).trans hl.symm, hp.2, hp.1.same _ _ (Nat.le_refl _) hk rfl⟩
    | exit id => exact ⟨(hp.1.same _ _ (by omega) hl rfl).trans hl.symm, hp.2, hp.1.same _ _ (Nat.le_refl _) hk rfl⟩
    | goto t => exact ⟨(hp.1.same _ _ (by omega) hl rfl).trans hl.symm, hp.2, hp.1.same _ _ (Nat.le_refl _) hk rfl⟩
    | panic ch => exact hp.elim
    | outgrown => exact hp.elim
  · exact fun s W hS h => hdone _ s W (Nat.le_refl _) hS h.1 h.2
  · exact fun c s W hS h => hstop _ c s W (Nat.le_refl _) hS h.1 h.2
end
end Go.Proofs.Ytkmdkbnphmadpaa
