/- A range over a function whose iterator has memory of its own: the law is stated over the caller's own invariant (indexed by a state of the caller's choice), so that the iterator's contract may ask more of it. -/
import Derived.RangeFuncNested
import Derived.RangeFuncBound
import Derived.RangeFuncCalls
import Derived.RangeFuncLeaves
import Derived.RangeFuncBox
namespace Go.Proofs.Ytkmdkbnphmadpaa
open Go.RowKit
set_option linter.unusedVariables false
set_option linter.unusedSimpArgs false

/-- J abides a step that turns one block from B on which is no cells, or one of the k blocks from B on. -/
def Abide {β : Type} (B k : Nat) (J : β → World → Prop) : Prop :=
  ∀ s X Y row, J s X → X.grownBy Y row → (∀ r, row = some r → B ≤ r ∧ (r < B + k ∨ ∃ o : Obj, X.heap[r]? = some o ∧ o.isCells = false)) → J s Y
theorem Abide.own {β : Type} {B k : Nat} {J : β → World → Prop} (h : Abide B k J) : OwnFrom B J := fun s X Y row hs hg hr => h s X Y row hs hg (fun r e => ⟨(hr r e).1, .inr (hr r e).2⟩)
theorem Abide.alloc {β : Type} {B k : Nat} {J : β → World → Prop} (h : Abide B k J) {s : β} {W : World} (o : Obj) (hs : J s W) : J s (W.alloc o) :=
  h s W _ none hs (World.grownBy_alloc W o none) (fun r e => by cases e)
theorem Abide.set {β : Type} {B k : Nat} {J : β → World → Prop} (h : Abide B k J) {s : β} {W : World} {b : Nat} (v : Value) (hs : J s W) (h1 : B ≤ b) (h2 : b < B + k) : J s (W.setCell ⟨b, 0, none⟩ v) :=
  h s W _ (some b) hs (grownBy_setCell' W b v) (fun r e => by cases e; exact ⟨h1, .inl h2⟩)
theorem Abide.and {β : Type} {B k : Nat} {I I' : β → World → Prop} (h : Abide B k I) (h' : Abide B k I') : Abide B k (fun s W => I s W ∧ I' s W) := fun s W W' row hs hg hr => ⟨h s W W' row hs.1 hg hr, h' s W W' row hs.2 hg hr⟩
/-- What speaks of blocks outside B, B + 1, .. abides. -/
theorem abide_of {β : Type} {B k : Nat} {R : World → Prop} (h : ∀ X Y row, R X → X.grownBy Y row → (∀ r, row = some r → B ≤ r) → R Y) : Abide B k (fun (_ : β) W => R W) :=
  fun _ X Y row hs hg hr => h X Y row hs hg (fun r e => (hr r e).1)

/-- Where no depth is asked, a round may be as deep as it likes. -/
theorem yieldAt_wide {m m' : Nat} {P : Program} {l : Nat} {vs : Array Value} {W : World} {R : Ending → World → Prop} (h : YieldAt Fence.wide m P l vs W R) : YieldAt Fence.wide m' P l vs W R := by
  obtain ⟨f0, tm, asg, bo, hy, h1, h2⟩ := h
  exact ⟨f0, tm, asg, bo, hy, h1, fun c cs _ => h2 c cs (fun d hd => by cases hd)⟩

/-- Blocks lo, lo + 1, .., hi - 1 as they were, and so all from lo on that is no cells. -/
def KpI (lo hi : Nat) (W W' : World) : Prop := KeepsFrom lo W W' ∧ ∀ b, lo ≤ b → b < hi → W'.heap[b]? = W.heap[b]?
theorem KpI.trans {lo hi : Nat} {A B C : World} (h : KpI lo hi A B) (k : KpI lo hi B C) : KpI lo hi A C := ⟨h.1.trans k.1, fun b h1 h2 => (k.2 b h1 h2).trans (h.2 b h1 h2)⟩
theorem KpI.boxed {lo hi : Nat} {A B : World} (h : KpI lo hi A B) {b : Nat} {t : TypeId} {v : Value} (hb : Boxed A b t v) (h1 : lo ≤ b) (h2 : b < hi) : Boxed B b t v := (h.2 b h1 h2).trans hb

section
variable {F : Fence} {n : Nat} {P : Program}

/-- The record of a loop. -/
def recOf (a : Act) (ps : Array Tmp) (assign body : Code) (D : Nat) (fn : FuncId) (st : LoopState) (pe : Option Code) : Loop :=
  { state := st, pending := pe, fn := fn, tmps := a.tmps, params := ps, assign := assign, body := body, defers := D }

/-- What a round's body leaves behind: the loop's record as it was. -/
def endPost {σ : Type} (L : Nat) (Kp : World → World → Prop) (I : σ → World → Prop) (Ix : Code → σ → World → Prop) (s : σ) (W : World) : Exit → Act → World → Prop
  | .normal, _, W' => W'.heap[L]? = W.heap[L]? ∧ Kp W W' ∧ I s W'
  | .ret, _, W' => W'.heap[L]? = W.heap[L]? ∧ Ix .ret s W'
  | .exit id, _, W' => W'.heap[L]? = W.heap[L]? ∧ Ix (.exit id) s W'
  | .goto t, _, W' => W'.heap[L]? = W.heap[L]? ∧ Ix (.goto t) s W'
  | .panic _, _, _ => False
  | .outgrown, _, _ => False

/-- How a round answers. -/
def YieldPost {σ : Type} (Rec : World → Prop) (RecX : Code → World → Prop) (Kp : World → World → Prop) (I : σ → World → Prop) (Ix : Code → σ → World → Prop) (s : σ) (W : World) (e : Ending) (W' : World) : Prop :=
  (e = .returned (.bool true) ∧ (I s W' ∧ Rec W') ∧ Kp W W') ∨ (e = .returned (.bool false) ∧ ∃ c, Ix c s W' ∧ RecX c W')

/-- How the iterator ends. -/
def SeqPost {σ : Type} (Rec : World → Prop) (RecX : Code → World → Prop) (S Sp : σ → Prop) (I : σ → World → Prop) (Ix : Code → σ → World → Prop) (e : Ending) (W' : World) : Prop :=
  (∃ v, e = .returned v) ∧ ((∃ s, S s ∧ (I s W' ∧ Rec W')) ∨ (∃ s, Sp s ∧ ∃ c, Ix c s W' ∧ RecX c W'))

theorem rf_core {σ : Type} {g : Operand} {ps : Array Tmp} {assign body : Code} {Q : Exit → Act → World → Prop} {a : Act} {w : World} {L D : Nat} {mark : List Deferred}
    (h1 : 1 ≤ n) {gf : Nat} {lb : Array Value} (hg : a.eval g = .func (.func gf) #[] lb) (hFg : F.fn gf) (eg : ∀ args w, (callFunc gf args).run P w = .ok (.enter gf args) w)
    {At : σ → σ → Array Value → World → Prop} {Kp : World → World → Prop} {S Sp : σ → Prop}
    (I : σ → World → Prop) (Ix : Code → σ → World → Prop) (Ax : σ → σ → Array Value → Act → World → Prop)
    (hKt : ∀ {A B C : World}, Kp A B → Kp B C → Kp A C)
    (turnK : ∀ (W : World) (r r' : Loop), W.heap[L]? = some (.loop r) → Kp W (W.putObj L (.loop r')))
    (turnI : ∀ (W : World) (r r' : Loop) (s : σ), W.heap[L]? = some (.loop r) → I s W → I s (W.putObj L (.loop r')))
    (turnX : ∀ (W : World) (r r' : Loop) (c : Code) (s : σ), W.heap[L]? = some (.loop r) → Ix c s W → Ix c s (W.putObj L (.loop r')))
    (turnA : ∀ (W : World) (r r' : Loop) (s s' : σ) (vs : Array Value) (a' : Act), W.heap[L]? = some (.loop r) → Ax s s' vs a' W → Ax s s' vs a' (W.putObj L (.loop r')))
    (hps : ∀ s s' vs W, At s s' vs W → vs.size = ps.size)
    (hent : ∀ fn, F.fn fn → ∃ W1, (Instr.enterLoop fn a.tmps ps assign body F.round).run P w = .ok (L, mark) W1 ∧
      ((∀ s s' vs W, I s W ∧ W.heap[L]? = some (.loop (recOf a ps assign body D fn .ready none)) → At s s' vs W →
          YieldAt F (n - 1 - 1) P L vs W (YieldPost (fun W => W.heap[L]? = some (.loop (recOf a ps assign body D fn .ready none))) (fun c W => W.heap[L]? = some (.loop (recOf a ps assign body D fn .done (some c)))) Kp I Ix s' W)) →
        CallsIn F (n - 1) P gf (#[.func (.yield L) #[] #[]] ++ lb) W1 (SeqPost (fun W => W.heap[L]? = some (.loop (recOf a ps assign body D fn .ready none))) (fun c W => W.heap[L]? = some (.loop (recOf a ps assign body D fn .done (some c)))) S Sp I Ix)))
    (hassign : ∀ (s s' : σ) (vs : Array Value) (W : World) (K : Act → World → Prop), (∃ r, W.heap[L]? = some (.loop r)) → I s W → At s s' vs W →
      (∀ a' W', W'.heap[L]? = W.heap[L]? → Kp W W' → I s W' → Ax s s' vs a' W' → K a' W') →
      assign.wpIn (F.inRound L) (n - 1 - 1) P (Exit.then K (fun _ _ _ => False)) { tmps := (ps.zip vs).foldl (fun t (p, v) => t.setIfInBounds p v) a.tmps, defers := [] } W)
    (hbody : ∀ (s s' : σ) (vs : Array Value) (a' : Act) (W : World), (∃ r, W.heap[L]? = some (.loop r)) → I s W → Ax s s' vs a' W →
      body.wpIn (F.inRound L) (n - 1 - 1) P (endPost L Kp I Ix s' W) a' W)
    (hdone : ∀ (s : σ) (W : World), S s → I s W → Q .normal { a with defers := mark ++ a.defers } W)
    (hstop : ∀ (c : Code) (s : σ) (W : World), Sp s → Ix c s W → c.wpIn F n P Q { a with defers := mark ++ a.defers } W) :
    (Code.rangeFunc g ps assign body).wpIn F n P Q a w := by
  refine wpIn_rangeFunc fun fn hfn => ?_
  obtain ⟨W1, hrun, hcall⟩ := hent fn hfn
  refine ⟨L, mark, W1, { target := .fn (.func gf) lb, args := #[.func (.yield L) #[] #[]] }, W1, gf, #[.func (.yield L) #[] #[]] ++ lb, W1, hrun, ?_, ?_, ?_, fun _ => h1, ?_⟩
  · simp only [resolve, hg]; simp [go_sem]
  · intro f' hf'; simp [Target.leads] at hf'; subst hf'; exact hFg
  · simp [invoke, go_sem, eg]
  · refine (hcall ?_).mono ?_
    · rintro s s' vs W ⟨hi, hl⟩ hat
      refine ⟨fn, _, assign, body, run_yield (P := P) hl (hps s s' vs W hat), roundIn_of_wpIn hfn (hassign s s' vs W _ ⟨_, hl⟩ hi hat ?_)⟩
      intro a' Wa hla hka hia hax
      rw [hl] at hla
      refine ⟨_, run_beginRound hla rfl, ?_⟩
      have hlt := (Array.getElem?_eq_some_iff.1 hla).1
      refine wpIn_mono (hbody s s' vs a' _ ⟨_, World.putObj_heap_same hlt⟩ (turnI Wa _ _ s hla hia) (turnA Wa _ _ s s' vs a' hla hax)) ?_
      have ends : ∀ (W3 : World) (jump : Option Code), W3.heap[L]? = (Wa.putObj L (.loop { recOf a ps assign body D fn .ready none with state := .busy })).heap[L]? →
          ∃ r, W3.heap[L]? = some (.loop r) ∧ (Instr.endRound L jump).run P W3 = .ok (.bool jump.isNone) (W3.putObj L (.loop (recOf a ps assign body D fn (if jump.isNone then .ready else .done) jump))) ∧
            (W3.putObj L (.loop (recOf a ps assign body D fn (if jump.isNone then .ready else .done) jump))).heap[L]? = some (.loop (recOf a ps assign body D fn (if jump.isNone then .ready else .done) jump)) := by
        intro W3 jump h3
        rw [World.putObj_heap_same hlt] at h3
        exact ⟨_, h3, run_endRound (P := P) jump h3, World.putObj_heap_same (Array.getElem?_eq_some_iff.1 h3).1⟩
      intro e a3 W3 hp
      cases e with
      | normal =>
        obtain ⟨h3, hk3, hi3⟩ := hp
        obtain ⟨r, hr, he, hz⟩ := ends W3 none h3
        exact ⟨_, _, he, .inl ⟨rfl, ⟨turnI W3 _ _ _ hr hi3, hz⟩, hKt hka (hKt (turnK Wa _ _ hla) (hKt hk3 (turnK W3 _ _ hr)))⟩⟩
      | ret =>
        obtain ⟨h3, hi3⟩ := hp
        obtain ⟨r, hr, he, hz⟩ := ends W3 (some .ret) h3
        exact ⟨_, _, he, .inr ⟨rfl, .ret, turnX W3 _ _ _ _ hr hi3, hz⟩⟩
      | exit id =>
        obtain ⟨h3, hi3⟩ := hp
        obtain ⟨r, hr, he, hz⟩ := ends W3 (some (.exit id)) h3
        exact ⟨_, _, he, .inr ⟨rfl, .exit id, turnX W3 _ _ _ _ hr hi3, hz⟩⟩
      | goto t =>
        obtain ⟨h3, hi3⟩ := hp
        obtain ⟨r, hr, he, hz⟩ := ends W3 (some (.goto t)) h3
        exact ⟨_, _, he, .inr ⟨rfl, .goto t, turnX W3 _ _ _ _ hr hi3, hz⟩⟩
      | panic ch => exact hp.elim
      | outgrown => exact hp.elim
    · rintro e W2 ⟨⟨v, rfl⟩, (⟨s, hS, hi, hl⟩ | ⟨s, hS, c, hi, hl⟩)⟩
      · exact ⟨none, _, run_endLoop (P := P) hl (by simp [recOf]), hdone s _ hS (turnI W2 _ _ _ hl hi)⟩
      · exact ⟨some c, _, run_endLoop (P := P) hl (by simp [recOf]), hstop c s _ hS (turnX W2 _ _ _ _ hl hi)⟩

/-- What a round's body leaves behind, at an outermost loop. -/
def outPost {σ : Type} (B : Nat) (Kp : World → World → Prop) (I : σ → World → Prop) (Ix : Code → σ → World → Prop) (s : σ) (W : World) : Exit → Act → World → Prop
  | .normal, _, W' => KeepsFrom B W W' ∧ Kp W W' ∧ I s W'
  | .ret, _, W' => KeepsFrom B W W' ∧ Ix .ret s W'
  | .exit id, _, W' => KeepsFrom B W W' ∧ Ix (.exit id) s W'
  | .goto t, _, W' => KeepsFrom B W W' ∧ Ix (.goto t) s W'
  | .panic _, _, _ => False
  | .outgrown, _, _ => False

/-- A fact on blocks below B, or on blocks that are kept. -/
def KeptOff (lo hi : Nat) (R : World → Prop) : Prop := ∀ X Y row, R X → X.grownBy Y row → (∀ r, row = some r → r < lo ∨ hi ≤ r) → R Y

/-- An outermost loop. -/
theorem rf_outer {σ : Type} {g : Operand} {ps : Array Tmp} {assign body : Code} {Q : Exit → Act → World → Prop} {a : Act} {w : World}
    (hro : F.round = none) (h1 : 1 ≤ n) {gf : Nat} {lb : Array Value} (hg : a.eval g = .func (.func gf) #[] lb) (hFg : F.fn gf) (eg : ∀ args w, (callFunc gf args).run P w = .ok (.enter gf args) w)
    {At : σ → σ → Array Value → World → Prop} {Kp : World → World → Prop} {S Sp : σ → Prop}
    (hKt : ∀ {A B C : World}, Kp A B → Kp B C → Kp A C)
    (hKb : ∀ (W : World) (l : Nat) (o o' : Obj), w.heap.size ≤ l → l < w.heap.size + 2 → W.heap[l]? = some o → o.isCells = false → Kp W (W.putObj l o'))
    (hps : ∀ s s' vs W, At s s' vs W → vs.size = ps.size)
    (I : σ → World → Prop) (Ix : Code → σ → World → Prop) (Ax : σ → σ → Array Value → Act → World → Prop)
    (hI : OwnFrom w.heap.size I) (hIx : ∀ c, OwnFrom w.heap.size (Ix c)) (hAx : ∀ s s' vs a', OwnFrom w.heap.size (fun (_ : Unit) W => Ax s s' vs a' W)) (s0 : σ) (h0 : I s0 w)
    (hseq : ∀ (Rec : World → Prop) (RecX : Code → World → Prop) (W1 : World), KeptOff w.heap.size (w.heap.size + 2) Rec → (∀ c, KeptOff w.heap.size (w.heap.size + 2) (RecX c)) →
      Below w.heap.size w W1 → W1.heap.size = w.heap.size + 2 → I s0 W1 → Rec W1 →
      (∀ s s' vs W, I s W ∧ Rec W → At s s' vs W → YieldAt F (n - 1 - 1) P (w.heap.size + 1) vs W (YieldPost Rec RecX Kp I Ix s' W)) →
      CallsIn F (n - 1) P gf (#[.func (.yield (w.heap.size + 1)) #[] #[]] ++ lb) W1 (SeqPost Rec RecX S Sp I Ix))
    (hassign : ∀ (l : Nat) (s s' : σ) (vs : Array Value) (W : World) (K : Act → World → Prop), I s W → At s s' vs W →
      (∀ a' W', KeepsFrom w.heap.size W W' → Kp W W' → I s W' → Ax s s' vs a' W' → K a' W') →
      assign.wpIn (F.inRound l) (n - 1 - 1) P (Exit.then K (fun _ _ _ => False)) { tmps := (ps.zip vs).foldl (fun t (p, v) => t.setIfInBounds p v) a.tmps, defers := [] } W)
    (hbody : ∀ (l : Nat) (s s' : σ) (vs : Array Value) (a' : Act) (W : World), l = w.heap.size + 1 → (∃ r, W.heap[l]? = some (.loop r)) → I s W → Ax s s' vs a' W →
      body.wpIn (F.inRound l) (n - 1 - 1) P (outPost w.heap.size Kp I Ix s' W) a' W)
    (hdone : ∀ (D : Nat) (s : σ) (W : World), w.heap.size ≤ D → S s → I s W → W.heap[D]? = some (.deferred (some [])) → Q .normal { a with defers := { target := .collected D, args := #[] } :: a.defers } W)
    (hstop : ∀ (D : Nat) (c : Code) (s : σ) (W : World), w.heap.size ≤ D → Sp s → Ix c s W → W.heap[D]? = some (.deferred (some [])) → c.wpIn F n P Q { a with defers := { target := .collected D, args := #[] } :: a.defers } W) :
    (Code.rangeFunc g ps assign body).wpIn F n P Q a w := by
  have two : ∀ (W : World) (r r' : Loop), W.heap[w.heap.size + 1]? = some (.loop r) → W.heap[w.heap.size]? = some (.deferred (some [])) → (W.putObj (w.heap.size + 1) (.loop r')).heap[w.heap.size]? = some (.deferred (some [])) :=
    fun W r r' _ h => (World.putObj_heap_other (by omega)).trans h
  have off : ∀ (j : Nat) (o : Obj), w.heap.size ≤ j → j < w.heap.size + 2 → KeptOff w.heap.size (w.heap.size + 2) (fun W => W.heap[j]? = some o) := fun j o ha hb X Y row hX hg hr =>
    (hg.block j (Array.getElem?_eq_some_iff.1 hX).1 (fun e => by rcases hr j e.symm with h | h <;> omega)).trans hX
  refine rf_core (L := w.heap.size + 1) (D := w.heap.size) (mark := [{ target := .collected w.heap.size, args := #[] }]) h1 hg hFg eg (At := At) (Kp := Kp) (S := S) (Sp := Sp)
    (fun s W => I s W ∧ W.heap[w.heap.size]? = some (.deferred (some []))) (fun c s W => Ix c s W ∧ W.heap[w.heap.size]? = some (.deferred (some []))) Ax
    (fun h k => hKt h k) (fun W r r' hl => hKb W _ _ _ (by omega) (by omega) hl rfl) ?_ ?_ ?_ hps ?_ ?_ ?_ ?_ ?_
  · exact fun W r r' s hl h => ⟨hI.putObj _ h.1 (by omega) hl rfl, two W r r' hl h.2⟩
  · exact fun W r r' c s hl h => ⟨(hIx c).putObj _ h.1 (by omega) hl rfl, two W r r' hl h.2⟩
  · exact fun W r r' s s' vs a' hl h => (hAx s s' vs a').putObj (s := ()) _ h (by omega) hl rfl
  · intro fn hfn
    obtain ⟨W1, hW1⟩ : ∃ W1, (w.alloc (.deferred (some []))).alloc (.loop (recOf a ps assign body w.heap.size fn .ready none)) = W1 := ⟨_, rfl⟩
    have hL1 : W1.heap[w.heap.size + 1]? = some (.loop (recOf a ps assign body w.heap.size fn .ready none)) := by
      rw [← hW1]; have := World.alloc_heap_new (w.alloc (.deferred (some []))) (.loop (recOf a ps assign body w.heap.size fn .ready none)); rwa [World.size_alloc] at this
    have hK1 : W1.heap[w.heap.size]? = some (.deferred (some [])) := by
      rw [← hW1]; exact (Below.heap_alloc _ _ _ (by simp)).trans (World.alloc_heap_new w _)
    refine ⟨W1, by rw [← hW1, hro]; exact run_enterLoop_outer _ _ _ _ _, fun hY => ?_⟩
    refine (hseq (fun W => W.heap[w.heap.size]? = some (.deferred (some [])) ∧ W.heap[w.heap.size + 1]? = some (.loop (recOf a ps assign body w.heap.size fn .ready none)))
      (fun c W => W.heap[w.heap.size]? = some (.deferred (some [])) ∧ W.heap[w.heap.size + 1]? = some (.loop (recOf a ps assign body w.heap.size fn .done (some c)))) W1 ?_ ?_ ?_ ?_ ?_ ⟨hK1, hL1⟩ ?_).mono ?_
    · exact fun X Y row hX hg hr => ⟨off _ _ (by omega) (by omega) X Y row hX.1 hg hr, off _ _ (by omega) (by omega) X Y row hX.2 hg hr⟩
    · exact fun c X Y row hX hg hr => ⟨off _ _ (by omega) (by omega) X Y row hX.1 hg hr, off _ _ (by omega) (by omega) X Y row hX.2 hg hr⟩
    · rw [← hW1]; exact ((Below.refl _ w).alloc (Nat.le_refl _) _).alloc (by simp) _
    · rw [← hW1]; simp
    · rw [← hW1]; exact hI.alloc _ (hI.alloc _ h0)
    · rintro s s' vs W ⟨hi, hk, hl⟩ hat
      obtain ⟨f0, tm, as, bo, hr, hR⟩ := hY s s' vs W ⟨⟨hi, hk⟩, hl⟩ hat
      refine ⟨f0, tm, as, bo, hr, hR.mono ?_⟩
      rintro e W' (⟨rfl, ⟨⟨hi', hk'⟩, hl'⟩, hkp⟩ | ⟨rfl, c, ⟨hi', hk'⟩, hl'⟩)
      · exact .inl ⟨rfl, ⟨hi', hk', hl'⟩, hkp⟩
      · exact .inr ⟨rfl, c, hi', hk', hl'⟩
    · rintro e W' ⟨hv, (⟨s, hS, hi', hk', hl'⟩ | ⟨s, hS, c, hi', hk', hl'⟩)⟩
      · exact ⟨hv, .inl ⟨s, hS, ⟨hi', hk'⟩, hl'⟩⟩
      · exact ⟨hv, .inr ⟨s, hS, c, ⟨hi', hk'⟩, hl'⟩⟩
  · rintro s s' vs W K ⟨r, hl⟩ ⟨hi, hk⟩ hat hK
    exact hassign _ s s' vs W K hi hat fun a' W' hkf hkp hi' hax => hK a' W' ((hkf.same _ _ (by omega) hl rfl).trans hl.symm) hkp ⟨hi', hkf.same _ _ (Nat.le_refl _) hk rfl⟩ hax
  · rintro s s' vs a' W ⟨r, hl⟩ ⟨hi, hk⟩ hax
    refine wpIn_mono (hbody _ s s' vs a' W rfl ⟨r, hl⟩ hi hax) ?_
    intro e a3 W3 hp
    cases e with
    | normal => exact ⟨(hp.1.same _ _ (by omega) hl rfl).trans hl.symm, hp.2.1, hp.2.2, hp.1.same _ _ (Nat.le_refl _) hk rfl⟩
    | ret => exact ⟨(hp.1.same _ _ (by omega) hl rfl).trans hl.symm, hp.2, hp.1.same _ _ (Nat.le_refl _) hk rfl⟩
    | exit id => exact ⟨(hp.1.same _ _ (by omega) hl rfl).trans hl.symm, hp.2, hp.1.same _ _ (Nat.le_refl _) hk rfl⟩
    | goto t => exact ⟨(hp.1.same _ _ (by omega) hl rfl).trans hl.symm, hp.2, hp.1.same _ _ (Nat.le_refl _) hk rfl⟩
    | panic ch => exact hp.elim
    | outgrown => exact hp.elim
  · exact fun s W hS h => hdone _ s W (Nat.le_refl _) hS h.1 h.2
  · exact fun c s W hS h => hstop _ c s W (Nat.le_refl _) hS h.1 h.2
end
end Go.Proofs.Ytkmdkbnphmadpaa
