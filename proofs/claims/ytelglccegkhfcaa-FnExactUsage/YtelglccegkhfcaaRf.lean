/- A region that draws its order, inside a round: what may be taken first may be taken first there too. A range over a function whose iterator has memory of its own: the law is stated over the caller's own invariant (indexed by a state of the caller's choice), so that the iterator's contract may ask more of it. An outermost range over a function, with the loop's records told block by block. The iterator over the values of a bit set: how it is made. Loops over the values of a bit set, counted by the value that comes next. -/
import Derived.Deep.RegionHeld3
import Derived.RangeFuncNested
import Derived.OwnWalkIn
import Derived.RangeFuncBound
import Derived.RangeFuncCalls
import Derived.RangeFuncLeaves
import Derived.RangeFuncBox
import Derived.Test.YtelglccegkhfcaaDom
import Derived.Shelf.Abstract
import Derived.Shelf.RegionOpen
import Derived.TacticsInMore
import Derived.LoopNIn
import Derived.LoopIn

/-! A region that draws its order, inside a round: what may be taken first may be taken first there too. -/
namespace Go.Proofs.Ytelglccegkhfcaa
open Go.RowKit
set_option linter.unusedVariables false
set_option linter.unusedSimpArgs false

section
variable {P : Program} {ops : Array Oper} {Q : Exit → Act → World → Prop} {l n : Nat}

theorem upon_wide (o : Oper) (a : Act) (K K' : Act → World → Prop) (hK : ∀ a w, K a w → K' a w) (r : Result Next) (h : o.upon P a K Q r) : o.uponIn (Fence.wide.inRound l) n P a K' Q r := by
  unfold Oper.upon at h
  unfold Oper.uponIn
  split at h
  · exact hK _ _ h
  · exact hK _ _ h
  · exact hK _ _ h
  · refine ⟨fun hd => (by cases hd), ?_⟩
    refine CallsIn.inRound l ((callsIn_wide.2 h).mono ?_)
    intro e w''
    cases e with
    | returned v => exact fun h => hK _ _ h
    | panicked c => exact fun h => h
    | outgrown => exact fun h => h
  · refine ⟨fun hd => (by cases hd), fun c cs _ => ?_⟩
    obtain ⟨v, w', hr, hs⟩ := h c cs
    exact ⟨v, w', hK _ _ hr, stepsIn_wide.2 hs⟩
  · exact h
  · exact h.elim

theorem anyIn_round (hnd : ∀ (i : Nat) (o : Oper), ops[i]? = some o → ∀ c, o.op ≠ .defer c) (hQ : ¬ LetsOut Q) (md : Region.Mode) :
    ∀ (fuel : Nat) (listed : Array Bool) (a : Act) (w : World), wpAny P md ops Q fuel listed a w → wpAnyIn (Fence.wide.inRound l) n P md ops Q fuel listed a w
  | 0, _, _, _, h => h
  | fuel + 1, listed, a, w, h => by
    refine ⟨h.1, fun i hi => ?_⟩
    have hk := h.2 i hi
    unfold wpOp at hk
    unfold wpOpIn
    cases ho : ops[i]? with
    | none => rw [ho] at hk; exact anyIn_round hnd hQ md fuel _ _ _ hk
    | some o =>
      rw [ho] at hk
      simp only at hk ⊢
      split
      · rename_i hw
        rw [if_pos hw] at hk
        rcases hk with hk | hk
        · refine ⟨fun _ _ => trivial, ?_⟩
          rw [Oper.semAt_plain _ _ _ (hnd i o ho)]
          exact upon_wide o a _ _ (fun a w h => anyIn_round hnd hQ md fuel _ a w h) _ hk
        · exact absurd hk.2 hQ
      · rename_i hw
        rw [if_neg hw] at hk
        exact ⟨fun _ _ => trivial, anyIn_round hnd hQ md fuel _ _ _ hk⟩

/-- A region that draws, inside a round, by the laws of one that reads a condition S. -/
theorem region_round {id : Nat} {a : Act} {w : World} (S : World → Prop) (hm : P.follows .mixedOrders = true) (hnd : (ops.toList.all fun o => match o.op with | .defer _ => false | _ => true) = true) (hQ : ¬ LetsOut Q)
    (hS : S w.drew) (h : S w.drew → wpAnyH P .any ops Q S ops.size (Array.replicate ops.size false) a w.drew) : (Code.region id ops true).wpIn (Fence.wide.inRound l) n P Q a w := by
  refine wpIn_region_any hm (anyIn_round (fun i o ho c hc => ?_) hQ .any _ _ _ _ (wpAny_of_held _ _ _ _ (h hS)))
  have := List.all_eq_true.1 hnd o (Array.mem_toList_iff.2 (Array.mem_of_getElem? ho))
  rw [hc] at this
  cases this
end
end Go.Proofs.Ytelglccegkhfcaa

/-! A range over a function whose iterator has memory of its own: the law is stated over the caller's own invariant (indexed by a state of the caller's choice), so that the iterator's contract may ask more of it. -/
namespace Go.Proofs.Ytelglccegkhfcaa
open Go.RowKit
set_option linter.unusedVariables false
set_option linter.unusedSimpArgs false

/-- J abides a step that turns one block from B on which is no cells, or one of the k blocks from B on. -/
def Abide {β : Type} (B k : Nat) (J : β → World → Prop) : Prop :=
  ∀ s X Y row, J s X → X.grownBy Y row → (∀ r, row = some r → B ≤ r ∧ (r < B + k ∨ ∃ o : Obj, X.heap[r]? = some o ∧ o.isCells = false)) → J s Y
theorem Abide.own {β : Type} {B k : Nat} {J : β → World → Prop} (h : Abide B k J) : OwnFrom B J := fun s X Y row hs hg hr => h s X Y row hs hg (fun r e => ⟨(hr r e).1, .inr (hr r e).2⟩)
theorem Abide.alloc {β : Type} {B k : Nat} {J : β → World → Prop} (h : Abide B k J) {s : β} {W : World} (o : Obj) (hs : J s W) : J s (W.alloc o) :=
  h s W _ none hs (World.grownBy_alloc W o none) (fun r e => by cases e)
theorem Abide.set {β : Type} {B k : Nat} {J : β → World → Prop} (h : Abide B k J) {s : β} {W : World} {b : Nat} (v : Value) (hs : J s W) (h1 : B ≤ b) (h2 : b < B + k) : J s (W.setCell ⟨b, 0, none⟩ v) :=
  h s W _ (some b) hs (grownBy_setCell' W b v) (fun r e => by cases e; exact ⟨h1, .inl h2⟩)
theorem Abide.and {β : Type} {B k : Nat} {I I' : β → World → Prop} (h : Abide B k I) (h' : Abide B k I') : Abide B k (fun s W => I s W ∧ I' s W) := fun s W W' row hs hg hr => ⟨h s W W' row hs.1 hg hr, h' s W W' row hs.2 hg hr⟩
/-- What speaks of blocks outside B, B + 1, .. abides. -/
theorem abide_of {β : Type} {B k : Nat} {R : World → Prop} (h : ∀ X Y row, R X → X.grownBy Y row → (∀ r, row = some r → B ≤ r) → R Y) : Abide B k (fun (_ : β) W => R W) :=
  fun _ X Y row hs hg hr => h X Y row hs hg (fun r e => (hr r e).1)

/-- Where no depth is asked, a round may be as deep as it likes. -/
theorem yieldAt_wide {m m' : Nat} {P : Program} {l : Nat} {vs : Array Value} {W : World} {R : Ending → World → Prop} (h : YieldAt Fence.wide m P l vs W R) : YieldAt Fence.wide m' P l vs W R := by
  obtain ⟨f0, tm, asg, bo, hy, h1, h2⟩ := h
  exact ⟨f0, tm, asg, bo, hy, h1, fun c cs _ => h2 c cs (fun d hd => by cases hd)⟩

/-- Blocks lo, lo + 1, .., hi - 1 as they were, and so all from lo on that is no cells. -/
def KpI (lo hi : Nat) (W W' : World) : Prop := KeepsFrom lo W W' ∧ ∀ b, lo ≤ b → b < hi → W'.heap[b]? = W.heap[b]?
theorem KpI.trans {lo hi : Nat} {A B C : World} (h : KpI lo hi A B) (k : KpI lo hi B C) : KpI lo hi A C := ⟨h.1.trans k.1, fun b h1 h2 => (k.2 b h1 h2).trans (h.2 b h1 h2)⟩
theorem KpI.boxed {lo hi : Nat} {A B : World} (h : KpI lo hi A B) {b : Nat} {t : TypeId} {v : Value} (hb : Boxed A b t v) (h1 : lo ≤ b) (h2 : b < hi) : Boxed B b t v := (h.2 b h1 h2).trans hb

section
variable {F : Fence} {n : Nat} {P : Program}

/-- The record of a loop. -/
def recOf (a : Act) (ps : Array Tmp) (assign body : Code) (D : Nat) (fn : FuncId) (st : LoopState) (pe : Option Code) : Loop :=
  { state := st, pending := pe, fn := fn, tmps := a.tmps, params := ps, assign := assign, body := body, defers := D }

/-- What a round's body leaves behind: the loop's record as it was. -/
def endPost {σ : Type} (L : Nat) (Kp : World → World → Prop) (I : σ → World → Prop) (Ix : Code → σ → World → Prop) (s : σ) (W : World) : Exit → Act → World → Prop
  | .normal, _, W' => W'.heap[L]? = W.heap[L]? ∧ Kp W W' ∧ I s W'
  | .ret, _, W' => W'.heap[L]? = W.heap[L]? ∧ Ix .ret s W'
  | .exit id, _, W' => W'.heap[L]? = W.heap[L]? ∧ Ix (.exit id) s W'
  | .goto t, _, W' => W'.heap[L]? = W.heap[L]? ∧ Ix (.goto t) s W'
  | .panic _, _, _ => False
  | .outgrown, _, _ => False

/-- How a round answers. -/
def YieldPost {σ : Type} (Rec : World → Prop) (RecX : Code → World → Prop) (Kp : World → World → Prop) (I : σ → World → Prop) (Ix : Code → σ → World → Prop) (s : σ) (W : World) (e : Ending) (W' : World) : Prop :=
  (e = .returned (.bool true) ∧ (I s W' ∧ Rec W') ∧ Kp W W') ∨ (e = .returned (.bool false) ∧ ∃ c, Ix c s W' ∧ RecX c W')

/-- How the iterator ends. -/
def SeqPost {σ : Type} (Rec : World → Prop) (RecX : Code → World → Prop) (S Sp : σ → Prop) (I : σ → World → Prop) (Ix : Code → σ → World → Prop) (e : Ending) (W' : World) : Prop :=
  (∃ v, e = .returned v) ∧ ((∃ s, S s ∧ (I s W' ∧ Rec W')) ∨ (∃ s, Sp s ∧ ∃ c, Ix c s W' ∧ RecX c W'))

theorem rf_core {σ : Type} {g : Operand} {ps : Array Tmp} {assign body : Code} {Q : Exit → Act → World → Prop} {a : Act} {w : World} {L D : Nat} {mark : List Deferred}
    (h1 : 1 ≤ n) {gf : Nat} {lb : Array Value} (hg : a.eval g = .func (.func gf) #[] lb) (hFg : F.fn gf) (eg : ∀ args w, (callFunc gf args).run P w = .ok (.enter gf args) w)
    {At : σ → σ → Array Value → World → Prop} {Kp : World → World → Prop} {S Sp : σ → Prop}
    (I : σ → World → Prop) (Ix : Code → σ → World → Prop) (Ax : σ → σ → Array Value → Act → World → Prop)
    (hKt : ∀ {A B C : World}, Kp A B → Kp B C → Kp A C)
    (turnK : ∀ (W : World) (r r' : Loop), W.heap[L]? = some (.loop r) → Kp W (W.putObj L (.loop r')))
    (turnI : ∀ (W : World) (r r' : Loop) (s : σ), W.heap[L]? = some (.loop r) → I s W → I s (W.putObj L (.loop r')))
    (turnX : ∀ (W : World) (r r' : Loop) (c : Code) (s : σ), W.heap[L]? = some (.loop r) → Ix c s W → Ix c s (W.putObj L (.loop r')))
    (turnA : ∀ (W : World) (r r' : Loop) (s s' : σ) (vs : Array Value) (a' : Act), W.heap[L]? = some (.loop r) → Ax s s' vs a' W → Ax s s' vs a' (W.putObj L (.loop r')))
    (hps : ∀ s s' vs W, At s s' vs W → vs.size = ps.size)
    (hent : ∀ fn, F.fn fn → ∃ W1, (Instr.enterLoop fn a.tmps ps assign body F.round).run P w = .ok (L, mark) W1 ∧
      ((∀ s s' vs W, I s W ∧ W.heap[L]? = some (.loop (recOf a ps assign body D fn .ready none)) → At s s' vs W →
          YieldAt F (n - 1 - 1) P L vs W (YieldPost (fun W => W.heap[L]? = some (.loop (recOf a ps assign body D fn .ready none))) (fun c W => W.heap[L]? = some (.loop (recOf a ps assign body D fn .done (some c)))) Kp I Ix s' W)) →
        CallsIn F (n - 1) P gf (#[.func (.yield L) #[] #[]] ++ lb) W1 (SeqPost (fun W => W.heap[L]? = some (.loop (recOf a ps assign body D fn .ready none))) (fun c W => W.heap[L]? = some (.loop (recOf a ps assign body D fn .done (some c)))) S Sp I Ix)))
    (hassign : ∀ (s s' : σ) (vs : Array Value) (W : World) (K : Act → World → Prop), (∃ r, W.heap[L]? = some (.loop r)) → I s W → At s s' vs W →
      (∀ a' W', W'.heap[L]? = W.heap[L]? → Kp W W' → I s W' → Ax s s' vs a' W' → K a' W') →
      assign.wpIn (F.inRound L) (n - 1 - 1) P (Exit.then K (fun _ _ _ => False)) { tmps := (ps.zip vs).foldl (fun t (p, v) => t.setIfInBounds p v) a.tmps, defers := [] } W)
    (hbody : ∀ (s s' : σ) (vs : Array Value) (a' : Act) (W : World), (∃ r, W.heap[L]? = some (.loop r)) → I s W → Ax s s' vs a' W →
      body.wpIn (F.inRound L) (n - 1 - 1) P (endPost L Kp I Ix s' W) a' W)
    (hdone : ∀ (s : σ) (W : World), S s → I s W → Q .normal { a with defers := mark ++ a.defers } W)
    (hstop : ∀ (c : Code) (s : σ) (W : World), Sp s → Ix c s W → c.wpIn F n P Q { a with defers := mark ++ a.defers } W) :
    (Code.rangeFunc g ps assign body).wpIn F n P Q a w := by
  refine wpIn_rangeFunc fun fn hfn => ?_
  obtain ⟨W1, hrun, hcall⟩ := hent fn hfn
  refine ⟨L, mark, W1, { target := .fn (.func gf) lb, args := #[.func (.yield L) #[] #[]] }, W1, gf, #[.func (.yield L) #[] #[]] ++ lb, W1, hrun, ?_, ?_, ?_, fun _ => h1, ?_⟩
  · simp only [resolve, hg]; simp [go_sem]
  · intro f' hf'; simp [Target.leads] at hf'; subst hf'; exact hFg
  · simp [invoke, go_sem, eg]
  · refine (hcall ?_).mono ?_
    · rintro s s' vs W ⟨hi, hl⟩ hat
      refine ⟨fn, _, assign, body, run_yield (P := P) hl (hps s s' vs W hat), roundIn_of_wpIn hfn (hassign s s' vs W _ ⟨_, hl⟩ hi hat ?_)⟩
      intro a' Wa hla hka hia hax
      rw [hl] at hla
      refine ⟨_, run_beginRound hla rfl, ?_⟩
      have hlt := (Array.getElem?_eq_some_iff.1 hla).1
      refine wpIn_mono (hbody s s' vs a' _ ⟨_, World.putObj_heap_same hlt⟩ (turnI Wa _ _ s hla hia) (turnA Wa _ _ s s' vs a' hla hax)) ?_
      have ends : ∀ (W3 : World) (jump : Option Code), W3.heap[L]? = (Wa.putObj L (.loop { recOf a ps assign body D fn .ready none with state := .busy })).heap[L]? →
          ∃ r, W3.heap[L]? = some (.loop r) ∧ (Instr.endRound L jump).run P W3 = .ok (.bool jump.isNone) (W3.putObj L (.loop (recOf a ps assign body D fn (if jump.isNone then .ready else .done) jump))) ∧
            (W3.putObj L (.loop (recOf a ps assign body D fn (if jump.isNone then .ready else .done) jump))).heap[L]? = some (.loop (recOf a ps assign body D fn (if jump.isNone then .ready else .done) jump)) := by
        intro W3 jump h3
        rw [World.putObj_heap_same hlt] at h3
        exact ⟨_, h3, run_endRound (P := P) jump h3, World.putObj_heap_same (Array.getElem?_eq_some_iff.1 h3).1⟩
      intro e a3 W3 hp
      cases e with
      | normal =>
        obtain ⟨h3, hk3, hi3⟩ := hp
        obtain ⟨r, hr, he, hz⟩ := ends W3 none h3
        exact ⟨_, _, he, .inl ⟨rfl, ⟨turnI W3 _ _ _ hr hi3, hz⟩, hKt hka (hKt (turnK Wa _ _ hla) (hKt hk3 (turnK W3 _ _ hr)))⟩⟩
      | ret =>
        obtain ⟨h3, hi3⟩ := hp
        obtain ⟨r, hr, he, hz⟩ := ends W3 (some .ret) h3
        exact ⟨_, _, he, .inr ⟨rfl, .ret, turnX W3 _ _ _ _ hr hi3, hz⟩⟩
      | exit id =>
        obtain ⟨h3, hi3⟩ := hp
        obtain ⟨r, hr, he, hz⟩ := ends W3 (some (.exit id)) h3
        exact ⟨_, _, he, .inr ⟨rfl, .exit id, turnX W3 _ _ _ _ hr hi3, hz⟩⟩
      | goto t =>
        obtain ⟨h3, hi3⟩ := hp
        obtain ⟨r, hr, he, hz⟩ := ends W3 (some (.goto t)) h3
        exact ⟨_, _, he, .inr ⟨rfl, .goto t, turnX W3 _ _ _ _ hr hi3, hz⟩⟩
      | panic ch => exact hp.elim
      | outgrown => exact hp.elim
    · rintro e W2 ⟨⟨v, rfl⟩, (⟨s, hS, hi, hl⟩ | ⟨s, hS, c, hi, hl⟩)⟩
      · exact ⟨none, _, run_endLoop (P := P) hl (by simp [recOf]), hdone s _ hS (turnI W2 _ _ _ hl hi)⟩
      · exact ⟨some c, _, run_endLoop (P := P) hl (by simp [recOf]), hstop c s _ hS (turnX W2 _ _ _ _ hl hi)⟩

/-- What a round's body leaves behind, at an outermost loop. -/
def outPost {σ : Type} (B : Nat) (Kp : World → World → Prop) (I : σ → World → Prop) (Ix : Code → σ → World → Prop) (s : σ) (W : World) : Exit → Act → World → Prop
  | .normal, _, W' => KeepsFrom B W W' ∧ Kp W W' ∧ I s W'
  | .ret, _, W' => KeepsFrom B W W' ∧ Ix .ret s W'
  | .exit id, _, W' => KeepsFrom B W W' ∧ Ix (.exit id) s W'
  | .goto t, _, W' => KeepsFrom B W W' ∧ Ix (.goto t) s W'
  | .panic _, _, _ => False
  | .outgrown, _, _ => False

/-- A fact on blocks below B, or on blocks that are kept. -/
def KeptOff (lo hi : Nat) (R : World → Prop) : Prop := ∀ X Y row, R X → X.grownBy Y row → (∀ r, row = some r → r < lo ∨ hi ≤ r) → R Y

/-- An outermost loop. -/
theorem rf_outer {σ : Type} {g : Operand} {ps : Array Tmp} {assign body : Code} {Q : Exit → Act → World → Prop} {a : Act} {w : World}
    (hro : F.round = none) (h1 : 1 ≤ n) {gf : Nat} {lb : Array Value} (hg : a.eval g = .func (.func gf) #[] lb) (hFg : F.fn gf) (eg : ∀ args w, (callFunc gf args).run P w = .ok (.enter gf args) w)
    {At : σ → σ → Array Value → World → Prop} {Kp : World → World → Prop} {S Sp : σ → Prop}
    (hKt : ∀ {A B C : World}, Kp A B → Kp B C → Kp A C)
    (hKb : ∀ (W : World) (l : Nat) (o o' : Obj), w.heap.size ≤ l → l < w.heap.size + 2 → W.heap[l]? = some o → o.isCells = false → Kp W (W.putObj l o'))
    (hps : ∀ s s' vs W, At s s' vs W → vs.size = ps.size)
    (I : σ → World → Prop) (Ix : Code → σ → World → Prop) (Ax : σ → σ → Array Value → Act → World → Prop)
    (hI : OwnFrom w.heap.size I) (hIx : ∀ c, OwnFrom w.heap.size (Ix c)) (hAx : ∀ s s' vs a', OwnFrom w.heap.size (fun (_ : Unit) W => Ax s s' vs a' W)) (s0 : σ) (h0 : I s0 w)
    (hseq : ∀ (Rec : World → Prop) (RecX : Code → World → Prop) (W1 : World), KeptOff w.heap.size (w.heap.size + 2) Rec → (∀ c, KeptOff w.heap.size (w.heap.size + 2) (RecX c)) →
      Below w.heap.size w W1 → W1.heap.size = w.heap.size + 2 → I s0 W1 → Rec W1 →
      (∀ s s' vs W, I s W ∧ Rec W → At s s' vs W → YieldAt F (n - 1 - 1) P (w.heap.size + 1) vs W (YieldPost Rec RecX Kp I Ix s' W)) →
      CallsIn F (n - 1) P gf (#[.func (.yield (w.heap.size + 1)) #[] #[]] ++ lb) W1 (SeqPost Rec RecX S Sp I Ix))
    (hassign : ∀ (l : Nat) (s s' : σ) (vs : Array Value) (W : World) (K : Act → World → Prop), I s W → At s s' vs W →
      (∀ a' W', KeepsFrom w.heap.size W W' → Kp W W' → I s W' → Ax s s' vs a' W' → K a' W') →
      assign.wpIn (F.inRound l) (n - 1 - 1) P (Exit.then K (fun _ _ _ => False)) { tmps := (ps.zip vs).foldl (fun t (p, v) => t.setIfInBounds p v) a.tmps, defers := [] } W)
    (hbody : ∀ (l : Nat) (s s' : σ) (vs : Array Value) (a' : Act) (W : World), l = w.heap.size + 1 → (∃ r, W.heap[l]? = some (.loop r)) → I s W → Ax s s' vs a' W →
      body.wpIn (F.inRound l) (n - 1 - 1) P (outPost w.heap.size Kp I Ix s' W) a' W)
    (hdone : ∀ (D : Nat) (s : σ) (W : World), w.heap.size ≤ D → S s → I s W → W.heap[D]? = some (.deferred (some [])) → Q .normal { a with defers := { target := .collected D, args := #[] } :: a.defers } W)
    (hstop : ∀ (D : Nat) (c : Code) (s : σ) (W : World), w.heap.size ≤ D → Sp s → Ix c s W → W.heap[D]? = some (.deferred (some [])) → c.wpIn F n P Q { a with defers := { target := .collected D, args := #[] } :: a.defers } W) :
    (Code.rangeFunc g ps assign body).wpIn F n P Q a w := by
  have two : ∀ (W : World) (r r' : Loop), W.heap[w.heap.size + 1]? = some (.loop r) → W.heap[w.heap.size]? = some (.deferred (some [])) → (W.putObj (w.heap.size + 1) (.loop r')).heap[w.heap.size]? = some (.deferred (some [])) :=
    fun W r r' _ h => (World.putObj_heap_other (by omega)).trans h
  have off : ∀ (j : Nat) (o : Obj), w.heap.size ≤ j → j < w.heap.size + 2 → KeptOff w.heap.size (w.heap.size + 2) (fun W => W.heap[j]? = some o) := fun j o ha hb X Y row hX hg hr =>
    (hg.block j (Array.getElem?_eq_some_iff.1 hX).1 (fun e => by rcases hr j e.symm with h | h <;> omega)).trans hX
  refine rf_core (L := w.heap.size + 1) (D := w.heap.size) (mark := [{ target := .collected w.heap.size, args := #[] }]) h1 hg hFg eg (At := At) (Kp := Kp) (S := S) (Sp := Sp)
    (fun s W => I s W ∧ W.heap[w.heap.size]? = some (.deferred (some []))) (fun c s W => Ix c s W ∧ W.heap[w.heap.size]? = some (.deferred (some []))) Ax
    (fun h k => hKt h k) (fun W r r' hl => hKb W _ _ _ (by omega) (by omega) hl rfl) ?_ ?_ ?_ hps ?_ ?_ ?_ ?_ ?_
  · exact fun W r r' s hl h => ⟨hI.putObj _ h.1 (by omega) hl rfl, two W r r' hl h.2⟩
  · exact fun W r r' c s hl h => ⟨(hIx c).putObj _ h.1 (by omega) hl rfl, two W r r' hl h.2⟩
  · exact fun W r r' s s' vs a' hl h => (hAx s s' vs a').putObj (s := ()) _ h (by omega) hl rfl
  · intro fn hfn
    obtain ⟨W1, hW1⟩ : ∃ W1, (w.alloc (.deferred (some []))).alloc (.loop (recOf a ps assign body w.heap.size fn .ready none)) = W1 := ⟨_, rfl⟩
    have hL1 : W1.heap[w.heap.size + 1]? = some (.loop (recOf a ps assign body w.heap.size fn .ready none)) := by
      rw [← hW1]; have := World.alloc_heap_new (w.alloc (.deferred (some []))) (.loop (recOf a ps assign body w.heap.size fn .ready none)); rwa [World.size_alloc] at this
    have hK1 : W1.heap[w.heap.size]? = some (.deferred (some [])) := by
      rw [← hW1]; exact (Below.heap_alloc _ _ _ (by simp)).trans (World.alloc_heap_new w _)
    refine ⟨W1, by rw [← hW1, hro]; exact run_enterLoop_outer _ _ _ _ _, fun hY => ?_⟩
    refine (hseq (fun W => W.heap[w.heap.size]? = some (.deferred (some [])) ∧ W.heap[w.heap.size + 1]? = some (.loop (recOf a ps assign body w.heap.size fn .ready none)))
      (fun c W => W.heap[w.heap.size]? = some (.deferred (some [])) ∧ W.heap[w.heap.size + 1]? = some (.loop (recOf a ps assign body w.heap.size fn .done (some c)))) W1 ?_ ?_ ?_ ?_ ?_ ⟨hK1, hL1⟩ ?_).mono ?_
    · exact fun X Y row hX hg hr => ⟨off _ _ (by omega) (by omega) X Y row hX.1 hg hr, off _ _ (by omega) (by omega) X Y row hX.2 hg hr⟩
    · exact fun c X Y row hX hg hr => ⟨off _ _ (by omega) (by omega) X Y row hX.1 hg hr, off _ _ (by omega) (by omega) X Y row hX.2 hg hr⟩
    · rw [← hW1]; exact ((Below.refl _ w).alloc (Nat.le_refl _) _).alloc (by simp) _
    · rw [← hW1]; simp
    · rw [← hW1]; exact hI.alloc _ (hI.alloc _ h0)
    · rintro s s' vs W ⟨hi, hk, hl⟩ hat
      obtain ⟨f0, tm, asg, bo, hr, hR⟩ := hY s s' vs W ⟨⟨hi, hk⟩, hl⟩ hat
      refine ⟨f0, tm, asg, bo, hr, hR.mono ?_⟩
      rintro e W' (⟨rfl, ⟨⟨hi', hk'⟩, hl'⟩, hkp⟩ | ⟨rfl, c, ⟨hi', hk'⟩, hl'⟩)
      · exact .inl ⟨rfl, ⟨hi', hk', hl'⟩, hkp⟩
      · exact .inr ⟨rfl, c, hi', hk', hl'⟩
    · rintro e W' ⟨hv, (⟨s, hS, hi', hk', hl'⟩ | ⟨s, hS, c, hi', hk', hl'⟩)⟩
      · exact ⟨hv, .inl ⟨s, hS, ⟨hi', hk'⟩, hl'⟩⟩
      · exact ⟨hv, .inr ⟨s, hS, c, ⟨hi', hk'⟩, hl'⟩⟩
  · rintro s s' vs W K ⟨r, hl⟩ ⟨hi, hk⟩ hat hK
    exact hassign _ s s' vs W K hi hat fun a' W' hkf hkp hi' hax => hK a' W' ((hkf.same _ _ (by omega) hl rfl).trans hl.symm) hkp ⟨hi', hkf.same _ _ (Nat.le_refl _) hk rfl⟩ hax
  · rintro s s' vs a' W ⟨r, hl⟩ ⟨hi, hk⟩ hax
    refine wpIn_mono (hbody _ s s' vs a' W rfl ⟨r, hl⟩ hi hax) ?_
    intro e a3 W3 hp
    cases e with
    | normal => exact ⟨(hp.1.same _ _ (by omega) hl rfl).trans hl.symm, hp.2.1, hp.2.2, hp.1.same _ _ (Nat.le_refl _) hk rfl⟩
    | ret => exact ⟨(hp.1.same _ _ (by omega) hl rfl).trans hl.symm, hp.2, hp.1.same _ _ (Nat.le_refl _) hk rfl⟩
    | exit id => exact ⟨(hp.1.same _ _ (by omega) hl rfl).trans hl.symm, hp.2, hp.1.same _ _ (Nat.le_refl _) hk rfl⟩
    | goto t => exact ⟨(hp.1.same _ _ (by omega) hl rfl).trans hl.symm, hp.2, hp.1.same _ _ (Nat.le_refl _) hk rfl⟩
    | panic ch => exact hp.elim
    | outgrown => exact hp.elim
  · exact fun s W hS h => hdone _ s W (Nat.le_refl _) hS h.1 h.2
  · exact fun c s W hS h => hstop _ c s W (Nat.le_refl _) hS h.1 h.2
end
end Go.Proofs.Ytelglccegkhfcaa

/-! An outermost range over a function, with the loop's records told block by block. -/
namespace Go.Proofs.Ytelglccegkhfcaa
open Go.RowKit
set_option linter.unusedVariables false
set_option linter.unusedSimpArgs false

/-- A fact on the blocks lo .. hi - 1 alone. -/
def KeptAt (lo hi : Nat) (R : World → Prop) : Prop := ∀ X Y, R X → (∀ b, lo ≤ b → b < hi → Y.heap[b]? = X.heap[b]?) → R Y

section
variable {F : Fence} {n : Nat} {P : Program}

/-- An outermost loop. -/
theorem rf_outer2 {σ : Type} {g : Operand} {ps : Array Tmp} {assign body : Code} {Q : Exit → Act → World → Prop} {a : Act} {w : World}
    (hro : F.round = none) (h1 : 1 ≤ n) {gf : Nat} {lb : Array Value} (hg : a.eval g = .func (.func gf) #[] lb) (hFg : F.fn gf) (eg : ∀ args w, (callFunc gf args).run P w = .ok (.enter gf args) w)
    {At : σ → σ → Array Value → World → Prop} {Kp : World → World → Prop} {S Sp : σ → Prop}
    (hKt : ∀ {A B C : World}, Kp A B → Kp B C → Kp A C)
    (hKb : ∀ (W : World) (l : Nat) (o o' : Obj), w.heap.size ≤ l → l < w.heap.size + 2 → W.heap[l]? = some o → o.isCells = false → Kp W (W.putObj l o'))
    (hps : ∀ s s' vs W, At s s' vs W → vs.size = ps.size)
    (I : σ → World → Prop) (Ix : Code → σ → World → Prop) (Ax : σ → σ → Array Value → Act → World → Prop)
    (hI : OwnFrom w.heap.size I) (hIx : ∀ c, OwnFrom w.heap.size (Ix c)) (hAx : ∀ s s' vs a', OwnFrom w.heap.size (fun (_ : Unit) W => Ax s s' vs a' W)) (s0 : σ) (h0 : I s0 w)
    (hseq : ∀ (Rec : World → Prop) (RecX : Code → World → Prop) (W1 : World), KeptAt w.heap.size (w.heap.size + 2) Rec → (∀ c, KeptAt w.heap.size (w.heap.size + 2) (RecX c)) →
      Below w.heap.size w W1 → W1.heap.size = w.heap.size + 2 → I s0 W1 → Rec W1 →
      (∀ s s' vs W, I s W ∧ Rec W → At s s' vs W → YieldAt F (n - 1 - 1) P (w.heap.size + 1) vs W (YieldPost Rec RecX Kp I Ix s' W)) →
      CallsIn F (n - 1) P gf (#[.func (.yield (w.heap.size + 1)) #[] #[]] ++ lb) W1 (SeqPost Rec RecX S Sp I Ix))
    (hassign : ∀ (l : Nat) (s s' : σ) (vs : Array Value) (W : World) (K : Act → World → Prop), I s W → At s s' vs W →
      (∀ a' W', KeepsFrom w.heap.size W W' → Kp W W' → I s W' → Ax s s' vs a' W' → K a' W') →
      assign.wpIn (F.inRound l) (n - 1 - 1) P (Exit.then K (fun _ _ _ => False)) { tmps := (ps.zip vs).foldl (fun t (p, v) => t.setIfInBounds p v) a.tmps, defers := [] } W)
    (hbody : ∀ (l : Nat) (s s' : σ) (vs : Array Value) (a' : Act) (W : World), l = w.heap.size + 1 → (∃ r, W.heap[l]? = some (.loop r)) → I s W → Ax s s' vs a' W →
      body.wpIn (F.inRound l) (n - 1 - 1) P (outPost w.heap.size Kp I Ix s' W) a' W)
    (hdone : ∀ (D : Nat) (s : σ) (W : World), w.heap.size ≤ D → S s → I s W → W.heap[D]? = some (.deferred (some [])) → Q .normal { a with defers := { target := .collected D, args := #[] } :: a.defers } W)
    (hstop : ∀ (D : Nat) (c : Code) (s : σ) (W : World), w.heap.size ≤ D → Sp s → Ix c s W → W.heap[D]? = some (.deferred (some [])) → c.wpIn F n P Q { a with defers := { target := .collected D, args := #[] } :: a.defers } W) :
    (Code.rangeFunc g ps assign body).wpIn F n P Q a w := by
  have two : ∀ (W : World) (r r' : Loop), W.heap[w.heap.size + 1]? = some (.loop r) → W.heap[w.heap.size]? = some (.deferred (some [])) → (W.putObj (w.heap.size + 1) (.loop r')).heap[w.heap.size]? = some (.deferred (some [])) :=
    fun W r r' _ h => (World.putObj_heap_other (by omega)).trans h
  refine rf_core (L := w.heap.size + 1) (D := w.heap.size) (mark := [{ target := .collected w.heap.size, args := #[] }]) h1 hg hFg eg (At := At) (Kp := Kp) (S := S) (Sp := Sp)
    (fun s W => I s W ∧ W.heap[w.heap.size]? = some (.deferred (some []))) (fun c s W => Ix c s W ∧ W.heap[w.heap.size]? = some (.deferred (some []))) Ax
    (fun h k => hKt h k) (fun W r r' hl => hKb W _ _ _ (by omega) (by omega) hl rfl) ?_ ?_ ?_ hps ?_ ?_ ?_ ?_ ?_
  · exact fun W r r' s hl h => ⟨hI.putObj _ h.1 (by omega) hl rfl, two W r r' hl h.2⟩
  · exact fun W r r' c s hl h => ⟨(hIx c).putObj _ h.1 (by omega) hl rfl, two W r r' hl h.2⟩
  · exact fun W r r' s s' vs a' hl h => (hAx s s' vs a').putObj (s := ()) _ h (by omega) hl rfl
  · intro fn hfn
    obtain ⟨W1, hW1⟩ : ∃ W1, (w.alloc (.deferred (some []))).alloc (.loop (recOf a ps assign body w.heap.size fn .ready none)) = W1 := ⟨_, rfl⟩
    have hL1 : W1.heap[w.heap.size + 1]? = some (.loop (recOf a ps assign body w.heap.size fn .ready none)) := by
      rw [← hW1]; have := World.alloc_heap_new (w.alloc (.deferred (some []))) (.loop (recOf a ps assign body w.heap.size fn .ready none)); rwa [World.size_alloc] at this
    have hK1 : W1.heap[w.heap.size]? = some (.deferred (some [])) := by
      rw [← hW1]; exact (Below.heap_alloc _ _ _ (by simp)).trans (World.alloc_heap_new w _)
    refine ⟨W1, by rw [← hW1, hro]; exact run_enterLoop_outer _ _ _ _ _, fun hY => ?_⟩
    refine (hseq (fun W => W.heap[w.heap.size]? = some (.deferred (some [])) ∧ W.heap[w.heap.size + 1]? = some (.loop (recOf a ps assign body w.heap.size fn .ready none)))
      (fun c W => W.heap[w.heap.size]? = some (.deferred (some [])) ∧ W.heap[w.heap.size + 1]? = some (.loop (recOf a ps assign body w.heap.size fn .done (some c)))) W1 ?_ ?_ ?_ ?_ ?_ ⟨hK1, hL1⟩ ?_).mono ?_
    · exact fun X Y hX h => ⟨(h _ (by omega) (by omega)).trans hX.1, (h _ (by omega) (by omega)).trans hX.2⟩
    · exact fun c X Y hX h => ⟨(h _ (by omega) (by omega)).trans hX.1, (h _ (by omega) (by omega)).trans hX.2⟩
    · rw [← hW1]; exact ((Below.refl _ w).alloc (Nat.le_refl _) _).alloc (by simp) _
    · rw [← hW1]; simp
    · rw [← hW1]; exact hI.alloc _ (hI.alloc _ h0)
    · rintro s s' vs W ⟨hi, hk, hl⟩ hat
      obtain ⟨f0, tm, asg, bo, hr, hR⟩ := hY s s' vs W ⟨⟨hi, hk⟩, hl⟩ hat
      refine ⟨f0, tm, asg, bo, hr, hR.mono ?_⟩
      rintro e W' (⟨rfl, ⟨⟨hi', hk'⟩, hl'⟩, hkp⟩ | ⟨rfl, c, ⟨hi', hk'⟩, hl'⟩)
      · exact .inl ⟨rfl, ⟨hi', hk', hl'⟩, hkp⟩
      · exact .inr ⟨rfl, c, hi', hk', hl'⟩
    · rintro e W' ⟨hv, (⟨s, hS, hi', hk', hl'⟩ | ⟨s, hS, c, hi', hk', hl'⟩)⟩
      · exact ⟨hv, .inl ⟨s, hS, ⟨hi', hk'⟩, hl'⟩⟩
      · exact ⟨hv, .inr ⟨s, hS, c, ⟨hi', hk'⟩, hl'⟩⟩
  · rintro s s' vs W K ⟨r, hl⟩ ⟨hi, hk⟩ hat hK
    exact hassign _ s s' vs W K hi hat fun a' W' hkf hkp hi' hax => hK a' W' ((hkf.same _ _ (by omega) hl rfl).trans hl.symm) hkp ⟨hi', hkf.same _ _ (Nat.le_refl _) hk rfl⟩ hax
  · rintro s s' vs a' W ⟨r, hl⟩ ⟨hi, hk⟩ hax
    refine wpIn_mono (hbody _ s s' vs a' W rfl ⟨r, hl⟩ hi hax) ?_
    intro e a3 W3 hp
    cases e with
    | normal => exact ⟨(hp.1.same _ _ (by omega) hl rfl).trans hl.symm, hp.2.1, hp.2.2, hp.1.same _ _ (Nat.le_refl _) hk rfl⟩
    | ret => exact ⟨(hp.1.same _ _ (by omega) hl rfl).trans hl.symm, hp.2, hp.1.same _ _ (Nat.le_refl _) hk rfl⟩
    | exit id => exact ⟨(hp.1.same _ _ (by omega) hl rfl).trans hl.symm, hp.2, hp.1.same _ _ (Nat.le_refl _) hk rfl⟩
    | goto t => exact ⟨(hp.1.same _ _ (by omega) hl rfl).trans hl.symm, hp.2, hp.1.same _ _ (Nat.le_refl _) hk rfl⟩
    | panic ch => exact hp.elim
    | outgrown => exact hp.elim
  · exact fun s W hS h => hdone _ s W (Nat.le_refl _) hS h.1 h.2
  · exact fun c s W hS h => hstop _ c s W (Nat.le_refl _) hS h.1 h.2
end
end Go.Proofs.Ytelglccegkhfcaa

/-! The iterator over the values of a bit set: how it is made. -/
namespace Go.Proofs.Ytelglccegkhfcaa
open Go.ChangeShapes Go.WideShapes Go.ChangeAt Go.RowKit Go.Shelf
set_option linter.unusedVariables false
set_option linter.unusedSimpArgs false

attribute [local go_sem] Oper.semAt_some

set_option maxHeartbeats 1000000 in
theorem values_in (n : Nat) (d : Int) (w : World) :
    CallsIn Fence.wide n Try.prog 132 #[.int .i64 d] w fun e w' => e = .returned (.func (.func 165) #[] #[.pointer (some ⟨w.heap.size, 0, none⟩)]) ∧ w' = w.alloc (.cells #[.int .i64 d] 145) := by
  refine callsIn_of_wp Try.func132 rfl trivial ?_ rfl
  simp only [Try.ntmps132, List.size_toArray, List.length_cons, List.length_nil, Nat.reduceAdd, Nat.reduceSub, Array.replicate_succ, Array.replicate_zero, List.push_toArray, List.append_toArray, List.nil_append, List.cons_append]
  gi_wp2
  go_ret
  exact ⟨rfl, rfl⟩

end Go.Proofs.Ytelglccegkhfcaa

/-! Loops over the values of a bit set, counted by the value that comes next. -/
namespace Go.Proofs.Ytelglccegkhfcaa
open Go.ChangeShapes Go.WideShapes Go.ChangeAt Go.RowKit Go.Shelf
set_option linter.unusedVariables false
set_option linter.unusedSimpArgs false

attribute [local go_sem] Oper.semAt_some

set_option maxRecDepth 100000 in
set_option maxHeartbeats 2000000 in
theorem values1_k (n : Nat) (hn : 1 ≤ n) (l Bs : Nat) (d : Int) (h1 : 0 ≤ d) (h2 : d ≤ 63) (J Jx : Nat → World → Prop)
    (hbox : ∀ k W, J k W → W.cell? ⟨Bs, 0, none⟩ = some (.int .i64 d)) (hS : ∀ (k : Nat) W, k < 6 → hasB d k = false → J k W → J (k + 1) W)
    (hY : ∀ (k : Nat) W, J k W → k < 6 → hasB d k = true → YieldAt Fence.wide (n - 1) Try.prog l #[.int .i64 k] W fun e W' =>
      (e = .returned (.bool true) ∧ J (k + 1) W') ∨ (e = .returned (.bool false) ∧ Jx (k + 1) W'))
    (W : World) (h0 : J 0 W) :
    CallsIn Fence.wide n Try.prog 165 #[.func (.yield l) #[] #[], .pointer (some ⟨Bs, 0, none⟩)] W fun e W' => (∃ v, e = .returned v) ∧
      (J 6 W' ∨ (∃ k, k ≤ 6 ∧ Jx k W')) := by
  refine callsIn_of_wp Try.func165 rfl trivial ?_ rfl
  simp only [Try.ntmps165, List.size_toArray, List.length_cons, List.length_nil, Nat.reduceAdd, Nat.reduceSub, Array.replicate_succ, Array.replicate_zero, List.push_toArray, List.append_toArray, List.nil_append, List.cons_append]
  gi_wp2
  gi_loopw [4] (fun i wr => ∃ k : Nat, k ≤ 6 ∧ i = .int .i64 k ∧ J k wr) (fun i _ => 6 - (intOf i).toNat)
  case atStart => exact ⟨0, Nat.zero_le _, rfl, h0⟩
  case round =>
    obtain ⟨k, hk, rfl, hJs⟩ := hrel
    have hc := hbox _ _ hJs
    by_cases hlt : k < 6
    · cases hh : hasB d k
      · have hS' := hS k wr hlt hh hJs
        gi_wp2_with (refine ⟨trivial, ?_⟩; gi_at_call 166; refine (callsIn_wide.2 (has_any _ _ _ h1 h2)).mono ?_; rintro e w' ⟨rfl, rfl⟩)
        refine ⟨fun _ h => (by cases h), ?_⟩
        gi_wp2
        go_roundw
        case rel => exact ⟨k + 1, by omega, by simp, hS'⟩
        case measure => simp [intOf]; omega
      · obtain ⟨fn, tmps, assign, body, hy, hR⟩ := hY k wr hJs hlt hh
        gi_wp2_with (refine ⟨trivial, ?_⟩; gi_at_call 166; refine (callsIn_wide.2 (has_any _ _ _ h1 h2)).mono ?_; rintro e w' ⟨rfl, rfl⟩)
        refine hR.mono ?_
        rintro e W3 (⟨rfl, hJ3⟩ | ⟨rfl, hJx3⟩)
        · gi_wp2
          go_roundw
          case rel => exact ⟨k + 1, by omega, by simp, hJ3⟩
          case measure => simp [intOf]; omega
        · gi_wp2
          refine bodyPost_ret (results_none rfl _ _ _) rfl ?_
          exact ⟨⟨_, rfl⟩, .inr ⟨k + 1, by omega, hJx3⟩⟩
    · obtain rfl : k = 6 := by omega
      gi_wp2
      go_end0
      exact ⟨⟨_, rfl⟩, .inl hJs⟩

/-- A loop over the values of d, outside of any round: I k: the values below k have come. -/
theorem rf_values {n : Nat} {g : Operand} {ps : Array Tmp} {assign body : Code} {Q : Exit → Act → World → Prop} {a : Act} {w : World} {Bs : Nat} {d : Int}
    (hn : 2 ≤ n) (hg : a.eval g = .func (.func 165) #[] #[.pointer (some ⟨Bs, 0, none⟩)]) (h1 : 0 ≤ d) (h2 : d ≤ 63) (hps : ps.size = 1)
    (I : Nat → World → Prop) (Ix : Code → Nat → World → Prop) (hI : OwnFrom w.heap.size I) (hIx : ∀ c, OwnFrom w.heap.size (Ix c))
    (hbox : ∀ k W, I k W → W.cell? ⟨Bs, 0, none⟩ = some (.int .i64 d)) (hskip : ∀ (k : Nat) W, k < 6 → hasB d k = false → I k W → I (k + 1) W) (h0 : I 0 w) (a₁ : Nat → Act)
    (hassign : ∀ (l k : Nat) (W : World) (K : Act → World → Prop), K (a₁ k) W →
      assign.wpIn (Fence.wide.inRound l) (n - 1 - 1) Try.prog (Exit.then K (fun _ _ _ => False)) { tmps := (ps.zip #[Value.int .i64 k]).foldl (fun t (p, v) => t.setIfInBounds p v) a.tmps, defers := [] } W)
    (hbody : ∀ (l k : Nat) (W : World), l = w.heap.size + 1 → (∃ r, W.heap[l]? = some (.loop r)) → k < 6 → hasB d k = true → I k W →
      body.wpIn (Fence.wide.inRound l) (n - 1 - 1) Try.prog (outPost w.heap.size (fun _ _ => True) I Ix (k + 1) W) (a₁ k) W)
    (hdone : ∀ (D : Nat) (W : World), w.heap.size ≤ D → I 6 W → W.heap[D]? = some (.deferred (some [])) → Q .normal { a with defers := { target := .collected D, args := #[] } :: a.defers } W)
    (hstop : ∀ (D : Nat) (c : Code) (k : Nat) (W : World), w.heap.size ≤ D → k ≤ 6 → Ix c k W → W.heap[D]? = some (.deferred (some [])) → c.wpIn Fence.wide n Try.prog Q { a with defers := { target := .collected D, args := #[] } :: a.defers } W) :
    (Code.rangeFunc g ps assign body).wpIn Fence.wide n Try.prog Q a w := by
  refine rf_outer (σ := Nat) (At := fun (s s' : Nat) vs (_ : World) => s < 6 ∧ hasB d s = true ∧ s' = s + 1 ∧ vs = #[Value.int .i64 s]) (Kp := fun _ _ => True) (S := fun s => s = 6) (Sp := fun s => s ≤ 6)
    rfl (by omega) hg trivial (enters_of Try.func165 (by kernel_rfl) rfl) (fun _ _ => trivial) (fun _ _ _ _ _ _ _ _ => trivial) (fun s s' vs W h => by rw [h.2.2.2, hps]; rfl)
    I Ix (fun (s s' : Nat) (_ : Array Value) a' (_ : World) => s < 6 ∧ hasB d s = true ∧ s' = s + 1 ∧ a' = a₁ s) hI hIx (fun _ _ _ _ _ _ _ _ hs _ _ => hs) 0 h0 ?_ ?_ ?_ ?_ ?_
  · intro Rec RecX W1 hRec hRecX hB1 hs1 hI1 hR1 hY
    refine (values1_k (n - 1) (by omega) _ Bs d h1 h2 (fun k W => I k W ∧ Rec W) (fun k W => ∃ c, Ix c k W ∧ RecX c W) (fun k W h => hbox k W h.1) (fun k W hk hh h => ⟨hskip k W hk hh h.1, h.2⟩) ?_ W1 ⟨hI1, hR1⟩).mono ?_
    · intro k W hJ hk hh
      obtain ⟨f0, tm, asg, bo, hr, hR⟩ := hY k (k + 1) _ W hJ ⟨hk, hh, rfl, rfl⟩
      refine ⟨f0, tm, asg, bo, hr, hR.mono ?_⟩
      rintro e W' (⟨rfl, h, _⟩ | ⟨rfl, h⟩)
      · exact .inl ⟨rfl, h⟩
      · exact .inr ⟨rfl, h⟩
    · rintro e W' ⟨hv, (h | ⟨k, hk, h⟩)⟩
      · exact ⟨hv, .inl ⟨6, rfl, h⟩⟩
      · exact ⟨hv, .inr ⟨k, hk, h⟩⟩
  · rintro l s s' vs W K hi ⟨hs, hh, rfl, rfl⟩ hK
    exact hassign l s W K (hK _ W (KeepsFrom.refl _ _) trivial hi ⟨hs, hh, rfl, rfl⟩)
  · rintro l s s' vs a' W hl hr hi ⟨hs, hh, rfl, rfl⟩
    exact hbody l s W hl hr hs hh hi
  · rintro D s W hD rfl hi hK
    exact hdone D W hD hi hK
  · rintro D c s W hD hs hi hK
    exact hstop D c s W hD hs hi hK
end Go.Proofs.Ytelglccegkhfcaa
