/- Loops over the solutions; the program's CountSolutions. -/
import Derived.Test.YtnkbcciigdjcnaaGreatDoorSrcY
namespace Go.Proofs.YtnkbcciigdjcnaaGreatDoor
open Go.ChangeShapes Go.WideShapes Go.ChangeAt Go.RowKit Go.Shelf
set_option linter.unusedVariables false
set_option linter.unusedSimpArgs false

attribute [local go_sem] Oper.semAt_some

theorem keeps_put {B L : Nat} {X0 X : World} {o : Obj} (h : KeepsFrom B X0 X) (hL : L < B) : KeepsFrom B X0 (X.putObj L o) :=
  ⟨by have := h.size; have := (grownBy_putObj' X L o).size; omega, fun b o' hb h1 h2 => (World.putObj_heap_other (by omega)).trans (h.same b o' hb h1 h2)⟩
theorem keeps_mono {B B' : Nat} {X Y : World} (h : KeepsFrom B X Y) (hB : B ≤ B') : KeepsFrom B' X Y := ⟨h.size, fun b o hb h1 h2 => h.same b o (by omega) h1 h2⟩

/-- A loop over the solutions, outside of any round. -/
theorem rf_solutions {n : Nat} {gop : Operand} {ps : Array Tmp} {assign body : Code} {Q : Exit → Act → World → Prop} {a : Act} {w : World} {Bm : Nat} (m : Mod) (w0 : World) {a1 a2 : Option Addr} {c1 c2 : Nat} (hrm : RdModel w0 (.agg #[.slice a1 m.doms.length c1, .slice a2 m.cons.length c2]) m) (hv : vmB m = true)
    (hn : 2 ≤ n) (hg : a.eval gop = .func (.func 72) #[] #[.pointer (some ⟨Bm, 0, none⟩)]) (hps : ps.size = 1)
    (I : List (List Int) → Nat → World → Prop) (Ix : Code → World → Prop)
    (hI : ∀ R g X, I R g X → Below w0.heap.size w0 X ∧ Blk2 X Bm 31 (.slice a1 m.doms.length c1) (.slice a2 m.cons.length c2) ∧ Tab64 X)
    (hIs : ∀ R g g' X Y, w.heap.size + 2 ≤ g → I R g X → ExtG g X Y → (g' = g ∨ X.heap.size ≤ g') → I R g' Y)
    (hIo : ∀ R g, OwnB w.heap.size (I R g)) (hIxo : ∀ c, OwnB w.heap.size (Ix c))
    (h0 : I (solL m.cons m.doms) (w.heap.size + 2) w) (a₁ : Value → Act)
    (hassign : ∀ (l : Nat) (xv : Value) (X : World) (K : Act → World → Prop), K (a₁ xv) X →
      assign.wpIn (Fence.wide.inRound l) (n - 1 - 1) Tryz.prog (Exit.then K (fun _ _ _ => False)) { tmps := (ps.zip #[xv]).foldl (fun t (p, v) => t.setIfInBounds p v) a.tmps, defers := [] } X)
    (hbody : ∀ (l : Nat) (R : List (List Int)) (x : List Int) (g : Nat) (X : World) (xv : Value), l = w.heap.size + 1 → (∃ r, X.heap[l]? = some (.loop r)) → I (x :: R) g X → w.heap.size + 2 ≤ g →
      X.ownsRow (w.heap.size + 2) 3 1 xv x.length (x.map (Value.int .i64)) → x.length = m.doms.length →
      body.wpIn (Fence.wide.inRound l) (n - 1 - 1) Tryz.prog (bdPost w.heap.size g (I R g) Ix X) (a₁ xv) X)
    (hdone : ∀ (D : Nat) (g : Nat) (X : World), w.heap.size ≤ D → I [] g X → X.heap[D]? = some (.deferred (some [])) → Q .normal { a with defers := { target := .collected D, args := #[] } :: a.defers } X)
    (hstop : ∀ (D : Nat) (c : Code) (X : World), w.heap.size ≤ D → Ix c X → X.heap[D]? = some (.deferred (some [])) → c.wpIn Fence.wide n Tryz.prog Q { a with defers := { target := .collected D, args := #[] } :: a.defers } X) :
    (Code.rangeFunc gop ps assign body).wpIn Fence.wide n Tryz.prog Q a w := by
  have put : ∀ (X : World) (r r' : Loop), X.heap[w.heap.size + 1]? = some (.loop r) → ∀ q, some (w.heap.size + 1) = some q → w.heap.size ≤ q ∧ ∃ o : Obj, X.heap[q]? = some o ∧ o.isCells = false := fun X r r' hl q e => by cases e; exact ⟨by omega, _, hl, rfl⟩
  refine rf_outer3 (σ := (List (List Int) × Nat) × Option World) (At := fun q q' vs X => ∃ x R xv, q.1.1 = x :: R ∧ vs = #[xv] ∧ X.ownsRow (w.heap.size + 2) 3 1 xv x.length (x.map (Value.int .i64)) ∧ x.length = m.doms.length ∧ q' = ((R, q.1.2), some X)) (Kp := fun _ _ => True) (S := fun q => q.1.1 = []) (Sp := fun _ => True)
    rfl (by omega) hg trivial (enters_of Tryz.func72 (by kernel_rfl) rfl) (fun _ _ => trivial) (fun _ _ _ _ _ _ _ _ => trivial) (fun q q' vs X h => by obtain ⟨_, _, _, _, rfl, _⟩ := h; rw [hps]; rfl)
    (fun q X => I q.1.1 q.1.2 X ∧ w.heap.size + 2 ≤ q.1.2 ∧ ∀ X0, q.2 = some X0 → KpV (w.heap.size + 2) q.1.2 X0 X ∧ KeepsFrom (w.heap.size + 2) X0 X) (fun c q X => Ix c X ∧ ∀ X0, q.2 = some X0 → KeepsFrom (w.heap.size + 2) X0 X)
    (fun q q' vs a' X => ∃ x R xv X0, q.1.1 = x :: R ∧ X.ownsRow (w.heap.size + 2) 3 1 xv x.length (x.map (Value.int .i64)) ∧ x.length = m.doms.length ∧ q' = ((R, q.1.2), some X0) ∧ KpV (w.heap.size + 2) q.1.2 X0 X ∧ KeepsFrom (w.heap.size + 2) X0 X ∧ a' = a₁ xv)
    ?_ ?_ ?_ ((solL m.cons m.doms, w.heap.size + 2), none) ?_ ?_ ?_ ?_ ?_ ?_
  · rintro q X r r' hl ⟨h1, h2, h3⟩
    exact ⟨hIo _ _ X _ _ h1 (grownBy_putObj' X _ _) (put X r r' hl), h2, fun X0 e => ⟨(h3 X0 e).1.grown (grownBy_putObj' X _ _) (fun q e => (put X r r' hl q e).2), keeps_put (h3 X0 e).2 (by omega)⟩⟩
  · rintro c q X r r' hl ⟨h1, h2⟩
    exact ⟨hIxo c X _ _ h1 (grownBy_putObj' X _ _) (put X r r' hl), fun X0 e => keeps_put (h2 X0 e) (by omega)⟩
  · rintro q q' vs a' X r r' hl ⟨x, R, xv, X0, e1, e2, e3, e4, e5, e6, e7⟩
    exact ⟨x, R, xv, X0, e1, own_keep' e2 (fun b cur _ hb => (grownBy_putObj' X _ _).block b (Array.getElem?_eq_some_iff.1 hb).1 (fun e => by
      cases e
      rw [hl] at hb
      cases hb)), e3, e4, e5.grown (grownBy_putObj' X _ _) (fun q e => (put X r r' hl q e).2), keeps_put e6 (by omega), e7⟩
  · intro W1 hB1 hs1
    exact ⟨hIs _ _ _ w W1 (Nat.le_refl _) h0 (ExtG.of_below hB1) (.inl rfl), Nat.le_refl _, fun X0 e => by cases e⟩
  · intro Rec RecX W1 hRec hRecX hB1 hs1 hI1 hR1 hY
    refine callsIn_wide.2 ((callsIn_wide.1 (solutions1_any (w.heap.size + 1) Bm m w0 hrm hv (fun R g X => I R g X ∧ w.heap.size + 2 ≤ g ∧ w.heap.size + 2 ≤ X.heap.size ∧ Rec X) (fun X => ∃ c, Ix c X ∧ w.heap.size + 2 ≤ X.heap.size ∧ RecX c X) (fun R g X h => hI _ _ _ h.1) ?_ W1 ?_ ?_ ?_ ⟨by rw [hs1]; exact hI1.1, by omega, by omega, hR1⟩)).mono ?_)
    · rintro R g g' X Y ⟨h1, h2, h3, h4⟩ he hgg
      have hys := he.size
      exact ⟨hIs R g g' X Y h2 h1 he hgg, by omega, by omega, hRec X Y h4 (fun b h5 h6 => he.block b (by omega) (by omega))⟩
    · rintro R g X Y row ⟨h1, h2, h3, h4⟩ hgr hr
      have hys := hgr.size
      exact ⟨hIo R g X Y row h1 hgr (fun r e => ⟨by have := (hr r e).1; omega, (hr r e).2⟩), h2, by omega, hRec X Y h4 (fun b h5 h6 => hgr.block b (by omega) (fun e => by have := (hr b e.symm).1; omega))⟩
    · rintro X Y row ⟨c, h1, h2, h3⟩ hgr hr
      have hys := hgr.size
      exact ⟨c, hIxo c X Y row h1 hgr (fun r e => ⟨by have := (hr r e).1; omega, (hr r e).2⟩), by omega, hRecX c X Y h3 (fun b h5 h6 => hgr.block b (by omega) (fun e => by have := (hr b e.symm).1; omega))⟩
    · rintro R x g X xv ⟨h1, h2, h3, h4⟩ ho hxl hgw
      rw [hs1] at ho ⊢
      obtain ⟨f0, tm, asg, bo, hrun, hR'⟩ := yieldAt_wide (m' := 7) (hY ((x :: R, g), none) ((R, g), some X) #[xv] X ⟨⟨h1, h2, fun X0 e => by cases e⟩, h4⟩ ⟨x, R, xv, rfl, rfl, ho, hxl, rfl⟩)
      refine ⟨f0, tm, asg, bo, hrun, hR'.mono ?_⟩
      rintro e X' (⟨rfl, ⟨⟨k1, k2, k3⟩, k4⟩, _⟩ | ⟨rfl, c, hh, hx⟩)
      · have := (k3 X rfl).1.size
        exact .inl ⟨rfl, ⟨k1, k2, by omega, k4⟩, (k3 X rfl).1, (k3 X rfl).2⟩
      · have := (hh.2 X rfl).size
        exact .inr ⟨rfl, ⟨c, hh.1, by omega, hx⟩, hh.2 X rfl⟩
    · rintro e Y ⟨hv, (⟨g, h⟩ | ⟨c, h, _, hx⟩)⟩
      · exact ⟨hv, .inl ⟨(([], g), none), rfl, ⟨h.1, h.2.1, fun X0 e => by cases e⟩, h.2.2.2⟩⟩
      · exact ⟨hv, .inr ⟨(([], 0), none), trivial, c, ⟨h, fun X0 e => by cases e⟩, hx⟩⟩
  · rintro l q q' vs X K hi ⟨x, R, xv, e1, rfl, e2, e3, e4⟩ hK
    exact hassign l xv X K (hK _ X (KeepsFrom.refl _ _) trivial hi ⟨x, R, xv, X, e1, e2, e3, e4, KpV.refl _ _ _, KeepsFrom.refl _ _, rfl⟩)
  · rintro l q q' vs a' X hl hr ⟨h1, h2, h3⟩ ⟨x, R, xv, X0, e1, e2, e3, rfl, e5, e6, rfl⟩
    rw [e1] at h1
    refine wpIn_mono (hbody l R x _ X xv hl hr h1 h2 e2 e3) ?_
    intro e a3 X3 hp
    have k2 : ∀ X1, some X0 = some X1 → KeepsFrom w.heap.size X X3 → KeepsFrom (w.heap.size + 2) X1 X3 := fun X1 e hk => by cases e; exact e6.trans (keeps_mono hk (by omega))
    cases e with
    | normal => exact ⟨hp.1, trivial, hp.2.2, h2, fun X1 e => ⟨by cases e; exact e5.trans hp.2.1, k2 X1 e hp.1⟩⟩
    | ret => exact ⟨hp.1, hp.2, fun X1 e => k2 X1 e hp.1⟩
    | exit id => exact ⟨hp.1, hp.2, fun X1 e => k2 X1 e hp.1⟩
    | goto t => exact ⟨hp.1, hp.2, fun X1 e => k2 X1 e hp.1⟩
    | panic ch => exact hp.elim
    | outgrown => exact hp.elim
  · rintro D q X hD hS h hK
    obtain ⟨⟨R, g⟩, ox⟩ := q
    simp only at hS h
    subst hS
    exact hdone D g X hD h.1 hK
  · rintro D c q X hD _ h hK
    exact hstop D c X hD h.1 hK

theorem solutions_any (s1 s2 : Value) (w : World) (a1 : Option Addr) (n1 c1 : Nat) (e1 : s1 = .slice a1 n1 c1) (a2 : Option Addr) (n2 c2 : Nat) (e2 : s2 = .slice a2 n2 c2) :
    Calls Tryz.prog 47 #[.agg #[s1, s2]] w fun e w' => e = .returned (.func (.func 72) #[] #[.pointer (some ⟨w.heap.size, 0, none⟩)]) ∧ w' = w.alloc (.cells #[s1, s2] 31) := by
  subst e1 e2
  go_enter Tryz.func47, Tryz.ntmps47
  go_wp2
  go_ret
  exact ⟨rfl, rfl⟩
end Go.Proofs.YtnkbcciigdjcnaaGreatDoor
