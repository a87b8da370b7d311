/- The program's iterator over the solutions, and loops over it. -/
import Derived.Test.YtnkbcciigdjcnaaGreatDoorSrcX
namespace Go.Proofs.YtnkbcciigdjcnaaGreatDoor
open Go.RowKit
set_option linter.unusedVariables false
set_option linter.unusedSimpArgs false
section
variable {F : Fence} {n : Nat} {P : Program}
/-- An outermost loop whose facts abide the turns of its own record alone. -/
theorem rf_outer3 {σ : Type} {g : Operand} {ps : Array Tmp} {assign body : Code} {Q : Exit → Act → World → Prop} {a : Act} {w : World}
    (hro : F.round = none) (h1 : 1 ≤ n) {gf : Nat} {lb : Array Value} (hg : a.eval g = .func (.func gf) #[] lb) (hFg : F.fn gf) (eg : ∀ args w, (callFunc gf args).run P w = .ok (.enter gf args) w)
    {At : σ → σ → Array Value → World → Prop} {Kp : World → World → Prop} {S Sp : σ → Prop}
    (hKt : ∀ {A B C : World}, Kp A B → Kp B C → Kp A C)
    (hKb : ∀ (W : World) (l : Nat) (o o' : Obj), w.heap.size ≤ l → l < w.heap.size + 2 → W.heap[l]? = some o → o.isCells = false → Kp W (W.putObj l o'))
    (hps : ∀ s s' vs W, At s s' vs W → vs.size = ps.size)
    (I : σ → World → Prop) (Ix : Code → σ → World → Prop) (Ax : σ → σ → Array Value → Act → World → Prop)
    (hI : ∀ (s : σ) (W : World) (r r' : Loop), W.heap[w.heap.size + 1]? = some (.loop r) → I s W → I s (W.putObj (w.heap.size + 1) (.loop r'))) (hIx : ∀ (c : Code) (s : σ) (W : World) (r r' : Loop), W.heap[w.heap.size + 1]? = some (.loop r) → Ix c s W → Ix c s (W.putObj (w.heap.size + 1) (.loop r')))
    (hAx : ∀ (s s' : σ) (vs : Array Value) (a' : Act) (W : World) (r r' : Loop), W.heap[w.heap.size + 1]? = some (.loop r) → Ax s s' vs a' W → Ax s s' vs a' (W.putObj (w.heap.size + 1) (.loop r'))) (s0 : σ) (h0 : ∀ W1, Below w.heap.size w W1 → W1.heap.size = w.heap.size + 2 → I s0 W1)
    (hseq : ∀ (Rec : World → Prop) (RecX : Code → World → Prop) (W1 : World), KeptAt w.heap.size (w.heap.size + 2) Rec → (∀ c, KeptAt w.heap.size (w.heap.size + 2) (RecX c)) →
      Below w.heap.size w W1 → W1.heap.size = w.heap.size + 2 → I s0 W1 → Rec W1 →
      (∀ s s' vs W, I s W ∧ Rec W → At s s' vs W → YieldAt F (n - 1 - 1) P (w.heap.size + 1) vs W (YieldPost Rec RecX Kp I Ix s' W)) →
      CallsIn F (n - 1) P gf (#[.func (.yield (w.heap.size + 1)) #[] #[]] ++ lb) W1 (SeqPost Rec RecX S Sp I Ix))
    (hassign : ∀ (l : Nat) (s s' : σ) (vs : Array Value) (W : World) (K : Act → World → Prop), I s W → At s s' vs W →
      (∀ a' W', KeepsFrom w.heap.size W W' → Kp W W' → I s W' → Ax s s' vs a' W' → K a' W') →
      assign.wpIn (F.inRound l) (n - 1 - 1) P (Exit.then K (fun _ _ _ => False)) { tmps := (ps.zip vs).foldl (fun t (p, v) => t.setIfInBounds p v) a.tmps, defers := [] } W)
    (hbody : ∀ (l : Nat) (s s' : σ) (vs : Array Value) (a' : Act) (W : World), l = w.heap.size + 1 → (∃ r, W.heap[l]? = some (.loop r)) → I s W → Ax s s' vs a' W →
      body.wpIn (F.inRound l) (n - 1 - 1) P (outPost w.heap.size Kp I Ix s' W) a' W)
    (hdone : ∀ (D : Nat) (s : σ) (W : World), w.heap.size ≤ D → S s → I s W → W.heap[D]? = some (.deferred (some [])) → Q .normal { a with defers := { target := .collected D, args := #[] } :: a.defers } W)
    (hstop : ∀ (D : Nat) (c : Code) (s : σ) (W : World), w.heap.size ≤ D → Sp s → Ix c s W → W.heap[D]? = some (.deferred (some [])) → c.wpIn F n P Q { a with defers := { target := .collected D, args := #[] } :: a.defers } W) :
    (Code.rangeFunc g ps assign body).wpIn F n P Q a w := by
  have two : ∀ (W : World) (r r' : Loop), W.heap[w.heap.size + 1]? = some (.loop r) → W.heap[w.heap.size]? = some (.deferred (some [])) → (W.putObj (w.heap.size + 1) (.loop r')).heap[w.heap.size]? = some (.deferred (some [])) :=
    fun W r r' _ h => (World.putObj_heap_other (by omega)).trans h
  refine rf_core (L := w.heap.size + 1) (D := w.heap.size) (mark := [{ target := .collected w.heap.size, args := #[] }]) h1 hg hFg eg (At := At) (Kp := Kp) (S := S) (Sp := Sp)
    (fun s W => I s W ∧ W.heap[w.heap.size]? = some (.deferred (some []))) (fun c s W => Ix c s W ∧ W.heap[w.heap.size]? = some (.deferred (some []))) Ax
    (fun h k => hKt h k) (fun W r r' hl => hKb W _ _ _ (by omega) (by omega) hl rfl) ?_ ?_ ?_ hps ?_ ?_ ?_ ?_ ?_
  · exact fun W r r' s hl h => ⟨hI s W r r' hl h.1, two W r r' hl h.2⟩
  · exact fun W r r' c s hl h => ⟨hIx c s W r r' hl h.1, two W r r' hl h.2⟩
  · exact fun W r r' s s' vs a' hl h => hAx s s' vs a' W r r' hl h
  · intro fn hfn
    obtain ⟨W1, hW1⟩ : ∃ W1, (w.alloc (.deferred (some []))).alloc (.loop (recOf a ps assign body w.heap.size fn .ready none)) = W1 := ⟨_, rfl⟩
    have hL1 : W1.heap[w.heap.size + 1]? = some (.loop (recOf a ps assign body w.heap.size fn .ready none)) := by
      rw [← hW1]; have := World.alloc_heap_new (w.alloc (.deferred (some []))) (.loop (recOf a ps assign body w.heap.size fn .ready none)); rwa [World.size_alloc] at this
    have hK1 : W1.heap[w.heap.size]? = some (.deferred (some [])) := by
      rw [← hW1]; exact (Below.heap_alloc _ _ _ (by simp)).trans (World.alloc_heap_new w _)
    refine ⟨W1, by rw [← hW1, hro]; exact run_enterLoop_outer _ _ _ _ _, fun hY => ?_⟩
    refine (hseq (fun W => W.heap[w.heap.size]? = some (.deferred (some [])) ∧ W.heap[w.heap.size + 1]? = some (.loop (recOf a ps assign body w.heap.size fn .ready none)))
      (fun c W => W.heap[w.heap.size]? = some (.deferred (some [])) ∧ W.heap[w.heap.size + 1]? = some (.loop (recOf a ps assign body w.heap.size fn .done (some c)))) W1 ?_ ?_ ?_ ?_ ?_ ⟨hK1, hL1⟩ ?_).mono ?_
    · exact fun X Y hX h => ⟨(h _ (by omega) (by omega)).trans hX.1, (h _ (by omega) (by omega)).trans hX.2⟩
    · exact fun c X Y hX h => ⟨(h _ (by omega) (by omega)).trans hX.1, (h _ (by omega) (by omega)).trans hX.2⟩
    · rw [← hW1]; exact ((Below.refl _ w).alloc (Nat.le_refl _) _).alloc (by simp) _
    · rw [← hW1]; simp
    · exact h0 W1 (by rw [← hW1]; exact ((Below.refl _ w).alloc (Nat.le_refl _) _).alloc (by simp) _) (by rw [← hW1]; simp)
    · rintro s s' vs W ⟨hi, hk, hl⟩ hat
      obtain ⟨f0, tm, asg, bo, hr, hR⟩ := hY s s' vs W ⟨⟨hi, hk⟩, hl⟩ hat
      refine ⟨f0, tm, asg, bo, hr, hR.mono ?_⟩
      rintro e W' (⟨rfl, ⟨⟨hi', hk'⟩, hl'⟩, hkp⟩ | ⟨rfl, c, ⟨hi', hk'⟩, hl'⟩)
      · exact .inl ⟨rfl, ⟨hi', hk', hl'⟩, hkp⟩
      · exact .inr ⟨rfl, c, hi', hk', hl'⟩
    · rintro e W' ⟨hv, (⟨s, hS, hi', hk', hl'⟩ | ⟨s, hS, c, hi', hk', hl'⟩)⟩
      · exact ⟨hv, .inl ⟨s, hS, ⟨hi', hk'⟩, hl'⟩⟩
      · exact ⟨hv, .inr ⟨s, hS, c, ⟨hi', hk'⟩, hl'⟩⟩
  · rintro s s' vs W K ⟨r, hl⟩ ⟨hi, hk⟩ hat hK
    exact hassign _ s s' vs W K hi hat fun a' W' hkf hkp hi' hax => hK a' W' ((hkf.same _ _ (by omega) hl rfl).trans hl.symm) hkp ⟨hi', hkf.same _ _ (Nat.le_refl _) hk rfl⟩ hax
  · rintro s s' vs a' W ⟨r, hl⟩ ⟨hi, hk⟩ hax
    refine wpIn_mono (hbody _ s s' vs a' W rfl ⟨r, hl⟩ hi hax) ?_
    intro e a3 W3 hp
    cases e with
    | normal => exact ⟨(hp.1.same _ _ (by omega) hl rfl).trans hl.symm, hp.2.1, hp.2.2, hp.1.same _ _ (Nat.le_refl _) hk rfl⟩
    | ret => exact ⟨(hp.1.same _ _ (by omega) hl rfl).trans hl.symm, hp.2, hp.1.same _ _ (Nat.le_refl _) hk rfl⟩
    | exit id => exact ⟨(hp.1.same _ _ (by omega) hl rfl).trans hl.symm, hp.2, hp.1.same _ _ (Nat.le_refl _) hk rfl⟩
    | goto t => exact ⟨(hp.1.same _ _ (by omega) hl rfl).trans hl.symm, hp.2, hp.1.same _ _ (Nat.le_refl _) hk rfl⟩
    | panic ch => exact hp.elim
    | outgrown => exact hp.elim
  · exact fun s W hS h => hdone _ s W (Nat.le_refl _) hS h.1 h.2
  · exact fun c s W hS h => hstop _ c s W (Nat.le_refl _) hS h.1 h.2
end
end Go.Proofs.YtnkbcciigdjcnaaGreatDoor

/-! The iterator over the solutions. -/
namespace Go.Proofs.YtnkbcciigdjcnaaGreatDoor
open Go.ChangeShapes Go.WideShapes Go.ChangeAt Go.RowKit Go.Shelf
set_option linter.unusedVariables false
set_option linter.unusedSimpArgs false

attribute [local go_sem] Oper.semAt_some

theorem visitsWhere_any (s1 s2 fv : Value) (w : World) (a1 : Option Addr) (n1 c1 : Nat) (e1 : s1 = .slice a1 n1 c1) (a2 : Option Addr) (n2 c2 : Nat) (e2 : s2 = .slice a2 n2 c2) (f : Nat) (ef : fv = .func (.func f) #[] #[]) :
    Calls Tryz.prog 68 #[.agg #[s1, s2], fv] w fun e w' => e = .returned (.func (.func 90) #[] #[.pointer (some ⟨w.heap.size, 0, none⟩), .pointer (some ⟨w.heap.size + 1, 0, none⟩)]) ∧ w' = (w.alloc (.cells #[s1, s2] 31)).alloc (.cells #[fv] 53) := by
  subst e1 e2 ef
  go_enter Tryz.func68, Tryz.ntmps68
  go_wp2
  go_ret
  exact ⟨rfl, rfl⟩
theorem visits_any (s1 s2 : Value) (w : World) (a1 : Option Addr) (n1 c1 : Nat) (e1 : s1 = .slice a1 n1 c1) (a2 : Option Addr) (n2 c2 : Nat) (e2 : s2 = .slice a2 n2 c2) :
    Calls Tryz.prog 44 #[.agg #[s1, s2]] w fun e w' => e = .returned (.func (.func 90) #[] #[.pointer (some ⟨w.heap.size + 1, 0, none⟩), .pointer (some ⟨w.heap.size + 1 + 1, 0, none⟩)]) ∧ w' = ((w.alloc (.cells #[s1, s2] 31)).alloc (.cells #[s1, s2] 31)).alloc (.cells #[.func (.func 69) #[] #[]] 53) := by
  subst e1 e2
  have k := (Blk2.new w 31 (.slice a1 n1 c1) (.slice a2 n2 c2)).cell
  obtain ⟨k0, k1⟩ := k
  go_enter Tryz.func44, Tryz.ntmps44
  go_wp2_with fail
  refine (visitsWhere_any _ _ _ _ _ _ _ rfl _ _ _ rfl _ rfl).mono ?_
  rintro e w' ⟨rfl, rfl⟩
  go_wp2
  go_ret
  exact ⟨by simp, rfl⟩
/-- The solutions below the nodes that are still to be visited. -/
def remS (cs : List Con) (st : List (List Int)) : List (List Int) := st.reverse.flatMap (solL cs)
theorem remS_none {cs : List Con} {n : Nat} {d : List Int} (h : OkD cs n d) (ho : oneT (proL cs d) = none) (st : List (List Int)) : remS cs (st ++ [d]) = remS cs (st ++ (kids (proL cs d)).reverse) := by
  unfold remS
  rw [List.reverse_append, List.reverse_append, List.reverse_reverse, List.flatMap_append, List.flatMap_append]
  simp only [List.reverse_cons, List.reverse_nil, List.nil_append, List.flatMap_cons, List.flatMap_nil, List.append_nil]
  rw [solL_eq h, ho]
theorem remS_some {cs : List Con} {n : Nat} {d x : List Int} (h : OkD cs n d) (ho : oneT (proL cs d) = some x) (st : List (List Int)) : remS cs (st ++ [d]) = x :: remS cs (st ++ (kids (proL cs d)).reverse) := by
  unfold remS
  rw [List.reverse_append, List.reverse_append, List.reverse_reverse, List.flatMap_append, List.flatMap_append, kids_nil_of_one ho]
  simp only [List.reverse_cons, List.reverse_nil, List.nil_append, List.flatMap_cons, List.flatMap_nil, List.append_nil]
  rw [solL_eq h, ho]
  rfl

set_option maxRecDepth 100000 in
set_option maxHeartbeats 8000000 in
theorem solutions1_any (l Bm : Nat) (m : Mod) (w0 : World) {a1 a2 : Option Addr} {c1 c2 : Nat} (hrm : RdModel w0 (.agg #[.slice a1 m.doms.length c1, .slice a2 m.cons.length c2]) m) (hv : vmB m = true)
    (J : List (List Int) → Nat → World → Prop) (Jx : World → Prop)
    (hJ : ∀ R g X, J R g X → Below w0.heap.size w0 X ∧ Blk2 X Bm 31 (.slice a1 m.doms.length c1) (.slice a2 m.cons.length c2) ∧ Tab64 X)
    (hJs : ∀ R g g' X Y, J R g X → ExtG g X Y → (g' = g ∨ X.heap.size ≤ g') → J R g' Y)
    (W : World) (hJo : ∀ R g, OwnB W.heap.size (J R g)) (hJxo : OwnB W.heap.size Jx)
    (hY : ∀ R x g X xv, J (x :: R) g X → X.ownsRow W.heap.size 3 1 xv x.length (x.map (Value.int .i64)) → x.length = m.doms.length → W.heap.size ≤ g →
      YieldAt Fence.wide 7 Tryz.prog l #[xv] X fun e X' => (e = .returned (.bool true) ∧ J R g X' ∧ KpV W.heap.size g X X' ∧ KeepsFrom W.heap.size X X') ∨ (e = .returned (.bool false) ∧ Jx X' ∧ KeepsFrom W.heap.size X X'))
    (h0 : J (solL m.cons m.doms) W.heap.size W) :
    CallsIn Fence.wide 10 Tryz.prog 72 #[.func (.yield l) #[] #[], .pointer (some ⟨Bm, 0, none⟩)] W fun e W' => (∃ v, e = .returned v) ∧ ((∃ g, J [] g W') ∨ Jx W') := by
  obtain ⟨b0, bm, bt⟩ := hJ _ _ _ h0
  obtain ⟨p0, p1⟩ := (bm.below (show Below W.heap.size W (W.alloc (.cells #[.func (.yield l) #[] #[]] 53)) from (Below.refl _ _).alloc (Nat.le_refl _) _)).cell
  have HJ := Lib.hid hJ
  have HJS := Lib.hid hJs
  have HJO := Lib.hid hJo
  have HJXO := Lib.hid hJxo
  have HY := Lib.hid hY
  have H0 := Lib.hid h0
  have HRM := Lib.hid hrm
  have HV := Lib.hid hv
  clear hJ hJs hJo hJxo hY h0 hrm hv b0 bm bt
  refine callsIn_of_wp_marks Tryz.func72 rfl trivial ?_ rfl
  simp only [Tryz.ntmps72, List.size_toArray, List.length_cons, List.length_nil, Nat.reduceAdd, Nat.reduceSub, Array.replicate_succ, Array.replicate_zero, List.push_toArray, List.append_toArray, List.nil_append, List.cons_append]
  gi_wp2_with fail
  refine ⟨trivial, ?_⟩
  gi_at_call 44
  refine (callsIn_wide.2 (visits_any _ _ _ _ _ _ rfl _ _ _ rfl)).mono ?_
  rintro e w' ⟨rfl, rfl⟩
  obtain ⟨W5, hW5⟩ : ∃ W5, (((W.alloc (.cells #[.func (.yield l) #[] #[]] 53)).alloc (.cells #[.slice a1 m.doms.length c1, .slice a2 m.cons.length c2] 31)).alloc (.cells #[.slice a1 m.doms.length c1, .slice a2 m.cons.length c2] 31)).alloc (.cells #[.func (.func 69) #[] #[]] 53) = W5 := ⟨_, rfl⟩
  have b5 : Below W.heap.size W W5 := by rw [← hW5]; exact ((((Below.refl _ _).alloc (Nat.le_refl _) _).alloc (by simp) _).alloc (by simp; omega) _).alloc (by simp; omega) _
  have s5 : W5.heap.size = W.heap.size + 4 := by rw [← hW5]; simp
  have y5 : Boxed W5 W.heap.size 53 (.func (.yield l) #[] #[]) := by
    rw [← hW5]
    exact (Below.heap_alloc _ _ _ (by simp; omega)).trans ((Below.heap_alloc _ _ _ (by simp; omega)).trans ((Below.heap_alloc _ _ _ (by simp)).trans (World.alloc_heap_new _ _)))
  have m5 : Blk2 W5 (W.heap.size + 1 + 1) 31 (.slice a1 m.doms.length c1) (.slice a2 m.cons.length c2) := by
    have := Blk2.new ((W.alloc (.cells #[.func (.yield l) #[] #[]] 53)).alloc (.cells #[.slice a1 m.doms.length c1, .slice a2 m.cons.length c2] 31)) 31 (.slice a1 m.doms.length c1) (.slice a2 m.cons.length c2)
    rw [World.size_alloc, World.size_alloc] at this
    rw [← hW5]
    exact (Below.heap_alloc _ _ _ (by simp)).trans this
  have f5 : Boxed W5 (W.heap.size + 1 + 1 + 1) 53 (.func (.func 69) #[] #[]) := by
    have := World.alloc_heap_new (((W.alloc (.cells #[.func (.yield l) #[] #[]] 53)).alloc (.cells #[.slice a1 m.doms.length c1, .slice a2 m.cons.length c2] 31)).alloc (.cells #[.slice a1 m.doms.length c1, .slice a2 m.cons.length c2] 31)) (.cells #[.func (.func 69) #[] #[]] 53)
    rw [World.size_alloc, World.size_alloc, World.size_alloc] at this
    rw [← hW5]
    exact this
  have HI0 : Hid (J (remS m.cons [m.doms]) (W5.heap.size + 2) W5 ∧ Boxed W5 W.heap.size 53 (.func (.yield l) #[] #[]) ∧ Blk2 W5 (W.heap.size + 1 + 1) 31 (.slice a1 m.doms.length c1) (.slice a2 m.cons.length c2) ∧ Boxed W5 (W.heap.size + 1 + 1 + 1) 53 (.func (.func 69) #[] #[])) := Lib.hid ⟨by
    rw [show remS m.cons [m.doms] = solL m.cons m.doms from by simp [remS]]
    exact HJS.out _ _ _ W W5 H0.out (ExtG.of_below b5) (.inr (by omega)), y5, m5, f5⟩
  have HS5 := Lib.hid s5
  have HW5 := Lib.hid hW5
  clear b5 s5 y5 m5 f5 hW5
  gi_wp2
  rw [HW5.out]
  clear p0 p1 HW5
  have hmD : (31 : TypeId) ≠ 22 := by decide
  have hfD : (53 : TypeId) ≠ 22 := by decide
  refine rf_visits (σ := Unit) (Bm := W.heap.size + 1 + 1) (Bw := W.heap.size + 1 + 1 + 1) m w0 HRM.out HV.out (by omega) rfl rfl
    (fun _ st g X => J (remS m.cons st) g X ∧ Boxed X W.heap.size 53 (.func (.yield l) #[] #[]) ∧ Blk2 X (W.heap.size + 1 + 1) 31 (.slice a1 m.doms.length c1) (.slice a2 m.cons.length c2) ∧ Boxed X (W.heap.size + 1 + 1 + 1) 53 (.func (.func 69) #[] #[]))
    (fun c X => c = .ret ∧ Jx X) (fun _ _ => ()) (fun s st g X h => ⟨(HJ.out _ _ _ h.1).1, h.2.2.1, h.2.2.2⟩) ?hIs ?hIo ?hIxo () HI0.out
    (fun dv => { tmps := #[.func (.yield l) #[] #[], .pointer (some ⟨Bm, 0, none⟩), .pointer (some ⟨W.heap.size, 0, none⟩), dv, undef, undef, .agg #[.slice a1 m.doms.length c1, .slice a2 m.cons.length c2], .func (.func 90) #[] #[.pointer (some ⟨W.heap.size + 1 + 1, 0, none⟩), .pointer (some ⟨W.heap.size + 1 + 1 + 1, 0, none⟩)], dv, undef, undef, undef, undef, undef, undef, undef, undef, undef, undef, undef, undef], defers := [] }) ?hassign ?hbody ?hdone ?hstop
  case hIs =>
    rintro _ st g g' X Y hg ⟨h1, h2, h3, h4⟩ he hgg
    have hs5 := HS5.out
    exact ⟨HJS.out _ _ _ X Y h1 he hgg, (he.block _ h2.lt (by omega)).trans h2, (he.block _ (Array.getElem?_eq_some_iff.1 h3).1 (by omega)).trans h3, (he.block _ h4.lt (by omega)).trans h4⟩
  case hIo =>
    rintro _ st g X Y row ⟨h1, h2, h3, h4⟩ hgr hr
    have hs5 := HS5.out
    have hr' := fun r e => (hr r e).2
    refine ⟨HJO.out _ _ X Y row h1 hgr (fun r e => ⟨by have := (hr r e).1; omega, (hr r e).2⟩), boxed_grown h2 hgr hr', (hgr.block _ (Array.getElem?_eq_some_iff.1 h3).1 (fun e => ?_)).trans h3, boxed_grown h4 hgr hr'⟩
    obtain ⟨o, ho, hc⟩ := hr' _ e.symm
    rw [show X.heap[W.heap.size + 1 + 1]? = _ from h3] at ho
    cases ho
    cases hc
  case hIxo => exact fun c X Y row h hgr hr => ⟨h.1, HJXO.out X Y row h.2 hgr (fun r e => ⟨by have := (hr r e).1; have := HS5.out; omega, (hr r e).2⟩)⟩
  case hassign =>
    intro l' dv X K hK
    gi_wp2
    exact hK
  case hbody =>
    rintro l' _ st d g X dv hl' hr ⟨h1, h2, h3, h4⟩ hgw ho hod
    have hs5 := HS5.out
    obtain ⟨hop, -⟩ := proL_ok hod
    obtain ⟨d1, d2, d3, d4⟩ := doms_small' HV.out
    have hpl := hop.len
    have HOT := Lib.hid (onlyTuple_any dv (proL m.cons d) X (rdInts_of_own ho) hop.small (by omega) (by omega) (HJ.out _ _ _ h1).2.2)
    obtain ⟨va, vn, vc, ev⟩ := own_slice ho
    subst ev
    have HK0 := Lib.hid (show KeepsFrom W5.heap.size X X from KeepsFrom.refl _ _)
    have H1 := Lib.hid h1
    have H2 := Lib.hid h2
    have H3 := Lib.hid h3
    have H4 := Lib.hid h4
    have HGW := Lib.hid hgw
    have HOD := Lib.hid hod
    have HPL := Lib.hid hpl
    clear h1 h2 h3 h4 hgw ho hod hop d1 d2 d3 d4 hpl hr hl' hs5
    gi_wp2_with fail
    refine ⟨trivial, ?_⟩
    gi_at_call 45
    refine (CallsIn.inRound _ (callsIn_wide.2 HOT.out)).mono ?_
    rintro e X2 ⟨v2, bb, rfl, b2, hcase⟩
    have hs5 := HS5.out
    have hgw := HGW.out
    have hJ2 := HJS.out _ _ g X X2 H1.out (ExtG.of_below b2) (.inl rfl)
    have hy2 := (b2.block _ H2.out.lt).trans H2.out
    have hm2 := H3.out.below b2
    have hf2 := (b2.block _ H4.out.lt).trans H4.out
    rcases hcase with ⟨ho, rfl, rfl⟩ | ⟨x, ho, hxl, rfl, hown⟩
    · have hfin : J (remS m.cons (st ++ (kids (proL m.cons d)).reverse)) g X2 := by rw [← remS_none HOD.out ho]; exact hJ2
      have HFI := Lib.hid (And.intro hfin (And.intro hy2 (And.intro hm2 hf2)))
      have HB2 := Lib.hid b2
      clear hfin hy2 hm2 hf2 hJ2 b2 HOT hs5 hgw ho
      gi_wp2
      refine ⟨fun _ h => (by cases h), ?_⟩
      gi_wp2
      exact ⟨KeepsFrom.of_below HB2.out, KpV.of_below HB2.out, HFI.out⟩
    · rw [remS_some HOD.out ho] at hJ2
      have hyy := HY.out _ x g X2 v2 hJ2 (own_mono hown (by have := (Array.getElem?_eq_some_iff.1 H4.out).1; omega)) (by rw [hxl, HPL.out]) (by omega)
      obtain ⟨xa, xn, xc, ex⟩ := own_slice hown
      subst ex
      obtain ⟨fn, tmps, asg, bdy, hy, hR⟩ := yieldAt_wide (m' := 7) hyy
      have HB2 := Lib.hid b2
      have HH2 := Lib.hid (And.intro (show Boxed X2 W.heap.size 53 (.func (.yield l) #[] #[]) from hy2) (And.intro hm2 (show Boxed X2 (W.heap.size + 1 + 1 + 1) 53 (.func (.func 69) #[] #[]) from hf2)))
      have q0 := HH2.out.1.cell
      clear hy2 hm2 hf2 hJ2 b2 HOT hs5 hgw ho hown hxl
      gi_wp2
      refine hR.mono ?_
      rintro e X3 (⟨rfl, hj3, hk3, hf3⟩ | ⟨rfl, hj3, hf3⟩)
      · have HJ3 := Lib.hid hj3
        have HK3 := Lib.hid hk3
        have HF3 := Lib.hid hf3
        clear hj3 hk3 hf3 hR hy
        gi_wp2
        have hs5 := HS5.out
        have hh2 := HH2.out
        refine ⟨(KeepsFrom.of_below HB2.out).trans ⟨HF3.out.size, fun b o hb h5 h6 => HF3.out.same b o (by omega) h5 h6⟩, (KpV.of_below HB2.out).trans (HK3.out.mono (by omega)), HJ3.out, HK3.out.boxed hh2.1 (Nat.le_refl _) hfD, (HK3.out.block _ _ _ _ (by omega) hh2.2.1 (.inr hmD)).trans hh2.2.1, HK3.out.boxed hh2.2.2 (by omega) hfD⟩
      · have HJ3 := Lib.hid hj3
        have HF3 := Lib.hid hf3
        clear hj3 hf3 hR hy
        gi_wp2
        have hs5 := HS5.out
        exact ⟨(KeepsFrom.of_below HB2.out).trans ⟨HF3.out.size, fun b o hb h5 h6 => HF3.out.same b o (by omega) h5 h6⟩, rfl, HJ3.out⟩
  case hdone =>
    rintro D _ g X hD ⟨hj, _⟩ hK
    have HJF := Lib.hid hj
    have HKD := Lib.hid hK
    have HDD := Lib.hid hD
    clear hj hK hD
    gi_wp2
    refine ⟨by simp, .inl ⟨_, _, rfl, run_takeDeferred HKD.out, ?_⟩⟩
    exact ⟨_, results_none rfl _ _ _, ⟨_, rfl⟩, .inl ⟨g, HJO.out _ _ X _ _ HJF.out (grownBy_putObj' X D _) (fun r e => by cases e; exact ⟨by have := HDD.out; have := HS5.out; omega, _, HKD.out, rfl⟩)⟩⟩
  case hstop =>
    rintro D c X hD ⟨rfl, hj⟩ hK
    have HJF := Lib.hid hj
    have HKD := Lib.hid hK
    have HDD := Lib.hid hD
    clear hj hK hD
    gi_wp2
    refine ⟨by simp, .inl ⟨_, _, rfl, run_takeDeferred HKD.out, ?_⟩⟩
    exact ⟨_, results_none rfl _ _ _, ⟨_, rfl⟩, .inr (HJXO.out X _ _ HJF.out (grownBy_putObj' X D _) (fun r e => by cases e; exact ⟨by have := HDD.out; have := HS5.out; omega, _, HKD.out, rfl⟩))⟩
end Go.Proofs.YtnkbcciigdjcnaaGreatDoor
