/- The iterator over the intervals of a bit set. -/
import Derived.Test.YtanaidpffoibgaaDoorRfV
import Derived.Test.YtanaidpffoibgaaDoorIvs
namespace Go.Proofs.YtanaidpffoibgaaDoor
open Go.ChangeShapes Go.WideShapes Go.ChangeAt Go.RowKit Go.Shelf
set_option linter.unusedVariables false
set_option linter.unusedSimpArgs false

attribute [local go_sem] Oper.semAt_some

set_option maxHeartbeats 1000000 in
theorem intervals_in (n : Nat) (d : Int) (w : World) :
    CallsIn Fence.wide n Tryd.prog 36 #[.int .i64 d] w fun e w' => e = .returned (.func (.func 53) #[] #[.pointer (some ⟨w.heap.size, 0, none⟩)]) ∧ w' = w.alloc (.cells #[.int .i64 d] 44) := by
  refine callsIn_of_wp Tryd.func36 rfl trivial ?_ rfl
  simp only [Tryd.ntmps36, List.size_toArray, List.length_cons, List.length_nil, Nat.reduceAdd, Nat.reduceSub, Array.replicate_succ, Array.replicate_zero, List.push_toArray, List.append_toArray, List.nil_append, List.cons_append]
  gi_wp2
  go_ret
  exact ⟨rfl, rfl⟩

theorem lowS_new {d : Int} {k : Nat} (h : hasB d k = true) (h' : hasB d ((k : Int) - 1) = false) : lowS d (k + 1) = k := by rw [lowS, h, h']; rfl
theorem lowS_old {d : Int} {k : Nat} (h' : hasB d ((k : Int) - 1) = true) : lowS d (k + 1) = lowS d k := by rw [lowS, h']; simp
theorem lowS_skip {d : Int} {k : Nat} (h' : hasB d k = false) : lowS d (k + 1) = lowS d k := by rw [lowS, h']; rfl
theorem KpI.from {lo hi B : Nat} {A C : World} (h : KpI lo hi A C) (hB : lo ≤ B) : KeepsFrom B A C := ⟨h.1.size, fun k o hk h1 h2 => h.1.same k o (by omega) h1 h2⟩

set_option maxRecDepth 100000 in
set_option maxHeartbeats 4000000 in
theorem intervals1_in (l Bs : Nat) (d : Int) (h1 : 0 ≤ d) (h2 : d ≤ 63) (J Jx : Nat → World → Prop) (W : World) (hBl : Bs < W.heap.size)
    (hJ : Abide W.heap.size 5 J) (hJx : Abide W.heap.size 5 Jx)
    (hbox : ∀ k W, J k W → W.cell? ⟨Bs, 0, none⟩ = some (.int .i64 d))
    (hS : ∀ (k : Nat) W, k < 6 → (hasB d k && !hasB d ((k : Int) + 1)) = false → J k W → J (k + 1) W)
    (hY : ∀ (k : Nat) W1, J k W1 → k < 6 → hasB d k = true → hasB d ((k : Int) + 1) = false → W.heap.size + 5 ≤ W1.heap.size → YieldAt Fence.wide 5 Tryd.prog l #[.int .i64 (lowS d (k + 1) : Nat), .int .i64 k] W1 fun e W' =>
      (e = .returned (.bool true) ∧ J (k + 1) W' ∧ KpI W.heap.size (W.heap.size + 5) W1 W') ∨ (e = .returned (.bool false) ∧ Jx (k + 1) W' ∧ KpI W.heap.size (W.heap.size + 5) W1 W'))
    (h0 : J 0 W) :
    Calls Tryd.prog 53 #[.func (.yield l) #[] #[], .pointer (some ⟨Bs, 0, none⟩)] W fun e W' => (∃ v, e = .returned v) ∧
      (J 6 W' ∨ (∃ k, k ≤ 6 ∧ Jx k W')) := by
  have hc0 := hbox _ _ h0
  refine (callsIn_wide (n := 8)).1 ?_
  refine callsIn_of_wp_marks Tryd.func53 rfl trivial ?_ rfl
  simp only [Tryd.ntmps53, List.size_toArray, List.length_cons, List.length_nil, Nat.reduceAdd, Nat.reduceSub, Array.replicate_succ, Array.replicate_zero, List.push_toArray, List.append_toArray, List.nil_append, List.cons_append]
  gi_wp2_with (refine ⟨trivial, ?_⟩; gi_at_call 28; refine (values_in _ _ _).mono ?_; rintro e w' ⟨rfl, rfl⟩)
  have bY := ((Boxed.new W 30 (.func (.yield l) #[] #[])).alloc (.cells #[.int .i64 0] 3)).alloc (.cells #[.int .i64 d] 44)
  have bL := (Boxed.new (W.alloc (.cells #[.func (.yield l) #[] #[]] 30)) 3 (.int .i64 0)).alloc (.cells #[.int .i64 d] 44)
  have bV := Boxed.new ((W.alloc (.cells #[.func (.yield l) #[] #[]] 30)).alloc (.cells #[.int .i64 0] 3)) 44 (.int .i64 d)
  rw [World.size_alloc] at bL bV
  rw [World.size_alloc] at bV
  have hJ0 := hJ.alloc (.cells #[.int .i64 d] 44) (hJ.alloc (.cells #[.int .i64 0] 3) (hJ.alloc (.cells #[.func (.yield l) #[] #[]] 30) h0))
  obtain ⟨W0, hW0⟩ : ∃ W0, ((W.alloc (.cells #[.func (.yield l) #[] #[]] 30)).alloc (.cells #[.int .i64 0] 3)).alloc (.cells #[.int .i64 d] 44) = W0 := ⟨_, rfl⟩
  have hsz : W0.heap.size = W.heap.size + 3 := by rw [← hW0]; simp
  rw [hW0] at bY bL bV hJ0 ⊢
  clear hW0
  refine rf_values (Bs := W.heap.size + 2) (d := d) (by omega) rfl h1 h2 rfl
    (fun k X => J k X ∧ (Boxed X W.heap.size 30 (.func (.yield l) #[] #[]) ∧ Boxed X (W.heap.size + 1) 3 (.int .i64 (lowS d k : Nat)) ∧ Boxed X (W.heap.size + 2) 44 (.int .i64 d)))
    (fun c k X => c = .ret ∧ Jx k X) ?_ ?_ (fun k X h => h.2.2.2.cell) ?_ ⟨hJ0, bY, bL, bV⟩
    (fun k => { tmps := #[.func (.yield l) #[] #[], .pointer (some ⟨Bs, 0, none⟩), .pointer (some ⟨W.heap.size, 0, none⟩), .pointer (some ⟨W.heap.size + 1, 0, none⟩), .int .i64 k, .int .i64 d,
      .func (.func 44) #[] #[.pointer (some ⟨W.heap.size + 1 + 1, 0, none⟩)], .int .i64 k, undef, undef, undef, undef, undef, undef, undef, undef, undef, undef, undef, undef, undef, undef, undef, undef, undef, undef], defers := [] }) ?_ ?_ ?_ ?_
  · refine OwnFrom.and (fun s X Y row hs hg hr => hJ.own s X Y row hs hg (fun r e => ⟨by have := (hr r e).1; omega, (hr r e).2⟩)) (OwnFrom.and (Own.from (boxed_own _ _ (fun _ => _)) _) (OwnFrom.and (Own.from (boxed_own _ _ (fun k => .int .i64 (lowS d k : Nat))) _) (Own.from (boxed_own _ _ (fun _ => _)) _)))
  · exact fun c s X Y row hs hg hr => ⟨hs.1, hJx.own s X Y row hs.2 hg (fun r e => ⟨by have := (hr r e).1; omega, (hr r e).2⟩)⟩
  · rintro k X hk hh ⟨hj, b1, b2, b3⟩
    exact ⟨hS k X hk (by rw [hh]; rfl) hj, b1, by rw [lowS_skip hh]; exact b2, b3⟩
  · intro l' k X K hK
    gi_wp2
    exact hK
  · rintro l' k X hl' ⟨r, hr⟩ hk hh ⟨hj, b1, b2, b3⟩
    have hs5 : W.heap.size + 5 ≤ X.heap.size := by have := (Array.getElem?_eq_some_iff.1 hr).1; omega
    have hc := hbox _ _ hj
    have q1 := b1.cell
    have q2 := b2.cell
    have f2 := b2.frozen
    clear bY bL bV hJ0 hc0 h0
    cases hm : hasB d ((k : Int) - 1)
    · have b1' := b1.other (B' := W.heap.size + 1) (by omega) (.int .i64 k)
      have b2' := b2.set (.int .i64 k)
      have b3' := b3.other (B' := W.heap.size + 1) (by omega) (.int .i64 k)
      have hj' := hJ.set (b := W.heap.size + 1) (.int .i64 k) hj (by omega) (by omega)
      have hc' := hbox _ _ hj'
      have hs5' : W.heap.size + 5 ≤ (X.setCell ⟨W.heap.size + 1, 0, none⟩ (.int .i64 k)).heap.size := Nat.le_trans hs5 (KeepsWalks.setCell X _ _).size
      have hkf : KeepsFrom W0.heap.size X (X.setCell ⟨W.heap.size + 1, 0, none⟩ (.int .i64 k)) := (KeepsOthers.setCell _ _ _).from _
      have hle := lowS_new hh hm
      have q1' := b1'.cell
      have q2' := b2'.cell
      obtain ⟨X', hX'⟩ : ∃ X', X.setCell ⟨W.heap.size + 1, 0, none⟩ (.int .i64 k) = X' := ⟨_, rfl⟩
      rw [hX'] at b1' b2' b3' hj' hc' hs5' hkf q1' q2'
      cases hp : hasB d ((k : Int) + 1)
      · have hyy := yieldAt_wide (m' := 5) (hY k X' hj' hk hh hp hs5')
        rw [hle] at hyy
        obtain ⟨fn, tmps, asg, bdy, hy, hR⟩ := hyy
        gi_wp2_with (refine ⟨trivial, ?_⟩; gi_at_call 34; refine (CallsIn.inRound l' (callsIn_wide.2 (has_any _ _ _ h1 h2))).mono ?_; rintro e w' ⟨rfl, rfl⟩)
        refine hR.mono ?_
        rintro e X3 (⟨rfl, hj3, hk3⟩ | ⟨rfl, hj3, hk3⟩)
        · gi_wp2
          exact ⟨hkf.trans (hk3.from (by omega)), trivial, hj3, hk3.boxed b1' (by omega) (by omega), hk3.boxed (by rw [hle]; exact b2') (by omega) (by omega), hk3.boxed b3' (by omega) (by omega)⟩
        · gi_wp2
          exact ⟨hkf.trans (hk3.from (by omega)), rfl, hj3⟩
      · have hS' := hS k X' hk (by rw [hp]; simp) hj'
        gi_wp2_with (refine ⟨trivial, ?_⟩; gi_at_call 34; refine (CallsIn.inRound l' (callsIn_wide.2 (has_any _ _ _ h1 h2))).mono ?_; rintro e w' ⟨rfl, rfl⟩)
        refine ⟨fun _ h => (by cases h), ?_⟩
        gi_wp2
        exact ⟨hkf, trivial, hS', b1', by rw [hle]; exact b2', b3'⟩
    · have hle := lowS_old hm
      cases hp : hasB d ((k : Int) + 1)
      · have hyy := yieldAt_wide (m' := 5) (hY k X hj hk hh hp hs5)
        rw [hle] at hyy
        obtain ⟨fn, tmps, asg, bdy, hy, hR⟩ := hyy
        gi_wp2_with (refine ⟨trivial, ?_⟩; gi_at_call 34; refine (CallsIn.inRound l' (callsIn_wide.2 (has_any _ _ _ h1 h2))).mono ?_; rintro e w' ⟨rfl, rfl⟩)
        refine hR.mono ?_
        rintro e X3 (⟨rfl, hj3, hk3⟩ | ⟨rfl, hj3, hk3⟩)
        · gi_wp2
          exact ⟨hk3.from (by omega), trivial, hj3, hk3.boxed b1 (by omega) (by omega), hk3.boxed (by rw [hle]; exact b2) (by omega) (by omega), hk3.boxed b3 (by omega) (by omega)⟩
        · gi_wp2
          exact ⟨hk3.from (by omega), rfl, hj3⟩
      · have hS' := hS k X hk (by rw [hp]; simp) hj
        gi_wp2_with (refine ⟨trivial, ?_⟩; gi_at_call 34; refine (CallsIn.inRound l' (callsIn_wide.2 (has_any _ _ _ h1 h2))).mono ?_; rintro e w' ⟨rfl, rfl⟩)
        refine ⟨fun _ h => (by cases h), ?_⟩
        gi_wp2
        exact ⟨KeepsFrom.refl _ _, trivial, hS', b1, by rw [hle]; exact b2, b3⟩
  · rintro D X hD ⟨hj, _⟩ hK
    gi_wp2
    refine ⟨by simp, .inl ⟨_, _, rfl, run_takeDeferred hK, ?_⟩⟩
    exact ⟨_, results_none rfl _ _ _, ⟨_, rfl⟩, .inl (hJ.own.putObj _ hj (by omega) hK rfl)⟩
  · rintro D c k X hD hk ⟨rfl, hj⟩ hK
    gi_wp2
    refine ⟨by simp, .inl ⟨_, _, rfl, run_takeDeferred hK, ?_⟩⟩
    exact ⟨_, results_none rfl _ _ _, ⟨_, rfl⟩, .inr ⟨k, hk, hJx.own.putObj _ hj (by omega) hK rfl⟩⟩
end Go.Proofs.YtanaidpffoibgaaDoor
