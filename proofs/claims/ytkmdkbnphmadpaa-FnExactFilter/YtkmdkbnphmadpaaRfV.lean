/- Loops over the values of a bit set, counted by the value that comes next. -/
import Derived.Test.YtkmdkbnphmadpaaItV
import Derived.Test.YtkmdkbnphmadpaaRfW
namespace Go.Proofs.Ytkmdkbnphmadpaa
open Go.ChangeShapes Go.WideShapes Go.ChangeAt Go.RowKit Go.Shelf
set_option linter.unusedVariables false
set_option linter.unusedSimpArgs false

attribute [local go_sem] Oper.semAt_some

set_option maxRecDepth 100000 in
set_option maxHeartbeats 2000000 in
theorem values1_k (n : Nat) (hn : 1 ≤ n) (l Bs : Nat) (d : Int) (h1 : 0 ≤ d) (h2 : d ≤ 63) (J Jx : Nat → World → Prop)
    (hbox : ∀ k W, J k W → W.cell? ⟨Bs, 0, none⟩ = some (.int .i64 d)) (hS : ∀ (k : Nat) W, k < 6 → hasB d k = false → J k W → J (k + 1) W)
    (hY : ∀ (k : Nat) W, J k W → k < 6 → hasB d k = true → YieldAt Fence.wide (n - 1) Try.prog l #[.int .i64 k] W fun e W' =>
      (e = .returned (.bool true) ∧ J (k + 1) W') ∨ (e = .returned (.bool false) ∧ Jx (k + 1) W'))
    (W : World) (h0 : J 0 W) :
    CallsIn Fence.wide n Try.prog 162 #[.func (.yield l) #[] #[], .pointer (some ⟨Bs, 0, none⟩)] W fun e W' => (∃ v, e = .returned v) ∧
      (J 6 W' ∨ (∃ k, k ≤ 6 ∧ Jx k W')) := by
  refine callsIn_of_wp Try.func162 rfl trivial ?_ rfl
  simp only [Try.ntmps162, List.size_toArray, List.length_cons, List.length_nil, Nat.reduceAdd, Nat.reduceSub, Array.replicate_succ, Array.replicate_zero, List.push_toArray, List.append_toArray, List.nil_append, List.cons_append]
  gi_wp2
  gi_loopw [4] (fun i wr => ∃ k : Nat, k ≤ 6 ∧ i = .int .i64 k ∧ J k wr) (fun i _ => 6 - (intOf i).toNat)
  case atStart => exact ⟨0, Nat.zero_le _, rfl, h0⟩
  case round =>
    obtain ⟨k, hk, rfl, hJs⟩ := hrel
    have hc := hbox _ _ hJs
    by_cases hlt : k < 6
    · cases hh : hasB d k
      · have hS' := hS k wr hlt hh hJs
        gi_wp2_with (refine ⟨trivial, ?_⟩; gi_at_call 120; refine (callsIn_wide.2 (has_any _ _ _ h1 h2)).mono ?_; rintro e w' ⟨rfl, rfl⟩)
        refine ⟨fun _ h => (by cases h), ?_⟩
        gi_wp2
        go_roundw
        case rel => exact ⟨k + 1, by omega, by simp, hS'⟩
        case measure => simp [intOf]; omega
      · obtain ⟨fn, tmps, assign, body, hy, hR⟩ := hY k wr hJs hlt hh
        gi_wp2_with (refine ⟨trivial, ?_⟩; gi_at_call 120; refine (callsIn_wide.2 (has_any _ _ _ h1 h2)).mono ?_; rintro e w' ⟨rfl, rfl⟩)
        refine hR.mono ?_
        rintro e W3 (⟨rfl, hJ3⟩ | ⟨rfl, hJx3⟩)
        · gi_wp2
          go_roundw
          case rel => exact ⟨k + 1, by omega, by simp, hJ3⟩
          case measure => simp [intOf]; omega
        · gi_wp2
          refine bodyPost_ret (results_none rfl _ _ _) rfl ?_
          exact ⟨⟨_, rfl⟩, .inr ⟨k + 1, by omega, hJx3⟩⟩
    · obtain rfl : k = 6 := by omega
      gi_wp2
      go_end0
      exact ⟨⟨_, rfl⟩, .inl hJs⟩

/-- A loop over the values of d, outside of any round: I k: the values below k have come. -/
theorem rf_values {n : Nat} {g : Operand} {ps : Array Tmp} {assign body : Code} {Q : Exit → Act → World → Prop} {a : Act} {w : World} {Bs : Nat} {d : Int}
    (hn : 2 ≤ n) (hg : a.eval g = .func (.func 162) #[] #[.pointer (some ⟨Bs, 0, none⟩)]) (h1 : 0 ≤ d) (h2 : d ≤ 63) (hps : ps.size = 1)
    (I : Nat → World → Prop) (Ix : Code → Nat → World → Prop) (hI : OwnFrom w.heap.size I) (hIx : ∀ c, OwnFrom w.heap.size (Ix c))
    (hbox : ∀ k W, I k W → W.cell? ⟨Bs, 0, none⟩ = some (.int .i64 d)) (hskip : ∀ (k : Nat) W, k < 6 → hasB d k = false → I k W → I (k + 1) W) (h0 : I 0 w) (a₁ : Nat → Act)
    (hassign : ∀ (l k : Nat) (W : World) (K : Act → World → Prop), K (a₁ k) W →
      assign.wpIn (Fence.wide.inRound l) (n - 1 - 1) Try.prog (Exit.then K (fun _ _ _ => False)) { tmps := (ps.zip #[Value.int .i64 k]).foldl (fun t (p, v) => t.setIfInBounds p v) a.tmps, defers := [] } W)
    (hbody : ∀ (l k : Nat) (W : World), l = w.heap.size + 1 → (∃ r, W.heap[l]? = some (.loop r)) → k < 6 → hasB d k = true → I k W →
      body.wpIn (Fence.wide.inRound l) (n - 1 - 1) Try.prog (outPost w.heap.size (fun _ _ => True) I Ix (k + 1) W) (a₁ k) W)
    (hdone : ∀ (D : Nat) (W : World), w.heap.size ≤ D → I 6 W → W.heap[D]? = some (.deferred (some [])) → Q .normal { a with defers := { target := .collected D, args := #[] } :: a.defers } W)
    (hstop : ∀ (D : Nat) (c : Code) (k : Nat) (W : World), w.heap.size ≤ D → k ≤ 6 → Ix c k W → W.heap[D]? = some (.deferred (some [])) → c.wpIn Fence.wide n Try.prog Q { a with defers := { target := .collected D, args := #[] } :: a.defers } W) :
    (Code.rangeFunc g ps assign body).wpIn Fence.wide n Try.prog Q a w := by
  refine rf_outer (σ := Nat) (At := fun (s s' : Nat) vs (_ : World) => s < 6 ∧ hasB d s = true ∧ s' = s + 1 ∧ vs = #[Value.int .i64 s]) (Kp := fun _ _ => True) (S := fun s => s = 6) (Sp := fun s => s ≤ 6)
    rfl (by omega) hg trivial (enters_of Try.func162 (by kernel_rfl) rfl) (fun _ _ => trivial) (fun _ _ _ _ _ _ _ _ => trivial) (fun s s' vs W h => by rw [h.2.2.2, hps]; rfl)
    I Ix (fun (s s' : Nat) (_ : Array Value) a' (_ : World) => s < 6 ∧ hasB d s = true ∧ s' = s + 1 ∧ a' = a₁ s) hI hIx (fun _ _ _ _ _ _ _ _ hs _ _ => hs) 0 h0 ?_ ?_ ?_ ?_ ?_
  · intro Rec RecX W1 hRec hRecX hB1 hs1 hI1 hR1 hY
    refine (values1_k (n - 1) (by omega) _ Bs d h1 h2 (fun k W => I k W ∧ Rec W) (fun k W => ∃ c, Ix c k W ∧ RecX c W) (fun k W h => hbox k W h.1) (fun k W hk hh h => ⟨hskip k W hk hh h.1, h.2⟩) ?_ W1 ⟨hI1, hR1⟩).mono ?_
    · intro k W hJ hk hh
      obtain ⟨f0, tm, asg, bo, hr, hR⟩ := hY k (k + 1) _ W hJ ⟨hk, hh, rfl, rfl⟩
      refine ⟨f0, tm, asg, bo, hr, hR.mono ?_⟩
      rintro e W' (⟨rfl, h, _⟩ | ⟨rfl, h⟩)
      · exact .inl ⟨rfl, h⟩
      · exact .inr ⟨rfl, h⟩
    · rintro e W' ⟨hv, (h | ⟨k, hk, h⟩)⟩
      · exact ⟨hv, .inl ⟨6, rfl, h⟩⟩
      · exact ⟨hv, .inr ⟨k, hk, h⟩⟩
  · rintro l s s' vs W K hi ⟨hs, hh, rfl, rfl⟩ hK
    exact hassign l s W K (hK _ W (KeepsFrom.refl _ _) trivial hi ⟨hs, hh, rfl, rfl⟩)
  · rintro l s s' vs a' W hl hr hi ⟨hs, hh, rfl, rfl⟩
    exact hbody l s W hl hr hs hh hi
  · rintro D s W hD rfl hi hK
    exact hdone D W hD hi hK
  · rintro D c s W hD hs hi hK
    exact hstop D c s W hD hs hi hK
end Go.Proofs.Ytkmdkbnphmadpaa
