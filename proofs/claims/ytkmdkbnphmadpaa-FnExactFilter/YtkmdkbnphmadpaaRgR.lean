/- A region that draws its order, inside a round: what may be taken first may be taken first there too. -/
import Derived.Deep.RegionHeld3
import Derived.RangeFuncNested
import Derived.OwnWalkIn
namespace Go.Proofs.Ytkmdkbnphmadpaa
open Go.RowKit
set_option linter.unusedVariables false
set_option linter.unusedSimpArgs false

section
variable {P : Program} {ops : Array Oper} {Q : Exit → Act → World → Prop} {l n : Nat}

theorem upon_wide (o : Oper) (a : Act) (K K' : Act → World → Prop) (hK : ∀ a w, K a w → K' a w) (r : Result Next) (h : o.upon P a K Q r) : o.uponIn (Fence.wide.inRound l) n P a K' Q r := by
  unfold Oper.upon at h
  unfold Oper.uponIn
  split at h
  · exact hK _ _ h
  · exact hK _ _ h
  · exact hK _ _ h
  · refine ⟨fun hd => (by cases hd), ?_⟩
    refine CallsIn.inRound l ((callsIn_wide.2 h).mono ?_)
    intro e w''
    cases e with
    | returned v => exact fun h => hK _ _ h
    | panicked c => exact fun h => h
    | outgrown => exact fun h => h
  · refine ⟨fun hd => (by cases hd), fun c cs _ => ?_⟩
    obtain ⟨v, w', hr, hs⟩ := h c cs
    exact ⟨v, w', hK _ _ hr, stepsIn_wide.2 hs⟩
  · exact h
  · exact h.elim

theorem anyIn_round (hnd : ∀ (i : Nat) (o : Oper), ops[i]? = some o → ∀ c, o.op ≠ .defer c) (hQ : ¬ LetsOut Q) (md : Region.Mode) :
    ∀ (fuel : Nat) (listed : Array Bool) (a : Act) (w : World), wpAny P md ops Q fuel listed a w → wpAnyIn (Fence.wide.inRound l) n P md ops Q fuel listed a w
  | 0, _, _, _, h => h
  | fuel + 1, listed, a, w, h => by
    refine ⟨h.1, fun i hi => ?_⟩
    have hk := h.2 i hi
    unfold wpOp at hk
    unfold wpOpIn
    cases ho : ops[i]? with
    | none => rw [ho] at hk; exact anyIn_round hnd hQ md fuel _ _ _ hk
    | some o =>
      rw [ho] at hk
      simp only at hk ⊢
      split
      · rename_i hw
        rw [if_pos hw] at hk
        rcases hk with hk | hk
        · refine ⟨fun _ _ => trivial, ?_⟩
          rw [Oper.semAt_plain _ _ _ (hnd i o ho)]
          exact upon_wide o a _ _ (fun a w h => anyIn_round hnd hQ md fuel _ a w h) _ hk
        · exact absurd hk.2 hQ
      · rename_i hw
        rw [if_neg hw] at hk
        exact ⟨fun _ _ => trivial, anyIn_round hnd hQ md fuel _ _ _ hk⟩

/-- A region that draws, inside a round, by the laws of one that reads a condition S. -/
theorem region_round {id : Nat} {a : Act} {w : World} (S : World → Prop) (hm : P.follows .mixedOrders = true) (hnd : (ops.toList.all fun o => match o.op with | .defer _ => false | _ => true) = true) (hQ : ¬ LetsOut Q)
    (hS : S w.drew) (h : S w.drew → wpAnyH P .any ops Q S ops.size (Array.replicate ops.size false) a w.drew) : (Code.region id ops true).wpIn (Fence.wide.inRound l) n P Q a w := by
  refine wpIn_region_any hm (anyIn_round (fun i o ho c hc => ?_) hQ .any _ _ _ _ (wpAny_of_held _ _ _ _ (h hS)))
  have := List.all_eq_true.1 hnd o (Array.mem_toList_iff.2 (Array.mem_of_getElem? ho))
  rw [hc] at this
  cases this
end
end Go.Proofs.Ytkmdkbnphmadpaa
