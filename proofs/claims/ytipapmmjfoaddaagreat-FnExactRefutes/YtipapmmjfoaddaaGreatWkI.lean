/- The program's iterator over the items of a worklist. -/
import Derived.Test.YtipapmmjfoaddaaGreatWkL
import Derived.RegionTactic
namespace Go.Proofs.YtipapmmjfoaddaaGreat
open Go.ChangeShapes Go.WideShapes Go.ChangeAt Go.RowKit Go.Shelf
set_option linter.unusedVariables false
set_option linter.unusedSimpArgs false

attribute [local go_sem] Oper.semAt_some

set_option maxRecDepth 100000 in
set_option maxHeartbeats 4000000 in
theorem items1_any {τ : Type} (l Bt Bq : Nat) (Bk : Nat → Prop) (J : τ → List Int → World → Prop) (Jp : τ → Int → List Int → World → Prop) (Jx : World → Prop) (nx : τ → Int → List Int → τ × List Int) (m : World → Nat)
    (hJ : ∀ t q X, J t q X → Boxed X Bt 152 (.pointer (some ⟨Bq, 0, none⟩)) ∧ q.length ≤ 1000 ∧ ∃ v, Boxed X Bq 120 v ∧ QRow Bk X v q)
    (hpop : ∀ t i q X v', J t (i :: q) X → QRow Bk X v' q → Jp t i q (X.setCell ⟨Bq, 0, none⟩ v').drew)
    (hY : ∀ t i q X, Jp t i q X → YieldAt Fence.wide 7 Tryz.prog l #[.int .i64 i] X fun e X' => (e = .returned (.bool true) ∧ J (nx t i q).1 (nx t i q).2 X') ∨ (e = .returned (.bool false) ∧ Jx X'))
    (hm : ∀ t i q X X', J t (i :: q) X → J (nx t i q).1 (nx t i q).2 X' → m X' < m X) (t0 : τ) (q0 : List Int) (W : World) (h0 : J t0 q0 W) :
    CallsIn Fence.wide 8 Tryz.prog 147 #[.func (.yield l) #[] #[], .pointer (some ⟨Bt, 0, none⟩)] W fun e W' => (∃ v, e = .returned v) ∧ ((∃ t, J t [] W') ∨ Jx W') := by
  have HJ := Lib.hid hJ
  have HP := Lib.hid hpop
  have HY := Lib.hid hY
  have HMM := Lib.hid hm
  clear hJ hpop hY hm
  refine callsIn_of_wp Tryz.func147 rfl trivial ?_ rfl
  simp only [Tryz.ntmps147, List.size_toArray, List.length_cons, List.length_nil, Nat.reduceAdd, Nat.reduceSub, Array.replicate_succ, Array.replicate_zero, List.push_toArray, List.append_toArray, List.nil_append, List.cons_append]
  gi_wp2
  gi_loopw [3] (fun _ wr => ∃ t q, Hid (J t q wr)) (fun _ wr => m wr)
  case atStart => exact ⟨t0, q0, Lib.hid h0⟩
  case round =>
    obtain ⟨t, q, HJQ⟩ := hrel
    obtain ⟨b1, hq, v, b2, hr⟩ := HJ.out t q _ HJQ.out
    have p1 := b1.cell
    have p2 := b2.cell
    have f2 := b2.frozen
    cases q with
    | nil =>
      obtain ⟨va, vc, rfl, hv1, hv2⟩ := hr.slice
      clear hr b1 b2
      gi_wp2
      go_end0
      exact ⟨⟨_, rfl⟩, .inl ⟨t, HJQ.out⟩⟩
    | cons i q =>
      obtain ⟨b, off, cap, rfl, hc1, hc2, hc3, hr'⟩ := hr.tail
      have HPP := Lib.hid (HP.out t i q _ _ HJQ.out hr')
      have hpos : (0 : Int) < ((q.length + 1 : Nat) : Int) := by omega
      have hq' : q.length ≤ 999 := by simp at hq; omega
      clear hr hr' b1 b2 hq
      by_cases hc0 : cap = 0
      · subst hc0
        rw [if_pos rfl] at HPP
        have hq0 : q = [] := List.eq_nil_of_length_eq_zero (by omega)
        subst hq0
        clear hq' hpos hc1 hc2
        simp only [List.length_nil, Nat.zero_add] at HPP p2
        gi_wp2
        refine wpIn_wide.2 ?_
        go_region_with (fail)
        all_goals
          obtain ⟨X, hX⟩ : ∃ X, (wr.setCell ⟨Bq, 0, none⟩ (.slice (some ⟨b, off, none⟩) 0 0)).drew = X := ⟨_, rfl⟩
          rw [hX] at HPP ⊢
          obtain ⟨fn, tmps, asg, bdy, hy, hR⟩ := HY.out t i [] X HPP.out
          clear hX p1 p2 f2 hc3
          gi_wp2
          refine hR.mono ?_
          rintro e W3 (⟨rfl, hJ3⟩ | ⟨rfl, hJx3⟩)
          · gi_wp2
            go_roundw
            case rel => exact ⟨_, _, Lib.hid hJ3⟩
            case measure => exact HMM.out t i [] _ _ HJQ.out hJ3
          · gi_wp2
            refine bodyPost_ret (results_none rfl _ _ _) rfl ?_
            exact ⟨⟨_, rfl⟩, .inr hJx3⟩
      · rw [if_neg hc0] at HPP
        gi_wp2
        refine wpIn_wide.2 ?_
        go_region_with (fail)
        all_goals
          obtain ⟨X, hX⟩ : ∃ X, (wr.setCell ⟨Bq, 0, none⟩ (.slice (some ⟨b, off + 1, none⟩) q.length cap)).drew = X := ⟨_, rfl⟩
          rw [hX] at HPP ⊢
          obtain ⟨fn, tmps, asg, bdy, hy, hR⟩ := HY.out t i q X HPP.out
          clear hX p1 p2 f2 hc3
          gi_wp2
          refine hR.mono ?_
          rintro e W3 (⟨rfl, hJ3⟩ | ⟨rfl, hJx3⟩)
          · gi_wp2
            go_roundw
            case rel => exact ⟨_, _, Lib.hid hJ3⟩
            case measure => exact HMM.out t i q _ _ HJQ.out hJ3
          · gi_wp2
            refine bodyPost_ret (results_none rfl _ _ _) rfl ?_
            exact ⟨⟨_, rfl⟩, .inr hJx3⟩
end Go.Proofs.YtipapmmjfoaddaaGreat
