/- Whether one of the variables is a variable of a propagator. -/
import Derived.Test.YtipapmmjfoaddaaGreatFi
namespace Go.Proofs.YtipapmmjfoaddaaGreat
open Go.ChangeShapes Go.WideShapes Go.ChangeAt Go.RowKit Go.Shelf
set_option linter.unusedVariables false
set_option linter.unusedSimpArgs false

/-- One of the numbers xs is one of the variables. -/
def anyB (vars xs : List Int) : Bool := xs.any fun x => decide (x ∈ vars)

set_option maxRecDepth 100000 in
theorem hasAny1_any (x : Int) (B : Nat) (vv fv : Value) (vars : List Int) (w : World) (hb : w.heap[B]? = some (.cells #[vv, fv] 113)) (hv : RdInts w vv vars) :
    Calls Tryz.prog 150 #[.int .i64 x, .pointer (some ⟨B, 0, none⟩)] w fun e w' => e = .returned (.bool (decide (x ∈ vars))) ∧ w = w' := by
  have HV := Lib.hid hv
  obtain ⟨av, cv, ev, -⟩ := id hv
  rw [ev] at HV hb
  have p0 : w.cell? ⟨B, 0, none⟩ = some (.slice av vars.length cv) := by simp [World.cell?, hb]
  clear hv ev hb
  go_enter Tryz.func150, Tryz.ntmps150
  go_wp2_with fail
  refine (slicesContains_any _ vars x w HV.out).mono ?_
  rintro e w' ⟨rfl, rfl⟩
  go_wp2
  go_ret
  exact ⟨rfl, rfl⟩

set_option maxRecDepth 100000 in
set_option maxHeartbeats 1000000 in
theorem hasAnyIx_any (xv : Value) (x : List Int) (B : Nat) (vv fv : Value) (vars : List Int) (w : World) (hx : RdInts w xv x) (hb : w.heap[B]? = some (.cells #[vv, fv] 113)) (hv : RdInts w vv vars) :
    Calls Tryz.prog 178 #[xv, .func (.func 150) #[] #[.pointer (some ⟨B, 0, none⟩)]] w fun e w' => ∃ r : Int, e = .returned (.int .i64 r) ∧ (0 ≤ r ↔ anyB vars x = true) ∧ w = w' := by
  have HX := Lib.hid hx
  obtain ⟨ax, cx, e2, _⟩ := hx
  rw [e2] at HX ⊢
  obtain ⟨n, hn⟩ : ∃ n, n = x.length := ⟨_, rfl⟩
  rw [← hn] at HX ⊢
  have HN := Lib.hid hn
  have HF := Lib.hid (fun z => hasAny1_any z B vv fv vars w hb hv)
  clear e2 hn hb hv
  have hc2 := (rdInts_cap HX.out).2
  go_enter Tryz.func178, Tryz.ntmps178
  go_wp2
  go_loop [8] (fun i => ∃ k : Nat, k ≤ n ∧ i = .int .i64 k ∧ Hid (∀ j, j < k → ¬ x[j]?.getD 0 ∈ vars)) (fun i => n - (intOf i).toNat)
  case atStart => exact ⟨0, Nat.zero_le _, rfl, fun j hj => by omega⟩
  case round =>
    obtain ⟨k, hk, rfl, HE⟩ := hrel
    by_cases hlt : k < n
    · obtain ⟨b1, o1, rfl, q1⟩ := rdInts_at HX.out hlt
      by_cases he : x[k]?.getD 0 ∈ vars
      · have HM : Hid (anyB vars x = true) := Lib.hid (by
          have hk' : k < x.length := by have := HN.out; omega
          unfold anyB
          rw [List.any_eq_true]
          refine ⟨x[k], List.getElem_mem hk', ?_⟩
          rw [List.getElem?_eq_getElem hk'] at he
          simpa using he)
        have HD := Lib.hid (decide_eq_true he)
        clear he
        go_wp2_with (go_at_call 150; refine (HF.out _).mono ?_; rintro e w' ⟨rfl, rfl⟩; rw [HD.out])
        go_ret
        exact ⟨k, rfl, ⟨fun _ => HM.out, fun _ => by omega⟩, rfl⟩
      · have HE2 := Lib.hid he
        have HD := Lib.hid (decide_eq_false he)
        clear he
        go_wp2_with (go_at_call 150; refine (HF.out _).mono ?_; rintro e w' ⟨rfl, rfl⟩; rw [HD.out])
        go_round
        case rel => exact ⟨k + 1, by omega, by go_num, fun j hj => by by_cases e : j = k; (· subst e; exact HE2.out); (· exact HE.out j (by omega))⟩
        case measure => simp [intOf]; omega
    · obtain rfl : k = n := by omega
      have HM : Hid (¬ anyB vars x = true) := Lib.hid (fun hm => by
        unfold anyB at hm
        rw [List.any_eq_true] at hm
        obtain ⟨z, hz, e⟩ := hm
        obtain ⟨j, hj, rfl⟩ := List.mem_iff_getElem.1 hz
        exact HE.out j (by have := HN.out; omega) (by rw [List.getElem?_eq_getElem hj]; simpa using e))
      clear HE
      go_wp2
      go_ret
      exact ⟨-1, rfl, ⟨fun h => by omega, fun h => (HM.out h).elim⟩, rfl⟩

set_option maxRecDepth 100000 in
theorem hasAnyCf_any (xv : Value) (x : List Int) (B : Nat) (vv fv : Value) (vars : List Int) (w : World) (hx : RdInts w xv x) (hb : w.heap[B]? = some (.cells #[vv, fv] 113)) (hv : RdInts w vv vars) :
    Calls Tryz.prog 149 #[xv, .func (.func 150) #[] #[.pointer (some ⟨B, 0, none⟩)]] w fun e w' => e = .returned (.bool (anyB vars x)) ∧ w = w' := by
  have HC := Lib.hid (hasAnyIx_any xv x B vv fv vars w hx hb hv)
  obtain ⟨ax, cx, e2, _⟩ := hx
  rw [e2] at HC ⊢
  clear e2 hb hv
  go_enter Tryz.func149, Tryz.ntmps149
  go_wp2_with fail
  refine HC.out.mono ?_
  rintro e w9 ⟨r, rfl, hr, rfl⟩
  have HR := Lib.hid hr
  clear hr HC
  by_cases h : 0 ≤ r
  · have HM := Lib.hid (HR.out.1 h)
    go_wp2
    go_ret
    exact ⟨ret_bool (by rw [HM.out]), rfl⟩
  · have HM : Hid (anyB vars x = false) := Lib.hid (by cases hq : anyB vars x; (· rfl); (· exact absurd (HR.out.2 hq) h))
    go_wp2
    go_ret
    exact ⟨ret_bool (by rw [HM.out]; simp; omega), rfl⟩

set_option maxRecDepth 100000 in
theorem hasAny_any (xv : Value) (x : List Int) (vv fv : Value) (vars : List Int) (w : World) (hx : RdInts w xv x) (hv : RdInts w vv vars) :
    Calls Tryz.prog 104 #[.agg #[vv, fv], xv] w (BoolPost (anyB vars x) w) := by
  obtain ⟨ax, cx, e2, _⟩ := id hx
  obtain ⟨av, cv, e3, _⟩ := id hv
  obtain ⟨W1, hW1⟩ : ∃ W1, w.alloc (.cells #[vv, fv] 113) = W1 := ⟨_, rfl⟩
  have B1 : Below w.heap.size w W1 := by rw [← hW1]; exact (Below.refl _ _).alloc (Nat.le_refl _) _
  have q1 : W1.heap[w.heap.size]? = some (.cells #[vv, fv] 113) := by rw [← hW1]; exact World.alloc_heap_new _ _
  have HC := Lib.hid (hasAnyCf_any xv x w.heap.size vv fv vars W1 (hx.below B1) q1 (hv.below B1))
  have HB1 := Lib.hid B1
  have HW := Lib.hid hW1
  rw [e2] at HC ⊢
  rw [e3] at HW ⊢
  clear hx hv e2 e3 hW1 B1 q1
  go_enter Tryz.func104, Tryz.ntmps104
  go_wp2_with fail
  rw [HW.out]
  refine HC.out.mono ?_
  rintro e w9 ⟨rfl, rfl⟩
  go_wp2
  go_ret
  exact ⟨rfl, HB1.out⟩
end Go.Proofs.YtipapmmjfoaddaaGreat
