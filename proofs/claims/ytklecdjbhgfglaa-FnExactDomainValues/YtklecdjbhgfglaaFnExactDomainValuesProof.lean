/- For every input the Go function laws.FnExactDomainValues, as it stands at the commit, returns true, and its arguments read afterwards as they read before. No condition. -/
import Derived.Test.YtklecdjbhgfglaaRows
import Derived.Test.YtklecdjbhgfglaaDom
import Derived.Test.YtklecdjbhgfglaaVals
import Derived.Test.YtklecdjbhgfglaaIter
import Derived.Test.YtklecdjbhgfglaaEq
import Derived.WalkKit
import Derived.ProofKit
import Derived.OpenShut
import Derived.ShutString
import Derived.Below
namespace Go.Proofs.Ytklecdjbhgfglaa.fnExactDomainValues
open Go.ChangeShapes Go.WideShapes Go.ChangeAt Go.RowKit
open Go.ChangeMaps (open_string shut_string)
set_option linter.unusedVariables false

theorem own : ownKnob Try.prog.godebug = none := by kernel_rfl

set_option maxRecDepth 100000 in
set_option maxHeartbeats 4000000 in
theorem walk (a0 : Int) (w0 : (Lit.int .i64 a0).wf = true) (w : World) :
    Calls Try.prog 6 #[.int .i64 a0] w fun e w' => e = .returned (.bool true) ∧ Below w.heap.size w w' := by
  have hlen : (dvals a0).length ≤ 6 := by unfold dvals; split; (· exact valsL_le _ _); (· simp)
  go_enter Try.func6, Try.ntmps6
  go_wp2_with fail
  refine (sDomainValues_any a0 w).mono ?_
  rintro e w1 ⟨v0, rfl, o0, b1⟩
  go_wp2_with fail
  refine (iDomainValues_any a0 w1).mono ?_
  rintro e w2 ⟨v1, rfl, o1, b2⟩
  have o0' := own_below o0 b2
  go_wp2_with fail
  refine (eqIntS_any v1 v0 (dvals a0) (dvals a0) w2 (rdInts_of_owns o1 (by omega)) (rdInts_of_owns o0' (by omega))).mono ?_
  rintro e w3 ⟨rfl, k3, rfl⟩
  rw [decide_eq_true rfl]
  go_wp2_with fail
  refine (markIntS_any _ v1 (dvals a0) 1 _ (own_drewN o1 k3) (by omega) (by omega) (by omega)).mono ?_
  rintro e w4 ⟨rfl, o1', g4, z4⟩
  have Z4 := Lib.hid z4
  have o0'' := own_other (own_drewN o0' k3) g4 (fun j ej => (World.ownsRow.lt o0 j ej).2) (own_drewN o1 k3)
  clear z4
  have hm : (marks 1 (dvals a0).length).length ≤ 1000000000 := by rw [marks_length]; omega
  go_wp2_with fail
  refine (heldIntS_any v1 1 (dvals a0).length w4 (rdInts_of_owns o1' hm) (by omega) (by omega)).mono ?_
  rintro e w' ⟨rfl, rfl⟩
  go_wp2_with fail
  refine (iDomainValues_any a0 w4).mono ?_
  rintro e w5 ⟨v2, rfl, o2, b5⟩
  go_wp2_with fail
  refine (eqIntS_any v2 v0 (dvals a0) (dvals a0) w5 (rdInts_of_owns o2 (by omega)) (rdInts_of_owns (own_below o0'' b5) (by omega))).mono ?_
  rintro e w6 ⟨rfl, k6, rfl⟩
  rw [decide_eq_true rfl]
  go_wp2_with fail
  refine (heldIntS_any v1 1 (dvals a0).length _ (rdInts_of_owns (own_drewN (own_below o1' b5) k6) hm) (by omega) (by omega)).mono ?_
  rintro e w' ⟨rfl, rfl⟩
  go_wp2
  go_ret
  refine ⟨rfl, below_drewN ?_ k6⟩
  have c2 : Below w.heap.size w w2 := b1.trans (b2.mono b1.size)
  have c4 : Below w.heap.size w w4 := (below_drewN c2 k3).grown g4 (Nat.le_trans b1.size b2.size) (fun j ej => Nat.le_trans b1.size (World.ownsRow.lt o1 j ej).1)
  exact c4.trans (b5.mono c4.size)

set_option maxRecDepth 100000 in
theorem lifted (os : Os) (started : os.Started) (H : Type) (enc : TypeId × Value → H) :
    ReturnsInHanded {} Try.checked os 6 .any (Rows.fnExactDomainValuesSpec.pre6 enc Try.prog Try.f6 Rows.fnExactDomainValuesRow.domain false) (Rows.fnExactDomainValuesSpec.post enc Try.prog Try.f6 false true false false) := by
  refine returnsInHanded_of_change (C := Try.checked) own started (by kernel_rfl) Try.func6
    (ChangeSpec.witness6 (enc := enc) (C := Try.checked) false ⟨#[], #[.int .i64 0], []⟩ 8 (by kernel_rfl) (by kernel_rfl) (by kernel_rfl) (by kernel_rfl)) ?_
  intro W base args ds gs before hval0 hW hcnd _
  have hval : ∀ (j : Nat) t v, Try.f6.params[j]? = some t → args[j]? = some v → Value.okWide Try.prog W .any base t v := hval0
  have hW' := hW
  obtain ⟨p, q, hA0, hV, rfl, hfz, hnd⟩ := hW
  have hA : DataW.TrodAll enc Try.prog W 0 (fun _ => true) true Try.f6.params.toList args.toList ds p := hA0
  rw [Try.params6] at hA hval
  obtain ⟨v0, vs0, d0, ds0, p0, q0, hargs, rfl, rfl, h0, r0⟩ := trodAll_cons hA
  obtain ⟨rfl, rfl, rfl⟩ := trodAll_nil r0
  obtain rfl : args = #[v0] := by cases args; simp_all
  obtain ⟨rfl, rfl⟩ := trodVars_none hV
  obtain ⟨a0, rfl, rfl, rfl, w0⟩ := open_int Try.underlying3 (hval 0 3 v0 rfl rfl) h0
  clear hA0 hval0
  simp only [List.append_nil] at hW'
  refine (walk a0 w0 W).mono fun e W' ⟨he, hg⟩ => ?_
  subst he
  exact ⟨_, rfl, _, _, _, [], [], [], hW', (trodAll_cons_mk (shut_bool Try.underlying4 _) trodAll_mk0), (trodAll_cons_mk (shut_int Try.underlying3 w0) trodAll_mk0), rfl, hg.frame _, fun h => by cases h⟩

theorem over : Rows.fnExactDomainValuesRow.holds Try.pinned (OpenSpec.ofChange Rows.fnExactDomainValuesSpec) :=
  OpenClaim.holds_of_wide 6 Try.f6 rfl rfl rfl rfl rfl rfl rfl ⟨rfl, rfl, rfl, rfl, rfl⟩ rfl rfl rfl rfl rfl (by kernel_rfl) Try.func6 (by kernel_rfl)
    (of_decide_eq_true (by kernel_rfl)) (by unfold Func.isWrapper; first | (rw [if_pos (by decide +kernel)]; kernel_rfl) | (rw [if_neg (by decide +kernel)]; exact ⟨rfl, rfl⟩))
    (fun os started H enc _ => lifted os started H enc)

/-- The given statement. -/
theorem proved : Rows.FnExactDomainValuesSaid :=
  over
#print axioms proved
end Go.Proofs.Ytklecdjbhgfglaa.fnExactDomainValues
