/- The reference's tests of capacity and of acceptance. The reference's test of satisfaction, kind by kind. -/
import Derived.Test.YtelglccegkhfcaaSatP

/-! The reference's tests of capacity and of acceptance. -/
namespace Go.Proofs.Ytelglccegkhfcaa
open Go.ChangeShapes Go.WideShapes Go.ChangeAt Go.RowKit
set_option linter.unusedVariables false
set_option linter.unusedSimpArgs false

theorem loadS_yes {ar xs : List Int} {n : Nat} {t : Int} {k : Nat} (h1 : xs[k]?.getD 0 ≤ t) (h2 : t < xs[k]?.getD 0 + ar[k]?.getD 0) : loadS ar xs n t (k + 1) = loadS ar xs n t k + ar[n + k]?.getD 0 := by rw [loadS, if_pos ⟨h1, h2⟩]
theorem loadS_no {ar xs : List Int} {n : Nat} {t : Int} {k : Nat} (h : ¬ (xs[k]?.getD 0 ≤ t ∧ t < xs[k]?.getD 0 + ar[k]?.getD 0)) : loadS ar xs n t (k + 1) = loadS ar xs n t k := by rw [loadS, if_neg h]
theorem runS_bnd {rows : List (List Int)} {x : List Int} (h1 : 1 ≤ rows.length) (hrow : ∀ j, j < rows.length → (rows[j]?.getD []).length = 6 ∧ Small (rows[j]?.getD []) (-1) (rows.length - 1)) (hv : Small x 0 5) (q : Nat) (hq : q ≤ x.length) (h : ∀ j, j < q → 0 ≤ runS rows x j) : -1 ≤ runS rows x q ∧ runS rows x q ≤ rows.length - 1 := by
  induction q with
  | zero => simp [runS]; omega
  | succ q ih =>
    have i := ih (by omega) (fun j hj => h j (by omega))
    have j := h q (by omega)
    have y := hv q (by omega)
    obtain ⟨l, s⟩ := hrow (runS rows x q).toNat (by omega)
    have := s (x[q]?.getD 0).toNat (by omega)
    rw [runS]
    exact this

end Go.Proofs.Ytelglccegkhfcaa

/-! The reference's test of satisfaction, kind by kind. -/
namespace Go.Proofs.Ytelglccegkhfcaa
open Go.ChangeShapes Go.WideShapes Go.ChangeAt Go.RowKit
set_option linter.unusedVariables false
set_option linter.unusedSimpArgs false
end Go.Proofs.Ytelglccegkhfcaa
