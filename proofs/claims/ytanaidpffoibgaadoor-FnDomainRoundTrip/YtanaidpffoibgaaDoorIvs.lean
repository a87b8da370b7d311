/- The intervals of a domain, and their joined texts. -/
import Derived.Test.YtanaidpffoibgaaDoorDec
namespace Go.Proofs.YtanaidpffoibgaaDoor
open Go.ChangeShapes Go.WideShapes Go.ChangeAt Go.RowKit
set_option linter.unusedVariables false
set_option linter.unusedSimpArgs false

/-- Where the last interval that begins below k begins. -/
def lowS (d : Int) : Nat → Nat
  | 0 => 0
  | k + 1 => if hasB d k && !hasB d ((k : Int) - 1) then k else lowS d k
/-- The intervals that end below k. -/
def ivS (d : Int) : Nat → List (Nat × Nat)
  | 0 => []
  | k + 1 => ivS d k ++ if hasB d k && !hasB d ((k : Int) + 1) then [(lowS d (k + 1), k)] else []
theorem lowS_le (d : Int) (k : Nat) : lowS d k ≤ k := by
  induction k with
  | zero => exact Nat.le_refl _
  | succ k ih => rw [lowS]; split <;> omega
theorem ivS_le (d : Int) (k : Nat) : (ivS d k).length ≤ k := by
  induction k with
  | zero => exact Nat.le_refl _
  | succ k ih => rw [ivS, List.length_append]; split <;> simp <;> omega
/-- The texts of the intervals. -/
def ivTexts (d : Int) : List ByteArray := (ivS d 6).map fun p => intB p.1 p.2
set_option maxRecDepth 100000 in
theorem join_fin : ∀ n : Fin 64, n.val ≠ 0 → (Lib.join ((ivTexts (n.val : Int)).map (·.data.toList)) [44]) = (fmtD (n.val : Int)).data.toList := by decide +kernel
theorem join_ivs (d : Int) (h1 : 0 < d) (h2 : d ≤ 63) : (⟨(Lib.join ((ivTexts d).map (·.data.toList)) (⟨#[44]⟩ : ByteArray).data.toList).toArray⟩ : ByteArray) = fmtD d := by
  have h := join_fin ⟨d.toNat, by omega⟩ (by simp; omega)
  simp only [Int.toNat_of_nonneg (Int.le_of_lt h1)] at h
  show (⟨(Lib.join ((ivTexts d).map (·.data.toList)) [44]).toArray⟩ : ByteArray) = fmtD d
  rw [h]
end Go.Proofs.YtanaidpffoibgaaDoor
