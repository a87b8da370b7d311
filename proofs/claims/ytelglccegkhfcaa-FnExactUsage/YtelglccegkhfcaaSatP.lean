/- The tests of satisfaction as functions of data; the reference's helpers. -/
import Derived.Test.YtelglccegkhfcaaModV
namespace Go.Proofs.Ytelglccegkhfcaa
open Go.ChangeShapes Go.WideShapes Go.ChangeAt Go.RowKit
set_option linter.unusedVariables false
set_option linter.unusedSimpArgs false

/-- The sum of the first k products. -/
def linS (ar xs : List Int) : Nat → Int
  | 0 => 0
  | k + 1 => linS ar xs k + ar[k]?.getD 0 * xs[k]?.getD 0
/-- How many of the first k numbers are a. -/
def cntS (a : Int) (xs : List Int) : Nat → Int
  | 0 => 0
  | k + 1 => if xs[k]?.getD 0 = a then cntS a xs k + 1 else cntS a xs k
theorem cntS_le (a : Int) (xs : List Int) (k : Nat) : 0 ≤ cntS a xs k ∧ cntS a xs k ≤ k := by
  induction k with
  | zero => simp [cntS]
  | succ k ih => unfold cntS; split <;> omega
/-- Every number of the list is between lo and hi. -/
def Small (xs : List Int) (lo hi : Int) : Prop := ∀ j, j < xs.length → lo ≤ xs[j]?.getD 0 ∧ xs[j]?.getD 0 ≤ hi
theorem mul_small {a b : Int} (h1 : -9 ≤ a) (h2 : a ≤ 9) (h3 : 0 ≤ b) (h4 : b ≤ 5) : -45 ≤ a * b ∧ a * b ≤ 45 := by
  have e1 := Int.mul_le_mul_of_nonneg_right h1 h3
  have e2 := Int.mul_le_mul_of_nonneg_right h2 h3
  omega
theorem linS_le {ar xs : List Int} (ha : Small ar (-9) 9) (hx : Small xs 0 5) (hl : ar.length = xs.length) (k : Nat) (hk : k ≤ xs.length) : -45 * (k : Int) ≤ linS ar xs k ∧ linS ar xs k ≤ 45 * (k : Int) := by
  induction k with
  | zero => simp [linS]
  | succ k ih =>
    have i := ih (by omega)
    have a := ha k (by omega)
    have b := hx k (by omega)
    have m := mul_small a.1 a.2 b.1 b.2
    unfold linS
    omega
/-- The demand of the first k of n tasks at time t. -/
def loadS (ar xs : List Int) (n : Nat) (t : Int) : Nat → Int
  | 0 => 0
  | k + 1 => if xs[k]?.getD 0 ≤ t ∧ t < xs[k]?.getD 0 + ar[k]?.getD 0 then loadS ar xs n t k + ar[n + k]?.getD 0 else loadS ar xs n t k
theorem loadS_le {ar xs : List Int} {n : Nat} (ha : Small ar 0 9) (hl : ar.length = 2 * n) (t : Int) (k : Nat) (hk : k ≤ n) : 0 ≤ loadS ar xs n t k ∧ loadS ar xs n t k ≤ 9 * (k : Int) := by
  induction k with
  | zero => simp [loadS]
  | succ k ih =>
    have i := ih (by omega)
    have a := ha (n + k) (by omega)
    unfold loadS
    split <;> omega
/-- The state behind k steps. -/
def runS (rows : List (List Int)) (xs : List Int) : Nat → Int
  | 0 => 0
  | k + 1 => (rows[(runS rows xs k).toNat]?.getD [])[(xs[k]?.getD 0).toNat]?.getD 0
/-- The test of a circuit, as the reference walks it. -/
def goS (xs : List Int) (at' : Nat) (n : Nat) : Nat → Bool
  | 0 => false
  | f + 1 => if (xs.length : Int) ≤ xs[at']?.getD 0 then false else if xs[at']?.getD 0 = 0 then decide (n = xs.length) else goS xs (xs[at']?.getD 0).toNat (n + 1) f

theorem rdRows_at {w : World} {a : Option Addr} {n cap : Nat} {rows : List (List Int)} (h : RdRows w (.slice a n cap) rows) {i : Nat} (hi : i < n) : ∃ (b off : Nat) (a' : Option Addr) (c' : Nat), a = some ⟨b, off, none⟩ ∧ w.cell? ⟨b, off + i, none⟩ = some (.slice a' (rows[i]?.getD []).length c') ∧ RdInts w (.slice a' (rows[i]?.getD []).length c') (rows[i]?.getD []) := by
  obtain ⟨a', cap', e, h1, h2, h3⟩ := h
  simp at e
  obtain ⟨rfl, rfl, rfl⟩ := e
  rcases h3 with h3 | ⟨b, off, rfl, h3⟩
  · omega
  · obtain ⟨u, hu, hr⟩ := h3 i hi
    have g := hr
    obtain ⟨a2, c2, rfl, _⟩ := g
    exact ⟨b, off, a2, c2, rfl, hu, hr⟩
theorem rdRows_cap {w : World} {a : Option Addr} {n cap : Nat} {xs : List (List Int)} (h : RdRows w (.slice a n cap) xs) : n = xs.length ∧ n ≤ cap ∧ cap ≤ 9223372036854775807 := by
  obtain ⟨a', cap', e, h1, h2, _⟩ := h
  simp at e
  obtain ⟨rfl, rfl, rfl⟩ := e
  exact ⟨rfl, h1, by unfold maxLen at h2; omega⟩

/-- The first q numbers agree. -/
def preB (r x : List Int) (q : Nat) : Bool := decide (∀ j, j < q → r[j]?.getD 0 = x[j]?.getD 0)
theorem preB_step_true {r x : List Int} {q : Nat} (h : preB r x q = true) (e : r[q]?.getD 0 = x[q]?.getD 0) : preB r x (q + 1) = true := by
  unfold preB at *
  rw [decide_eq_true_iff] at *
  intro j hj
  by_cases e' : j = q
  · subst e'; exact e
  · exact h j (by omega)
theorem preB_step_false {r x : List Int} {q : Nat} (e : r[q]?.getD 0 ≠ x[q]?.getD 0) : preB r x (q + 1) = false := by
  unfold preB
  rw [decide_eq_false_iff_not]
  exact fun h => e (h q (by omega))
theorem preB_step_old {r x : List Int} {q : Nat} (h : preB r x q = false) : preB r x (q + 1) = false := by
  unfold preB at *
  rw [decide_eq_false_iff_not] at *
  exact fun h' => h fun j hj => h' j (by omega)

/-- A Boolean, and a world in which only draws were made. -/
def QuietPost (b : Bool) (w : World) (e : Ending) (w' : World) : Prop := e = .returned (.bool b) ∧ ∃ k, w' = w.drewN k

end Go.Proofs.Ytelglccegkhfcaa
