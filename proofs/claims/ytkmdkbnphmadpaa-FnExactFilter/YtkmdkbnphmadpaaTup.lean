/- Tuples of domains in lexicographic order, and the values that satisfying tuples support: plain facts. -/
import Derived.Test.YtkmdkbnphmadpaaSatU
namespace Go.Proofs.Ytkmdkbnphmadpaa
open Go.ChangeShapes Go.WideShapes Go.ChangeAt Go.RowKit
set_option linter.unusedVariables false
set_option linter.unusedSimpArgs false

/-- The values of d below k, ascending. -/
def vL (d : Int) : Nat → List Int
  | 0 => []
  | k + 1 => vL d k ++ if hasB d k then [(k : Int)] else []
/-- The tuples of the variables vs on the domains ds. -/
def tups (ds : List Int) : List Int → List (List Int)
  | [] => [[]]
  | v :: vs => (vL (ds[v.toNat]?.getD 0) 6).flatMap fun a => (tups ds vs).map (a :: ·)
/-- The value a put into the set d. -/
def addB (d a : Int) : Int := if hasB d a then d else d + 2 ^ a.toNat
/-- One tuple more: where it satisfies c its values are supported. -/
def supStep (c : Con) (acc t : List Int) : List Int := if satB c t then List.zipWith addB acc t else acc
/-- Those that begin with p. -/
def supP (c : Con) (ds p : List Int) (vs : List Int) (acc : List Int) : List Int := ((tups ds vs).map (p ++ ·)).foldl (supStep c) acc
/-- .. and go on with a value below k of the first variable left. -/
def supK (c : Con) (ds p : List Int) (v : Int) (vs : List Int) (acc : List Int) (k : Nat) : List Int :=
  ((vL (ds[v.toNat]?.getD 0) k).flatMap fun a => (tups ds vs).map (fun t => p ++ a :: t)).foldl (supStep c) acc

theorem supP_nil (c : Con) (ds p acc : List Int) : supP c ds p [] acc = supStep c acc p := by simp [supP, tups]
theorem supP_cons (c : Con) (ds p : List Int) (v : Int) (vs acc : List Int) : supP c ds p (v :: vs) acc = supK c ds p v vs acc 6 := by
  unfold supP supK
  rw [tups, List.map_flatMap]
  simp only [List.map_map]
  rfl
theorem supK_zero (c : Con) (ds p : List Int) (v : Int) (vs acc : List Int) : supK c ds p v vs acc 0 = acc := by simp [supK, vL]
theorem supK_skip (c : Con) (ds p : List Int) (v : Int) (vs acc : List Int) (k : Nat) (h : hasB (ds[v.toNat]?.getD 0) k = false) : supK c ds p v vs acc (k + 1) = supK c ds p v vs acc k := by simp [supK, vL, h]
theorem supK_more (c : Con) (ds p : List Int) (v : Int) (vs acc : List Int) (k : Nat) (h : hasB (ds[v.toNat]?.getD 0) k = true) : supK c ds p v vs acc (k + 1) = supP c ds (p ++ [(k : Int)]) vs (supK c ds p v vs acc k) := by
  unfold supK supP
  rw [vL, h, List.flatMap_append, List.foldl_append]
  simp
theorem addB_fin : ∀ d : Fin 64, ∀ a : Fin 6, 0 ≤ addB (d.val : Int) (a.val : Int) ∧ addB (d.val : Int) (a.val : Int) ≤ 63 := by decide +kernel
theorem addB_in {d a : Int} (h1 : 0 ≤ d) (h2 : d ≤ 63) (h3 : 0 ≤ a) (h4 : a ≤ 5) : 0 ≤ addB d a ∧ addB d a ≤ 63 := by
  have := addB_fin ⟨d.toNat, by omega⟩ ⟨a.toNat, by omega⟩
  simpa only [Int.toNat_of_nonneg h1, Int.toNat_of_nonneg h3] using this
theorem zip_length {acc t : List Int} (h : t.length = acc.length) : (List.zipWith addB acc t).length = acc.length := by simp [h]
theorem zip_at {acc t : List Int} (h : t.length = acc.length) {j : Nat} (hj : j < acc.length) : (List.zipWith addB acc t)[j]?.getD 0 = addB (acc[j]?.getD 0) (t[j]?.getD 0) := by
  rw [List.getElem?_zipWith]
  simp [hj, h]
theorem zip_small {acc t : List Int} (h : t.length = acc.length) (ha : Small acc 0 63) (ht : Small t 0 5) : Small (List.zipWith addB acc t) 0 63 := by
  intro j hj
  rw [zip_length h] at hj
  rw [zip_at h hj]
  have h1 := ha j hj
  have h2 := ht j (by omega)
  exact addB_in h1.1 h1.2 h2.1 h2.2
theorem supStep_length {c : Con} {acc t : List Int} (h : t.length = acc.length) : (supStep c acc t).length = acc.length := by
  unfold supStep; split
  · exact zip_length h
  · rfl
theorem supStep_small {c : Con} {acc t : List Int} (h : t.length = acc.length) (ha : Small acc 0 63) (ht : Small t 0 5) : Small (supStep c acc t) 0 63 := by
  unfold supStep; split
  · exact zip_small h ha ht
  · exact ha
/-- The first j values of t have been added. -/
def zipS (acc t : List Int) (j : Nat) : List Int := (List.zipWith addB acc t).take j ++ acc.drop j
theorem zipS_zero (acc t : List Int) : zipS acc t 0 = acc := by simp [zipS]
theorem zipS_all {acc t : List Int} (h : t.length = acc.length) : zipS acc t acc.length = List.zipWith addB acc t := by
  unfold zipS
  rw [List.take_of_length_le (by rw [zip_length h]; exact Nat.le_refl _), List.drop_length, List.append_nil]
theorem zipS_length {acc t : List Int} (h : t.length = acc.length) {j : Nat} (hj : j ≤ acc.length) : (zipS acc t j).length = acc.length := by
  unfold zipS
  rw [List.length_append, List.length_take, zip_length h, List.length_drop]; omega
theorem zipS_at {acc t : List Int} (h : t.length = acc.length) {j : Nat} (hj : j < acc.length) : (zipS acc t j)[j]?.getD 0 = acc[j]?.getD 0 := by
  unfold zipS
  rw [List.getElem?_append_right (by rw [List.length_take, zip_length h]; omega), List.length_take, zip_length h, Nat.min_eq_left (by omega), Nat.sub_self, List.getElem?_drop, Nat.add_zero]
theorem zipS_step {acc t : List Int} (h : t.length = acc.length) {j : Nat} (hj : j < acc.length) : zipS acc t (j + 1) = (zipS acc t j).set j (addB (acc[j]?.getD 0) (t[j]?.getD 0)) := by
  unfold zipS
  have hz := zip_length h
  rw [List.set_append_right _ _ (by rw [List.length_take, hz]; omega), List.length_take, hz, Nat.min_eq_left (by omega), Nat.sub_self, List.take_succ_eq_append_getElem (by omega), List.append_assoc]
  congr 1
  rw [List.drop_eq_getElem_cons hj, List.set_cons_zero, List.cons_append, List.nil_append]
  congr 1
  have := zip_at h hj
  rw [List.getElem?_eq_getElem (by omega)] at this
  simpa using this
theorem zipS_same {acc t : List Int} (h : t.length = acc.length) {j : Nat} (hj : j < acc.length) (hh : hasB (acc[j]?.getD 0) (t[j]?.getD 0) = true) : zipS acc t (j + 1) = zipS acc t j := by
  rw [zipS_step h hj]
  unfold addB
  rw [if_pos hh, ← zipS_at h hj]
  have hl : j < (zipS acc t j).length := by rw [zipS_length h (by omega)]; exact hj
  rw [List.getElem?_eq_getElem hl]
  simp
theorem shl_add_fin : ∀ d : Fin 64, ∀ a : Fin 6, hasB (d.val : Int) (a.val : Int) = false → wrap64 ((d.val : Int) + wrap64 (2 ^ a.val)) = addB (d.val : Int) (a.val : Int) := by decide +kernel
theorem shl_add {d : Int} {a : Nat} (h1 : 0 ≤ d) (h2 : d ≤ 63) (h4 : a ≤ 5) (hh : hasB d a = false) : wrap64 (d + wrap64 (2 ^ a)) = addB d a := by
  have := shl_add_fin ⟨d.toNat, by omega⟩ ⟨a, by omega⟩
  simp only [Int.toNat_of_nonneg h1] at this
  exact this hh
end Go.Proofs.Ytkmdkbnphmadpaa
