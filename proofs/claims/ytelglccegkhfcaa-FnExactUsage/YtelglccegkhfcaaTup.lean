/- Tuples of domains in lexicographic order, and the values that satisfying tuples support: plain facts. The reference's enumeration of the tuples of a constraint. Tuples and supported values: lengths and bounds. -/
import Derived.Test.YtelglccegkhfcaaSolA
import Derived.Deep.RegionWith

/-! Tuples of domains in lexicographic order, and the values that satisfying tuples support: plain facts. -/
namespace Go.Proofs.Ytelglccegkhfcaa
open Go.ChangeShapes Go.WideShapes Go.ChangeAt Go.RowKit
set_option linter.unusedVariables false
set_option linter.unusedSimpArgs false

/-- The values of d below k, ascending. -/
def vL (d : Int) : Nat → List Int
  | 0 => []
  | k + 1 => vL d k ++ if hasB d k then [(k : Int)] else []
/-- The tuples of the variables vs on the domains ds. -/
def tups (ds : List Int) : List Int → List (List Int)
  | [] => [[]]
  | v :: vs => (vL (ds[v.toNat]?.getD 0) 6).flatMap fun a => (tups ds vs).map (a :: ·)
/-- The value a put into the set d. -/
def addB (d a : Int) : Int := if hasB d a then d else d + 2 ^ a.toNat
/-- One tuple more: where it satisfies c its values are supported. -/
def supStep (c : Con) (acc t : List Int) : List Int := if satB c t then List.zipWith addB acc t else acc
/-- Those that begin with p. -/
def supP (c : Con) (ds p : List Int) (vs : List Int) (acc : List Int) : List Int := ((tups ds vs).map (p ++ ·)).foldl (supStep c) acc
/-- .. and go on with a value below k of the first variable left. -/
def supK (c : Con) (ds p : List Int) (v : Int) (vs : List Int) (acc : List Int) (k : Nat) : List Int :=
  ((vL (ds[v.toNat]?.getD 0) k).flatMap fun a => (tups ds vs).map (fun t => p ++ a :: t)).foldl (supStep c) acc

theorem supP_nil (c : Con) (ds p acc : List Int) : supP c ds p [] acc = supStep c acc p := by simp [supP, tups]
theorem supP_cons (c : Con) (ds p : List Int) (v : Int) (vs acc : List Int) : supP c ds p (v :: vs) acc = supK c ds p v vs acc 6 := by
  unfold supP supK
  rw [tups, List.map_flatMap]
  simp only [List.map_map]
  rfl
theorem supK_zero (c : Con) (ds p : List Int) (v : Int) (vs acc : List Int) : supK c ds p v vs acc 0 = acc := by simp [supK, vL]
theorem supK_skip (c : Con) (ds p : List Int) (v : Int) (vs acc : List Int) (k : Nat) (h : hasB (ds[v.toNat]?.getD 0) k = false) : supK c ds p v vs acc (k + 1) = supK c ds p v vs acc k := by simp [supK, vL, h]
theorem supK_more (c : Con) (ds p : List Int) (v : Int) (vs acc : List Int) (k : Nat) (h : hasB (ds[v.toNat]?.getD 0) k = true) : supK c ds p v vs acc (k + 1) = supP c ds (p ++ [(k : Int)]) vs (supK c ds p v vs acc k) := by
  unfold supK supP
  rw [vL, h, List.flatMap_append, List.foldl_append]
  simp
theorem addB_fin : ∀ d : Fin 64, ∀ a : Fin 6, 0 ≤ addB (d.val : Int) (a.val : Int) ∧ addB (d.val : Int) (a.val : Int) ≤ 63 := by decide +kernel
theorem addB_in {d a : Int} (h1 : 0 ≤ d) (h2 : d ≤ 63) (h3 : 0 ≤ a) (h4 : a ≤ 5) : 0 ≤ addB d a ∧ addB d a ≤ 63 := by
  have := addB_fin ⟨d.toNat, by omega⟩ ⟨a.toNat, by omega⟩
  simpa only [Int.toNat_of_nonneg h1, Int.toNat_of_nonneg h3] using this
theorem zip_length {acc t : List Int} (h : t.length = acc.length) : (List.zipWith addB acc t).length = acc.length := by simp [h]
theorem zip_at {acc t : List Int} (h : t.length = acc.length) {j : Nat} (hj : j < acc.length) : (List.zipWith addB acc t)[j]?.getD 0 = addB (acc[j]?.getD 0) (t[j]?.getD 0) := by
  rw [List.getElem?_zipWith]
  simp [hj, h]
theorem zip_small {acc t : List Int} (h : t.length = acc.length) (ha : Small acc 0 63) (ht : Small t 0 5) : Small (List.zipWith addB acc t) 0 63 := by
  intro j hj
  rw [zip_length h] at hj
  rw [zip_at h hj]
  have h1 := ha j hj
  have h2 := ht j (by omega)
  exact addB_in h1.1 h1.2 h2.1 h2.2
theorem supStep_length {c : Con} {acc t : List Int} (h : t.length = acc.length) : (supStep c acc t).length = acc.length := by
  unfold supStep; split
  · exact zip_length h
  · rfl
theorem supStep_small {c : Con} {acc t : List Int} (h : t.length = acc.length) (ha : Small acc 0 63) (ht : Small t 0 5) : Small (supStep c acc t) 0 63 := by
  unfold supStep; split
  · exact zip_small h ha ht
  · exact ha
/-- The first j values of t have been added. -/
def zipS (acc t : List Int) (j : Nat) : List Int := (List.zipWith addB acc t).take j ++ acc.drop j
theorem zipS_zero (acc t : List Int) : zipS acc t 0 = acc := by simp [zipS]
theorem zipS_all {acc t : List Int} (h : t.length = acc.length) : zipS acc t acc.length = List.zipWith addB acc t := by
  unfold zipS
  rw [List.take_of_length_le (by rw [zip_length h]; exact Nat.le_refl _), List.drop_length, List.append_nil]
theorem zipS_length {acc t : List Int} (h : t.length = acc.length) {j : Nat} (hj : j ≤ acc.length) : (zipS acc t j).length = acc.length := by
  unfold zipS
  rw [List.length_append, List.length_take, zip_length h, List.length_drop]; omega
theorem zipS_at {acc t : List Int} (h : t.length = acc.length) {j : Nat} (hj : j < acc.length) : (zipS acc t j)[j]?.getD 0 = acc[j]?.getD 0 := by
  unfold zipS
  rw [List.getElem?_append_right (by rw [List.length_take, zip_length h]; omega), List.length_take, zip_length h, Nat.min_eq_left (by omega), Nat.sub_self, List.getElem?_drop, Nat.add_zero]
theorem zipS_step {acc t : List Int} (h : t.length = acc.length) {j : Nat} (hj : j < acc.length) : zipS acc t (j + 1) = (zipS acc t j).set j (addB (acc[j]?.getD 0) (t[j]?.getD 0)) := by
  unfold zipS
  have hz := zip_length h
  rw [List.set_append_right _ _ (by rw [List.length_take, hz]; omega), List.length_take, hz, Nat.min_eq_left (by omega), Nat.sub_self, List.take_succ_eq_append_getElem (by omega), List.append_assoc]
  congr 1
  rw [List.drop_eq_getElem_cons hj, List.set_cons_zero, List.cons_append, List.nil_append]
  congr 1
  have := zip_at h hj
  rw [List.getElem?_eq_getElem (by omega)] at this
  simpa using this
theorem zipS_same {acc t : List Int} (h : t.length = acc.length) {j : Nat} (hj : j < acc.length) (hh : hasB (acc[j]?.getD 0) (t[j]?.getD 0) = true) : zipS acc t (j + 1) = zipS acc t j := by
  rw [zipS_step h hj]
  unfold addB
  rw [if_pos hh, ← zipS_at h hj]
  have hl : j < (zipS acc t j).length := by rw [zipS_length h (by omega)]; exact hj
  rw [List.getElem?_eq_getElem hl]
  simp
theorem shl_add_fin : ∀ d : Fin 64, ∀ a : Fin 6, hasB (d.val : Int) (a.val : Int) = false → wrap64 ((d.val : Int) + wrap64 (2 ^ a.val)) = addB (d.val : Int) (a.val : Int) := by decide +kernel
theorem shl_add {d : Int} {a : Nat} (h1 : 0 ≤ d) (h2 : d ≤ 63) (h4 : a ≤ 5) (hh : hasB d a = false) : wrap64 (d + wrap64 (2 ^ a)) = addB d a := by
  have := shl_add_fin ⟨d.toNat, by omega⟩ ⟨a, by omega⟩
  simp only [Int.toNat_of_nonneg h1] at this
  exact this hh
end Go.Proofs.Ytelglccegkhfcaa

/-! The reference's enumeration of the tuples of a constraint. -/
namespace Go.Proofs.Ytelglccegkhfcaa
open Go.ChangeShapes Go.WideShapes Go.ChangeAt Go.RowKit
set_option linter.unusedVariables false
set_option linter.unusedSimpArgs false
section
variable {w0 : World} {c : Con} {ds : List Int} {E bx bs n : Nat} {a2 a3 a5 da : Option Addr} {c2 c3 c5 dc : Nat} {xs acc : List Int} {W W' : World}
theorem drewN_below' (w : World) (k : Nat) : Below w.heap.size w (w.drewN k) := below_drewN' (Below.refl _ _) k
theorem grown_setCell (w : World) (b j : Nat) (u : Value) : w.grownBy (w.setCell ⟨b, j, none⟩ u) (some b) :=
  ⟨rfl, rfl, rfl, by simp, fun k _ hk => Below.heap_setCell _ _ _ k (fun e => hk (by rw [e]))⟩
end
/-- The supports of the tuples of c. -/
def supL (c : Con) (ds : List Int) : List Int := supP c ds [] c.vars (List.replicate c.vars.length 0)
/-- The domains ds with those of the first k variables of c replaced by their supports. -/
def putL (c : Con) (ds sup : List Int) : Nat → List Int
  | 0 => ds
  | k + 1 => (putL c ds sup k).set (c.vars[k]?.getD 0).toNat (sup[k]?.getD 0)
/-- What filtering leaves. -/
def filL (c : Con) (ds : List Int) : List Int := putL c ds (supL c ds) c.vars.length
theorem putL_length (c : Con) (ds sup : List Int) (k : Nat) : (putL c ds sup k).length = ds.length := by
  induction k with
  | zero => rfl
  | succ k ih => rw [putL, List.length_set, ih]
end Go.Proofs.Ytelglccegkhfcaa

/-! Tuples and supported values: lengths and bounds. -/
namespace Go.Proofs.Ytelglccegkhfcaa
open Go.ChangeShapes Go.WideShapes Go.ChangeAt Go.RowKit
set_option linter.unusedVariables false
set_option linter.unusedSimpArgs false

theorem vL_mem {d : Int} {k : Nat} {a : Int} (h : a ∈ vL d k) : 0 ≤ a ∧ a < k ∧ hasB d a = true := by
  induction k with
  | zero => simp [vL] at h
  | succ k ih =>
    rw [vL] at h
    rcases List.mem_append.1 h with h | h
    · have := ih h; exact ⟨this.1, by omega, this.2.2⟩
    · split at h
      · rename_i hk
        simp at h
        subst h
        exact ⟨by omega, by omega, hk⟩
      · simp at h
theorem tups_mem {ds : List Int} : ∀ {vs t : List Int}, t ∈ tups ds vs → t.length = vs.length ∧ ∀ x ∈ t, 0 ≤ x ∧ x ≤ 5
  | [], t, h => by simp [tups] at h; subst h; simp
  | v :: vs, t, h => by
    rw [tups, List.mem_flatMap] at h
    obtain ⟨a, ha, h⟩ := h
    obtain ⟨t', ht', rfl⟩ := List.mem_map.1 h
    have hi := tups_mem ht'
    have hv := vL_mem ha
    refine ⟨by simp [hi.1], fun x hx => ?_⟩
    rcases List.mem_cons.1 hx with rfl | hx
    · exact ⟨hv.1, by omega⟩
    · exact hi.2 x hx
theorem small_mem {xs : List Int} {lo hi : Int} : Small xs lo hi ↔ ∀ x ∈ xs, lo ≤ x ∧ x ≤ hi := by
  constructor
  · intro h x hx
    obtain ⟨j, hj, rfl⟩ := List.mem_iff_getElem.1 hx
    have := h j hj
    rw [List.getElem?_eq_getElem hj] at this
    simpa using this
  · intro h j hj
    rw [List.getElem?_eq_getElem hj]
    exact h _ (List.getElem_mem hj)
theorem foldl_sup (c : Con) : ∀ (T : List (List Int)) (acc : List Int), (∀ t ∈ T, t.length = acc.length ∧ Small t 0 5) → Small acc 0 63 → (T.foldl (supStep c) acc).length = acc.length ∧ Small (T.foldl (supStep c) acc) 0 63
  | [], acc, _, h => ⟨rfl, h⟩
  | t :: T, acc, hT, h => by
    have h0 := hT t (by simp)
    have hl := supStep_length (c := c) h0.1
    have := foldl_sup c T (supStep c acc t) (fun t' ht' => by rw [hl]; exact hT t' (by simp [ht'])) (supStep_small h0.1 h h0.2)
    rw [List.foldl_cons]
    exact ⟨this.1.trans hl, this.2⟩
theorem supL_facts (c : Con) (ds : List Int) : (supL c ds).length = c.vars.length ∧ Small (supL c ds) 0 63 := by
  have := foldl_sup c ((tups ds c.vars).map ([] ++ ·)) (List.replicate c.vars.length 0) (fun t ht => by
    obtain ⟨t', ht', rfl⟩ := List.mem_map.1 ht
    have := tups_mem ht'
    simpa [small_mem] using this) (by rw [small_mem]; intro x hx; have := (List.mem_replicate.1 hx).2; omega)
  simpa [supL, supP] using this
theorem putL_small {c : Con} {ds sup : List Int} (hd : Small ds 0 63) (hs : Small sup 0 63) (hl : sup.length = c.vars.length) : ∀ k, k ≤ c.vars.length → Small (putL c ds sup k) 0 63
  | 0, _ => hd
  | k + 1, hk => by
    have ih := putL_small hd hs hl k (by omega)
    rw [putL, small_mem]
    intro x hx
    rcases List.mem_or_eq_of_mem_set hx with h | h
    · exact small_mem.1 ih x h
    · subst h; exact hs k (by omega)
theorem filL_facts {c : Con} {ds : List Int} (hd : Small ds 0 63) : (filL c ds).length = ds.length ∧ Small (filL c ds) 0 63 :=
  ⟨putL_length _ _ _ _, putL_small hd (supL_facts c ds).2 (supL_facts c ds).1 _ (Nat.le_refl _)⟩
end Go.Proofs.Ytelglccegkhfcaa
