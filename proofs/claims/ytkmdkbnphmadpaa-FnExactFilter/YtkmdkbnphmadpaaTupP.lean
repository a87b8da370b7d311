/- Tuples and supported values: lengths and bounds. -/
import Derived.Test.YtkmdkbnphmadpaaEnm
namespace Go.Proofs.Ytkmdkbnphmadpaa
open Go.ChangeShapes Go.WideShapes Go.ChangeAt Go.RowKit
set_option linter.unusedVariables false
set_option linter.unusedSimpArgs false

theorem vL_mem {d : Int} {k : Nat} {a : Int} (h : a ∈ vL d k) : 0 ≤ a ∧ a < k ∧ hasB d a = true := by
  induction k with
  | zero => simp [vL] at h
  | succ k ih =>
    rw [vL] at h
    rcases List.mem_append.1 h with h | h
    · have := ih h; exact ⟨this.1, by omega, this.2.2⟩
    · split at h
      · rename_i hk
        simp at h
        subst h
        exact ⟨by omega, by omega, hk⟩
      · simp at h
theorem tups_mem {ds : List Int} : ∀ {vs t : List Int}, t ∈ tups ds vs → t.length = vs.length ∧ ∀ x ∈ t, 0 ≤ x ∧ x ≤ 5
  | [], t, h => by simp [tups] at h; subst h; simp
  | v :: vs, t, h => by
    rw [tups, List.mem_flatMap] at h
    obtain ⟨a, ha, h⟩ := h
    obtain ⟨t', ht', rfl⟩ := List.mem_map.1 h
    have hi := tups_mem ht'
    have hv := vL_mem ha
    refine ⟨by simp [hi.1], fun x hx => ?_⟩
    rcases List.mem_cons.1 hx with rfl | hx
    · exact ⟨hv.1, by omega⟩
    · exact hi.2 x hx
theorem small_mem {xs : List Int} {lo hi : Int} : Small xs lo hi ↔ ∀ x ∈ xs, lo ≤ x ∧ x ≤ hi := by
  constructor
  · intro h x hx
    obtain ⟨j, hj, rfl⟩ := List.mem_iff_getElem.1 hx
    have := h j hj
    rw [List.getElem?_eq_getElem hj] at this
    simpa using this
  · intro h j hj
    rw [List.getElem?_eq_getElem hj]
    exact h _ (List.getElem_mem hj)
theorem foldl_sup (c : Con) : ∀ (T : List (List Int)) (acc : List Int), (∀ t ∈ T, t.length = acc.length ∧ Small t 0 5) → Small acc 0 63 → (T.foldl (supStep c) acc).length = acc.length ∧ Small (T.foldl (supStep c) acc) 0 63
  | [], acc, _, h => ⟨rfl, h⟩
  | t :: T, acc, hT, h => by
    have h0 := hT t (by simp)
    have hl := supStep_length (c := c) h0.1
    have := foldl_sup c T (supStep c acc t) (fun t' ht' => by rw [hl]; exact hT t' (by simp [ht'])) (supStep_small h0.1 h h0.2)
    rw [List.foldl_cons]
    exact ⟨this.1.trans hl, this.2⟩
theorem supL_facts (c : Con) (ds : List Int) : (supL c ds).length = c.vars.length ∧ Small (supL c ds) 0 63 := by
  have := foldl_sup c ((tups ds c.vars).map ([] ++ ·)) (List.replicate c.vars.length 0) (fun t ht => by
    obtain ⟨t', ht', rfl⟩ := List.mem_map.1 ht
    have := tups_mem ht'
    simpa [small_mem] using this) (by rw [small_mem]; intro x hx; have := (List.mem_replicate.1 hx).2; omega)
  simpa [supL, supP] using this
theorem putL_small {c : Con} {ds sup : List Int} (hd : Small ds 0 63) (hs : Small sup 0 63) (hl : sup.length = c.vars.length) : ∀ k, k ≤ c.vars.length → Small (putL c ds sup k) 0 63
  | 0, _ => hd
  | k + 1, hk => by
    have ih := putL_small hd hs hl k (by omega)
    rw [putL, small_mem]
    intro x hx
    rcases List.mem_or_eq_of_mem_set hx with h | h
    · exact small_mem.1 ih x h
    · subst h; exact hs k (by omega)
theorem filL_facts {c : Con} {ds : List Int} (hd : Small ds 0 63) : (filL c ds).length = ds.length ∧ Small (filL c ds) 0 63 :=
  ⟨putL_length _ _ _ _, putL_small hd (supL_facts c ds).2 (supL_facts c ds).1 _ (Nat.le_refl _)⟩
end Go.Proofs.Ytkmdkbnphmadpaa
