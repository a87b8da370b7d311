/- One test of satisfaction for both packages. -/
import Derived.Test.YtipapmmjfoaddaaGreatSatS
import Derived.Test.YtipapmmjfoaddaaGreatSatI
import Derived.Test.YtipapmmjfoaddaaGreatSatJ
namespace Go.Proofs.YtipapmmjfoaddaaGreat
open Go.ChangeShapes Go.WideShapes Go.ChangeAt Go.RowKit
set_option linter.unusedVariables false
set_option linter.unusedSimpArgs false

/-- Task i runs at time t. -/
def RunAt (ar xs : List Int) (t : Int) (i : Nat) : Prop := xs[i]?.getD 0 ≤ t ∧ t < xs[i]?.getD 0 + ar[i]?.getD 0
theorem load_zero {ar xs : List Int} {n : Nat} {t : Int} (k : Nat) (h : ∀ i, i < k → ¬ RunAt ar xs t i) : loadS ar xs n t k = 0 := by
  induction k with
  | zero => rfl
  | succ k ih => rw [loadS_no (h k (by omega)), ih (fun i hi => h i (by omega))]
theorem load_mono {ar xs : List Int} {n : Nat} (ha : Small ar 0 9) (hl : ar.length = 2 * n) {t s : Int} (k : Nat) (hk : k ≤ n) (h : ∀ i, i < k → RunAt ar xs t i → RunAt ar xs s i) : loadS ar xs n t k ≤ loadS ar xs n s k := by
  induction k with
  | zero => exact Int.le_refl _
  | succ k ih =>
    have i := ih (by omega) (fun i hi => h i (by omega))
    have a := ha (n + k) (by omega)
    by_cases ht : RunAt ar xs t k
    · have hs := h k (by omega) ht
      rw [loadS_yes ht.1 ht.2, loadS_yes hs.1 hs.2]
      omega
    · rw [loadS_no ht]
      by_cases hs : RunAt ar xs s k
      · rw [loadS_yes hs.1 hs.2]; omega
      · rw [loadS_no hs]; exact i
theorem max_run (ar xs : List Int) (t : Int) (k : Nat) : (∀ i, i < k → ¬ RunAt ar xs t i) ∨ ∃ j, j < k ∧ RunAt ar xs t j ∧ ∀ i, i < k → RunAt ar xs t i → xs[i]?.getD 0 ≤ xs[j]?.getD 0 := by
  induction k with
  | zero => exact .inl fun i hi => by omega
  | succ k ih =>
    by_cases hk : RunAt ar xs t k
    · right
      rcases ih with ih | ⟨j, hj, hr, hm⟩
      · exact ⟨k, by omega, hk, fun i hi hr => by by_cases e : i = k; (· subst e; exact Int.le_refl _); (· exact (ih i (by omega) hr).elim)⟩
      · by_cases hc : xs[j]?.getD 0 ≤ xs[k]?.getD 0
        · exact ⟨k, by omega, hk, fun i hi hr => by by_cases e : i = k; (· subst e; exact Int.le_refl _); (· exact Int.le_trans (hm i (by omega) hr) hc)⟩
        · exact ⟨j, by omega, hr, fun i hi hr => by by_cases e : i = k; (· subst e; omega); (· exact hm i (by omega) hr)⟩
    · rcases ih with ih | ⟨j, hj, hr, hm⟩
      · exact .inl fun i hi => by by_cases e : i = k; (· subst e; exact hk); (· exact ih i (by omega))
      · exact .inr ⟨j, by omega, hr, fun i hi hr => by by_cases e : i = k; (· subst e; exact (hk hr).elim); (· exact hm i (by omega) hr)⟩
theorem cap_eq {ar xs : List Int} {bound : Int} (ha : Small ar 0 9) (hl : ar.length = 2 * xs.length) (hv : Small xs 0 5) (hb : 0 ≤ bound) :
    (decide (∀ t : Nat, t < 15 → loadS ar xs xs.length t xs.length ≤ bound)) = (decide (∀ j : Nat, j < xs.length → loadS ar xs xs.length (xs[j]?.getD 0) xs.length ≤ bound)) := by
  apply decide_eq_decide.2
  constructor
  · intro h j hj
    have := hv j hj
    have g := h (xs[j]?.getD 0).toNat (by omega)
    rwa [Int.toNat_of_nonneg this.1] at g
  · intro h t _
    rcases max_run ar xs t xs.length with h0 | ⟨j, hj, hr, hm⟩
    · rw [load_zero _ h0]; exact hb
    · refine Int.le_trans (load_mono ha hl xs.length (Nat.le_refl _) fun i hi hri => ⟨hm i hi hri, ?_⟩) (h j hj)
      have := hri.2
      have := hr.1
      omega

theorem circ1 : ∀ a : Fin 6, goS [(a.val : Int)] 0 1 1 = (allB [(a.val : Int)] 0 0 && goI [(a.val : Int)] a.val 1 0) := by decide +kernel
theorem circ2 : ∀ a b : Fin 6, goS [(a.val : Int), (b.val : Int)] 0 1 2 = (allB [(a.val : Int), (b.val : Int)] 0 1 && goI [(a.val : Int), (b.val : Int)] a.val 1 1) := by decide +kernel
theorem circ3 : ∀ a b c : Fin 6, goS [(a.val : Int), (b.val : Int), (c.val : Int)] 0 1 3 = (allB [(a.val : Int), (b.val : Int), (c.val : Int)] 0 2 && goI [(a.val : Int), (b.val : Int), (c.val : Int)] a.val 1 2) := by decide +kernel
set_option maxRecDepth 100000 in
theorem circ4 : ∀ a b c d : Fin 6, goS [(a.val : Int), (b.val : Int), (c.val : Int), (d.val : Int)] 0 1 4 = (allB [(a.val : Int), (b.val : Int), (c.val : Int), (d.val : Int)] 0 3 && goI [(a.val : Int), (b.val : Int), (c.val : Int), (d.val : Int)] a.val 1 3) := by decide +kernel
theorem fin6 {a : Int} (h : 0 ≤ a ∧ a ≤ 5) : ∃ f : Fin 6, a = (f.val : Int) := ⟨⟨a.toNat, by omega⟩, by simp; omega⟩
theorem circ_eq (x : List Int) (h1 : 1 ≤ x.length) (h4 : x.length ≤ 4) (hv : Small x 0 5) : goS x 0 1 x.length = (allB x 0 (x.length - 1) && goI x (x[0]?.getD 0).toNat 1 (x.length - 1)) := by
  match x, h1, h4, hv with
  | [a], _, _, hv =>
    obtain ⟨a, rfl⟩ := fin6 (hv 0 (by simp))
    exact circ1 a
  | [a, b], _, _, hv =>
    obtain ⟨a, rfl⟩ := fin6 (hv 0 (by simp))
    obtain ⟨b, rfl⟩ := fin6 (hv 1 (by simp))
    exact circ2 a b
  | [a, b, c], _, _, hv =>
    obtain ⟨a, rfl⟩ := fin6 (hv 0 (by simp))
    obtain ⟨b, rfl⟩ := fin6 (hv 1 (by simp))
    obtain ⟨c, rfl⟩ := fin6 (hv 2 (by simp))
    exact circ3 a b c
  | [a, b, c, d], _, _, hv =>
    obtain ⟨a, rfl⟩ := fin6 (hv 0 (by simp))
    obtain ⟨b, rfl⟩ := fin6 (hv 1 (by simp))
    obtain ⟨c, rfl⟩ := fin6 (hv 2 (by simp))
    obtain ⟨d, rfl⟩ := fin6 (hv 3 (by simp))
    exact circ4 a b c d

/-- The values x satisfy c. -/
def satB (c : Con) (x : List Int) : Bool :=
  if c.kind = 1 then decide (linS c.args x x.length ≤ c.bound)
  else if c.kind = 2 then x[0]?.getD 0 != x[1]?.getD 0 + c.args[0]?.getD 0
  else if c.kind = 3 then dstB x
  else if c.kind = 4 then decide (x[0]?.getD 0 < (c.args.length : Int)) && (c.args[(x[0]?.getD 0).toNat]?.getD 0 == x[1]?.getD 0)
  else if c.kind = 5 then decide (x ∈ c.rows)
  else if c.kind = 6 then cntS (c.args[0]?.getD 0) x x.length == c.bound
  else if c.kind = 7 then decide (∀ t : Nat, t < 15 → loadS c.args x x.length t x.length ≤ c.bound)
  else if c.kind = 8 then decide (∀ j : Nat, j ≤ x.length → 0 ≤ runS c.rows x j) && decide (runS c.rows x x.length ∈ c.args)
  else goS x 0 1 x.length

theorem small_of {xs : List Int} {lo hi : Int} (h : allB xs lo hi = true) : Small xs lo hi := fun j hj => allB_at h hj

/-- What the requirements of the kinds say. -/
theorem kind_cases {c : Con} (h : kindB c = true) :
    (c.kind = 1 ∧ c.args.length = c.vars.length ∧ Small c.args (-9) 9) ∨
    (c.kind = 2 ∧ c.vars.length = 2 ∧ c.args.length = 1 ∧ Small c.args (-9) 9) ∨
    c.kind = 3 ∨
    (c.kind = 4 ∧ c.vars.length = 2 ∧ c.args.length ≤ 6) ∨
    (c.kind = 5 ∧ ∀ j, j < c.rows.length → (c.rows[j]?.getD []).length = c.vars.length) ∨
    (c.kind = 6 ∧ c.args.length = 1) ∨
    (c.kind = 7 ∧ c.args.length = 2 * c.vars.length ∧ Small c.args 0 9 ∧ 0 ≤ c.bound) ∨
    (c.kind = 8 ∧ (1 ≤ c.rows.length ∧ c.rows.length ≤ 8) ∧ ∀ j, j < c.rows.length → (c.rows[j]?.getD []).length = 6 ∧ Small (c.rows[j]?.getD []) (-1) (c.rows.length - 1)) ∨
    c.kind = 9 := by
  have hrows : ∀ {rows : List (List Int)} {n lo hi : Int}, rowsB rows n lo hi = true → ∀ j, j < rows.length → ((rows[j]?.getD []).length : Int) = n ∧ Small (rows[j]?.getD []) lo hi := by
    intro rows n lo hi h j hj
    unfold rowsB at h
    rw [List.all_eq_true] at h
    have := h _ (List.getElem_mem hj)
    simp at this
    rw [List.getElem?_eq_getElem hj]
    exact ⟨this.1, small_of this.2⟩
  unfold kindB at h
  split at h
  · simp at h; exact .inl ⟨by assumption, by omega, small_of h.1.1.2⟩
  split at h
  · simp at h; exact .inr (.inl ⟨by assumption, by omega, by omega, small_of h.1.1.2⟩)
  split at h
  · exact .inr (.inr (.inl (by assumption)))
  split at h
  · simp at h; exact .inr (.inr (.inr (.inl ⟨by assumption, by omega, by have := wiB_in h.1.1.1.2; omega⟩)))
  split at h
  · simp at h; exact .inr (.inr (.inr (.inr (.inl ⟨by assumption, fun j hj => by have := (hrows h.2.1 j hj).1; omega⟩))))
  split at h
  · simp at h; exact .inr (.inr (.inr (.inr (.inr (.inl ⟨by assumption, by omega⟩)))))
  split at h
  · simp at h; exact .inr (.inr (.inr (.inr (.inr (.inr (.inl ⟨by assumption, by omega, small_of h.1.1.2, by have := wiB_in h.1.2; omega⟩))))))
  split at h
  · simp at h; exact .inr (.inr (.inr (.inr (.inr (.inr (.inr (.inl ⟨by assumption, by have := wiB_in h.1.1.1.2; omega, fun j hj => by have := hrows h.1.1.1.1 j hj; exact ⟨by omega, this.2⟩⟩)))))))
  split at h
  · exact .inr (.inr (.inr (.inr (.inr (.inr (.inr (.inr (by assumption))))))))
  · simp at h

/-- What a valid constraint and the values of its variables meet. -/
structure Fit (c : Con) (x : List Int) : Prop where
  kind : kindB c = true
  len : x.length = c.vars.length
  one : 1 ≤ x.length
  four : x.length ≤ 4
  small : Small x 0 5
  all : allB x 0 5 = true

theorem ssat_any (c : Con) (cv xv : Value) (x : List Int) (w : World) (h : RdCon w cv c) (hx : RdInts w xv x) (f : Fit c x) :
    Calls Tryz.prog 180 #[cv, xv] w (BoolPost (satB c x) w) := by
  obtain ⟨hk, hl, h1, h4, hs, ha⟩ := f
  unfold satB
  rcases kind_cases hk with ⟨k, e1, e2⟩ | ⟨k, e1, e2, e3⟩ | k | ⟨k, e1, e2⟩ | ⟨k, e1⟩ | ⟨k, e1⟩ | ⟨k, e1, e2, e3⟩ | ⟨k, e1, e2⟩ | k
  · rw [if_pos k]; exact ssat1 c cv xv x w h hx k (by omega) h4 e2 hs
  · rw [if_neg (by omega), if_pos k]; exact ssat2 c cv xv x w h hx k e2 (by omega) e3 hs
  · rw [if_neg (by omega), if_neg (by omega), if_pos k]; exact ssat3 c cv xv x w h hx k
  · rw [if_neg (by omega), if_neg (by omega), if_neg (by omega), if_pos k]; exact ssat4 c cv xv x w h hx k e2 (by omega) hs
  · rw [if_neg (by omega), if_neg (by omega), if_neg (by omega), if_neg (by omega), if_pos k]; exact ssat5 c cv xv x w h hx k (fun j hj => by rw [e1 j hj, hl])
  · rw [if_neg (by omega), if_neg (by omega), if_neg (by omega), if_neg (by omega), if_neg (by omega), if_pos k]; exact ssat6 c cv xv x w h hx k e1 h4
  · rw [if_neg (by omega), if_neg (by omega), if_neg (by omega), if_neg (by omega), if_neg (by omega), if_neg (by omega), if_pos k]; exact ssat7 c cv xv x w h hx k (by omega) h4 e2 hs
  · rw [if_neg (by omega), if_neg (by omega), if_neg (by omega), if_neg (by omega), if_neg (by omega), if_neg (by omega), if_neg (by omega), if_pos k]; exact ssat8 c cv xv x w h hx k e1 h4 e2 hs
  · rw [if_neg (by omega), if_neg (by omega), if_neg (by omega), if_neg (by omega), if_neg (by omega), if_neg (by omega), if_neg (by omega), if_neg (by omega)]; exact ssat9 c cv xv x w h hx k h1 h4 hs

end Go.Proofs.YtipapmmjfoaddaaGreat
