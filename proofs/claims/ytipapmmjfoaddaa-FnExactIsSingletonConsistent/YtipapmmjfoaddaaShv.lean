/- Probing, shaving and bounds consistency as steps that only remove values: plain facts. -/
import Derived.Test.YtipapmmjfoaddaaFxp
namespace Go.Proofs.Ytipapmmjfoaddaa
open Go.ChangeShapes Go.WideShapes Go.ChangeAt Go.RowKit
set_option linter.unusedVariables false
set_option linter.unusedSimpArgs false

/-- The domain of the values that q holds of. -/
def setB (q : Int → Bool) : Int := (if q 0 then 1 else 0) + (if q 1 then 2 else 0) + (if q 2 then 4 else 0) + (if q 3 then 8 else 0) + (if q 4 then 16 else 0) + (if q 5 then 32 else 0)
theorem setB_fin : ∀ b0 b1 b2 b3 b4 b5 : Bool, ∀ u : Fin 6, hasB ((if b0 then 1 else 0) + (if b1 then 2 else 0) + (if b2 then 4 else 0) + (if b3 then 8 else 0) + (if b4 then 16 else 0) + (if b5 then 32 else 0)) (u.val : Int) = (match u.val with | 0 => b0 | 1 => b1 | 2 => b2 | 3 => b3 | 4 => b4 | _ => b5) := by decide +kernel
theorem setB_rng (q : Int → Bool) : 0 ≤ setB q ∧ setB q ≤ 63 := by
  unfold setB
  constructor <;> (repeat' split) <;> omega
theorem setB_has (q : Int → Bool) {u : Int} (h0 : 0 ≤ u) (h5 : u ≤ 5) : hasB (setB q) u = q u := by
  have h : u = 0 ∨ u = 1 ∨ u = 2 ∨ u = 3 ∨ u = 4 ∨ u = 5 := by omega
  unfold setB
  rcases h with rfl | rfl | rfl | rfl | rfl | rfl
  · exact setB_fin (q 0) (q 1) (q 2) (q 3) (q 4) (q 5) 0
  · exact setB_fin (q 0) (q 1) (q 2) (q 3) (q 4) (q 5) 1
  · exact setB_fin (q 0) (q 1) (q 2) (q 3) (q 4) (q 5) 2
  · exact setB_fin (q 0) (q 1) (q 2) (q 3) (q 4) (q 5) 3
  · exact setB_fin (q 0) (q 1) (q 2) (q 3) (q 4) (q 5) 4
  · exact setB_fin (q 0) (q 1) (q 2) (q 3) (q 4) (q 5) 5
theorem setB_iff (q : Int → Bool) (u : Int) : hasB (setB q) u = true ↔ (0 ≤ u ∧ u ≤ 5) ∧ q u = true := by
  constructor
  · intro h
    have hr := hasB_range h
    rw [setB_has q hr.1 hr.2] at h
    exact ⟨hr, h⟩
  · rintro ⟨hr, h⟩
    rw [setB_has q hr.1 hr.2]
    exact h
/-- A domain is the one of q if it has the same values. -/
theorem eq_setB {d : Int} {q : Int → Bool} (h0 : 0 ≤ d) (h1 : d ≤ 63) (h : ∀ u : Int, 0 ≤ u → u ≤ 5 → hasB d u = q u) : d = setB q :=
  hasB_ext h0 h1 (setB_rng q).1 (setB_rng q).2 (fun a => by
    rw [setB_iff]
    constructor
    · intro ha
      have hr := hasB_range ha
      exact ⟨hr, by rw [← h a hr.1 hr.2]; exact ha⟩
    · rintro ⟨hr, ha⟩
      rw [h a hr.1 hr.2]
      exact ha)

/-- The domain without all values but a. -/
def fixB (d : Int) (a : Nat) : Int := if hasB d a then 2 ^ a else 0
/-- The domains with that of v restricted to a. -/
def fixL (p : List Int) (v a : Nat) : List Int := p.set v (fixB (p[v]?.getD 0) a)
theorem fixB_fin : ∀ d : Fin 64, ∀ a u : Fin 6, hasB (fixB (d.val : Int) a.val) (u.val : Int) = (hasB (d.val : Int) (u.val : Int) && decide (u.val = a.val)) ∧ 0 ≤ fixB (d.val : Int) a.val ∧ fixB (d.val : Int) a.val ≤ 63 ∧ bits .and .i64 (d.val : Int) (wrap64 (2 ^ a.val)) = fixB (d.val : Int) a.val := by decide +kernel
theorem fixB_has {d : Int} {a : Nat} (h0 : 0 ≤ d) (h1 : d ≤ 63) (ha : a < 6) (u : Int) : hasB (fixB d a) u = true ↔ hasB d u = true ∧ u = a := by
  obtain ⟨d, rfl⟩ := Int.eq_ofNat_of_zero_le h0
  by_cases hu : 0 ≤ u ∧ u ≤ 5
  · obtain ⟨u, rfl⟩ := Int.eq_ofNat_of_zero_le hu.1
    have := (fixB_fin ⟨d, by omega⟩ ⟨a, ha⟩ ⟨u, by omega⟩).1
    simp only at this
    rw [this, Bool.and_eq_true, decide_eq_true_iff]
    constructor
    · rintro ⟨h, e⟩; exact ⟨h, by rw [e]⟩
    · rintro ⟨h, e⟩; exact ⟨h, by omega⟩
  · constructor
    · intro h; exact absurd (hasB_range h) hu
    · rintro ⟨h, _⟩; exact absurd (hasB_range h) hu
theorem fixB_rng {d : Int} {a : Nat} (h0 : 0 ≤ d) (h1 : d ≤ 63) (ha : a < 6) : 0 ≤ fixB d a ∧ fixB d a ≤ 63 ∧ bits .and .i64 d (wrap64 (2 ^ a)) = fixB d a := by
  obtain ⟨d, rfl⟩ := Int.eq_ofNat_of_zero_le h0
  exact (fixB_fin ⟨d, by omega⟩ ⟨a, ha⟩ 0).2
theorem setD_domN {n : Nat} {d : List Int} (h : DomN n d) (v : Nat) {x : Int} (h0 : 0 ≤ x) (h1 : x ≤ 63) : DomN n (d.set v x) := by
  refine ⟨by rw [List.length_set, h.len], fun j hj => ?_⟩
  rw [List.length_set] at hj
  by_cases e : v = j
  · subst e
    rw [List.getElem?_set_self hj]
    exact ⟨h0, h1⟩
  · rw [List.getElem?_set_ne e]
    exact h.small j hj
theorem setD_le {d : List Int} {v : Nat} {x : Int} (hx : ∀ a, hasB x a = true → hasB (d[v]?.getD 0) a = true) : leD (d.set v x) d := by
  intro j a ha
  by_cases e : v = j
  · subst e
    by_cases hj : v < d.length
    · rw [List.getElem?_set_self hj] at ha
      exact hx a ha
    · rw [List.set_eq_of_length_le (by omega)] at ha
      exact ha
  · rw [List.getElem?_set_ne e] at ha
    exact ha
theorem setD_leBoth {e d : List Int} (hl : e.length = d.length) (h : leD e d) {v : Nat} {x y : Int} (hx : ∀ a, hasB x a = true → hasB y a = true) : leD (e.set v x) (d.set v y) := by
  intro j a ha
  by_cases eq : v = j
  · subst eq
    by_cases hj : v < d.length
    · rw [List.getElem?_set_self (by omega)] at ha
      rw [List.getElem?_set_self hj]
      exact hx a ha
    · rw [List.set_eq_of_length_le (by omega)] at ha ⊢
      exact h v a ha
  · rw [List.getElem?_set_ne eq] at ha ⊢
    exact h j a ha
theorem fixL_domN {n : Nat} {d : List Int} {v a : Nat} (h : DomN n d) (hv : v < n) (ha : a < 6) : DomN n (fixL d v a) := by
  have hs := h.small v (by rw [h.len]; exact hv)
  have := fixB_rng hs.1 hs.2 ha
  exact setD_domN h v this.1 this.2.1
theorem fixL_mono {n : Nat} {e d : List Int} {v a : Nat} (he : DomN n e) (hd : DomN n d) (hl : leD e d) (hv : v < n) (ha : a < 6) : leD (fixL e v a) (fixL d v a) := by
  have h1 := he.small v (by rw [he.len]; exact hv)
  have h2 := hd.small v (by rw [hd.len]; exact hv)
  refine setD_leBoth (he.len.trans hd.len.symm) hl fun u hu => ?_
  rw [fixB_has h1.1 h1.2 ha] at hu
  rw [fixB_has h2.1 h2.2 ha]
  exact ⟨hl _ _ hu.1, hu.2⟩
/-- Does the probe of a leave nothing? -/
def failB (cs : List Con) (d : List Int) (v a : Nat) : Bool := emptyB (proL cs (fixL d v a))
/-- The values of v whose probe leaves something. -/
def keepI (cs : List Con) (d : List Int) (v : Nat) : Int := setB fun u => hasB (d[v]?.getD 0) u && !failB cs d v u.toNat
/-- One variable shaved. -/
def shvV (cs : List Con) (v : Nat) (d : List Int) : List Int := d.set v (keepI cs d v)
theorem shvV_step {cs : List Con} {n v : Nat} (hv : ∀ c ∈ cs, VarsOk c n) (hn : v < n) : StepD n (shvV cs v) := by
  refine ⟨fun d h => setD_domN h v (setB_rng _).1 (setB_rng _).2, fun d h => setD_le fun a ha => ?_, fun e d he hd hl => setD_leBoth (he.len.trans hd.len.symm) hl fun a ha => ?_⟩
  · unfold keepI at ha
    rw [setB_iff, Bool.and_eq_true] at ha
    exact ha.2.1
  · unfold keepI at ha ⊢
    rw [setB_iff, Bool.and_eq_true] at ha ⊢
    refine ⟨ha.1, hl _ _ ha.2.1, ?_⟩
    have ha6 : a.toNat < 6 := by omega
    cases hf : failB cs d v a.toNat
    · rfl
    · exfalso
      have hm := (pro_step hv).mono _ _ (fixL_domN he hn ha6) (fixL_domN hd hn ha6) (fixL_mono he hd hl hn ha6)
      have := emptyN_le ((pro_step hv).ok _ (fixL_domN he hn ha6)) ((pro_step hv).ok _ (fixL_domN hd hn ha6)) hm hf
      have h2 := ha.2.2
      unfold failB at h2
      rw [this] at h2
      cases h2
/-- The steps of shaving. -/
def shF (cs : List Con) (n : Nat) : List (List Int → List Int) := proL cs :: (List.range n).map (shvV cs)
theorem shF_steps {cs : List Con} {n : Nat} (hv : ∀ c ∈ cs, VarsOk c n) : ∀ f ∈ shF cs n, StepD n f := by
  intro f hf
  rcases List.mem_cons.1 hf with rfl | hf
  · exact pro_step hv
  · obtain ⟨v, hm, rfl⟩ := List.mem_map.1 hf
    exact shvV_step hv (List.mem_range.1 hm)
/-- What Shave leaves. -/
def shvL (cs : List Con) (d : List Int) : List Int := fxF (shF cs d.length) d

/-- Does u lie between two values of d? -/
def hullB (d : Int) (u : Int) : Bool := (List.range 6).any (fun (a : Nat) => hasB d a && decide ((a : Int) ≤ u)) && (List.range 6).any (fun (a : Nat) => hasB d a && decide (u ≤ (a : Int)))
theorem hullB_mono {e d : Int} (h : ∀ a, hasB e a = true → hasB d a = true) {u : Int} (hu : hullB e u = true) : hullB d u = true := by
  unfold hullB at hu ⊢
  rw [Bool.and_eq_true, List.any_eq_true, List.any_eq_true] at hu ⊢
  obtain ⟨⟨a, ha, h1⟩, b, hb, h2⟩ := hu
  rw [Bool.and_eq_true] at h1 h2
  exact ⟨⟨a, ha, by rw [Bool.and_eq_true]; exact ⟨h _ h1.1, h1.2⟩⟩, b, hb, by rw [Bool.and_eq_true]; exact ⟨h _ h2.1, h2.2⟩⟩
/-- The values of d between two values of k. -/
def trmI (d k : Int) : Int := setB fun u => hasB d u && hullB k u
/-- All domains trimmed by one constraint. -/
def trmL (c : Con) (d : List Int) : List Int := List.zipWith trmI d (filL c d)
theorem trmL_length {c : Con} {n : Nat} {d : List Int} (h : DomN n d) : (trmL c d).length = n := by
  unfold trmL
  rw [List.length_zipWith, (filL_facts (c := c) h.small).1, h.len, Nat.min_self]
theorem trmL_at {c : Con} {n : Nat} {d : List Int} (h : DomN n d) {v : Nat} (hv : v < n) : (trmL c d)[v]?.getD 0 = trmI (d[v]?.getD 0) ((filL c d)[v]?.getD 0) := by
  have h1 : v < d.length := by rw [h.len]; exact hv
  have h2 : v < (filL c d).length := by rw [(filL_facts (c := c) h.small).1]; exact h1
  unfold trmL
  rw [List.getElem?_zipWith, List.getElem?_eq_getElem h1, List.getElem?_eq_getElem h2]
  rfl
theorem leD_of {n : Nat} {e d : List Int} (he : e.length = n) (h : ∀ v, v < n → ∀ a, hasB (e[v]?.getD 0) a = true → hasB (d[v]?.getD 0) a = true) : leD e d := by
  intro v a ha
  by_cases hv : v < n
  · exact h v hv a ha
  · rw [List.getElem?_eq_none (by omega), show ((none : Option Int).getD 0) = 0 from rfl, hasB_zero] at ha
    cases ha
theorem trm_step {c : Con} {n : Nat} (hv : VarsOk c n) : StepD n (trmL c) := by
  refine ⟨fun d h => ⟨trmL_length h, fun j hj => ?_⟩, fun d h => leD_of (trmL_length h) fun v hn a ha => ?_, fun e d he hd hl => leD_of (trmL_length he) fun v hn a ha => ?_⟩
  · rw [trmL_length h] at hj
    rw [trmL_at h hj]
    exact setB_rng _
  · rw [trmL_at h hn] at ha
    unfold trmI at ha
    rw [setB_iff, Bool.and_eq_true] at ha
    exact ha.2.1
  · rw [trmL_at he hn] at ha
    rw [trmL_at hd hn]
    unfold trmI at ha ⊢
    rw [setB_iff, Bool.and_eq_true] at ha ⊢
    exact ⟨ha.1, hl _ _ ha.2.1, hullB_mono (fil_mono (by rw [he.len]; exact hv) (by rw [hd.len]; exact hv) hl v) ha.2.2⟩
/-- The steps of bounds consistency. -/
def bdF (cs : List Con) : List (List Int → List Int) := cs.map trmL
theorem bdF_steps {cs : List Con} {n : Nat} (hv : ∀ c ∈ cs, VarsOk c n) : ∀ f ∈ bdF cs, StepD n f := by
  intro f hf
  obtain ⟨c, hc, rfl⟩ := List.mem_map.1 hf
  exact trm_step (hv c hc)
/-- What BoundsPropagate leaves. -/
def bdsL (cs : List Con) (d : List Int) : List Int := fxF (bdF cs) d
end Go.Proofs.Ytipapmmjfoaddaa
