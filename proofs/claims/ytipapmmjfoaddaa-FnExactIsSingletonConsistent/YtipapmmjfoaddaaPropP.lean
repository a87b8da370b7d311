/- Filtering and its fixpoints: plain facts. -/
import Derived.Test.YtipapmmjfoaddaaSupS
namespace Go.Proofs.Ytipapmmjfoaddaa
open Go.ChangeShapes Go.WideShapes Go.ChangeAt Go.RowKit
set_option linter.unusedVariables false
set_option linter.unusedSimpArgs false

theorem hasB_ext_fin : ∀ d e : Fin 64, (∀ a : Fin 6, hasB (d.val : Int) (a.val : Int) = hasB (e.val : Int) (a.val : Int)) → d = e := by decide +kernel
theorem hasB_range {d a : Int} (h : hasB d a = true) : 0 ≤ a ∧ a ≤ 5 := by
  unfold hasB at h
  have := of_decide_eq_true h
  omega
theorem hasB_ext {d e : Int} (h1 : 0 ≤ d) (h2 : d ≤ 63) (h3 : 0 ≤ e) (h4 : e ≤ 63) (h : ∀ a, hasB d a = true ↔ hasB e a = true) : d = e := by
  have := hasB_ext_fin ⟨d.toNat, by omega⟩ ⟨e.toNat, by omega⟩ (fun a => by
    simp only [Int.toNat_of_nonneg h1, Int.toNat_of_nonneg h3]
    have := h (a.val : Int)
    cases hx : hasB d (a.val : Int) <;> cases hy : hasB e (a.val : Int) <;> simp_all)
  simp at this
  omega
theorem addB_has_fin : ∀ d : Fin 64, ∀ b a : Fin 6, hasB (addB (d.val : Int) (b.val : Int)) (a.val : Int) = (hasB (d.val : Int) (a.val : Int) || decide (a.val = b.val)) := by decide +kernel
theorem addB_has {d b a : Int} (h1 : 0 ≤ d) (h2 : d ≤ 63) (h3 : 0 ≤ b) (h4 : b ≤ 5) : hasB (addB d b) a = true ↔ hasB d a = true ∨ a = b := by
  by_cases ha : 0 ≤ a ∧ a ≤ 5
  · have := addB_has_fin ⟨d.toNat, by omega⟩ ⟨b.toNat, by omega⟩ ⟨a.toNat, by omega⟩
    simp only [Int.toNat_of_nonneg h1, Int.toNat_of_nonneg h3, Int.toNat_of_nonneg ha.1] at this
    rw [this]
    simp
    constructor
    · rintro (h | h)
      · exact .inl h
      · exact .inr (by omega)
    · rintro (h | h)
      · exact .inl h
      · exact .inr (by omega)
  · constructor
    · intro h; exact absurd (hasB_range h) ha
    · rintro (h | h)
      · exact absurd (hasB_range h) ha
      · omega
theorem hasB_zero (a : Int) : hasB 0 a = false := by
  unfold hasB
  simp

theorem foldl_has (c : Con) (k : Nat) (a : Int) : ∀ (T : List (List Int)) (acc : List Int), (∀ t ∈ T, t.length = acc.length ∧ Small t 0 5) → Small acc 0 63 → k < acc.length →
    (hasB ((T.foldl (supStep c) acc)[k]?.getD 0) a = true ↔ hasB (acc[k]?.getD 0) a = true ∨ ∃ t ∈ T, satB c t = true ∧ t[k]?.getD 0 = a)
  | [], acc, _, _, _ => by simp
  | t :: T, acc, hT, h, hk => by
    have h0 := hT t (by simp)
    have hl := supStep_length (c := c) h0.1
    have ih := foldl_has c k a T (supStep c acc t) (fun t' ht' => by rw [hl]; exact hT t' (by simp [ht'])) (supStep_small h0.1 h h0.2) (by omega)
    rw [List.foldl_cons, ih]
    have hs : hasB ((supStep c acc t)[k]?.getD 0) a = true ↔ hasB (acc[k]?.getD 0) a = true ∨ (satB c t = true ∧ t[k]?.getD 0 = a) := by
      unfold supStep
      split
      · rename_i hsat
        rw [zip_at h0.1 hk, addB_has (h k hk).1 (h k hk).2 (h0.2 k (by omega)).1 (h0.2 k (by omega)).2]
        constructor
        · rintro (h | h)
          · exact .inl h
          · exact .inr ⟨hsat, h.symm⟩
        · rintro (h | h)
          · exact .inl h
          · exact .inr h.2.symm
      · rename_i hsat
        simp [hsat]
    rw [hs]
    simp only [List.mem_cons, exists_eq_or_imp]
    constructor
    · rintro ((h | h) | h)
      · exact .inl h
      · exact .inr (.inl h)
      · exact .inr (.inr h)
    · rintro (h | h | h)
      · exact .inl (.inl h)
      · exact .inl (.inr h)
      · exact .inr h
theorem tups_ok {ds vs t : List Int} (h : t ∈ tups ds vs) : t.length = vs.length ∧ Small t 0 5 := ⟨(tups_mem h).1, small_mem.2 (tups_mem h).2⟩
theorem sup_has (c : Con) (ds : List Int) {k : Nat} (hk : k < c.vars.length) (a : Int) : hasB ((supL c ds)[k]?.getD 0) a = true ↔ ∃ t ∈ tups ds c.vars, satB c t = true ∧ t[k]?.getD 0 = a := by
  have := foldl_has c k a (tups ds c.vars) (List.replicate c.vars.length 0) (fun t ht => by simpa using tups_ok ht) (by rw [small_mem]; intro x hx; have := (List.mem_replicate.1 hx).2; omega) (by simpa using hk)
  have e : supL c ds = (tups ds c.vars).foldl (supStep c) (List.replicate c.vars.length 0) := by simp [supL, supP]
  rw [e, this]
  simp [hk, hasB_zero]
theorem vL_iff {d : Int} {k : Nat} {a : Int} : a ∈ vL d k ↔ 0 ≤ a ∧ a < k ∧ hasB d a = true := by
  refine ⟨vL_mem, ?_⟩
  induction k with
  | zero => rintro ⟨h1, h2, _⟩; omega
  | succ k ih =>
    rintro ⟨h1, h2, h3⟩
    rw [vL, List.mem_append]
    by_cases e : a = k
    · right; subst e; rw [if_pos h3]; simp
    · left; exact ih ⟨h1, by omega, h3⟩
theorem tups_iff {ds : List Int} : ∀ {vs t : List Int}, t ∈ tups ds vs ↔ t.length = vs.length ∧ ∀ k, k < vs.length → hasB (ds[(vs[k]?.getD 0).toNat]?.getD 0) (t[k]?.getD 0) = true
  | [], t => by simp [tups]
  | v :: vs, t => by
    rw [tups, List.mem_flatMap]
    constructor
    · rintro ⟨a, ha, h⟩
      obtain ⟨t', ht', rfl⟩ := List.mem_map.1 h
      obtain ⟨h1, h2⟩ := tups_iff.1 ht'
      refine ⟨by simp [h1], fun k hk => ?_⟩
      cases k with
      | zero => simpa using (vL_iff.1 ha).2.2
      | succ k => simpa using h2 k (by simpa using hk)
    · rintro ⟨h1, h2⟩
      cases t with
      | nil => simp at h1
      | cons a t =>
        have h0 : hasB (ds[v.toNat]?.getD 0) a = true := by simpa using h2 0 (by simp)
        have hr := hasB_range h0
        exact ⟨a, vL_iff.2 ⟨hr.1, by omega, h0⟩, List.mem_map.2 ⟨t, tups_iff.2 ⟨by simpa using h1, fun k hk => by simpa using h2 (k + 1) (by simpa using hk)⟩, rfl⟩⟩

/-- The variables of c are different indices of n domains. -/
structure VarsOk (c : Con) (n : Nat) : Prop where
  pos : ∀ k, k < c.vars.length → 0 ≤ c.vars[k]?.getD 0
  lt : ∀ k, k < c.vars.length → (c.vars[k]?.getD 0).toNat < n
  ne : ∀ i j, i < c.vars.length → j < c.vars.length → (c.vars[i]?.getD 0).toNat = (c.vars[j]?.getD 0).toNat → i = j

theorem varsOk_of {c : Con} {n : Nat} (h : vcB c n = true) : VarsOk c n := by
  unfold vcB at h
  simp only [Bool.and_eq_true] at h
  obtain ⟨⟨⟨_, e2⟩, e3⟩, _⟩ := h
  have hs := small_of e2
  have hd := of_decide_eq_true e3
  have key : ∀ i j, i < c.vars.length → j < i → (c.vars[i]?.getD 0).toNat ≠ (c.vars[j]?.getD 0).toNat := fun i j hi hj e => by
    have h1 := hs i hi
    have h2 := hs j (by omega)
    exact hd i hi j hj (by omega)
  refine ⟨fun k hk => (hs k hk).1, fun k hk => by have := hs k hk; omega, fun i j hi hj e => ?_⟩
  rcases Nat.lt_trichotomy i j with h | h | h
  · exact absurd e.symm (key j i hj h)
  · exact h
  · exact absurd e (key i j hi h)
theorem putL_var {c : Con} {ds sup : List Int} (h : VarsOk c ds.length) : ∀ (j k : Nat), j ≤ c.vars.length → k < j → (putL c ds sup j)[(c.vars[k]?.getD 0).toNat]?.getD 0 = sup[k]?.getD 0
  | 0, k, _, hk => by omega
  | j + 1, k, hj, hk => by
    rw [putL]
    by_cases e : k = j
    · subst e
      rw [List.getElem?_set_self (by rw [putL_length]; exact h.lt _ (by omega))]
      rfl
    · rw [List.getElem?_set_ne (fun e' => e (h.ne _ _ (by omega) (by omega) e'.symm))]
      exact putL_var h j k (by omega) (by omega)
theorem putL_other {c : Con} {ds sup : List Int} {v : Nat} : ∀ (j : Nat), (∀ k, k < j → (c.vars[k]?.getD 0).toNat ≠ v) → (putL c ds sup j)[v]? = ds[v]?
  | 0, _ => rfl
  | j + 1, h => by
    rw [putL, List.getElem?_set_ne (h j (by omega))]
    exact putL_other j (fun k hk => h k (by omega))
theorem fil_var {c : Con} {ds : List Int} (h : VarsOk c ds.length) {k : Nat} (hk : k < c.vars.length) : (filL c ds)[(c.vars[k]?.getD 0).toNat]?.getD 0 = (supL c ds)[k]?.getD 0 := putL_var h _ k (Nat.le_refl _) hk
theorem fil_other {c : Con} {ds : List Int} {v : Nat} (h : ∀ k, k < c.vars.length → (c.vars[k]?.getD 0).toNat ≠ v) : (filL c ds)[v]? = ds[v]? := putL_other _ h

/-- Every value of e is one of d. -/
def leD (e d : List Int) : Prop := ∀ (v : Nat) (a : Int), hasB (e[v]?.getD 0) a = true → hasB (d[v]?.getD 0) a = true
theorem leD.refl (d : List Int) : leD d d := fun _ _ h => h
theorem leD.trans {a b c : List Int} (h : leD a b) (k : leD b c) : leD a c := fun v x hx => k v x (h v x hx)
theorem leD.antisymm {e d : List Int} (hl : e.length = d.length) (he : Small e 0 63) (hd : Small d 0 63) (h1 : leD e d) (h2 : leD d e) : e = d :=
  getD_ext hl (fun j hj => hasB_ext (he j hj).1 (he j hj).2 (hd j (by omega)).1 (hd j (by omega)).2 (fun a => ⟨h1 j a, h2 j a⟩))

theorem var_cases (c : Con) (v : Nat) : (∃ k, k < c.vars.length ∧ (c.vars[k]?.getD 0).toNat = v) ∨ ∀ k, k < c.vars.length → (c.vars[k]?.getD 0).toNat ≠ v := by
  by_cases h : ∃ k, k < c.vars.length ∧ (c.vars[k]?.getD 0).toNat = v
  · exact .inl h
  · exact .inr (fun k hk e => h ⟨k, hk, e⟩)
theorem fil_le {c : Con} {ds : List Int} (h : VarsOk c ds.length) : leD (filL c ds) ds := by
  intro v a ha
  rcases var_cases c v with ⟨k, hk, rfl⟩ | hv
  · rw [fil_var h hk, sup_has c ds hk] at ha
    obtain ⟨t, ht, _, e⟩ := ha
    rw [← e]
    exact (tups_iff.1 ht).2 k hk
  · rw [fil_other hv] at ha
    exact ha
theorem fil_mono {c : Con} {e d : List Int} (he : VarsOk c e.length) (hd : VarsOk c d.length) (h : leD e d) : leD (filL c e) (filL c d) := by
  intro v a ha
  rcases var_cases c v with ⟨k, hk, rfl⟩ | hv
  · rw [fil_var he hk, sup_has c e hk] at ha
    rw [fil_var hd hk, sup_has c d hk]
    obtain ⟨t, ht, hs, e⟩ := ha
    obtain ⟨t1, t2⟩ := tups_iff.1 ht
    exact ⟨t, tups_iff.2 ⟨t1, fun j hj => h _ _ (t2 j hj)⟩, hs, e⟩
  · rw [fil_other hv] at ha
    rw [fil_other hv]
    exact h v a ha
theorem fil_idem {c : Con} {ds : List Int} (h : VarsOk c ds.length) (hs : Small ds 0 63) : filL c (filL c ds) = filL c ds := by
  have f1 := filL_facts (c := c) hs
  have h' : VarsOk c (filL c ds).length := by rw [f1.1]; exact h
  have f2 := filL_facts (c := c) f1.2
  refine leD.antisymm f2.1 f2.2 f1.2 (fil_le h') (fun v a ha => ?_)
  rcases var_cases c v with ⟨k, hk, rfl⟩ | hv
  · rw [fil_var h hk, sup_has c ds hk] at ha
    rw [fil_var h' hk, sup_has c _ hk]
    obtain ⟨t, ht, hs, e⟩ := ha
    obtain ⟨t1, t2⟩ := tups_iff.1 ht
    refine ⟨t, tups_iff.2 ⟨t1, fun j hj => ?_⟩, hs, e⟩
    rw [fil_var h hj, sup_has c ds hj]
    exact ⟨t, ht, hs, rfl⟩
  · rw [fil_other hv]
    exact ha
theorem fil_local {c : Con} {d e : List Int} (hl : e.length = d.length) (h : VarsOk c d.length) (hs : Small d 0 63) (he : Small e 0 63) (hv : ∀ k, k < c.vars.length → e[(c.vars[k]?.getD 0).toNat]? = d[(c.vars[k]?.getD 0).toNat]?) (hf : filL c d = d) : filL c e = e := by
  have h' : VarsOk c e.length := by rw [hl]; exact h
  have f1 := filL_facts (c := c) he
  refine leD.antisymm f1.1 f1.2 he (fil_le h') (fun v a ha => ?_)
  rcases var_cases c v with ⟨k, hk, rfl⟩ | hw
  · rw [hv k hk] at ha
    rw [fil_var h' hk, sup_has c _ hk]
    rw [← hf, fil_var h hk, sup_has c _ hk] at ha
    obtain ⟨t, ht, hs, e'⟩ := ha
    obtain ⟨t1, t2⟩ := tups_iff.1 ht
    exact ⟨t, tups_iff.2 ⟨t1, fun j hj => by rw [hv j hj]; exact t2 j hj⟩, hs, e'⟩
  · rw [fil_other hw]
    exact ha

/-- The number of values of a domain. -/
def cntD (d : Int) : Nat := ((List.range 6).filter fun (a : Nat) => hasB d (a : Int)).length
/-- .. of all domains. -/
def bitsD (ds : List Int) : Nat := (ds.map cntD).sum
theorem cnt_fin : ∀ x y : Fin 64, (∀ a : Fin 6, hasB (x.val : Int) (a.val : Int) = true → hasB (y.val : Int) (a.val : Int) = true) → x = y ∨ cntD (x.val : Int) < cntD (y.val : Int) := by decide +kernel
theorem cnt_lt {x y : Int} (h1 : 0 ≤ x) (h2 : x ≤ 63) (h3 : 0 ≤ y) (h4 : y ≤ 63) (h : ∀ a, hasB x a = true → hasB y a = true) : x = y ∨ cntD x < cntD y := by
  have := cnt_fin ⟨x.toNat, by omega⟩ ⟨y.toNat, by omega⟩ (fun a => by simp only [Int.toNat_of_nonneg h1, Int.toNat_of_nonneg h3]; exact h _)
  simp only [Int.toNat_of_nonneg h1, Int.toNat_of_nonneg h3, Fin.mk.injEq] at this
  rcases this with h | h
  · exact .inl (by omega)
  · exact .inr h
theorem bits_lt : ∀ {e d : List Int}, e.length = d.length → (∀ x ∈ e, 0 ≤ x ∧ x ≤ 63) → (∀ x ∈ d, 0 ≤ x ∧ x ≤ 63) → leD e d → e = d ∨ bitsD e < bitsD d
  | [], [], _, _, _, _ => .inl rfl
  | [], _ :: _, hl, _, _, _ => by simp at hl
  | _ :: _, [], hl, _, _, _ => by simp at hl
  | x :: e, y :: d, hl, he, hd, h => by
    have h0 := cnt_lt (he x (by simp)).1 (he x (by simp)).2 (hd y (by simp)).1 (hd y (by simp)).2 (fun a ha => by simpa using h 0 a (by simpa using ha))
    have ih := bits_lt (e := e) (d := d) (by simpa using hl) (fun z hz => he z (by simp [hz])) (fun z hz => hd z (by simp [hz])) (fun v a ha => by simpa using h (v + 1) a (by simpa using ha))
    have hb : ∀ z zs, bitsD (z :: zs) = cntD z + bitsD zs := fun z zs => by simp [bitsD]
    rcases h0 with rfl | h0
    · rcases ih with rfl | ih
      · exact .inl rfl
      · exact .inr (by rw [hb, hb]; omega)
    · rcases ih with rfl | ih
      · exact .inr (by rw [hb, hb]; omega)
      · exact .inr (by rw [hb, hb]; omega)

/-- Domains d of n variables that the constraints cs may be filtered on. -/
structure OkD (cs : List Con) (n : Nat) (d : List Int) : Prop where
  len : d.length = n
  small : Small d 0 63
  vars : ∀ c ∈ cs, VarsOk c n
theorem OkD.fil {cs : List Con} {n : Nat} {d : List Int} (h : OkD cs n d) (c : Con) : OkD cs n (filL c d) := ⟨(filL_facts h.small).1.trans h.len, (filL_facts h.small).2, h.vars⟩
/-- One round of the reference. -/
def passL (cs : List Con) (d : List Int) : List Int := cs.foldl (fun d c => filL c d) d
def FixD (cs : List Con) (e : List Int) : Prop := ∀ c ∈ cs, filL c e = e
theorem consI_iff {cs : List Con} {d : List Int} : consI cs d = true ↔ FixD cs d := by
  unfold consI FixD
  simp [List.all_eq_true]
theorem OkD.sub {cs cs' : List Con} {n : Nat} {d : List Int} (h : OkD cs n d) (hs : ∀ c ∈ cs', c ∈ cs) : OkD cs' n d := ⟨h.len, h.small, fun c hc => h.vars c (hs c hc)⟩
theorem pass_ok {n : Nat} : ∀ {cs : List Con} {d : List Int}, OkD cs n d → OkD cs n (passL cs d) ∧ leD (passL cs d) d
  | [], d, h => ⟨h, leD.refl _⟩
  | c :: cs, d, h => by
    have hf := h.fil c
    have ih := pass_ok (hf.sub (cs' := cs) (fun x hx => by simp [hx]))
    have hle : leD (filL c d) d := fil_le (by rw [h.len]; exact h.vars c (by simp))
    exact ⟨⟨ih.1.len, ih.1.small, h.vars⟩, ih.2.trans hle⟩
theorem pass_fix {n : Nat} : ∀ {cs : List Con} {d : List Int}, OkD cs n d → passL cs d = d → FixD cs d
  | [], d, h, _ => fun c hc => by simp at hc
  | c :: cs, d, h, he => by
    have hf := h.fil c
    have h1 := pass_ok (hf.sub (cs' := cs) (fun x hx => by simp [hx]))
    have hle : leD (filL c d) d := fil_le (by rw [h.len]; exact h.vars c (by simp))
    have he' : passL cs (filL c d) = d := he
    have e1 : filL c d = d := leD.antisymm (hf.len.trans h.len.symm) hf.small h.small hle (by rw [he'] at h1; exact h1.2)
    rw [e1] at he'
    have ih := pass_fix (h.sub (cs' := cs) (fun x hx => by simp [hx])) he'
    intro x hx
    rcases List.mem_cons.1 hx with rfl | hx
    · exact e1
    · exact ih x hx
theorem fix_le_fil {cs : List Con} {n : Nat} {e d : List Int} {c : Con} (he : OkD cs n e) (hd : OkD cs n d) (hc : c ∈ cs) (hf : FixD cs e) (h : leD e d) : leD e (filL c d) := by
  have := fil_mono (c := c) (by rw [he.len]; exact he.vars c hc) (by rw [hd.len]; exact hd.vars c hc) h
  rwa [hf c hc] at this
theorem fix_le_pass {n : Nat} : ∀ {cs : List Con} {e d : List Int}, OkD cs n e → OkD cs n d → FixD cs e → leD e d → leD e (passL cs d)
  | [], e, d, _, _, _, h => h
  | c :: cs, e, d, he, hd, hf, h => fix_le_pass (cs := cs) (he.sub (fun x hx => by simp [hx])) ((hd.fil c).sub (fun x hx => by simp [hx])) (fun x hx => hf x (by simp [hx])) (fix_le_fil he hd (by simp) hf h)

/-- r is what propagation makes of d: the greatest fixpoint, or, where it has an empty domain, none at all. -/
def ResD (cs : List Con) (n : Nat) (d r : List Int) : Prop :=
  (FixD cs r ∧ OkD cs n r ∧ emptyB r = false ∧ leD r d ∧ ∀ e, OkD cs n e → FixD cs e → leD e d → leD e r) ∨
  (r = List.replicate n 0 ∧ ∃ x, OkD cs n x ∧ emptyB x = true ∧ ∀ e, OkD cs n e → FixD cs e → leD e d → leD e x)
theorem empty_le {cs : List Con} {n : Nat} {e x : List Int} (he : OkD cs n e) (hx : OkD cs n x) (h : leD e x) (hq : emptyB x = true) : emptyB e = true := by
  unfold emptyB at hq ⊢
  rw [decide_eq_true_iff] at hq ⊢
  obtain ⟨j, hj, hz⟩ := List.mem_iff_getElem.1 hq
  have hje : j < e.length := by rw [he.len, ← hx.len]; exact hj
  have : e[j]?.getD 0 = 0 := hasB_ext (he.small j hje).1 (he.small j hje).2 (by omega) (by omega) (fun a => by
    constructor
    · intro ha
      have := h j a ha
      rw [List.getElem?_eq_getElem hj, hz] at this
      exact this
    · intro ha
      rw [hasB_zero] at ha
      cases ha)
  rw [List.getElem?_eq_getElem hje] at this
  rw [← show e[j] = 0 from this]
  exact List.getElem_mem hje
theorem res_unique {cs : List Con} {n : Nat} {d r r' : List Int} (h : ResD cs n d r) (k : ResD cs n d r') : r = r' := by
  rcases h with ⟨f, o, ne, l, g⟩ | ⟨e, x, xo, xe, xg⟩
  · rcases k with ⟨f', o', ne', l', g'⟩ | ⟨e', x', xo', xe', xg'⟩
    · exact leD.antisymm (o.len.trans o'.len.symm) o.small o'.small (g' r o f l) (g r' o' f' l')
    · have := empty_le o xo' (xg' r o f l) xe'
      rw [ne] at this
      cases this
  · rcases k with ⟨f', o', ne', l', g'⟩ | ⟨e', _⟩
    · have := empty_le o' xo (xg r' o' f' l') xe
      rw [ne'] at this
      cases this
    · rw [e, e']
/-- What stands while domains are filtered. -/
structure RunD (cs : List Con) (n : Nat) (d x : List Int) : Prop where
  ok : OkD cs n x
  le : leD x d
  low : ∀ e, OkD cs n e → FixD cs e → leD e d → leD e x
theorem RunD.start {cs : List Con} {n : Nat} {d : List Int} (h : OkD cs n d) : RunD cs n d d := ⟨h, leD.refl _, fun _ _ _ h => h⟩
theorem RunD.fil {cs : List Con} {n : Nat} {d x : List Int} (h : RunD cs n d x) {c : Con} (hc : c ∈ cs) : RunD cs n d (filL c x) :=
  ⟨h.ok.fil c, (fil_le (by rw [h.ok.len]; exact h.ok.vars c hc)).trans h.le, fun e he hf hl => fix_le_fil he h.ok hc hf (h.low e he hf hl)⟩
theorem RunD.pass {cs : List Con} {n : Nat} {d x : List Int} (h : RunD cs n d x) : RunD cs n d (passL cs x) :=
  ⟨(pass_ok h.ok).1, (pass_ok h.ok).2.trans h.le, fun e he hf hl => fix_le_pass he h.ok hf (h.low e he hf hl)⟩
theorem RunD.done {cs : List Con} {n : Nat} {d x : List Int} (h : RunD cs n d x) (hf : consI cs x = true) (he : emptyB x = false) : ResD cs n d x := .inl ⟨consI_iff.1 hf, h.ok, he, h.le, h.low⟩
theorem RunD.fail {cs : List Con} {n : Nat} {d x : List Int} (h : RunD cs n d x) (he : emptyB x = true) : ResD cs n d (List.replicate n 0) := .inr ⟨rfl, x, h.ok, he, h.low⟩
theorem RunD.lt {cs : List Con} {n : Nat} {d x : List Int} (h : RunD cs n d x) (hf : consI cs x = false) : bitsD (passL cs x) < bitsD x := by
  have hp := pass_ok h.ok
  rcases bits_lt (hp.1.len.trans h.ok.len.symm) (small_mem.1 hp.1.small) (small_mem.1 h.ok.small) hp.2 with e | e
  · have := consI_iff.2 (pass_fix h.ok e)
    rw [hf] at this
    cases this
  · exact e
/-- The reference's rounds, k of them at most. -/
def fixIt (cs : List Con) : Nat → List Int → List Int
  | 0, d => d
  | k + 1, d => if consI cs d || emptyB d then d else fixIt cs k (passL cs d)
/-- What propagation leaves of the domains d. -/
def proL (cs : List Con) (d : List Int) : List Int :=
  let x := fixIt cs (bitsD d + 1) d
  if emptyB x then List.replicate d.length 0 else x
theorem fixIt_run {cs : List Con} {n : Nat} {d : List Int} : ∀ (k : Nat) (x : List Int), RunD cs n d x → bitsD x < k → RunD cs n d (fixIt cs k x) ∧ (consI cs (fixIt cs k x) || emptyB (fixIt cs k x)) = true
  | 0, x, _, hb => by omega
  | k + 1, x, h, hb => by
    rw [fixIt]
    split
    · rename_i hq; exact ⟨h, hq⟩
    · rename_i hq
      have hc : consI cs x = false := by
        cases hc : consI cs x
        · rfl
        · rw [hc] at hq; simp at hq
      exact fixIt_run k (passL cs x) h.pass (by have := h.lt hc; omega)
theorem proL_res {cs : List Con} {n : Nat} {d : List Int} (h : OkD cs n d) : ResD cs n d (proL cs d) := by
  have hr := fixIt_run (bitsD d + 1) d (RunD.start h) (by omega)
  unfold proL
  simp only
  split
  · rename_i he
    rw [h.len]
    exact hr.1.fail he
  · rename_i he
    have he' : emptyB (fixIt cs (bitsD d + 1) d) = false := by simpa using he
    have hq := hr.2
    rw [he'] at hq
    exact hr.1.done (by simpa using hq) he'
theorem proL_eq {cs : List Con} {n : Nat} {d r : List Int} (h : OkD cs n d) (hr : ResD cs n d r) : r = proL cs d := res_unique hr (proL_res h)
theorem okD_of {cs : List Con} {d : List Int} (hs : Small d 0 63) (hok : ∀ c ∈ cs, OkC c d.length) : OkD cs d.length d := ⟨rfl, hs, fun c hc => varsOk_of (hok c hc).vc⟩
theorem passL_snoc {cs : List Con} {x : List Int} {j : Nat} {c : Con} (h : cs[j]? = some c) : passL (cs.take (j + 1)) x = filL c (passL (cs.take j) x) := by
  unfold passL
  rw [List.take_add_one, h, List.foldl_append]
  rfl
theorem RunD.take {cs : List Con} {n : Nat} {d x : List Int} (h : RunD cs n d x) : ∀ j, j ≤ cs.length → RunD cs n d (passL (cs.take j) x)
  | 0, _ => by simpa [passL] using h
  | j + 1, hj => by
    have hc : cs[j]? = some cs[j] := List.getElem?_eq_getElem (by omega)
    rw [passL_snoc hc]
    exact (h.take j (by omega)).fil (List.getElem_mem (by omega))
/-- The row that a slice of numbers shows. -/
def rowOf (w : World) : Value → List Int
  | .slice (some p) n _ => (List.range n).map fun i => match w.cell? ⟨p.block, p.off + i, none⟩ with | some (.int _ z) => z | _ => 0
  | _ => []
theorem rowOf_rd {w : World} {v : Value} {xs : List Int} (h : RdInts w v xs) : rowOf w v = xs := by
  obtain ⟨a, cap, rfl, _, _, h3⟩ := h
  rcases h3 with h3 | ⟨b, off, rfl, h3⟩
  · have hx : xs = [] := List.eq_nil_of_length_eq_zero h3
    subst hx
    cases a <;> rfl
  · apply List.ext_getElem (by simp [rowOf])
    intro i h1 h2
    have := h3 i h2
    simp [rowOf, this]
    rw [List.getElem?_eq_getElem h2]
    rfl
end Go.Proofs.Ytipapmmjfoaddaa
