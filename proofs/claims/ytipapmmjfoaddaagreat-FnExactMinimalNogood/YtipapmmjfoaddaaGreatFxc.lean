/- Unit propagation as a step that only removes values: plain facts. -/
import Derived.Test.YtipapmmjfoaddaaGreatFxp
import Derived.Test.YtipapmmjfoaddaaGreatLitE
namespace Go.Proofs.YtipapmmjfoaddaaGreat
open Go.ChangeShapes Go.WideShapes Go.ChangeAt Go.RowKit
set_option linter.unusedVariables false
set_option linter.unusedSimpArgs false

theorem hasAnd_fin : ∀ d : Fin 64, ∀ v u : Fin 6, ∀ s : Bool, hasB (andI (d.val : Int) (domL ⟨0, (v.val : Int), s⟩)) (u.val : Int) = (hasB (d.val : Int) (u.val : Int) && ((decide (u.val = v.val)) != s)) := by decide +kernel
theorem andSmall_fin : ∀ d : Fin 64, ∀ v : Fin 6, ∀ s : Bool, 0 ≤ andI (d.val : Int) (domL ⟨0, (v.val : Int), s⟩) ∧ andI (d.val : Int) (domL ⟨0, (v.val : Int), s⟩) ≤ 63 := by decide +kernel
theorem hasAnd {d : Int} {l : Lit} (u : Int) (h0 : 0 ≤ d) (h1 : d ≤ 63) (h2 : 0 ≤ l.val) (h3 : l.val ≤ 5) : hasB (andI d (domL l)) u = (hasB d u && ((decide (u = l.val)) != l.neg)) := by
  by_cases hu : 0 ≤ u ∧ u ≤ 5
  · obtain ⟨lv, la, s⟩ := l
    simp only at h2 h3 ⊢
    obtain ⟨d, rfl⟩ := Int.eq_ofNat_of_zero_le h0
    obtain ⟨v, rfl⟩ := Int.eq_ofNat_of_zero_le h2
    obtain ⟨u, rfl⟩ := Int.eq_ofNat_of_zero_le hu.1
    have := hasAnd_fin ⟨d, by omega⟩ ⟨v, by omega⟩ ⟨u, by omega⟩ s
    simp only at this
    have e : decide ((u : Int) = (v : Int)) = decide (u = v) := by by_cases h : u = v <;> simp [h] <;> omega
    rw [e]
    exact this
  · have z : ∀ x : Int, hasB x u = false := fun x => by
      cases hx : hasB x u
      · rfl
      · exact absurd (hasB_range hx) hu
    rw [z, z]
    rfl
theorem andSmall {d : Int} {l : Lit} (h0 : 0 ≤ d) (h1 : d ≤ 63) (h2 : 0 ≤ l.val) (h3 : l.val ≤ 5) : 0 ≤ andI d (domL l) ∧ andI d (domL l) ≤ 63 := by
  obtain ⟨lv, la, s⟩ := l
  simp only at h2 h3 ⊢
  obtain ⟨d, rfl⟩ := Int.eq_ofNat_of_zero_le h0
  obtain ⟨v, rfl⟩ := Int.eq_ofNat_of_zero_le h2
  exact andSmall_fin ⟨d, by omega⟩ ⟨v, by omega⟩ s
/-- Literals for n variables. -/
def LitsOn (ls : List Lit) (n : Nat) : Prop := ∀ l ∈ ls, (0 ≤ l.var ∧ l.var < n) ∧ 0 ≤ l.val ∧ l.val ≤ 5
theorem litsOn_of {ls : List Lit} {n : Nat} (h : clB ls n = true) : LitsOn ls n := fun l hl => ⟨clB_vars h l hl, clB_vals h hl⟩
theorem LitsOn.vars {ls : List Lit} {n : Nat} (h : LitsOn ls n) : VarsIn ls n := fun l hl => (h l hl).1
theorem LitsOn.vals {ls : List Lit} {n : Nat} (h : LitsOn ls n) : ∀ l ∈ ls, 0 ≤ l.val ∧ l.val ≤ 5 := fun l hl => (h l hl).2
theorem LitsOn.perm {ls ks : List Lit} {n : Nat} (h : LitsOn ls n) (hp : ks.Perm ls) : LitsOn ks n := fun l hl => h l (hp.mem_iff.1 hl)
theorem posB_iff {n : Nat} {d : List Int} {l : Lit} (hd : DomN n d) (h1 : 0 ≤ l.var ∧ l.var < n) (h2 : 0 ≤ l.val ∧ l.val ≤ 5) : posB d l = true ↔ ∃ u, hasB (d[l.var.toNat]?.getD 0) u = true ∧ ((decide (u = l.val)) != l.neg) = true := by
  have hs := hd.small l.var.toNat (by rw [hd.len]; omega)
  have hr := andSmall (l := l) hs.1 hs.2 h2.1 h2.2
  unfold posB
  constructor
  · intro h
    refine Classical.byContradiction fun hne => ?_
    have : andI (d[l.var.toNat]?.getD 0) (domL l) = 0 := hasB_ext hr.1 hr.2 (by omega) (by omega) (fun a => by
      rw [hasAnd a hs.1 hs.2 h2.1 h2.2, hasB_zero]
      constructor
      · intro h'
        rw [Bool.and_eq_true] at h'
        exact absurd ⟨a, h'⟩ hne
      · intro h'; cases h')
    rw [this] at h
    simp at h
  · rintro ⟨u, h3, h4⟩
    have : hasB (andI (d[l.var.toNat]?.getD 0) (domL l)) u = true := by rw [hasAnd u hs.1 hs.2 h2.1 h2.2, h3, h4]; rfl
    simp only [bne_iff_ne, ne_eq]
    intro e
    rw [e, hasB_zero] at this
    cases this
theorem posB_mono {n : Nat} {e d : List Int} {l : Lit} (he : DomN n e) (hd : DomN n d) (hl : leD e d) (h1 : 0 ≤ l.var ∧ l.var < n) (h2 : 0 ≤ l.val ∧ l.val ≤ 5) (h : posB e l = true) : posB d l = true := by
  obtain ⟨u, h3, h4⟩ := (posB_iff he h1 h2).1 h
  exact (posB_iff hd h1 h2).2 ⟨u, hl _ _ h3, h4⟩
theorem posL_mono {n : Nat} {e d : List Int} {ls : List Lit} (he : DomN n e) (hd : DomN n d) (hl : leD e d) (h : LitsOn ls n) : posL ls e = (posL ls d).filter (posB e) := by
  unfold posL
  rw [List.filter_filter]
  refine List.filter_congr fun l hm => ?_
  cases h0 : posB e l
  · simp
  · rw [posB_mono he hd hl (h l hm).1 (h l hm).2 h0]; rfl
theorem set_domN {n : Nat} {d : List Int} (h : DomN n d) (v : Nat) {x : Int} (h0 : 0 ≤ x) (h1 : x ≤ 63) : DomN n (d.set v x) := by
  refine ⟨by rw [List.length_set, h.len], fun j hj => ?_⟩
  rw [List.length_set] at hj
  by_cases e : v = j
  · subst e
    rw [List.getElem?_set_self hj]
    exact ⟨h0, h1⟩
  · rw [List.getElem?_set_ne e]
    exact h.small j hj
theorem set_le {n : Nat} {d : List Int} (h : DomN n d) {v : Nat} {x : Int} (hx : ∀ a, hasB x a = true → hasB (d[v]?.getD 0) a = true) : leD (d.set v x) d := by
  intro j a ha
  by_cases e : v = j
  · subst e
    by_cases hj : v < d.length
    · rw [List.getElem?_set_self hj] at ha
      exact hx a ha
    · rw [List.set_eq_of_length_le (by omega)] at ha
      exact ha
  · rw [List.getElem?_set_ne e] at ha
    exact ha
theorem set_leBoth {e d : List Int} (hl : e.length = d.length) (h : leD e d) {v : Nat} {x y : Int} (hx : ∀ a, hasB x a = true → hasB y a = true) : leD (e.set v x) (d.set v y) := by
  intro j a ha
  by_cases eq : v = j
  · subst eq
    by_cases hj : v < d.length
    · rw [List.getElem?_set_self (by omega)] at ha
      rw [List.getElem?_set_self hj]
      exact hx a ha
    · rw [List.set_eq_of_length_le (by omega)] at ha ⊢
      exact h v a ha
  · rw [List.getElem?_set_ne eq] at ha ⊢
    exact h j a ha
theorem up_domN {n : Nat} {d : List Int} {ls : List Lit} (h : LitsOn ls n) (hd : DomN n d) : DomN n (upL ls d) := by
  unfold upL
  split
  · rw [hd.len]; exact zeros_domN n
  · rename_i l e
    have hm : l ∈ ls := (List.mem_filter.1 (by rw [show ls.filter (posB d) = [l] from e]; simp)).1
    have hs := hd.small l.var.toNat (by rw [hd.len]; have := (h l hm).1; omega)
    have := andSmall (l := l) hs.1 hs.2 (h l hm).2.1 (h l hm).2.2
    exact set_domN hd _ this.1 this.2
  · exact hd
theorem up_leD {n : Nat} {d : List Int} {ls : List Lit} (h : LitsOn ls n) (hd : DomN n d) : leD (upL ls d) d := by
  unfold upL
  split
  · exact zeros_le _ _
  · rename_i l e
    have hm : l ∈ ls := (List.mem_filter.1 (by rw [show ls.filter (posB d) = [l] from e]; simp)).1
    have hs := hd.small l.var.toNat (by rw [hd.len]; have := (h l hm).1; omega)
    refine set_le hd fun a ha => ?_
    rw [hasAnd a hs.1 hs.2 (h l hm).2.1 (h l hm).2.2, Bool.and_eq_true] at ha
    exact ha.1
  · exact leD.refl _
theorem up_mono {n : Nat} {e d : List Int} {ls : List Lit} (h : LitsOn ls n) (he : DomN n e) (hd : DomN n d) (hl : leD e d) : leD (upL ls e) (upL ls d) := by
  have hp := posL_mono he hd hl h
  rcases hq : posL ls d with _ | ⟨l, _ | ⟨k, r⟩⟩
  · rw [hq] at hp
    rw [upL_none (show posL ls e = [] from hp)]
    exact zeros_le _ _
  · rw [hq] at hp
    have hm : l ∈ ls := (List.mem_filter.1 (show l ∈ ls.filter (posB d) by rw [show ls.filter (posB d) = [l] from hq]; simp)).1
    have hse := he.small l.var.toNat (by rw [he.len]; have := (h l hm).1; omega)
    have hsd := hd.small l.var.toNat (by rw [hd.len]; have := (h l hm).1; omega)
    cases hb : posB e l
    · rw [List.filter_cons_of_neg (by rw [hb]; simp)] at hp
      rw [upL_none hp]
      exact zeros_le _ _
    · rw [List.filter_cons_of_pos hb] at hp
      rw [upL_one hp, upL_one hq]
      refine set_leBoth (he.len.trans hd.len.symm) hl fun a ha => ?_
      rw [hasAnd a hse.1 hse.2 (h l hm).2.1 (h l hm).2.2, Bool.and_eq_true] at ha
      rw [hasAnd a hsd.1 hsd.2 (h l hm).2.1 (h l hm).2.2, Bool.and_eq_true]
      exact ⟨hl _ _ ha.1, ha.2⟩
  · rw [upL_two (ls := ls) (ds := d) (by rw [hq]; simp)]
    exact (up_leD h he).trans hl
theorem up_step {n : Nat} {ls : List Lit} (h : LitsOn ls n) : StepD n (upL ls) := ⟨fun d hd => up_domN h hd, fun d hd => up_leD h hd, fun e d he hd hl => up_mono h he hd hl⟩
/-- The order of a clause does not matter. -/
theorem up_perm {ls ks : List Lit} (h : ls.Perm ks) (d : List Int) : upL ls d = upL ks d := by
  have hp : (posL ls d).Perm (posL ks d) := h.filter _
  rcases hq : posL ls d with _ | ⟨l, _ | ⟨k, r⟩⟩
  · rw [hq] at hp
    rw [upL_none hq, upL_none (List.nil_perm.1 hp)]
  · rw [hq] at hp
    rw [upL_one hq, upL_one (List.singleton_perm.1 hp).symm]
  · rw [upL_two (by rw [hq]; simp), upL_two (by rw [← hp.length_eq, hq]; simp)]
theorem up_zeros {n : Nat} {ls : List Lit} (h : LitsOn ls n) : upL ls (List.replicate n 0) = List.replicate n 0 := by
  refine leD.antisymm ?_ (up_domN h (zeros_domN n)).small (zeros_domN n).small (up_leD h (zeros_domN n)) (zeros_le n _)
  rw [upL_length]

/-- The steps of propagation with constraints and clauses. -/
def clF (cs : List Con) (cls : List (List Lit)) : List (List Int → List Int) := proL cs :: cls.map upL
theorem clF_steps {cs : List Con} {cls : List (List Lit)} {n : Nat} (hv : ∀ c ∈ cs, VarsOk c n) (hc : ∀ ls ∈ cls, LitsOn ls n) : ∀ f ∈ clF cs cls, StepD n f := by
  intro f hf
  rcases List.mem_cons.1 hf with rfl | hf
  · exact pro_step hv
  · obtain ⟨ls, hls, rfl⟩ := List.mem_map.1 hf
    exact up_step (hc ls hls)
/-- What propagation with constraints and clauses leaves of the domains d. -/
def clfL (cs : List Con) (cls : List (List Lit)) (d : List Int) : List Int := fxF (clF cs cls) d
theorem clfL_none {cs : List Con} {n : Nat} {d : List Int} (h : OkD cs n d) : clfL cs [] d = proL cs d := by
  refine (fxF_eq (n := n) (clF_steps h.vars (by simp)) h.domN ?_).symm
  rcases proL_res h with ⟨f, o, ne, l, g⟩ | ⟨e, x, xo, xe, xg⟩
  · refine .inl ⟨?_, o.domN, ne, l, ?_⟩
    · intro k hk
      rw [clF, List.map_nil, List.mem_singleton] at hk
      subst hk
      exact (proL_eq o (.inl ⟨f, o, ne, leD.refl _, fun e _ _ hl => hl⟩)).symm
    · intro e he hf hne hl
      have h1 : proL cs e = e := hf _ (by simp [clF])
      have := (pro_step h.vars).mono e d he h.domN hl
      rwa [h1] at this
  · refine .inr ⟨e, ?_⟩
    intro y hy hf hne hl
    have h1 : proL cs y = y := hf _ (by simp [clF])
    have := (pro_step h.vars).mono y d hy h.domN hl
    rw [h1, e] at this
    by_cases h0 : 1 ≤ n
    · have := emptyN_le hy (zeros_domN n) this (zeros_empty h0)
      rw [hne] at this
      cases this
    · have hx := xo.len
      have : x = [] := List.eq_nil_of_length_eq_zero (by omega)
      rw [this] at xe
      simp [emptyB] at xe
end Go.Proofs.YtipapmmjfoaddaaGreat
