/- Pure facts for the promises on clauses. -/
import Derived.Test.YtolfjkdkbiicmaaLitK
import Derived.Test.YtolfjkdkbiicmaaLitT
namespace Go.Proofs.Ytolfjkdkbiicmaa
set_option linter.unusedVariables false
set_option linter.unusedSimpArgs false
theorem hoB_iff {ls : List Lit} {xs : List Int} : hoB ls xs = true ↔ ∃ l ∈ ls, lhB xs l = true := by
  unfold hoB lhB
  rw [List.any_eq_true]
theorem hoB_mono {a b : List Lit} {xs : List Int} (h : ∀ l ∈ a, l ∈ b) (ha : hoB a xs = true) : hoB b xs = true := by
  rw [hoB_iff] at *
  obtain ⟨l, hl, hh⟩ := ha
  exact ⟨l, h l hl, hh⟩
theorem lhB_neg (xs : List Int) (l : Lit) : lhB xs (negL l) = !lhB xs l := by
  unfold lhB negL
  cases l.neg <;> cases decide (xs[l.var.toNat]?.getD 0 = l.val) <;> rfl
theorem mem_res {n : Int} {a b : List Lit} {l : Lit} {c : List Lit} (h : rsO n a b l = some c) (x : Lit) : x ∈ c ↔ (x ∈ a ∧ x ≠ l) ∨ (x ∈ b ∧ x ≠ negL l) := by
  unfold rsO at h
  split at h
  · split at h
    · injection h with h
      rw [← h, mem_mrgL, mem_wioL, mem_wioL]
    · cases h
  · cases h
theorem clB_of {ls : List Lit} {n : Int} (h1 : Asc ls) (h2 : ∀ l ∈ ls, litOk l n = true) (h3 : ls.length ≤ 12) : clB ls n = true := by
  rw [clB_all]
  · simp [h3]
  · intro k hk
    have hl : ls[k]? = some ls[k] := List.getElem?_eq_getElem hk
    cases k with
    | zero => rw [st_zero hl]; exact h2 _ (List.getElem_mem hk)
    | succ j =>
      have hp : ls[j]? = some ls[j] := List.getElem?_eq_getElem (by omega)
      rw [st_succ hl hp, h2 _ (List.getElem_mem hk), Bool.true_and]
      exact List.pairwise_iff_getElem.1 h1 j (j + 1) (by omega) hk (by omega)
theorem res_parts {n : Int} {a b : List Lit} {l : Lit} {c : List Lit} (h : rsO n a b l = some c) : vclB a n = true ∧ vclB b n = true ∧ c = mrgL (wioL a l) (wioL b (negL l)) ∧ c.length ≤ 12 := by
  unfold rsO at h
  split at h
  · rename_i h0
    split at h
    · injection h with h
      simp only [Bool.and_eq_true] at h0
      exact ⟨h0.1.1.1, h0.1.1.2, h.symm, by rw [← h]; assumption⟩
    · cases h
  · cases h
theorem vclB_parts {a : List Lit} {n : Int} (h : vclB a n = true) : wiB n 1 4 = true ∧ clB a n = true := by
  unfold vclB at h; rw [Bool.and_eq_true] at h; exact h
theorem res_valid {n : Int} {a b : List Lit} {l : Lit} {c : List Lit} (h : rsO n a b l = some c) : vclB c n = true := by
  obtain ⟨ha, hb, hc, hl⟩ := res_parts h
  have ha' := vclB_parts ha
  have hb' := vclB_parts hb
  unfold vclB
  rw [ha'.1, Bool.true_and]
  refine clB_of ?_ ?_ hl
  · rw [hc]; exact asc_mrgL _ _ (wioL_asc (clB_asc ha'.2) l)
  · intro x hx
    rcases (mem_res h x).1 hx with ⟨h1, _⟩ | ⟨h1, _⟩
    · exact clB_lit ha'.2 h1
    · exact clB_lit hb'.2 h1
theorem res_sound {n : Int} {a b : List Lit} {l : Lit} {c : List Lit} {xs : List Int} (h : rsO n a b l = some c) (ha : hoB a xs = true) (hb : hoB b xs = true) : hoB c xs = true := by
  rw [hoB_iff] at ha hb ⊢
  obtain ⟨la, h1, h2⟩ := ha
  obtain ⟨lb, h3, h4⟩ := hb
  by_cases e : la = l
  · subst e
    refine ⟨lb, (mem_res h lb).2 (.inr ⟨h3, ?_⟩), h4⟩
    intro e
    rw [e, lhB_neg, h2] at h4
    cases h4
  · exact ⟨la, (mem_res h la).2 (.inl ⟨h1, e⟩), h2⟩
theorem res_ch {n : Int} {a b : List Lit} {l : Lit} {c : List Lit} {xs : List Int} (h : rsO n a b l = some c) (hx : (xs.length : Int) = n) (ha : chB a xs = true) (hb : chB b xs = true) : chB c xs = true := by
  unfold chB at *
  simp only [Bool.and_eq_true] at *
  have hv := (vclB_parts (res_valid h)).2
  rw [hx]
  rw [hx] at ha
  exact ⟨⟨ha.1.1, hv⟩, res_sound h ha.2 hb.2⟩
theorem sub_ch {n : Int} {a b : List Lit} {xs : List Int} (h : suB n a b = true) (hx : (xs.length : Int) = n) (ha : chB a xs = true) : chB b xs = true := by
  unfold suB at h
  unfold chB at *
  simp only [Bool.and_eq_true] at *
  rw [hx] at ha ⊢
  refine ⟨⟨ha.1.1, (vclB_parts h.1.2).2⟩, hoB_mono (fun l hl => ?_) ha.2⟩
  have := List.all_eq_true.1 h.2 l hl
  exact of_decide_eq_true this
/-- Unit propagation keeps the assignments that satisfy the clause. -/
theorem and_dom_fin : ∀ d : Fin 64, ∀ v u : Fin 6, ∀ s : Bool, hasB (andI (d.val : Int) (domL ⟨0, (v.val : Int), s⟩)) (u.val : Int) = (hasB (d.val : Int) (u.val : Int) && ((decide (u.val = v.val)) != s)) := by decide +kernel
theorem and_dom_rng_fin : ∀ d : Fin 64, ∀ v : Fin 6, ∀ s : Bool, 0 ≤ andI (d.val : Int) (domL ⟨0, (v.val : Int), s⟩) ∧ andI (d.val : Int) (domL ⟨0, (v.val : Int), s⟩) ≤ 63 ∧ bits .and .i64 (andI (d.val : Int) (domL ⟨0, (v.val : Int), s⟩)) (d.val : Int) = andI (d.val : Int) (domL ⟨0, (v.val : Int), s⟩) := by decide +kernel
theorem hasB_zero' (a : Int) : hasB 0 a = false := by
  unfold hasB; simp
theorem and_dom {d : Int} {l : Lit} {u : Int} (h0 : 0 ≤ d) (h1 : d ≤ 63) (h2 : 0 ≤ l.val) (h3 : l.val ≤ 5) (h4 : 0 ≤ u) (h5 : u ≤ 5) : hasB (andI d (domL l)) u = (hasB d u && ((decide (u = l.val)) != l.neg)) := by
  obtain ⟨lv, la, s⟩ := l
  simp only at h2 h3 ⊢
  obtain ⟨d, rfl⟩ := Int.eq_ofNat_of_zero_le h0
  obtain ⟨v, rfl⟩ := Int.eq_ofNat_of_zero_le h2
  obtain ⟨u, rfl⟩ := Int.eq_ofNat_of_zero_le h4
  have := and_dom_fin ⟨d, by omega⟩ ⟨v, by omega⟩ ⟨u, by omega⟩ s
  simp only at this
  have e : decide ((u : Int) = (v : Int)) = decide (u = v) := by by_cases h : u = v <;> simp [h] <;> omega
  rw [e]
  exact this
theorem and_dom_rng {d : Int} {l : Lit} (h0 : 0 ≤ d) (h1 : d ≤ 63) (h2 : 0 ≤ l.val) (h3 : l.val ≤ 5) : 0 ≤ andI d (domL l) ∧ andI d (domL l) ≤ 63 ∧ bits .and .i64 (andI d (domL l)) d = andI d (domL l) := by
  obtain ⟨lv, la, s⟩ := l
  simp only at h2 h3 ⊢
  obtain ⟨d, rfl⟩ := Int.eq_ofNat_of_zero_le h0
  obtain ⟨v, rfl⟩ := Int.eq_ofNat_of_zero_le h2
  exact and_dom_rng_fin ⟨d, by omega⟩ ⟨v, by omega⟩ s
/-- Whatever the clause, the domains are as many. -/
theorem up_kept {ls : List Lit} {ds xs : List Int} (hv : clB ls ds.length = true) (hd : allB ds 0 63 = true) (hx : allB xs 0 5 = true) (hl : xs.length = ds.length)
    (hin : ∀ i, i < ds.length → hasB (ds[i]?.getD 0) (xs[i]?.getD 0) = true) (hh : hoB ls xs = true) :
    ∀ i, i < ds.length → hasB ((upL ls ds)[i]?.getD 0) (xs[i]?.getD 0) = true := by
  obtain ⟨l, hm, hlt⟩ := hoB_iff.1 hh
  have hok := clB_vars hv l hm
  have hva := clB_vals hv hm
  have hvi : l.var.toNat < ds.length := by omega
  have hdr := allB_at hd hvi
  have hxr := allB_at hx (j := l.var.toNat) (by omega)
  have key : ∀ k : Lit, k ∈ ls → lhB xs k = true → hasB (andI (ds[k.var.toNat]?.getD 0) (domL k)) (xs[k.var.toNat]?.getD 0) = true := by
    intro k hk hkt
    have hok := clB_vars hv k hk
    have hva := clB_vals hv hk
    have hvi : k.var.toNat < ds.length := by omega
    have hdr := allB_at hd hvi
    have hxr := allB_at hx (j := k.var.toNat) (by omega)
    rw [and_dom hdr.1 hdr.2 hva.1 hva.2 hxr.1 hxr.2, hin _ hvi, Bool.true_and]
    exact hkt
  have hpos : posB ds l = true := by
    unfold posB
    have := key l hm hlt
    cases h0 : (andI (ds[l.var.toNat]?.getD 0) (domL l) != 0)
    · simp at h0
      rw [h0, hasB_zero'] at this
      cases this
    · rfl
  have hml : l ∈ posL ls ds := List.mem_filter.2 ⟨hm, hpos⟩
  intro i hi
  unfold upL
  split
  · rename_i e; rw [e] at hml; cases hml
  · rename_i k e
    rw [e, List.mem_singleton] at hml
    subst hml
    by_cases ei : l.var.toNat = i
    · subst ei
      rw [List.getElem?_set_self hvi]
      exact key l hm hlt
    · rw [List.getElem?_set_ne ei]
      exact hin i hi
  · exact hin i hi
theorem up_sub {ls : List Lit} {ds : List Int} (hv : clB ls ds.length = true) (hd : allB ds 0 63 = true) : ∀ i, i < ds.length → bits .and .i64 ((upL ls ds)[i]?.getD 0) (ds[i]?.getD 0) = (upL ls ds)[i]?.getD 0 := by
  have z : ∀ d : Fin 64, bits .and .i64 0 (d.val : Int) = 0 ∧ bits .and .i64 (d.val : Int) (d.val : Int) = (d.val : Int) := by decide +kernel
  have zz : ∀ d : Int, 0 ≤ d → d ≤ 63 → bits .and .i64 0 d = 0 ∧ bits .and .i64 d d = d := by
    intro d h0 h1
    obtain ⟨d, rfl⟩ := Int.eq_ofNat_of_zero_le h0
    exact z ⟨d, by omega⟩
  intro i hi
  have hdr := allB_at hd hi
  unfold upL
  split
  · rw [List.getElem?_replicate, if_pos hi]
    exact (zz _ hdr.1 hdr.2).1
  · rename_i k e
    have hk : k ∈ ls := (List.mem_filter.1 (by rw [show ls.filter (posB ds) = [k] from e]; exact List.mem_singleton.2 rfl)).1
    have hva := clB_vals hv hk
    by_cases ei : k.var.toNat = i
    · subst ei
      rw [List.getElem?_set_self hi]
      exact (and_dom_rng hdr.1 hdr.2 hva.1 hva.2).2.2
    · rw [List.getElem?_set_ne ei]
      exact (zz _ hdr.1 hdr.2).2
  · exact (zz _ hdr.1 hdr.2).2
end Go.Proofs.Ytolfjkdkbiicmaa
