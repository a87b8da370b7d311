/- Pure facts for the promises on Filter and Propagate. -/
import Derived.Test.YtjdbfiiaadphhaaProS
import Derived.Test.YtjdbfiiaadphhaaFi
import Derived.Test.YtjdbfiiaadphhaaLwI
namespace Go.Proofs.Ytjdbfiiaadphhaa
open Go.ChangeShapes Go.WideShapes Go.ChangeAt Go.RowKit
set_option linter.unusedVariables false
set_option linter.unusedSimpArgs false

theorem andD_le_fin : ∀ x y : Fin 64, (∀ a : Fin 6, hasB (x.val : Int) (a.val : Int) = true → hasB (y.val : Int) (a.val : Int) = true) → bits .and .i64 (x.val : Int) (y.val : Int) = (x.val : Int) := by decide +kernel
theorem andD_le {x y : Int} (h1 : 0 ≤ x) (h2 : x ≤ 63) (h3 : 0 ≤ y) (h4 : y ≤ 63) (h : ∀ a, hasB x a = true → hasB y a = true) : bits .and .i64 x y = x := by
  obtain ⟨x, rfl⟩ := Int.eq_ofNat_of_zero_le h1
  obtain ⟨y, rfl⟩ := Int.eq_ofNat_of_zero_le h3
  exact andD_le_fin ⟨x, by omega⟩ ⟨y, by omega⟩ (fun a ha => h _ ha)
theorem andD_fin : ∀ x y : Fin 64, (0 ≤ bits .and .i64 (x.val : Int) (y.val : Int) ∧ bits .and .i64 (x.val : Int) (y.val : Int) ≤ 63) ∧ ∀ a : Fin 6, hasB (bits .and .i64 (x.val : Int) (y.val : Int)) (a.val : Int) = (hasB (x.val : Int) (a.val : Int) && hasB (y.val : Int) (a.val : Int)) := by decide +kernel
theorem andD {x y : Int} (h1 : 0 ≤ x) (h2 : x ≤ 63) (h3 : 0 ≤ y) (h4 : y ≤ 63) : (0 ≤ bits .and .i64 x y ∧ bits .and .i64 x y ≤ 63) ∧ ∀ a, hasB (bits .and .i64 x y) a = true → hasB x a = true := by
  obtain ⟨x, rfl⟩ := Int.eq_ofNat_of_zero_le h1
  obtain ⟨y, rfl⟩ := Int.eq_ofNat_of_zero_le h3
  have := andD_fin ⟨x, by omega⟩ ⟨y, by omega⟩
  refine ⟨this.1, fun a ha => ?_⟩
  have hr := hasB_range ha
  obtain ⟨a, rfl⟩ := Int.eq_ofNat_of_zero_le hr.1
  have h := this.2 ⟨a, by omega⟩
  simp only at h
  rw [h, Bool.and_eq_true] at ha
  exact ha.1
theorem subB_le {a b : List Int} (hl : a.length = b.length) (ha : Small a 0 63) (hb : Small b 0 63) (h : leD a b) : subB a b = true :=
  subB_of hl (fun i hi => andD_le (ha i hi).1 (ha i hi).2 (hb i (by omega)).1 (hb i (by omega)).2 (h i))
theorem small_all {xs : List Int} {lo hi : Int} (h : Small xs lo hi) : allB xs lo hi = true := allB_true (fun j hj => wiB_true (h j hj).1 (h j hj).2)
theorem all_small {xs : List Int} {lo hi : Int} (h : allB xs lo hi = true) : Small xs lo hi := fun j hj => allB_at h hj
theorem okB_parts {c : Con} {ds : List Int} (h : okB c ds = true) : wiB ds.length 1 4 = true ∧ Small ds 0 63 ∧ vcB c ds.length = true := by
  unfold okB at h
  simp only [Bool.and_eq_true] at h
  exact ⟨h.1.1, all_small h.1.2, h.2⟩
theorem okB_same {c : Con} {ds es : List Int} (h : okB c ds = true) (hl : es.length = ds.length) (hs : Small es 0 63) : okB c es = true := by
  have h' := okB_parts h
  unfold okB
  rw [hl, h'.1, h'.2.2, small_all hs]
  rfl
theorem flt_ok {c : Con} {ds : List Int} (h : okB c ds = true) : fltL c ds = filL c ds := by unfold fltL; rw [if_pos h]
theorem flt_no {c : Con} {ds : List Int} (h : ¬ okB c ds = true) : fltL c ds = [] := by unfold fltL; rw [if_neg h]
theorem okB_of_len {c : Con} {ds : List Int} (h : (fltL c ds).length ≠ 0) : okB c ds = true := by
  by_cases hk : okB c ds = true
  · exact hk
  · rw [flt_no hk] at h; exact absurd rfl h
theorem flt_facts {c : Con} {ds : List Int} (h : okB c ds = true) : (fltL c ds).length = ds.length ∧ Small (fltL c ds) 0 63 := by
  rw [flt_ok h]; exact filL_facts (okB_parts h).2.1
theorem flt_idem {c : Con} {ds : List Int} (h : okB c ds = true) : fltL c (fltL c ds) = fltL c ds := by
  have hf := flt_facts h
  rw [flt_ok (okB_same h hf.1 hf.2), flt_ok h]
  exact fil_idem (varsOk_of (okB_parts h).2.2) (okB_parts h).2.1
theorem flt_mono {c : Con} {ds es : List Int} (h : okB c ds = true) (hl : es.length = ds.length) (hs : Small es 0 63) (hle : leD es ds) : subB (fltL c es) (fltL c ds) = true := by
  have he := okB_same h hl hs
  have f1 := flt_facts h
  have f2 := flt_facts he
  refine subB_le (by rw [f1.1, f2.1, hl]) f2.2 f1.2 ?_
  rw [flt_ok h, flt_ok he]
  have hv := varsOk_of (okB_parts h).2.2
  exact fil_mono (by rw [hl]; exact hv) hv hle
theorem leD_set {es ds : List Int} {i : Nat} {x : Int} (h : leD es ds) (hi : i < es.length) (hx : ∀ a, hasB x a = true → hasB (es[i]?.getD 0) a = true) : leD (es.set i x) ds := by
  intro v a ha
  by_cases e : i = v
  · subst e
    rw [List.getElem?_set_self hi] at ha
    exact h i a (hx a ha)
  · rw [List.getElem?_set_ne e] at ha
    exact h v a ha
theorem small_set {es : List Int} {lo hi : Int} {i : Nat} {x : Int} (h : Small es lo hi) (h1 : lo ≤ x) (h2 : x ≤ hi) : Small (es.set i x) lo hi := by
  intro j hj
  rw [List.length_set] at hj
  by_cases e : i = j
  · subst e
    rw [List.getElem?_set_self hj]
    exact ⟨h1, h2⟩
  · rw [List.getElem?_set_ne e]
    exact h j hj

/-! Propagation. -/
theorem vmB_parts {m : Mod} (h : vmB m = true) : wiB m.doms.length 1 4 = true ∧ Small m.doms 0 63 ∧ m.cons.length ≤ 6 ∧ consB m.cons m.doms.length = true := by
  unfold vmB at h
  simp only [Bool.and_eq_true] at h
  exact ⟨h.1.1.1, all_small h.1.1.2, of_decide_eq_true h.1.2, h.2⟩
theorem vmB_okD {m : Mod} (h : vmB m = true) : OkD m.cons m.doms.length m.doms := okD_of (vmB_parts h).2.1 (fun c hc => okC_mem h hc)
theorem pro_ok {m : Mod} (h : vmB m = true) : proM m = proL m.cons m.doms := by unfold proM; rw [if_pos h]
theorem pro_no {m : Mod} (h : ¬ vmB m = true) : proM m = [] := by unfold proM; rw [if_neg h]
theorem vmB_of_len {m : Mod} (h : (proM m).length ≠ 0) : vmB m = true := by
  by_cases hk : vmB m = true
  · exact hk
  · rw [pro_no hk] at h; exact absurd rfl h
theorem replicate_small (n : Nat) : Small (List.replicate n 0) 0 63 := by
  intro j hj
  rw [List.length_replicate] at hj
  rw [List.getElem?_replicate, if_pos hj]
  exact ⟨Int.le_refl _, by decide⟩
theorem pro_facts {m : Mod} (h : vmB m = true) : (proM m).length = m.doms.length ∧ Small (proM m) 0 63 ∧ leD (proM m) m.doms := by
  have hr := proL_res (vmB_okD h)
  rw [pro_ok h]
  rcases hr with ⟨_, o, _, l, _⟩ | ⟨e, _⟩
  · exact ⟨o.len, o.small, l⟩
  · rw [e]
    refine ⟨List.length_replicate .., replicate_small _, fun v a ha => ?_⟩
    rw [List.getElem?_replicate] at ha
    split at ha <;> (simp only [Option.getD_some, Option.getD_none] at ha; rw [hasB_zero] at ha; cases ha)
theorem vmB_same {m : Mod} {ds : List Int} (h : vmB m = true) (hl : ds.length = m.doms.length) (hs : Small ds 0 63) : vmB ⟨ds, m.cons⟩ = true := by
  have h' := vmB_parts h
  unfold vmB
  simp only
  rw [hl, h'.1, h'.2.2.2, small_all hs, decide_eq_true h'.2.2.1]
  rfl
/-- All domains are empty, or none is, and then the constraints leave them as they are. -/
theorem pro_dich {m : Mod} (h : vmB m = true) : proM m = List.replicate m.doms.length 0 ∨ (emptyB (proM m) = false ∧ FixD m.cons (proM m)) := by
  have hr := proL_res (vmB_okD h)
  rw [pro_ok h]
  rcases hr with ⟨f, _, e, _, _⟩ | ⟨e, _⟩
  · exact .inr ⟨e, f⟩
  · exact .inl e
theorem not_empty_at {ds : List Int} (h : emptyB ds = false) {i : Nat} (hi : i < ds.length) : ds[i]?.getD 0 ≠ 0 := by
  unfold emptyB at h
  rw [decide_eq_false_iff_not] at h
  intro e
  apply h
  rw [List.getElem?_eq_getElem hi] at e
  rw [← show ds[i] = 0 from e]
  exact List.getElem_mem hi
theorem pro_alike {m : Mod} (h : vmB m = true) {i j : Nat} (hi : i < (proM m).length) (hj : j < (proM m).length) : ((proM m)[i]?.getD 0 == 0) = ((proM m)[j]?.getD 0 == 0) := by
  rcases pro_dich h with e | ⟨e, _⟩
  · have f := (pro_facts h).1
    rw [f] at hi hj
    rw [e, List.getElem?_replicate, List.getElem?_replicate, if_pos hi, if_pos hj]
  · have h1 := not_empty_at e hi
    have h2 := not_empty_at e hj
    rw [beq_eq_false_iff_ne.2 h1, beq_eq_false_iff_ne.2 h2]
theorem empty_replicate {n : Nat} (h : 1 ≤ n) : emptyB (List.replicate n 0) = true := by
  unfold emptyB
  rw [decide_eq_true_iff, List.mem_replicate]
  exact ⟨by omega, rfl⟩
theorem pro_idem {m : Mod} (h : vmB m = true) : proM ⟨proM m, m.cons⟩ = proM m := by
  have f := pro_facts h
  have h1 := wiB_in (vmB_parts h).1
  have hv := vmB_same h f.1 f.2.1
  have hk : OkD m.cons (proM m).length (proM m) := vmB_okD hv
  rw [pro_ok hv]
  refine (proL_eq hk ?_).symm
  rcases pro_dich h with e | ⟨e, fx⟩
  · have hq : emptyB (proM m) = true := by rw [e]; exact empty_replicate (by omega)
    have := (RunD.start hk).fail hq
    rw [f.1] at this
    rw [e] at this ⊢
    rw [List.length_replicate]
    exact this
  · exact (RunD.start hk).done (consI_iff.2 fx) e
theorem pro_con {m : Mod} (h : vmB m = true) : isConB ⟨proM m, m.cons⟩ = !((proM m)[0]?.getD 0 == 0) := by
  have f := pro_facts h
  have h1 := wiB_in (vmB_parts h).1
  have hv := vmB_same h f.1 f.2.1
  unfold isConB
  rw [hv]
  simp only
  rcases pro_dich h with e | ⟨e, fx⟩
  · rw [e, empty_replicate (by omega), List.getElem?_replicate, if_pos (by omega)]
    rfl
  · rw [e, consI_iff.2 fx, beq_eq_false_iff_ne.2 (not_empty_at e (by omega))]
    rfl
theorem vmB_rev {m : Mod} : vmB ⟨m.doms, m.cons.reverse⟩ = vmB m := by
  unfold vmB consB
  simp only
  rw [List.length_reverse, List.all_reverse]
theorem pro_rev (m : Mod) : proM ⟨m.doms, m.cons.reverse⟩ = proM m := by
  by_cases h : vmB m = true
  · have hv : vmB ⟨m.doms, m.cons.reverse⟩ = true := by rw [vmB_rev]; exact h
    rw [pro_ok hv, pro_ok h]
    have hr := proL_res (vmB_okD h)
    have hk : OkD m.cons.reverse m.doms.length m.doms := vmB_okD hv
    refine (proL_eq hk ?_).symm
    have o1 : ∀ {n e}, OkD m.cons n e → OkD m.cons.reverse n e := fun o => o.sub (fun c hc => List.mem_reverse.1 hc)
    have o2 : ∀ {n e}, OkD m.cons.reverse n e → OkD m.cons n e := fun o => o.sub (fun c hc => List.mem_reverse.2 hc)
    have f1 : ∀ {e}, FixD m.cons e → FixD m.cons.reverse e := fun o c hc => o c (List.mem_reverse.1 hc)
    have f2 : ∀ {e}, FixD m.cons.reverse e → FixD m.cons e := fun o c hc => o c (List.mem_reverse.2 hc)
    rcases hr with ⟨f, o, e, l, g⟩ | ⟨e, x, xo, xe, xg⟩
    · exact .inl ⟨f1 f, o1 o, e, l, fun y hy hf hl => g y (o2 hy) (f2 hf) hl⟩
    · exact .inr ⟨e, x, o1 xo, xe, fun y hy hf hl => xg y (o2 hy) (f2 hf) hl⟩
  · rw [pro_no h, pro_no (by rw [vmB_rev]; exact h)]
end Go.Proofs.Ytjdbfiiaadphhaa
