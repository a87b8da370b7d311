/- The search: plain facts. Which nodes are visited, in which order; how many there are at most; which of them are solutions. -/
import Derived.Test.YtjdbfiiaadphhaaPropP
namespace Go.Proofs.Ytjdbfiiaadphhaa
open Go.ChangeShapes Go.WideShapes Go.ChangeAt Go.RowKit
set_option linter.unusedVariables false
set_option linter.unusedSimpArgs false

/-- The first variable with more than one value. -/
def brV (p : List Int) : Option Nat := p.findIdx? fun d => decide (1 < cntD d)
/-- The children of a node, the first one first. -/
def kids (p : List Int) : List (List Int) := match brV p with | none => [] | some v => (vL (p[v]?.getD 0) 6).map fun a => p.set v (2 ^ a.toNat)
/-- The nodes below d, their propagated domains, in the order of the visits. -/
def visF (cs : List Con) : Nat → List Int → List (List Int)
  | 0, _ => []
  | k + 1, d => proL cs d :: (kids (proL cs d)).flatMap (visF cs k)
def visL (cs : List Con) (d : List Int) : List (List Int) := visF cs (bitsD d + 1) d

theorem proL_ok {cs : List Con} {n : Nat} {d : List Int} (h : OkD cs n d) : OkD cs n (proL cs d) ∧ leD (proL cs d) d := by
  rcases proL_res h with ⟨_, o, _, l, _⟩ | ⟨e, _⟩
  · exact ⟨o, l⟩
  · rw [e]
    refine ⟨⟨by simp, ?_, h.vars⟩, fun v a ha => ?_⟩
    · rw [small_mem]; intro x hx; have := (List.mem_replicate.1 hx).2; omega
    · have : (List.replicate n (0 : Int))[v]?.getD 0 = 0 := by rw [List.getElem?_replicate]; split <;> rfl
      rw [this, hasB_zero] at ha
      cases ha
theorem pow_has_fin : ∀ b a : Fin 6, hasB ((2 : Int) ^ b.val) (a.val : Int) = decide (a.val = b.val) := by decide +kernel
theorem pow_has {b : Nat} (hb : b < 6) {a : Int} (h : hasB ((2 : Int) ^ b) a = true) : a = b := by
  have hr := hasB_range h
  have := pow_has_fin ⟨b, hb⟩ ⟨a.toNat, by omega⟩
  simp only [Int.toNat_of_nonneg hr.1] at this
  rw [h] at this
  have := of_decide_eq_true this.symm
  omega
theorem pow_in_fin : ∀ b : Fin 6, 0 ≤ ((2 : Int) ^ b.val) ∧ ((2 : Int) ^ b.val) ≤ 63 ∧ cntD ((2 : Int) ^ b.val) = 1 := by decide +kernel
theorem pow_in {b : Nat} (hb : b < 6) : 0 ≤ ((2 : Int) ^ b) ∧ ((2 : Int) ^ b) ≤ 63 ∧ cntD ((2 : Int) ^ b) = 1 := pow_in_fin ⟨b, hb⟩
theorem vL_cnt_fin : ∀ d : Fin 64, (vL (d.val : Int) 6).length = cntD (d.val : Int) := by decide +kernel
theorem vL_cnt {d : Int} (h1 : 0 ≤ d) (h2 : d ≤ 63) : (vL d 6).length = cntD d := by
  have := vL_cnt_fin ⟨d.toNat, by omega⟩
  simpa only [Int.toNat_of_nonneg h1] using this
theorem brV_some {p : List Int} {v : Nat} (h : brV p = some v) : v < p.length ∧ 1 < cntD (p[v]?.getD 0) ∧ ∀ j, j < v → cntD (p[j]?.getD 0) ≤ 1 := by
  unfold brV at h
  obtain ⟨h1, h2, h3⟩ := List.findIdx?_eq_some_iff_getElem.1 h
  refine ⟨h1, ?_, fun j hj => ?_⟩
  · rw [List.getElem?_eq_getElem h1]; simpa using h2
  · have := h3 j hj
    rw [List.getElem?_eq_getElem (by omega)]
    simpa using this
theorem kid_mem {p d' : List Int} (h : d' ∈ kids p) : ∃ v a, brV p = some v ∧ a < 6 ∧ hasB (p[v]?.getD 0) (a : Nat) = true ∧ d' = p.set v (2 ^ a) := by
  unfold kids at h
  cases hv : brV p with
  | none => rw [hv] at h; simp at h
  | some v =>
    rw [hv] at h
    obtain ⟨a, ha, rfl⟩ := List.mem_map.1 h
    obtain ⟨h1, h2, h3⟩ := vL_iff.1 ha
    exact ⟨v, a.toNat, rfl, by omega, by rw [Int.toNat_of_nonneg h1]; exact h3, rfl⟩
theorem kid_ok {cs : List Con} {n : Nat} {p d' : List Int} (hp : OkD cs n p) (h : d' ∈ kids p) : OkD cs n d' ∧ bitsD d' < bitsD p := by
  obtain ⟨v, a, hv, ha, hh, rfl⟩ := kid_mem h
  obtain ⟨h1, h2, _⟩ := brV_some hv
  have hpw := pow_in ha
  have hs : Small (p.set v (2 ^ a)) 0 63 := by
    rw [small_mem]
    intro x hx
    rcases List.mem_or_eq_of_mem_set hx with hx | rfl
    · exact small_mem.1 hp.small x hx
    · exact ⟨hpw.1, hpw.2.1⟩
  refine ⟨⟨by simpa using hp.len, hs, hp.vars⟩, ?_⟩
  have hle : leD (p.set v (2 ^ a)) p := by
    intro j b hb
    by_cases e : j = v
    · subst e
      rw [List.getElem?_set_self h1] at hb
      rw [pow_has ha hb]
      exact hh
    · rw [List.getElem?_set_ne (Ne.symm e)] at hb
      exact hb
  rcases bits_lt (by simp) (small_mem.1 hs) (small_mem.1 hp.small) hle with e | e
  · have : (p.set v (2 ^ a))[v]?.getD 0 = p[v]?.getD 0 := by rw [e]
    rw [List.getElem?_set_self h1] at this
    rw [← this] at h2
    simp only [Option.getD_some] at h2
    rw [hpw.2.2] at h2
    omega
  · exact e
theorem bits_le {e d : List Int} (hl : e.length = d.length) (he : Small e 0 63) (hd : Small d 0 63) (h : leD e d) : bitsD e ≤ bitsD d := by
  rcases bits_lt hl (small_mem.1 he) (small_mem.1 hd) h with e | e
  · rw [e]; exact Nat.le_refl _
  · omega
theorem flatMap_congr' {α β : Type} {l : List α} {f g : α → List β} (h : ∀ x ∈ l, f x = g x) : l.flatMap f = l.flatMap g := by
  induction l with
  | nil => rfl
  | cons x l ih => rw [List.flatMap_cons, List.flatMap_cons, h x (by simp), ih (fun y hy => h y (by simp [hy]))]
theorem proL_bits {cs : List Con} {n : Nat} {d : List Int} (h : OkD cs n d) : bitsD (proL cs d) ≤ bitsD d := bits_le ((proL_ok h).1.len.trans h.len.symm) (proL_ok h).1.small h.small (proL_ok h).2
theorem visF_eq {cs : List Con} {n : Nat} : ∀ (k k' : Nat) (d : List Int), OkD cs n d → bitsD d < k → bitsD d < k' → visF cs k d = visF cs k' d
  | 0, _, d, _, h, _ => by omega
  | _, 0, d, _, _, h => by omega
  | k + 1, k' + 1, d, ho, h, h' => by
    rw [visF, visF]
    congr 1
    refine flatMap_congr' (fun d' hd' => ?_)
    have hk := kid_ok (proL_ok ho).1 hd'
    have hb := proL_bits ho
    exact visF_eq k k' d' hk.1 (by omega) (by omega)
theorem visL_eq {cs : List Con} {n : Nat} {d : List Int} (h : OkD cs n d) : visL cs d = proL cs d :: (kids (proL cs d)).flatMap (visL cs) := by
  unfold visL
  rw [visF]
  congr 1
  refine flatMap_congr' (fun d' hd' => ?_)
  have hk := kid_ok (proL_ok h).1 hd'
  have hb := proL_bits h
  exact visF_eq _ _ d' hk.1 (by omega) (by omega)

/-! ### How many visits there are -/
/-- The number of values, at least one. -/
def cnt1 (x : Int) : Nat := max 1 (cntD x)
def prD : List Int → Nat
  | [] => 1
  | x :: xs => cnt1 x * prD xs
theorem cnt1_pos (x : Int) : 1 ≤ cnt1 x := by unfold cnt1; omega
theorem prD_pos : ∀ p, 1 ≤ prD p
  | [] => Nat.le_refl _
  | x :: xs => by have h1 := cnt1_pos x; have h2 := prD_pos xs; unfold prD; exact Nat.mul_pos h1 h2
theorem prD_set : ∀ (p : List Int) (v : Nat) (y : Int), v < p.length → prD (p.set v y) * cnt1 (p[v]?.getD 0) = prD p * cnt1 y
  | [], v, y, h => by simp at h
  | x :: xs, 0, y, h => by
    simp only [List.set_cons_zero, prD, List.getElem?_cons_zero, Option.getD_some]
    rw [Nat.mul_comm (cnt1 y), Nat.mul_comm (cnt1 x), Nat.mul_assoc, Nat.mul_assoc, Nat.mul_comm (cnt1 y)]
  | x :: xs, v + 1, y, h => by
    have ih := prD_set xs v y (by simpa using h)
    simp only [List.set_cons_succ, prD, List.getElem?_cons_succ]
    rw [Nat.mul_assoc, ih, Nat.mul_assoc]
theorem cnt_le_fin : ∀ x y : Fin 64, (∀ a : Fin 6, hasB (x.val : Int) (a.val : Int) = true → hasB (y.val : Int) (a.val : Int) = true) → cntD (x.val : Int) ≤ cntD (y.val : Int) := by decide +kernel
theorem cnt_le {x y : Int} (h1 : 0 ≤ x) (h2 : x ≤ 63) (h3 : 0 ≤ y) (h4 : y ≤ 63) (h : ∀ a, hasB x a = true → hasB y a = true) : cntD x ≤ cntD y := by
  rcases cnt_lt h1 h2 h3 h4 h with e | e
  · rw [e]; exact Nat.le_refl _
  · omega
theorem prD_le : ∀ {e d : List Int}, e.length = d.length → (∀ x ∈ e, 0 ≤ x ∧ x ≤ 63) → (∀ x ∈ d, 0 ≤ x ∧ x ≤ 63) → leD e d → prD e ≤ prD d
  | [], [], _, _, _, _ => Nat.le_refl _
  | [], _ :: _, hl, _, _, _ => by simp at hl
  | _ :: _, [], hl, _, _, _ => by simp at hl
  | x :: e, y :: d, hl, he, hd, h => by
    have h0 := cnt_le (he x (by simp)).1 (he x (by simp)).2 (hd y (by simp)).1 (hd y (by simp)).2 (fun a ha => by simpa using h 0 a (by simpa using ha))
    have ih := prD_le (e := e) (d := d) (by simpa using hl) (fun z hz => he z (by simp [hz])) (fun z hz => hd z (by simp [hz])) (fun v a ha => by simpa using h (v + 1) a (by simpa using ha))
    unfold prD
    exact Nat.mul_le_mul (by unfold cnt1; omega) ih
theorem cnt_six (x : Int) : cntD x ≤ 6 := by
  unfold cntD
  exact Nat.le_trans (List.length_filter_le _ _) (by simp)
theorem prD_bound : ∀ p : List Int, p.length ≤ 4 → prD p ≤ 6 ^ p.length
  | [], _ => Nat.le_refl _
  | x :: xs, h => by
    have ih := prD_bound xs (by simp at h; omega)
    unfold prD
    rw [List.length_cons, Nat.pow_succ, Nat.mul_comm (6 ^ _)]
    exact Nat.mul_le_mul (by have := cnt_six x; unfold cnt1; omega) ih
theorem flatMap_len {α β : Type} (f : α → List β) (q : Nat) : ∀ l : List α, (∀ x ∈ l, (f x).length + 1 ≤ q) → (l.flatMap f).length + l.length ≤ l.length * q
  | [], _ => by simp
  | x :: l, h => by
    have ih := flatMap_len f q l (fun y hy => h y (by simp [hy]))
    have h0 := h x (by simp)
    rw [List.flatMap_cons, List.length_append, List.length_cons, Nat.succ_mul]
    omega
theorem visF_len {cs : List Con} {n : Nat} : ∀ (k : Nat) (d : List Int), OkD cs n d → (visF cs k d).length + 1 ≤ 2 * prD d
  | 0, d, _ => by have := prD_pos d; simp [visF]; omega
  | k + 1, d, h => by
    obtain ⟨hp, hle⟩ := proL_ok h
    have hpr := prD_le (hp.len.trans h.len.symm) (small_mem.1 hp.small) (small_mem.1 h.small) hle
    rw [visF, List.length_cons]
    cases hv : brV (proL cs d) with
    | none =>
      have : kids (proL cs d) = [] := by unfold kids; rw [hv]
      rw [this]
      have := prD_pos d
      simp
      omega
    | some v =>
      obtain ⟨h1, h2, _⟩ := brV_some hv
      have hx := small_mem.1 hp.small ((proL cs d)[v]?.getD 0) (by rw [List.getElem?_eq_getElem h1]; exact List.getElem_mem h1)
      have hlen : (kids (proL cs d)).length = cntD ((proL cs d)[v]?.getD 0) := by unfold kids; rw [hv]; simp only [List.length_map]; exact vL_cnt hx.1 hx.2
      obtain ⟨q, hq⟩ : ∃ q, q * cntD ((proL cs d)[v]?.getD 0) = prD (proL cs d) ∧ ∀ d' ∈ kids (proL cs d), prD d' = q := by
        have hc : cnt1 ((proL cs d)[v]?.getD 0) = cntD ((proL cs d)[v]?.getD 0) := by unfold cnt1; omega
        refine ⟨prD ((proL cs d).set v 1), ?_, fun d' hd' => ?_⟩
        · have := prD_set (proL cs d) v 1 h1
          rw [hc] at this
          rw [this, show cnt1 1 = 1 from by decide +kernel, Nat.mul_one]
        · obtain ⟨v', a, hv', ha, _, rfl⟩ := kid_mem hd'
          rw [hv] at hv'
          obtain rfl := Option.some.inj hv'
          have e1 := prD_set (proL cs d) v (2 ^ a) h1
          have e2 := prD_set (proL cs d) v 1 h1
          rw [show cnt1 (2 ^ a) = 1 from by unfold cnt1; rw [(pow_in ha).2.2]; rfl] at e1
          rw [show cnt1 1 = 1 from by decide +kernel] at e2
          exact Nat.eq_of_mul_eq_mul_right (cnt1_pos _) (e1.trans e2.symm)
      have hfl := flatMap_len (visF cs k) (2 * q) (kids (proL cs d)) (fun d' hd' => by
        have := visF_len k d' (kid_ok hp hd').1
        rw [hq.2 d' hd'] at this
        exact this)
      rw [hlen] at hfl
      have hmul : cntD ((proL cs d)[v]?.getD 0) * (2 * q) = 2 * prD (proL cs d) := by rw [← hq.1, Nat.mul_comm q, Nat.mul_left_comm]
      omega
theorem visL_len {cs : List Con} {n : Nat} {d : List Int} (h : OkD cs n d) (h4 : n ≤ 4) : (visL cs d).length ≤ 2591 := by
  have h1 := visF_len (bitsD d + 1) d h
  have hl := h.len
  have h2 := prD_bound d (by omega)
  have h3 : 6 ^ d.length ≤ 6 ^ 4 := Nat.pow_le_pow_right (by omega) (by omega)
  unfold visL
  have : (6 : Nat) ^ 4 = 1296 := by decide
  omega

/-! ### Solutions -/
/-- The values of domains that have one each. -/
def oneT (p : List Int) : Option (List Int) := if p.all (fun d => decide (cntD d = 1)) then some (p.map fun d => (vL d 6).headD 0) else none
/-- The solutions in the order of the visits. -/
def solL (cs : List Con) (d : List Int) : List (List Int) := (visL cs d).filterMap oneT
theorem oneT_none_of_br {p : List Int} {v : Nat} (h : brV p = some v) : oneT p = none := by
  obtain ⟨h1, h2, _⟩ := brV_some h
  unfold oneT
  rw [if_neg]
  intro hall
  have := List.all_eq_true.1 hall p[v] (List.getElem_mem h1)
  rw [List.getElem?_eq_getElem h1] at h2
  simp only [Option.getD_some] at h2
  have := of_decide_eq_true this
  omega
theorem kids_nil_of_one {p x : List Int} (h : oneT p = some x) : kids p = [] := by
  unfold kids
  cases hv : brV p with
  | none => rfl
  | some v => rw [oneT_none_of_br hv] at h; cases h
theorem filterMap_flatMap' {α β γ : Type} (f : β → Option γ) (g : α → List β) : ∀ l : List α, (l.flatMap g).filterMap f = l.flatMap fun x => (g x).filterMap f
  | [] => rfl
  | x :: l => by rw [List.flatMap_cons, List.filterMap_append, List.flatMap_cons, filterMap_flatMap' f g l]
theorem solL_eq {cs : List Con} {n : Nat} {d : List Int} (h : OkD cs n d) : solL cs d = match oneT (proL cs d) with | some x => [x] | none => (kids (proL cs d)).flatMap (solL cs) := by
  unfold solL
  rw [visL_eq h, List.filterMap_cons]
  cases ho : oneT (proL cs d) with
  | none => exact filterMap_flatMap' _ _ _
  | some x => rw [kids_nil_of_one ho]; rfl
theorem filterMap_len {α β : Type} (f : α → Option β) : ∀ l : List α, (l.filterMap f).length ≤ l.length
  | [] => Nat.le_refl _
  | x :: l => by rw [List.filterMap_cons]; have := filterMap_len f l; split <;> simp <;> omega
theorem solL_len {cs : List Con} {n : Nat} {d : List Int} (h : OkD cs n d) (h4 : n ≤ 4) : (solL cs d).length ≤ 2591 := Nat.le_trans (filterMap_len _ _) (visL_len h h4)

/-! ### A search that ends where k solutions are found -/
/-- The visits up to the k-th solution. -/
def cutV : Nat → List (List Int) → List (List Int)
  | 0, _ => []
  | _, [] => []
  | k + 1, p :: l => p :: cutV (if (oneT p).isSome then k else k + 1) l
theorem cutV_zero (l : List (List Int)) : cutV 0 l = [] := by unfold cutV; rfl
theorem cutV_nil (k : Nat) : cutV k [] = [] := by cases k <;> rfl
theorem cutV_append : ∀ (a : List (List Int)) (k : Nat) (b : List (List Int)), cutV k (a ++ b) = cutV k a ++ cutV (k - (a.filterMap oneT).length) b
  | [], k, b => by simp [cutV_nil]
  | p :: a, 0, b => by simp [cutV_zero]
  | p :: a, k + 1, b => by
    rw [List.cons_append, cutV, cutV, List.cons_append, cutV_append a]
    congr 2
    rw [List.filterMap_cons]
    cases h : oneT p <;> simp
theorem cutV_le : ∀ (l : List (List Int)) (k : Nat), (cutV k l).length ≤ l.length
  | [], k => by simp [cutV_nil]
  | p :: l, 0 => by simp [cutV_zero]
  | p :: l, k + 1 => by rw [cutV]; have := cutV_le l (if (oneT p).isSome then k else k + 1); simp; omega
/-- One node of the reference's search, which stops where L solutions are found; rows: those found so far, N: the nodes so far. -/
def brF (cs : List Con) (L : Nat) : Nat → List Int → List (List Int) × Nat → List (List Int) × Nat
  | 0, _, s => s
  | k + 1, d, s => match oneT (proL cs d) with
    | some x => (s.1 ++ [x], s.2 + 1)
    | none => (kids (proL cs d)).foldl (fun s d' => if s.1.length < L then brF cs L k d' s else s) (s.1, s.2 + 1)
theorem brF_eq (cs : List Con) (L : Nat) : ∀ (k : Nat) (d : List Int) (s : List (List Int) × Nat), s.1.length < L →
    brF cs L k d s = (s.1 ++ ((visF cs k d).filterMap oneT).take (L - s.1.length), s.2 + (cutV (L - s.1.length) (visF cs k d)).length)
  | 0, d, s, h => by simp [brF, visF, cutV_nil]
  | k + 1, d, s, h => by
    obtain ⟨q, hq⟩ : ∃ q, L - s.1.length = q + 1 := ⟨L - s.1.length - 1, by omega⟩
    have inner : ∀ (ks : List (List Int)) (s : List (List Int) × Nat), ks.foldl (fun s d' => if s.1.length < L then brF cs L k d' s else s) s = (s.1 ++ ((ks.flatMap (visF cs k)).filterMap oneT).take (L - s.1.length), s.2 + (cutV (L - s.1.length) (ks.flatMap (visF cs k))).length) := by
      intro ks
      induction ks with
      | nil => intro s; simp [cutV_nil]
      | cons d' ks ih =>
        intro s
        rw [List.foldl_cons, ih, List.flatMap_cons, List.filterMap_append, cutV_append]
        by_cases hs : s.1.length < L
        · rw [if_pos hs, brF_eq cs L k d' s hs]
          simp only [List.length_append, List.length_take]
          refine Prod.ext ?_ ?_
          · simp only
            rw [List.take_append, List.append_assoc]
            congr 3
            omega
          · simp only
            rw [show L - (s.1.length + min (L - s.1.length) ((visF cs k d').filterMap oneT).length) = L - s.1.length - ((visF cs k d').filterMap oneT).length from by omega]
            omega
        · rw [if_neg hs]
          have h0 : L - s.1.length = 0 := by omega
          rw [h0]
          simp [cutV_zero]
    rw [brF, visF, hq, cutV, List.filterMap_cons]
    cases ho : oneT (proL cs d) with
    | some x =>
      rw [kids_nil_of_one ho]
      simp [cutV_nil]
    | none =>
      simp only
      rw [inner]
      simp only [hq, Option.isSome_none, Bool.false_eq_true, if_false, List.length_cons]
      refine Prod.ext rfl ?_
      simp only
      omega
theorem brF_len {cs : List Con} {L k : Nat} {d : List Int} {s : List (List Int) × Nat} (h : s.1.length < L) : s.1.length ≤ (brF cs L k d s).1.length := by
  rw [brF_eq cs L k d s h]; simp
end Go.Proofs.Ytjdbfiiaadphhaa
