/- The worklist's algorithm: plain facts. -/
import Derived.Test.YtipapmmjfoaddaaGreatProS
import Derived.Test.YtipapmmjfoaddaaGreatWkI
import Derived.Test.YtipapmmjfoaddaaGreatConI
namespace Go.Proofs.YtipapmmjfoaddaaGreat
open Go.ChangeShapes Go.WideShapes Go.ChangeAt Go.RowKit
set_option linter.unusedVariables false
set_option linter.unusedSimpArgs false

def varsAt (cs : List Con) (k : Nat) : List Int := match cs[k]? with | some c => c.vars | none => []
/-- The queue behind the first k constraints, where i has been filtered and ch has changed. -/
def nxQ (cs : List Con) (i : Int) (ch q : List Int) : Nat → List Int
  | 0 => q
  | k + 1 => if ((k : Int) != i && anyB (varsAt cs k) ch) = true then addW (nxQ cs i ch q k) k else nxQ cs i ch q k
def conAt (cs : List Con) (i : Int) : Con := cs[i.toNat]?.getD ⟨0, [], [], 0, []⟩
def chOf (c : Con) (ds : List Int) : List Int := chL c ds (supL c ds) c.vars.length
/-- One item of the queue. -/
def nxE (cs : List Con) (ds : List Int) (i : Int) (q : List Int) : List Int × List Int := (filL (conAt cs i) ds, nxQ cs i (chOf (conAt cs i) ds) q cs.length)
/-- The queue holds numbers of constraints, each once. -/
def OkQ (k : Nat) (q : List Int) : Prop := q.Nodup ∧ ∀ x ∈ q, 0 ≤ x ∧ x < (k : Int)
theorem okQ_le : ∀ {k : Nat} {q : List Int}, OkQ k q → q.length ≤ k
  | 0, q, h => by
    cases q with
    | nil => simp
    | cons x q => have := h.2 x (by simp); omega
  | k + 1, q, h => by
    have ih := okQ_le (k := k) (q := q.erase (k : Int)) ⟨h.1.erase _, fun x hx => by
      have h1 := (List.Nodup.mem_erase_iff h.1).1 hx
      have h2 := h.2 x h1.2
      have := h1.1
      omega⟩
    by_cases hm : (k : Int) ∈ q
    · rw [List.length_erase_of_mem hm] at ih
      omega
    · rw [List.erase_of_not_mem hm] at ih
      omega
theorem OkQ.add {k : Nat} {q : List Int} (h : OkQ k q) {x : Nat} (hx : x < k) : OkQ k (addW q x) := by
  unfold addW
  split
  · exact h
  · rename_i hm
    refine ⟨List.nodup_append.2 ⟨h.1, by simp, fun a ha b hb => by simp at hb; subst hb; exact fun e => hm (e ▸ ha)⟩, fun y hy => ?_⟩
    rcases List.mem_append.1 hy with hy | hy
    · exact h.2 y hy
    · simp at hy; subst hy; omega
theorem OkQ.nx {k : Nat} {cs : List Con} {i : Int} {ch q : List Int} (h : OkQ k q) : ∀ j, j ≤ k → OkQ k (nxQ cs i ch q j)
  | 0, _ => h
  | j + 1, hj => by
    have ih := OkQ.nx (cs := cs) (i := i) (ch := ch) h j (by omega)
    rw [nxQ]
    split
    · exact ih.add (by omega)
    · exact ih
theorem sub_addW {q : List Int} {x y : Int} (h : y ∈ q) : y ∈ addW q x := by unfold addW; split; (· exact h); (· simp [h])
theorem mem_addW (q : List Int) (x : Int) : x ∈ addW q x := by unfold addW; split; (· assumption); (· simp)
theorem sub_nx {cs : List Con} {i : Int} {ch q : List Int} {y : Int} (h : y ∈ q) : ∀ j, y ∈ nxQ cs i ch q j
  | 0 => h
  | j + 1 => by
    rw [nxQ]
    split
    · exact sub_addW (sub_nx h j)
    · exact sub_nx h j
theorem in_nx {cs : List Con} {i : Int} {ch q : List Int} {x : Nat} (hne : (x : Int) ≠ i) (ha : anyB (varsAt cs x) ch = true) : ∀ j, x < j → (x : Int) ∈ nxQ cs i ch q j
  | 0, h => by omega
  | j + 1, h => by
    rw [nxQ]
    by_cases e : x = j
    · subst e
      rw [if_pos (by simp [hne, ha])]
      exact mem_addW _ _
    · have ih := in_nx (q := q) hne ha j (by omega)
      split
      · exact sub_addW ih
      · exact ih
theorem nx_nil {cs : List Con} {i : Int} {q : List Int} : ∀ j, nxQ cs i [] q j = q
  | 0 => rfl
  | j + 1 => by rw [nxQ, if_neg (by simp [anyB])]; exact nx_nil j
theorem ch_mem {c : Con} {ds sup : List Int} : ∀ (n k : Nat), k < n → ¬ c.vars[k]?.getD 0 ∈ chL c ds sup n → (putL c ds sup k)[(c.vars[k]?.getD 0).toNat]?.getD 0 = sup[k]?.getD 0
  | 0, k, hk, _ => by omega
  | n + 1, k, hk, h => by
    rw [chL] at h
    by_cases e : k = n
    · subst e
      split at h
      · simp at h
      · rename_i hq; simpa using hq
    · refine ch_mem n k (by omega) (fun hm => h ?_)
      split
      · simp [hm]
      · exact hm
theorem put_before {c : Con} {ds sup : List Int} (h : VarsOk c ds.length) {k : Nat} (hk : k < c.vars.length) : (putL c ds sup k)[(c.vars[k]?.getD 0).toNat]? = ds[(c.vars[k]?.getD 0).toNat]? :=
  putL_other k (fun j hj e => by have := h.ne j k (by omega) hk e; omega)
theorem ch_none {c : Con} {ds : List Int} (h : VarsOk c ds.length) (hf : filL c ds = ds) : ∀ n, n ≤ c.vars.length → chL c ds (supL c ds) n = []
  | 0, _ => rfl
  | n + 1, hn => by
    rw [chL, if_neg]
    · exact ch_none h hf n (by omega)
    · rw [put_before h (by omega)]
      have := fil_var h (k := n) (by omega)
      rw [hf] at this
      rw [this]
      simp
/-- Every constraint is consistent that is neither in the queue nor taken. -/
def ConQ (cs : List Con) (ds q : List Int) (pe : Option Int) : Prop := ∀ (j : Nat) (c : Con), cs[j]? = some c → ¬ (j : Int) ∈ q → pe ≠ some (j : Int) → filL c ds = ds
theorem getD_some {xs ys : List Int} {v : Nat} (h1 : v < xs.length) (h2 : v < ys.length) (h : xs[v]?.getD 0 = ys[v]?.getD 0) : xs[v]? = ys[v]? := by
  rw [List.getElem?_eq_getElem h1, List.getElem?_eq_getElem h2] at h ⊢
  simpa using h
theorem conQ_next {cs : List Con} {n : Nat} {ds q : List Int} {i : Nat} {c : Con} (hc : cs[i]? = some c) (hd : OkD cs n ds) (h : ConQ cs ds q (some (i : Int))) : ConQ cs (filL c ds) (nxQ cs i (chOf c ds) q cs.length) none := by
  have hv := hd.vars c (List.mem_of_getElem? hc)
  rw [← hd.len] at hv
  intro j c' hc' hj _
  by_cases e : j = i
  · subst e
    rw [hc] at hc'
    obtain rfl := Option.some.inj hc'
    exact fil_idem hv hd.small
  · have hjq : ¬ (j : Int) ∈ q := fun hm => hj (sub_nx hm _)
    have hjl : j < cs.length := (List.getElem?_eq_some_iff.1 hc').1
    have hna : anyB c'.vars (chOf c ds) = false := by
      cases ha : anyB c'.vars (chOf c ds)
      · rfl
      · refine absurd (in_nx (q := q) (by omega) ?_ _ hjl) hj
        unfold varsAt
        rw [hc']
        exact ha
    have hf' := h j c' hc' hjq (by simp; omega)
    have hv' := hd.vars c' (List.mem_of_getElem? hc')
    rw [← hd.len] at hv'
    have ff := filL_facts (c := c) hd.small
    refine fil_local ff.1 hv' hd.small ff.2 (fun k hk => ?_) hf'
    rcases var_cases c ((c'.vars[k]?.getD 0).toNat) with ⟨k2, hk2, e2⟩ | ho
    · have hlt := hv.lt k2 hk2
      refine getD_some (by rw [ff.1, ← e2]; exact hlt) (by rw [← e2]; exact hlt) ?_
      rw [← e2, fil_var hv hk2]
      have hne : ¬ c.vars[k2]?.getD 0 ∈ chOf c ds := fun hm => by
        unfold anyB at hna
        rw [List.any_eq_false] at hna
        refine hna _ hm ?_
        have hs1 : c.vars[k2]?.getD 0 = c'.vars[k]?.getD 0 := by have h1 := hv.pos k2 hk2; have h2 := hv'.pos k hk; omega
        rw [hs1, List.getElem?_eq_getElem hk]
        simp
      rw [← ch_mem _ k2 hk2 hne, put_before hv hk2]
    · exact fil_other ho
/-- What the algorithm's end says. -/
theorem conQ_done {cs : List Con} {ds : List Int} (h : ConQ cs ds [] none) : consI cs ds = true := consI_true (fun j c _ hc => h j c hc (by simp) (by simp))
def muE (ds q : List Int) : Nat := bitsD ds * 7 + q.length
theorem mu_lt {cs : List Con} {n : Nat} {ds q : List Int} {i : Nat} {c : Con} (hc : cs[i]? = some c) (h6 : cs.length ≤ 6) (hd : OkD cs n ds) (hq : OkQ cs.length q) : muE (filL c ds) (nxQ cs i (chOf c ds) q cs.length) < muE ds ((i : Int) :: q) := by
  have hv := hd.vars c (List.mem_of_getElem? hc)
  rw [← hd.len] at hv
  have hf := hd.fil c
  have hql := okQ_le (hq.nx (cs := cs) (i := i) (ch := chOf c ds) cs.length (Nat.le_refl _))
  unfold muE
  rcases bits_lt (hf.len.trans hd.len.symm) (small_mem.1 hf.small) (small_mem.1 hd.small) (fil_le hv) with e | e
  · have hch : chOf c ds = [] := ch_none hv e _ (Nat.le_refl _)
    rw [hch, nx_nil, e]
    simp
  · simp
    omega
end Go.Proofs.YtipapmmjfoaddaaGreat
