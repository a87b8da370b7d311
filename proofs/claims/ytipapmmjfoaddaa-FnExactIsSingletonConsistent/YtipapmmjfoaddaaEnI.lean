/- The worklist's algorithm: plain facts. The program's propagation. -/
import Derived.Test.YtipapmmjfoaddaaProS
import Derived.Test.YtipapmmjfoaddaaWkI
import Derived.Test.YtipapmmjfoaddaaConI
import Derived.Lib.SliceRun

/-! The worklist's algorithm: plain facts. -/
namespace Go.Proofs.Ytipapmmjfoaddaa
open Go.ChangeShapes Go.WideShapes Go.ChangeAt Go.RowKit
set_option linter.unusedVariables false
set_option linter.unusedSimpArgs false

def varsAt (cs : List Con) (k : Nat) : List Int := match cs[k]? with | some c => c.vars | none => []
/-- The queue behind the first k constraints, where i has been filtered and ch has changed. -/
def nxQ (cs : List Con) (i : Int) (ch q : List Int) : Nat → List Int
  | 0 => q
  | k + 1 => if ((k : Int) != i && anyB (varsAt cs k) ch) = true then addW (nxQ cs i ch q k) k else nxQ cs i ch q k
def conAt (cs : List Con) (i : Int) : Con := cs[i.toNat]?.getD ⟨0, [], [], 0, []⟩
def chOf (c : Con) (ds : List Int) : List Int := chL c ds (supL c ds) c.vars.length
/-- One item of the queue. -/
def nxE (cs : List Con) (ds : List Int) (i : Int) (q : List Int) : List Int × List Int := (filL (conAt cs i) ds, nxQ cs i (chOf (conAt cs i) ds) q cs.length)
/-- The queue holds numbers of constraints, each once. -/
def OkQ (k : Nat) (q : List Int) : Prop := q.Nodup ∧ ∀ x ∈ q, 0 ≤ x ∧ x < (k : Int)
theorem okQ_le : ∀ {k : Nat} {q : List Int}, OkQ k q → q.length ≤ k
  | 0, q, h => by
    cases q with
    | nil => simp
    | cons x q => have := h.2 x (by simp); omega
  | k + 1, q, h => by
    have ih := okQ_le (k := k) (q := q.erase (k : Int)) ⟨h.1.erase _, fun x hx => by
      have h1 := (List.Nodup.mem_erase_iff h.1).1 hx
      have h2 := h.2 x h1.2
      have := h1.1
      omega⟩
    by_cases hm : (k : Int) ∈ q
    · rw [List.length_erase_of_mem hm] at ih
      omega
    · rw [List.erase_of_not_mem hm] at ih
      omega
theorem OkQ.add {k : Nat} {q : List Int} (h : OkQ k q) {x : Nat} (hx : x < k) : OkQ k (addW q x) := by
  unfold addW
  split
  · exact h
  · rename_i hm
    refine ⟨List.nodup_append.2 ⟨h.1, by simp, fun a ha b hb => by simp at hb; subst hb; exact fun e => hm (e ▸ ha)⟩, fun y hy => ?_⟩
    rcases List.mem_append.1 hy with hy | hy
    · exact h.2 y hy
    · simp at hy; subst hy; omega
theorem OkQ.nx {k : Nat} {cs : List Con} {i : Int} {ch q : List Int} (h : OkQ k q) : ∀ j, j ≤ k → OkQ k (nxQ cs i ch q j)
  | 0, _ => h
  | j + 1, hj => by
    have ih := OkQ.nx (cs := cs) (i := i) (ch := ch) h j (by omega)
    rw [nxQ]
    split
    · exact ih.add (by omega)
    · exact ih
theorem sub_addW {q : List Int} {x y : Int} (h : y ∈ q) : y ∈ addW q x := by unfold addW; split; (· exact h); (· simp [h])
theorem mem_addW (q : List Int) (x : Int) : x ∈ addW q x := by unfold addW; split; (· assumption); (· simp)
theorem sub_nx {cs : List Con} {i : Int} {ch q : List Int} {y : Int} (h : y ∈ q) : ∀ j, y ∈ nxQ cs i ch q j
  | 0 => h
  | j + 1 => by
    rw [nxQ]
    split
    · exact sub_addW (sub_nx h j)
    · exact sub_nx h j
theorem in_nx {cs : List Con} {i : Int} {ch q : List Int} {x : Nat} (hne : (x : Int) ≠ i) (ha : anyB (varsAt cs x) ch = true) : ∀ j, x < j → (x : Int) ∈ nxQ cs i ch q j
  | 0, h => by omega
  | j + 1, h => by
    rw [nxQ]
    by_cases e : x = j
    · subst e
      rw [if_pos (by simp [hne, ha])]
      exact mem_addW _ _
    · have ih := in_nx (q := q) hne ha j (by omega)
      split
      · exact sub_addW ih
      · exact ih
theorem nx_nil {cs : List Con} {i : Int} {q : List Int} : ∀ j, nxQ cs i [] q j = q
  | 0 => rfl
  | j + 1 => by rw [nxQ, if_neg (by simp [anyB])]; exact nx_nil j
theorem ch_mem {c : Con} {ds sup : List Int} : ∀ (n k : Nat), k < n → ¬ c.vars[k]?.getD 0 ∈ chL c ds sup n → (putL c ds sup k)[(c.vars[k]?.getD 0).toNat]?.getD 0 = sup[k]?.getD 0
  | 0, k, hk, _ => by omega
  | n + 1, k, hk, h => by
    rw [chL] at h
    by_cases e : k = n
    · subst e
      split at h
      · simp at h
      · rename_i hq; simpa using hq
    · refine ch_mem n k (by omega) (fun hm => h ?_)
      split
      · simp [hm]
      · exact hm
theorem put_before {c : Con} {ds sup : List Int} (h : VarsOk c ds.length) {k : Nat} (hk : k < c.vars.length) : (putL c ds sup k)[(c.vars[k]?.getD 0).toNat]? = ds[(c.vars[k]?.getD 0).toNat]? :=
  putL_other k (fun j hj e => by have := h.ne j k (by omega) hk e; omega)
theorem ch_none {c : Con} {ds : List Int} (h : VarsOk c ds.length) (hf : filL c ds = ds) : ∀ n, n ≤ c.vars.length → chL c ds (supL c ds) n = []
  | 0, _ => rfl
  | n + 1, hn => by
    rw [chL, if_neg]
    · exact ch_none h hf n (by omega)
    · rw [put_before h (by omega)]
      have := fil_var h (k := n) (by omega)
      rw [hf] at this
      rw [this]
      simp
/-- Every constraint is consistent that is neither in the queue nor taken. -/
def ConQ (cs : List Con) (ds q : List Int) (pe : Option Int) : Prop := ∀ (j : Nat) (c : Con), cs[j]? = some c → ¬ (j : Int) ∈ q → pe ≠ some (j : Int) → filL c ds = ds
theorem getD_some {xs ys : List Int} {v : Nat} (h1 : v < xs.length) (h2 : v < ys.length) (h : xs[v]?.getD 0 = ys[v]?.getD 0) : xs[v]? = ys[v]? := by
  rw [List.getElem?_eq_getElem h1, List.getElem?_eq_getElem h2] at h ⊢
  simpa using h
theorem conQ_next {cs : List Con} {n : Nat} {ds q : List Int} {i : Nat} {c : Con} (hc : cs[i]? = some c) (hd : OkD cs n ds) (h : ConQ cs ds q (some (i : Int))) : ConQ cs (filL c ds) (nxQ cs i (chOf c ds) q cs.length) none := by
  have hv := hd.vars c (List.mem_of_getElem? hc)
  rw [← hd.len] at hv
  intro j c' hc' hj _
  by_cases e : j = i
  · subst e
    rw [hc] at hc'
    obtain rfl := Option.some.inj hc'
    exact fil_idem hv hd.small
  · have hjq : ¬ (j : Int) ∈ q := fun hm => hj (sub_nx hm _)
    have hjl : j < cs.length := (List.getElem?_eq_some_iff.1 hc').1
    have hna : anyB c'.vars (chOf c ds) = false := by
      cases ha : anyB c'.vars (chOf c ds)
      · rfl
      · refine absurd (in_nx (q := q) (by omega) ?_ _ hjl) hj
        unfold varsAt
        rw [hc']
        exact ha
    have hf' := h j c' hc' hjq (by simp; omega)
    have hv' := hd.vars c' (List.mem_of_getElem? hc')
    rw [← hd.len] at hv'
    have ff := filL_facts (c := c) hd.small
    refine fil_local ff.1 hv' hd.small ff.2 (fun k hk => ?_) hf'
    rcases var_cases c ((c'.vars[k]?.getD 0).toNat) with ⟨k2, hk2, e2⟩ | ho
    · have hlt := hv.lt k2 hk2
      refine getD_some (by rw [ff.1, ← e2]; exact hlt) (by rw [← e2]; exact hlt) ?_
      rw [← e2, fil_var hv hk2]
      have hne : ¬ c.vars[k2]?.getD 0 ∈ chOf c ds := fun hm => by
        unfold anyB at hna
        rw [List.any_eq_false] at hna
        refine hna _ hm ?_
        have hs1 : c.vars[k2]?.getD 0 = c'.vars[k]?.getD 0 := by have h1 := hv.pos k2 hk2; have h2 := hv'.pos k hk; omega
        rw [hs1, List.getElem?_eq_getElem hk]
        simp
      rw [← ch_mem _ k2 hk2 hne, put_before hv hk2]
    · exact fil_other ho
/-- What the algorithm's end says. -/
theorem conQ_done {cs : List Con} {ds : List Int} (h : ConQ cs ds [] none) : consI cs ds = true := consI_true (fun j c _ hc => h j c hc (by simp) (by simp))
def muE (ds q : List Int) : Nat := bitsD ds * 7 + q.length
theorem mu_lt {cs : List Con} {n : Nat} {ds q : List Int} {i : Nat} {c : Con} (hc : cs[i]? = some c) (h6 : cs.length ≤ 6) (hd : OkD cs n ds) (hq : OkQ cs.length q) : muE (filL c ds) (nxQ cs i (chOf c ds) q cs.length) < muE ds ((i : Int) :: q) := by
  have hv := hd.vars c (List.mem_of_getElem? hc)
  rw [← hd.len] at hv
  have hf := hd.fil c
  have hql := okQ_le (hq.nx (cs := cs) (i := i) (ch := chOf c ds) cs.length (Nat.le_refl _))
  unfold muE
  rcases bits_lt (hf.len.trans hd.len.symm) (small_mem.1 hf.small) (small_mem.1 hd.small) (fil_le hv) with e | e
  · have hch : chOf c ds = [] := ch_none hv e _ (Nat.le_refl _)
    rw [hch, nx_nil, e]
    simp
  · simp
    omega
end Go.Proofs.Ytipapmmjfoaddaa

/-! The program's propagation. -/
namespace Go.Proofs.Ytipapmmjfoaddaa
open Go.ChangeShapes Go.WideShapes Go.ChangeAt Go.RowKit Go.Shelf
set_option linter.unusedVariables false
set_option linter.unusedSimpArgs false

attribute [local go_sem] Oper.semAt_some

/-- How the blocks lie. -/
structure Lay (w : World) (g Bd Bq : Nat) (Bk : Nat → Prop) : Prop where
  g1 : w.heap.size < g
  g2 : g < Bd
  g3 : Bd < Bq
  bk : ∀ b, Bk b → Bq < b
/-- What stands while the engine works: its box, the domains' row and box, the queue. -/
structure EngSt (w : World) (g Bd Bq nd cap : Nat) (pv : Value) (Bk : Nat → Prop) (ds q : List Int) (X : World) : Prop where
  bel : Below w.heap.size w X
  eb : Boxed X w.heap.size 57 pv
  row : XT g cap ds X
  len : ds.length = nd
  db : Boxed X Bd 22 (.slice (some ⟨g, 0, none⟩) nd cap)
  qb : ∃ v, Boxed X Bq 138 v ∧ QRow Bk X v q
theorem EngSt.step {w : World} {g Bd Bq nd cap : Nat} {pv : Value} {Bk : Nat → Prop} {ds q : List Int} {X Y : World} (h : EngSt w g Bd Bq nd cap pv Bk ds q X) (hb : Below X.heap.size X Y) : EngSt w g Bd Bq nd cap pv Bk ds q Y := by
  obtain ⟨v, h1, h2⟩ := h.qb
  exact ⟨h.bel.trans (hb.mono h.bel.size), (hb.block _ h.eb.lt).trans h.eb, h.row.keep (hb.block _ h.row.lt), h.len, (hb.block _ h.db.lt).trans h.db, v, (hb.block _ h1.lt).trans h1, h2.keep (fun b _ hb' => hb.block b hb')⟩
theorem EngSt.imp {w : World} {g Bd Bq nd cap : Nat} {pv : Value} {Bk Bk' : Nat → Prop} {ds q : List Int} {X : World} (h : EngSt w g Bd Bq nd cap pv Bk ds q X) (hi : ∀ b, Bk b → b < X.heap.size → Bk' b) : EngSt w g Bd Bq nd cap pv Bk' ds q X := by
  obtain ⟨v, h1, h2⟩ := h.qb
  exact ⟨h.bel, h.eb, h.row, h.len, h.db, v, h1, h2.imp hi⟩
theorem EngSt.dq {w : World} {g Bd Bq nd cap : Nat} {pv v' : Value} {Bk : Nat → Prop} {ds q q' : List Int} {X Y : World} (h : EngSt w g Bd Bq nd cap pv Bk ds q X) (L : Lay w g Bd Bq Bk) (hd : Dq Bq Bk X Y) (hb : Boxed Y Bq 138 v') (hq : QRow Bk Y v' q') : EngSt w g Bd Bq nd cap pv Bk ds q' Y := by
  have l1 := L.g1
  have l2 := L.g2
  have l3 := L.g3
  have lo : ∀ b, b < Bq → Far Bk X b := fun b hb => .inl (fun hk => by have := L.bk b hk; omega)
  exact ⟨h.bel.trans (hd.below (by omega) (fun b hk => by have := L.bk b hk; omega) h.bel.size), (hd.block _ h.eb.lt (by omega) (lo _ (by omega))).trans h.eb, h.row.keep (hd.block _ h.row.lt (by omega) (lo _ (by omega))), h.len, (hd.block _ h.db.lt (by omega) (lo _ (by omega))).trans h.db, v', hb, hq⟩
theorem EngSt.fil {w : World} {g Bd Bq nd cap : Nat} {pv : Value} {Bk : Nat → Prop} {ds ds' q : List Int} {X Y : World} (h : EngSt w g Bd Bq nd cap pv Bk ds q X) (L : Lay w g Bd Bq Bk) (hb : Below g X Y) (hk : Kr g X Y) (hx : XT g cap ds' Y) (hl : ds'.length = nd) : EngSt w g Bd Bq nd cap pv Bk ds' q Y := by
  have l1 := L.g1
  have l2 := L.g2
  have l3 := L.g3
  obtain ⟨v, h1, h2⟩ := h.qb
  have same := fun b hb' hl' => below_of_kr hb hk b hb' hl'
  exact ⟨h.bel.trans (hb.mono (by omega)), (same _ (by omega) h.eb.lt).trans h.eb, hx, hl, (same _ (by omega) h.db.lt).trans h.db, v, (same _ (by omega) h1.lt).trans h1, h2.keep (fun b hbk hl' => same b (by have := L.bk b hbk; omega) hl')⟩
theorem EngSt.grown {w : World} {g Bd Bq nd cap : Nat} {pv : Value} {Bk : Nat → Prop} {ds q : List Int} {X Y : World} {row : Option Nat} (h : EngSt w g Bd Bq nd cap pv Bk ds q X) (hg : X.grownBy Y row) (hr : ∀ r, row = some r → w.heap.size ≤ r ∧ ∃ o : Obj, X.heap[r]? = some o ∧ o.isCells = false) : EngSt w g Bd Bq nd cap pv Bk ds q Y := by
  have same : ∀ (b : Nat) (cur : Array Value) (t : TypeId) (fr : Nat × Nat), X.heap[b]? = some (.cells cur t fr) → Y.heap[b]? = X.heap[b]? := fun b cur t fr hb => hg.block b (Array.getElem?_eq_some_iff.1 hb).1 (fun e => by
    obtain ⟨_, o, ho, hc⟩ := hr b e.symm
    rw [hb] at ho
    cases ho
    cases hc)
  obtain ⟨v, h1, h2⟩ := h.qb
  obtain ⟨cur, hc, _⟩ := h.row.block
  refine ⟨h.bel.grown hg h.bel.size (fun r e => (hr r e).1), (same _ _ _ _ h.eb).trans h.eb, h.row.keep (same _ _ _ _ hc), h.len, (same _ _ _ _ h.db).trans h.db, v, (same _ _ _ _ h1).trans h1, ?_⟩
  rcases h2 with h2 | ⟨b, off, c, cu, e, h0, hb, h3⟩
  · exact .inl h2
  · exact .inr ⟨b, off, c, cu, e, h0, (same _ _ _ _ hb).trans hb, h3⟩
theorem boxed_grown {X Y : World} {row : Option Nat} {b : Nat} {t : TypeId} {v : Value} (h : Boxed X b t v) (hg : X.grownBy Y row) (hr : ∀ r, row = some r → ∃ o : Obj, X.heap[r]? = some o ∧ o.isCells = false) : Boxed Y b t v :=
  (hg.block b h.lt (fun e => by
    obtain ⟨o, ho, hc⟩ := hr b e.symm
    rw [show X.heap[b]? = _ from h] at ho
    cases ho
    cases hc)).trans h
theorem xt_clear {g cap : Nat} : ∀ (m o : Nat) (X : World) (xs : List Int), xs.length = o + m → XT g cap xs X → XT g cap (xs.take o ++ List.replicate m 0) (X.setCells g o (List.replicate m (.int .i64 0))) ∧ Below g X (X.setCells g o (List.replicate m (.int .i64 0)))
  | 0, o, X, xs, hl, h => by
    rw [List.take_of_length_le (by omega)]
    simpa [World.setCells] using ⟨h, Below.refl _ _⟩
  | m + 1, o, X, xs, hl, h => by
    have h1 := h.set (i := o) (by omega) 0
    have ih := xt_clear m (o + 1) (X.setCell ⟨g, o, none⟩ (.int .i64 0)) (xs.set o 0) (by simp; omega) h1
    have e : (xs.set o 0).take (o + 1) ++ List.replicate m 0 = xs.take o ++ List.replicate (m + 1) 0 := by
      rw [List.take_add_one, List.getElem?_set_self (by omega), List.take_set_of_le (Nat.le_refl _), List.replicate_succ]
      simp
    rw [e] at ih
    simp only [List.replicate_succ, World.setCells]
    rw [List.replicate_succ] at ih
    exact ⟨ih.1, ((Below.refl g X).setCell (by show g ≤ g; omega) _).trans ih.2⟩
theorem setCells_block (g D : Nat) (hne : D ≠ g) : ∀ (vs : List Value) (o : Nat) (X : World), (X.setCells g o vs).heap[D]? = X.heap[D]?
  | [], _, _ => rfl
  | v :: vs, o, X => by
    rw [World.setCells, setCells_block g D hne vs]
    exact Below.heap_setCell _ _ _ _ (by show D ≠ g; exact hne)
theorem zeroInt (w : World) : (zeroValue 3).run Try.prog w = .ok (.int .i64 0) w := by
  go_simp
/-- The measure, read off the world. -/
def muW (dv : Value) (Bq : Nat) (X : World) : Nat := bitsD (rowOf X dv) * 7 + (match X.cell? ⟨Bq, 0, none⟩ with | some v => (rowOf X v).length | none => 0)
theorem EngSt.mu {w : World} {g Bd Bq nd cap : Nat} {pv : Value} {Bk : Nat → Prop} {ds q : List Int} {X : World} (h : EngSt w g Bd Bq nd cap pv Bk ds q X) : muW (.slice (some ⟨g, 0, none⟩) nd cap) Bq X = muE ds q := by
  obtain ⟨v, h1, h2⟩ := h.qb
  have hr := h.row.rd
  rw [h.len] at hr
  unfold muW muE
  rw [rowOf_rd hr, h1.cell]
  simp only
  rw [rowOf_rd h2.rd]
set_option maxHeartbeats 1000000 in
theorem items_in (n : Nat) (Bq : Nat) (w : World) :
    CallsIn Fence.wide n Try.prog 112 #[.pointer (some ⟨Bq, 0, none⟩)] w fun e w' => e = .returned (.func (.func 130) #[] #[.pointer (some ⟨w.heap.size, 0, none⟩)]) ∧ w' = w.alloc (.cells #[.pointer (some ⟨Bq, 0, none⟩)] 153) := by
  refine callsIn_of_wp Try.func112 rfl trivial ?_ rfl
  simp only [Try.ntmps112, List.size_toArray, List.length_cons, List.length_nil, Nat.reduceAdd, Nat.reduceSub, Array.replicate_succ, Array.replicate_zero, List.push_toArray, List.append_toArray, List.nil_append, List.cons_append]
  gi_wp2
  go_ret
  exact ⟨rfl, rfl⟩
/-- The activation at the loop over the queue. -/
def prAct (h Bd g nd cap : Nat) (sa : Option Addr) (sc : Nat) (pa : Option Addr) (pc k Bt : Nat) (u7 u19 u20 u21 u22 x8 x24 : Value) : Act := { tmps := #[.agg #[.slice pa k pc], .slice sa nd sc, .pointer (some ⟨h, 0, none⟩), undef, .slice none 0 0, .pointer (some ⟨Bd, 0, none⟩), .pointer (some ⟨Bd + 1, 0, none⟩), u7, x8, undef, undef, undef, .slice sa nd sc, .slice (some ⟨g, 0, none⟩) nd cap, .pointer (some ⟨h, 0, none⟩), .slice pa k pc, .int .i64 k, .int .i64 k, .bool false, u19, u20, u21, u22, .func (.func 130) #[] #[.pointer (some ⟨Bt, 0, none⟩)], x24, undef, undef, undef, undef, undef, undef, undef, undef, undef, undef, undef, undef, undef, undef, undef, undef, undef, undef, undef, undef, undef, undef, undef, undef, undef, undef, undef, undef, undef, undef, undef, undef], defers := [] }
/-- The activation inside the region that filters. -/
def prAct2 (h Bd g nd cap : Nat) (sa : Option Addr) (sc : Nat) (pa : Option Addr) (pc k Bt : Nat) (u7 u19 u20 u21 u22 x8 x9 x27 x28 x29 x30 x31 x32 x33 : Value) : Act := { tmps := #[.agg #[.slice pa k pc], .slice sa nd sc, .pointer (some ⟨h, 0, none⟩), undef, .slice none 0 0, .pointer (some ⟨Bd, 0, none⟩), .pointer (some ⟨Bd + 1, 0, none⟩), u7, x8, x9, undef, undef, .slice sa nd sc, .slice (some ⟨g, 0, none⟩) nd cap, .pointer (some ⟨h, 0, none⟩), .slice pa k pc, .int .i64 k, .int .i64 k, .bool false, u19, u20, u21, u22, .func (.func 130) #[] #[.pointer (some ⟨Bt, 0, none⟩)], x8, .slice (some ⟨g, 0, none⟩) nd cap, .bool false, x27, x28, x29, x30, x31, x32, x33, undef, undef, undef, undef, undef, undef, undef, undef, undef, undef, undef, undef, undef, undef, undef, undef, undef, undef, undef, undef, undef, undef, undef], defers := [] }
theorem step_call2 {P : Program} (w : World) {ops : Array Oper} {o : Oper} {a : Act} {K : Act → World → Prop} {Q : Exit → Act → World → Prop} {E : Prop} (hgd : o.guard = none) (F : FuncId) (x0 x1 : Operand) (v0 v1 : Value) (ts : Array TypeId)
    (ho : o.op = .call { callee := .value (.func F), args := #[x0, x1], argTypes := ts }) (h0 : a.eval x0 = v0) (h1 : a.eval x1 = v1) (eg : ∀ gs w, (callFunc F gs).run P w = .ok (.enter F gs) w)
    (R : Ending → World → Prop) (h : Calls P F #[v0, v1] w R) (hp : ∀ c w', ¬ R (.panicked c) w') (hou : ∀ w', ¬ R .outgrown w') (hR : ∀ v w', R (.returned v) w' → K (a.put o.dst v) w') :
    if Region.wanted o (yielded ops a.tmps) = true then Oper.wp P o a w K Q else E := by
  have hw : Region.wanted o (yielded ops a.tmps) = true := by simp [Region.wanted, hgd]
  rw [if_pos hw]
  have hrun : (execOp a.eval o).run P w = .ok (.enter F #[v0, v1]) w := by
    have hf : a.eval (.func F) = .func (.func F) #[] #[] := rfl
    simp [execOp, ho, resolve, invoke, eg, Deferred.ofValue, h0, h1, hf]
  unfold Oper.wp
  rw [hrun]
  refine Calls.mono h ?_
  intro e w' hr
  cases e with
  | returned v => exact hR v w' hr
  | panicked c => exact (hp c w' hr).elim
  | outgrown => exact (hou w' hr).elim
theorem index_props (w : World) (b n c j : Nat) (hj : j < n) : (Instr.indexAt 55 (.slice (some ⟨b, 0, none⟩) n c) (.int .i64 j)).run Try.prog w = .ok (.pointer (some ⟨b, j * 2, none⟩)) w := by
  go_simp
theorem load_prop (w : World) (b o : Nat) (u v : Value) (h1 : w.cell? ⟨b, o, none⟩ = some u) (h2 : w.cell? ⟨b, o + 1, none⟩ = some v) : (loadVar 88 ⟨b, o, none⟩).run Try.prog w = .ok (.agg #[u, v]) w := by
  go_simp
theorem own_cell {w : World} {B : Nat} {e : TypeId} {sz n : Nat} {a : Option Addr} {n' c : Nat} {xs : List Value} (h : w.ownsRow B e sz (.slice a n' c) n xs) {j : Nat} {u : Value} (hu : xs[j]? = some u) : ∃ g, a = some ⟨g, 0, none⟩ ∧ w.cell? ⟨g, j, none⟩ = some u := by
  rcases h.2 with ⟨e, h0⟩ | ⟨g, cap, cur, e, _, hg, _, _, _, ht⟩
  · have := h.1
    rw [h0] at this
    have : xs = [] := List.eq_nil_of_length_eq_zero (by omega)
    rw [this] at hu
    simp at hu
  · injection e with e1 _ _
    refine ⟨g, e1, ?_⟩
    simp only [World.cell?, hg]
    rw [← ht, List.getElem?_take] at hu
    split at hu
    · simpa using hu
    · cases hu
theorem own_keep {w w' : World} {B : Nat} {e : TypeId} {sz n : Nat} {v : Value} {xs : List Value} (h : w.ownsRow B e sz v n xs) (hk : ∀ b, v.ownBlock = some b → w'.heap[b]? = w.heap[b]?) : w'.ownsRow B e sz v n xs := by
  refine ⟨h.1, ?_⟩
  rcases h.2 with h2 | ⟨g, cap, cur, e, h3, hg, rest⟩
  · exact .inl h2
  · exact .inr ⟨g, cap, cur, e, h3, (hk g (by rw [e]; rfl)).trans hg, rest⟩
theorem Dq.keeps {B L : Nat} {Bk : Nat → Prop} {w w' : World} (h : Dq B Bk w w') (hB : B < L) : KeepsFrom L w w' := ⟨h.size, fun b o hb h1 h2 => (h.block b (Array.getElem?_eq_some_iff.1 h1).1 (by omega) (.inr (fun cur e => by rw [h1] at e; cases e; cases h2))).trans h1⟩
theorem keepsFrom_kr {g L : Nat} {w w' : World} (h : Below g w w') (k : Kr g w w') (hg : g < L) : KeepsFrom L w w' := ⟨h.size, fun b o hb h1 _ => (below_of_kr h k b (by omega) (Array.getElem?_eq_some_iff.1 h1).1).trans h1⟩
/-- The state of the loop over the propagators. -/
structure InSt (w : World) (g Bd nd cap : Nat) (pv : Value) (Bt L : Nat) (X X2 : World) (cv : Value) (ch d q : List Int) (Y : World) : Prop where
  en : EngSt w g Bd (Bd + 1) nd cap pv (fun b => (Bd + 1 < b ∧ ¬ (Bt ≤ b ∧ b < Bt + 3)) ∧ ¬ (X.heap.size ≤ b ∧ b < X2.heap.size)) d q Y
  bt : Boxed Y Bt 153 (.pointer (some ⟨Bd + 1, 0, none⟩))
  kf : KeepsFrom L X Y
  ch : Y.ownsRow X.heap.size 3 1 cv ch.length (ch.map (Value.int .i64))
  cb : ∀ b, cv.ownBlock = some b → X.heap.size ≤ b ∧ b < X2.heap.size
  sz : X2.heap.size ≤ Y.heap.size
theorem InSt.step {w : World} {g Bd nd cap : Nat} {pv : Value} {Bt L : Nat} {X X2 : World} {cv : Value} {ch d q : List Int} {Y Z : World} (h : InSt w g Bd nd cap pv Bt L X X2 cv ch d q Y) (hb : Below Y.heap.size Y Z) : InSt w g Bd nd cap pv Bt L X X2 cv ch d q Z :=
  ⟨h.en.step hb, (hb.block _ h.bt.lt).trans h.bt, h.kf.trans (KeepsFrom.of_below hb), own_below h.ch hb, h.cb, Nat.le_trans h.sz hb.size⟩
/-- The state of the loop over the queue. -/
structure LpSt (cs : List Con) (w : World) (g Bd nd cap : Nat) (pv : Value) (Bt k : Nat) (ds : List Int) (s : List Int × List Int × Option Int) (X : World) : Prop where
  en : EngSt w g Bd (Bd + 1) nd cap pv (fun b => Bd + 1 < b ∧ ¬ (Bt ≤ b ∧ b < Bt + 3)) s.1 s.2.1 X
  bt : Boxed X Bt 153 (.pointer (some ⟨Bd + 1, 0, none⟩))
  run : RunD cs nd ds s.1
  okq : OkQ k s.2.1
  con : ConQ cs s.1 s.2.1 s.2.2
/-- 0, 1, .., j - 1. -/
def upTo (j : Nat) : List Int := (List.range j).map fun (i : Nat) => (i : Int)
theorem upTo_mem {j : Nat} {x : Int} : x ∈ upTo j ↔ 0 ≤ x ∧ x < j := by
  unfold upTo
  rw [List.mem_map]
  constructor
  · rintro ⟨i, hi, rfl⟩; have := List.mem_range.1 hi; omega
  · rintro ⟨h1, h2⟩; exact ⟨x.toNat, List.mem_range.2 (by omega), by omega⟩
theorem upTo_succ (j : Nat) : addW (upTo j) j = upTo (j + 1) := by
  unfold addW
  rw [if_neg (fun h => by have := (upTo_mem.1 h).2; omega)]
  unfold upTo
  rw [List.range_succ, List.map_append]
  rfl
theorem upTo_length (j : Nat) : (upTo j).length = j := by simp [upTo]
theorem upTo_ok (j : Nat) : OkQ j (upTo j) := by
  refine ⟨?_, fun x hx => upTo_mem.1 hx⟩
  induction j with
  | zero => simp [upTo]
  | succ j ih =>
    rw [← upTo_succ]
    unfold addW
    split
    · exact ih
    · rename_i hm
      exact List.nodup_append.2 ⟨ih, by simp, fun a ha b hb => by simp at hb; subst hb; exact fun e => hm (e ▸ ha)⟩

set_option maxRecDepth 100000 in
set_option maxHeartbeats 8000000 in
theorem ipropagate_any (cs : List Con) (P : List (Value × Nat × Value)) (pv sv : Value) (B : Nat) (ds : List Int) (w : World) (hp : w.ownsRow B 88 2 pv P.length (flatP P)) (hpo : PrOf w cs P) (h6 : cs.length ≤ 6)
    (hok : ∀ c ∈ cs, OkC c ds.length) (hd : RdInts w sv ds) (h1 : 1 ≤ ds.length) (h4 : ds.length ≤ 4) (hs : Small ds 0 63) :
    Calls Try.prog 88 #[.agg #[pv], sv] w (IntsPost (proL cs ds) w) := by
  obtain ⟨pa, pn, pc, epv⟩ := own_slice hp
  subst epv
  obtain ⟨sa, sc, esv, -⟩ := id hd
  subst esv
  obtain ⟨k, hk⟩ : ∃ k, k = P.length := ⟨_, rfl⟩
  have hpn : k = pn := by
    rcases hp.2 with ⟨e, h0⟩ | ⟨g, cap, cur, e, _⟩
    · injection e with _ e _; omega
    · injection e with _ e _; omega
  have hpc : pn ≤ pc ∧ pc ≤ 9223372036854775807 := by
    rcases hp.2 with ⟨e, h0⟩ | ⟨g, cap, cur, e, _, _, q1, q2, _⟩
    · injection e with _ e1 e2; omega
    · injection e with _ e1 e2; unfold maxLen at q2; omega
  subst hpn
  have hkc : k = cs.length := hk.trans hpo.1
  obtain ⟨W1, hW1⟩ : ∃ W1, w.alloc (.cells #[.slice pa k pc] 57) = W1 := ⟨_, rfl⟩
  have B1 : Below w.heap.size w W1 := by rw [← hW1]; exact (Below.refl _ _).alloc (Nat.le_refl _) _
  have s1 : W1.heap.size = w.heap.size + 1 := by rw [← hW1]; simp
  have q1 : Boxed W1 w.heap.size 57 (.slice pa k pc) := by rw [← hW1]; exact World.alloc_heap_new _ _
  have HCI := Lib.hid (icopyInts_any _ ds W1 (hd.below B1) h1 (by omega))
  obtain ⟨nd, hnd⟩ : ∃ nd, nd = ds.length := ⟨_, rfl⟩
  rw [← hnd] at h1 h4 hok HCI ⊢
  have HK := Lib.hid hk
  have HKC := Lib.hid hkc
  have HND := Lib.hid hnd
  have HP := Lib.hid hp
  have HPO := Lib.hid hpo
  have HOK := Lib.hid hok
  have HS := Lib.hid hs
  have HB1 := Lib.hid B1
  have HS1 := Lib.hid s1
  have HQ1 := Lib.hid q1
  have HW := Lib.hid hW1
  have hk6 : k ≤ 6 := by omega
  clear hk hkc hnd hp hpo hok hs hd B1 s1 q1 hW1 h6
  refine (callsIn_wide (n := 10)).1 ?_
  refine callsIn_of_wp_marks Try.func88 rfl trivial ?_ rfl
  simp only [Try.ntmps88, List.size_toArray, List.length_cons, List.length_nil, Nat.reduceAdd, Nat.reduceSub, Array.replicate_succ, Array.replicate_zero, List.push_toArray, List.append_toArray, List.nil_append, List.cons_append]
  gi_wp2_with fail
  refine ⟨trivial, ?_⟩
  gi_at_call 110
  rw [HW.out]
  refine (callsIn_wide.2 HCI.out).mono ?_
  rintro e w2 ⟨v2, rfl, o2, b2⟩
  obtain ⟨g, cap, e2, hg, hx2⟩ := xt_of_own o2 (by have := HND.out; omega)
  rw [← HND.out] at e2
  subst e2
  have hxl := hx2.lt
  have HX2 := Lib.hid hx2
  have HB2 := Lib.hid (HB1.out.trans (b2.mono HB1.out.size))
  have HQ2 := Lib.hid ((b2.block w.heap.size (by have := HS1.out; omega)).trans HQ1.out)
  have HG := Lib.hid (show w.heap.size < g ∧ g < w2.heap.size from ⟨by have := HS1.out; omega, hxl⟩)
  clear o2 b2 hx2 hg hxl HCI HW HQ1 HB1 HS1
  obtain ⟨W4, hW4⟩ : ∃ W4, (w2.alloc (.cells #[.slice (some ⟨g, 0, none⟩) nd cap] 22)).alloc (.cells #[.slice none 0 0] 138) = W4 := ⟨_, rfl⟩
  have b4 : Below w2.heap.size w2 W4 := by rw [← hW4]; exact ((Below.refl _ _).alloc (Nat.le_refl _) _).alloc (by simp) _
  have s4 : W4.heap.size = w2.heap.size + 2 := by rw [← hW4]; simp
  have d4 : Boxed W4 w2.heap.size 22 (.slice (some ⟨g, 0, none⟩) nd cap) := by rw [← hW4]; exact (Below.heap_alloc _ _ _ (by simp)).trans (World.alloc_heap_new _ _)
  have e4 : Boxed W4 (w2.heap.size + 1) 138 (.slice none 0 0) := by
    have := World.alloc_heap_new (w2.alloc (.cells #[.slice (some ⟨g, 0, none⟩) nd cap] 22)) (.cells #[.slice none 0 0] 138)
    rw [World.size_alloc] at this
    rw [← hW4]; exact this
  have HE4 : Hid (EngSt w g w2.heap.size (w2.heap.size + 1) nd cap (.slice pa k pc) (fun b => w2.heap.size + 1 < b) ds (upTo 0) W4) := Lib.hid ⟨HB2.out.trans (b4.mono HB2.out.size), (b4.block _ (by have := HG.out; omega)).trans HQ2.out, HX2.out.keep (b4.block _ HG.out.2), HND.out.symm, d4, _, e4, .inl ⟨rfl, rfl⟩⟩
  have HL4 : Hid (Lay w g w2.heap.size (w2.heap.size + 1) (fun b => w2.heap.size + 1 < b)) := Lib.hid ⟨HG.out.1, HG.out.2, by omega, fun _ h => h⟩
  obtain ⟨Bd, hBd⟩ : ∃ Bd, Bd = w2.heap.size := ⟨_, rfl⟩
  have HBD := Lib.hid hBd
  have HS4 : Hid (W4.heap.size = Bd + 2) := Lib.hid (by rw [hBd]; exact s4)
  have HW4 := Lib.hid hW4
  rw [← hBd] at HE4 HL4
  have p0 := HE4.out.eb.cell
  rw [← hW4] at p0
  clear hW4 b4 s4 d4 e4 hBd HB2 HQ2 HX2 HG
  gi_wp2
  rw [HW4.out, ← HBD.out]
  rw [HW4.out] at p0
  clear p0
  gi_loopw [17] (fun i wr => ∃ j : Nat, j ≤ k ∧ i = .int .i64 j ∧ Hid (EngSt w g Bd (Bd + 1) nd cap (.slice pa k pc) (fun b => Bd + 1 < b) ds (upTo j) wr)) (fun i _ => k - (intOf i).toNat)
  case atStart => exact ⟨0, Nat.zero_le _, rfl, HE4⟩
  case round =>
    obtain ⟨j, hj, rfl, HEJ⟩ := hrel
    by_cases hlt : j < k
    · obtain ⟨qv, qb, qr⟩ := HEJ.out.qb
      have HC := Lib.hid (wadd_any (fun b => Bd + 1 < b) (Bd + 1) j (upTo j) qv wr qb qr (fun b hb => by have := qb.lt; omega) (by omega) (by rw [upTo_length]; omega))
      clear qb qr
      gi_wp2_with fail
      refine ⟨trivial, ?_⟩
      gi_at_call 111
      refine (callsIn_wide.2 HC.out).mono ?_
      rintro e w5 ⟨⟨u5, rfl⟩, v5, kb5, kq5, kd5⟩
      rw [upTo_succ] at kq5
      have HE5 := Lib.hid (HEJ.out.dq HL4.out kd5 kb5 kq5)
      clear kb5 kq5 kd5 HC
      gi_wp2
      go_roundw
      case rel => exact ⟨j + 1, by omega, by go_num, HE5⟩
      case measure => simp [intOf]; omega
    · obtain rfl : k = j := by omega
      gi_wp2_with (refine ⟨trivial, ?_⟩; gi_at_call 112; refine (items_in _ _ _).mono ?_; rintro e w' ⟨rfl, rfl⟩)
      obtain ⟨Bt, hBt⟩ : ∃ Bt, Bt = wr.heap.size := ⟨_, rfl⟩
      obtain ⟨R, hR⟩ : ∃ R, wr.alloc (.cells #[.pointer (some ⟨Bd + 1, 0, none⟩)] 153) = R := ⟨_, rfl⟩
      have sR : R.heap.size = Bt + 1 := by rw [← hR, hBt, World.size_alloc]
      have tR : Boxed R Bt 153 (.pointer (some ⟨Bd + 1, 0, none⟩)) := by rw [← hR, hBt]; exact World.alloc_heap_new _ _
      have eR : EngSt w g Bd (Bd + 1) nd cap (.slice pa k pc) (fun b => Bd + 1 < b ∧ ¬ (Bt ≤ b ∧ b < Bt + 3)) ds (upTo k) R := (HEJ.out.imp (fun b h1 h2 => ⟨h1, by omega⟩)).step (by rw [← hR]; exact (Below.refl _ _).alloc (Nat.le_refl _) _)
      have hbq : Bd + 1 < Bt := by obtain ⟨v, h1, _⟩ := HEJ.out.qb; rw [hBt]; exact h1.lt
      have HLR : Hid (Lay w g Bd (Bd + 1) (fun b => Bd + 1 < b ∧ ¬ (Bt ≤ b ∧ b < Bt + 3))) := Lib.hid ⟨HL4.out.g1, HL4.out.g2, HL4.out.g3, fun b h => h.1⟩
      have HLP : Hid (LpSt cs w g Bd nd cap (.slice pa k pc) Bt k ds (ds, upTo k, none) R) := Lib.hid ⟨eR, tR, RunD.start ⟨HND.out.symm, HS.out, fun c hc => varsOk_of (HOK.out c hc).vc⟩, upTo_ok k, fun j c hc hn _ => absurd (upTo_mem.2 ⟨by omega, by have := (List.getElem?_eq_some_iff.1 hc).1; have := HKC.out; omega⟩) hn⟩
      rw [← hBt, hR]
      have HSR := Lib.hid sR
      have HBQ := Lib.hid hbq
      have HOD := Lib.hid (show OkD cs nd ds from ⟨HND.out.symm, HS.out, fun c hc => varsOk_of (HOK.out c hc).vc⟩)
      have HWB := Lib.hid (show w.heap.size < Bt by have := HL4.out.g1; have := HL4.out.g2; omega)
      clear hR hBt tR eR sR hbq HEJ HE4
      refine rf_outer2 (σ := List Int × List Int × Option Int) (At := fun s s' vs W => ∃ i : Nat, i < k ∧ s.2.2 = some (i : Int) ∧ vs = #[Value.int .i64 i] ∧ s' = ((nxE cs s.1 i s.2.1).1, (nxE cs s.1 i s.2.1).2, none)) (Kp := fun _ _ => True) (S := fun s => s.2.1 = [] ∧ s.2.2 = none) (Sp := fun _ => True)
        rfl (by omega) rfl trivial (enters_of Try.func130 (by kernel_rfl) rfl) (fun _ _ => trivial) (fun _ _ _ _ _ _ _ _ => trivial) (fun s s' vs W h => by obtain ⟨i, _, _, rfl, _⟩ := h; rfl)
        (fun s X => LpSt cs w g Bd nd cap (.slice pa k pc) Bt k ds s X) (fun c s X => c = Code.exit 2 ∧ ∃ d q, EngSt w g Bd (Bd + 1) nd cap (.slice pa k pc) (fun b => Bd + 1 < b ∧ ¬ (Bt ≤ b ∧ b < Bt + 3)) d q X ∧ RunD cs nd ds d ∧ emptyB d = true)
        (fun s s' vs a' W => ∃ i : Nat, i < k ∧ s.2.2 = some (i : Int) ∧ s' = ((nxE cs s.1 i s.2.1).1, (nxE cs s.1 i s.2.1).2, none) ∧ a' = prAct w.heap.size Bd g nd cap sa sc pa pc k Bt u7 u19 u20 u21 u22 (.int .i64 i) (.int .i64 i))
        ?hI ?hIx (fun s s' vs a' u X Y row h _ _ => h) (ds, upTo k, none) HLP.out ?hseq ?hassign ?hbody ?hdone ?hstop
      case hI =>
        rintro s X Y row h hg hr
        have hr' : ∀ r, row = some r → w.heap.size ≤ r ∧ ∃ o : Obj, X.heap[r]? = some o ∧ o.isCells = false := fun r e => ⟨by have := (hr r e).1; have := HSR.out; have := HWB.out; omega, (hr r e).2⟩
        exact ⟨h.en.grown hg hr', boxed_grown h.bt hg (fun r e => (hr r e).2), h.run, h.okq, h.con⟩
      case hIx =>
        rintro c s X Y row ⟨rfl, d, q, h, h2⟩ hg hr
        exact ⟨rfl, d, q, h.grown hg (fun r e => ⟨by have := (hr r e).1; have := HSR.out; have := HWB.out; omega, (hr r e).2⟩), h2⟩
      case hseq =>
        intro Rec RecX X1 hRec hRecX hB1 hs1 hI1 hR1 hY
        refine callsIn_wide.2 ((callsIn_wide.1 (items1_any (τ := List Int) (R.heap.size + 1) Bt (Bd + 1) (fun b => Bd + 1 < b ∧ ¬ (Bt ≤ b ∧ b < Bt + 3)) (fun t q X => LpSt cs w g Bd nd cap (.slice pa k pc) Bt k ds (t, q, none) X ∧ Rec X) (fun t i q X => (∃ n : Nat, i = (n : Int) ∧ n < k) ∧ LpSt cs w g Bd nd cap (.slice pa k pc) Bt k ds (t, q, some i) X ∧ Rec X)
          (fun X => ∃ (s : List Int × List Int × Option Int) (c : Code), (c = Code.exit 2 ∧ ∃ d q, EngSt w g Bd (Bd + 1) nd cap (.slice pa k pc) (fun b => Bd + 1 < b ∧ ¬ (Bt ≤ b ∧ b < Bt + 3)) d q X ∧ RunD cs nd ds d ∧ emptyB d = true) ∧ RecX c X) (nxE cs) (muW (.slice (some ⟨g, 0, none⟩) nd cap) (Bd + 1)) ?_ ?_ ?_ ?_ ds (upTo k) X1 ⟨hI1, hR1⟩)).mono ?_)
        · rintro t q X ⟨h, _⟩
          exact ⟨h.bt, by have := okQ_le h.okq; simp at this; omega, h.en.qb⟩
        · rintro t i q X v' ⟨h, hr⟩ hq
          have hi := h.okq.2 i (by simp)
          have hbq := HBQ.out
          have hsr := HSR.out
          refine ⟨⟨i.toNat, by omega, by omega⟩, ⟨?_, ?_, h.run, ⟨(List.nodup_cons.1 h.okq.1).2, fun x hx => h.okq.2 x (by simp [hx])⟩, ?_⟩, ?_⟩
          · obtain ⟨v0, b0, _⟩ := h.en.qb
            refine h.en.dq HLR.out (v' := v') ⟨rfl, rfl, rfl, by show _ ≤ (X.setCell _ _).heap.size; simp, fun b _ hne _ => Below.heap_setCell _ _ _ _ (by show b ≠ Bd + 1; exact hne)⟩ (b0.set v') (hq.keep (fun b hb _ => Below.heap_setCell _ _ _ _ (by show b ≠ Bd + 1; have := hb.1; omega)))
          · exact (Below.heap_setCell _ _ _ _ (by show Bt ≠ Bd + 1; omega)).trans h.bt
          · intro j c hc hn hp
            refine h.con j c hc (fun hm => ?_) (by simp)
            rcases List.mem_cons.1 hm with e | e
            · exact hp (by rw [e])
            · exact hn e
          · exact hRec X _ hr (fun b h1 h2 => Below.heap_setCell _ _ _ _ (by show b ≠ Bd + 1; omega))
        · rintro t i q X ⟨⟨n, rfl, hn⟩, h, hr⟩
          obtain ⟨f0, tm, asg, bo, hrun, hR'⟩ := yieldAt_wide (m' := 7) (hY (t, q, some (n : Int)) _ _ X ⟨h, hr⟩ ⟨n, hn, rfl, rfl, rfl⟩)
          refine ⟨f0, tm, asg, bo, hrun, hR'.mono ?_⟩
          rintro e Y' (⟨rfl, hh, _⟩ | ⟨rfl, c, hh, hx⟩)
          · exact .inl ⟨rfl, hh⟩
          · exact .inr ⟨rfl, (t, q, none), c, hh, hx⟩
        · rintro t i q X X' ⟨h, _⟩ ⟨h', _⟩
          have hi := h.okq.2 i (by simp)
          rw [h.en.mu, h'.en.mu]
          obtain ⟨n, rfl⟩ : ∃ n : Nat, i = (n : Int) := ⟨i.toNat, by omega⟩
          have hn : n < cs.length := by have := HKC.out; omega
          have hc : cs[n]? = some (conAt cs (n : Int)) := by simp [conAt, hn]
          exact mu_lt hc (by have := HKC.out; omega) h.run.ok (by rw [← HKC.out]; exact ⟨(List.nodup_cons.1 h.okq.1).2, fun x hx => h.okq.2 x (by simp [hx])⟩)
        · rintro e Y ⟨hv, (⟨t, h⟩ | ⟨s, c, h, hx⟩)⟩
          · exact ⟨hv, .inl ⟨(t, [], none), ⟨rfl, rfl⟩, h⟩⟩
          · exact ⟨hv, .inr ⟨s, trivial, c, h, hx⟩⟩
      case hassign =>
        rintro l' s s' vs X K hi ⟨i, hik, hpe, rfl, hs'⟩ hK
        have hK2 := hK _ X (KeepsFrom.refl _ _) trivial hi ⟨i, hik, hpe, hs', rfl⟩
        unfold prAct at hK2
        gi_wp2
        exact hK2
      case hbody =>
        rintro l' s s' vs a' X hl' ⟨r, hr⟩ h ⟨i, hik, hpe, hs', rfl⟩
        obtain ⟨d, q, pe⟩ := s
        simp only at hpe hs'
        subst hpe hs'
        have hXs : Bt + 3 ≤ X.heap.size := by have := (Array.getElem?_eq_some_iff.1 hr).1; have := HSR.out; omega
        have hcell := h.en.db.cell
        have hrd := h.en.row.rd
        rw [h.en.len] at hrd
        have HRD := Lib.hid hrd
        have HH := Lib.hid h
        have HXS := Lib.hid hXs
        clear h hrd hXs hr hl'
        unfold prAct
        cases he : emptyB d
        case true =>
          have HEB := Lib.hid he
          clear he
          gi_wp2_with (refine ⟨trivial, (CallsIn.inRound _ (callsIn_wide.2 (ihasEmpty_any _ d _ HRD.out))).mono ?_⟩; rintro e w' ⟨rfl, rfl⟩; rw [HEB.out])
          exact ⟨KeepsFrom.refl _ _, rfl, d, q, HH.out.en, HH.out.run, HEB.out⟩
        case false =>
          have HEB := Lib.hid he
          clear he
          have hnc : i < cs.length := by have := HKC.out; omega
          obtain ⟨c, hcc⟩ : ∃ c, cs[i]? = some c := ⟨_, List.getElem?_eq_getElem hnc⟩
          have hca : conAt cs (i : Int) = c := by unfold conAt; rw [Int.toNat_natCast, hcc]; rfl
          obtain ⟨p, hpp⟩ : ∃ p, P[i]? = some p := ⟨_, List.getElem?_eq_getElem (by have := HK.out; omega)⟩
          obtain ⟨hpt, hprd⟩ := HPO.out.2 i c p hcc hpp
          obtain ⟨f1, f2⟩ := flatP_at hpp
          obtain ⟨bp, ebp, c1⟩ := own_cell HP.out f1
          obtain ⟨bp', ebp', c2⟩ := own_cell HP.out f2
          subst ebp
          injection ebp' with ebp'
          injection ebp' with ebp'
          subst ebp'
          have hbpl := World.block_lt_of_cell? w _ c1
          simp at hbpl
          have hoc := HOK.out c (List.mem_of_getElem? hcc)
          have hrun := HH.out.run
          have HCF := Lib.hid (ifilter_any c p.2.2 p.1 p.2.1 d g cap X.drew hpt.test (fun w' hb => by
            have hbw : Below w.heap.size w w' := (show Below w.heap.size w X.drew from HH.out.en.bel.drew).trans (hb.mono (by have := HLR.out.g1; omega))
            exact ⟨hprd.below hbw, hpt.vars _ (hprd.below hbw)⟩) (show XT g cap d X.drew from HH.out.en.row) hoc.one hoc.four (by rw [HH.out.en.len]; exact hoc.vars) hrun.ok.small (fun t h1 h2 => ⟨hoc.kind, h1, by have := hoc.one; omega, by have := hoc.four; omega, h2, allB_true (fun j hj => wiB_true (h2 j hj).1 (h2 j hj).2)⟩) hpt.sat)
          rw [HH.out.en.len] at HCF
          have k1 := (HH.out.en.bel.cell (p := ⟨bp, i * 2, none⟩) hbpl).trans c1
          have k2 := (HH.out.en.bel.cell (p := ⟨bp, i * 2 + 1, none⟩) hbpl).trans c2
          have HCC := Lib.hid hcc
          have HCA := Lib.hid hca
          have HC1 := Lib.hid c1
          have HC2 := Lib.hid c2
          have HBPL := Lib.hid hbpl
          have HEBX := Lib.hid HH.out.en.eb
          clear hcc hca hpp hpt hprd f1 f2 c1 c2 hbpl hoc hrun hnc
          gi_wp2_with (refine ⟨trivial, (CallsIn.inRound _ (callsIn_wide.2 (ihasEmpty_any _ d _ HRD.out))).mono ?_⟩; rintro e w' ⟨rfl, rfl⟩; rw [HEB.out])
          refine region_round (fun w' => Boxed w' w.heap.size 57 (.slice (some ⟨bp, 0, none⟩) k pc) ∧ w'.cell? ⟨bp, i * 2, none⟩ = some p.1 ∧ w'.cell? ⟨bp, i * 2 + 1, none⟩ = some (.func (.func p.2.1) #[p.2.2] #[]) ∧ Boxed w' Bd 22 (.slice (some ⟨g, 0, none⟩) nd cap)) (by kernel_rfl) (by kernel_rfl) ?_ ⟨HEBX.out, k1, k2, HH.out.en.db⟩ (fun hS => ?_)
          · rintro ⟨a, w', h⟩
            exact h
          refine wpAnyH_take (i := 0) (v := .pointer (some ⟨w.heap.size, 0, none⟩)) rfl (by kernel_rfl) (by kernel_rfl) (by kernel_rfl) (fun _ _ _ h => h) (.inl ⟨rfl, fun w' hw' => rfl⟩) hS ?_
          refine wpAnyH_take (i := 1) (v := .slice (some ⟨bp, 0, none⟩) k pc) rfl (by kernel_rfl) (by kernel_rfl) (by kernel_rfl) (fun _ _ _ h => h) (.inl ⟨rfl, fun w' hw' => exec_load rfl rfl (load_props w' _ _ _ _ hw'.1.cell)⟩) hS ?_
          refine wpAnyH_take (i := 2) (v := .int .i64 i) rfl (by kernel_rfl) (by kernel_rfl) (by kernel_rfl) (fun _ _ _ h => h) (.inl ⟨rfl, fun w' hw' => rfl⟩) hS ?_
          refine wpAnyH_take (i := 3) (v := .pointer (some ⟨bp, i * 2, none⟩)) rfl (by kernel_rfl) (by kernel_rfl) (by kernel_rfl) (fun _ _ _ h => h) (.inl ⟨rfl, fun w' hw' => exec_index rfl rfl rfl (index_props _ _ _ _ _ hik)⟩) hS ?_
          refine wpAnyH_take (i := 4) (v := (.agg #[p.1, .func (.func p.2.1) #[p.2.2] #[]])) rfl (by kernel_rfl) (by kernel_rfl) (by kernel_rfl) (fun _ _ _ h => h) (.inl ⟨rfl, fun w' hw' => exec_load rfl rfl (load_prop w' _ _ _ _ hw'.2.1 hw'.2.2.1)⟩) hS ?_
          refine wpAnyH_take (i := 5) (v := .slice (some ⟨g, 0, none⟩) nd cap) rfl (by kernel_rfl) (by kernel_rfl) (by kernel_rfl) (fun _ _ _ h => h) (.inl ⟨rfl, fun w' hw' => exec_load rfl rfl (load_ints w' _ _ _ _ hw'.2.2.2)⟩) hS ?_
          change wpAnyH Try.prog .any _ _ _ 2 _ (prAct2 w.heap.size Bd g nd cap sa sc (some ⟨bp, 0, none⟩) pc k Bt u7 u19 u20 u21 u22 (.int .i64 i) undef (.pointer (some ⟨w.heap.size, 0, none⟩)) (.slice (some ⟨bp, 0, none⟩) k pc) (.int .i64 i) (.pointer (some ⟨bp, i * 2, none⟩)) (.agg #[p.1, .func (.func p.2.1) #[p.2.2] #[]]) (.slice (some ⟨g, 0, none⟩) nd cap) undef) X.drew
          refine wpAnyH_ready (rs := [6]) (by kernel_rfl) (by simp) (AllReadyH.cons rfl (fun K' hK' => ?_) AllReadyH.nil)
          refine step_call2 _ rfl 113 _ _ _ _ _ rfl rfl rfl (enters_of Try.func113 (by kernel_rfl) rfl) _ HCF.out (fun c w' h => by obtain ⟨_, h, _⟩ := h; cases h) (fun w' h => by obtain ⟨_, h, _⟩ := h; cases h) ?_
          rintro vq X2 ⟨v2, e2, o2, x2, b2, r2⟩
          injection e2 with e2
          subst e2
          obtain ⟨ca, cn, cc, ecv⟩ := own_slice o2
          subst ecv
          have b2' : Below g X X2 := (show Below g X X.drew from (Below.refl _ _).drew).trans b2
          have r2' : Kr g X X2 := r2
          have l1 := HLR.out.g1
          have l2 := HLR.out.g2
          have l3 := HLR.out.g3
          have en2 := HH.out.en.fil HLR.out b2' r2' x2 ((filL_facts HH.out.run.ok.small).1.trans HH.out.en.len)
          have LY2 : Lay w g Bd (Bd + 1) (fun b => (Bd + 1 < b ∧ ¬ (Bt ≤ b ∧ b < Bt + 3)) ∧ ¬ (X.heap.size ≤ b ∧ b < X2.heap.size)) := ⟨l1, l2, l3, fun b h => h.1.1⟩
          have en3 := (HH.out.en.imp (Bk' := (fun b => (Bd + 1 < b ∧ ¬ (Bt ≤ b ∧ b < Bt + 3)) ∧ ¬ (X.heap.size ≤ b ∧ b < X2.heap.size))) (fun b hb hl => ⟨hb, by omega⟩)).fil LY2 b2' r2' x2 ((filL_facts HH.out.run.ok.small).1.trans HH.out.en.len)
          have HLY := Lib.hid LY2
          have kk1 := (cell_same (below_of_kr b2' r2' bp (by have := HBPL.out; omega) (by have := HBPL.out; have := HH.out.en.bel.size; omega))).trans k1
          have kk2 := (cell_same (below_of_kr b2' r2' bp (by have := HBPL.out; omega) (by have := HBPL.out; have := HH.out.en.bel.size; omega))).trans k2
          refine hK'.out _ _ ⟨en2.eb, kk1, kk2, en2.db⟩ (fun hS2 => ?_)
          clear hK' K'
          change wpAnyH Try.prog .any _ _ _ 1 _ (prAct2 w.heap.size Bd g nd cap sa sc (some ⟨bp, 0, none⟩) pc k Bt u7 u19 u20 u21 u22 (.int .i64 i) undef (.pointer (some ⟨w.heap.size, 0, none⟩)) (.slice (some ⟨bp, 0, none⟩) k pc) (.int .i64 i) (.pointer (some ⟨bp, i * 2, none⟩)) (.agg #[p.1, .func (.func p.2.1) #[p.2.2] #[]]) (.slice (some ⟨g, 0, none⟩) nd cap) (.slice ca cn cc)) X2
          refine wpAnyH_take (i := 7) (v := .slice ca cn cc) rfl (by kernel_rfl) (by kernel_rfl) (by kernel_rfl) (fun _ _ _ h => h) (.inl ⟨rfl, fun w' hw' => rfl⟩) hS2 ?_
          refine wpAnyH_done (by kernel_rfl) ?_ _
          obtain ⟨ch, hch⟩ : ∃ ch, ch = chOf c d := ⟨_, rfl⟩
          have o2' : X2.ownsRow X.heap.size 3 1 (.slice ca cn cc) ch.length (ch.map (Value.int .i64)) := by rw [hch]; exact o2
          have hcn : cn = ch.length := by
            rcases o2'.2 with ⟨e, h0⟩ | ⟨_, _, _, e, _⟩
            · injection e with _ e _; omega
            · injection e
          have HIN : Hid (InSt w g Bd nd cap (.slice (some ⟨bp, 0, none⟩) k pc) Bt R.heap.size X X2 (.slice ca cn cc) ch (filL c d) (nxQ cs i ch q 0) X2) := Lib.hid ⟨en3, (below_of_kr b2' r2' Bt (by have := HBQ.out; omega) HH.out.bt.lt).trans HH.out.bt, keepsFrom_kr b2' r2' (by have := HSR.out; have := HBQ.out; omega), o2', fun b hb => ⟨(o2'.lt b hb).1, (o2'.lt b hb).2⟩, Nat.le_refl _⟩
          have HCH := Lib.hid hch
          have HZ := Lib.hid (show X.heap.size ≤ X2.heap.size from b2'.size)
          have p0 := en2.eb.cell
          clear hS hS2 o2 x2 b2 r2 b2' r2' en2 en3 LY2 l1 l2 l3 kk1 kk2 k1 k2 hch o2' hcn HCF HRD hcell
          unfold prAct2
          gi_wp2
          clear p0
          gi_loopw [37] (fun t wr => ∃ j : Nat, j ≤ k ∧ t = .int .i64 j ∧ Hid (InSt w g Bd nd cap (.slice (some ⟨bp, 0, none⟩) k pc) Bt R.heap.size X X2 (.slice ca cn cc) ch (filL c d) (nxQ cs i ch q j) wr)) (fun t _ => k - (intOf t).toNat)
          case atStart => exact ⟨0, Nat.zero_le _, rfl, HIN⟩
          case round =>
            obtain ⟨j, hj, rfl, HJ⟩ := hrel
            by_cases hlt : j < k
            · have hnj : j < cs.length := by have := HKC.out; omega
              obtain ⟨cj, hcj⟩ : ∃ c, cs[j]? = some c := ⟨_, List.getElem?_eq_getElem hnj⟩
              obtain ⟨⟨v1, F1, cv1⟩, hpj⟩ : ∃ p, P[j]? = some p := ⟨_, List.getElem?_eq_getElem (by have := HK.out; omega)⟩
              obtain ⟨hpt, hprd⟩ := HPO.out.2 j cj _ hcj hpj
              obtain ⟨f1, f2⟩ := flatP_at hpj
              obtain ⟨b1', e1', c1⟩ := own_cell HP.out f1
              obtain ⟨b2', e2', c2⟩ := own_cell HP.out f2
              injection e1' with e1'
              injection e1' with e1'
              subst e1'
              injection e2' with e2'
              injection e2' with e2'
              subst e2'
              have hv1 := hpt.vars _ hprd
              obtain ⟨va, vc, ev1, -⟩ := id hv1
              simp only at ev1 hv1 c1 c2 hpt hprd
              subst ev1
              have m1 := (HJ.out.en.bel.cell (p := ⟨bp, j * 2, none⟩) HBPL.out).trans c1
              have m2 := (HJ.out.en.bel.cell (p := ⟨bp, j * 2 + 1, none⟩) HBPL.out).trans c2
              obtain ⟨W3, hW3⟩ : ∃ W3, wr.alloc (.cells #[.slice va cj.vars.length vc, .func (.func F1) #[cv1] #[]] 88) = W3 := ⟨_, rfl⟩
              have B3 : Below wr.heap.size wr W3 := by rw [← hW3]; exact (Below.refl _ _).alloc (Nat.le_refl _) _
              have q3 : W3.heap[wr.heap.size]? = some (.cells #[.slice va cj.vars.length vc, .func (.func F1) #[cv1] #[]] 88) := by rw [← hW3]; exact World.alloc_heap_new _ _
              have z1 : W3.cell? ⟨wr.heap.size, 0, none⟩ = some (.slice va cj.vars.length vc) := by simp [World.cell?, q3]
              have z2 : W3.cell? ⟨wr.heap.size, 1, none⟩ = some (.func (.func F1) #[cv1] #[]) := by simp [World.cell?, q3]
              have HJ3 := Lib.hid (HJ.out.step B3)
              have HA := Lib.hid (hasAny_any (.slice ca cn cc) ch (.slice va cj.vars.length vc) (.func (.func F1) #[cv1] #[]) cj.vars W3 (rdInts_of_own HJ3.out.ch) (hv1.below HJ3.out.en.bel))
              have HVA : Hid (varsAt cs j = cj.vars) := Lib.hid (by unfold varsAt; rw [hcj])
              have HW3 := Lib.hid hW3
              clear hcj hpj hpt hprd f1 f2 c1 c2 hv1 B3 q3 hW3 HJ hnj
              cases hji : ((j : Int) != (i : Int))
              · have HNX : Hid (nxQ cs i ch q (j + 1) = nxQ cs i ch q j) := Lib.hid (by rw [nxQ, hji]; rfl)
                gi_wp2
                refine ⟨trivial, ?_⟩
                gi_wp2
                rw [HW3.out]
                refine ⟨⟨j + 1, by omega, by simp, Lib.hid (by rw [HNX.out]; exact HJ3.out)⟩, ?_⟩
                simp [intOf]
                omega
              · rw [← HW3.out] at z1 z2
                gi_wp2_with fail
                rw [HW3.out]
                refine ⟨trivial, (CallsIn.inRound _ (callsIn_wide.2 HA.out)).mono ?_⟩
                rintro e w5 ⟨rfl, b5⟩
                have HJ5 := Lib.hid (HJ3.out.step b5)
                clear b5 z1 z2 m1 m2 HA
                cases hab : anyB cj.vars ch
                · have HNX : Hid (nxQ cs i ch q (j + 1) = nxQ cs i ch q j) := Lib.hid (by rw [nxQ, HVA.out, hab, hji]; rfl)
                  gi_wp2
                  refine ⟨⟨j + 1, by omega, by simp, Lib.hid (by rw [HNX.out]; exact HJ5.out)⟩, ?_⟩
                  simp [intOf]
                  omega
                · have HNX : Hid (nxQ cs i ch q (j + 1) = addW (nxQ cs i ch q j) j) := Lib.hid (by rw [nxQ, HVA.out, hab, hji]; rfl)
                  obtain ⟨qv, qb, qr⟩ := HJ5.out.en.qb
                  have hql : (nxQ cs i ch q j).length ≤ k := okQ_le (HH.out.okq.nx (cs := cs) (i := i) (ch := ch) j (by omega))
                  have HADD := Lib.hid (wadd_any (fun b => (Bd + 1 < b ∧ ¬ (Bt ≤ b ∧ b < Bt + 3)) ∧ ¬ (X.heap.size ≤ b ∧ b < X2.heap.size)) (Bd + 1) j (nxQ cs i ch q j) qv w5 qb qr (fun b hb => by have h1 := HJ5.out.sz; have h2 := HZ.out; have h3 := HXS.out; have h4 := HBQ.out; exact ⟨⟨by omega, by omega⟩, by omega⟩) (fun h => by have := h.1.1; omega) (by omega))
                  clear qb qr hql
                  gi_wp2_with fail
                  refine ⟨trivial, (CallsIn.inRound _ (callsIn_wide.2 HADD.out)).mono ?_⟩
                  rintro e w6 ⟨⟨u6, rfl⟩, v6, kb6, kq6, kd6⟩
                  have HJ6 : Hid (InSt w g Bd nd cap (.slice (some ⟨bp, 0, none⟩) k pc) Bt R.heap.size X X2 (.slice ca cn cc) ch (filL c d) (nxQ cs i ch q (j + 1)) w6) := Lib.hid (by
                    rw [HNX.out]
                    have hbq := HBQ.out
                    refine ⟨HJ5.out.en.dq HLY.out kd6 kb6 kq6, (kd6.block Bt HJ5.out.bt.lt (by omega) (.inl (fun h => h.1.2 ⟨by omega, by omega⟩))).trans HJ5.out.bt, HJ5.out.kf.trans (kd6.keeps (by have := HSR.out; omega)), own_keep HJ5.out.ch (fun b hb => ?_), HJ5.out.cb, Nat.le_trans HJ5.out.sz kd6.size⟩
                    have h1 := HJ5.out.cb b hb
                    have h2 := HJ5.out.sz
                    have h3 := HXS.out
                    exact kd6.block b (by omega) (by omega) (.inl (fun h => h.2 h1)))
                  clear kb6 kq6 kd6 HADD
                  gi_wp2
                  refine ⟨⟨j + 1, by omega, by simp, HJ6⟩, ?_⟩
                  simp [intOf]
                  omega
            · obtain rfl : k = j := by omega
              have HFI : Hid (LpSt cs w g Bd nd cap (.slice (some ⟨bp, 0, none⟩) k pc) Bt k ds ((nxE cs d i q).1, (nxE cs d i q).2, none) wr) := Lib.hid (by
                unfold nxE
                rw [HCA.out, ← HCH.out, ← HKC.out]
                refine ⟨HJ.out.en.imp (fun b hb _ => hb.1), HJ.out.bt, HH.out.run.fil (List.mem_of_getElem? HCC.out), HH.out.okq.nx _ (Nat.le_refl _), ?_⟩
                have := conQ_next HCC.out HH.out.run.ok HH.out.con
                rw [← HCH.out, ← HKC.out] at this
                exact this)
              gi_wp2
              exact ⟨HJ.out.kf, trivial, HFI.out⟩
      case hdone =>
        rintro D s X hD ⟨hq, hpe⟩ h hK
        obtain ⟨d, q, pe⟩ := s
        simp only at hq hpe
        subst hq hpe
        have hcon := conQ_done h.con
        have hcell := h.en.db.cell
        have hrd := h.en.row.rd
        rw [h.en.len] at hrd
        have HRD := Lib.hid hrd
        have HEN := Lib.hid h.en
        have HRUN := Lib.hid h.run
        have HCN := Lib.hid hcon
        clear h hrd hcon
        cases he : emptyB d
        · have HEB := Lib.hid he
          have HRES : Hid (proL cs ds = d) := Lib.hid (proL_eq HOD.out (HRUN.out.done HCN.out he)).symm
          clear he
          gi_wp2_with (refine ⟨trivial, ?_⟩; gi_at_call 31; refine (callsIn_wide.2 (ihasEmpty_any _ d _ HRD.out)).mono ?_; rintro e w' ⟨rfl, rfl⟩; rw [HEB.out])
          refine ⟨by simp, .inl ⟨_, _, rfl, run_takeDeferred hK, ?_⟩⟩
          have hZ : ∀ o', Below w.heap.size w (X.putObj D o') ∧ XT g cap d (X.putObj D o') := fun o' => by
            have l1 := HLR.out.g1
            have l2 := HLR.out.g2
            have l3 := HLR.out.g3
            have l4 := HSR.out
            have l5 := HBQ.out
            have hg := grownBy_putObj' X D o'
            exact ⟨HEN.out.bel.grown hg HEN.out.bel.size (fun r e => by cases e; omega), HEN.out.row.keep (hg.block _ HEN.out.row.lt (by simp; omega))⟩
          have hown : ∀ o', (X.putObj D o').ownsRow w.heap.size 3 1 (.slice (some ⟨g, 0, none⟩) nd cap) (proL cs ds).length ((proL cs ds).map (Value.int .i64)) := fun o' => by
            rw [HRES.out]
            have := own_of_xt (hZ o').2 (B := w.heap.size) (by have := HLR.out.g1; omega)
            rw [HEN.out.len] at this ⊢
            exact this
          exact ⟨_, results_tmp rfl _ _ _, _, rfl, hown _, (hZ _).1⟩
        · have HEB := Lib.hid he
          have HRES : Hid (proL cs ds = List.replicate nd 0) := Lib.hid (proL_eq HOD.out (HRUN.out.fail he)).symm
          have HCC : Hid (∀ j, j < nd → (X.cell? ⟨g, 0 + j, none⟩).isSome = true) := Lib.hid (fun j hj => by rw [Nat.zero_add, HEN.out.row.at (by rw [HEN.out.len]; exact hj)]; rfl)
          have HFF : Hid (∀ j, j < nd → X.frozen? ⟨g, 0 + j, none⟩ = false) := Lib.hid (fun j hj => HEN.out.row.unfrozen _)
          have hcl := xt_clear nd 0 X d (by rw [HEN.out.len]; omega) HEN.out.row
          have HCL := Lib.hid hcl
          have hc2 : (X.setCells g 0 (List.replicate nd (.int .i64 0))).cell? ⟨Bd, 0, none⟩ = some (.slice (some ⟨g, 0, none⟩) nd cap) := (World.cell?_setCells_out g _ 0 X ⟨Bd, 0, none⟩ (fun e => by simp at e; have := HLR.out.g2; omega)).trans hcell
          have hk2 : (X.setCells g 0 (List.replicate nd (.int .i64 0))).heap[D]? = some (.deferred (some [])) := (setCells_block g D (by have := HSR.out; have := HLR.out.g2; have := HLR.out.g3; have := HBQ.out; omega) _ _ _).trans hK
          clear he hcl
          have HRC := Lib.hid (Lib.run_clear_slice (P := Try.prog) X 22 3 0 (.int .i64 0) Try.underlying22 zeroInt rfl rfl g 0 nd cap (by omega) HCC.out HFF.out)
          gi_wp2_with (refine ⟨trivial, ?_⟩; gi_at_call 31; refine (callsIn_wide.2 (ihasEmpty_any _ d _ HRD.out)).mono ?_; rintro e w' ⟨rfl, rfl⟩; rw [HEB.out])
          rw [HRC.out]
          gi_wp2
          refine ⟨by simp, .inl ⟨_, _, rfl, run_takeDeferred hk2, ?_⟩⟩
          have hZ : ∀ o', Below w.heap.size w ((X.setCells g 0 (List.replicate nd (.int .i64 0))).putObj D o') ∧ XT g cap (List.replicate nd 0) ((X.setCells g 0 (List.replicate nd (.int .i64 0))).putObj D o') := fun o' => by
            have l1 := HLR.out.g1
            have l2 := HLR.out.g2
            have l3 := HLR.out.g3
            have l4 := HSR.out
            have l5 := HBQ.out
            have hb : Below w.heap.size w (X.setCells g 0 (List.replicate nd (.int .i64 0))) := HEN.out.bel.trans (HCL.out.2.mono (by omega))
            have hx : XT g cap (List.replicate nd 0) (X.setCells g 0 (List.replicate nd (.int .i64 0))) := by have := HCL.out.1; simpa using this
            have hg := grownBy_putObj' (X.setCells g 0 (List.replicate nd (.int .i64 0))) D o'
            exact ⟨hb.grown hg hb.size (fun r e => by cases e; omega), hx.keep (hg.block _ hx.lt (by simp; omega))⟩
          have hown : ∀ o', ((X.setCells g 0 (List.replicate nd (.int .i64 0))).putObj D o').ownsRow w.heap.size 3 1 (.slice (some ⟨g, 0, none⟩) nd cap) (proL cs ds).length ((proL cs ds).map (Value.int .i64)) := fun o' => by
            rw [HRES.out]
            have := own_of_xt (hZ o').2 (B := w.heap.size) (by have := HLR.out.g1; omega)
            simpa using this
          exact ⟨_, results_tmp rfl _ _ _, _, rfl, hown _, (hZ _).1⟩
      case hstop =>
        rintro D c s X hD _ ⟨rfl, d, q, hen, hrun, he⟩ hK
        have hcell := hen.db.cell
        have hrd := hen.row.rd
        rw [hen.len] at hrd
        have HRD := Lib.hid hrd
        have HEN := Lib.hid hen
        have HRUN := Lib.hid hrun
        clear hen hrd hrun
        have HEB := Lib.hid he
        have HRES : Hid (proL cs ds = List.replicate nd 0) := Lib.hid (proL_eq HOD.out (HRUN.out.fail he)).symm
        have HCC : Hid (∀ j, j < nd → (X.cell? ⟨g, 0 + j, none⟩).isSome = true) := Lib.hid (fun j hj => by rw [Nat.zero_add, HEN.out.row.at (by rw [HEN.out.len]; exact hj)]; rfl)
        have HFF : Hid (∀ j, j < nd → X.frozen? ⟨g, 0 + j, none⟩ = false) := Lib.hid (fun j hj => HEN.out.row.unfrozen _)
        have hcl := xt_clear nd 0 X d (by rw [HEN.out.len]; omega) HEN.out.row
        have HCL := Lib.hid hcl
        have hc2 : (X.setCells g 0 (List.replicate nd (.int .i64 0))).cell? ⟨Bd, 0, none⟩ = some (.slice (some ⟨g, 0, none⟩) nd cap) := (World.cell?_setCells_out g _ 0 X ⟨Bd, 0, none⟩ (fun e => by simp at e; have := HLR.out.g2; omega)).trans hcell
        have hk2 : (X.setCells g 0 (List.replicate nd (.int .i64 0))).heap[D]? = some (.deferred (some [])) := (setCells_block g D (by have := HSR.out; have := HLR.out.g2; have := HLR.out.g3; have := HBQ.out; omega) _ _ _).trans hK
        clear he hcl
        have HRC := Lib.hid (Lib.run_clear_slice (P := Try.prog) X 22 3 0 (.int .i64 0) Try.underlying22 zeroInt rfl rfl g 0 nd cap (by omega) HCC.out HFF.out)
        gi_wp2_with (refine ⟨trivial, ?_⟩; gi_at_call 31; refine (callsIn_wide.2 (ihasEmpty_any _ d _ HRD.out)).mono ?_; rintro e w' ⟨rfl, rfl⟩; rw [HEB.out])
        rw [HRC.out]
        gi_wp2
        refine ⟨by simp, .inl ⟨_, _, rfl, run_takeDeferred hk2, ?_⟩⟩
        have hZ : ∀ o', Below w.heap.size w ((X.setCells g 0 (List.replicate nd (.int .i64 0))).putObj D o') ∧ XT g cap (List.replicate nd 0) ((X.setCells g 0 (List.replicate nd (.int .i64 0))).putObj D o') := fun o' => by
          have l1 := HLR.out.g1
          have l2 := HLR.out.g2
          have l3 := HLR.out.g3
          have l4 := HSR.out
          have l5 := HBQ.out
          have hb : Below w.heap.size w (X.setCells g 0 (List.replicate nd (.int .i64 0))) := HEN.out.bel.trans (HCL.out.2.mono (by omega))
          have hx : XT g cap (List.replicate nd 0) (X.setCells g 0 (List.replicate nd (.int .i64 0))) := by have := HCL.out.1; simpa using this
          have hg := grownBy_putObj' (X.setCells g 0 (List.replicate nd (.int .i64 0))) D o'
          exact ⟨hb.grown hg hb.size (fun r e => by cases e; omega), hx.keep (hg.block _ hx.lt (by simp; omega))⟩
        have hown : ∀ o', ((X.setCells g 0 (List.replicate nd (.int .i64 0))).putObj D o').ownsRow w.heap.size 3 1 (.slice (some ⟨g, 0, none⟩) nd cap) (proL cs ds).length ((proL cs ds).map (Value.int .i64)) := fun o' => by
          rw [HRES.out]
          have := own_of_xt (hZ o').2 (B := w.heap.size) (by have := HLR.out.g1; omega)
          simpa using this
        exact ⟨_, results_tmp rfl _ _ _, _, rfl, hown _, (hZ _).1⟩
end Go.Proofs.Ytipapmmjfoaddaa
