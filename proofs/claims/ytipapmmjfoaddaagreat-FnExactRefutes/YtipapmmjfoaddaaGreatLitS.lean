/- Copies of clauses, and their test of equality. -/
import Derived.Test.YtipapmmjfoaddaaGreatLitC
namespace Go.Proofs.YtipapmmjfoaddaaGreat
open Go.ChangeShapes Go.WideShapes Go.ChangeAt Go.RowKit Go.Deep
set_option linter.unusedVariables false
set_option linter.unusedSimpArgs false

theorem Tryz.infoLit : (Tryz.prog.info? 91).map (fun i => (i.zero, i.size, i.bytes)) = some (some (.agg #[.int .i64 0, .int .i64 0, .bool false]), 3, 24) := by kernel_rfl
def set3 (vs : List Value) (p : Nat) (u0 u1 u2 : Value) : List Value := ((vs.set p u0).set (p + 1) u1).set (p + 2) u2
theorem set3_other (vs : List Value) (p q : Nat) (u0 u1 u2 : Value) (h : q < p ∨ p + 2 < q) : (set3 vs p u0 u1 u2)[q]? = vs[q]? := by
  unfold set3
  rw [List.getElem?_set_ne (by omega), List.getElem?_set_ne (by omega), List.getElem?_set_ne (by omega)]
theorem set3_at (vs : List Value) (p : Nat) (u0 u1 u2 : Value) (h : p + 2 < vs.length) : (set3 vs p u0 u1 u2)[p]? = some u0 ∧ (set3 vs p u0 u1 u2)[p + 1]? = some u1 ∧ (set3 vs p u0 u1 u2)[p + 2]? = some u2 := by
  unfold set3
  refine ⟨?_, ?_, ?_⟩ <;> simp [List.getElem?_set, List.length_set] <;> omega
theorem set3_length (vs : List Value) (p : Nat) (u0 u1 u2 : Value) : (set3 vs p u0 u1 u2).length = vs.length := by simp [set3]
/-- The first k literals lie in the cells vs. -/
def LitCells (ls : List Lit) (k : Nat) (vs : List Value) : Prop := vs.length = ls.length * 3 ∧ ∀ j l, j < k → ls[j]? = some l → vs[j * 3]? = some (.int .i64 l.var) ∧ vs[j * 3 + 1]? = some (.int .i64 l.val) ∧ vs[j * 3 + 2]? = some (.bool l.neg)
theorem LitCells.step {ls : List Lit} {k : Nat} {vs : List Value} (h : LitCells ls k vs) {l : Lit} (hc : ls[k]? = some l) : LitCells ls (k + 1) (set3 vs (k * 3) (.int .i64 l.var) (.int .i64 l.val) (.bool l.neg)) := by
  obtain ⟨h1, h2⟩ := h
  have hk : k < ls.length := (List.getElem?_eq_some_iff.1 hc).1
  refine ⟨by rw [set3_length]; exact h1, fun j l' hj hc' => ?_⟩
  by_cases e : j = k
  · subst e
    rw [hc] at hc'
    obtain rfl := Option.some.inj hc'
    exact set3_at _ _ _ _ _ (by omega)
  · obtain ⟨t0, t1, t2⟩ := h2 j l' (by omega) hc'
    exact ⟨by rw [set3_other _ _ _ _ _ _ (by omega)]; exact t0, by rw [set3_other _ _ _ _ _ _ (by omega)]; exact t1, by rw [set3_other _ _ _ _ _ _ (by omega)]; exact t2⟩
/-- What toLiteralS leaves: a row of its own. -/
def CopyLits (ls : List Lit) (w : World) (e : Ending) (w' : World) : Prop := e = .returned (.slice (some ⟨w.heap.size, 0, none⟩) ls.length ls.length) ∧ RdLits w' (.slice (some ⟨w.heap.size, 0, none⟩) ls.length ls.length) ls ∧ (∃ vs, w'.ownsRow w.heap.size 91 3 (.slice (some ⟨w.heap.size, 0, none⟩) ls.length ls.length) ls.length vs ∧ LitCells ls ls.length vs) ∧ Below w.heap.size w w'
theorem rdLits_of_cells {w : World} {B g : Nat} {ls : List Lit} {vs : List Value} (h : w.ownsRow B 91 3 (.slice (some ⟨g, 0, none⟩) ls.length ls.length) ls.length vs) (hc : LitCells ls ls.length vs) (hl : ls.length ≤ 1048576) : RdLits w (.slice (some ⟨g, 0, none⟩) ls.length ls.length) ls := by
  refine ⟨some ⟨g, 0, none⟩, ls.length, rfl, Nat.le_refl _, by unfold maxLen; omega, .inr ⟨g, 0, rfl, fun i l hi => ?_⟩⟩
  have hlt : i < ls.length := (List.getElem?_eq_some_iff.1 hi).1
  obtain ⟨t0, t1, t2⟩ := hc.2 i l hlt hi
  have hv : vs.length = ls.length * 3 := hc.1
  have k : ∀ q u, q < ls.length * 3 → vs[q]? = some u → w.cell? ⟨g, 0 + q, none⟩ = some u := fun q u hq hu => by rw [Nat.zero_add, h.cellAt q (by omega)]; exact hu
  exact ⟨k _ _ (by omega) t0, k _ _ (by omega) t1, k _ _ (by omega) t2⟩

set_option maxRecDepth 100000 in
set_option maxHeartbeats 4000000 in
theorem toLiteralS_any (v : Value) (ls : List Lit) (w : World) (h : RdLits w v ls) (hx : ls.length ≤ 1048576) :
    Calls Tryz.prog 27 #[v] w (CopyLits ls w) := by
  have HC := Lib.hid h
  obtain ⟨a, cap, ev, hl, hm, _⟩ := h
  unfold CopyLits
  obtain ⟨n, hn⟩ : ∃ n, n = ls.length := ⟨_, rfl⟩
  have HN := Lib.hid hn
  rw [ev] at HC ⊢
  rw [← hn] at hl hx HC ⊢
  clear hn ev
  unfold maxLen at hm
  obtain ⟨i0, hi, hz0, hz1, hz2⟩ := info_parts Tryz.infoLit
  go_enter Tryz.func27, Tryz.ntmps27
  go_wp2_with (at_make; refine wpList_make_full _ rfl _ _ 47 rfl w.heap.size 91 i0 (.agg #[.int .i64 0, .int .i64 0, .bool false]) 3 Tryz.underlying47 hi hz0 hz1 .i64 .i64 _ _ n rfl rfl rfl rfl (by rw [hz2]; omega) (by unfold maxLen; omega) (Nat.le_refl _) ?_; intro w1 hown hgrow)
  have hb1 := below_of_grown hgrow
  have hsz1 : w.heap.size < w1.heap.size := by
    rcases hown.2 with ⟨e, _⟩ | ⟨g, c, cur, e, _, hg, _⟩
    · simp at e
    · simp at e; obtain ⟨rfl, rfl⟩ := e; exact (Array.getElem?_eq_some_iff.1 hg).1
  obtain ⟨vs0, hvs0⟩ : ∃ vs0, vs0 = (madeCells (Value.cells (.agg #[.int .i64 0, .int .i64 0, .bool false])) (n * 3)).toList := ⟨_, rfl⟩
  rw [← hvs0] at hown
  have HO := Lib.hid hown
  have HV : Hid (LitCells ls 0 vs0) := Lib.hid ⟨by rw [hown.1, HN.out], fun j c hj => by omega⟩
  clear hown hgrow hvs0
  go_wp2_with fail
  go_loopw [4] (fun i wr => ∃ (k : Nat) (vs : List Value), k ≤ n ∧ i = .int .i64 k ∧ Hid (wr.ownsRow w.heap.size 91 3 (.slice (some ⟨w.heap.size, 0, none⟩) n n) n vs) ∧ Hid (LitCells ls k vs) ∧ Below w.heap.size w wr ∧ w.heap.size < wr.heap.size) (fun i _ => n - (intOf i).toNat)
  case atStart => exact ⟨0, _, Nat.zero_le _, rfl, HO, HV, hb1, hsz1⟩
  case round =>
    obtain ⟨k, vs, hk, rfl, HR, HV, hbel, hsz⟩ := hrel
    by_cases hlt : k < n
    · obtain ⟨b, off, l, rfl, hck, k0, k1, k2⟩ := rdLits_at (HC.out.below hbel) hlt
      have HCK := Lib.hid hck
      clear hck
      go_wp2_with fail
      refine (toLiteral_any l.var l.val l.neg wr).mono ?_
      rintro e w2 ⟨rfl, hb2⟩
      have HR2 := Lib.hid (World.ownsRow.kept HR.out (show wr.grownBy w2 none from ⟨hb2.os, hb2.tape, hb2.output, hb2.size, fun q hq _ => hb2.block q hq⟩) (.inr (by simp [Value.ownBlock])))
      have hb3 : Below w.heap.size w w2 := hbel.trans (hb2.mono hbel.size)
      have hs3 : w.heap.size < w2.heap.size := by have := hb2.size; omega
      clear hb2 hbel HR k0 k1 k2
      have hvl : vs.length = n * 3 := HR2.out.1
      have d0 : w2.cell? ⟨w.heap.size, k * 3, none⟩ = some (vs[k * 3]'(by omega)) := by rw [HR2.out.cellAt _ (by omega)]; exact List.getElem?_eq_getElem _
      have d1 : w2.cell? ⟨w.heap.size, k * 3 + 1, none⟩ = some (vs[k * 3 + 1]'(by omega)) := by rw [HR2.out.cellAt _ (by omega)]; exact List.getElem?_eq_getElem _
      have d2 : w2.cell? ⟨w.heap.size, k * 3 + 2, none⟩ = some (vs[k * 3 + 2]'(by omega)) := by rw [HR2.out.cellAt _ (by omega)]; exact List.getElem?_eq_getElem _
      have f0 := HR2.out.frozenAt (k * 3)
      have f1 := HR2.out.frozenAt (k * 3 + 1)
      have f2 := HR2.out.frozenAt (k * 3 + 2)
      go_wp2
      go_roundw
      case rel =>
        refine ⟨k + 1, set3 vs (k * 3) (.int .i64 l.var) (.int .i64 l.val) (.bool l.neg), by omega, by go_num, Lib.hid ?_, Lib.hid (HV.out.step HCK.out), ?_, by simpa using hs3⟩
        · have t0 := (HR2.out.stored (k * 3) (.int .i64 l.var)).1
          have t1 := (t0.stored (k * 3 + 1) (.int .i64 l.val)).1
          exact (t1.stored (k * 3 + 2) (.bool l.neg)).1
        · have hp : ∀ j : Nat, w.heap.size ≤ (⟨w.heap.size, j, none⟩ : Addr).block := fun j => Nat.le_refl _
          exact ((hb3.setCell (hp _) _).setCell (hp _) _).setCell (hp _) _
      case measure => simp [intOf]; omega
    · obtain rfl : k = n := by omega
      have HF : Hid (RdLits wr (.slice (some ⟨w.heap.size, 0, none⟩) k k) ls) := Lib.hid (by
        have := HN.out
        subst this
        exact rdLits_of_cells HR.out HV.out hx)
      go_wp2
      go_ret
      exact ⟨rfl, HF.out, ⟨vs, HR.out, HV.out⟩, hbel⟩

set_option maxRecDepth 100000 in
set_option maxHeartbeats 4000000 in
theorem eqLiteralS_same (v1 v2 : Value) (ls : List Lit) (w : World) (h1 : RdLits w v1 ls) (h2 : RdLits w v2 ls) :
    Calls Tryz.prog 29 #[v1, v2] w (SamePostB w) := by
  have H1 := Lib.hid h1
  have H2 := Lib.hid h2
  obtain ⟨a1, c1, ev1, hl1, hm1, _⟩ := h1
  obtain ⟨a2, c2, ev2, hl2, hm2, _⟩ := h2
  rw [ev1] at H1 ⊢
  rw [ev2] at H2 ⊢
  unfold maxLen at hm1 hm2
  obtain ⟨n, hn⟩ : ∃ n, n = ls.length := ⟨_, rfl⟩
  rw [← hn] at hl1 hl2 H1 H2 ⊢
  clear hn ev1 ev2
  have hne : ((n : Int) != (n : Int)) = false := by simp
  go_enter Tryz.func29, Tryz.ntmps29
  go_wp2
  go_loopw [5] (fun i wr => ∃ k : Nat, k ≤ n ∧ i = .int .i64 k ∧ Below w.heap.size w wr) (fun i _ => n - (intOf i).toNat)
  case atStart => exact ⟨0, Nat.zero_le _, rfl, Below.refl _ _⟩
  case round =>
    obtain ⟨k, hk, rfl, hbel⟩ := hrel
    by_cases hlt : k < n
    · obtain ⟨b1, o1, l, rfl, hck, k0, k1, k2⟩ := rdLits_at (H1.out.below hbel) hlt
      obtain ⟨b2, o2, l', rfl, hck', j0, j1, j2⟩ := rdLits_at (H2.out.below hbel) hlt
      rw [hck] at hck'
      obtain rfl := Option.some.inj hck'
      have HB : Hid (Below w.heap.size w wr.drew) := Lib.hid hbel.drew
      have HE := Lib.hid (eqLiteral_any l l wr.drew)
      rw [decide_eq_true rfl] at HE
      clear hck hck' hbel
      go_wp2_with fail
      go_region_with (go_at_call 73; refine HE.out.mono ?_; rintro e w9 ⟨rfl, b9⟩; have B9 := Lib.hid (HB.out.trans (b9.mono HB.out.size)); clear b9)
      all_goals go_wp2
      all_goals go_roundw
      all_goals first
        | exact ⟨k + 1, by omega, by go_num, B9.out⟩
        | (simp [intOf]; omega)
    · obtain rfl : k = n := by omega
      go_wp2
      go_ret
      exact ⟨rfl, hbel⟩
end Go.Proofs.YtipapmmjfoaddaaGreat
