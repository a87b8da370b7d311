/- What a solution is; the reference's projection. -/
import Derived.Test.YtkmdkbnphmadpaaSatU
namespace Go.Proofs.Ytkmdkbnphmadpaa
open Go.ChangeShapes Go.WideShapes Go.ChangeAt Go.RowKit
set_option linter.unusedVariables false
set_option linter.unusedSimpArgs false

/-- A slice literal without elements. -/
theorem ownsRow_made (w : World) (e : TypeId) : (w.alloc (.cells #[] e)).ownsRow w.heap.size e 1 (.slice (some ⟨w.heap.size, 0, none⟩) 0 0) 0 [] := by
  refine ⟨by simp, .inr ⟨w.heap.size, 0, #[], rfl, Nat.le_refl _, ?_, by simp, by simp, by simp, by simp⟩⟩
  exact (MapKept.heap_alloc w _).1
theorem rdInts_of_own {w : World} {B : Nat} {v : Value} {xs : List Int} (h : w.ownsRow B 3 1 v xs.length (xs.map (Value.int .i64))) : RdInts w v xs := by
  rcases h.2 with ⟨e, h0⟩ | ⟨g, cap, cur, e, _, _, h1, h2, _⟩
  · have hx : xs = [] := List.eq_nil_of_length_eq_zero h0
    subst hx
    exact ⟨none, 0, by rw [e]; rfl, by simp, by unfold maxLen; omega, .inl rfl⟩
  · rw [e] at h ⊢
    refine ⟨some ⟨g, 0, none⟩, cap, rfl, h1, h2, .inr ⟨g, 0, rfl, fun i hi => ?_⟩⟩
    rw [Nat.zero_add, h.cellAt i (by omega)]
    simp [hi]

/-- What project leaves. -/
def ProjPost (ys : List Int) (w : World) (e : Ending) (w' : World) : Prop := ∃ v, e = .returned v ∧ RdInts w' v ys ∧ Below w.heap.size w w'
theorem take_step (ys : List Int) (k : Nat) (h : k < ys.length) : ys.take (k + 1) = ys.take k ++ [ys[k]?.getD 0] := by
  rw [List.take_succ_eq_append_getElem h, List.getElem?_eq_getElem h]; rfl

set_option maxRecDepth 100000 in
set_option maxHeartbeats 4000000 in
theorem project_any (c : Con) (cv xv : Value) (xs : List Int) (w : World) (h : RdCon w cv c) (hx : RdInts w xv xs) (hvars : Small c.vars 0 (xs.length - 1)) (hv4 : c.vars.length ≤ 4) :
    Calls Try.prog 118 #[cv, xv] w (ProjPost (projL c xs) w) := by
  obtain ⟨a2, a3, a5, c2, c3, c5, rfl, h2, -⟩ := rdCon_slices h
  obtain ⟨ax, cx, ev, -⟩ := id hx
  rw [ev] at hx ⊢
  obtain ⟨W1, hW1⟩ : ∃ W1, w.alloc (.cells #[.int .i64 c.kind, .slice a2 c.vars.length c2, .slice a3 c.args.length c3, .int .i64 c.bound, .slice a5 c.rows.length c5] 28) = W1 := ⟨_, rfl⟩
  have B1 : Below w.heap.size w W1 := by rw [← hW1]; exact (Below.refl _ _).alloc (Nat.le_refl _) _
  have bP : Blk5 W1 w.heap.size 28 (.int .i64 c.kind) (.slice a2 c.vars.length c2) (.slice a3 c.args.length c3) (.int .i64 c.bound) (.slice a5 c.rows.length c5) := by rw [← hW1]; exact Blk5.new w _ _ _ _ _ _
  have hsz : W1.heap.size = w.heap.size + 1 := by rw [← hW1, World.size_alloc]
  have HX := Lib.hid (hx.below B1)
  have HV := Lib.hid (h2.below B1)
  have HB1 := Lib.hid B1
  have HW := Lib.hid hW1
  have HVS := Lib.hid hvars
  have HSZ := Lib.hid hsz
  obtain ⟨n, hn⟩ : ∃ n, n = c.vars.length := ⟨_, rfl⟩
  obtain ⟨m, hm⟩ : ∃ m, m = xs.length := ⟨_, rfl⟩
  have HN := Lib.hid hn
  have HM := Lib.hid hm
  rw [← hn] at HV bP HW hv4 ⊢
  rw [← hm] at HX ⊢
  have hcv := (rdInts_cap HV.out).2
  have hcx := (rdInts_cap HX.out).2
  have HP := Lib.hid bP
  clear h hx h2 hW1 B1 bP ev hn hm hvars hsz
  obtain ⟨i0, hi, hz0, hz1, hz2⟩ := info_parts Try.info3
  obtain ⟨ys, hys⟩ : ∃ ys, ys = projL c xs := ⟨_, rfl⟩
  have HY := Lib.hid hys
  have HYL : Hid (ys.length = n) := Lib.hid (by rw [hys, projL_length, HN.out])
  rw [← hys]
  clear hys
  go_enter Try.func118, Try.ntmps118
  go_wp2
  rw [HW.out, ← HSZ.out]
  go_loopw [5, 6] (fun v i wr => ∃ k : Nat, k ≤ n ∧ i = .int .i64 k ∧ Hid (wr.ownsRow W1.heap.size 3 1 v (ys.take k).length ((ys.take k).map (Value.int .i64))) ∧ Hid (Below W1.heap.size W1 wr)) (fun _ i _ => n - (intOf i).toNat)
  case atStart => exact ⟨0, Nat.zero_le _, rfl, Lib.hid (ownsRow_made W1 3), Lib.hid ((Below.refl _ _).alloc (Nat.le_refl _) _)⟩
  case round =>
    obtain ⟨k, hk, rfl, HR, HBE⟩ := hrel
    obtain ⟨p0, p1, p2, p3, p4⟩ := (HP.out.below HBE.out).cell
    have hs := HBE.out.size
    by_cases hlt : k < n
    · obtain ⟨b, off, rfl, q1⟩ := rdInts_at (HV.out.below HBE.out) hlt
      have v1 := HVS.out k (by have := HN.out; omega)
      obtain ⟨z, hz⟩ : ∃ z : Nat, c.vars[k]?.getD 0 = (z : Int) := ⟨(c.vars[k]?.getD 0).toNat, by omega⟩
      have hzm : z < m := by have := HM.out; omega
      obtain ⟨b2, o2, rfl, q2⟩ := rdInts_at (HX.out.below HBE.out) hzm
      rw [hz] at q1
      have HYK : Hid (ys[k]?.getD 0 = xs[z]?.getD 0) := Lib.hid (by rw [HY.out, projL_at c xs (by have := HN.out; omega), hz]; rfl)
      have HTK : Hid ((ys.take k).length = k) := Lib.hid (by rw [List.length_take]; have := HYL.out; omega)
      have hown := HR.out
      rw [HTK.out] at hown
      clear v1 hz HR
      go_wp2_with (at_builtin; refine wpList_append_own _ rfl _ _ 22 rfl W1.heap.size 3 i0 (.int .i64 0) 1 8 Try.underlying22 hi hz0 hz1 hz2 rfl (by decide) _ _ _ rfl (hown.alloc _) ⟨wr.heap.size, 0, none⟩ 1 1 [.int .i64 (xs[z]?.getD 0)] rfl rfl (cell_one_new _ _ _) (by simp [Value.oneCell']) (by unfold maxLen; omega) (by omega) (by simp; omega) ?_; intro v' w1 hown' hgrow _)
      have hb1 : Below W1.heap.size W1 w1 := ((HBE.out.alloc (by omega) _).grown hgrow (by simp; omega) (fun j e => (hown.lt j e).1))
      have HO2 : Hid (w1.ownsRow W1.heap.size 3 1 v' (ys.take (k + 1)).length ((ys.take (k + 1)).map (Value.int .i64))) := Lib.hid (by
        rw [take_step ys k (by have := HYL.out; omega), HYK.out, List.map_append, List.length_append, HTK.out]
        exact hown')
      have HB3 := Lib.hid hb1
      clear hown hown' hgrow hb1
      go_wp2
      go_roundw
      case rel => exact ⟨k + 1, by omega, by go_num, HO2, HB3⟩
      case measure => simp [intOf]; omega
    · obtain rfl : k = n := by omega
      have HFI : Hid (RdInts wr _ ys) := Lib.hid (rdInts_of_own (by have := HR.out; rwa [List.take_of_length_le (by have := HYL.out; omega)] at this))
      have HBw : Hid (Below w.heap.size w wr) := Lib.hid (HB1.out.trans (HBE.out.mono HB1.out.size))
      clear HR
      go_wp2
      go_ret
      exact ⟨_, rfl, HFI.out, HBw.out⟩

/-- Every value lies in its domain. -/
def insB (ds xs : List Int) : Bool := decide (∀ i, i < xs.length → hasB (ds[i]?.getD 0) (xs[i]?.getD 0) = true)
def satsB (cs : List Con) (xs : List Int) : Bool := cs.all fun c => satB c (projL c xs)
theorem satsB_true {cs : List Con} {xs : List Int} (h : ∀ (j : Nat) (c : Con), j < cs.length → cs[j]? = some c → satB c (projL c xs) = true) : satsB cs xs = true := by
  unfold satsB
  rw [List.all_eq_true]
  intro x hx
  obtain ⟨j, hj, rfl⟩ := List.mem_iff_getElem.1 hx
  exact h j _ hj (List.getElem?_eq_getElem hj)
theorem satsB_false {cs : List Con} {xs : List Int} {j : Nat} {c : Con} (hc : cs[j]? = some c) (h : satB c (projL c xs) = false) : satsB cs xs = false := by
  unfold satsB
  rw [List.all_eq_false]
  exact ⟨c, List.mem_of_getElem? hc, by simp [h]⟩
/-- The values are a solution of the valid model. -/
def solB (m : Mod) (xs : List Int) : Bool := vmB m && decide (xs.length = m.doms.length) && (insB m.doms xs && satsB m.cons xs)

/-- What a valid model and an assignment within 0..5 give for each constraint. -/
theorem fit_of {m : Mod} {xs : List Int} (hm : vmB m = true) (hl : xs.length = m.doms.length) (hs : Small xs 0 5) {c : Con} (hc : c ∈ m.cons) : Small c.vars 0 (xs.length - 1) ∧ Fit c (projL c xs) := by
  unfold vmB at hm
  simp only [Bool.and_eq_true] at hm
  obtain ⟨⟨⟨h1, _⟩, _⟩, h4⟩ := hm
  unfold consB at h4
  rw [List.all_eq_true] at h4
  have hv := h4 c hc
  unfold vcB at hv
  simp only [Bool.and_eq_true] at hv
  obtain ⟨⟨⟨e1, e2⟩, _⟩, e4⟩ := hv
  have w1 := wiB_in h1
  have w2 := wiB_in e1
  have sv : Small c.vars 0 (xs.length - 1) := by rw [hl]; exact small_of e2
  have sp : Small (projL c xs) 0 5 := by
    intro j hj
    rw [projL_length] at hj
    rw [projL_at c xs hj]
    have := sv j hj
    exact hs _ (by omega)
  refine ⟨sv, e4, projL_length c xs, by rw [projL_length]; omega, by rw [projL_length]; omega, sp, ?_⟩
  exact allB_true fun j hj => by have := sp j hj; exact wiB_true this.1 this.2
theorem small_of_ins {ds xs : List Int} (h : insB ds xs = true) : Small xs 0 5 := by
  intro j hj
  have := of_decide_eq_true h j hj
  unfold hasB at this
  have := of_decide_eq_true this
  exact ⟨this.1, this.2.1⟩
theorem doms_small {m : Mod} (hm : vmB m = true) : Small m.doms 0 63 ∧ m.doms.length ≤ 4 ∧ 1 ≤ m.doms.length ∧ m.cons.length ≤ 6 := by
  unfold vmB at hm
  simp only [Bool.and_eq_true] at hm
  obtain ⟨⟨⟨h1, h2⟩, h3⟩, h4⟩ := hm
  have := wiB_in h1
  exact ⟨small_of h2, by omega, by omega, of_decide_eq_true h3⟩

end Go.Proofs.Ytkmdkbnphmadpaa
