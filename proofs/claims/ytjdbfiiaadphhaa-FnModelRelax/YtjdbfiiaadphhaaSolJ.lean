/- The program's test of a solution. -/
import Derived.Test.YtjdbfiiaadphhaaSolA
namespace Go.Proofs.Ytjdbfiiaadphhaa
open Go.ChangeShapes Go.WideShapes Go.ChangeAt Go.RowKit
set_option linter.unusedVariables false
set_option linter.unusedSimpArgs false

theorem own_formJ {w : World} {B : Nat} {e : TypeId} {k : Nat} {v : Value} {n : Nat} {xs : List Value} (h : w.ownsRow B e k v n xs) : ∃ a cap, v = .slice a n cap := by
  rcases h.2 with ⟨e, h0⟩ | ⟨g, cap, cur, e, _⟩
  · exact ⟨none, 0, by rw [e, h0]⟩
  · exact ⟨_, _, e⟩
theorem viol_zero {m : Mod} {xs : List Int} (hv : vmB m = true) (hl : xs.length = m.doms.length) (hi : insB m.doms xs = true) : (decide ((violL m xs).length = 0)) = satsB m.cons xs := by
  have ha : allB xs 0 5 = true := allB_true fun j hj => by have := small_of_ins hi j hj; exact wiB_true this.1 this.2
  have e : violL m xs = violS m.cons xs m.cons.length := by unfold violL; rw [hv, ha, decide_eq_true hl]; rfl
  rw [e]
  cases hs : satsB m.cons xs
  · rw [decide_eq_false_iff_not, violS_nil _ _ _ (Nat.le_refl _)]
    intro h
    rw [satsB_true h] at hs
    cases hs
  · rw [decide_eq_true_iff, violS_nil _ _ _ (Nat.le_refl _)]
    intro j c hj hc
    unfold satsB at hs
    rw [List.all_eq_true] at hs
    exact hs c (List.mem_of_getElem? hc)

set_option maxRecDepth 100000 in
set_option maxHeartbeats 4000000 in
theorem iIS_any (m : Mod) (v xv : Value) (xs : List Int) (w : World) (h : RdModel w v m) (hx : RdInts w xv xs) (hm : ModLe m 1048576) :
    Calls Try.prog 60 #[v, xv] w (BoolPost (solB m xs) w) := by
  obtain ⟨a1, a2, c1, c2, rfl, h1, h2⟩ := rdModel_slices h
  obtain ⟨ax, cx, ev, -⟩ := id hx
  rw [ev] at hx ⊢
  obtain ⟨W1, hW1⟩ : ∃ W1, w.alloc (.cells #[.slice a1 m.doms.length c1, .slice a2 m.cons.length c2] 68) = W1 := ⟨_, rfl⟩
  have B1 : Below w.heap.size w W1 := by rw [← hW1]; exact (Below.refl _ _).alloc (Nat.le_refl _) _
  have bP : Blk2 W1 w.heap.size 68 (.slice a1 m.doms.length c1) (.slice a2 m.cons.length c2) := by rw [← hW1]; exact Blk2.new w _ _ _
  have HM := Lib.hid (h.below B1)
  have HX := Lib.hid (hx.below B1)
  have I1 := Lib.hid (h1.below B1)
  have HB1 := Lib.hid B1
  have HW := Lib.hid hW1
  have HP := Lib.hid bP
  have hc1 := (rdInts_cap (h1.below B1)).2
  have hc2 := (rdCons_cap (h2.below B1)).2
  have hc3 := (rdInts_cap (hx.below B1)).2
  have HLE := Lib.hid hm
  clear h h1 h2 hx hW1 B1 bP ev hm
  obtain ⟨p0, p1⟩ := HP.out.cell
  go_enter Try.func60, Try.ntmps60
  go_wp2_with fail
  rw [HW.out]
  refine (ivm_any m _ W1 HM.out HLE.out).mono ?_
  rintro e w2 ⟨rfl, b2⟩
  have HB2 := Lib.hid (HB1.out.trans (b2.mono HB1.out.size))
  have HM2 := Lib.hid (HM.out.below b2)
  have HX2 := Lib.hid (HX.out.below b2)
  have I12 := Lib.hid (I1.out.below b2)
  have HP2 := Lib.hid (HP.out.below b2)
  clear p0 p1 b2 HX I1 HP HB1 HM
  obtain ⟨p0, p1⟩ := HP2.out.cell
  cases hv : vmB m
  · go_wp2
    go_ret
    exact ⟨ret_bool (by unfold solB; rw [hv]; rfl), HB2.out⟩
  by_cases hl : xs.length = m.doms.length
  · have hd : ((xs.length : Int) != (m.doms.length : Int)) = false := by simp [hl]
    have HL := Lib.hid hl
    have HV := Lib.hid hv
    obtain ⟨n, hn⟩ : ∃ n, n = m.doms.length := ⟨_, rfl⟩
    have HN := Lib.hid hn
    have HNX : Hid (xs.length = n) := Lib.hid (by omega)
    rw [HNX.out] at HX2 hd ⊢
    rw [← hn] at I12 HP2 HM2 p0 hd hc1 ⊢
    clear hl hn
    have hd' : ((n : Int) != (n : Int)) = false := by simp
    go_wp2
    go_loop [20] (fun i => ∃ k : Nat, k ≤ n ∧ i = .int .i64 k ∧ Hid (∀ j, j < k → hasB (m.doms[j]?.getD 0) (xs[j]?.getD 0) = true)) (fun i => n - (intOf i).toNat)
    case atStart => exact ⟨0, Nat.zero_le _, rfl, fun j hj => by omega⟩
    case round =>
      obtain ⟨k, hk, rfl, HE⟩ := hrel
      by_cases hlt : k < n
      · obtain ⟨b, off, rfl, q1⟩ := rdInts_at I12.out hlt
        obtain ⟨b2, o2, rfl, q2⟩ := rdInts_at HX2.out hlt
        have d1 := (doms_small HV.out).1 k (by have := HN.out; omega)
        have HDB : Hid (domB (m.doms[k]?.getD 0) (xs[k]?.getD 0) = hasB (m.doms[k]?.getD 0) (xs[k]?.getD 0)) := Lib.hid (by unfold domB; rw [wiB_true d1.1 d1.2]; rfl)
        clear d1
        cases hw : hasB (m.doms[k]?.getD 0) (xs[k]?.getD 0)
        · have HF : Hid (solB m xs = false) := Lib.hid (by
            have : insB m.doms xs = false := decide_eq_false (fun h => by have := h k (by have := HNX.out; omega); rw [hw] at this; cases this)
            unfold solB; rw [this]; simp)
          go_wp2_with (go_at_call 122; refine (iDomainHas_any _ _ _).mono ?_; rintro e w' ⟨rfl, rfl⟩; rw [HDB.out, hw])
          go_ret
          exact ⟨ret_bool HF.out.symm, HB2.out⟩
        · have HX3 := Lib.hid hw
          go_wp2_with (go_at_call 122; refine (iDomainHas_any _ _ _).mono ?_; rintro e w' ⟨rfl, rfl⟩; rw [HDB.out, hw])
          go_round
          case rel => exact ⟨k + 1, by omega, by go_num, fun j hj => by by_cases e : j = k; (· subst e; exact HX3.out); (· exact HE.out j (by omega))⟩
          case measure => simp [intOf]; omega
      · obtain rfl : k = n := by omega
        have HI : Hid (insB m.doms xs = true) := Lib.hid (decide_eq_true (fun j hj => HE.out j (by have := HNX.out; omega)))
        have HZ := Lib.hid (viol_zero HV.out HL.out HI.out)
        have HSB : Hid (solB m xs = satsB m.cons xs) := Lib.hid (by unfold solB; rw [HV.out, decide_eq_true HL.out, HI.out]; simp)
        clear HE
        go_wp2_with fail
        refine (iViolated_any m _ _ xs w2 HM2.out HX2.out HLE.out).mono ?_
        rintro e w3 ⟨v3, rfl, o3, b3⟩
        have HB3 := Lib.hid (HB2.out.trans (b3.mono HB2.out.size))
        obtain ⟨a3, cap3, rfl⟩ := own_formJ o3
        clear b3 o3
        obtain ⟨L, hL⟩ : ∃ L, L = (violL m xs).length := ⟨_, rfl⟩
        rw [← hL] at HZ ⊢
        clear hL
        by_cases h0 : L = 0
        · have HR : Hid (solB m xs = true) := Lib.hid (by rw [HSB.out, ← HZ.out, decide_eq_true h0])
          subst h0
          go_wp2
          go_ret
          exact ⟨ret_bool HR.out.symm, HB3.out⟩
        · have HR : Hid (solB m xs = false) := Lib.hid (by rw [HSB.out, ← HZ.out, decide_eq_false h0])
          have hd0 : ((L : Int) == 0) = false := by simp; omega
          go_wp2
          go_ret
          exact ⟨ret_bool HR.out.symm, HB3.out⟩
  · have hd : ((xs.length : Int) != (m.doms.length : Int)) = true := by simp; omega
    have HL := Lib.hid hl
    clear hl
    go_wp2
    go_ret
    exact ⟨ret_bool (by unfold solB; rw [decide_eq_false HL.out]; simp), HB2.out⟩

end Go.Proofs.Ytjdbfiiaadphhaa
