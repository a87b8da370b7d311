/- Valid models, in both packages, and the law. -/
import Derived.Test.YtelglccegkhfcaaMod
namespace Go.Proofs.Ytelglccegkhfcaa
open Go.ChangeShapes Go.WideShapes Go.ChangeAt Go.RowKit
set_option linter.unusedVariables false
set_option linter.unusedSimpArgs false

theorem rdInts_at {w : World} {a : Option Addr} {n cap : Nat} {xs : List Int} (h : RdInts w (.slice a n cap) xs) {i : Nat} (hi : i < n) : ∃ (b off : Nat), a = some ⟨b, off, none⟩ ∧ w.cell? ⟨b, off + i, none⟩ = some (.int .i64 (xs[i]?.getD 0)) := by
  obtain ⟨a', cap', e, h1, h2, h3⟩ := h
  simp at e
  obtain ⟨rfl, rfl, rfl⟩ := e
  rcases h3 with h3 | ⟨b, off, rfl, h3⟩
  · omega
  · exact ⟨b, off, rfl, h3 i hi⟩
theorem rdInts_cap {w : World} {a : Option Addr} {n cap : Nat} {xs : List Int} (h : RdInts w (.slice a n cap) xs) : n = xs.length ∧ n ≤ cap ∧ cap ≤ 9223372036854775807 := by
  obtain ⟨a', cap', e, h1, h2, _⟩ := h
  simp at e
  obtain ⟨rfl, rfl, rfl⟩ := e
  exact ⟨rfl, h1, by unfold maxLen at h2; omega⟩
theorem rdCons_cap {w : World} {a : Option Addr} {n cap : Nat} {xs : List Con} (h : RdCons w (.slice a n cap) xs) : n = xs.length ∧ n ≤ cap ∧ cap ≤ 9223372036854775807 := by
  obtain ⟨a', cap', e, h1, h2, _⟩ := h
  simp at e
  obtain ⟨rfl, rfl, rfl⟩ := e
  exact ⟨rfl, h1, by unfold maxLen at h2; omega⟩

/-- Every constraint is valid for n variables. -/
def consB (cs : List Con) (n : Int) : Bool := cs.all fun c => vcB c n
theorem consB_true {cs : List Con} {n : Int} (h : ∀ (j : Nat) (c : Con), j < cs.length → cs[j]? = some c → vcB c n = true) : consB cs n = true := by
  unfold consB
  rw [List.all_eq_true]
  intro x hx
  obtain ⟨j, hj, rfl⟩ := List.mem_iff_getElem.1 hx
  exact h j _ hj (List.getElem?_eq_getElem hj)
theorem consB_false {cs : List Con} {n : Int} {j : Nat} {c : Con} (hc : cs[j]? = some c) (h : vcB c n = false) : consB cs n = false := by
  unfold consB
  rw [List.all_eq_false]
  exact ⟨c, List.mem_of_getElem? hc, by simp [h]⟩
/-- The model is valid. -/
def vmB (m : Mod) : Bool := wiB m.doms.length 1 4 && allB m.doms 0 63 && decide (m.cons.length ≤ 6) && consB m.cons m.doms.length

set_option maxRecDepth 100000 in
theorem validDomains_any (dv : Value) (ds : List Int) (w : World) (h : RdInts w dv ds) :
    Calls Try.prog 122 #[dv] w fun e w' => e = .returned (.bool (wiB ds.length 1 4 && allB ds 0 63)) ∧ w = w' := by
  have HX := Lib.hid h
  obtain ⟨ax, cx, e2, -⟩ := id h
  rw [e2] at HX ⊢
  have hc := (rdInts_cap HX.out).2
  clear e2 h
  cases hw : wiB ds.length 1 4
  · go_enter Try.func122, Try.ntmps122
    go_wp2_with (go_at_call 81; refine (within_any _ _ _ _).mono ?_; rintro e w' ⟨rfl, rfl⟩)
    go_ret
    exact ⟨rfl, rfl⟩
  · go_enter Try.func122, Try.ntmps122
    go_wp2_with (first
      | (go_at_call 81; refine (within_any _ _ _ _).mono ?_; rintro e w' ⟨rfl, rfl⟩)
      | (go_at_call 105; refine (allWithin_any _ ds _ _ _ HX.out).mono ?_; rintro e w' ⟨rfl, rfl⟩))
    go_ret
    exact ⟨rfl, rfl⟩

set_option maxRecDepth 100000 in
set_option maxHeartbeats 4000000 in
theorem ivm_any (m : Mod) (v : Value) (w : World) (h : RdModel w v m) (hm : ModLe m 1048576) :
    Calls Try.prog 75 #[v] w (BoolPost (vmB m) w) := by
  obtain ⟨a1, a2, c1, c2, rfl, h1, h2⟩ := rdModel_slices h
  obtain ⟨hl1, hl2, hl3⟩ := hm
  obtain ⟨W1, hW1⟩ : ∃ W1, w.alloc (.cells #[.slice a1 m.doms.length c1, .slice a2 m.cons.length c2] 43) = W1 := ⟨_, rfl⟩
  have B1 : Below w.heap.size w W1 := by rw [← hW1]; exact (Below.refl _ _).alloc (Nat.le_refl _) _
  have bP : Blk2 W1 w.heap.size 43 (.slice a1 m.doms.length c1) (.slice a2 m.cons.length c2) := by rw [← hW1]; exact Blk2.new w _ _ _
  have I1 := Lib.hid (h1.below B1)
  have I2 := Lib.hid (h2.below B1)
  have HB1 := Lib.hid B1
  have HK := Lib.hid hl3
  have HW := Lib.hid hW1
  obtain ⟨n, hn⟩ : ∃ n, n = m.doms.length := ⟨_, rfl⟩
  obtain ⟨k2, hk2⟩ : ∃ k2, k2 = m.cons.length := ⟨_, rfl⟩
  have HN := Lib.hid hn
  have HN2 := Lib.hid hk2
  rw [← hn, ← hk2] at bP HW
  rw [← hn] at I1 hl1
  rw [← hk2] at I2 hl2
  have hc1 := (rdInts_cap I1.out).2
  have hc2 := (rdCons_cap I2.out).2
  rw [← hn, ← hk2]
  have HP := Lib.hid bP
  clear h h1 h2 hl3 hW1 B1 bP hn hk2
  have hfin : vmB m = (wiB n 1 4 && allB m.doms 0 63 && decide (k2 ≤ 6) && consB m.cons n) := by unfold vmB; rw [← HN.out, ← HN2.out]
  have HF := Lib.hid hfin
  clear hfin
  obtain ⟨p0, p1⟩ := HP.out.cell
  go_enter Try.func75, Try.ntmps75
  go_wp2_with fail
  rw [HW.out]
  refine (validDomains_any _ m.doms _ I1.out).mono ?_
  rintro e w' ⟨rfl, rfl⟩
  rw [← HN.out]
  cases hw : (wiB n 1 4 && allB m.doms 0 63)
  · go_wp2
    go_ret
    exact ⟨ret_bool (by rw [HF.out, hw]; rfl), HB1.out⟩
  have hw4 : wiB n 1 4 = true := (Bool.and_eq_true_iff.1 hw).1
  by_cases h6 : k2 ≤ 6
  · have hd : decide ((k2 : Int) > 6) = false := by simp; omega
    go_wp2
    go_loopw [18] (fun i wr => ∃ j : Nat, j ≤ k2 ∧ i = .int .i64 j ∧ Hid (∀ (q : Nat) (c : Con), q < j → m.cons[q]? = some c → vcB c n = true) ∧ Hid (Below W1.heap.size W1 wr)) (fun i _ => k2 - (intOf i).toNat)
    case atStart => exact ⟨0, Nat.zero_le _, rfl, fun q c hq => by omega, Lib.hid (Below.refl _ _)⟩
    case round =>
      obtain ⟨j, hj, rfl, HE, HBE⟩ := hrel
      clear p0 p1
      have HBw : Hid (Below w.heap.size w wr) := Lib.hid (HB1.out.trans (HBE.out.mono HB1.out.size))
      have HPR := Lib.hid (HP.out.below HBE.out)
      by_cases hlt : j < k2
      · obtain ⟨b, off, c, x2, x3, x5, y2, y3, y5, rfl, hck, t0, t1, t2, t3, t4, hr⟩ := rdCons_at (I2.out.below HBE.out) hlt
        have HCK := Lib.hid hck
        have R1 := Lib.hid hr
        have HV : c.vars.length ≤ 1048576 := (HK.out j c hck).1
        clear hck hr
        obtain ⟨W2, hW2⟩ : ∃ W2, wr.alloc (.cells #[.int .i64 c.kind, .slice x2 c.vars.length y2, .slice x3 c.args.length y3, .int .i64 c.bound, .slice x5 c.rows.length y5] 97) = W2 := ⟨_, rfl⟩
        have B2 : Below wr.heap.size wr W2 := by rw [← hW2]; exact (Below.refl _ _).alloc (Nat.le_refl _) _
        have HW2 := Lib.hid hW2
        have R2 := Lib.hid (R1.out.below B2)
        have HBE2 := Lib.hid (HBE.out.trans (B2.mono HBE.out.size))
        have HBw2 := Lib.hid (HBw.out.trans (B2.mono HBw.out.size))
        obtain ⟨p0, p1⟩ := (HPR.out.below B2).cell
        rw [← hW2] at p0 p1
        clear hW2 B2
        cases hv : vcB c n
        · have HX : Hid (consB m.cons n = false) := Lib.hid (consB_false HCK.out hv)
          go_wp2_with fail
          rw [HW2.out]
          refine (ivc_any c _ n W2 R2.out (by omega)).mono ?_
          rintro e w9 ⟨rfl, b9⟩
          have B9 := Lib.hid (HBw2.out.trans (b9.mono HBw2.out.size))
          clear b9
          go_wp2
          go_ret
          exact ⟨ret_bool (by rw [HF.out, HX.out]; simp), B9.out⟩
        · have HX := Lib.hid hv
          go_wp2_with fail
          rw [HW2.out]
          refine (ivc_any c _ n W2 R2.out (by omega)).mono ?_
          rintro e w9 ⟨rfl, b9⟩
          have B9 := Lib.hid (HBE2.out.trans (b9.mono HBE2.out.size))
          clear b9
          go_wp2
          go_roundw
          case rel => exact ⟨j + 1, by omega, by go_num, fun q c' hq hc => by by_cases e : q = j; (· subst e; rw [HCK.out] at hc; rw [← Option.some.inj hc]; exact HX.out); (· exact HE.out q c' (by omega) hc), B9⟩
          case measure => simp [intOf]; omega
      · obtain rfl : j = k2 := by omega
        have HC := Lib.hid (consB_true (cs := m.cons) (n := (n : Int)) (fun q c hq hc => HE.out q c (by have := HN2.out; omega) hc))
        clear HE
        go_wp2
        go_ret
        exact ⟨ret_bool (by rw [HF.out, hw, HC.out, decide_eq_true h6]; rfl), HBw.out⟩
  · have hd : decide ((k2 : Int) > 6) = true := by simp; omega
    go_wp2
    go_ret
    exact ⟨ret_bool (by rw [HF.out, decide_eq_false h6]; simp), HB1.out⟩

end Go.Proofs.Ytelglccegkhfcaa
