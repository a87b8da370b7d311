/- The program's test of a constraint at an assignment; the reference's projection. -/
import Derived.Test.YtkmdkbnphmadpaaSatT
import Derived.Maps.AppendAt
namespace Go.Proofs.Ytkmdkbnphmadpaa
open Go.ChangeShapes Go.WideShapes Go.ChangeAt Go.RowKit
set_option linter.unusedVariables false
set_option linter.unusedSimpArgs false

/-- The values of the variables of c. -/
def projL (c : Con) (xs : List Int) : List Int := c.vars.map fun v => xs[v.toNat]?.getD 0
theorem projL_length (c : Con) (xs : List Int) : (projL c xs).length = c.vars.length := by simp [projL]
theorem projL_at (c : Con) (xs : List Int) {k : Nat} (hk : k < c.vars.length) : (projL c xs)[k]?.getD 0 = xs[(c.vars[k]?.getD 0).toNat]?.getD 0 := by
  simp [projL, hk]

/-- The rule that the program picks answers as the one test does. -/
theorem pick_any (c : Con) (cv : Value) (x : List Int) (w : World) (h : RdCon w cv c) (f : Fit c x) :
    ∃ F : Nat, (F = 140 ∨ F = 141 ∨ F = 142 ∨ F = 143 ∨ F = 144 ∨ F = 145 ∨ F = 146 ∨ F = 147 ∨ F = 148) ∧ (Calls Try.prog 121 #[cv] w (fun e w' => e = .returned (.func (.func F) #[cv] #[]) ∧ Below w.heap.size w w')) ∧
      ∀ (xv : Value) (w' : World), RdCon w' cv c → RdInts w' xv x → Calls Try.prog F #[cv, xv] w' (BoolPost (satB c x) w') := by
  obtain ⟨hk, hl, h1, h4, hs, ha⟩ := f
  unfold satB
  rcases kind_cases hk with ⟨k, e1, e2⟩ | ⟨k, e1, e2, e3⟩ | k | ⟨k, e1, e2⟩ | ⟨k, e1⟩ | ⟨k, e1⟩ | ⟨k, e1, e2, e3⟩ | ⟨k, e1, e2⟩ | k
  · exact ⟨_, .inl rfl, test1 c cv w h k, fun xv w' h' hx => by rw [if_pos k]; exact isat1 c cv xv x w' h' hx (by omega) h4 e2 hs⟩
  · exact ⟨_, .inr (.inl rfl), test2 c cv w h k, fun xv w' h' hx => by rw [if_neg (by omega), if_pos k]; exact isat2 c cv xv x w' h' hx e2 (by omega) e3 hs⟩
  · exact ⟨_, .inr (.inr (.inl rfl)), test3 c cv w h k, fun xv w' h' hx => by rw [if_neg (by omega), if_neg (by omega), if_pos k]; exact isat3 c cv xv x w' h' hx ha⟩
  · exact ⟨_, .inr (.inr (.inr (.inl rfl))), test4 c cv w h k, fun xv w' h' hx => by rw [if_neg (by omega), if_neg (by omega), if_neg (by omega), if_pos k]; exact isat4 c cv xv x w' h' hx e2 (by omega) hs⟩
  · exact ⟨_, .inr (.inr (.inr (.inr (.inl rfl)))), test5 c cv w h k, fun xv w' h' hx => by rw [if_neg (by omega), if_neg (by omega), if_neg (by omega), if_neg (by omega), if_pos k]; exact isat5 c cv xv x w' h' hx⟩
  · exact ⟨_, .inr (.inr (.inr (.inr (.inr (.inl rfl))))), test6 c cv w h k, fun xv w' h' hx => by rw [if_neg (by omega), if_neg (by omega), if_neg (by omega), if_neg (by omega), if_neg (by omega), if_pos k]; exact isat6 c cv xv x w' h' hx e1 h4⟩
  · exact ⟨_, .inr (.inr (.inr (.inr (.inr (.inr (.inl rfl)))))), test7 c cv w h k, fun xv w' h' hx => by rw [if_neg (by omega), if_neg (by omega), if_neg (by omega), if_neg (by omega), if_neg (by omega), if_neg (by omega), if_pos k, cap_eq e2 (by omega) hs e3]; exact isat7 c cv xv x w' h' hx (by omega) h4 e2 hs h1⟩
  · exact ⟨_, .inr (.inr (.inr (.inr (.inr (.inr (.inr (.inl rfl))))))), test8 c cv w h k, fun xv w' h' hx => by rw [if_neg (by omega), if_neg (by omega), if_neg (by omega), if_neg (by omega), if_neg (by omega), if_neg (by omega), if_neg (by omega), if_pos k]; exact isat8 c cv xv x w' h' hx e1 h4 e2 hs⟩
  · exact ⟨_, .inr (.inr (.inr (.inr (.inr (.inr (.inr (.inr (rfl)))))))), test9 c cv w h k, fun xv w' h' hx => by rw [if_neg (by omega), if_neg (by omega), if_neg (by omega), if_neg (by omega), if_neg (by omega), if_neg (by omega), if_neg (by omega), if_neg (by omega), circ_eq x h1 h4 hs]; exact isat9 c cv xv x w' h' hx h1 h4 hs⟩

set_option maxRecDepth 100000 in
set_option maxHeartbeats 4000000 in
theorem isatisfies_any (c : Con) (cv xv : Value) (xs : List Int) (w : World) (h : RdCon w cv c) (hx : RdInts w xv xs) (hvars : Small c.vars 0 (xs.length - 1)) (f : Fit c (projL c xs)) :
    Calls Try.prog 74 #[cv, xv] w (BoolPost (satB c (projL c xs)) w) := by
  obtain ⟨a2, a3, a5, c2, c3, c5, rfl, h2, -⟩ := rdCon_slices h
  obtain ⟨ax, cx, ev, -⟩ := id hx
  rw [ev] at hx ⊢
  obtain ⟨W1, hW1⟩ : ∃ W1, w.alloc (.cells #[.int .i64 c.kind, .slice a2 c.vars.length c2, .slice a3 c.args.length c3, .int .i64 c.bound, .slice a5 c.rows.length c5] 28) = W1 := ⟨_, rfl⟩
  have B1 : Below w.heap.size w W1 := by rw [← hW1]; exact (Below.refl _ _).alloc (Nat.le_refl _) _
  have bP : Blk5 W1 w.heap.size 28 (.int .i64 c.kind) (.slice a2 c.vars.length c2) (.slice a3 c.args.length c3) (.int .i64 c.bound) (.slice a5 c.rows.length c5) := by rw [← hW1]; exact Blk5.new w _ _ _ _ _ _
  have HC := Lib.hid (h.below B1)
  have HX := Lib.hid (hx.below B1)
  have HV := Lib.hid (h2.below B1)
  have HB1 := Lib.hid B1
  have HW := Lib.hid hW1
  have HF := Lib.hid f
  have HVS := Lib.hid hvars
  obtain ⟨n, hn⟩ : ∃ n, n = c.vars.length := ⟨_, rfl⟩
  obtain ⟨m, hm⟩ : ∃ m, m = xs.length := ⟨_, rfl⟩
  have HN := Lib.hid hn
  have HM := Lib.hid hm
  have hn4 : n ≤ 4 := by have := f.four; rw [projL_length] at this; omega
  rw [← hn] at HV bP HW HC ⊢
  rw [← hm] at HX ⊢
  have hcv := (rdInts_cap HV.out).2
  have hcx := (rdInts_cap HX.out).2
  have HP := Lib.hid bP
  have hz1 : w.heap.size < W1.heap.size := bP.lt
  clear h hx h2 hW1 B1 bP ev hn hm f hvars
  obtain ⟨p0, p1, p2, p3, p4⟩ := HP.out.cell
  obtain ⟨i0, hi, hz0, hz1', hz2⟩ := info_parts Try.info3
  obtain ⟨ys, hys⟩ : ∃ ys, ys = projL c xs := ⟨_, rfl⟩
  have HY := Lib.hid hys
  have HYL : Hid (ys.length = n) := Lib.hid (by rw [hys, projL_length, HN.out])
  rw [← hys] at HF ⊢
  clear hys
  go_enter Try.func74, Try.ntmps74
  go_wp2_with (at_make; rw [HW.out]; refine wpList_make_full _ rfl _ _ 22 rfl W1.heap.size 3 i0 (.int .i64 0) 1 Try.underlying22 hi hz0 hz1' .i64 .i64 _ _ n rfl rfl rfl rfl (by rw [hz2]; omega) (by unfold maxLen; omega) (Nat.le_refl _) ?_; intro w1 hown hgrow; have hb1 := below_of_grown hgrow; obtain ⟨s0, s1, s2, s3, s4⟩ := (HP.out.below hb1).cell)
  rw [madeInts] at hown
  obtain ⟨g, hg⟩ : ∃ g, g = W1.heap.size := ⟨_, rfl⟩
  rw [← hg] at hown hz1 ⊢
  have HG := Lib.hid hg
  have HO : Hid (w1.ownsRow g 3 1 (.slice (some ⟨g, 0, none⟩) n n) n ((fillI ys 0).map (Value.int .i64))) := Lib.hid (by rw [show fillI ys 0 = List.replicate n 0 from by simp [fillI, HYL.out]]; exact hown)
  have HB2 := Lib.hid hb1
  clear hown hgrow hg hb1 p0 p1 p2 p3 p4
  go_loopw [15] (fun i wr => ∃ k : Nat, k ≤ n ∧ i = .int .i64 k ∧ Hid (wr.ownsRow g 3 1 (.slice (some ⟨g, 0, none⟩) n n) n ((fillI ys k).map (Value.int .i64))) ∧ Hid (Below W1.heap.size W1 wr)) (fun i _ => n - (intOf i).toNat)
  case atStart => exact ⟨0, Nat.zero_le _, rfl, HO, HB2⟩
  case round =>
    obtain ⟨k, hk, rfl, HR, HBE⟩ := hrel
    clear s0 s1 s2 s3 s4
    by_cases hlt : k < n
    · obtain ⟨b, off, rfl, q1⟩ := rdInts_at (HV.out.below HBE.out) hlt
      have v1 := HVS.out k (by have := HN.out; omega)
      obtain ⟨z, hz⟩ : ∃ z : Nat, c.vars[k]?.getD 0 = (z : Int) := ⟨(c.vars[k]?.getD 0).toNat, by omega⟩
      have hzm : z < m := by have := HM.out; omega
      obtain ⟨b2, o2, rfl, q2⟩ := rdInts_at (HX.out.below HBE.out) hzm
      rw [hz] at q1
      have HYK : Hid (ys[k]?.getD 0 = xs[z]?.getD 0) := Lib.hid (by rw [HY.out, projL_at c xs (by have := HN.out; omega), hz]; rfl)
      clear v1 hz
      have hc := HR.out.cellAt k (by omega)
      have hf := HR.out.frozenAt k
      obtain ⟨z0, hz0⟩ : ∃ z0, (fillI ys k)[k]? = some z0 := ⟨_, List.getElem?_eq_getElem (by rw [fillI_length _ _ (by have := HYL.out; omega)]; have := HYL.out; omega)⟩
      rw [List.getElem?_map, hz0] at hc
      simp only [Option.map_some] at hc
      clear hz0
      have HS := Lib.hid (HR.out.stored k (.int .i64 (xs[z]?.getD 0)))
      have HT := Lib.hid (fillI_step ys k (by have := HYL.out; omega))
      go_wp2
      go_roundw
      case rel =>
        refine ⟨k + 1, by omega, by go_num, Lib.hid ?_, Lib.hid (HBE.out.setCell (p := ⟨g, k, none⟩) (by have := HG.out; show W1.heap.size ≤ g; omega) _)⟩
        rw [← HT.out, List.map_set, HYK.out]
        exact HS.out.1
      case measure => simp [intOf]; omega
    · obtain rfl : k = n := by omega
      have e : fillI ys k = ys := by unfold fillI; have := HYL.out; rw [this, ← this]; simp
      have HFI := Lib.hid (rdInts_of_owns (xs := ys) (by rw [← e]; exact HR.out) HYL.out (Nat.le_refl _) (by unfold maxLen; omega))
      have HBw : Hid (Below w.heap.size w wr) := Lib.hid (HB1.out.trans (HBE.out.mono HB1.out.size))
      obtain ⟨p0, p1, p2, p3, p4⟩ := (HP.out.below HBE.out).cell
      obtain ⟨F, hD, hT, hF⟩ := pick_any c _ ys wr (HC.out.below HBE.out) HF.out
      have HTT := Lib.hid hT
      have HFF := Lib.hid hF
      have HDD := Lib.hid hD
      clear e hT hF hD
      go_wp2_with fail
      refine HTT.out.mono ?_
      rintro e w5 ⟨rfl, b5⟩
      have HB5 := Lib.hid (HBw.out.trans (b5.mono HBw.out.size))
      have R1 := Lib.hid ((HC.out.below HBE.out).below b5)
      have R2 := Lib.hid (HFI.out.below b5)
      clear b5 HTT
      rcases HDD.out with rfl | rfl | rfl | rfl | rfl | rfl | rfl | rfl | rfl
      all_goals
        go_wp2_with fail
        refine (HFF.out _ _ R1.out R2.out).mono ?_
        rintro e w6 ⟨rfl, b6⟩
        have HB6 := Lib.hid (HB5.out.trans (b6.mono HB5.out.size))
        clear b6
        go_wp2
        go_ret
        exact ⟨rfl, HB6.out⟩
end Go.Proofs.Ytkmdkbnphmadpaa
