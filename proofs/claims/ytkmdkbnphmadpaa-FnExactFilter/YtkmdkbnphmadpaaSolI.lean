/- The program's test of a solution, and its list of violated constraints. -/
import Derived.Test.YtkmdkbnphmadpaaSolA
namespace Go.Proofs.Ytkmdkbnphmadpaa
open Go.ChangeShapes Go.WideShapes Go.ChangeAt Go.RowKit
set_option linter.unusedVariables false
set_option linter.unusedSimpArgs false

/-- The violated ones among the first k constraints. -/
def violS (cs : List Con) (xs : List Int) : Nat → List Int
  | 0 => []
  | k + 1 => violS cs xs k ++ (match cs[k]? with | some c => if satB c (projL c xs) then [] else [(k : Int)] | none => [])
theorem violS_le (cs : List Con) (xs : List Int) (k : Nat) : (violS cs xs k).length ≤ k := by
  induction k with
  | zero => simp [violS]
  | succ k ih => simp only [violS, List.length_append]; split <;> (try split) <;> simp <;> omega
theorem violS_yes {cs : List Con} {xs : List Int} {k : Nat} {c : Con} (hc : cs[k]? = some c) (h : satB c (projL c xs) = true) : violS cs xs (k + 1) = violS cs xs k := by
  rw [violS, hc]; simp [h]
theorem violS_no {cs : List Con} {xs : List Int} {k : Nat} {c : Con} (hc : cs[k]? = some c) (h : satB c (projL c xs) = false) : violS cs xs (k + 1) = violS cs xs k ++ [(k : Int)] := by
  rw [violS, hc]; simp [h]
theorem violS_nil (cs : List Con) (xs : List Int) (k : Nat) (hk : k ≤ cs.length) : ((violS cs xs k).length = 0 ↔ ∀ (j : Nat) (c : Con), j < k → cs[j]? = some c → satB c (projL c xs) = true) := by
  induction k with
  | zero => simp [violS]
  | succ k ih =>
    have i := ih (by omega)
    have hc : cs[k]? = some cs[k] := List.getElem?_eq_getElem (by omega)
    cases hs : satB cs[k] (projL cs[k] xs)
    · rw [violS_no hc hs]
      constructor
      · intro h; simp at h
      · intro h; have := h k _ (by omega) hc; rw [hs] at this; cases this
    · rw [violS_yes hc hs, i]
      constructor
      · intro h j c hj hc'
        by_cases e : j = k
        · subst e; rw [hc] at hc'; rw [← Option.some.inj hc']; exact hs
        · exact h j c (by omega) hc'
      · intro h j c hj hc'; exact h j c (by omega) hc'
/-- What Violated returns. -/
def violL (m : Mod) (xs : List Int) : List Int := if vmB m && (decide (xs.length = m.doms.length) && allB xs 0 5) then violS m.cons xs m.cons.length else []

set_option maxRecDepth 100000 in
theorem isAssignment_any (xv : Value) (xs : List Int) (n : Nat) (w : World) (hx : RdInts w xv xs) (hn : n ≤ 9223372036854775807) :
    Calls Try.prog 73 #[xv, .int .i64 n] w fun e w' => e = .returned (.bool (decide (xs.length = n) && allB xs 0 5)) ∧ w = w' := by
  have HX := Lib.hid hx
  obtain ⟨ax, cx, e2, -⟩ := id hx
  rw [e2] at HX ⊢
  have hc := (rdInts_cap HX.out).2
  clear e2 hx
  by_cases hl : xs.length = n
  · have hd : ((xs.length : Int) == (n : Int)) = true := by simp [hl]
    have HL := Lib.hid hl
    clear hl
    go_enter Try.func73, Try.ntmps73
    go_wp2_with fail
    refine (allWithin_any _ xs _ _ _ HX.out).mono ?_
    rintro e w' ⟨rfl, rfl⟩
    go_wp2
    go_ret
    exact ⟨ret_bool (by rw [decide_eq_true HL.out]; simp), rfl⟩
  · have hd : ((xs.length : Int) == (n : Int)) = false := by simp; omega
    have HL := Lib.hid hl
    clear hl
    go_enter Try.func73, Try.ntmps73
    go_wp2
    go_ret
    exact ⟨ret_bool (by rw [decide_eq_false HL.out]; simp), rfl⟩

theorem own_mono {w : World} {B B' : Nat} {e : TypeId} {k : Nat} {v : Value} {n : Nat} {xs : List Value} (h : w.ownsRow B e k v n xs) (hb : B' ≤ B) : w.ownsRow B' e k v n xs :=
  ⟨h.1, h.2.imp id fun ⟨g, cap, cur, e, hg, r⟩ => ⟨g, cap, cur, e, Nat.le_trans hb hg, r⟩⟩
theorem own_below {w w' : World} {B : Nat} {e : TypeId} {k : Nat} {v : Value} {n : Nat} {xs : List Value} (h : w.ownsRow B e k v n xs) (b : Below w.heap.size w w') : w'.ownsRow B e k v n xs := by
  refine World.ownsRow.kept h (show w.grownBy w' none from ⟨b.os, b.tape, b.output, b.size, fun q hq _ => b.block q hq⟩) ?_
  rcases h.2 with ⟨e, _⟩ | ⟨g, cap, cur, e, _⟩
  · exact .inl (by rw [e]; rfl)
  · exact .inr (by rw [e]; simp [Value.ownBlock])
/-- A slice of integers of the call's own, which reads ys. -/
def IntsPost (ys : List Int) (w : World) (e : Ending) (w' : World) : Prop := ∃ v, e = .returned v ∧ w'.ownsRow w.heap.size 3 1 v ys.length (ys.map (Value.int .i64)) ∧ Below w.heap.size w w'

set_option maxRecDepth 100000 in
set_option maxHeartbeats 4000000 in
theorem iViolated_any (m : Mod) (v xv : Value) (xs : List Int) (w : World) (h : RdModel w v m) (hx : RdInts w xv xs) (hm : ModLe m 1048576) :
    Calls Try.prog 30 #[v, xv] w (IntsPost (violL m xs) w) := by
  obtain ⟨a1, a2, c1, c2, rfl, h1, h2⟩ := rdModel_slices h
  obtain ⟨ax, cx, ev, -⟩ := id hx
  rw [ev] at hx ⊢
  obtain ⟨W1, hW1⟩ : ∃ W1, w.alloc (.cells #[.slice a1 m.doms.length c1, .slice a2 m.cons.length c2] 39) = W1 := ⟨_, rfl⟩
  have B1 : Below w.heap.size w W1 := by rw [← hW1]; exact (Below.refl _ _).alloc (Nat.le_refl _) _
  have bP : Blk2 W1 w.heap.size 39 (.slice a1 m.doms.length c1) (.slice a2 m.cons.length c2) := by rw [← hW1]; exact Blk2.new w _ _ _
  have HM := Lib.hid (h.below B1)
  have HX := Lib.hid (hx.below B1)
  have I2 := Lib.hid (h2.below B1)
  have HB1 := Lib.hid B1
  have HW := Lib.hid hW1
  have HP := Lib.hid bP
  have hc1 := (rdInts_cap (h1.below B1)).2
  have hc2 := (rdCons_cap (h2.below B1)).2
  have hc3 := (rdInts_cap (hx.below B1)).2
  have HLE := Lib.hid hm
  clear h h1 h2 hx hW1 B1 bP ev hm
  obtain ⟨p0, p1⟩ := HP.out.cell
  obtain ⟨i0, hi, hz0, hz1, hz2⟩ := info_parts Try.info3
  go_enter Try.func30, Try.ntmps30
  go_wp2_with fail
  rw [HW.out]
  refine (ivm_any m _ W1 HM.out HLE.out).mono ?_
  rintro e w2 ⟨rfl, b2⟩
  have HB2 := Lib.hid (HB1.out.trans (b2.mono HB1.out.size))
  have HX2 := Lib.hid (HX.out.below b2)
  have I22 := Lib.hid (I2.out.below b2)
  have HP2 := Lib.hid (HP.out.below b2)
  clear p0 p1 b2 HX I2 HP HB1 HM
  obtain ⟨p0, p1⟩ := HP2.out.cell
  cases hv : vmB m
  · have HF : Hid (violL m xs = []) := Lib.hid (by unfold violL; rw [hv]; rfl)
    go_wp2
    go_ret
    exact ⟨_, rfl, by rw [HF.out]; exact World.ownsRow_nil _ _ _ _, HB2.out⟩
  go_wp2_with fail
  refine (isAssignment_any _ xs m.doms.length w2 HX2.out (by omega)).mono ?_
  rintro e w2' ⟨rfl, rfl⟩
  cases ha : (decide (xs.length = m.doms.length) && allB xs 0 5)
  · have HF : Hid (violL m xs = []) := Lib.hid (by unfold violL; rw [hv, ha]; rfl)
    go_wp2
    go_ret
    exact ⟨_, rfl, by rw [HF.out]; exact World.ownsRow_nil _ _ _ _, HB2.out⟩
  have HF : Hid (violL m xs = violS m.cons xs m.cons.length) := Lib.hid (by unfold violL; rw [hv, ha]; rfl)
  have ha2 := Bool.and_eq_true_iff.1 ha
  have HFT := Lib.hid (fun (c : Con) (hc : c ∈ m.cons) => fit_of hv (of_decide_eq_true ha2.1) (small_of ha2.2) hc)
  have hk6 := (doms_small hv).2.2.2
  clear ha2
  obtain ⟨k2, hk2⟩ : ∃ k2, k2 = m.cons.length := ⟨_, rfl⟩
  rw [← hk2] at HP2 I22 p1 hc2 hk6 HF ⊢
  have HN2 := Lib.hid hk2
  clear hk2
  go_wp2
  go_loopw [5, 22] (fun u i wr => ∃ j : Nat, j ≤ k2 ∧ i = .int .i64 j ∧ Hid (wr.ownsRow w2.heap.size 3 1 u (violS m.cons xs j).length ((violS m.cons xs j).map (Value.int .i64))) ∧ Hid (Below w2.heap.size w2 wr)) (fun _ i _ => k2 - (intOf i).toNat)
  case atStart => exact ⟨0, Nat.zero_le _, rfl, Lib.hid (World.ownsRow_nil _ _ _ _), Lib.hid (Below.refl _ _)⟩
  case round =>
    obtain ⟨j, hj, rfl, HO, HBE⟩ := hrel
    by_cases hlt : j < k2
    · obtain ⟨b, off, c, x2, x3, x5, y2, y3, y5, rfl, hck, t0, t1, t2, t3, t4, hr⟩ := rdCons_at (I22.out.below HBE.out) hlt
      have HCK := Lib.hid hck
      have hft := HFT.out c (List.mem_of_getElem? hck)
      have HSV := Lib.hid hft.1
      have HFI := Lib.hid hft.2
      obtain ⟨W3, hW3⟩ : ∃ W3, wr.alloc (.cells #[.int .i64 c.kind, .slice x2 c.vars.length y2, .slice x3 c.args.length y3, .int .i64 c.bound, .slice x5 c.rows.length y5] 28) = W3 := ⟨_, rfl⟩
      have B3 : Below wr.heap.size wr W3 := by rw [← hW3]; exact (Below.refl _ _).alloc (Nat.le_refl _) _
      have HW3 := Lib.hid hW3
      have R1 := Lib.hid (hr.below B3)
      have R2 := Lib.hid ((HX2.out.below HBE.out).below B3)
      have HBE3 := Lib.hid (HBE.out.trans (B3.mono HBE.out.size))
      have HO3 : Hid (W3.ownsRow w2.heap.size 3 1 _ (violS m.cons xs j).length ((violS m.cons xs j).map (Value.int .i64))) := Lib.hid (by rw [← hW3]; exact HO.out.alloc _)
      have hle := violS_le m.cons xs j
      clear hck hr hft hW3 B3 HO HBE
      cases hs : satB c (projL c xs)
      · have HS := Lib.hid (violS_no HCK.out hs)
        go_wp2_with fail
        rw [HW3.out]
        refine (isatisfies_any c _ _ xs W3 R1.out R2.out HSV.out HFI.out).mono ?_
        rintro e w5 ⟨rfl, b5⟩
        rw [hs]
        have HBE5 := HBE3.out.trans (b5.mono HBE3.out.size)
        have hown := own_below HO3.out b5
        have hsz := HBE5.size
        clear b5
        go_wp2_with (at_builtin; refine wpList_append_own _ rfl _ _ 22 rfl w2.heap.size 3 i0 (.int .i64 0) 1 8 Try.underlying22 hi hz0 hz1 hz2 rfl (by decide) _ _ _ rfl (hown.alloc _) ⟨w5.heap.size, 0, none⟩ 1 1 [.int .i64 j] rfl rfl (cell_one_new _ _ _) (by simp [Value.oneCell']) (by unfold maxLen; omega) (by omega) (by simp; omega) ?_; intro v' w6 hown' hgrow _)
        have hb7 : Below w2.heap.size w2 w6 := ((HBE5.alloc (by omega) _).grown hgrow (by simp; omega) (fun q e => (hown.lt q e).1))
        go_wp2
        go_roundw
        case rel => exact ⟨j + 1, by omega, by go_num, Lib.hid (by rw [HS.out, List.length_append, List.map_append]; exact hown'), Lib.hid hb7⟩
        case measure => simp [intOf]; omega
      · have HS := Lib.hid (violS_yes HCK.out hs)
        go_wp2_with fail
        rw [HW3.out]
        refine (isatisfies_any c _ _ xs W3 R1.out R2.out HSV.out HFI.out).mono ?_
        rintro e w5 ⟨rfl, b5⟩
        rw [hs]
        have HBE5 := Lib.hid (HBE3.out.trans (b5.mono HBE3.out.size))
        have HO5 := Lib.hid (own_below HO3.out b5)
        clear b5
        go_wp2
        go_roundw
        case rel => exact ⟨j + 1, by omega, by go_num, Lib.hid (by rw [HS.out]; exact HO5.out), HBE5⟩
        case measure => simp [intOf]; omega
    · obtain rfl : j = k2 := by omega
      go_wp2
      go_ret
      exact ⟨_, rfl, by rw [HF.out]; exact own_mono HO.out HB2.out.size, HB2.out.trans (HBE.out.mono HB2.out.size)⟩
end Go.Proofs.Ytkmdkbnphmadpaa
