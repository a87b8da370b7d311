/- slices.DeleteFunc on a clause; the program's without. -/
import Derived.Test.YtolfjkdkbiicmaaLitZ
namespace Go.Proofs.Ytolfjkdkbiicmaa
open Go.ChangeShapes Go.WideShapes Go.ChangeAt Go.RowKit Go.Deep Go.Shelf
set_option linter.unusedVariables false
set_option linter.unusedSimpArgs false

/-- The clause while literals are deleted: i kept of the first j. -/
def dfOk (ls cs : List Lit) (l : Lit) (i j : Nat) : Prop := i < j ∧ cs.take i = wioL (ls.take j) l ∧ ∀ q, j ≤ q → cs[q]? = ls[q]?
theorem dfOk.yes {ls cs : List Lit} {l o : Lit} {i j : Nat} (h : dfOk ls cs l i j) (ho : ls[j]? = some o) (he : o = l) : dfOk ls cs l i (j + 1) := by
  obtain ⟨h1, h2, h3⟩ := h
  refine ⟨by omega, ?_, fun q hq => h3 q (by omega)⟩
  rw [wioL_step ls l j o ho, decide_eq_true he, if_neg (by simp), List.append_nil]
  exact h2
theorem dfOk.no {ls cs : List Lit} {l o : Lit} {i j : Nat} (h : dfOk ls cs l i j) (ho : ls[j]? = some o) (he : ¬ o = l) (hi : i < cs.length) : dfOk ls (cs.set i o) l (i + 1) (j + 1) := by
  obtain ⟨h1, h2, h3⟩ := h
  refine ⟨by omega, ?_, fun q hq => by rw [List.getElem?_set_ne (by omega)]; exact h3 q (by omega)⟩
  rw [wioL_step ls l j o ho, decide_eq_false he, ← h2, List.take_add_one, List.getElem?_set_self hi, List.take_set_of_le (Nat.le_refl _)]
  rfl

set_option maxRecDepth 100000 in
set_option maxHeartbeats 16000000 in
theorem delF_any (v : Value) (ls : List Lit) (l : Lit) (bx B m : Nat) (w : World) (h : OwnC w B v m ls) (hbx : LitCs bx l w) (hlt : bx < B) (hB : B ≤ w.heap.size) :
    Calls Try.prog 174 #[v, .func (.func 175) #[] #[.pointer (some ⟨bx, 0, none⟩)]] w fun e w' => ∃ v', e = .returned v' ∧ OwnC w' B v' (wioL ls l).length (wioL ls l) ∧ Below B w w' := by
  have HO := Lib.hid h
  have HBX := Lib.hid hbx
  have HBL := Lib.hid hlt
  have HBB := Lib.hid hB
  have HM := Lib.hid h.1
  have HIX := Lib.hid (woIx_any v ls l bx w h.rd hbx)
  obtain ⟨a, c, ev, hmc, hcm, hform⟩ := h.form
  rw [ev] at HO HIX ⊢
  clear h hbx hlt hB ev
  go_enter Try.func174, Try.ntmps174
  go_wp2_with fail
  refine HIX.out.mono ?_
  rintro e w1 ⟨r, rfl, hcase, b1⟩
  have HB1 := Lib.hid (b1.mono HBB.out)
  have HO1 := Lib.hid (HO.out.below b1)
  have HS1 : Hid (B ≤ w1.heap.size) := Lib.hid (Nat.le_trans HBB.out b1.size)
  clear b1
  rcases hcase with ⟨rfl, hnot⟩ | ⟨i0, rfl, hi0, hli0, hw0⟩
  · have HF : Hid (wioL ls l = ls) := Lib.hid (List.filter_eq_self.2 (fun x hx => by simp; exact fun e => hnot (e ▸ hx)))
    clear hnot
    go_wp2
    go_ret
    refine ⟨_, rfl, ?_, HB1.out⟩
    rw [HF.out, HM.out]
    exact HO1.out
  have hm0 : 0 < m := by rw [← HM.out]; omega
  obtain ⟨g, rfl, hgB⟩ := hform hm0
  have hi0m : i0 < m := by rw [← HM.out]; exact hi0
  have hne1 : ((i0 : Int) == -1) = false := by simp
  have HD0 : Hid (dfOk ls ls l i0 (i0 + 1)) := Lib.hid ⟨by omega, hw0.symm, fun _ _ => rfl⟩
  clear hi0 hli0 hw0
  go_wp2_with fail
  go_loopw [5, 6] (fun q p wr => ∃ (i j : Nat) (cs : List Lit), j ≤ m ∧ q = .int .i64 i ∧ p = .int .i64 j ∧ Hid (dfOk ls cs l i j) ∧ Hid (OwnC wr B (.slice (some ⟨g, 0, none⟩) m c) m cs) ∧ Hid (Below B w wr) ∧ Hid (B ≤ wr.heap.size)) (fun _ p _ => m - (intOf p).toNat)
  case atStart => exact ⟨i0, i0 + 1, ls, by omega, rfl, by go_num, HD0, HO1, HB1, HS1⟩
  case round =>
    obtain ⟨i, j, cs, hj, rfl, rfl, HDF, HOC, HBW, HSW⟩ := hrel
    have hij : i < j := HDF.out.1
    by_cases hjm : j < m
    · obtain ⟨o, hlo⟩ : ∃ o, ls[j]? = some o := ⟨_, List.getElem?_eq_getElem (by rw [HM.out]; exact hjm)⟩
      have hco : cs[j]? = some o := by rw [HDF.out.2.2 j (Nat.le_refl _)]; exact hlo
      obtain ⟨k0, k1, k2⟩ := HOC.out.cells hco
      obtain ⟨W, hW⟩ : ∃ W, wr.alloc (.cells #[.int .i64 o.var, .int .i64 o.val, .bool o.neg] 47) = W := ⟨_, rfl⟩
      have bW : Below wr.heap.size wr W := by rw [← hW]; exact below1 _ _
      have HBX1 : Hid (LitCs wr.heap.size o W) := Lib.hid (by rw [← hW]; exact (Blk3.new _ _ _ _ _).cell)
      have HOW := Lib.hid (HOC.out.below bW)
      have HBWW := Lib.hid (HBW.out.trans (bW.mono HSW.out))
      have HE := Lib.hid (wo1_any o l bx W (litCs_base HBX.out HBWW.out HBL.out))
      have HW := Lib.hid hW
      have HSWW : Hid (B ≤ W.heap.size) := Lib.hid (Nat.le_trans HSW.out bW.size)
      have HLO := Lib.hid hlo
      clear hlo hco bW hW
      by_cases he : o = l
      · rw [decide_eq_true he] at HE
        have HDF2 := Lib.hid (HDF.out.yes HLO.out he)
        clear he
        go_wp2_with (go_at_call 175; rw [HW.out]; refine HE.out.mono ?_; rintro e w9 ⟨rfl, b9⟩; have HO9 := Lib.hid (HOW.out.below b9); have HB9 := Lib.hid (HBWW.out.trans (b9.mono HSWW.out)); have HS9 : Hid (B ≤ w9.heap.size) := Lib.hid (Nat.le_trans HSWW.out b9.size); clear b9)
        go_roundw
        case rel => exact ⟨i, j + 1, cs, by omega, rfl, by go_num, HDF2, HO9, HB9, HS9⟩
        case measure => simp [intOf]; omega
      · rw [decide_eq_false he] at HE
        have him : i < m := by omega
        have HDF2 := Lib.hid (HDF.out.no HLO.out he (by rw [HOC.out.1]; exact him))
        obtain ⟨o2, ho2⟩ : ∃ o2, cs[i]? = some o2 := ⟨_, List.getElem?_eq_getElem (by rw [HOC.out.1]; exact him)⟩
        have HO2 := Lib.hid ho2
        clear he ho2 k0 k1 k2
        obtain ⟨k0, k1, k2⟩ := HOC.out.cells (HDF.out.2.2 j (Nat.le_refl _) ▸ HLO.out)
        go_wp2_with (go_at_call 175; rw [HW.out]; refine HE.out.mono ?_; rintro e w9 ⟨rfl, b9⟩; have HO9 := Lib.hid (HOW.out.below b9); have HB9 := Lib.hid (HBWW.out.trans (b9.mono HSWW.out)); have HS9 : Hid (B ≤ w9.heap.size) := Lib.hid (Nat.le_trans HSWW.out b9.size); obtain ⟨x0, x1, x2⟩ := litCells_below HBX1.out b9; obtain ⟨y0, y1, y2⟩ := HO9.out.cells HO2.out; have f0 := HO9.out.frozen (i * 3); have f1 := HO9.out.frozen (i * 3 + 1); have f2 := HO9.out.frozen (i * 3 + 2); clear b9)
        go_roundw
        case rel => exact ⟨i + 1, j + 1, cs.set i o, by omega, by go_num, by go_num, HDF2, Lib.hid (HO9.out.set i o), Lib.hid (setLit_below HB9.out hgB (i * 3) o), Lib.hid (by simpa using HS9.out)⟩
        case measure => simp [intOf]; omega
    · obtain rfl : j = m := by omega
      have HTK : Hid (cs.take i = wioL ls l) := Lib.hid (by rw [HDF.out.2.1, ← HM.out, List.take_length])
      have hne : ¬ c = i := by omega
      have hic : i ≤ c := by omega
      have hij' : i ≤ j := by omega
      have hcl := run_clear_lits wr 0 g (i * 3) (j - i) (c - i) (by omega) (fun q hq => by
        rw [HOC.out.2.cellAt _ (by omega), List.getElem?_eq_getElem (by rw [cellsL_length, HOC.out.1]; omega)]
        rfl) (fun q hq => HOC.out.frozen _)
      obtain ⟨ys, hy1, hy2⟩ := own_setCells (i * 3) (cellsL (List.replicate (j - i) lit0)) (i * 3) wr (cellsL cs) (Nat.le_refl _) HOC.out.2
      have hbz := below_setCells hgB (cellsL (List.replicate (j - i) lit0)) (i * 3) wr HBW.out
      obtain ⟨W9, hW9⟩ : ∃ W9, wr.setCells g (i * 3) (cellsL (List.replicate (j - i) lit0)) = W9 := ⟨_, rfl⟩
      rw [hW9] at hcl hy1 hbz
      have HFO : Hid (OwnC W9 B (.slice (some ⟨g, 0, none⟩) i c) (wioL ls l).length (wioL ls l)) := Lib.hid (by
        have hli : (wioL ls l).length = i := by rw [← HTK.out, List.length_take, HOC.out.1]; omega
        refine ⟨rfl, ?_⟩
        have := own_take hy1 hij'
        rw [hy2, cellsL_take, HTK.out] at this
        rw [hli]
        exact this)
      have HFB := Lib.hid hbz
      clear hW9 hy1 hy2 hbz
      go_wp2
      go_ret
      exact ⟨_, rfl, HFO.out, HFB.out⟩

theorem OwnC.mono {w : World} {B B' : Nat} {v : Value} {m : Nat} {ls : List Lit} (h : OwnC w B v m ls) (hB : B' ≤ B) : OwnC w B' v m ls := ⟨h.1, own_mono h.2 hB⟩
set_option maxRecDepth 100000 in
set_option maxHeartbeats 4000000 in
theorem iwithout_any (v : Value) (ls : List Lit) (l : Lit) (w : World) (h : RdLits w v ls) (hx : ls.length ≤ 1000) :
    Calls Try.prog 132 #[v, .agg #[.int .i64 l.var, .int .i64 l.val, .bool l.neg]] w fun e w' => ∃ v', e = .returned v' ∧ OwnC w' w.heap.size v' (wioL ls l).length (wioL ls l) ∧ Below w.heap.size w w' := by
  obtain ⟨a, cap, ev, _⟩ := id h
  rw [ev] at h ⊢
  obtain ⟨W, hW⟩ : ∃ W, w.alloc (.cells #[.int .i64 l.var, .int .i64 l.val, .bool l.neg] 47) = W := ⟨_, rfl⟩
  have b1 : Below w.heap.size w W := by rw [← hW]; exact below1 _ _
  have HQ : Hid (LitCs w.heap.size l W) := Lib.hid (by rw [← hW]; exact (Blk3.new _ _ _ _ _).cell)
  have HS : Hid (w.heap.size < W.heap.size) := Lib.hid (by rw [← hW, World.size_alloc]; omega)
  have HC := Lib.hid (clone_any _ ls W (h.below b1) hx)
  have HB := Lib.hid b1
  have HW := Lib.hid hW
  clear ev h hW b1
  go_enter Try.func132, Try.ntmps132
  go_wp2_with fail
  rw [HW.out]
  refine HC.out.mono ?_
  rintro e w2 ⟨v2, rfl, oc, b2⟩
  obtain ⟨a2, c2, e2, _⟩ := oc.form
  subst e2
  have HO := Lib.hid oc
  have HB2 := Lib.hid b2
  clear oc b2
  go_wp2_with fail
  refine (delF_any _ ls l w.heap.size W.heap.size ls.length w2 HO.out (litCells_below HQ.out HB2.out) HS.out HB2.out.size).mono ?_
  rintro e w3 ⟨v3, rfl, oc, b3⟩
  obtain ⟨a3, c3, e3, _⟩ := oc.form
  subst e3
  have HO3 := Lib.hid (oc.mono HB.out.size)
  have HB3 := Lib.hid (HB.out.trans ((HB2.out.trans b3).mono HB.out.size))
  clear oc b3
  go_wp2
  go_ret
  exact ⟨_, rfl, HO3.out, HB3.out⟩
end Go.Proofs.Ytolfjkdkbiicmaa
