/- The law of promise 6: removing a constraint keeps all solutions. -/
import Derived.Test.YtjdbfiiaadphhaaDrIs
import Derived.Test.YtjdbfiiaadphhaaWoC
import Derived.Test.YtjdbfiiaadphhaaSolJ
import Derived.Test.YtjdbfiiaadphhaaSolS
namespace Go.Proofs.Ytjdbfiiaadphhaa
open Go.ChangeShapes Go.WideShapes Go.ChangeAt Go.RowKit Go.Deep Go.Shelf
set_option linter.unusedVariables false
set_option linter.unusedSimpArgs false

theorem all_erase {α : Type} {p : α → Bool} {l : List α} (h : l.all p = true) (i : Nat) : (l.eraseIdx i).all p = true :=
  List.all_eq_true.2 (fun x hx => List.all_eq_true.1 h x (List.mem_of_mem_eraseIdx hx))
theorem solB_erase {m : Mod} {xs : List Int} (h : solB m xs = true) (i : Nat) : solB ⟨m.doms, m.cons.eraseIdx i⟩ xs = true := by
  unfold solB vmB at h ⊢
  simp only [Bool.and_eq_true, decide_eq_true_eq] at h ⊢
  obtain ⟨⟨⟨⟨⟨h1, h2⟩, h3⟩, h4⟩, h5⟩, h6, h7⟩ := h
  refine ⟨⟨⟨⟨⟨h1, h2⟩, Nat.le_trans (List.length_eraseIdx_le _ _) h3⟩, all_erase h4 i⟩, h5⟩, h6, all_erase h7 i⟩
theorem modLe_erase {m : Mod} {L : Nat} (h : ModLe m L) (i : Nat) : ModLe ⟨m.doms, m.cons.eraseIdx i⟩ L :=
  ⟨h.1, Nat.le_trans (List.length_eraseIdx_le _ _) h.2.1, fun j c hj => by
    obtain ⟨k, hk⟩ := List.mem_iff_getElem?.1 (List.mem_of_mem_eraseIdx (List.mem_of_getElem? hj))
    exact h.2.2 k c hk⟩
theorem solB_vm {m : Mod} {xs : List Int} (h : solB m xs = true) : vmB m = true := by
  unfold solB at h
  simp only [Bool.and_eq_true] at h
  exact h.1.1

set_option maxRecDepth 100000 in
set_option maxHeartbeats 16000000 in
theorem law_mr (a : Option Addr) (len cap : Nat) (w : World) (h : CodeOk w.heap.size w a len cap) :
    Calls Try.prog 14 #[.slice a len cap] w fun e w' => e = .returned (.bool true) ∧ Below w.heap.size w w' := by
  have hl0 := h.1
  have hm0 := h.2.1
  unfold maxLen at hm0
  have HK := Lib.hid h
  clear h
  by_cases hbig : 1048576 < len
  · go_enter Try.func14, Try.ntmps14
    go_wp2
    go_ret
    exact ⟨rfl, Below.refl _ _⟩
  go_enter Try.func14, Try.ntmps14
  go_wp2_with fail
  refine (drawIs_any a len cap w HK.out).mono ?_
  rintro e w1 ⟨u1, u2, xv, m, xs, rfl, r1, r2, rx, hle, h1, h4, h6, hx5, b1⟩
  obtain ⟨a1, c1, e1, hc1, hc1', -⟩ := id r1
  obtain ⟨a2, c2, e2, hc2, hc2', -⟩ := id r2
  obtain ⟨ax, cx, ex, hcx, hcx', -⟩ := id rx
  obtain ⟨n1, hn1⟩ : ∃ n, n = m.doms.length := ⟨_, rfl⟩
  obtain ⟨n2, hn2⟩ : ∃ n, n = m.cons.length := ⟨_, rfl⟩
  obtain ⟨nx, hnx⟩ : ∃ n, n = xs.length := ⟨_, rfl⟩
  unfold maxLen at hc1' hc2' hcx'
  rw [← hn1] at e1 hc1
  rw [← hn2] at e2 hc2
  rw [← hnx] at ex hcx
  subst e1 e2 ex
  obtain ⟨C, hCe⟩ : ∃ C, C = w1.heap.size := ⟨_, rfl⟩
  obtain ⟨Wk, hWk⟩ : ∃ Wk, w1.alloc (.cells #[.slice a1 n1 c1, .slice a2 n2 c2] 68) = Wk := ⟨_, rfl⟩
  have hbw : Below w1.heap.size w1 Wk := by rw [← hWk]; exact (Below.refl _ _).alloc (Nat.le_refl _) _
  have hbk : Blk2 Wk C 68 (.slice a1 n1 c1) (.slice a2 n2 c2) := by rw [← hWk, hCe]; exact Blk2.new w1 _ _ _
  have hrm : RdModel w1 (.agg #[.slice a1 n1 c1, .slice a2 n2 c2]) m := ⟨_, _, rfl, r1, r2⟩
  obtain ⟨sb, hsb⟩ : ∃ sb, sb = solB m xs := ⟨_, rfl⟩
  have hle2 : ModLe m 1048576 := ⟨by have := hle.1; omega, by have := hle.2.1; omega, fun j c hj => (hle.2.2 j c hj).mono (by omega)⟩
  have HI : Hid (∀ W, RdModel W (.agg #[.slice a1 n1 c1, .slice a2 n2 c2]) m → RdInts W (.slice ax nx cx) xs → Calls Try.prog 60 #[.agg #[.slice a1 n1 c1, .slice a2 n2 c2], .slice ax nx cx] W (BoolPost sb W)) :=
    Lib.hid (fun W x1 x2 => by rw [hsb]; exact iIS_any m _ _ xs W x1 x2 hle2)
  have HS : Hid (∀ W, RdModel W (.agg #[.slice a1 n1 c1, .slice a2 n2 c2]) m → RdInts W (.slice ax nx cx) xs → Calls Try.prog 61 #[.agg #[.slice a1 n1 c1, .slice a2 n2 c2], .slice ax nx cx] W (BoolPost sb W)) :=
    Lib.hid (fun W x1 x2 => by rw [hsb]; exact sIS_any m _ _ xs W x1 x2 hle2)
  have HW : Hid (sb = true → ∀ W (i : Nat), i < n2 → RdModel W (.agg #[.slice a1 n1 c1, .slice a2 n2 c2]) m → Calls Try.prog 52 #[.agg #[.slice a1 n1 c1, .slice a2 n2 c2], .int .i64 i] W (ModPostT ⟨m.doms, m.cons.eraseIdx i⟩ W)) :=
    Lib.hid (fun hs W i hi x1 => iWithout_ok m _ i W x1 hle2 (solB_vm (by rw [← hsb]; exact hs)) (by omega))
  have HI2 : Hid (sb = true → ∀ W (i : Nat) v, RdModel W v ⟨m.doms, m.cons.eraseIdx i⟩ → RdInts W (.slice ax nx cx) xs → Calls Try.prog 60 #[v, .slice ax nx cx] W (BoolPost true W)) :=
    Lib.hid (fun hs W i v x1 x2 => by
      have := iIS_any ⟨m.doms, m.cons.eraseIdx i⟩ v _ xs W x1 x2 (modLe_erase hle2 i)
      rw [solB_erase (by rw [← hsb]; exact hs) i] at this
      exact this)
  have HBK := Lib.hid hbk
  have HRM := Lib.hid (hrm.below hbw)
  have HRX := Lib.hid (rx.below hbw)
  have HB := Lib.hid (b1.trans (hbw.mono b1.size))
  have HWK := Lib.hid hWk
  have HCE := Lib.hid hCe
  have hn26 : n2 ≤ 6 := by omega
  clear r1 r2 rx hle h1 h4 h6 hx5 b1 hn1 hn2 hnx hCe hWk hbw hbk hrm hsb hle2
  have hcell := HBK.out.cell
  rw [HCE.out] at hcell
  obtain ⟨p0, p1⟩ := hcell
  go_wp2_with (rw [HWK.out])
  rw [← HCE.out]
  clear HWK
  refine (HI.out Wk HRM.out HRX.out).mono ?_
  rintro e w2 ⟨rfl, b2⟩
  clear p0 p1 HCE
  have HBK2 := Lib.hid (HBK.out.below b2)
  have HRM2 := Lib.hid (HRM.out.below b2)
  have HRX2 := Lib.hid (HRX.out.below b2)
  have HB2 := Lib.hid (HB.out.trans (b2.mono HB.out.size))
  obtain ⟨p0, p1⟩ := HBK2.out.cell
  clear b2 HBK HRM HRX HB
  go_wp2_with fail
  refine (HS.out w2 HRM2.out HRX2.out).mono ?_
  rintro e w3 ⟨rfl, b3⟩
  clear p0 p1
  have HBK3 := Lib.hid (HBK2.out.below b3)
  have HRM3 := Lib.hid (HRM2.out.below b3)
  have HRX3 := Lib.hid (HRX2.out.below b3)
  have HB3 := Lib.hid (HB2.out.trans (b3.mono HB2.out.size))
  obtain ⟨p0, p1⟩ := HBK3.out.cell
  clear b3 HBK2 HRM2 HRX2 HB2
  cases sb
  · go_wp2_with fail
    refine (HS.out w3 HRM3.out HRX3.out).mono ?_
    rintro e w4 ⟨rfl, b4⟩
    have HB4 := Lib.hid (HB3.out.trans (b4.mono HB3.out.size))
    clear b4 p0 p1 HBK3 HRM3 HRX3 HB3
    go_wp2
    go_ret
    exact ⟨rfl, HB4.out⟩
  · go_wp2_with fail
    clear p0 p1
    go_loopw [6] (fun q wr => ∃ j : Nat, j ≤ n2 ∧ q = .int .i64 j ∧ Hid (Below w3.heap.size w3 wr)) (fun q _ => n2 - (intOf q).toNat)
    case atStart => exact ⟨0, Nat.zero_le _, rfl, Lib.hid (Below.refl _ _)⟩
    case round =>
      obtain ⟨j, hj, rfl, HBL⟩ := hrel
      obtain ⟨p0, p1⟩ := (HBK3.out.below HBL.out).cell
      have HB4 := Lib.hid (HB3.out.trans (HBL.out.mono HB3.out.size))
      by_cases hjn : j < n2
      · go_wp2_with fail
        refine (HW.out trivial wr j hjn (HRM3.out.below HBL.out)).mono ?_
        rintro e w4 ⟨b1, b2, m1, m2, d1, d2, rfl, g1, g2, b4⟩
        clear p0 p1
        obtain ⟨E, hE⟩ : ∃ E, E = w4.heap.size := ⟨_, rfl⟩
        obtain ⟨wE, hwE⟩ : ∃ wE, w4.alloc (.cells #[.slice b1 m1 d1, .slice b2 m2 d2] 68) = wE := ⟨_, rfl⟩
        have bE : Below w4.heap.size w4 wE := by rw [← hwE]; exact (Below.refl _ _).alloc (Nat.le_refl _) _
        have hEx : Blk2 wE E 68 (.slice b1 m1 d1) (.slice b2 m2 d2) := by rw [← hwE, hE]; exact Blk2.new w4 _ _ _
        have HGM : Hid (RdModel wE (.agg #[.slice b1 m1 d1, .slice b2 m2 d2]) ⟨m.doms, m.cons.eraseIdx j⟩) := Lib.hid ⟨_, _, rfl, g1.below bE, g2.below bE⟩
        have HBE := Lib.hid (HBL.out.trans ((b4.trans (bE.mono b4.size)).mono HBL.out.size))
        have HWE := Lib.hid hwE
        have HEE := Lib.hid hE
        obtain ⟨q0, q1⟩ := hEx.cell
        rw [hE] at q0 q1
        clear g1 g2 b4 bE hEx hwE hE HBL HB4
        go_wp2_with (rw [HWE.out])
        refine (HI2.out trivial wE j _ HGM.out (HRX3.out.below HBE.out)).mono ?_
        rintro e w5 ⟨rfl, b5⟩
        have HB5 := Lib.hid (HBE.out.trans (b5.mono HBE.out.size))
        clear b5 HGM HBE HWE q0 q1
        go_wp2
        go_roundw
        case rel => exact ⟨j + 1, by omega, by go_num, HB5⟩
        case measure => simp [intOf]; omega
      · obtain rfl : j = n2 := by omega
        go_wp2
        go_ret
        exact ⟨rfl, HB4.out⟩
end Go.Proofs.Ytjdbfiiaadphhaa
