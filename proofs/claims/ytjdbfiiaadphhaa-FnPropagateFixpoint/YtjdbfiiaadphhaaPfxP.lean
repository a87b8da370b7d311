/- The law of promise 11: propagation reaches a fixpoint. -/
import Derived.Test.YtjdbfiiaadphhaaLwM
namespace Go.Proofs.Ytjdbfiiaadphhaa
open Go.ChangeShapes Go.WideShapes Go.ChangeAt Go.RowKit Go.Deep Go.Shelf
set_option linter.unusedVariables false
set_option linter.unusedSimpArgs false

set_option maxRecDepth 100000 in
set_option maxHeartbeats 32000000 in
theorem law_pfx (a : Option Addr) (len cap : Nat) (w : World) (h : CodeOk w.heap.size w a len cap) :
    Calls Try.prog 12 #[.slice a len cap] w fun e w' => e = .returned (.bool true) ∧ Below w.heap.size w w' := by
  have hl0 := h.1
  have hm0 := h.2.1
  unfold maxLen at hm0
  have HK := Lib.hid h
  clear h
  by_cases hbig : 1048576 < len
  · go_enter Try.func12, Try.ntmps12
    go_wp2
    go_ret
    exact ⟨rfl, Below.refl _ _⟩
  go_enter Try.func12, Try.ntmps12
  go_wp2_with fail
  refine (drawPro_any a len cap w HK.out).mono ?_
  rintro e w1 ⟨u1, u2, m, rfl, r1, r2, hle, h1, h4, h6, b1⟩
  obtain ⟨a1, c1, e1, hc1, hc1', -⟩ := id r1
  obtain ⟨a2, c2, e2, hc2, hc2', -⟩ := id r2
  obtain ⟨n1, hn1⟩ : ∃ n, n = m.doms.length := ⟨_, rfl⟩
  obtain ⟨n2, hn2⟩ : ∃ n, n = m.cons.length := ⟨_, rfl⟩
  unfold maxLen at hc1' hc2'
  rw [← hn1] at e1 hc1
  rw [← hn2] at e2 hc2
  subst e1 e2
  obtain ⟨C, hCe⟩ : ∃ C, C = w1.heap.size := ⟨_, rfl⟩
  obtain ⟨Wk, hWk⟩ : ∃ Wk, w1.alloc (.cells #[.slice a1 n1 c1, .slice a2 n2 c2] 68) = Wk := ⟨_, rfl⟩
  have hbw : Below w1.heap.size w1 Wk := by rw [← hWk]; exact (Below.refl _ _).alloc (Nat.le_refl _) _
  have hbk : Blk2 Wk C 68 (.slice a1 n1 c1) (.slice a2 n2 c2) := by rw [← hWk, hCe]; exact Blk2.new w1 _ _ _
  have hrm : RdModel w1 (.agg #[.slice a1 n1 c1, .slice a2 n2 c2]) m := ⟨_, _, rfl, r1, r2⟩
  obtain ⟨mv, hmv⟩ : ∃ mv, mv = Value.agg #[.slice a1 n1 c1, .slice a2 n2 c2] := ⟨_, rfl⟩
  rw [← hmv] at hrm
  obtain ⟨fl, hfl⟩ : ∃ fl, fl = proM m := ⟨_, rfl⟩
  obtain ⟨n, hn⟩ : ∃ n, n = fl.length := ⟨_, rfl⟩
  have hle2 : ModLe m 1048576 := ⟨by have := hle.1; omega, by have := hle.2.1; omega, fun j c hj => (hle.2.2 j c hj).mono (by omega)⟩
  have HI : Hid (∀ W, RdModel W mv m → Calls Try.prog 54 #[.agg #[.slice a1 n1 c1, .slice a2 n2 c2]] W (SlPost fl n W)) :=
    Lib.hid (fun W x1 => by rw [← hmv]; exact (iPropagate_any m mv W x1 hle2).mono (fun e W' hp => slPost_of hn (by rw [hfl]; exact hp)))
  have HS : Hid (∀ W, RdModel W mv m → Calls Try.prog 56 #[.agg #[.slice a1 n1 c1, .slice a2 n2 c2]] W (SlPost fl n W)) :=
    Lib.hid (fun W x1 => by rw [← hmv]; exact (sPropagate_any m mv W x1 hle2).mono (fun e W' hp => slPost_of hn (by rw [hfl]; exact hp)))
  have HV : Hid (n ≠ 0 → vmB m = true) := Lib.hid (fun h => vmB_of_len (by rw [← hfl, ← hn]; exact h))
  have HI2 : Hid (n ≠ 0 → ∀ W ao co, RdInts W (.slice ao n co) fl → RdCons W (.slice a2 n2 c2) m.cons → Calls Try.prog 54 #[.agg #[.slice ao n co, .slice a2 n2 c2]] W (SlPost fl n W)) :=
    Lib.hid (fun h0 W ao co x1 x2 => by
      have hv := HV.out h0
      have hid : proM ⟨fl, m.cons⟩ = fl := by rw [hfl]; exact pro_idem hv
      exact (iPropagate_any ⟨fl, m.cons⟩ _ W ⟨_, _, rfl, x1, x2⟩ ⟨by show fl.length ≤ _; rw [hfl, (pro_facts hv).1]; exact hle2.1, hle2.2⟩).mono (fun e W' hp => slPost_of hn (by rw [hid] at hp; exact hp)))
  have HC2 : Hid (n ≠ 0 → ∀ W ao co, RdInts W (.slice ao n co) fl → RdCons W (.slice a2 n2 c2) m.cons → Calls Try.prog 58 #[.agg #[.slice ao n co, .slice a2 n2 c2]] W (TPost (!(fl[0]?.getD 0 == 0)) W)) :=
    Lib.hid (fun h0 W ao co x1 x2 => by
      have hv := HV.out h0
      refine (iIsConsistent_any ⟨fl, m.cons⟩ _ W ⟨_, _, rfl, x1, x2⟩ ⟨by show fl.length ≤ _; rw [hfl, (pro_facts hv).1]; exact hle2.1, hle2.2⟩).mono (fun e W' hp => ⟨?_, hp.2⟩)
      rw [hp.1, hfl, pro_con hv])
  have HSb : Hid (n ≠ 0 → ∀ W ao co, RdInts W (.slice ao n co) fl → RdInts W (.slice a1 n1 c1) m.doms → Calls Try.prog 57 #[.slice ao n co, .slice a1 n1 c1] W (TPost true W)) :=
    Lib.hid (fun h0 W ao co x1 x2 => by
      have hv := HV.out h0
      have hf := pro_facts hv
      refine (isSubset_any _ _ fl m.doms W x1 x2).mono (fun e W' hp => ⟨?_, hp.2⟩)
      rw [hp.1, hfl, subB_le hf.1 hf.2.1 (vmB_parts hv).2.1 hf.2.2])
  have HAl : Hid (n ≠ 0 → ∀ j, j < n → (fl[j]?.getD 0 == 0) = (fl[0]?.getD 0 == 0)) :=
    Lib.hid (fun h0 j hj => by
      have hv := HV.out h0
      rw [hfl]
      exact pro_alike hv (by rw [← hfl, ← hn]; exact hj) (by rw [← hfl, ← hn]; omega))
  have HBK := Lib.hid hbk
  have HRM := Lib.hid (hrm.below hbw)
  have HD1 := Lib.hid (r1.below hbw)
  have HD2 := Lib.hid (r2.below hbw)
  have HB := Lib.hid (b1.trans (hbw.mono b1.size))
  have HWK := Lib.hid hWk
  have HCE := Lib.hid hCe
  clear r1 r2 hle h1 h4 h6 b1 hn1 hn2 hCe hWk hbw hbk hrm hmv hfl hn hle2
  have hcell := HBK.out.cell
  rw [HCE.out] at hcell
  obtain ⟨p0, p1⟩ := hcell
  go_wp2_with (rw [HWK.out])
  rw [← HCE.out]
  clear HWK
  refine (HI.out Wk HRM.out).mono ?_
  rintro e w2 ⟨ao, co, rfl, hco, hco', ro, b2⟩
  clear p0 p1 HCE
  have HO2 := Lib.hid ro
  have HBK2 := Lib.hid (HBK.out.below b2)
  have HRM2 := Lib.hid (HRM.out.below b2)
  have HD12 := Lib.hid (HD1.out.below b2)
  have HD22 := Lib.hid (HD2.out.below b2)
  have HB2 := Lib.hid (HB.out.trans (b2.mono HB.out.size))
  obtain ⟨p0, p1⟩ := HBK2.out.cell
  clear ro b2 HBK HRM HB HD1 HD2
  go_wp2_with fail
  refine (HS.out w2 HRM2.out).mono ?_
  rintro e w3 ⟨a6, c6, rfl, hc6, hc6', r6, b3⟩
  clear p0 p1
  have HO3 := Lib.hid (HO2.out.below b3)
  have HR6 := Lib.hid r6
  have HBK3 := Lib.hid (HBK2.out.below b3)
  have HRM3 := Lib.hid (HRM2.out.below b3)
  have HD13 := Lib.hid (HD12.out.below b3)
  have HD23 := Lib.hid (HD22.out.below b3)
  have HB3 := Lib.hid (HB2.out.trans (b3.mono HB2.out.size))
  clear r6 b3 HO2 HBK2 HRM2 HB2 HD12 HD22
  go_wp2_with fail
  refine (eqI_true w3 _ _ fl HO3.out HR6.out).mono ?_
  rintro e w4 ⟨rfl, b4⟩
  have HO4 := Lib.hid (HO3.out.below b4)
  have HBK4 := Lib.hid (HBK3.out.below b4)
  have HRM4 := Lib.hid (HRM3.out.below b4)
  have HD14 := Lib.hid (HD13.out.below b4)
  have HD24 := Lib.hid (HD23.out.below b4)
  have HB4 := Lib.hid (HB3.out.trans (b4.mono HB3.out.size))
  obtain ⟨p0, p1⟩ := HBK4.out.cell
  clear b4 HO3 HR6 HBK3 HRM3 HB3 HD13 HD23 hc6 hc6'
  by_cases hz : n = 0
  · have hz1 : ((n : Int) == 0) = true := by rw [hz]; rfl
    clear hz
    go_wp2_with fail
    refine (HS.out w4 HRM4.out).mono ?_
    rintro e w5 ⟨a7, c7, rfl, hc7, hc7', r7, b5⟩
    clear p0 p1
    have HO5 := Lib.hid (HO4.out.below b5)
    have HR7 := Lib.hid r7
    have HB5 := Lib.hid (HB4.out.trans (b5.mono HB4.out.size))
    clear r7 b5 HO4 HBK4 HRM4 HB4
    go_wp2_with fail
    refine (eqI_true w5 _ _ fl HO5.out HR7.out).mono ?_
    rintro e w6 ⟨rfl, b6⟩
    have HB6 := Lib.hid (HB5.out.trans (b6.mono HB5.out.size))
    clear b6 HO5 HR7 HB5
    go_wp2
    go_ret
    exact ⟨rfl, HB6.out⟩
  · have hz1 : ((n : Int) == 0) = false := by simp; omega
    have HZ := Lib.hid hz
    have hn0 : 0 < n := by omega
    obtain ⟨b, off, rfl, q0⟩ := rdInts_at HO4.out hn0
    obtain ⟨z, hzz⟩ : ∃ z, z = fl[0]?.getD 0 := ⟨_, rfl⟩
    have HZZ := Lib.hid hzz
    rw [← hzz, Nat.add_zero] at q0
    obtain ⟨D, hDe⟩ : ∃ D, D = w4.heap.size := ⟨_, rfl⟩
    obtain ⟨Wm, hWm⟩ : ∃ Wm, w4.alloc (.cells #[.slice (some ⟨b, off, none⟩) n co, .slice a2 n2 c2] 68) = Wm := ⟨_, rfl⟩
    have hbm : Below w4.heap.size w4 Wm := by rw [← hWm]; exact (Below.refl _ _).alloc (Nat.le_refl _) _
    have HX5 : Hid (Blk2 Wm D 68 (.slice (some ⟨b, off, none⟩) n co) (.slice a2 n2 c2)) := Lib.hid (by rw [← hWm, hDe]; exact Blk2.new w4 _ _ _)
    have HO5 := Lib.hid (HO4.out.below hbm)
    have HBK5 := Lib.hid (HBK4.out.below hbm)
    have HD15 := Lib.hid (HD14.out.below hbm)
    have HD25 := Lib.hid (HD24.out.below hbm)
    have HB5 := Lib.hid (HB4.out.trans (hbm.mono HB4.out.size))
    have k0 : Wm.cell? ⟨b, off, none⟩ = some (.int .i64 z) := (hbm.cell (p := ⟨b, off, none⟩) (World.block_lt_of_cell? w4 _ q0)).trans q0
    have HWM := Lib.hid hWm
    have HDE := Lib.hid hDe
    clear hzz hz hDe hWm hbm q0 HO4 HBK4 HRM4 HD14 HD24 HB4
    go_wp2_with (rw [HWM.out])
    rw [← HDE.out]
    clear p0 p1 HWM HDE
    go_loop [7] (fun i => ∃ j : Nat, j ≤ n ∧ i = .int .i64 j) (fun i => n - (intOf i).toNat)
    case atStart => exact ⟨0, Nat.zero_le _, rfl⟩
    case round =>
      obtain ⟨j, hj, rfl⟩ := hrel
      by_cases hjn : j < n
      · obtain ⟨b', off', e', qj⟩ := rdInts_at HO5.out hjn
        simp at e'
        obtain ⟨rfl, rfl⟩ := e'
        have hal := HAl.out HZ.out j hjn
        rw [← HZZ.out] at hal
        obtain ⟨y, hy⟩ : ∃ y, y = fl[j]?.getD 0 := ⟨_, rfl⟩
        rw [← hy] at hal qj
        clear hy
        cases hzb : (z == 0)
        · rw [hzb] at hal
          go_wp2
          go_round
          case rel => exact ⟨j + 1, by omega, by go_num⟩
          case measure => simp [intOf]; omega
        · rw [hzb] at hal
          go_wp2
          go_round
          case rel => exact ⟨j + 1, by omega, by go_num⟩
          case measure => simp [intOf]; omega
      · have HJ := Lib.hid hjn
        clear hj hjn k0
        obtain ⟨p0, p1⟩ := HBK5.out.cell
        have hjl : decide (((j : Nat) : Int) < (n : Int)) = false := by have := HJ.out; simp; omega
        go_wp2_with fail
        refine (HSb.out HZ.out Wm _ _ HO5.out HD15.out).mono ?_
        rintro e w6 ⟨rfl, b6⟩
        have HO6 := Lib.hid (HO5.out.below b6)
        have HX6 := Lib.hid (HX5.out.below b6)
        have HD26 := Lib.hid (HD25.out.below b6)
        have HB6 := Lib.hid (HB5.out.trans (b6.mono HB5.out.size))
        obtain ⟨s0, s1⟩ := HX6.out.cell
        clear b6 HO5 HX5 HBK5 HD15 HD25 HB5 p0 p1
        go_wp2_with fail
        refine (HI2.out HZ.out w6 _ _ HO6.out HD26.out).mono ?_
        rintro e w7 ⟨a8, c8, rfl, hc8, hc8', r8, b7⟩
        have HO7 := Lib.hid (HO6.out.below b7)
        have HR8 := Lib.hid r8
        have HX7 := Lib.hid (HX6.out.below b7)
        have HD27 := Lib.hid (HD26.out.below b7)
        have HB7 := Lib.hid (HB6.out.trans (b7.mono HB6.out.size))
        clear r8 b7 HO6 HX6 HD26 HB6 s0 s1
        go_wp2_with fail
        refine (eqI_true w7 _ _ fl HR8.out HO7.out).mono ?_
        rintro e w8 ⟨rfl, b8⟩
        have HO8 := Lib.hid (HO7.out.below b8)
        have HX8 := Lib.hid (HX7.out.below b8)
        have HD28 := Lib.hid (HD27.out.below b8)
        have HB8 := Lib.hid (HB7.out.trans (b8.mono HB7.out.size))
        obtain ⟨s0, s1⟩ := HX8.out.cell
        clear b8 HO7 HX7 HD27 HB7 HR8
        go_wp2_with fail
        refine (HC2.out HZ.out w8 _ _ HO8.out HD28.out).mono ?_
        rintro e w9 ⟨rfl, b9⟩
        have HB9 := Lib.hid (HB8.out.trans (b9.mono HB8.out.size))
        rw [← HZZ.out]
        clear b9 HO8 HX8 HD28 HB8 s0 s1
        cases hzb : (z == 0)
        · go_wp2
          go_ret
          exact ⟨ret_bool (by simp), HB9.out⟩
        · go_wp2
          go_ret
          exact ⟨ret_bool (by simp), HB9.out⟩
end Go.Proofs.Ytjdbfiiaadphhaa
