/- The draw of a valid constraint. The draw of a valid constraint. The draw of a valid constraint: both ways together. -/
import Derived.Test.YtjdbfiiaadphhaaDrK

/-! The draw of a valid constraint. -/
namespace Go.Proofs.Ytjdbfiiaadphhaa
open Go.ChangeShapes Go.WideShapes Go.ChangeAt Go.RowKit Go.Shelf
set_option linter.unusedVariables false
set_option linter.unusedSimpArgs false

theorem frozen_dnS {B C : Nat} {w w' : World} (h : Dn B w w') (hC : C < w.heap.size) (hB : C ≠ B) (j : Nat) : w'.frozen? ⟨C, j, none⟩ = w.frozen? ⟨C, j, none⟩ := by
  unfold World.frozen?
  rw [h.block C hC hB]
def kcActS (z0 z1 z2 z3 z4 z5 z6 z7 z8 z9 z10 z11 z12 z13 z14 z15 z16 z17 z18 z19 z20 z21 z22 z23 z24 z25 z26 z27 z28 z29 z30 z31 z32 z33 z34 z35 z36 z37 z38 z39 z40 z41 z42 z43 z44 z45 z46 z47 z48 z49 z50 z51 z52 z53 z54 z55 z56 z57 z58 z59 z60 z61 z62 z63 z64 z65 z66 z67 z68 z69 z70 z71 z72 z73 z74 z75 z76 z77 z78 z79 z80 z81 z82 z83 z84 z85 z86 z87 z88 z89 z90 z91 z92 z93 z94 z95 z96 z97 z98 z99 z100 z101 z102 z103 z104 z105 z106 z107 z108 z109 z110 z111 z112 z113 z114 z115 z116 z117 z118 z119 z120 z121 z122 z123 z124 z125 z126 z127 z128 z129 z130 z131 z132 z133 z134 z135 z136 z137 z138 z139 z140 z141 : Value) : Act := { tmps := #[z0, z1, z2, z3, z4, z5, z6, z7, z8, z9, z10, z11, z12, z13, z14, z15, z16, z17, z18, z19, z20, z21, z22, z23, z24, z25, z26, z27, z28, z29, z30, z31, z32, z33, z34, z35, z36, z37, z38, z39, z40, z41, z42, z43, z44, z45, z46, z47, z48, z49, z50, z51, z52, z53, z54, z55, z56, z57, z58, z59, z60, z61, z62, z63, z64, z65, z66, z67, z68, z69, z70, z71, z72, z73, z74, z75, z76, z77, z78, z79, z80, z81, z82, z83, z84, z85, z86, z87, z88, z89, z90, z91, z92, z93, z94, z95, z96, z97, z98, z99, z100, z101, z102, z103, z104, z105, z106, z107, z108, z109, z110, z111, z112, z113, z114, z115, z116, z117, z118, z119, z120, z121, z122, z123, z124, z125, z126, z127, z128, z129, z130, z131, z132, z133, z134, z135, z136, z137, z138, z139, z140, z141], defers := [] }
set_option maxRecDepth 100000 in
set_option maxHeartbeats 64000000 in
theorem randomConstraint_small (Q0 : Nat → Bool) (n0 B n : Nat) (p : Int) (w : World) (hR : Rd n0 B p w) (hp : 0 ≤ p) (hp2 : p ≤ 1000000) (hn : 1 ≤ n) (hn4 : n ≤ 4) (hQB : Q0 B = true) (hQ0 : ∀ b, w.heap.size ≤ b → Q0 b = false) (hn2 : (n : Int) < 2) :
    Calls Try.prog 128 #[.pointer (some ⟨B, 0, none⟩), .int .i64 n] w (ConDn Q0 n0 B p 100 20 w) := by
  have HQB := Lib.hid hQB
  have HQ0 := Lib.hid hQ0
  clear hQB hQ0
  have hlt := hR.lt
  obtain ⟨R, hRe⟩ : ∃ R, R = w.heap.size := ⟨_, rfl⟩
  obtain ⟨W1, hW1⟩ : ∃ W1, w.alloc (.cells #[.int .i64 0, .slice none 0 0, .slice none 0 0, .int .i64 0, .slice none 0 0] 53) = W1 := ⟨_, rfl⟩
  have b1 : Below w.heap.size w W1 := by rw [← hW1]; exact (Below.refl _ _).alloc (Nat.le_refl _) _
  have HBR : Hid (Blk5 W1 R 53 (.int .i64 0) (.slice none 0 0) (.slice none 0 0) (.int .i64 0) (.slice none 0 0)) := Lib.hid (by rw [← hW1, hRe]; exact Blk5.new w _ _ _ _ _ _)
  have HRE := Lib.hid hRe
  have HR1 := Lib.hid (hR.below (b1.mono (by omega)))
  have HD1 := Lib.hid (Dn.of_below b1 (B := B))
  have HLT := Lib.hid hlt
  have HN0 := Lib.hid hR.1
  have HW1 := Lib.hid hW1
  clear hR hlt hW1 b1 hRe
  go_enter Try.func128, Try.ntmps128
  go_wp2_with fail
  rw [HW1.out, ← HRE.out]
  clear HW1
  refine (pick_dn n0 B p n W1 HR1.out (by omega) (by omega) (by omega)).mono ?_
  rintro e w2 ⟨x, rfl, hx0, hx1, r2, d2⟩
  obtain ⟨k0, rfl⟩ := Int.eq_ofNat_of_zero_le hx0
  have hk0 : k0 ≤ 4 := by omega
  have HBR2 : Hid (Blk5 w2 R 53 (.int .i64 0) (.slice none 0 0) (.slice none 0 0) (.int .i64 0) (.slice none 0 0)) := Lib.hid ((d2.block R HBR.out.lt (by have := HLT.out; have := HRE.out; omega)).trans HBR.out)
  have HR2 := Lib.hid r2
  have HD2 := Lib.hid (HD1.out.trans d2)
  clear r2 d2 hx0 hx1 HR1 HD1 HBR
  go_wp2_with fail
  refine (pick_dn n0 B (p + 1) 9 w2 HR2.out (by omega) (by omega) (by omega)).mono ?_
  rintro e w3 ⟨y, rfl, hy0, hy1, r3, d3⟩
  have HBR3 : Hid (Blk5 w3 R 53 (.int .i64 0) (.slice none 0 0) (.slice none 0 0) (.int .i64 0) (.slice none 0 0)) := Lib.hid ((d3.block R HBR2.out.lt (by have := HLT.out; have := HRE.out; omega)).trans HBR2.out)
  have HR3 := Lib.hid r3
  have HD3 := Lib.hid (HD2.out.trans d3)
  have hk1 : (1 : Int) + (k0 : Int) = ((k0 + 1 : Nat) : Int) := by omega
  have HK1 := Lib.hid hk1
  obtain ⟨kd, hkd⟩ : ∃ kd, kd = 1 + y := ⟨_, rfl⟩
  have hkd1 : 1 ≤ kd ∧ kd ≤ 9 := by omega
  have HKD := Lib.hid hkd
  clear r3 d3 HR2 HD2 HBR2 hk1 hkd hkd1
  go_wp2_with fail
  rw [HK1.out, ← HKD.out]
  have hkd1 : 1 ≤ kd ∧ kd ≤ 9 := by rw [HKD.out]; omega
  clear hy0 hy1
  refine (someVars_any n0 B n (k0 + 1) (p + 1 + 1) w3 HR3.out (by omega) (by omega) hn hn4 (by omega) (by omega)).mono ?_
  rintro e w4 ⟨gv, vn, vc, vars, p4, rfl, hvn, hv1, hv4, rv, hp4, hp4', r4, d4⟩
  have hBR4 : Blk5 w4 R 53 (.int .i64 0) (.slice none 0 0) (.slice none 0 0) (.int .i64 0) (.slice none 0 0) := (d4.block R HBR3.out.lt (by have := HLT.out; have := HRE.out; omega)).trans HBR3.out
  have hD4 := HD3.out.trans d4
  have hvc := (rdInts_cap (rv (fun _ => false) (fun _ _ => rfl))).2
  have hk : KP Q0 B R w4.heap.size n0 w := ⟨HLT.out, by rw [HRE.out]; exact Nat.le_refl _, hD4.size, by have := hBR4.lt; omega, HN0.out, HQB.out, HQ0.out⟩
  obtain ⟨Wk, hWk⟩ : ∃ Wk, w4.alloc (.cells #[.int .i64 kd, .slice (some ⟨gv, 0, none⟩) vn vc, .slice none 0 0, .int .i64 0, .slice none 0 0] 53) = Wk := ⟨_, rfl⟩
  have hks : KS Q0 n0 B R w4.heap.size w Wk p4 ⟨kd, vars, [], 0, []⟩ (.slice (some ⟨gv, 0, none⟩) vn vc) (.slice none 0 0) (.slice none 0 0) := by
    have hbw : Below w4.heap.size w4 Wk := by
      rw [← hWk]
      exact (Below.refl _ _).alloc (Nat.le_refl _) _
    have hr3 := HR3.out.lt
    have hRlt := HBR3.out.lt
    refine ⟨by rw [← hWk]; exact Blk5.new w4 _ _ _ _ _ _, hBR4.below hbw, ?_, rdInts_nil _, rdRows_nil _, r4.below (hbw.mono (by have := r4.lt; omega)), hD4.trans (Dn.of_below hbw)⟩
    have hs3 : w.heap.size ≤ w3.heap.size := HD3.out.size
    have hQ1 : ∀ b, w3.heap.size ≤ b → (Q0 b || b == R) = false := fun b hb => by
      have h1 : Q0 b = false := HQ0.out b (by omega)
      have h2 : b ≠ R := by omega
      simp [h1, h2]
    exact (rv (fun b => Q0 b || b == R) hQ1).inc (av_new hbw (fun b hb hq => by simp at hq; exact qs_no hq.1 hq.2 (by omega)))
  obtain ⟨p0, p1, p2, p3, p4'⟩ := hks.bc.cell
  obtain ⟨g0, g1, g2, g3, g4⟩ := hks.bc.frozen
  obtain ⟨o0, o1, o2, o3, o4⟩ := hks.br.cell
  obtain ⟨f0, f1, f2, f3, f4⟩ := hks.br.frozen
  have HKS := Lib.hid hks
  have HK := Lib.hid hk
  have HVN := Lib.hid hvn
  have HWK := Lib.hid hWk
  have HPQ : Hid (p ≤ p4 ∧ p4 ≤ p + 10) := Lib.hid (by omega)
  have hq4 : 0 ≤ p4 ∧ p4 ≤ p + 10 := by omega
  clear hp4 hp4'
  clear r4 d4 rv hBR4 hD4 hk hks hvn hWk HR3 HD3 HBR3 HK1 HKD
  rcases (show kd = 1 ∨ kd = 2 ∨ kd = 3 ∨ kd = 4 ∨ kd = 5 ∨ kd = 6 ∨ kd = 7 ∨ kd = 8 ∨ kd = 9 by omega) with rfl | rfl | rfl | rfl | rfl | rfl | rfl | rfl | rfl
  all_goals clear hkd1
  · skip
    go_wp2_with (rw [HWK.out])
    obtain ⟨C, hC⟩ : ∃ C, C = w4.heap.size := ⟨_, rfl⟩
    rw [← hC] at HKS HK ⊢
    clear hC HWK
    clear p0 p1 p2 p3 p4' g0 g1 g2 g3 g4 o0 o1 o2 o3 o4 f0 f1 f2 f3 f4
    go_loopw [7] (fun i wr => ∃ (j : Nat) (ua : Option Addr) (cap : Nat) (xs : List Int) (q : Int), j ≤ vn ∧ i = .int .i64 j ∧ p4 ≤ q ∧ q ≤ p4 + j ∧ Hid (LI Q0 n0 B R C w Wk wr q ⟨1, vars, [], 0, []⟩ (.slice (some ⟨gv, 0, none⟩) vn vc) (.slice none 0 0) ua j cap xs)) (fun i _ => vn - (intOf i).toNat)
    case atStart => exact ⟨0, none, 0, [], p4, Nat.zero_le _, rfl, by omega, by omega, Lib.hid (LI.start HKS.out)⟩
    case round =>
      obtain ⟨j, ua, cap, xs, q, hj, rfl, hq, hq2, HL⟩ := hrel
      by_cases hjv : j < vn
      · have hS : wr.drew.cell? ⟨C, 2, none⟩ = some (.slice ua j cap) := HL.out.bc.cell.2.2.1
        have hClt : C < wr.drew.heap.size := HL.out.bc.lt
        have hCB : C ≠ B := by have := HK.out.hC; have := HK.out.hB; omega
        have HX := Lib.hid (And.intro hClt hCB)
        clear hClt hCB
        have hj30 : j ≤ 30 := by omega
        go_wp2_with fail
        obtain ⟨hClt, hCB⟩ := HX.out
        refine region_x (fun w' => w'.cell? ⟨C, 2, none⟩ = some (.slice ua j cap)) (fun i => i == 8) rfl ?_
        change wpAnyX Try.prog .any _ _ _ _ 9 _ (kcActS _ _ _ _ _ _ _ _ _ _ _ _ _ _ _ _ _ _ _ _ _ _ _ _ _ _ _ _ _ _ _ _ _ _ _ _ _ _ _ _ _ _ _ _ _ _ _ _ _ _ _ _ _ _ _ _ _ _ _ _ _ _ _ _ _ _ _ _ _ _ _ _ _ _ _ _ _ _ _ _ _ _ _ _ _ _ _ _ _ _ _ _ _ _ _ _ _ _ _ _ _ _ _ _ _ _ _ _ _ _ _ _ _ _ _ _ _ _ _ _ _ _ _ _ _ _ _ _ _ _ _ _ _ _ _ _ _ _ _ _ _ _) wr.drew
        refine wpAnyX_take (i := 0) (v := .pointer (some ⟨C, 2, none⟩)) rfl (by kernel_rfl) (by kernel_rfl) (by kernel_rfl) (by kernel_rfl) (fun _ _ _ h => h) (.inl ⟨rfl, fun w' hw' => k_field2 rfl rfl⟩) hS ?_
        change wpAnyX Try.prog .any _ _ _ _ 8 _ (kcActS _ _ _ _ _ _ _ _ _ _ _ _ _ _ _ _ _ _ _ _ _ _ _ _ _ _ _ _ _ _ _ _ _ _ _ _ _ _ _ _ _ _ _ _ _ _ _ (.pointer (some ⟨C, 2, none⟩)) _ _ _ _ _ _ _ _ _ _ _ _ _ _ _ _ _ _ _ _ _ _ _ _ _ _ _ _ _ _ _ _ _ _ _ _ _ _ _ _ _ _ _ _ _ _ _ _ _ _ _ _ _ _ _ _ _ _ _ _ _ _ _ _ _ _ _ _ _ _ _ _ _ _ _ _ _ _ _ _ _ _ _ _ _ _ _ _ _ _ _ _ _ _) wr.drew
        refine wpAnyX_take (i := 1) (v := .slice ua j cap) rfl (by kernel_rfl) (by kernel_rfl) (by kernel_rfl) (by kernel_rfl) (fun _ _ _ h => h) (.inl ⟨rfl, fun w' hw' => exec_load rfl rfl (k_loadI w' _ _ _ _ _ hw')⟩) hS ?_
        change wpAnyX Try.prog .any _ _ _ _ 7 _ (kcActS _ _ _ _ _ _ _ _ _ _ _ _ _ _ _ _ _ _ _ _ _ _ _ _ _ _ _ _ _ _ _ _ _ _ _ _ _ _ _ _ _ _ _ _ _ _ _ (.pointer (some ⟨C, 2, none⟩)) (.slice ua j cap) _ _ _ _ _ _ _ _ _ _ _ _ _ _ _ _ _ _ _ _ _ _ _ _ _ _ _ _ _ _ _ _ _ _ _ _ _ _ _ _ _ _ _ _ _ _ _ _ _ _ _ _ _ _ _ _ _ _ _ _ _ _ _ _ _ _ _ _ _ _ _ _ _ _ _ _ _ _ _ _ _ _ _ _ _ _ _ _ _ _ _ _ _) wr.drew
        refine wpAnyX_take (i := 2) (v := .pointer (some ⟨B, 0, none⟩)) rfl (by kernel_rfl) (by kernel_rfl) (by kernel_rfl) (by kernel_rfl) (fun _ _ _ h => h) (.inl ⟨rfl, fun w' hw' => rfl⟩) hS ?_
        change wpAnyX Try.prog .any _ _ _ _ 6 _ (kcActS _ _ _ _ _ _ _ _ _ _ _ _ _ _ _ _ _ _ _ _ _ _ _ _ _ _ _ _ _ _ _ _ _ _ _ _ _ _ _ _ _ _ _ _ _ _ _ (.pointer (some ⟨C, 2, none⟩)) (.slice ua j cap) (.pointer (some ⟨B, 0, none⟩)) _ _ _ _ _ _ _ _ _ _ _ _ _ _ _ _ _ _ _ _ _ _ _ _ _ _ _ _ _ _ _ _ _ _ _ _ _ _ _ _ _ _ _ _ _ _ _ _ _ _ _ _ _ _ _ _ _ _ _ _ _ _ _ _ _ _ _ _ _ _ _ _ _ _ _ _ _ _ _ _ _ _ _ _ _ _ _ _ _ _ _ _) wr.drew
        refine wpAnyX_one (i := 3) (by kernel_rfl) rfl (fun K' hK' => ?_)
        refine step_value _ (wr.drew.alloc (.cells #[.int .i64 1, .int .i64 1, .int .i64 (-1), .int .i64 2, .int .i64 (-3), .int .i64 0] 3)) rfl _ (k_exec6 rfl rfl rfl rfl rfl rfl rfl (k_build6 wr.drew)) ?_
        have bV1 : Below wr.drew.heap.size wr.drew (wr.drew.alloc (.cells #[.int .i64 1, .int .i64 1, .int .i64 (-1), .int .i64 2, .int .i64 (-3), .int .i64 0] 3)) := (Below.refl _ _).alloc (Nat.le_refl _) _
        have hS1 := (bV1.cell hClt).trans hS
        have hd1 : Dn B wr (wr.drew.alloc (.cells #[.int .i64 1, .int .i64 1, .int .i64 (-1), .int .i64 2, .int .i64 (-3), .int .i64 0] 3)) := (Dn.of_below (Below.refl _ wr).drew).trans (Dn.of_below bV1)
        have q1 : (wr.drew.alloc (.cells #[.int .i64 1, .int .i64 1, .int .i64 (-1), .int .i64 2, .int .i64 (-3), .int .i64 0] 3)).heap[wr.drew.heap.size]? = some (.cells #[.int .i64 1, .int .i64 1, .int .i64 (-1), .int .i64 2, .int .i64 (-3), .int .i64 0] 3) := World.alloc_heap_new _ _
        have hc1 : ∀ i, i < 6 → (wr.drew.alloc (.cells #[.int .i64 1, .int .i64 1, .int .i64 (-1), .int .i64 2, .int .i64 (-3), .int .i64 0] 3)).cell? ⟨wr.drew.heap.size, i, none⟩ = some (.int .i64 (([1, 1, -1, 2, -3, 0] : List Int)[i]?.getD 0)) := fun i hi => by
          simp only [World.cell?, q1]
          rcases (show i = 0 ∨ i = 1 ∨ i = 2 ∨ i = 3 ∨ i = 4 ∨ i = 5 by omega) with rfl | rfl | rfl | rfl | rfl | rfl <;> rfl
        have hr1 : Rd n0 B q (wr.drew.alloc (.cells #[.int .i64 1, .int .i64 1, .int .i64 (-1), .int .i64 2, .int .i64 (-3), .int .i64 0] 3)) := (HL.out.rd.drewN 1).below (bV1.mono (by have := HL.out.rd.lt; show B + 1 ≤ wr.heap.size; omega))
        refine hK'.out _ _ (fun _ => hS1) ?_
        clear hK' K'
        change wpAnyX Try.prog .any _ _ _ _ 5 _ (kcActS _ _ _ _ _ _ _ _ _ _ _ _ _ _ _ _ _ _ _ _ _ _ _ _ _ _ _ _ _ _ _ _ _ _ _ _ _ _ _ _ _ _ _ _ _ _ _ (.pointer (some ⟨C, 2, none⟩)) (.slice ua j cap) (.pointer (some ⟨B, 0, none⟩)) (.slice (some ⟨wr.drew.heap.size, 0, none⟩) 6 6) _ _ _ _ _ _ _ _ _ _ _ _ _ _ _ _ _ _ _ _ _ _ _ _ _ _ _ _ _ _ _ _ _ _ _ _ _ _ _ _ _ _ _ _ _ _ _ _ _ _ _ _ _ _ _ _ _ _ _ _ _ _ _ _ _ _ _ _ _ _ _ _ _ _ _ _ _ _ _ _ _ _ _ _ _ _ _ _ _ _ _) (wr.drew.alloc (.cells #[.int .i64 1, .int .i64 1, .int .i64 (-1), .int .i64 2, .int .i64 (-3), .int .i64 0] 3))
        refine wpAnyX_one (i := 4) (by kernel_rfl) rfl (fun K' hK' => ?_)
        refine k_call2 _ rfl 153 _ _ _ _ _ rfl rfl rfl (enters_of Try.func153 (by kernel_rfl) rfl) _ (one_dn n0 B wr.drew.heap.size 6 q (fun i => ([1, 1, -1, 2, -3, 0] : List Int)[i]?.getD 0) (wr.drew.alloc (.cells #[.int .i64 1, .int .i64 1, .int .i64 (-1), .int .i64 2, .int .i64 (-3), .int .i64 0] 3)) hr1 (by omega) (by omega) (by omega) (by omega) (by have := HL.out.rd.lt; show wr.heap.size ≠ B; omega) hc1) (fun c w' h => by obtain ⟨_, _, h, _⟩ := h; cases h) (fun w' h => by obtain ⟨_, _, h, _⟩ := h; cases h) ?_
        rintro vz w5 ⟨iz, hiz, ev, r5, d5⟩
        obtain ⟨z, hz⟩ : ∃ z, z = ([1, 1, -1, 2, -3, 0] : List Int)[iz]?.getD 0 := ⟨_, rfl⟩
        obtain rfl : vz = .int .i64 z := by rw [hz]; injection ev
        have hd5 : Dn B wr w5 := hd1.trans d5
        have hS5 : w5.cell? ⟨C, 2, none⟩ = some (.slice ua j cap) := (wo_cell_same (d5.block C (Nat.lt_of_lt_of_le hClt bV1.size) hCB)).trans hS1
        refine hK'.out _ _ (fun _ => hS5) ?_
        clear hK' K'
        change wpAnyX Try.prog .any _ _ _ _ 4 _ (kcActS _ _ _ _ _ _ _ _ _ _ _ _ _ _ _ _ _ _ _ _ _ _ _ _ _ _ _ _ _ _ _ _ _ _ _ _ _ _ _ _ _ _ _ _ _ _ _ (.pointer (some ⟨C, 2, none⟩)) (.slice ua j cap) (.pointer (some ⟨B, 0, none⟩)) (.slice (some ⟨wr.drew.heap.size, 0, none⟩) 6 6) (.int .i64 z) _ _ _ _ _ _ _ _ _ _ _ _ _ _ _ _ _ _ _ _ _ _ _ _ _ _ _ _ _ _ _ _ _ _ _ _ _ _ _ _ _ _ _ _ _ _ _ _ _ _ _ _ _ _ _ _ _ _ _ _ _ _ _ _ _ _ _ _ _ _ _ _ _ _ _ _ _ _ _ _ _ _ _ _ _ _ _ _ _ _) w5
        refine wpAnyX_one (i := 5) (by kernel_rfl) rfl (fun K' hK' => ?_)
        refine step_value _ (w5.alloc (.cells #[.int .i64 z] 3)) rfl _ (k_exec1 rfl rfl (k_build1 w5 _)) ?_
        have bV3 : Below w5.heap.size w5 (w5.alloc (.cells #[.int .i64 z] 3)) := (Below.refl _ _).alloc (Nat.le_refl _) _
        have hS3 := (bV3.cell (Nat.lt_of_lt_of_le hClt hd5.size)).trans hS5
        have hs5 : Wk.heap.size ≤ w5.heap.size := Nat.le_trans HL.out.fr.size hd5.size
        have hown3 : (w5.alloc (.cells #[.int .i64 z] 3)).ownsRow Wk.heap.size 3 1 (.slice ua j cap) j (xs.map (Value.int .i64)) := (own_dn HL.out.own HKS.out.rd.lt hd5).alloc _
        refine hK'.out _ _ (fun _ => hS3) ?_
        clear hK' K'
        change wpAnyX Try.prog .any _ _ _ _ 3 _ (kcActS _ _ _ _ _ _ _ _ _ _ _ _ _ _ _ _ _ _ _ _ _ _ _ _ _ _ _ _ _ _ _ _ _ _ _ _ _ _ _ _ _ _ _ _ _ _ _ (.pointer (some ⟨C, 2, none⟩)) (.slice ua j cap) (.pointer (some ⟨B, 0, none⟩)) (.slice (some ⟨wr.drew.heap.size, 0, none⟩) 6 6) (.int .i64 z) (.slice (some ⟨w5.heap.size, 0, none⟩) 1 1) _ _ _ _ _ _ _ _ _ _ _ _ _ _ _ _ _ _ _ _ _ _ _ _ _ _ _ _ _ _ _ _ _ _ _ _ _ _ _ _ _ _ _ _ _ _ _ _ _ _ _ _ _ _ _ _ _ _ _ _ _ _ _ _ _ _ _ _ _ _ _ _ _ _ _ _ _ _ _ _ _ _ _ _ _ _ _ _ _) (w5.alloc (.cells #[.int .i64 z] 3))
        refine wpAnyX_one (i := 6) (by kernel_rfl) rfl (fun K' hK' => ?_)
        refine k_appendI rfl _ _ rfl Wk.heap.size (.slice ua j cap) (xs.map (Value.int .i64)) j w5.heap.size z rfl rfl hown3 (cell_one_new _ _ _ 0 _ rfl) (by simp; omega) (by omega) ?_
        intro v6 w6 own6 grow6
        obtain ⟨ua', cap', ev6, hc6, hc6'⟩ := own_form own6
        subst ev6
        have hlow : Below Wk.heap.size w5 w6 := ((Below.refl Wk.heap.size w5).alloc hs5 _).grown grow6 (by simp; omega) (fun g e => (HL.out.own.lt g e).1)
        have hS6 : w6.cell? ⟨C, 2, none⟩ = some (.slice ua j cap) := (hlow.cell HKS.out.bc.lt).trans hS5
        have hF6 : w6.frozen? ⟨C, 2, none⟩ = false := (hlow.frozen HKS.out.bc.lt).trans ((frozen_dnS (hd5) HL.out.bc.lt hCB 2).trans HL.out.bc.frozen.2.2.1)
        refine hK'.out _ _ (fun _ => hS6) ?_
        clear hK' K'
        change wpAnyX Try.prog .any _ _ _ _ 2 _ (kcActS _ _ _ _ _ _ _ _ _ _ _ _ _ _ _ _ _ _ _ _ _ _ _ _ _ _ _ _ _ _ _ _ _ _ _ _ _ _ _ _ _ _ _ _ _ _ _ (.pointer (some ⟨C, 2, none⟩)) (.slice ua j cap) (.pointer (some ⟨B, 0, none⟩)) (.slice (some ⟨wr.drew.heap.size, 0, none⟩) 6 6) (.int .i64 z) (.slice (some ⟨w5.heap.size, 0, none⟩) 1 1) (.slice ua' (j + 1) cap') _ _ _ _ _ _ _ _ _ _ _ _ _ _ _ _ _ _ _ _ _ _ _ _ _ _ _ _ _ _ _ _ _ _ _ _ _ _ _ _ _ _ _ _ _ _ _ _ _ _ _ _ _ _ _ _ _ _ _ _ _ _ _ _ _ _ _ _ _ _ _ _ _ _ _ _ _ _ _ _ _ _ _ _ _ _ _ _) w6
        refine wpAnyX_take (i := 7) (v := .pointer (some ⟨C, 2, none⟩)) rfl (by kernel_rfl) (by kernel_rfl) (by kernel_rfl) (by kernel_rfl) (fun _ _ _ h => h) (.inl ⟨rfl, fun w' hw' => k_field2 rfl rfl⟩) hS6 ?_
        change wpAnyX Try.prog .any _ _ _ _ 1 _ (kcActS _ _ _ _ _ _ _ _ _ _ _ _ _ _ _ _ _ _ _ _ _ _ _ _ _ _ _ _ _ _ _ _ _ _ _ _ _ _ _ _ _ _ _ _ _ _ _ (.pointer (some ⟨C, 2, none⟩)) (.slice ua j cap) (.pointer (some ⟨B, 0, none⟩)) (.slice (some ⟨wr.drew.heap.size, 0, none⟩) 6 6) (.int .i64 z) (.slice (some ⟨w5.heap.size, 0, none⟩) 1 1) (.slice ua' (j + 1) cap') (.pointer (some ⟨C, 2, none⟩)) _ _ _ _ _ _ _ _ _ _ _ _ _ _ _ _ _ _ _ _ _ _ _ _ _ _ _ _ _ _ _ _ _ _ _ _ _ _ _ _ _ _ _ _ _ _ _ _ _ _ _ _ _ _ _ _ _ _ _ _ _ _ _ _ _ _ _ _ _ _ _ _ _ _ _ _ _ _ _ _ _ _ _ _ _ _ _) w6
        refine wpAnyX_one (i := 8) (by kernel_rfl) rfl (fun K' hK' => ?_)
        refine step_skip _ (w6.setCell ⟨C, 2, none⟩ (.slice ua' (j + 1) cap')) rfl (exec_store rfl rfl rfl (k_storeI w6 C 2 ua ua' j cap (j + 1) cap' hS6 hF6)) ?_
        refine hK'.out _ _ (fun h => by cases h) ?_
        clear hK' K'
        change wpAnyX Try.prog .any _ _ _ _ 0 _ (kcActS _ _ _ _ _ _ _ _ _ _ _ _ _ _ _ _ _ _ _ _ _ _ _ _ _ _ _ _ _ _ _ _ _ _ _ _ _ _ _ _ _ _ _ _ _ _ _ (.pointer (some ⟨C, 2, none⟩)) (.slice ua j cap) (.pointer (some ⟨B, 0, none⟩)) (.slice (some ⟨wr.drew.heap.size, 0, none⟩) 6 6) (.int .i64 z) (.slice (some ⟨w5.heap.size, 0, none⟩) 1 1) (.slice ua' (j + 1) cap') (.pointer (some ⟨C, 2, none⟩)) _ _ _ _ _ _ _ _ _ _ _ _ _ _ _ _ _ _ _ _ _ _ _ _ _ _ _ _ _ _ _ _ _ _ _ _ _ _ _ _ _ _ _ _ _ _ _ _ _ _ _ _ _ _ _ _ _ _ _ _ _ _ _ _ _ _ _ _ _ _ _ _ _ _ _ _ _ _ _ _ _ _ _ _ _ _ _) (w6.setCell ⟨C, 2, none⟩ (.slice ua' (j + 1) cap'))
        refine wpAnyX_done (by kernel_rfl) ?_ _
        unfold kcActS
        have HL6 := Lib.hid (LI.push HK.out HKS.out HL.out hd5 r5 rfl own6 grow6)
        clear hS hS5 hS3 hS6 hF6 own6 grow6 hown3 bV3 hlow d5 r5 hd5 hs5 HL hClt hCB hS1 bV1 hd1 hr1 hz ev q1 hc1
        go_wp2
        go_roundw
        case rel => exact ⟨j + 1, ua', cap', xs ++ [z], q + 1, by omega, by go_num, by omega, by omega, HL6⟩
        case measure => simp [intOf]; omega
      · have hj30 : j ≤ 30 := by omega
        have HXL : Hid (xs.length ≤ 20) := Lib.hid (by rw [HL.out.len]; omega)
        have HKS2 := Lib.hid (LI.ks HK.out HKS.out HL.out)
        go_wp2_with fail
        refine (pick_dn n0 B q 14 wr HKS2.out.rd (by omega) (by omega) (by omega)).mono ?_
        rintro e w6 ⟨b, rfl, hb0, hb1, r6, d6⟩
        have HNO := Lib.hid (nilOk_own HL.out.own)
        have hb2 : b ≤ 14 := by omega
        clear hb1
        have HKS3 := Lib.hid (HKS2.out.dnStep HK.out d6 r6)
        have HKS4 := Lib.hid (HKS3.out.bound HK.out (b - 4))
        obtain ⟨W7, hW7⟩ : ∃ W7, w6.setCell ⟨C, 3, none⟩ (.int .i64 (b - 4)) = W7 := ⟨_, rfl⟩
        rw [hW7] at HKS4
        have HW7 := Lib.hid hW7
        have y0 := HKS3.out.bc.cell.2.2.2.1
        have y1 := HKS3.out.bc.frozen.2.2.2.1
        obtain ⟨p0, p1, p2, p3, p4⟩ := HKS4.out.bc.cell
        obtain ⟨g0, g1, g2, g3, g4⟩ := HKS4.out.bc.frozen
        obtain ⟨o0, o1, o2, o3, o4⟩ := HKS4.out.br.cell
        obtain ⟨f0, f1, f2, f3, f4⟩ := HKS4.out.br.frozen
        clear r6 d6 HKS2 HL hW7
        go_wp2_with (rw [HW7.out])
        have hq := (putR_blk HKS4.out.br (.int .i64 1) (.slice (some ⟨gv, 0, none⟩) vn vc) (.slice ua j cap) (.int .i64 (b - 4)) (.slice none 0 0)).cell
        simp only [putR] at hq
        obtain ⟨q0, q1, q2, q3, q4⟩ := hq
        refine bodyPost_ret (v := .agg #[.int .i64 1, .slice (some ⟨gv, 0, none⟩) vn vc, .slice ua j cap, .int .i64 (b - 4), .slice none 0 0]) (by simp [results, Try.results128, go_sem, q0, q1, q2, q3, q4]) rfl ?_
        exact conDn_fin (c := ⟨1, vars, xs, (b - 4), []⟩) HK.out HKS4.out (by show 1 ≤ vars.length; rw [← HVN.out]; exact hv1) ⟨by show vars.length ≤ 20; rw [← HVN.out]; omega, HXL.out, rowsLe_of (by simp) (fun r hr => by cases hr)⟩ (by have := HPQ.out; omega) (by have := HPQ.out; omega) (by first | exact nilOk_nil | exact nilOk_some _ _ _ _ | exact HNO.out)
  · skip
    go_wp2_with (rw [HWK.out])
    obtain ⟨C, hC⟩ : ∃ C, C = w4.heap.size := ⟨_, rfl⟩
    rw [← hC] at HKS HK ⊢
    clear hC HWK
    clear p0 p1 p2 p3 p4' g0 g1 g2 g3 g4 o0 o1 o2 o3 o4 f0 f1 f2 f3 f4
    have HKX := Lib.hid (HKS.out.setKind HK.out 5)
    clear HKS
    obtain ⟨Wz, hWz⟩ : ∃ Wz, Wk.setCell ⟨C, 0, none⟩ (.int .i64 5) = Wz := ⟨_, rfl⟩
    rw [hWz] at HKX ⊢
    clear hWz
    clear Wk
    obtain ⟨Wk, hWk⟩ : ∃ Wk, Wk = Wz := ⟨_, rfl⟩
    subst hWk
    have HKS := HKX
    clear HKX
    refine (pick_dn n0 B p4 6 Wk HKS.out.rd (by omega) (by omega) (by omega)).mono ?_
    rintro e wt ⟨b, rfl, hb0, hb1, rt, dt⟩
    obtain ⟨b, rfl⟩ := Int.eq_ofNat_of_zero_le hb0
    have hb5 : b ≤ 5 := by omega
    have HKT := Lib.hid (HKS.out.dnStep HK.out dt rt)
    clear HKS
    have HKS := HKT
    obtain ⟨Wq, hWq⟩ : ∃ Wq, Wq = Wk := ⟨_, rfl⟩
    clear HKT rt dt hb0 hb1 hWq Wq
    have hb1' : (1 : Int) + (b : Int) = ((b + 1 : Nat) : Int) := by omega
    have HB1 := Lib.hid hb1'
    clear hb1'
    go_wp2_with fail
    rw [HB1.out]
    obtain ⟨b', hb'⟩ : ∃ b', b' = b + 1 := ⟨_, rfl⟩
    rw [← hb']
    have hb6 : b' ≤ 6 := by omega
    clear HB1 hb'
    go_loopw [8] (fun i wr => ∃ (i' j : Nat) (ua : Option Addr) (cap : Nat) (us : List Value) (rows : List (List Int)) (q : Int), i' + j ≤ 6 ∧ i = .int .i64 i' ∧ p4 ≤ q ∧ q ≤ p4 + 1 + 5 * j ∧ Hid (LR Q0 n0 B R C w wt wr q ⟨5, vars, [], 0, []⟩ (.slice (some ⟨gv, 0, none⟩) vn vc) (.slice none 0 0) ua j cap us rows) ∧ Hid (∀ r ∈ rows, r.length ≤ 6)) (fun i _ => (intOf i).toNat)
    case atStart => exact ⟨b', 0, none, 0, [], [], p4 + 1, by omega, rfl, by omega, by omega, Lib.hid (LR.start HKS.out), Lib.hid (fun r hr => by cases hr)⟩
    case round =>
      obtain ⟨i', j, ua, cap, us, rows, q, hij, rfl, hq, hq2, HL, HRS⟩ := hrel
      by_cases hiv : 0 < i'
      · have hS : wr.drew.cell? ⟨C, 4, none⟩ = some (.slice ua j cap) := HL.out.bc.cell.2.2.2.2
        have hClt : C < wr.drew.heap.size := HL.out.bc.lt
        have hCB : C ≠ B := by have := HK.out.hC; have := HK.out.hB; omega
        have HX := Lib.hid (And.intro hClt hCB)
        clear hClt hCB
        go_wp2_with fail
        obtain ⟨hClt, hCB⟩ := HX.out
        refine region_x (fun w' => w'.cell? ⟨C, 4, none⟩ = some (.slice ua j cap)) (fun i => i == 8) rfl ?_
        change wpAnyX Try.prog .any _ _ _ _ 9 _ (kcActS _ _ _ _ _ _ _ _ _ _ _ _ _ _ _ _ _ _ _ _ _ _ _ _ _ _ _ _ _ _ _ _ _ _ _ _ _ _ _ _ _ _ _ _ _ _ _ _ _ _ _ _ _ _ _ _ _ _ _ _ _ _ _ _ _ _ _ _ _ _ _ _ _ _ _ _ _ _ _ _ _ _ _ _ _ _ _ _ _ _ _ _ _ _ _ _ _ _ _ _ _ _ _ _ _ _ _ _ _ _ _ _ _ _ _ _ _ _ _ _ _ _ _ _ _ _ _ _ _ _ _ _ _ _ _ _ _ _ _ _ _ _) wr.drew
        refine wpAnyX_take (i := 0) (v := .pointer (some ⟨C, 4, none⟩)) rfl (by kernel_rfl) (by kernel_rfl) (by kernel_rfl) (by kernel_rfl) (fun _ _ _ h => h) (.inl ⟨rfl, fun w' hw' => k_field4 rfl rfl⟩) hS ?_
        change wpAnyX Try.prog .any _ _ _ _ 8 _ (kcActS _ _ _ _ _ _ _ _ _ _ _ _ _ _ _ _ _ _ _ _ _ _ _ _ _ _ _ _ _ _ _ _ _ _ _ _ _ _ _ _ _ _ _ _ _ _ _ _ _ _ _ _ _ _ _ _ _ _ _ _ _ _ _ _ _ _ _ _ _ _ _ _ _ _ _ _ _ _ _ _ _ _ _ _ _ _ _ _ _ _ _ (.pointer (some ⟨C, 4, none⟩)) _ _ _ _ _ _ _ _ _ _ _ _ _ _ _ _ _ _ _ _ _ _ _ _ _ _ _ _ _ _ _ _ _ _ _ _ _ _ _ _ _ _ _ _ _ _ _ _ _ _) wr.drew
        refine wpAnyX_take (i := 1) (v := .slice ua j cap) rfl (by kernel_rfl) (by kernel_rfl) (by kernel_rfl) (by kernel_rfl) (fun _ _ _ h => h) (.inl ⟨rfl, fun w' hw' => exec_load rfl rfl (k_loadR w' _ _ _ _ _ hw')⟩) hS ?_
        change wpAnyX Try.prog .any _ _ _ _ 7 _ (kcActS _ _ _ _ _ _ _ _ _ _ _ _ _ _ _ _ _ _ _ _ _ _ _ _ _ _ _ _ _ _ _ _ _ _ _ _ _ _ _ _ _ _ _ _ _ _ _ _ _ _ _ _ _ _ _ _ _ _ _ _ _ _ _ _ _ _ _ _ _ _ _ _ _ _ _ _ _ _ _ _ _ _ _ _ _ _ _ _ _ _ _ (.pointer (some ⟨C, 4, none⟩)) (.slice ua j cap) _ _ _ _ _ _ _ _ _ _ _ _ _ _ _ _ _ _ _ _ _ _ _ _ _ _ _ _ _ _ _ _ _ _ _ _ _ _ _ _ _ _ _ _ _ _ _ _ _) wr.drew
        refine wpAnyX_take (i := 2) (v := .pointer (some ⟨B, 0, none⟩)) rfl (by kernel_rfl) (by kernel_rfl) (by kernel_rfl) (by kernel_rfl) (fun _ _ _ h => h) (.inl ⟨rfl, fun w' hw' => rfl⟩) hS ?_
        change wpAnyX Try.prog .any _ _ _ _ 6 _ (kcActS _ _ _ _ _ _ _ _ _ _ _ _ _ _ _ _ _ _ _ _ _ _ _ _ _ _ _ _ _ _ _ _ _ _ _ _ _ _ _ _ _ _ _ _ _ _ _ _ _ _ _ _ _ _ _ _ _ _ _ _ _ _ _ _ _ _ _ _ _ _ _ _ _ _ _ _ _ _ _ _ _ _ _ _ _ _ _ _ _ _ _ (.pointer (some ⟨C, 4, none⟩)) (.slice ua j cap) (.pointer (some ⟨B, 0, none⟩)) _ _ _ _ _ _ _ _ _ _ _ _ _ _ _ _ _ _ _ _ _ _ _ _ _ _ _ _ _ _ _ _ _ _ _ _ _ _ _ _ _ _ _ _ _ _ _ _) wr.drew
        refine wpAnyX_take (i := 3) (v := .int .i64 vn) rfl (by kernel_rfl) (by kernel_rfl) (by kernel_rfl) (by kernel_rfl) (fun _ _ _ h => h) (.inl ⟨rfl, fun w' hw' => rfl⟩) hS ?_
        change wpAnyX Try.prog .any _ _ _ _ 5 _ (kcActS _ _ _ _ _ _ _ _ _ _ _ _ _ _ _ _ _ _ _ _ _ _ _ _ _ _ _ _ _ _ _ _ _ _ _ _ _ _ _ _ _ _ _ _ _ _ _ _ _ _ _ _ _ _ _ _ _ _ _ _ _ _ _ _ _ _ _ _ _ _ _ _ _ _ _ _ _ _ _ _ _ _ _ _ _ _ _ _ _ _ _ (.pointer (some ⟨C, 4, none⟩)) (.slice ua j cap) (.pointer (some ⟨B, 0, none⟩)) (.int .i64 vn) _ _ _ _ _ _ _ _ _ _ _ _ _ _ _ _ _ _ _ _ _ _ _ _ _ _ _ _ _ _ _ _ _ _ _ _ _ _ _ _ _ _ _ _ _ _ _) wr.drew
        refine wpAnyX_one (i := 4) (by kernel_rfl) rfl (fun K' hK' => ?_)
        refine k_call2 _ rfl 163 _ _ _ _ _ rfl rfl rfl (enters_of Try.func163 (by kernel_rfl) rfl) _ (randomRow_some n0 B vn q wr.drew (HL.out.rd.drewN 1) (by omega) (by omega) (by omega)) (fun c w' h => by obtain ⟨_, _, _, h, _⟩ := h; cases h) (fun w' h => by obtain ⟨_, _, _, h, _⟩ := h; cases h) ?_
        rintro vz w5 ⟨v5, xs, q5, ev, hx5, o5, hq5, hq5', r5, d5, gx, cx, e5⟩
        obtain rfl : vz = v5 := by injection ev
        subst e5
        obtain ⟨xn, hxn⟩ : ∃ xn, xn = xs.length := ⟨_, rfl⟩
        rw [← hxn] at o5 ⊢
        have HXN := Lib.hid hxn
        clear hxn ev
        have hd5 : Dn B wr w5 := (Dn.of_below (Below.refl _ wr).drew).trans d5
        have hS5 : w5.cell? ⟨C, 4, none⟩ = some (.slice ua j cap) := (wo_cell_same (d5.block C hClt hCB)).trans hS
        refine hK'.out _ _ (fun _ => hS5) ?_
        clear hK' K'
        change wpAnyX Try.prog .any _ _ _ _ 4 _ (kcActS _ _ _ _ _ _ _ _ _ _ _ _ _ _ _ _ _ _ _ _ _ _ _ _ _ _ _ _ _ _ _ _ _ _ _ _ _ _ _ _ _ _ _ _ _ _ _ _ _ _ _ _ _ _ _ _ _ _ _ _ _ _ _ _ _ _ _ _ _ _ _ _ _ _ _ _ _ _ _ _ _ _ _ _ _ _ _ _ _ _ _ (.pointer (some ⟨C, 4, none⟩)) (.slice ua j cap) (.pointer (some ⟨B, 0, none⟩)) (.int .i64 vn) (.slice (some ⟨gx, 0, none⟩) xn cx) _ _ _ _ _ _ _ _ _ _ _ _ _ _ _ _ _ _ _ _ _ _ _ _ _ _ _ _ _ _ _ _ _ _ _ _ _ _ _ _ _ _ _ _ _ _) w5
        refine wpAnyX_one (i := 5) (by kernel_rfl) rfl (fun K' hK' => ?_)
        refine step_value _ (w5.alloc (.cells #[.slice (some ⟨gx, 0, none⟩) xn cx] 32)) rfl _ (k_exec1 rfl rfl (k_build1R w5 _ _ _)) ?_
        have bV3 : Below w5.heap.size w5 (w5.alloc (.cells #[.slice (some ⟨gx, 0, none⟩) xn cx] 32)) := (Below.refl _ _).alloc (Nat.le_refl _) _
        have hS3 := (bV3.cell (Nat.lt_of_lt_of_le hClt hd5.size)).trans hS5
        have hs5 : wt.heap.size ≤ w5.heap.size := Nat.le_trans HL.out.fr.size hd5.size
        have hown3 : (w5.alloc (.cells #[.slice (some ⟨gx, 0, none⟩) xn cx] 32)).ownsRow wt.heap.size 32 1 (.slice ua j cap) j us := (by have := (own_dn HL.out.own.2.1 HKS.out.rd.lt hd5).alloc (.cells #[.slice (some ⟨gx, 0, none⟩) xn cx] 32); rw [HL.out.len] at this; exact this)
        refine hK'.out _ _ (fun _ => hS3) ?_
        clear hK' K'
        change wpAnyX Try.prog .any _ _ _ _ 3 _ (kcActS _ _ _ _ _ _ _ _ _ _ _ _ _ _ _ _ _ _ _ _ _ _ _ _ _ _ _ _ _ _ _ _ _ _ _ _ _ _ _ _ _ _ _ _ _ _ _ _ _ _ _ _ _ _ _ _ _ _ _ _ _ _ _ _ _ _ _ _ _ _ _ _ _ _ _ _ _ _ _ _ _ _ _ _ _ _ _ _ _ _ _ (.pointer (some ⟨C, 4, none⟩)) (.slice ua j cap) (.pointer (some ⟨B, 0, none⟩)) (.int .i64 vn) (.slice (some ⟨gx, 0, none⟩) xn cx) (.slice (some ⟨w5.heap.size, 0, none⟩) 1 1) _ _ _ _ _ _ _ _ _ _ _ _ _ _ _ _ _ _ _ _ _ _ _ _ _ _ _ _ _ _ _ _ _ _ _ _ _ _ _ _ _ _ _ _ _) (w5.alloc (.cells #[.slice (some ⟨gx, 0, none⟩) xn cx] 32))
        refine wpAnyX_one (i := 6) (by kernel_rfl) rfl (fun K' hK' => ?_)
        refine k_appendR rfl _ _ rfl wt.heap.size (.slice ua j cap) us j w5.heap.size _ _ _ rfl rfl hown3 (cell_one_new _ _ _ 0 _ rfl) (by simp; omega) (by omega) ?_
        intro v6 w6 own6 grow6
        obtain ⟨ua', cap', ev6, hc6, hc6'⟩ := own_form own6
        subst ev6
        have hlow : Below wt.heap.size w5 w6 := ((Below.refl wt.heap.size w5).alloc hs5 _).grown grow6 (by simp; omega) (fun g e => (HL.out.own.2.1.lt g e).1)
        have hS6 : w6.cell? ⟨C, 4, none⟩ = some (.slice ua j cap) := (hlow.cell HKS.out.bc.lt).trans hS5
        have hF6 : w6.frozen? ⟨C, 4, none⟩ = false := (hlow.frozen HKS.out.bc.lt).trans ((frozen_dnS (hd5) HL.out.bc.lt hCB 4).trans HL.out.bc.frozen.2.2.2.2)
        refine hK'.out _ _ (fun _ => hS6) ?_
        clear hK' K'
        change wpAnyX Try.prog .any _ _ _ _ 2 _ (kcActS _ _ _ _ _ _ _ _ _ _ _ _ _ _ _ _ _ _ _ _ _ _ _ _ _ _ _ _ _ _ _ _ _ _ _ _ _ _ _ _ _ _ _ _ _ _ _ _ _ _ _ _ _ _ _ _ _ _ _ _ _ _ _ _ _ _ _ _ _ _ _ _ _ _ _ _ _ _ _ _ _ _ _ _ _ _ _ _ _ _ _ (.pointer (some ⟨C, 4, none⟩)) (.slice ua j cap) (.pointer (some ⟨B, 0, none⟩)) (.int .i64 vn) (.slice (some ⟨gx, 0, none⟩) xn cx) (.slice (some ⟨w5.heap.size, 0, none⟩) 1 1) (.slice ua' (j + 1) cap') _ _ _ _ _ _ _ _ _ _ _ _ _ _ _ _ _ _ _ _ _ _ _ _ _ _ _ _ _ _ _ _ _ _ _ _ _ _ _ _ _ _ _ _) w6
        refine wpAnyX_take (i := 7) (v := .pointer (some ⟨C, 4, none⟩)) rfl (by kernel_rfl) (by kernel_rfl) (by kernel_rfl) (by kernel_rfl) (fun _ _ _ h => h) (.inl ⟨rfl, fun w' hw' => k_field4 rfl rfl⟩) hS6 ?_
        change wpAnyX Try.prog .any _ _ _ _ 1 _ (kcActS _ _ _ _ _ _ _ _ _ _ _ _ _ _ _ _ _ _ _ _ _ _ _ _ _ _ _ _ _ _ _ _ _ _ _ _ _ _ _ _ _ _ _ _ _ _ _ _ _ _ _ _ _ _ _ _ _ _ _ _ _ _ _ _ _ _ _ _ _ _ _ _ _ _ _ _ _ _ _ _ _ _ _ _ _ _ _ _ _ _ _ (.pointer (some ⟨C, 4, none⟩)) (.slice ua j cap) (.pointer (some ⟨B, 0, none⟩)) (.int .i64 vn) (.slice (some ⟨gx, 0, none⟩) xn cx) (.slice (some ⟨w5.heap.size, 0, none⟩) 1 1) (.slice ua' (j + 1) cap') (.pointer (some ⟨C, 4, none⟩)) _ _ _ _ _ _ _ _ _ _ _ _ _ _ _ _ _ _ _ _ _ _ _ _ _ _ _ _ _ _ _ _ _ _ _ _ _ _ _ _ _ _ _) w6
        refine wpAnyX_one (i := 8) (by kernel_rfl) rfl (fun K' hK' => ?_)
        refine step_skip _ (w6.setCell ⟨C, 4, none⟩ (.slice ua' (j + 1) cap')) rfl (exec_store rfl rfl rfl (k_storeR w6 C 4 ua ua' j cap (j + 1) cap' hS6 hF6)) ?_
        refine hK'.out _ _ (fun h => by cases h) ?_
        clear hK' K'
        change wpAnyX Try.prog .any _ _ _ _ 0 _ (kcActS _ _ _ _ _ _ _ _ _ _ _ _ _ _ _ _ _ _ _ _ _ _ _ _ _ _ _ _ _ _ _ _ _ _ _ _ _ _ _ _ _ _ _ _ _ _ _ _ _ _ _ _ _ _ _ _ _ _ _ _ _ _ _ _ _ _ _ _ _ _ _ _ _ _ _ _ _ _ _ _ _ _ _ _ _ _ _ _ _ _ _ (.pointer (some ⟨C, 4, none⟩)) (.slice ua j cap) (.pointer (some ⟨B, 0, none⟩)) (.int .i64 vn) (.slice (some ⟨gx, 0, none⟩) xn cx) (.slice (some ⟨w5.heap.size, 0, none⟩) 1 1) (.slice ua' (j + 1) cap') (.pointer (some ⟨C, 4, none⟩)) _ _ _ _ _ _ _ _ _ _ _ _ _ _ _ _ _ _ _ _ _ _ _ _ _ _ _ _ _ _ _ _ _ _ _ _ _ _ _ _ _ _ _) (w6.setCell ⟨C, 4, none⟩ (.slice ua' (j + 1) cap'))
        refine wpAnyX_done (by kernel_rfl) ?_ _
        unfold kcActS
        have HL6 := Lib.hid (LR.push (r := xs) HK.out HKS.out HL.out hd5 r5 (by rw [← HXN.out]; exact o5) rfl own6 grow6)
        have HR6 : Hid (∀ r ∈ rows ++ [xs], r.length ≤ 6) := Lib.hid (fun r hr => by rcases List.mem_append.1 hr with hr | hr; (· exact HRS.out r hr); (· rw [List.mem_singleton] at hr; subst hr; rw [hx5.1]; omega))
        clear hS hS5 hS3 hS6 hF6 own6 grow6 hown3 bV3 hlow d5 r5 hd5 hs5 HL hClt hCB hx5 o5 HXN HRS
        go_wp2
        go_roundw
        case rel => exact ⟨i' - 1, j + 1, ua', cap', _, rows ++ [xs], q5, by omega, by go_num, by omega, by omega, HL6, HR6⟩
        case measure => simp [intOf]; omega
      · obtain rfl : i' = 0 := by omega
        have HXL : Hid (rows.length ≤ 20) := Lib.hid (by rw [← HL.out.own.1, HL.out.len]; omega)
        have HKS2 := Lib.hid (LR.ks HK.out HKS.out HL.out)
        obtain ⟨p0, p1, p2, p3, p4⟩ := HKS2.out.bc.cell
        obtain ⟨g0, g1, g2, g3, g4⟩ := HKS2.out.bc.frozen
        obtain ⟨o0, o1, o2, o3, o4⟩ := HKS2.out.br.cell
        obtain ⟨f0, f1, f2, f3, f4⟩ := HKS2.out.br.frozen
        clear HL
        go_wp2
        have hq := (putR_blk HKS2.out.br (.int .i64 5) (.slice (some ⟨gv, 0, none⟩) vn vc) (.slice none 0 0) (.int .i64 0) (.slice ua j cap)).cell
        simp only [putR] at hq
        obtain ⟨q0, q1, q2, q3, q4⟩ := hq
        refine bodyPost_ret (v := .agg #[.int .i64 5, .slice (some ⟨gv, 0, none⟩) vn vc, .slice none 0 0, .int .i64 0, .slice ua j cap]) (by simp [results, Try.results128, go_sem, q0, q1, q2, q3, q4]) rfl ?_
        exact conDn_fin (c := ⟨5, vars, [], 0, rows⟩) HK.out HKS2.out (by show 1 ≤ vars.length; rw [← HVN.out]; exact hv1) ⟨by show vars.length ≤ 20; rw [← HVN.out]; omega, by simp, rowsLe_of HXL.out (fun r hr => Nat.le_trans (HRS.out r hr) (by omega))⟩ (by have := HPQ.out; omega) (by have := HPQ.out; omega) (by first | exact nilOk_nil | exact nilOk_some _ _ _ _ | exact HNO.out)
  · skip
    go_wp2_with (rw [HWK.out])
    obtain ⟨C, hC⟩ : ∃ C, C = w4.heap.size := ⟨_, rfl⟩
    rw [← hC] at HKS HK
    clear hC
    have hq := (putR_blk HKS.out.br (.int .i64 3) (.slice (some ⟨gv, 0, none⟩) vn vc) (.slice none 0 0) (.int .i64 0) (.slice none 0 0)).cell
    simp only [putR] at hq
    obtain ⟨q0, q1, q2, q3, q4⟩ := hq
    refine bodyPost_ret (v := .agg #[.int .i64 3, .slice (some ⟨gv, 0, none⟩) vn vc, .slice none 0 0, .int .i64 0, .slice none 0 0]) (by simp [results, Try.results128, go_sem, q0, q1, q2, q3, q4]) rfl ?_
    exact conDn_fin (c := ⟨3, vars, [], 0, []⟩) HK.out HKS.out (by show 1 ≤ vars.length; rw [← HVN.out]; exact hv1) ⟨by show vars.length ≤ 20; rw [← HVN.out]; omega, by simp, rowsLe_of (by simp) (fun r hr => by cases hr)⟩ (by have := HPQ.out; omega) (by have := HPQ.out; omega) (by first | exact nilOk_nil | exact nilOk_some _ _ _ _ | exact HNO.out)
  · skip
    go_wp2_with (rw [HWK.out])
    obtain ⟨C, hC⟩ : ∃ C, C = w4.heap.size := ⟨_, rfl⟩
    rw [← hC] at HKS HK ⊢
    clear hC HWK
    clear p0 p1 p2 p3 p4' g0 g1 g2 g3 g4 o0 o1 o2 o3 o4 f0 f1 f2 f3 f4
    have HKX := Lib.hid (HKS.out.setKind HK.out 5)
    clear HKS
    obtain ⟨Wz, hWz⟩ : ∃ Wz, Wk.setCell ⟨C, 0, none⟩ (.int .i64 5) = Wz := ⟨_, rfl⟩
    rw [hWz] at HKX ⊢
    clear hWz
    clear Wk
    obtain ⟨Wk, hWk⟩ : ∃ Wk, Wk = Wz := ⟨_, rfl⟩
    subst hWk
    have HKS := HKX
    clear HKX
    refine (pick_dn n0 B p4 6 Wk HKS.out.rd (by omega) (by omega) (by omega)).mono ?_
    rintro e wt ⟨b, rfl, hb0, hb1, rt, dt⟩
    obtain ⟨b, rfl⟩ := Int.eq_ofNat_of_zero_le hb0
    have hb5 : b ≤ 5 := by omega
    have HKT := Lib.hid (HKS.out.dnStep HK.out dt rt)
    clear HKS
    have HKS := HKT
    obtain ⟨Wq, hWq⟩ : ∃ Wq, Wq = Wk := ⟨_, rfl⟩
    clear HKT rt dt hb0 hb1 hWq Wq
    have hb1' : (1 : Int) + (b : Int) = ((b + 1 : Nat) : Int) := by omega
    have HB1 := Lib.hid hb1'
    clear hb1'
    go_wp2_with fail
    rw [HB1.out]
    obtain ⟨b', hb'⟩ : ∃ b', b' = b + 1 := ⟨_, rfl⟩
    rw [← hb']
    have hb6 : b' ≤ 6 := by omega
    clear HB1 hb'
    go_loopw [8] (fun i wr => ∃ (i' j : Nat) (ua : Option Addr) (cap : Nat) (us : List Value) (rows : List (List Int)) (q : Int), i' + j ≤ 6 ∧ i = .int .i64 i' ∧ p4 ≤ q ∧ q ≤ p4 + 1 + 5 * j ∧ Hid (LR Q0 n0 B R C w wt wr q ⟨5, vars, [], 0, []⟩ (.slice (some ⟨gv, 0, none⟩) vn vc) (.slice none 0 0) ua j cap us rows) ∧ Hid (∀ r ∈ rows, r.length ≤ 6)) (fun i _ => (intOf i).toNat)
    case atStart => exact ⟨b', 0, none, 0, [], [], p4 + 1, by omega, rfl, by omega, by omega, Lib.hid (LR.start HKS.out), Lib.hid (fun r hr => by cases hr)⟩
    case round =>
      obtain ⟨i', j, ua, cap, us, rows, q, hij, rfl, hq, hq2, HL, HRS⟩ := hrel
      by_cases hiv : 0 < i'
      · have hS : wr.drew.cell? ⟨C, 4, none⟩ = some (.slice ua j cap) := HL.out.bc.cell.2.2.2.2
        have hClt : C < wr.drew.heap.size := HL.out.bc.lt
        have hCB : C ≠ B := by have := HK.out.hC; have := HK.out.hB; omega
        have HX := Lib.hid (And.intro hClt hCB)
        clear hClt hCB
        go_wp2_with fail
        obtain ⟨hClt, hCB⟩ := HX.out
        refine region_x (fun w' => w'.cell? ⟨C, 4, none⟩ = some (.slice ua j cap)) (fun i => i == 8) rfl ?_
        change wpAnyX Try.prog .any _ _ _ _ 9 _ (kcActS _ _ _ _ _ _ _ _ _ _ _ _ _ _ _ _ _ _ _ _ _ _ _ _ _ _ _ _ _ _ _ _ _ _ _ _ _ _ _ _ _ _ _ _ _ _ _ _ _ _ _ _ _ _ _ _ _ _ _ _ _ _ _ _ _ _ _ _ _ _ _ _ _ _ _ _ _ _ _ _ _ _ _ _ _ _ _ _ _ _ _ _ _ _ _ _ _ _ _ _ _ _ _ _ _ _ _ _ _ _ _ _ _ _ _ _ _ _ _ _ _ _ _ _ _ _ _ _ _ _ _ _ _ _ _ _ _ _ _ _ _ _) wr.drew
        refine wpAnyX_take (i := 0) (v := .pointer (some ⟨C, 4, none⟩)) rfl (by kernel_rfl) (by kernel_rfl) (by kernel_rfl) (by kernel_rfl) (fun _ _ _ h => h) (.inl ⟨rfl, fun w' hw' => k_field4 rfl rfl⟩) hS ?_
        change wpAnyX Try.prog .any _ _ _ _ 8 _ (kcActS _ _ _ _ _ _ _ _ _ _ _ _ _ _ _ _ _ _ _ _ _ _ _ _ _ _ _ _ _ _ _ _ _ _ _ _ _ _ _ _ _ _ _ _ _ _ _ _ _ _ _ _ _ _ _ _ _ _ _ _ _ _ _ _ _ _ _ _ _ _ _ _ _ _ _ _ _ _ _ _ _ _ _ _ _ _ _ _ _ _ _ (.pointer (some ⟨C, 4, none⟩)) _ _ _ _ _ _ _ _ _ _ _ _ _ _ _ _ _ _ _ _ _ _ _ _ _ _ _ _ _ _ _ _ _ _ _ _ _ _ _ _ _ _ _ _ _ _ _ _ _ _) wr.drew
        refine wpAnyX_take (i := 1) (v := .slice ua j cap) rfl (by kernel_rfl) (by kernel_rfl) (by kernel_rfl) (by kernel_rfl) (fun _ _ _ h => h) (.inl ⟨rfl, fun w' hw' => exec_load rfl rfl (k_loadR w' _ _ _ _ _ hw')⟩) hS ?_
        change wpAnyX Try.prog .any _ _ _ _ 7 _ (kcActS _ _ _ _ _ _ _ _ _ _ _ _ _ _ _ _ _ _ _ _ _ _ _ _ _ _ _ _ _ _ _ _ _ _ _ _ _ _ _ _ _ _ _ _ _ _ _ _ _ _ _ _ _ _ _ _ _ _ _ _ _ _ _ _ _ _ _ _ _ _ _ _ _ _ _ _ _ _ _ _ _ _ _ _ _ _ _ _ _ _ _ (.pointer (some ⟨C, 4, none⟩)) (.slice ua j cap) _ _ _ _ _ _ _ _ _ _ _ _ _ _ _ _ _ _ _ _ _ _ _ _ _ _ _ _ _ _ _ _ _ _ _ _ _ _ _ _ _ _ _ _ _ _ _ _ _) wr.drew
        refine wpAnyX_take (i := 2) (v := .pointer (some ⟨B, 0, none⟩)) rfl (by kernel_rfl) (by kernel_rfl) (by kernel_rfl) (by kernel_rfl) (fun _ _ _ h => h) (.inl ⟨rfl, fun w' hw' => rfl⟩) hS ?_
        change wpAnyX Try.prog .any _ _ _ _ 6 _ (kcActS _ _ _ _ _ _ _ _ _ _ _ _ _ _ _ _ _ _ _ _ _ _ _ _ _ _ _ _ _ _ _ _ _ _ _ _ _ _ _ _ _ _ _ _ _ _ _ _ _ _ _ _ _ _ _ _ _ _ _ _ _ _ _ _ _ _ _ _ _ _ _ _ _ _ _ _ _ _ _ _ _ _ _ _ _ _ _ _ _ _ _ (.pointer (some ⟨C, 4, none⟩)) (.slice ua j cap) (.pointer (some ⟨B, 0, none⟩)) _ _ _ _ _ _ _ _ _ _ _ _ _ _ _ _ _ _ _ _ _ _ _ _ _ _ _ _ _ _ _ _ _ _ _ _ _ _ _ _ _ _ _ _ _ _ _ _) wr.drew
        refine wpAnyX_take (i := 3) (v := .int .i64 vn) rfl (by kernel_rfl) (by kernel_rfl) (by kernel_rfl) (by kernel_rfl) (fun _ _ _ h => h) (.inl ⟨rfl, fun w' hw' => rfl⟩) hS ?_
        change wpAnyX Try.prog .any _ _ _ _ 5 _ (kcActS _ _ _ _ _ _ _ _ _ _ _ _ _ _ _ _ _ _ _ _ _ _ _ _ _ _ _ _ _ _ _ _ _ _ _ _ _ _ _ _ _ _ _ _ _ _ _ _ _ _ _ _ _ _ _ _ _ _ _ _ _ _ _ _ _ _ _ _ _ _ _ _ _ _ _ _ _ _ _ _ _ _ _ _ _ _ _ _ _ _ _ (.pointer (some ⟨C, 4, none⟩)) (.slice ua j cap) (.pointer (some ⟨B, 0, none⟩)) (.int .i64 vn) _ _ _ _ _ _ _ _ _ _ _ _ _ _ _ _ _ _ _ _ _ _ _ _ _ _ _ _ _ _ _ _ _ _ _ _ _ _ _ _ _ _ _ _ _ _ _) wr.drew
        refine wpAnyX_one (i := 4) (by kernel_rfl) rfl (fun K' hK' => ?_)
        refine k_call2 _ rfl 163 _ _ _ _ _ rfl rfl rfl (enters_of Try.func163 (by kernel_rfl) rfl) _ (randomRow_some n0 B vn q wr.drew (HL.out.rd.drewN 1) (by omega) (by omega) (by omega)) (fun c w' h => by obtain ⟨_, _, _, h, _⟩ := h; cases h) (fun w' h => by obtain ⟨_, _, _, h, _⟩ := h; cases h) ?_
        rintro vz w5 ⟨v5, xs, q5, ev, hx5, o5, hq5, hq5', r5, d5, gx, cx, e5⟩
        obtain rfl : vz = v5 := by injection ev
        subst e5
        obtain ⟨xn, hxn⟩ : ∃ xn, xn = xs.length := ⟨_, rfl⟩
        rw [← hxn] at o5 ⊢
        have HXN := Lib.hid hxn
        clear hxn ev
        have hd5 : Dn B wr w5 := (Dn.of_below (Below.refl _ wr).drew).trans d5
        have hS5 : w5.cell? ⟨C, 4, none⟩ = some (.slice ua j cap) := (wo_cell_same (d5.block C hClt hCB)).trans hS
        refine hK'.out _ _ (fun _ => hS5) ?_
        clear hK' K'
        change wpAnyX Try.prog .any _ _ _ _ 4 _ (kcActS _ _ _ _ _ _ _ _ _ _ _ _ _ _ _ _ _ _ _ _ _ _ _ _ _ _ _ _ _ _ _ _ _ _ _ _ _ _ _ _ _ _ _ _ _ _ _ _ _ _ _ _ _ _ _ _ _ _ _ _ _ _ _ _ _ _ _ _ _ _ _ _ _ _ _ _ _ _ _ _ _ _ _ _ _ _ _ _ _ _ _ (.pointer (some ⟨C, 4, none⟩)) (.slice ua j cap) (.pointer (some ⟨B, 0, none⟩)) (.int .i64 vn) (.slice (some ⟨gx, 0, none⟩) xn cx) _ _ _ _ _ _ _ _ _ _ _ _ _ _ _ _ _ _ _ _ _ _ _ _ _ _ _ _ _ _ _ _ _ _ _ _ _ _ _ _ _ _ _ _ _ _) w5
        refine wpAnyX_one (i := 5) (by kernel_rfl) rfl (fun K' hK' => ?_)
        refine step_value _ (w5.alloc (.cells #[.slice (some ⟨gx, 0, none⟩) xn cx] 32)) rfl _ (k_exec1 rfl rfl (k_build1R w5 _ _ _)) ?_
        have bV3 : Below w5.heap.size w5 (w5.alloc (.cells #[.slice (some ⟨gx, 0, none⟩) xn cx] 32)) := (Below.refl _ _).alloc (Nat.le_refl _) _
        have hS3 := (bV3.cell (Nat.lt_of_lt_of_le hClt hd5.size)).trans hS5
        have hs5 : wt.heap.size ≤ w5.heap.size := Nat.le_trans HL.out.fr.size hd5.size
        have hown3 : (w5.alloc (.cells #[.slice (some ⟨gx, 0, none⟩) xn cx] 32)).ownsRow wt.heap.size 32 1 (.slice ua j cap) j us := (by have := (own_dn HL.out.own.2.1 HKS.out.rd.lt hd5).alloc (.cells #[.slice (some ⟨gx, 0, none⟩) xn cx] 32); rw [HL.out.len] at this; exact this)
        refine hK'.out _ _ (fun _ => hS3) ?_
        clear hK' K'
        change wpAnyX Try.prog .any _ _ _ _ 3 _ (kcActS _ _ _ _ _ _ _ _ _ _ _ _ _ _ _ _ _ _ _ _ _ _ _ _ _ _ _ _ _ _ _ _ _ _ _ _ _ _ _ _ _ _ _ _ _ _ _ _ _ _ _ _ _ _ _ _ _ _ _ _ _ _ _ _ _ _ _ _ _ _ _ _ _ _ _ _ _ _ _ _ _ _ _ _ _ _ _ _ _ _ _ (.pointer (some ⟨C, 4, none⟩)) (.slice ua j cap) (.pointer (some ⟨B, 0, none⟩)) (.int .i64 vn) (.slice (some ⟨gx, 0, none⟩) xn cx) (.slice (some ⟨w5.heap.size, 0, none⟩) 1 1) _ _ _ _ _ _ _ _ _ _ _ _ _ _ _ _ _ _ _ _ _ _ _ _ _ _ _ _ _ _ _ _ _ _ _ _ _ _ _ _ _ _ _ _ _) (w5.alloc (.cells #[.slice (some ⟨gx, 0, none⟩) xn cx] 32))
        refine wpAnyX_one (i := 6) (by kernel_rfl) rfl (fun K' hK' => ?_)
        refine k_appendR rfl _ _ rfl wt.heap.size (.slice ua j cap) us j w5.heap.size _ _ _ rfl rfl hown3 (cell_one_new _ _ _ 0 _ rfl) (by simp; omega) (by omega) ?_
        intro v6 w6 own6 grow6
        obtain ⟨ua', cap', ev6, hc6, hc6'⟩ := own_form own6
        subst ev6
        have hlow : Below wt.heap.size w5 w6 := ((Below.refl wt.heap.size w5).alloc hs5 _).grown grow6 (by simp; omega) (fun g e => (HL.out.own.2.1.lt g e).1)
        have hS6 : w6.cell? ⟨C, 4, none⟩ = some (.slice ua j cap) := (hlow.cell HKS.out.bc.lt).trans hS5
        have hF6 : w6.frozen? ⟨C, 4, none⟩ = false := (hlow.frozen HKS.out.bc.lt).trans ((frozen_dnS (hd5) HL.out.bc.lt hCB 4).trans HL.out.bc.frozen.2.2.2.2)
        refine hK'.out _ _ (fun _ => hS6) ?_
        clear hK' K'
        change wpAnyX Try.prog .any _ _ _ _ 2 _ (kcActS _ _ _ _ _ _ _ _ _ _ _ _ _ _ _ _ _ _ _ _ _ _ _ _ _ _ _ _ _ _ _ _ _ _ _ _ _ _ _ _ _ _ _ _ _ _ _ _ _ _ _ _ _ _ _ _ _ _ _ _ _ _ _ _ _ _ _ _ _ _ _ _ _ _ _ _ _ _ _ _ _ _ _ _ _ _ _ _ _ _ _ (.pointer (some ⟨C, 4, none⟩)) (.slice ua j cap) (.pointer (some ⟨B, 0, none⟩)) (.int .i64 vn) (.slice (some ⟨gx, 0, none⟩) xn cx) (.slice (some ⟨w5.heap.size, 0, none⟩) 1 1) (.slice ua' (j + 1) cap') _ _ _ _ _ _ _ _ _ _ _ _ _ _ _ _ _ _ _ _ _ _ _ _ _ _ _ _ _ _ _ _ _ _ _ _ _ _ _ _ _ _ _ _) w6
        refine wpAnyX_take (i := 7) (v := .pointer (some ⟨C, 4, none⟩)) rfl (by kernel_rfl) (by kernel_rfl) (by kernel_rfl) (by kernel_rfl) (fun _ _ _ h => h) (.inl ⟨rfl, fun w' hw' => k_field4 rfl rfl⟩) hS6 ?_
        change wpAnyX Try.prog .any _ _ _ _ 1 _ (kcActS _ _ _ _ _ _ _ _ _ _ _ _ _ _ _ _ _ _ _ _ _ _ _ _ _ _ _ _ _ _ _ _ _ _ _ _ _ _ _ _ _ _ _ _ _ _ _ _ _ _ _ _ _ _ _ _ _ _ _ _ _ _ _ _ _ _ _ _ _ _ _ _ _ _ _ _ _ _ _ _ _ _ _ _ _ _ _ _ _ _ _ (.pointer (some ⟨C, 4, none⟩)) (.slice ua j cap) (.pointer (some ⟨B, 0, none⟩)) (.int .i64 vn) (.slice (some ⟨gx, 0, none⟩) xn cx) (.slice (some ⟨w5.heap.size, 0, none⟩) 1 1) (.slice ua' (j + 1) cap') (.pointer (some ⟨C, 4, none⟩)) _ _ _ _ _ _ _ _ _ _ _ _ _ _ _ _ _ _ _ _ _ _ _ _ _ _ _ _ _ _ _ _ _ _ _ _ _ _ _ _ _ _ _) w6
        refine wpAnyX_one (i := 8) (by kernel_rfl) rfl (fun K' hK' => ?_)
        refine step_skip _ (w6.setCell ⟨C, 4, none⟩ (.slice ua' (j + 1) cap')) rfl (exec_store rfl rfl rfl (k_storeR w6 C 4 ua ua' j cap (j + 1) cap' hS6 hF6)) ?_
        refine hK'.out _ _ (fun h => by cases h) ?_
        clear hK' K'
        change wpAnyX Try.prog .any _ _ _ _ 0 _ (kcActS _ _ _ _ _ _ _ _ _ _ _ _ _ _ _ _ _ _ _ _ _ _ _ _ _ _ _ _ _ _ _ _ _ _ _ _ _ _ _ _ _ _ _ _ _ _ _ _ _ _ _ _ _ _ _ _ _ _ _ _ _ _ _ _ _ _ _ _ _ _ _ _ _ _ _ _ _ _ _ _ _ _ _ _ _ _ _ _ _ _ _ (.pointer (some ⟨C, 4, none⟩)) (.slice ua j cap) (.pointer (some ⟨B, 0, none⟩)) (.int .i64 vn) (.slice (some ⟨gx, 0, none⟩) xn cx) (.slice (some ⟨w5.heap.size, 0, none⟩) 1 1) (.slice ua' (j + 1) cap') (.pointer (some ⟨C, 4, none⟩)) _ _ _ _ _ _ _ _ _ _ _ _ _ _ _ _ _ _ _ _ _ _ _ _ _ _ _ _ _ _ _ _ _ _ _ _ _ _ _ _ _ _ _) (w6.setCell ⟨C, 4, none⟩ (.slice ua' (j + 1) cap'))
        refine wpAnyX_done (by kernel_rfl) ?_ _
        unfold kcActS
        have HL6 := Lib.hid (LR.push (r := xs) HK.out HKS.out HL.out hd5 r5 (by rw [← HXN.out]; exact o5) rfl own6 grow6)
        have HR6 : Hid (∀ r ∈ rows ++ [xs], r.length ≤ 6) := Lib.hid (fun r hr => by rcases List.mem_append.1 hr with hr | hr; (· exact HRS.out r hr); (· rw [List.mem_singleton] at hr; subst hr; rw [hx5.1]; omega))
        clear hS hS5 hS3 hS6 hF6 own6 grow6 hown3 bV3 hlow d5 r5 hd5 hs5 HL hClt hCB hx5 o5 HXN HRS
        go_wp2
        go_roundw
        case rel => exact ⟨i' - 1, j + 1, ua', cap', _, rows ++ [xs], q5, by omega, by go_num, by omega, by omega, HL6, HR6⟩
        case measure => simp [intOf]; omega
      · obtain rfl : i' = 0 := by omega
        have HXL : Hid (rows.length ≤ 20) := Lib.hid (by rw [← HL.out.own.1, HL.out.len]; omega)
        have HKS2 := Lib.hid (LR.ks HK.out HKS.out HL.out)
        obtain ⟨p0, p1, p2, p3, p4⟩ := HKS2.out.bc.cell
        obtain ⟨g0, g1, g2, g3, g4⟩ := HKS2.out.bc.frozen
        obtain ⟨o0, o1, o2, o3, o4⟩ := HKS2.out.br.cell
        obtain ⟨f0, f1, f2, f3, f4⟩ := HKS2.out.br.frozen
        clear HL
        go_wp2
        have hq := (putR_blk HKS2.out.br (.int .i64 5) (.slice (some ⟨gv, 0, none⟩) vn vc) (.slice none 0 0) (.int .i64 0) (.slice ua j cap)).cell
        simp only [putR] at hq
        obtain ⟨q0, q1, q2, q3, q4⟩ := hq
        refine bodyPost_ret (v := .agg #[.int .i64 5, .slice (some ⟨gv, 0, none⟩) vn vc, .slice none 0 0, .int .i64 0, .slice ua j cap]) (by simp [results, Try.results128, go_sem, q0, q1, q2, q3, q4]) rfl ?_
        exact conDn_fin (c := ⟨5, vars, [], 0, rows⟩) HK.out HKS2.out (by show 1 ≤ vars.length; rw [← HVN.out]; exact hv1) ⟨by show vars.length ≤ 20; rw [← HVN.out]; omega, by simp, rowsLe_of HXL.out (fun r hr => Nat.le_trans (HRS.out r hr) (by omega))⟩ (by have := HPQ.out; omega) (by have := HPQ.out; omega) (by first | exact nilOk_nil | exact nilOk_some _ _ _ _ | exact HNO.out)
  · skip
    go_wp2_with (rw [HWK.out])
    obtain ⟨C, hC⟩ : ∃ C, C = w4.heap.size := ⟨_, rfl⟩
    rw [← hC] at HKS HK ⊢
    clear hC HWK
    clear p0 p1 p2 p3 p4' g0 g1 g2 g3 g4 o0 o1 o2 o3 o4 f0 f1 f2 f3 f4
    refine (pick_dn n0 B p4 6 Wk HKS.out.rd (by omega) (by omega) (by omega)).mono ?_
    rintro e wt ⟨b, rfl, hb0, hb1, rt, dt⟩
    obtain ⟨b, rfl⟩ := Int.eq_ofNat_of_zero_le hb0
    have hb5 : b ≤ 5 := by omega
    have HKT := Lib.hid (HKS.out.dnStep HK.out dt rt)
    clear HKS
    have HKS := HKT
    obtain ⟨Wq, hWq⟩ : ∃ Wq, Wq = Wk := ⟨_, rfl⟩
    clear HKT rt dt hb0 hb1 hWq Wq
    have hb1' : (1 : Int) + (b : Int) = ((b + 1 : Nat) : Int) := by omega
    have HB1 := Lib.hid hb1'
    clear hb1'
    go_wp2_with fail
    rw [HB1.out]
    obtain ⟨b', hb'⟩ : ∃ b', b' = b + 1 := ⟨_, rfl⟩
    rw [← hb']
    have hb6 : b' ≤ 6 := by omega
    clear HB1 hb'
    go_loopw [8] (fun i wr => ∃ (i' j : Nat) (ua : Option Addr) (cap : Nat) (us : List Value) (rows : List (List Int)) (q : Int), i' + j ≤ 6 ∧ i = .int .i64 i' ∧ p4 ≤ q ∧ q ≤ p4 + 1 + 5 * j ∧ Hid (LR Q0 n0 B R C w wt wr q ⟨5, vars, [], 0, []⟩ (.slice (some ⟨gv, 0, none⟩) vn vc) (.slice none 0 0) ua j cap us rows) ∧ Hid (∀ r ∈ rows, r.length ≤ 6)) (fun i _ => (intOf i).toNat)
    case atStart => exact ⟨b', 0, none, 0, [], [], p4 + 1, by omega, rfl, by omega, by omega, Lib.hid (LR.start HKS.out), Lib.hid (fun r hr => by cases hr)⟩
    case round =>
      obtain ⟨i', j, ua, cap, us, rows, q, hij, rfl, hq, hq2, HL, HRS⟩ := hrel
      by_cases hiv : 0 < i'
      · have hS : wr.drew.cell? ⟨C, 4, none⟩ = some (.slice ua j cap) := HL.out.bc.cell.2.2.2.2
        have hClt : C < wr.drew.heap.size := HL.out.bc.lt
        have hCB : C ≠ B := by have := HK.out.hC; have := HK.out.hB; omega
        have HX := Lib.hid (And.intro hClt hCB)
        clear hClt hCB
        go_wp2_with fail
        obtain ⟨hClt, hCB⟩ := HX.out
        refine region_x (fun w' => w'.cell? ⟨C, 4, none⟩ = some (.slice ua j cap)) (fun i => i == 8) rfl ?_
        change wpAnyX Try.prog .any _ _ _ _ 9 _ (kcActS _ _ _ _ _ _ _ _ _ _ _ _ _ _ _ _ _ _ _ _ _ _ _ _ _ _ _ _ _ _ _ _ _ _ _ _ _ _ _ _ _ _ _ _ _ _ _ _ _ _ _ _ _ _ _ _ _ _ _ _ _ _ _ _ _ _ _ _ _ _ _ _ _ _ _ _ _ _ _ _ _ _ _ _ _ _ _ _ _ _ _ _ _ _ _ _ _ _ _ _ _ _ _ _ _ _ _ _ _ _ _ _ _ _ _ _ _ _ _ _ _ _ _ _ _ _ _ _ _ _ _ _ _ _ _ _ _ _ _ _ _ _) wr.drew
        refine wpAnyX_take (i := 0) (v := .pointer (some ⟨C, 4, none⟩)) rfl (by kernel_rfl) (by kernel_rfl) (by kernel_rfl) (by kernel_rfl) (fun _ _ _ h => h) (.inl ⟨rfl, fun w' hw' => k_field4 rfl rfl⟩) hS ?_
        change wpAnyX Try.prog .any _ _ _ _ 8 _ (kcActS _ _ _ _ _ _ _ _ _ _ _ _ _ _ _ _ _ _ _ _ _ _ _ _ _ _ _ _ _ _ _ _ _ _ _ _ _ _ _ _ _ _ _ _ _ _ _ _ _ _ _ _ _ _ _ _ _ _ _ _ _ _ _ _ _ _ _ _ _ _ _ _ _ _ _ _ _ _ _ _ _ _ _ _ _ _ _ _ _ _ _ (.pointer (some ⟨C, 4, none⟩)) _ _ _ _ _ _ _ _ _ _ _ _ _ _ _ _ _ _ _ _ _ _ _ _ _ _ _ _ _ _ _ _ _ _ _ _ _ _ _ _ _ _ _ _ _ _ _ _ _ _) wr.drew
        refine wpAnyX_take (i := 1) (v := .slice ua j cap) rfl (by kernel_rfl) (by kernel_rfl) (by kernel_rfl) (by kernel_rfl) (fun _ _ _ h => h) (.inl ⟨rfl, fun w' hw' => exec_load rfl rfl (k_loadR w' _ _ _ _ _ hw')⟩) hS ?_
        change wpAnyX Try.prog .any _ _ _ _ 7 _ (kcActS _ _ _ _ _ _ _ _ _ _ _ _ _ _ _ _ _ _ _ _ _ _ _ _ _ _ _ _ _ _ _ _ _ _ _ _ _ _ _ _ _ _ _ _ _ _ _ _ _ _ _ _ _ _ _ _ _ _ _ _ _ _ _ _ _ _ _ _ _ _ _ _ _ _ _ _ _ _ _ _ _ _ _ _ _ _ _ _ _ _ _ (.pointer (some ⟨C, 4, none⟩)) (.slice ua j cap) _ _ _ _ _ _ _ _ _ _ _ _ _ _ _ _ _ _ _ _ _ _ _ _ _ _ _ _ _ _ _ _ _ _ _ _ _ _ _ _ _ _ _ _ _ _ _ _ _) wr.drew
        refine wpAnyX_take (i := 2) (v := .pointer (some ⟨B, 0, none⟩)) rfl (by kernel_rfl) (by kernel_rfl) (by kernel_rfl) (by kernel_rfl) (fun _ _ _ h => h) (.inl ⟨rfl, fun w' hw' => rfl⟩) hS ?_
        change wpAnyX Try.prog .any _ _ _ _ 6 _ (kcActS _ _ _ _ _ _ _ _ _ _ _ _ _ _ _ _ _ _ _ _ _ _ _ _ _ _ _ _ _ _ _ _ _ _ _ _ _ _ _ _ _ _ _ _ _ _ _ _ _ _ _ _ _ _ _ _ _ _ _ _ _ _ _ _ _ _ _ _ _ _ _ _ _ _ _ _ _ _ _ _ _ _ _ _ _ _ _ _ _ _ _ (.pointer (some ⟨C, 4, none⟩)) (.slice ua j cap) (.pointer (some ⟨B, 0, none⟩)) _ _ _ _ _ _ _ _ _ _ _ _ _ _ _ _ _ _ _ _ _ _ _ _ _ _ _ _ _ _ _ _ _ _ _ _ _ _ _ _ _ _ _ _ _ _ _ _) wr.drew
        refine wpAnyX_take (i := 3) (v := .int .i64 vn) rfl (by kernel_rfl) (by kernel_rfl) (by kernel_rfl) (by kernel_rfl) (fun _ _ _ h => h) (.inl ⟨rfl, fun w' hw' => rfl⟩) hS ?_
        change wpAnyX Try.prog .any _ _ _ _ 5 _ (kcActS _ _ _ _ _ _ _ _ _ _ _ _ _ _ _ _ _ _ _ _ _ _ _ _ _ _ _ _ _ _ _ _ _ _ _ _ _ _ _ _ _ _ _ _ _ _ _ _ _ _ _ _ _ _ _ _ _ _ _ _ _ _ _ _ _ _ _ _ _ _ _ _ _ _ _ _ _ _ _ _ _ _ _ _ _ _ _ _ _ _ _ (.pointer (some ⟨C, 4, none⟩)) (.slice ua j cap) (.pointer (some ⟨B, 0, none⟩)) (.int .i64 vn) _ _ _ _ _ _ _ _ _ _ _ _ _ _ _ _ _ _ _ _ _ _ _ _ _ _ _ _ _ _ _ _ _ _ _ _ _ _ _ _ _ _ _ _ _ _ _) wr.drew
        refine wpAnyX_one (i := 4) (by kernel_rfl) rfl (fun K' hK' => ?_)
        refine k_call2 _ rfl 163 _ _ _ _ _ rfl rfl rfl (enters_of Try.func163 (by kernel_rfl) rfl) _ (randomRow_some n0 B vn q wr.drew (HL.out.rd.drewN 1) (by omega) (by omega) (by omega)) (fun c w' h => by obtain ⟨_, _, _, h, _⟩ := h; cases h) (fun w' h => by obtain ⟨_, _, _, h, _⟩ := h; cases h) ?_
        rintro vz w5 ⟨v5, xs, q5, ev, hx5, o5, hq5, hq5', r5, d5, gx, cx, e5⟩
        obtain rfl : vz = v5 := by injection ev
        subst e5
        obtain ⟨xn, hxn⟩ : ∃ xn, xn = xs.length := ⟨_, rfl⟩
        rw [← hxn] at o5 ⊢
        have HXN := Lib.hid hxn
        clear hxn ev
        have hd5 : Dn B wr w5 := (Dn.of_below (Below.refl _ wr).drew).trans d5
        have hS5 : w5.cell? ⟨C, 4, none⟩ = some (.slice ua j cap) := (wo_cell_same (d5.block C hClt hCB)).trans hS
        refine hK'.out _ _ (fun _ => hS5) ?_
        clear hK' K'
        change wpAnyX Try.prog .any _ _ _ _ 4 _ (kcActS _ _ _ _ _ _ _ _ _ _ _ _ _ _ _ _ _ _ _ _ _ _ _ _ _ _ _ _ _ _ _ _ _ _ _ _ _ _ _ _ _ _ _ _ _ _ _ _ _ _ _ _ _ _ _ _ _ _ _ _ _ _ _ _ _ _ _ _ _ _ _ _ _ _ _ _ _ _ _ _ _ _ _ _ _ _ _ _ _ _ _ (.pointer (some ⟨C, 4, none⟩)) (.slice ua j cap) (.pointer (some ⟨B, 0, none⟩)) (.int .i64 vn) (.slice (some ⟨gx, 0, none⟩) xn cx) _ _ _ _ _ _ _ _ _ _ _ _ _ _ _ _ _ _ _ _ _ _ _ _ _ _ _ _ _ _ _ _ _ _ _ _ _ _ _ _ _ _ _ _ _ _) w5
        refine wpAnyX_one (i := 5) (by kernel_rfl) rfl (fun K' hK' => ?_)
        refine step_value _ (w5.alloc (.cells #[.slice (some ⟨gx, 0, none⟩) xn cx] 32)) rfl _ (k_exec1 rfl rfl (k_build1R w5 _ _ _)) ?_
        have bV3 : Below w5.heap.size w5 (w5.alloc (.cells #[.slice (some ⟨gx, 0, none⟩) xn cx] 32)) := (Below.refl _ _).alloc (Nat.le_refl _) _
        have hS3 := (bV3.cell (Nat.lt_of_lt_of_le hClt hd5.size)).trans hS5
        have hs5 : wt.heap.size ≤ w5.heap.size := Nat.le_trans HL.out.fr.size hd5.size
        have hown3 : (w5.alloc (.cells #[.slice (some ⟨gx, 0, none⟩) xn cx] 32)).ownsRow wt.heap.size 32 1 (.slice ua j cap) j us := (by have := (own_dn HL.out.own.2.1 HKS.out.rd.lt hd5).alloc (.cells #[.slice (some ⟨gx, 0, none⟩) xn cx] 32); rw [HL.out.len] at this; exact this)
        refine hK'.out _ _ (fun _ => hS3) ?_
        clear hK' K'
        change wpAnyX Try.prog .any _ _ _ _ 3 _ (kcActS _ _ _ _ _ _ _ _ _ _ _ _ _ _ _ _ _ _ _ _ _ _ _ _ _ _ _ _ _ _ _ _ _ _ _ _ _ _ _ _ _ _ _ _ _ _ _ _ _ _ _ _ _ _ _ _ _ _ _ _ _ _ _ _ _ _ _ _ _ _ _ _ _ _ _ _ _ _ _ _ _ _ _ _ _ _ _ _ _ _ _ (.pointer (some ⟨C, 4, none⟩)) (.slice ua j cap) (.pointer (some ⟨B, 0, none⟩)) (.int .i64 vn) (.slice (some ⟨gx, 0, none⟩) xn cx) (.slice (some ⟨w5.heap.size, 0, none⟩) 1 1) _ _ _ _ _ _ _ _ _ _ _ _ _ _ _ _ _ _ _ _ _ _ _ _ _ _ _ _ _ _ _ _ _ _ _ _ _ _ _ _ _ _ _ _ _) (w5.alloc (.cells #[.slice (some ⟨gx, 0, none⟩) xn cx] 32))
        refine wpAnyX_one (i := 6) (by kernel_rfl) rfl (fun K' hK' => ?_)
        refine k_appendR rfl _ _ rfl wt.heap.size (.slice ua j cap) us j w5.heap.size _ _ _ rfl rfl hown3 (cell_one_new _ _ _ 0 _ rfl) (by simp; omega) (by omega) ?_
        intro v6 w6 own6 grow6
        obtain ⟨ua', cap', ev6, hc6, hc6'⟩ := own_form own6
        subst ev6
        have hlow : Below wt.heap.size w5 w6 := ((Below.refl wt.heap.size w5).alloc hs5 _).grown grow6 (by simp; omega) (fun g e => (HL.out.own.2.1.lt g e).1)
        have hS6 : w6.cell? ⟨C, 4, none⟩ = some (.slice ua j cap) := (hlow.cell HKS.out.bc.lt).trans hS5
        have hF6 : w6.frozen? ⟨C, 4, none⟩ = false := (hlow.frozen HKS.out.bc.lt).trans ((frozen_dnS (hd5) HL.out.bc.lt hCB 4).trans HL.out.bc.frozen.2.2.2.2)
        refine hK'.out _ _ (fun _ => hS6) ?_
        clear hK' K'
        change wpAnyX Try.prog .any _ _ _ _ 2 _ (kcActS _ _ _ _ _ _ _ _ _ _ _ _ _ _ _ _ _ _ _ _ _ _ _ _ _ _ _ _ _ _ _ _ _ _ _ _ _ _ _ _ _ _ _ _ _ _ _ _ _ _ _ _ _ _ _ _ _ _ _ _ _ _ _ _ _ _ _ _ _ _ _ _ _ _ _ _ _ _ _ _ _ _ _ _ _ _ _ _ _ _ _ (.pointer (some ⟨C, 4, none⟩)) (.slice ua j cap) (.pointer (some ⟨B, 0, none⟩)) (.int .i64 vn) (.slice (some ⟨gx, 0, none⟩) xn cx) (.slice (some ⟨w5.heap.size, 0, none⟩) 1 1) (.slice ua' (j + 1) cap') _ _ _ _ _ _ _ _ _ _ _ _ _ _ _ _ _ _ _ _ _ _ _ _ _ _ _ _ _ _ _ _ _ _ _ _ _ _ _ _ _ _ _ _) w6
        refine wpAnyX_take (i := 7) (v := .pointer (some ⟨C, 4, none⟩)) rfl (by kernel_rfl) (by kernel_rfl) (by kernel_rfl) (by kernel_rfl) (fun _ _ _ h => h) (.inl ⟨rfl, fun w' hw' => k_field4 rfl rfl⟩) hS6 ?_
        change wpAnyX Try.prog .any _ _ _ _ 1 _ (kcActS _ _ _ _ _ _ _ _ _ _ _ _ _ _ _ _ _ _ _ _ _ _ _ _ _ _ _ _ _ _ _ _ _ _ _ _ _ _ _ _ _ _ _ _ _ _ _ _ _ _ _ _ _ _ _ _ _ _ _ _ _ _ _ _ _ _ _ _ _ _ _ _ _ _ _ _ _ _ _ _ _ _ _ _ _ _ _ _ _ _ _ (.pointer (some ⟨C, 4, none⟩)) (.slice ua j cap) (.pointer (some ⟨B, 0, none⟩)) (.int .i64 vn) (.slice (some ⟨gx, 0, none⟩) xn cx) (.slice (some ⟨w5.heap.size, 0, none⟩) 1 1) (.slice ua' (j + 1) cap') (.pointer (some ⟨C, 4, none⟩)) _ _ _ _ _ _ _ _ _ _ _ _ _ _ _ _ _ _ _ _ _ _ _ _ _ _ _ _ _ _ _ _ _ _ _ _ _ _ _ _ _ _ _) w6
        refine wpAnyX_one (i := 8) (by kernel_rfl) rfl (fun K' hK' => ?_)
        refine step_skip _ (w6.setCell ⟨C, 4, none⟩ (.slice ua' (j + 1) cap')) rfl (exec_store rfl rfl rfl (k_storeR w6 C 4 ua ua' j cap (j + 1) cap' hS6 hF6)) ?_
        refine hK'.out _ _ (fun h => by cases h) ?_
        clear hK' K'
        change wpAnyX Try.prog .any _ _ _ _ 0 _ (kcActS _ _ _ _ _ _ _ _ _ _ _ _ _ _ _ _ _ _ _ _ _ _ _ _ _ _ _ _ _ _ _ _ _ _ _ _ _ _ _ _ _ _ _ _ _ _ _ _ _ _ _ _ _ _ _ _ _ _ _ _ _ _ _ _ _ _ _ _ _ _ _ _ _ _ _ _ _ _ _ _ _ _ _ _ _ _ _ _ _ _ _ (.pointer (some ⟨C, 4, none⟩)) (.slice ua j cap) (.pointer (some ⟨B, 0, none⟩)) (.int .i64 vn) (.slice (some ⟨gx, 0, none⟩) xn cx) (.slice (some ⟨w5.heap.size, 0, none⟩) 1 1) (.slice ua' (j + 1) cap') (.pointer (some ⟨C, 4, none⟩)) _ _ _ _ _ _ _ _ _ _ _ _ _ _ _ _ _ _ _ _ _ _ _ _ _ _ _ _ _ _ _ _ _ _ _ _ _ _ _ _ _ _ _) (w6.setCell ⟨C, 4, none⟩ (.slice ua' (j + 1) cap'))
        refine wpAnyX_done (by kernel_rfl) ?_ _
        unfold kcActS
        have HL6 := Lib.hid (LR.push (r := xs) HK.out HKS.out HL.out hd5 r5 (by rw [← HXN.out]; exact o5) rfl own6 grow6)
        have HR6 : Hid (∀ r ∈ rows ++ [xs], r.length ≤ 6) := Lib.hid (fun r hr => by rcases List.mem_append.1 hr with hr | hr; (· exact HRS.out r hr); (· rw [List.mem_singleton] at hr; subst hr; rw [hx5.1]; omega))
        clear hS hS5 hS3 hS6 hF6 own6 grow6 hown3 bV3 hlow d5 r5 hd5 hs5 HL hClt hCB hx5 o5 HXN HRS
        go_wp2
        go_roundw
        case rel => exact ⟨i' - 1, j + 1, ua', cap', _, rows ++ [xs], q5, by omega, by go_num, by omega, by omega, HL6, HR6⟩
        case measure => simp [intOf]; omega
      · obtain rfl : i' = 0 := by omega
        have HXL : Hid (rows.length ≤ 20) := Lib.hid (by rw [← HL.out.own.1, HL.out.len]; omega)
        have HKS2 := Lib.hid (LR.ks HK.out HKS.out HL.out)
        obtain ⟨p0, p1, p2, p3, p4⟩ := HKS2.out.bc.cell
        obtain ⟨g0, g1, g2, g3, g4⟩ := HKS2.out.bc.frozen
        obtain ⟨o0, o1, o2, o3, o4⟩ := HKS2.out.br.cell
        obtain ⟨f0, f1, f2, f3, f4⟩ := HKS2.out.br.frozen
        clear HL
        go_wp2
        have hq := (putR_blk HKS2.out.br (.int .i64 5) (.slice (some ⟨gv, 0, none⟩) vn vc) (.slice none 0 0) (.int .i64 0) (.slice ua j cap)).cell
        simp only [putR] at hq
        obtain ⟨q0, q1, q2, q3, q4⟩ := hq
        refine bodyPost_ret (v := .agg #[.int .i64 5, .slice (some ⟨gv, 0, none⟩) vn vc, .slice none 0 0, .int .i64 0, .slice ua j cap]) (by simp [results, Try.results128, go_sem, q0, q1, q2, q3, q4]) rfl ?_
        exact conDn_fin (c := ⟨5, vars, [], 0, rows⟩) HK.out HKS2.out (by show 1 ≤ vars.length; rw [← HVN.out]; exact hv1) ⟨by show vars.length ≤ 20; rw [← HVN.out]; omega, by simp, rowsLe_of HXL.out (fun r hr => Nat.le_trans (HRS.out r hr) (by omega))⟩ (by have := HPQ.out; omega) (by have := HPQ.out; omega) (by first | exact nilOk_nil | exact nilOk_some _ _ _ _ | exact HNO.out)
  · skip
    go_wp2_with (rw [HWK.out])
    obtain ⟨C, hC⟩ : ∃ C, C = w4.heap.size := ⟨_, rfl⟩
    rw [← hC] at HKS HK ⊢
    clear hC HWK
    clear p0 p1 p2 p3 p4' g0 g1 g2 g3 g4 o0 o1 o2 o3 o4 f0 f1 f2 f3 f4
    refine (pick_dn n0 B p4 6 Wk HKS.out.rd (by omega) (by omega) (by omega)).mono ?_
    rintro e w7 ⟨b, rfl, hb0, hb1, r7, d7⟩
    have hb2 : b ≤ 10 := by omega
    clear hb1
    have HKS7 := Lib.hid (HKS.out.dnStep HK.out d7 r7)
    clear r7 d7 HKS
    have bV8 : Below w7.heap.size w7 (w7.alloc (.cells #[.int .i64 b] 3)) := (Below.refl _ _).alloc (Nat.le_refl _) _
    have HKS8 := Lib.hid (HKS7.out.below HK.out bV8)
    have hnV8 : (w7.alloc (.cells #[.int .i64 b] 3)).ownsRow w7.heap.size 3 1 (.slice (some ⟨w7.heap.size, 0, none⟩) 1 1) 1 [.int .i64 b] := own_one1 w7 _ _
    obtain ⟨V8, hV8⟩ : ∃ V8, w7.alloc (.cells #[.int .i64 b] 3) = V8 := ⟨_, rfl⟩
    rw [hV8] at HKS8 hnV8
    have HV8 := Lib.hid hV8
    clear hV8 bV8
    have hrV8 : RdInts (av (qs Q0 R C) V8) (.slice (some ⟨w7.heap.size, 0, none⟩) 1 1) [b] := rdInts_of_own (xs := [b]) (own_av hnV8 (fun b hb => qs_no (HK.out.hQ0 _ (by have := HKS7.out.dn.size; omega)) (by have := HKS7.out.br.lt; omega) (by have := HKS7.out.bc.lt; omega)))
    clear hnV8
    have HKS9 := Lib.hid (HKS8.out.setArgs HK.out hrV8)
    obtain ⟨W9, hW9⟩ : ∃ W9, V8.setCell ⟨C, 2, none⟩ (.slice (some ⟨w7.heap.size, 0, none⟩) 1 1) = W9 := ⟨_, rfl⟩
    rw [hW9] at HKS9
    have HW9 := Lib.hid hW9
    clear hW9
    have yb := HKS8.out.bc.cell.2.2.1
    have zb := HKS8.out.bc.frozen.2.2.1
    clear hrV8 HKS7
    go_wp2_with (first | rw [HV8.out] | rw [HW9.out])
    clear yb zb
    refine (pick_dn n0 B (p4 + 1) 4 W9 HKS9.out.rd (by omega) (by omega) (by omega)).mono ?_
    rintro e w10 ⟨d, rfl, hd0, hd1, r10, d10⟩
    have hd2 : d ≤ 10 := by omega
    clear hd1
    have HKS10 := Lib.hid (HKS9.out.dnStep HK.out d10 r10)
    clear r10 d10 HKS9 HKS8
    have HKS11 := Lib.hid (HKS10.out.bound HK.out d)
    obtain ⟨W11, hW11⟩ : ∃ W11, w10.setCell ⟨C, 3, none⟩ (.int .i64 d) = W11 := ⟨_, rfl⟩
    rw [hW11] at HKS11
    have HW11 := Lib.hid hW11
    clear hW11
    have yc := HKS10.out.bc.cell.2.2.2.1
    have zc := HKS10.out.bc.frozen.2.2.2.1
    obtain ⟨p0, p1, p2, p3, p4⟩ := HKS11.out.bc.cell
    obtain ⟨g0, g1, g2, g3, g4⟩ := HKS11.out.bc.frozen
    obtain ⟨o0, o1, o2, o3, o4⟩ := HKS11.out.br.cell
    obtain ⟨f0, f1, f2, f3, f4⟩ := HKS11.out.br.frozen
    go_wp2_with (rw [HW11.out])
    have hq := (putR_blk HKS11.out.br (.int .i64 6) (.slice (some ⟨gv, 0, none⟩) vn vc) (.slice (some ⟨w7.heap.size, 0, none⟩) 1 1) (.int .i64 d) (.slice none 0 0)).cell
    simp only [putR] at hq
    obtain ⟨q0, q1, q2, q3, q4⟩ := hq
    refine bodyPost_ret (v := .agg #[.int .i64 6, .slice (some ⟨gv, 0, none⟩) vn vc, .slice (some ⟨w7.heap.size, 0, none⟩) 1 1, .int .i64 d, .slice none 0 0]) (by simp [results, Try.results128, go_sem, q0, q1, q2, q3, q4]) rfl ?_
    exact conDn_fin (c := ⟨6, vars, [b], d, []⟩) HK.out HKS11.out (by show 1 ≤ vars.length; rw [← HVN.out]; exact hv1) ⟨by show vars.length ≤ 20; rw [← HVN.out]; omega, by simp, rowsLe_of (by simp) (fun r hr => by cases hr)⟩ (by have := HPQ.out; omega) (by have := HPQ.out; omega) (by first | exact nilOk_nil | exact nilOk_some _ _ _ _ | exact HNO.out)
  · skip
    go_wp2_with (rw [HWK.out])
    obtain ⟨C, hC⟩ : ∃ C, C = w4.heap.size := ⟨_, rfl⟩
    rw [← hC] at HKS HK ⊢
    clear hC HWK
    clear p0 p1 p2 p3 p4' g0 g1 g2 g3 g4 o0 o1 o2 o3 o4 f0 f1 f2 f3 f4
    go_loopw [9] (fun i wr => ∃ (j : Nat) (ua : Option Addr) (cap : Nat) (xs : List Int) (q : Int), j ≤ 2 * vn ∧ i = .int .i64 j ∧ p4 ≤ q ∧ q ≤ p4 + j ∧ Hid (LI Q0 n0 B R C w Wk wr q ⟨7, vars, [], 0, []⟩ (.slice (some ⟨gv, 0, none⟩) vn vc) (.slice none 0 0) ua j cap xs)) (fun i _ => 2 * vn - (intOf i).toNat)
    case atStart => exact ⟨0, none, 0, [], p4, Nat.zero_le _, rfl, by omega, by omega, Lib.hid (LI.start HKS.out)⟩
    case round =>
      obtain ⟨j, ua, cap, xs, q, hj, rfl, hq, hq2, HL⟩ := hrel
      by_cases hjv : j < 2 * vn
      · have hS : wr.drew.cell? ⟨C, 2, none⟩ = some (.slice ua j cap) := HL.out.bc.cell.2.2.1
        have hClt : C < wr.drew.heap.size := HL.out.bc.lt
        have hCB : C ≠ B := by have := HK.out.hC; have := HK.out.hB; omega
        have HX := Lib.hid (And.intro hClt hCB)
        clear hClt hCB
        have hj30 : j ≤ 30 := by omega
        go_wp2_with fail
        obtain ⟨hClt, hCB⟩ := HX.out
        refine region_x (fun w' => w'.cell? ⟨C, 2, none⟩ = some (.slice ua j cap)) (fun i => i == 7) rfl ?_
        change wpAnyX Try.prog .any _ _ _ _ 8 _ (kcActS _ _ _ _ _ _ _ _ _ _ _ _ _ _ _ _ _ _ _ _ _ _ _ _ _ _ _ _ _ _ _ _ _ _ _ _ _ _ _ _ _ _ _ _ _ _ _ _ _ _ _ _ _ _ _ _ _ _ _ _ _ _ _ _ _ _ _ _ _ _ _ _ _ _ _ _ _ _ _ _ _ _ _ _ _ _ _ _ _ _ _ _ _ _ _ _ _ _ _ _ _ _ _ _ _ _ _ _ _ _ _ _ _ _ _ _ _ _ _ _ _ _ _ _ _ _ _ _ _ _ _ _ _ _ _ _ _ _ _ _ _ _) wr.drew
        refine wpAnyX_take (i := 0) (v := .pointer (some ⟨C, 2, none⟩)) rfl (by kernel_rfl) (by kernel_rfl) (by kernel_rfl) (by kernel_rfl) (fun _ _ _ h => h) (.inl ⟨rfl, fun w' hw' => k_field2 rfl rfl⟩) hS ?_
        change wpAnyX Try.prog .any _ _ _ _ 7 _ (kcActS _ _ _ _ _ _ _ _ _ _ _ _ _ _ _ _ _ _ _ _ _ _ _ _ _ _ _ _ _ _ _ _ _ _ _ _ _ _ _ _ _ _ _ _ _ _ _ _ _ _ _ _ _ _ _ _ _ _ _ _ _ _ _ _ _ _ _ _ _ _ _ _ _ _ _ _ _ _ _ _ _ _ _ _ _ _ _ _ _ _ _ _ _ _ _ _ _ _ _ _ _ _ _ _ _ _ _ _ _ _ _ _ _ _ _ _ (.pointer (some ⟨C, 2, none⟩)) _ _ _ _ _ _ _ _ _ _ _ _ _ _ _ _ _ _ _ _ _ _ _ _ _) wr.drew
        refine wpAnyX_take (i := 1) (v := .slice ua j cap) rfl (by kernel_rfl) (by kernel_rfl) (by kernel_rfl) (by kernel_rfl) (fun _ _ _ h => h) (.inl ⟨rfl, fun w' hw' => exec_load rfl rfl (k_loadI w' _ _ _ _ _ hw')⟩) hS ?_
        change wpAnyX Try.prog .any _ _ _ _ 6 _ (kcActS _ _ _ _ _ _ _ _ _ _ _ _ _ _ _ _ _ _ _ _ _ _ _ _ _ _ _ _ _ _ _ _ _ _ _ _ _ _ _ _ _ _ _ _ _ _ _ _ _ _ _ _ _ _ _ _ _ _ _ _ _ _ _ _ _ _ _ _ _ _ _ _ _ _ _ _ _ _ _ _ _ _ _ _ _ _ _ _ _ _ _ _ _ _ _ _ _ _ _ _ _ _ _ _ _ _ _ _ _ _ _ _ _ _ _ _ (.pointer (some ⟨C, 2, none⟩)) (.slice ua j cap) _ _ _ _ _ _ _ _ _ _ _ _ _ _ _ _ _ _ _ _ _ _ _ _) wr.drew
        refine wpAnyX_take (i := 2) (v := .pointer (some ⟨B, 0, none⟩)) rfl (by kernel_rfl) (by kernel_rfl) (by kernel_rfl) (by kernel_rfl) (fun _ _ _ h => h) (.inl ⟨rfl, fun w' hw' => rfl⟩) hS ?_
        change wpAnyX Try.prog .any _ _ _ _ 5 _ (kcActS _ _ _ _ _ _ _ _ _ _ _ _ _ _ _ _ _ _ _ _ _ _ _ _ _ _ _ _ _ _ _ _ _ _ _ _ _ _ _ _ _ _ _ _ _ _ _ _ _ _ _ _ _ _ _ _ _ _ _ _ _ _ _ _ _ _ _ _ _ _ _ _ _ _ _ _ _ _ _ _ _ _ _ _ _ _ _ _ _ _ _ _ _ _ _ _ _ _ _ _ _ _ _ _ _ _ _ _ _ _ _ _ _ _ _ _ (.pointer (some ⟨C, 2, none⟩)) (.slice ua j cap) (.pointer (some ⟨B, 0, none⟩)) _ _ _ _ _ _ _ _ _ _ _ _ _ _ _ _ _ _ _ _ _ _ _) wr.drew
        refine wpAnyX_one (i := 3) (by kernel_rfl) rfl (fun K' hK' => ?_)
        refine k_call2 _ rfl 125 _ _ _ _ _ rfl rfl rfl (enters_of Try.func125 (by kernel_rfl) rfl) _ (pick_dn n0 B q 4 wr.drew (HL.out.rd.drewN 1) (by omega) (by omega) (by omega)) (fun c w' h => by obtain ⟨_, h, _⟩ := h; cases h) (fun w' h => by obtain ⟨_, h, _⟩ := h; cases h) ?_
        rintro vz w5 ⟨z, ev, hz0, hz1, r5, d5⟩
        obtain rfl : vz = .int .i64 z := by injection ev
        have hd5 : Dn B wr w5 := (Dn.of_below (Below.refl _ wr).drew).trans d5
        have hS5 : w5.cell? ⟨C, 2, none⟩ = some (.slice ua j cap) := (wo_cell_same (d5.block C hClt hCB)).trans hS
        refine hK'.out _ _ (fun _ => hS5) ?_
        clear hK' K'
        change wpAnyX Try.prog .any _ _ _ _ 4 _ (kcActS _ _ _ _ _ _ _ _ _ _ _ _ _ _ _ _ _ _ _ _ _ _ _ _ _ _ _ _ _ _ _ _ _ _ _ _ _ _ _ _ _ _ _ _ _ _ _ _ _ _ _ _ _ _ _ _ _ _ _ _ _ _ _ _ _ _ _ _ _ _ _ _ _ _ _ _ _ _ _ _ _ _ _ _ _ _ _ _ _ _ _ _ _ _ _ _ _ _ _ _ _ _ _ _ _ _ _ _ _ _ _ _ _ _ _ _ (.pointer (some ⟨C, 2, none⟩)) (.slice ua j cap) (.pointer (some ⟨B, 0, none⟩)) (.int .i64 z) _ _ _ _ _ _ _ _ _ _ _ _ _ _ _ _ _ _ _ _ _ _) w5
        refine wpAnyX_one (i := 4) (by kernel_rfl) rfl (fun K' hK' => ?_)
        refine step_value _ (w5.alloc (.cells #[.int .i64 z] 3)) rfl _ (k_exec1 rfl rfl (k_build1 w5 _)) ?_
        have bV3 : Below w5.heap.size w5 (w5.alloc (.cells #[.int .i64 z] 3)) := (Below.refl _ _).alloc (Nat.le_refl _) _
        have hS3 := (bV3.cell (Nat.lt_of_lt_of_le hClt hd5.size)).trans hS5
        have hs5 : Wk.heap.size ≤ w5.heap.size := Nat.le_trans HL.out.fr.size hd5.size
        have hown3 : (w5.alloc (.cells #[.int .i64 z] 3)).ownsRow Wk.heap.size 3 1 (.slice ua j cap) j (xs.map (Value.int .i64)) := (own_dn HL.out.own HKS.out.rd.lt hd5).alloc _
        refine hK'.out _ _ (fun _ => hS3) ?_
        clear hK' K'
        change wpAnyX Try.prog .any _ _ _ _ 3 _ (kcActS _ _ _ _ _ _ _ _ _ _ _ _ _ _ _ _ _ _ _ _ _ _ _ _ _ _ _ _ _ _ _ _ _ _ _ _ _ _ _ _ _ _ _ _ _ _ _ _ _ _ _ _ _ _ _ _ _ _ _ _ _ _ _ _ _ _ _ _ _ _ _ _ _ _ _ _ _ _ _ _ _ _ _ _ _ _ _ _ _ _ _ _ _ _ _ _ _ _ _ _ _ _ _ _ _ _ _ _ _ _ _ _ _ _ _ _ (.pointer (some ⟨C, 2, none⟩)) (.slice ua j cap) (.pointer (some ⟨B, 0, none⟩)) (.int .i64 z) (.slice (some ⟨w5.heap.size, 0, none⟩) 1 1) _ _ _ _ _ _ _ _ _ _ _ _ _ _ _ _ _ _ _ _ _) (w5.alloc (.cells #[.int .i64 z] 3))
        refine wpAnyX_one (i := 5) (by kernel_rfl) rfl (fun K' hK' => ?_)
        refine k_appendI rfl _ _ rfl Wk.heap.size (.slice ua j cap) (xs.map (Value.int .i64)) j w5.heap.size z rfl rfl hown3 (cell_one_new _ _ _ 0 _ rfl) (by simp; omega) (by omega) ?_
        intro v6 w6 own6 grow6
        obtain ⟨ua', cap', ev6, hc6, hc6'⟩ := own_form own6
        subst ev6
        have hlow : Below Wk.heap.size w5 w6 := ((Below.refl Wk.heap.size w5).alloc hs5 _).grown grow6 (by simp; omega) (fun g e => (HL.out.own.lt g e).1)
        have hS6 : w6.cell? ⟨C, 2, none⟩ = some (.slice ua j cap) := (hlow.cell HKS.out.bc.lt).trans hS5
        have hF6 : w6.frozen? ⟨C, 2, none⟩ = false := (hlow.frozen HKS.out.bc.lt).trans ((frozen_dnS (hd5) HL.out.bc.lt hCB 2).trans HL.out.bc.frozen.2.2.1)
        refine hK'.out _ _ (fun _ => hS6) ?_
        clear hK' K'
        change wpAnyX Try.prog .any _ _ _ _ 2 _ (kcActS _ _ _ _ _ _ _ _ _ _ _ _ _ _ _ _ _ _ _ _ _ _ _ _ _ _ _ _ _ _ _ _ _ _ _ _ _ _ _ _ _ _ _ _ _ _ _ _ _ _ _ _ _ _ _ _ _ _ _ _ _ _ _ _ _ _ _ _ _ _ _ _ _ _ _ _ _ _ _ _ _ _ _ _ _ _ _ _ _ _ _ _ _ _ _ _ _ _ _ _ _ _ _ _ _ _ _ _ _ _ _ _ _ _ _ _ (.pointer (some ⟨C, 2, none⟩)) (.slice ua j cap) (.pointer (some ⟨B, 0, none⟩)) (.int .i64 z) (.slice (some ⟨w5.heap.size, 0, none⟩) 1 1) (.slice ua' (j + 1) cap') _ _ _ _ _ _ _ _ _ _ _ _ _ _ _ _ _ _ _ _) w6
        refine wpAnyX_take (i := 6) (v := .pointer (some ⟨C, 2, none⟩)) rfl (by kernel_rfl) (by kernel_rfl) (by kernel_rfl) (by kernel_rfl) (fun _ _ _ h => h) (.inl ⟨rfl, fun w' hw' => k_field2 rfl rfl⟩) hS6 ?_
        change wpAnyX Try.prog .any _ _ _ _ 1 _ (kcActS _ _ _ _ _ _ _ _ _ _ _ _ _ _ _ _ _ _ _ _ _ _ _ _ _ _ _ _ _ _ _ _ _ _ _ _ _ _ _ _ _ _ _ _ _ _ _ _ _ _ _ _ _ _ _ _ _ _ _ _ _ _ _ _ _ _ _ _ _ _ _ _ _ _ _ _ _ _ _ _ _ _ _ _ _ _ _ _ _ _ _ _ _ _ _ _ _ _ _ _ _ _ _ _ _ _ _ _ _ _ _ _ _ _ _ _ (.pointer (some ⟨C, 2, none⟩)) (.slice ua j cap) (.pointer (some ⟨B, 0, none⟩)) (.int .i64 z) (.slice (some ⟨w5.heap.size, 0, none⟩) 1 1) (.slice ua' (j + 1) cap') (.pointer (some ⟨C, 2, none⟩)) _ _ _ _ _ _ _ _ _ _ _ _ _ _ _ _ _ _ _) w6
        refine wpAnyX_one (i := 7) (by kernel_rfl) rfl (fun K' hK' => ?_)
        refine step_skip _ (w6.setCell ⟨C, 2, none⟩ (.slice ua' (j + 1) cap')) rfl (exec_store rfl rfl rfl (k_storeI w6 C 2 ua ua' j cap (j + 1) cap' hS6 hF6)) ?_
        refine hK'.out _ _ (fun h => by cases h) ?_
        clear hK' K'
        change wpAnyX Try.prog .any _ _ _ _ 0 _ (kcActS _ _ _ _ _ _ _ _ _ _ _ _ _ _ _ _ _ _ _ _ _ _ _ _ _ _ _ _ _ _ _ _ _ _ _ _ _ _ _ _ _ _ _ _ _ _ _ _ _ _ _ _ _ _ _ _ _ _ _ _ _ _ _ _ _ _ _ _ _ _ _ _ _ _ _ _ _ _ _ _ _ _ _ _ _ _ _ _ _ _ _ _ _ _ _ _ _ _ _ _ _ _ _ _ _ _ _ _ _ _ _ _ _ _ _ _ (.pointer (some ⟨C, 2, none⟩)) (.slice ua j cap) (.pointer (some ⟨B, 0, none⟩)) (.int .i64 z) (.slice (some ⟨w5.heap.size, 0, none⟩) 1 1) (.slice ua' (j + 1) cap') (.pointer (some ⟨C, 2, none⟩)) _ _ _ _ _ _ _ _ _ _ _ _ _ _ _ _ _ _ _) (w6.setCell ⟨C, 2, none⟩ (.slice ua' (j + 1) cap'))
        refine wpAnyX_done (by kernel_rfl) ?_ _
        unfold kcActS
        have HL6 := Lib.hid (LI.push HK.out HKS.out HL.out hd5 r5 rfl own6 grow6)
        clear hS hS5 hS3 hS6 hF6 own6 grow6 hown3 bV3 hlow d5 r5 hd5 hs5 HL hClt hCB ev
        go_wp2
        go_roundw
        case rel => exact ⟨j + 1, ua', cap', xs ++ [z], q + 1, by omega, by go_num, by omega, by omega, HL6⟩
        case measure => simp [intOf]; omega
      · have hj30 : j ≤ 30 := by omega
        have HXL : Hid (xs.length ≤ 20) := Lib.hid (by rw [HL.out.len]; omega)
        have HKS2 := Lib.hid (LI.ks HK.out HKS.out HL.out)
        go_wp2_with fail
        refine (pick_dn n0 B q 4 wr HKS2.out.rd (by omega) (by omega) (by omega)).mono ?_
        rintro e w6 ⟨b, rfl, hb0, hb1, r6, d6⟩
        have HNO := Lib.hid (nilOk_own HL.out.own)
        have hb2 : b ≤ 14 := by omega
        clear hb1
        have HKS3 := Lib.hid (HKS2.out.dnStep HK.out d6 r6)
        have HKS4 := Lib.hid (HKS3.out.bound HK.out (1 + b))
        obtain ⟨W7, hW7⟩ : ∃ W7, w6.setCell ⟨C, 3, none⟩ (.int .i64 (1 + b)) = W7 := ⟨_, rfl⟩
        rw [hW7] at HKS4
        have HW7 := Lib.hid hW7
        have y0 := HKS3.out.bc.cell.2.2.2.1
        have y1 := HKS3.out.bc.frozen.2.2.2.1
        obtain ⟨p0, p1, p2, p3, p4⟩ := HKS4.out.bc.cell
        obtain ⟨g0, g1, g2, g3, g4⟩ := HKS4.out.bc.frozen
        obtain ⟨o0, o1, o2, o3, o4⟩ := HKS4.out.br.cell
        obtain ⟨f0, f1, f2, f3, f4⟩ := HKS4.out.br.frozen
        clear r6 d6 HKS2 HL hW7
        go_wp2_with (rw [HW7.out])
        have hq := (putR_blk HKS4.out.br (.int .i64 7) (.slice (some ⟨gv, 0, none⟩) vn vc) (.slice ua j cap) (.int .i64 (1 + b)) (.slice none 0 0)).cell
        simp only [putR] at hq
        obtain ⟨q0, q1, q2, q3, q4⟩ := hq
        refine bodyPost_ret (v := .agg #[.int .i64 7, .slice (some ⟨gv, 0, none⟩) vn vc, .slice ua j cap, .int .i64 (1 + b), .slice none 0 0]) (by simp [results, Try.results128, go_sem, q0, q1, q2, q3, q4]) rfl ?_
        exact conDn_fin (c := ⟨7, vars, xs, (1 + b), []⟩) HK.out HKS4.out (by show 1 ≤ vars.length; rw [← HVN.out]; exact hv1) ⟨by show vars.length ≤ 20; rw [← HVN.out]; omega, HXL.out, rowsLe_of (by simp) (fun r hr => by cases hr)⟩ (by have := HPQ.out; omega) (by have := HPQ.out; omega) (by first | exact nilOk_nil | exact nilOk_some _ _ _ _ | exact HNO.out)
  · skip
    go_wp2_with (rw [HWK.out])
    obtain ⟨C, hC⟩ : ∃ C, C = w4.heap.size := ⟨_, rfl⟩
    rw [← hC] at HKS HK ⊢
    clear hC HWK
    clear p0 p1 p2 p3 p4' g0 g1 g2 g3 g4 o0 o1 o2 o3 o4 f0 f1 f2 f3 f4
    refine (pick_dn n0 B p4 3 Wk HKS.out.rd (by omega) (by omega) (by omega)).mono ?_
    rintro e w7 ⟨b, rfl, hb0, hb1, r7, d7⟩
    obtain ⟨b, rfl⟩ := Int.eq_ofNat_of_zero_le hb0
    have hb5 : b ≤ 2 := by omega
    have HKS7 := Lib.hid (HKS.out.dnStep HK.out d7 r7)
    clear r7 d7 HKS hb0 hb1
    have hb1' : (1 : Int) + (b : Int) = ((b + 1 : Nat) : Int) := by omega
    have HB1 := Lib.hid hb1'
    clear hb1'
    go_wp2_with fail
    rw [HB1.out]
    obtain ⟨m, hm⟩ : ∃ m, m = b + 1 := ⟨_, rfl⟩
    rw [← hm]
    have hm1 : 1 ≤ m := by omega
    have hm3 : m ≤ 3 := by omega
    clear HB1 hm hb5
    refine (randomAutomaton_any n0 B m (p4 + 1) w7 HKS7.out.rd (by omega) (by omega) hm1 hm3).mono ?_
    rintro e w8 ⟨ra, rc, rows, p8, rfl, hrl, hr6, rr8, hp8, hp8', r8, d8⟩
    have HKS8 := Lib.hid (HKS7.out.dnStep HK.out d8 r8)
    have hrv : RdRows (av (qs Q0 R C) w8) (.slice ra m rc) rows := rr8 _ (fun b hb => qs_no (HK.out.hQ0 _ (by have := HKS7.out.dn.size; omega)) (by have := HKS7.out.br.lt; omega) (by have := HKS7.out.bc.lt; omega))
    have hrc : m ≤ rc ∧ rc ≤ 9223372036854775807 := by obtain ⟨a', c', e', h1', h2', _⟩ := id hrv; simp at e'; obtain ⟨_, _, rfl⟩ := e'; unfold maxLen at h2'; omega
    have HRL := Lib.hid (And.intro hrl hr6)
    have HP8 : Hid (p ≤ p8 ∧ p8 ≤ p + 60) := Lib.hid (by have := HPQ.out; omega)
    clear r8 d8 rr8 hrl hr6 HKS7 hp8 hp8'
    have HKS9 := Lib.hid (HKS8.out.setRows HK.out hrv)
    obtain ⟨W9, hW9⟩ : ∃ W9, w8.setCell ⟨C, 4, none⟩ (.slice ra m rc) = W9 := ⟨_, rfl⟩
    rw [hW9] at HKS9
    have HW9 := Lib.hid hW9
    clear hW9
    have yb := HKS8.out.bc.cell.2.2.2.2
    have zb := HKS8.out.bc.frozen.2.2.2.2
    clear hrv
    have x4 := HKS9.out.bc.cell.2.2.2.2
    have bV10 : Below W9.heap.size W9 (W9.alloc (.cells #[.int .i64 ((m : Int) - 1)] 3)) := (Below.refl _ _).alloc (Nat.le_refl _) _
    have HKS10 := Lib.hid (HKS9.out.below HK.out bV10)
    have hnV10 : (W9.alloc (.cells #[.int .i64 ((m : Int) - 1)] 3)).ownsRow W9.heap.size 3 1 (.slice (some ⟨W9.heap.size, 0, none⟩) 1 1) 1 [.int .i64 ((m : Int) - 1)] := own_one1 W9 _ _
    obtain ⟨V10, hV10⟩ : ∃ V10, W9.alloc (.cells #[.int .i64 ((m : Int) - 1)] 3) = V10 := ⟨_, rfl⟩
    rw [hV10] at HKS10 hnV10
    have HV10 := Lib.hid hV10
    clear hV10 bV10
    have hrV10 : RdInts (av (qs Q0 R C) V10) (.slice (some ⟨W9.heap.size, 0, none⟩) 1 1) [((m : Int) - 1)] := rdInts_of_own (xs := [((m : Int) - 1)]) (own_av hnV10 (fun b hb => qs_no (HK.out.hQ0 _ (by have := HKS9.out.dn.size; omega)) (by have := HKS9.out.br.lt; omega) (by have := HKS9.out.bc.lt; omega)))
    clear hnV10
    have HKS11 := Lib.hid (HKS10.out.setArgs HK.out hrV10)
    obtain ⟨W11, hW11⟩ : ∃ W11, V10.setCell ⟨C, 2, none⟩ (.slice (some ⟨W9.heap.size, 0, none⟩) 1 1) = W11 := ⟨_, rfl⟩
    rw [hW11] at HKS11
    have HW11 := Lib.hid hW11
    clear hW11
    have yc := HKS10.out.bc.cell.2.2.1
    have zc := HKS10.out.bc.frozen.2.2.1
    obtain ⟨p0, p1, p2, p3, p4⟩ := HKS11.out.bc.cell
    obtain ⟨g0, g1, g2, g3, g4⟩ := HKS11.out.bc.frozen
    obtain ⟨o0, o1, o2, o3, o4⟩ := HKS11.out.br.cell
    obtain ⟨f0, f1, f2, f3, f4⟩ := HKS11.out.br.frozen
    clear hrV10 HKS8
    go_wp2_with (first | rw [HW9.out] | rw [HV10.out] | rw [HW11.out])
    have hq := (putR_blk HKS11.out.br (.int .i64 8) (.slice (some ⟨gv, 0, none⟩) vn vc) (.slice (some ⟨W9.heap.size, 0, none⟩) 1 1) (.int .i64 0) (.slice ra m rc)).cell
    simp only [putR] at hq
    obtain ⟨q0, q1, q2, q3, q4⟩ := hq
    refine bodyPost_ret (v := .agg #[.int .i64 8, .slice (some ⟨gv, 0, none⟩) vn vc, .slice (some ⟨W9.heap.size, 0, none⟩) 1 1, .int .i64 0, .slice ra m rc]) (by simp [results, Try.results128, go_sem, q0, q1, q2, q3, q4]) rfl ?_
    exact conDn_fin (c := ⟨8, vars, [(m : Int) - 1], 0, rows⟩) HK.out HKS11.out (by show 1 ≤ vars.length; rw [← HVN.out]; exact hv1) ⟨by show vars.length ≤ 20; rw [← HVN.out]; omega, by simp, rowsLe_of (by rw [HRL.out.1]; omega) (fun r hr => Nat.le_trans (HRL.out.2 r hr) (by omega))⟩ (by have := HP8.out; omega) (by have := HP8.out; omega) (by first | exact nilOk_nil | exact nilOk_some _ _ _ _ | exact HNO.out)
  · skip
    go_wp2_with (rw [HWK.out])
    obtain ⟨C, hC⟩ : ∃ C, C = w4.heap.size := ⟨_, rfl⟩
    rw [← hC] at HKS HK
    clear hC
    have hq := (putR_blk HKS.out.br (.int .i64 9) (.slice (some ⟨gv, 0, none⟩) vn vc) (.slice none 0 0) (.int .i64 0) (.slice none 0 0)).cell
    simp only [putR] at hq
    obtain ⟨q0, q1, q2, q3, q4⟩ := hq
    refine bodyPost_ret (v := .agg #[.int .i64 9, .slice (some ⟨gv, 0, none⟩) vn vc, .slice none 0 0, .int .i64 0, .slice none 0 0]) (by simp [results, Try.results128, go_sem, q0, q1, q2, q3, q4]) rfl ?_
    exact conDn_fin (c := ⟨9, vars, [], 0, []⟩) HK.out HKS.out (by show 1 ≤ vars.length; rw [← HVN.out]; exact hv1) ⟨by show vars.length ≤ 20; rw [← HVN.out]; omega, by simp, rowsLe_of (by simp) (fun r hr => by cases hr)⟩ (by have := HPQ.out; omega) (by have := HPQ.out; omega) (by first | exact nilOk_nil | exact nilOk_some _ _ _ _ | exact HNO.out)
end Go.Proofs.Ytjdbfiiaadphhaa

/-! The draw of a valid constraint. -/
namespace Go.Proofs.Ytjdbfiiaadphhaa
open Go.ChangeShapes Go.WideShapes Go.ChangeAt Go.RowKit Go.Shelf
set_option linter.unusedVariables false
set_option linter.unusedSimpArgs false

theorem frozen_dnB {B C : Nat} {w w' : World} (h : Dn B w w') (hC : C < w.heap.size) (hB : C ≠ B) (j : Nat) : w'.frozen? ⟨C, j, none⟩ = w.frozen? ⟨C, j, none⟩ := by
  unfold World.frozen?
  rw [h.block C hC hB]
def kcActB (z0 z1 z2 z3 z4 z5 z6 z7 z8 z9 z10 z11 z12 z13 z14 z15 z16 z17 z18 z19 z20 z21 z22 z23 z24 z25 z26 z27 z28 z29 z30 z31 z32 z33 z34 z35 z36 z37 z38 z39 z40 z41 z42 z43 z44 z45 z46 z47 z48 z49 z50 z51 z52 z53 z54 z55 z56 z57 z58 z59 z60 z61 z62 z63 z64 z65 z66 z67 z68 z69 z70 z71 z72 z73 z74 z75 z76 z77 z78 z79 z80 z81 z82 z83 z84 z85 z86 z87 z88 z89 z90 z91 z92 z93 z94 z95 z96 z97 z98 z99 z100 z101 z102 z103 z104 z105 z106 z107 z108 z109 z110 z111 z112 z113 z114 z115 z116 z117 z118 z119 z120 z121 z122 z123 z124 z125 z126 z127 z128 z129 z130 z131 z132 z133 z134 z135 z136 z137 z138 z139 z140 z141 : Value) : Act := { tmps := #[z0, z1, z2, z3, z4, z5, z6, z7, z8, z9, z10, z11, z12, z13, z14, z15, z16, z17, z18, z19, z20, z21, z22, z23, z24, z25, z26, z27, z28, z29, z30, z31, z32, z33, z34, z35, z36, z37, z38, z39, z40, z41, z42, z43, z44, z45, z46, z47, z48, z49, z50, z51, z52, z53, z54, z55, z56, z57, z58, z59, z60, z61, z62, z63, z64, z65, z66, z67, z68, z69, z70, z71, z72, z73, z74, z75, z76, z77, z78, z79, z80, z81, z82, z83, z84, z85, z86, z87, z88, z89, z90, z91, z92, z93, z94, z95, z96, z97, z98, z99, z100, z101, z102, z103, z104, z105, z106, z107, z108, z109, z110, z111, z112, z113, z114, z115, z116, z117, z118, z119, z120, z121, z122, z123, z124, z125, z126, z127, z128, z129, z130, z131, z132, z133, z134, z135, z136, z137, z138, z139, z140, z141], defers := [] }
set_option maxRecDepth 100000 in
set_option maxHeartbeats 64000000 in
theorem randomConstraint_big (Q0 : Nat → Bool) (n0 B n : Nat) (p : Int) (w : World) (hR : Rd n0 B p w) (hp : 0 ≤ p) (hp2 : p ≤ 1000000) (hn : 1 ≤ n) (hn4 : n ≤ 4) (hQB : Q0 B = true) (hQ0 : ∀ b, w.heap.size ≤ b → Q0 b = false) (hn2 : ¬ (n : Int) < 2) :
    Calls Try.prog 128 #[.pointer (some ⟨B, 0, none⟩), .int .i64 n] w (ConDn Q0 n0 B p 100 20 w) := by
  have HQB := Lib.hid hQB
  have HQ0 := Lib.hid hQ0
  clear hQB hQ0
  have hlt := hR.lt
  obtain ⟨R, hRe⟩ : ∃ R, R = w.heap.size := ⟨_, rfl⟩
  obtain ⟨W1, hW1⟩ : ∃ W1, w.alloc (.cells #[.int .i64 0, .slice none 0 0, .slice none 0 0, .int .i64 0, .slice none 0 0] 53) = W1 := ⟨_, rfl⟩
  have b1 : Below w.heap.size w W1 := by rw [← hW1]; exact (Below.refl _ _).alloc (Nat.le_refl _) _
  have HBR : Hid (Blk5 W1 R 53 (.int .i64 0) (.slice none 0 0) (.slice none 0 0) (.int .i64 0) (.slice none 0 0)) := Lib.hid (by rw [← hW1, hRe]; exact Blk5.new w _ _ _ _ _ _)
  have HRE := Lib.hid hRe
  have HR1 := Lib.hid (hR.below (b1.mono (by omega)))
  have HD1 := Lib.hid (Dn.of_below b1 (B := B))
  have HLT := Lib.hid hlt
  have HN0 := Lib.hid hR.1
  have HW1 := Lib.hid hW1
  clear hR hlt hW1 b1 hRe
  go_enter Try.func128, Try.ntmps128
  go_wp2_with fail
  rw [HW1.out, ← HRE.out]
  clear HW1
  refine (pick_dn n0 B p n W1 HR1.out (by omega) (by omega) (by omega)).mono ?_
  rintro e w2 ⟨x, rfl, hx0, hx1, r2, d2⟩
  obtain ⟨k0, rfl⟩ := Int.eq_ofNat_of_zero_le hx0
  have hk0 : k0 ≤ 4 := by omega
  have HBR2 : Hid (Blk5 w2 R 53 (.int .i64 0) (.slice none 0 0) (.slice none 0 0) (.int .i64 0) (.slice none 0 0)) := Lib.hid ((d2.block R HBR.out.lt (by have := HLT.out; have := HRE.out; omega)).trans HBR.out)
  have HR2 := Lib.hid r2
  have HD2 := Lib.hid (HD1.out.trans d2)
  clear r2 d2 hx0 hx1 HR1 HD1 HBR
  go_wp2_with fail
  refine (pick_dn n0 B (p + 1) 9 w2 HR2.out (by omega) (by omega) (by omega)).mono ?_
  rintro e w3 ⟨y, rfl, hy0, hy1, r3, d3⟩
  have HBR3 : Hid (Blk5 w3 R 53 (.int .i64 0) (.slice none 0 0) (.slice none 0 0) (.int .i64 0) (.slice none 0 0)) := Lib.hid ((d3.block R HBR2.out.lt (by have := HLT.out; have := HRE.out; omega)).trans HBR2.out)
  have HR3 := Lib.hid r3
  have HD3 := Lib.hid (HD2.out.trans d3)
  have hk1 : (1 : Int) + (k0 : Int) = ((k0 + 1 : Nat) : Int) := by omega
  have HK1 := Lib.hid hk1
  obtain ⟨kd, hkd⟩ : ∃ kd, kd = 1 + y := ⟨_, rfl⟩
  have hkd1 : 1 ≤ kd ∧ kd ≤ 9 := by omega
  have HKD := Lib.hid hkd
  clear r3 d3 HR2 HD2 HBR2 hk1 hkd hkd1
  go_wp2_with fail
  rw [HK1.out, ← HKD.out]
  have hkd1 : 1 ≤ kd ∧ kd ≤ 9 := by rw [HKD.out]; omega
  clear hy0 hy1
  refine (someVars_any n0 B n (k0 + 1) (p + 1 + 1) w3 HR3.out (by omega) (by omega) hn hn4 (by omega) (by omega)).mono ?_
  rintro e w4 ⟨gv, vn, vc, vars, p4, rfl, hvn, hv1, hv4, rv, hp4, hp4', r4, d4⟩
  have hBR4 : Blk5 w4 R 53 (.int .i64 0) (.slice none 0 0) (.slice none 0 0) (.int .i64 0) (.slice none 0 0) := (d4.block R HBR3.out.lt (by have := HLT.out; have := HRE.out; omega)).trans HBR3.out
  have hD4 := HD3.out.trans d4
  have hvc := (rdInts_cap (rv (fun _ => false) (fun _ _ => rfl))).2
  have hk : KP Q0 B R w4.heap.size n0 w := ⟨HLT.out, by rw [HRE.out]; exact Nat.le_refl _, hD4.size, by have := hBR4.lt; omega, HN0.out, HQB.out, HQ0.out⟩
  obtain ⟨Wk, hWk⟩ : ∃ Wk, w4.alloc (.cells #[.int .i64 kd, .slice (some ⟨gv, 0, none⟩) vn vc, .slice none 0 0, .int .i64 0, .slice none 0 0] 53) = Wk := ⟨_, rfl⟩
  have hks : KS Q0 n0 B R w4.heap.size w Wk p4 ⟨kd, vars, [], 0, []⟩ (.slice (some ⟨gv, 0, none⟩) vn vc) (.slice none 0 0) (.slice none 0 0) := by
    have hbw : Below w4.heap.size w4 Wk := by
      rw [← hWk]
      exact (Below.refl _ _).alloc (Nat.le_refl _) _
    have hr3 := HR3.out.lt
    have hRlt := HBR3.out.lt
    refine ⟨by rw [← hWk]; exact Blk5.new w4 _ _ _ _ _ _, hBR4.below hbw, ?_, rdInts_nil _, rdRows_nil _, r4.below (hbw.mono (by have := r4.lt; omega)), hD4.trans (Dn.of_below hbw)⟩
    have hs3 : w.heap.size ≤ w3.heap.size := HD3.out.size
    have hQ1 : ∀ b, w3.heap.size ≤ b → (Q0 b || b == R) = false := fun b hb => by
      have h1 : Q0 b = false := HQ0.out b (by omega)
      have h2 : b ≠ R := by omega
      simp [h1, h2]
    exact (rv (fun b => Q0 b || b == R) hQ1).inc (av_new hbw (fun b hb hq => by simp at hq; exact qs_no hq.1 hq.2 (by omega)))
  obtain ⟨p0, p1, p2, p3, p4'⟩ := hks.bc.cell
  obtain ⟨g0, g1, g2, g3, g4⟩ := hks.bc.frozen
  obtain ⟨o0, o1, o2, o3, o4⟩ := hks.br.cell
  obtain ⟨f0, f1, f2, f3, f4⟩ := hks.br.frozen
  have HKS := Lib.hid hks
  have HK := Lib.hid hk
  have HVN := Lib.hid hvn
  have HWK := Lib.hid hWk
  have HPQ : Hid (p ≤ p4 ∧ p4 ≤ p + 10) := Lib.hid (by omega)
  have hq4 : 0 ≤ p4 ∧ p4 ≤ p + 10 := by omega
  clear hp4 hp4'
  clear r4 d4 rv hBR4 hD4 hk hks hvn hWk HR3 HD3 HBR3 HK1 HKD
  rcases (show kd = 1 ∨ kd = 2 ∨ kd = 3 ∨ kd = 4 ∨ kd = 5 ∨ kd = 6 ∨ kd = 7 ∨ kd = 8 ∨ kd = 9 by omega) with rfl | rfl | rfl | rfl | rfl | rfl | rfl | rfl | rfl
  all_goals clear hkd1
  · skip
    go_wp2_with (rw [HWK.out])
    obtain ⟨C, hC⟩ : ∃ C, C = w4.heap.size := ⟨_, rfl⟩
    rw [← hC] at HKS HK ⊢
    clear hC HWK
    clear p0 p1 p2 p3 p4' g0 g1 g2 g3 g4 o0 o1 o2 o3 o4 f0 f1 f2 f3 f4
    go_loopw [7] (fun i wr => ∃ (j : Nat) (ua : Option Addr) (cap : Nat) (xs : List Int) (q : Int), j ≤ vn ∧ i = .int .i64 j ∧ p4 ≤ q ∧ q ≤ p4 + j ∧ Hid (LI Q0 n0 B R C w Wk wr q ⟨1, vars, [], 0, []⟩ (.slice (some ⟨gv, 0, none⟩) vn vc) (.slice none 0 0) ua j cap xs)) (fun i _ => vn - (intOf i).toNat)
    case atStart => exact ⟨0, none, 0, [], p4, Nat.zero_le _, rfl, by omega, by omega, Lib.hid (LI.start HKS.out)⟩
    case round =>
      obtain ⟨j, ua, cap, xs, q, hj, rfl, hq, hq2, HL⟩ := hrel
      by_cases hjv : j < vn
      · have hS : wr.drew.cell? ⟨C, 2, none⟩ = some (.slice ua j cap) := HL.out.bc.cell.2.2.1
        have hClt : C < wr.drew.heap.size := HL.out.bc.lt
        have hCB : C ≠ B := by have := HK.out.hC; have := HK.out.hB; omega
        have HX := Lib.hid (And.intro hClt hCB)
        clear hClt hCB
        have hj30 : j ≤ 30 := by omega
        go_wp2_with fail
        obtain ⟨hClt, hCB⟩ := HX.out
        refine region_x (fun w' => w'.cell? ⟨C, 2, none⟩ = some (.slice ua j cap)) (fun i => i == 8) rfl ?_
        change wpAnyX Try.prog .any _ _ _ _ 9 _ (kcActB _ _ _ _ _ _ _ _ _ _ _ _ _ _ _ _ _ _ _ _ _ _ _ _ _ _ _ _ _ _ _ _ _ _ _ _ _ _ _ _ _ _ _ _ _ _ _ _ _ _ _ _ _ _ _ _ _ _ _ _ _ _ _ _ _ _ _ _ _ _ _ _ _ _ _ _ _ _ _ _ _ _ _ _ _ _ _ _ _ _ _ _ _ _ _ _ _ _ _ _ _ _ _ _ _ _ _ _ _ _ _ _ _ _ _ _ _ _ _ _ _ _ _ _ _ _ _ _ _ _ _ _ _ _ _ _ _ _ _ _ _ _) wr.drew
        refine wpAnyX_take (i := 0) (v := .pointer (some ⟨C, 2, none⟩)) rfl (by kernel_rfl) (by kernel_rfl) (by kernel_rfl) (by kernel_rfl) (fun _ _ _ h => h) (.inl ⟨rfl, fun w' hw' => k_field2 rfl rfl⟩) hS ?_
        change wpAnyX Try.prog .any _ _ _ _ 8 _ (kcActB _ _ _ _ _ _ _ _ _ _ _ _ _ _ _ _ _ _ _ _ _ _ _ _ _ _ _ _ _ _ _ _ _ _ _ _ _ _ _ _ _ _ _ _ _ _ _ (.pointer (some ⟨C, 2, none⟩)) _ _ _ _ _ _ _ _ _ _ _ _ _ _ _ _ _ _ _ _ _ _ _ _ _ _ _ _ _ _ _ _ _ _ _ _ _ _ _ _ _ _ _ _ _ _ _ _ _ _ _ _ _ _ _ _ _ _ _ _ _ _ _ _ _ _ _ _ _ _ _ _ _ _ _ _ _ _ _ _ _ _ _ _ _ _ _ _ _ _ _ _ _ _) wr.drew
        refine wpAnyX_take (i := 1) (v := .slice ua j cap) rfl (by kernel_rfl) (by kernel_rfl) (by kernel_rfl) (by kernel_rfl) (fun _ _ _ h => h) (.inl ⟨rfl, fun w' hw' => exec_load rfl rfl (k_loadI w' _ _ _ _ _ hw')⟩) hS ?_
        change wpAnyX Try.prog .any _ _ _ _ 7 _ (kcActB _ _ _ _ _ _ _ _ _ _ _ _ _ _ _ _ _ _ _ _ _ _ _ _ _ _ _ _ _ _ _ _ _ _ _ _ _ _ _ _ _ _ _ _ _ _ _ (.pointer (some ⟨C, 2, none⟩)) (.slice ua j cap) _ _ _ _ _ _ _ _ _ _ _ _ _ _ _ _ _ _ _ _ _ _ _ _ _ _ _ _ _ _ _ _ _ _ _ _ _ _ _ _ _ _ _ _ _ _ _ _ _ _ _ _ _ _ _ _ _ _ _ _ _ _ _ _ _ _ _ _ _ _ _ _ _ _ _ _ _ _ _ _ _ _ _ _ _ _ _ _ _ _ _ _ _) wr.drew
        refine wpAnyX_take (i := 2) (v := .pointer (some ⟨B, 0, none⟩)) rfl (by kernel_rfl) (by kernel_rfl) (by kernel_rfl) (by kernel_rfl) (fun _ _ _ h => h) (.inl ⟨rfl, fun w' hw' => rfl⟩) hS ?_
        change wpAnyX Try.prog .any _ _ _ _ 6 _ (kcActB _ _ _ _ _ _ _ _ _ _ _ _ _ _ _ _ _ _ _ _ _ _ _ _ _ _ _ _ _ _ _ _ _ _ _ _ _ _ _ _ _ _ _ _ _ _ _ (.pointer (some ⟨C, 2, none⟩)) (.slice ua j cap) (.pointer (some ⟨B, 0, none⟩)) _ _ _ _ _ _ _ _ _ _ _ _ _ _ _ _ _ _ _ _ _ _ _ _ _ _ _ _ _ _ _ _ _ _ _ _ _ _ _ _ _ _ _ _ _ _ _ _ _ _ _ _ _ _ _ _ _ _ _ _ _ _ _ _ _ _ _ _ _ _ _ _ _ _ _ _ _ _ _ _ _ _ _ _ _ _ _ _ _ _ _ _) wr.drew
        refine wpAnyX_one (i := 3) (by kernel_rfl) rfl (fun K' hK' => ?_)
        refine step_value _ (wr.drew.alloc (.cells #[.int .i64 1, .int .i64 1, .int .i64 (-1), .int .i64 2, .int .i64 (-3), .int .i64 0] 3)) rfl _ (k_exec6 rfl rfl rfl rfl rfl rfl rfl (k_build6 wr.drew)) ?_
        have bV1 : Below wr.drew.heap.size wr.drew (wr.drew.alloc (.cells #[.int .i64 1, .int .i64 1, .int .i64 (-1), .int .i64 2, .int .i64 (-3), .int .i64 0] 3)) := (Below.refl _ _).alloc (Nat.le_refl _) _
        have hS1 := (bV1.cell hClt).trans hS
        have hd1 : Dn B wr (wr.drew.alloc (.cells #[.int .i64 1, .int .i64 1, .int .i64 (-1), .int .i64 2, .int .i64 (-3), .int .i64 0] 3)) := (Dn.of_below (Below.refl _ wr).drew).trans (Dn.of_below bV1)
        have q1 : (wr.drew.alloc (.cells #[.int .i64 1, .int .i64 1, .int .i64 (-1), .int .i64 2, .int .i64 (-3), .int .i64 0] 3)).heap[wr.drew.heap.size]? = some (.cells #[.int .i64 1, .int .i64 1, .int .i64 (-1), .int .i64 2, .int .i64 (-3), .int .i64 0] 3) := World.alloc_heap_new _ _
        have hc1 : ∀ i, i < 6 → (wr.drew.alloc (.cells #[.int .i64 1, .int .i64 1, .int .i64 (-1), .int .i64 2, .int .i64 (-3), .int .i64 0] 3)).cell? ⟨wr.drew.heap.size, i, none⟩ = some (.int .i64 (([1, 1, -1, 2, -3, 0] : List Int)[i]?.getD 0)) := fun i hi => by
          simp only [World.cell?, q1]
          rcases (show i = 0 ∨ i = 1 ∨ i = 2 ∨ i = 3 ∨ i = 4 ∨ i = 5 by omega) with rfl | rfl | rfl | rfl | rfl | rfl <;> rfl
        have hr1 : Rd n0 B q (wr.drew.alloc (.cells #[.int .i64 1, .int .i64 1, .int .i64 (-1), .int .i64 2, .int .i64 (-3), .int .i64 0] 3)) := (HL.out.rd.drewN 1).below (bV1.mono (by have := HL.out.rd.lt; show B + 1 ≤ wr.heap.size; omega))
        refine hK'.out _ _ (fun _ => hS1) ?_
        clear hK' K'
        change wpAnyX Try.prog .any _ _ _ _ 5 _ (kcActB _ _ _ _ _ _ _ _ _ _ _ _ _ _ _ _ _ _ _ _ _ _ _ _ _ _ _ _ _ _ _ _ _ _ _ _ _ _ _ _ _ _ _ _ _ _ _ (.pointer (some ⟨C, 2, none⟩)) (.slice ua j cap) (.pointer (some ⟨B, 0, none⟩)) (.slice (some ⟨wr.drew.heap.size, 0, none⟩) 6 6) _ _ _ _ _ _ _ _ _ _ _ _ _ _ _ _ _ _ _ _ _ _ _ _ _ _ _ _ _ _ _ _ _ _ _ _ _ _ _ _ _ _ _ _ _ _ _ _ _ _ _ _ _ _ _ _ _ _ _ _ _ _ _ _ _ _ _ _ _ _ _ _ _ _ _ _ _ _ _ _ _ _ _ _ _ _ _ _ _ _ _) (wr.drew.alloc (.cells #[.int .i64 1, .int .i64 1, .int .i64 (-1), .int .i64 2, .int .i64 (-3), .int .i64 0] 3))
        refine wpAnyX_one (i := 4) (by kernel_rfl) rfl (fun K' hK' => ?_)
        refine k_call2 _ rfl 153 _ _ _ _ _ rfl rfl rfl (enters_of Try.func153 (by kernel_rfl) rfl) _ (one_dn n0 B wr.drew.heap.size 6 q (fun i => ([1, 1, -1, 2, -3, 0] : List Int)[i]?.getD 0) (wr.drew.alloc (.cells #[.int .i64 1, .int .i64 1, .int .i64 (-1), .int .i64 2, .int .i64 (-3), .int .i64 0] 3)) hr1 (by omega) (by omega) (by omega) (by omega) (by have := HL.out.rd.lt; show wr.heap.size ≠ B; omega) hc1) (fun c w' h => by obtain ⟨_, _, h, _⟩ := h; cases h) (fun w' h => by obtain ⟨_, _, h, _⟩ := h; cases h) ?_
        rintro vz w5 ⟨iz, hiz, ev, r5, d5⟩
        obtain ⟨z, hz⟩ : ∃ z, z = ([1, 1, -1, 2, -3, 0] : List Int)[iz]?.getD 0 := ⟨_, rfl⟩
        obtain rfl : vz = .int .i64 z := by rw [hz]; injection ev
        have hd5 : Dn B wr w5 := hd1.trans d5
        have hS5 : w5.cell? ⟨C, 2, none⟩ = some (.slice ua j cap) := (wo_cell_same (d5.block C (Nat.lt_of_lt_of_le hClt bV1.size) hCB)).trans hS1
        refine hK'.out _ _ (fun _ => hS5) ?_
        clear hK' K'
        change wpAnyX Try.prog .any _ _ _ _ 4 _ (kcActB _ _ _ _ _ _ _ _ _ _ _ _ _ _ _ _ _ _ _ _ _ _ _ _ _ _ _ _ _ _ _ _ _ _ _ _ _ _ _ _ _ _ _ _ _ _ _ (.pointer (some ⟨C, 2, none⟩)) (.slice ua j cap) (.pointer (some ⟨B, 0, none⟩)) (.slice (some ⟨wr.drew.heap.size, 0, none⟩) 6 6) (.int .i64 z) _ _ _ _ _ _ _ _ _ _ _ _ _ _ _ _ _ _ _ _ _ _ _ _ _ _ _ _ _ _ _ _ _ _ _ _ _ _ _ _ _ _ _ _ _ _ _ _ _ _ _ _ _ _ _ _ _ _ _ _ _ _ _ _ _ _ _ _ _ _ _ _ _ _ _ _ _ _ _ _ _ _ _ _ _ _ _ _ _ _) w5
        refine wpAnyX_one (i := 5) (by kernel_rfl) rfl (fun K' hK' => ?_)
        refine step_value _ (w5.alloc (.cells #[.int .i64 z] 3)) rfl _ (k_exec1 rfl rfl (k_build1 w5 _)) ?_
        have bV3 : Below w5.heap.size w5 (w5.alloc (.cells #[.int .i64 z] 3)) := (Below.refl _ _).alloc (Nat.le_refl _) _
        have hS3 := (bV3.cell (Nat.lt_of_lt_of_le hClt hd5.size)).trans hS5
        have hs5 : Wk.heap.size ≤ w5.heap.size := Nat.le_trans HL.out.fr.size hd5.size
        have hown3 : (w5.alloc (.cells #[.int .i64 z] 3)).ownsRow Wk.heap.size 3 1 (.slice ua j cap) j (xs.map (Value.int .i64)) := (own_dn HL.out.own HKS.out.rd.lt hd5).alloc _
        refine hK'.out _ _ (fun _ => hS3) ?_
        clear hK' K'
        change wpAnyX Try.prog .any _ _ _ _ 3 _ (kcActB _ _ _ _ _ _ _ _ _ _ _ _ _ _ _ _ _ _ _ _ _ _ _ _ _ _ _ _ _ _ _ _ _ _ _ _ _ _ _ _ _ _ _ _ _ _ _ (.pointer (some ⟨C, 2, none⟩)) (.slice ua j cap) (.pointer (some ⟨B, 0, none⟩)) (.slice (some ⟨wr.drew.heap.size, 0, none⟩) 6 6) (.int .i64 z) (.slice (some ⟨w5.heap.size, 0, none⟩) 1 1) _ _ _ _ _ _ _ _ _ _ _ _ _ _ _ _ _ _ _ _ _ _ _ _ _ _ _ _ _ _ _ _ _ _ _ _ _ _ _ _ _ _ _ _ _ _ _ _ _ _ _ _ _ _ _ _ _ _ _ _ _ _ _ _ _ _ _ _ _ _ _ _ _ _ _ _ _ _ _ _ _ _ _ _ _ _ _ _ _) (w5.alloc (.cells #[.int .i64 z] 3))
        refine wpAnyX_one (i := 6) (by kernel_rfl) rfl (fun K' hK' => ?_)
        refine k_appendI rfl _ _ rfl Wk.heap.size (.slice ua j cap) (xs.map (Value.int .i64)) j w5.heap.size z rfl rfl hown3 (cell_one_new _ _ _ 0 _ rfl) (by simp; omega) (by omega) ?_
        intro v6 w6 own6 grow6
        obtain ⟨ua', cap', ev6, hc6, hc6'⟩ := own_form own6
        subst ev6
        have hlow : Below Wk.heap.size w5 w6 := ((Below.refl Wk.heap.size w5).alloc hs5 _).grown grow6 (by simp; omega) (fun g e => (HL.out.own.lt g e).1)
        have hS6 : w6.cell? ⟨C, 2, none⟩ = some (.slice ua j cap) := (hlow.cell HKS.out.bc.lt).trans hS5
        have hF6 : w6.frozen? ⟨C, 2, none⟩ = false := (hlow.frozen HKS.out.bc.lt).trans ((frozen_dnB (hd5) HL.out.bc.lt hCB 2).trans HL.out.bc.frozen.2.2.1)
        refine hK'.out _ _ (fun _ => hS6) ?_
        clear hK' K'
        change wpAnyX Try.prog .any _ _ _ _ 2 _ (kcActB _ _ _ _ _ _ _ _ _ _ _ _ _ _ _ _ _ _ _ _ _ _ _ _ _ _ _ _ _ _ _ _ _ _ _ _ _ _ _ _ _ _ _ _ _ _ _ (.pointer (some ⟨C, 2, none⟩)) (.slice ua j cap) (.pointer (some ⟨B, 0, none⟩)) (.slice (some ⟨wr.drew.heap.size, 0, none⟩) 6 6) (.int .i64 z) (.slice (some ⟨w5.heap.size, 0, none⟩) 1 1) (.slice ua' (j + 1) cap') _ _ _ _ _ _ _ _ _ _ _ _ _ _ _ _ _ _ _ _ _ _ _ _ _ _ _ _ _ _ _ _ _ _ _ _ _ _ _ _ _ _ _ _ _ _ _ _ _ _ _ _ _ _ _ _ _ _ _ _ _ _ _ _ _ _ _ _ _ _ _ _ _ _ _ _ _ _ _ _ _ _ _ _ _ _ _ _) w6
        refine wpAnyX_take (i := 7) (v := .pointer (some ⟨C, 2, none⟩)) rfl (by kernel_rfl) (by kernel_rfl) (by kernel_rfl) (by kernel_rfl) (fun _ _ _ h => h) (.inl ⟨rfl, fun w' hw' => k_field2 rfl rfl⟩) hS6 ?_
        change wpAnyX Try.prog .any _ _ _ _ 1 _ (kcActB _ _ _ _ _ _ _ _ _ _ _ _ _ _ _ _ _ _ _ _ _ _ _ _ _ _ _ _ _ _ _ _ _ _ _ _ _ _ _ _ _ _ _ _ _ _ _ (.pointer (some ⟨C, 2, none⟩)) (.slice ua j cap) (.pointer (some ⟨B, 0, none⟩)) (.slice (some ⟨wr.drew.heap.size, 0, none⟩) 6 6) (.int .i64 z) (.slice (some ⟨w5.heap.size, 0, none⟩) 1 1) (.slice ua' (j + 1) cap') (.pointer (some ⟨C, 2, none⟩)) _ _ _ _ _ _ _ _ _ _ _ _ _ _ _ _ _ _ _ _ _ _ _ _ _ _ _ _ _ _ _ _ _ _ _ _ _ _ _ _ _ _ _ _ _ _ _ _ _ _ _ _ _ _ _ _ _ _ _ _ _ _ _ _ _ _ _ _ _ _ _ _ _ _ _ _ _ _ _ _ _ _ _ _ _ _ _) w6
        refine wpAnyX_one (i := 8) (by kernel_rfl) rfl (fun K' hK' => ?_)
        refine step_skip _ (w6.setCell ⟨C, 2, none⟩ (.slice ua' (j + 1) cap')) rfl (exec_store rfl rfl rfl (k_storeI w6 C 2 ua ua' j cap (j + 1) cap' hS6 hF6)) ?_
        refine hK'.out _ _ (fun h => by cases h) ?_
        clear hK' K'
        change wpAnyX Try.prog .any _ _ _ _ 0 _ (kcActB _ _ _ _ _ _ _ _ _ _ _ _ _ _ _ _ _ _ _ _ _ _ _ _ _ _ _ _ _ _ _ _ _ _ _ _ _ _ _ _ _ _ _ _ _ _ _ (.pointer (some ⟨C, 2, none⟩)) (.slice ua j cap) (.pointer (some ⟨B, 0, none⟩)) (.slice (some ⟨wr.drew.heap.size, 0, none⟩) 6 6) (.int .i64 z) (.slice (some ⟨w5.heap.size, 0, none⟩) 1 1) (.slice ua' (j + 1) cap') (.pointer (some ⟨C, 2, none⟩)) _ _ _ _ _ _ _ _ _ _ _ _ _ _ _ _ _ _ _ _ _ _ _ _ _ _ _ _ _ _ _ _ _ _ _ _ _ _ _ _ _ _ _ _ _ _ _ _ _ _ _ _ _ _ _ _ _ _ _ _ _ _ _ _ _ _ _ _ _ _ _ _ _ _ _ _ _ _ _ _ _ _ _ _ _ _ _) (w6.setCell ⟨C, 2, none⟩ (.slice ua' (j + 1) cap'))
        refine wpAnyX_done (by kernel_rfl) ?_ _
        unfold kcActB
        have HL6 := Lib.hid (LI.push HK.out HKS.out HL.out hd5 r5 rfl own6 grow6)
        clear hS hS5 hS3 hS6 hF6 own6 grow6 hown3 bV3 hlow d5 r5 hd5 hs5 HL hClt hCB hS1 bV1 hd1 hr1 hz ev q1 hc1
        go_wp2
        go_roundw
        case rel => exact ⟨j + 1, ua', cap', xs ++ [z], q + 1, by omega, by go_num, by omega, by omega, HL6⟩
        case measure => simp [intOf]; omega
      · have hj30 : j ≤ 30 := by omega
        have HXL : Hid (xs.length ≤ 20) := Lib.hid (by rw [HL.out.len]; omega)
        have HKS2 := Lib.hid (LI.ks HK.out HKS.out HL.out)
        go_wp2_with fail
        refine (pick_dn n0 B q 14 wr HKS2.out.rd (by omega) (by omega) (by omega)).mono ?_
        rintro e w6 ⟨b, rfl, hb0, hb1, r6, d6⟩
        have HNO := Lib.hid (nilOk_own HL.out.own)
        have hb2 : b ≤ 14 := by omega
        clear hb1
        have HKS3 := Lib.hid (HKS2.out.dnStep HK.out d6 r6)
        have HKS4 := Lib.hid (HKS3.out.bound HK.out (b - 4))
        obtain ⟨W7, hW7⟩ : ∃ W7, w6.setCell ⟨C, 3, none⟩ (.int .i64 (b - 4)) = W7 := ⟨_, rfl⟩
        rw [hW7] at HKS4
        have HW7 := Lib.hid hW7
        have y0 := HKS3.out.bc.cell.2.2.2.1
        have y1 := HKS3.out.bc.frozen.2.2.2.1
        obtain ⟨p0, p1, p2, p3, p4⟩ := HKS4.out.bc.cell
        obtain ⟨g0, g1, g2, g3, g4⟩ := HKS4.out.bc.frozen
        obtain ⟨o0, o1, o2, o3, o4⟩ := HKS4.out.br.cell
        obtain ⟨f0, f1, f2, f3, f4⟩ := HKS4.out.br.frozen
        clear r6 d6 HKS2 HL hW7
        go_wp2_with (rw [HW7.out])
        have hq := (putR_blk HKS4.out.br (.int .i64 1) (.slice (some ⟨gv, 0, none⟩) vn vc) (.slice ua j cap) (.int .i64 (b - 4)) (.slice none 0 0)).cell
        simp only [putR] at hq
        obtain ⟨q0, q1, q2, q3, q4⟩ := hq
        refine bodyPost_ret (v := .agg #[.int .i64 1, .slice (some ⟨gv, 0, none⟩) vn vc, .slice ua j cap, .int .i64 (b - 4), .slice none 0 0]) (by simp [results, Try.results128, go_sem, q0, q1, q2, q3, q4]) rfl ?_
        exact conDn_fin (c := ⟨1, vars, xs, (b - 4), []⟩) HK.out HKS4.out (by show 1 ≤ vars.length; rw [← HVN.out]; exact hv1) ⟨by show vars.length ≤ 20; rw [← HVN.out]; omega, HXL.out, rowsLe_of (by simp) (fun r hr => by cases hr)⟩ (by have := HPQ.out; omega) (by have := HPQ.out; omega) (by first | exact nilOk_nil | exact nilOk_some _ _ _ _ | exact HNO.out)
  · skip
    go_wp2_with (rw [HWK.out])
    obtain ⟨C, hC⟩ : ∃ C, C = w4.heap.size := ⟨_, rfl⟩
    rw [← hC] at HKS HK ⊢
    clear hC HWK
    clear p0 p1 p2 p3 p4' g0 g1 g2 g3 g4 o0 o1 o2 o3 o4 f0 f1 f2 f3 f4
    refine (someVars_any n0 B n 2 p4 Wk HKS.out.rd (by omega) (by omega) hn hn4 (by omega) (by omega)).mono ?_
    rintro e w5 ⟨gw, wn, wc, vars2, p5, rfl, hwn, hw1, hw4, rw5, hp5, hp5', r5, d5⟩
    have HKS5 := Lib.hid (HKS.out.dnStep HK.out d5 r5)
    have hrw : RdInts (av (qs Q0 R C) w5) (.slice (some ⟨gw, 0, none⟩) wn wc) vars2 := rw5 _ (fun b hb => qs_no (HK.out.hQ0 _ (by have := HKS.out.dn.size; omega)) (by have := HKS.out.br.lt; omega) (by have := HKS.out.bc.lt; omega))
    have HWN := Lib.hid hwn
    have hwc := (rdInts_cap hrw).2
    have HKS6 := Lib.hid (HKS5.out.setVars HK.out hrw)
    obtain ⟨W6, hW6⟩ : ∃ W6, w5.setCell ⟨C, 1, none⟩ (.slice (some ⟨gw, 0, none⟩) wn wc) = W6 := ⟨_, rfl⟩
    rw [hW6] at HKS6
    have HW6 := Lib.hid hW6
    clear hW6
    have ya := HKS5.out.bc.cell.2.1
    have za := HKS5.out.bc.frozen.2.1
    have hp5b : 0 ≤ p5 ∧ p5 ≤ p + 20 := by omega
    have HP5 : Hid (p ≤ p5 ∧ p5 ≤ p + 20) := Lib.hid (by have := HPQ.out; omega)
    clear r5 d5 rw5 hrw hwn HKS HKS5 hp5 hp5'
    go_wp2_with (rw [HW6.out])
    clear ya za
    refine (pick_dn n0 B p5 5 W6 HKS6.out.rd (by omega) (by omega) (by omega)).mono ?_
    rintro e w7 ⟨b, rfl, hb0, hb1, r7, d7⟩
    have hb2 : b ≤ 10 := by omega
    clear hb1
    have HKS7 := Lib.hid (HKS6.out.dnStep HK.out d7 r7)
    clear r7 d7 HKS6
    have bV8 : Below w7.heap.size w7 (w7.alloc (.cells #[.int .i64 (b - 2)] 3)) := (Below.refl _ _).alloc (Nat.le_refl _) _
    have HKS8 := Lib.hid (HKS7.out.below HK.out bV8)
    have hnV8 : (w7.alloc (.cells #[.int .i64 (b - 2)] 3)).ownsRow w7.heap.size 3 1 (.slice (some ⟨w7.heap.size, 0, none⟩) 1 1) 1 [.int .i64 (b - 2)] := own_one1 w7 _ _
    obtain ⟨V8, hV8⟩ : ∃ V8, w7.alloc (.cells #[.int .i64 (b - 2)] 3) = V8 := ⟨_, rfl⟩
    rw [hV8] at HKS8 hnV8
    have HV8 := Lib.hid hV8
    clear hV8 bV8
    have hrV8 : RdInts (av (qs Q0 R C) V8) (.slice (some ⟨w7.heap.size, 0, none⟩) 1 1) [(b - 2)] := rdInts_of_own (xs := [(b - 2)]) (own_av hnV8 (fun b hb => qs_no (HK.out.hQ0 _ (by have := HKS7.out.dn.size; omega)) (by have := HKS7.out.br.lt; omega) (by have := HKS7.out.bc.lt; omega)))
    clear hnV8
    have HKS9 := Lib.hid (HKS8.out.setArgs HK.out hrV8)
    obtain ⟨W9, hW9⟩ : ∃ W9, V8.setCell ⟨C, 2, none⟩ (.slice (some ⟨w7.heap.size, 0, none⟩) 1 1) = W9 := ⟨_, rfl⟩
    rw [hW9] at HKS9
    have HW9 := Lib.hid hW9
    clear hW9
    have yb := HKS8.out.bc.cell.2.2.1
    have zb := HKS8.out.bc.frozen.2.2.1
    obtain ⟨p0, p1, p2, p3, p4⟩ := HKS9.out.bc.cell
    obtain ⟨g0, g1, g2, g3, g4⟩ := HKS9.out.bc.frozen
    obtain ⟨o0, o1, o2, o3, o4⟩ := HKS9.out.br.cell
    obtain ⟨f0, f1, f2, f3, f4⟩ := HKS9.out.br.frozen
    clear hrV8
    go_wp2_with (first | rw [HV8.out] | rw [HW9.out])
    have hq := (putR_blk HKS9.out.br (.int .i64 2) (.slice (some ⟨gw, 0, none⟩) wn wc) (.slice (some ⟨w7.heap.size, 0, none⟩) 1 1) (.int .i64 0) (.slice none 0 0)).cell
    simp only [putR] at hq
    obtain ⟨q0, q1, q2, q3, q4⟩ := hq
    refine bodyPost_ret (v := .agg #[.int .i64 2, .slice (some ⟨gw, 0, none⟩) wn wc, .slice (some ⟨w7.heap.size, 0, none⟩) 1 1, .int .i64 0, .slice none 0 0]) (by simp [results, Try.results128, go_sem, q0, q1, q2, q3, q4]) rfl ?_
    exact conDn_fin (c := ⟨2, vars2, [b - 2], 0, []⟩) HK.out HKS9.out (by show 1 ≤ vars2.length; rw [← HWN.out]; exact hw1) ⟨by show vars2.length ≤ 20; rw [← HWN.out]; omega, by simp, rowsLe_of (by simp) (fun r hr => by cases hr)⟩ (by have := HP5.out; omega) (by have := HP5.out; omega) (by first | exact nilOk_nil | exact nilOk_some _ _ _ _ | exact HNO.out)
  · skip
    go_wp2_with (rw [HWK.out])
    obtain ⟨C, hC⟩ : ∃ C, C = w4.heap.size := ⟨_, rfl⟩
    rw [← hC] at HKS HK
    clear hC
    have hq := (putR_blk HKS.out.br (.int .i64 3) (.slice (some ⟨gv, 0, none⟩) vn vc) (.slice none 0 0) (.int .i64 0) (.slice none 0 0)).cell
    simp only [putR] at hq
    obtain ⟨q0, q1, q2, q3, q4⟩ := hq
    refine bodyPost_ret (v := .agg #[.int .i64 3, .slice (some ⟨gv, 0, none⟩) vn vc, .slice none 0 0, .int .i64 0, .slice none 0 0]) (by simp [results, Try.results128, go_sem, q0, q1, q2, q3, q4]) rfl ?_
    exact conDn_fin (c := ⟨3, vars, [], 0, []⟩) HK.out HKS.out (by show 1 ≤ vars.length; rw [← HVN.out]; exact hv1) ⟨by show vars.length ≤ 20; rw [← HVN.out]; omega, by simp, rowsLe_of (by simp) (fun r hr => by cases hr)⟩ (by have := HPQ.out; omega) (by have := HPQ.out; omega) (by first | exact nilOk_nil | exact nilOk_some _ _ _ _ | exact HNO.out)
  · skip
    go_wp2_with (rw [HWK.out])
    obtain ⟨C, hC⟩ : ∃ C, C = w4.heap.size := ⟨_, rfl⟩
    rw [← hC] at HKS HK ⊢
    clear hC HWK
    clear p0 p1 p2 p3 p4' g0 g1 g2 g3 g4 o0 o1 o2 o3 o4 f0 f1 f2 f3 f4
    refine (someVars_any n0 B n 2 p4 Wk HKS.out.rd (by omega) (by omega) hn hn4 (by omega) (by omega)).mono ?_
    rintro e w5 ⟨gw, wn, wc, vars2, p5, rfl, hwn, hw1, hw4, rw5, hp5, hp5', r5, d5⟩
    have HKS5 := Lib.hid (HKS.out.dnStep HK.out d5 r5)
    have hrw : RdInts (av (qs Q0 R C) w5) (.slice (some ⟨gw, 0, none⟩) wn wc) vars2 := rw5 _ (fun b hb => qs_no (HK.out.hQ0 _ (by have := HKS.out.dn.size; omega)) (by have := HKS.out.br.lt; omega) (by have := HKS.out.bc.lt; omega))
    have HWN := Lib.hid hwn
    have hwc := (rdInts_cap hrw).2
    have HKS6 := Lib.hid (HKS5.out.setVars HK.out hrw)
    obtain ⟨W6, hW6⟩ : ∃ W6, w5.setCell ⟨C, 1, none⟩ (.slice (some ⟨gw, 0, none⟩) wn wc) = W6 := ⟨_, rfl⟩
    rw [hW6] at HKS6
    have HW6 := Lib.hid hW6
    clear hW6
    have ya := HKS5.out.bc.cell.2.1
    have za := HKS5.out.bc.frozen.2.1
    have hp5b : 0 ≤ p5 ∧ p5 ≤ p + 20 := by omega
    have HP5 : Hid (p ≤ p5 ∧ p5 ≤ p + 20) := Lib.hid (by have := HPQ.out; omega)
    clear r5 d5 rw5 hrw hwn HKS HKS5 hp5 hp5'
    go_wp2_with (rw [HW6.out])
    clear ya za
    refine (pick_dn n0 B p5 6 W6 HKS6.out.rd (by omega) (by omega) (by omega)).mono ?_
    rintro e w7 ⟨b, rfl, hb0, hb1, r7, d7⟩
    obtain ⟨b, rfl⟩ := Int.eq_ofNat_of_zero_le hb0
    have hb5 : b ≤ 5 := by omega
    have HKS7 := Lib.hid (HKS6.out.dnStep HK.out d7 r7)
    clear r7 d7 HKS6 hb0 hb1
    have hb1' : (1 : Int) + (b : Int) = ((b + 1 : Nat) : Int) := by omega
    have HB1 := Lib.hid hb1'
    clear hb1'
    go_wp2_with fail
    rw [HB1.out]
    refine (randomRow_some n0 B (b + 1) (p5 + 1) w7 HKS7.out.rd (by omega) (by omega) (by omega)).mono ?_
    rintro e w8 ⟨v8, xs, p8, rfl, hx8, o8, hp8, hp8', r8, d8, gx, cx, rfl⟩
    have hxl := hx8.1
    have HXL := Lib.hid hxl
    have HKS8 := Lib.hid (HKS7.out.dnStep HK.out d8 r8)
    have hrv : RdInts (av (qs Q0 R C) w8) (.slice (some ⟨gx, 0, none⟩) xs.length cx) xs := rdInts_of_own (own_av o8 (fun b hb => qs_no (HK.out.hQ0 _ (by have := HKS7.out.dn.size; omega)) (by have := HKS7.out.br.lt; omega) (by have := HKS7.out.bc.lt; omega)))
    obtain ⟨xn, hxn⟩ : ∃ xn, xn = xs.length := ⟨_, rfl⟩
    rw [← hxn] at hrv hxl ⊢
    have HXN := Lib.hid hxn
    have HP8 : Hid (p ≤ p8 ∧ p8 ≤ p + 40) := Lib.hid (by have := HP5.out; omega)
    clear hxn o8 r8 d8 hx8 HKS7 hxl
    have HKS9 := Lib.hid (HKS8.out.setArgs HK.out hrv)
    obtain ⟨W9, hW9⟩ : ∃ W9, w8.setCell ⟨C, 2, none⟩ (.slice (some ⟨gx, 0, none⟩) xn cx) = W9 := ⟨_, rfl⟩
    rw [hW9] at HKS9
    have HW9 := Lib.hid hW9
    clear hW9
    have yb := HKS8.out.bc.cell.2.2.1
    have zb := HKS8.out.bc.frozen.2.2.1
    obtain ⟨p0, p1, p2, p3, p4⟩ := HKS9.out.bc.cell
    obtain ⟨g0, g1, g2, g3, g4⟩ := HKS9.out.bc.frozen
    obtain ⟨o0, o1, o2, o3, o4⟩ := HKS9.out.br.cell
    obtain ⟨f0, f1, f2, f3, f4⟩ := HKS9.out.br.frozen
    clear hrv
    go_wp2_with (rw [HW9.out])
    have hq := (putR_blk HKS9.out.br (.int .i64 4) (.slice (some ⟨gw, 0, none⟩) wn wc) (.slice (some ⟨gx, 0, none⟩) xn cx) (.int .i64 0) (.slice none 0 0)).cell
    simp only [putR] at hq
    obtain ⟨q0, q1, q2, q3, q4⟩ := hq
    refine bodyPost_ret (v := .agg #[.int .i64 4, .slice (some ⟨gw, 0, none⟩) wn wc, .slice (some ⟨gx, 0, none⟩) xn cx, .int .i64 0, .slice none 0 0]) (by simp [results, Try.results128, go_sem, q0, q1, q2, q3, q4]) rfl ?_
    exact conDn_fin (c := ⟨4, vars2, xs, 0, []⟩) HK.out HKS9.out (by show 1 ≤ vars2.length; rw [← HWN.out]; exact hw1) ⟨by show vars2.length ≤ 20; rw [← HWN.out]; omega, by show xs.length ≤ 20; rw [HXL.out]; omega, rowsLe_of (by simp) (fun r hr => by cases hr)⟩ (by have := HP8.out; omega) (by have := HP8.out; omega) (by first | exact nilOk_nil | exact nilOk_some _ _ _ _ | exact HNO.out)
  · skip
    go_wp2_with (rw [HWK.out])
    obtain ⟨C, hC⟩ : ∃ C, C = w4.heap.size := ⟨_, rfl⟩
    rw [← hC] at HKS HK ⊢
    clear hC HWK
    clear p0 p1 p2 p3 p4' g0 g1 g2 g3 g4 o0 o1 o2 o3 o4 f0 f1 f2 f3 f4
    refine (pick_dn n0 B p4 6 Wk HKS.out.rd (by omega) (by omega) (by omega)).mono ?_
    rintro e wt ⟨b, rfl, hb0, hb1, rt, dt⟩
    obtain ⟨b, rfl⟩ := Int.eq_ofNat_of_zero_le hb0
    have hb5 : b ≤ 5 := by omega
    have HKT := Lib.hid (HKS.out.dnStep HK.out dt rt)
    clear HKS
    have HKS := HKT
    obtain ⟨Wq, hWq⟩ : ∃ Wq, Wq = Wk := ⟨_, rfl⟩
    clear HKT rt dt hb0 hb1 hWq Wq
    have hb1' : (1 : Int) + (b : Int) = ((b + 1 : Nat) : Int) := by omega
    have HB1 := Lib.hid hb1'
    clear hb1'
    go_wp2_with fail
    rw [HB1.out]
    obtain ⟨b', hb'⟩ : ∃ b', b' = b + 1 := ⟨_, rfl⟩
    rw [← hb']
    have hb6 : b' ≤ 6 := by omega
    clear HB1 hb'
    go_loopw [8] (fun i wr => ∃ (i' j : Nat) (ua : Option Addr) (cap : Nat) (us : List Value) (rows : List (List Int)) (q : Int), i' + j ≤ 6 ∧ i = .int .i64 i' ∧ p4 ≤ q ∧ q ≤ p4 + 1 + 5 * j ∧ Hid (LR Q0 n0 B R C w wt wr q ⟨5, vars, [], 0, []⟩ (.slice (some ⟨gv, 0, none⟩) vn vc) (.slice none 0 0) ua j cap us rows) ∧ Hid (∀ r ∈ rows, r.length ≤ 6)) (fun i _ => (intOf i).toNat)
    case atStart => exact ⟨b', 0, none, 0, [], [], p4 + 1, by omega, rfl, by omega, by omega, Lib.hid (LR.start HKS.out), Lib.hid (fun r hr => by cases hr)⟩
    case round =>
      obtain ⟨i', j, ua, cap, us, rows, q, hij, rfl, hq, hq2, HL, HRS⟩ := hrel
      by_cases hiv : 0 < i'
      · have hS : wr.drew.cell? ⟨C, 4, none⟩ = some (.slice ua j cap) := HL.out.bc.cell.2.2.2.2
        have hClt : C < wr.drew.heap.size := HL.out.bc.lt
        have hCB : C ≠ B := by have := HK.out.hC; have := HK.out.hB; omega
        have HX := Lib.hid (And.intro hClt hCB)
        clear hClt hCB
        go_wp2_with fail
        obtain ⟨hClt, hCB⟩ := HX.out
        refine region_x (fun w' => w'.cell? ⟨C, 4, none⟩ = some (.slice ua j cap)) (fun i => i == 8) rfl ?_
        change wpAnyX Try.prog .any _ _ _ _ 9 _ (kcActB _ _ _ _ _ _ _ _ _ _ _ _ _ _ _ _ _ _ _ _ _ _ _ _ _ _ _ _ _ _ _ _ _ _ _ _ _ _ _ _ _ _ _ _ _ _ _ _ _ _ _ _ _ _ _ _ _ _ _ _ _ _ _ _ _ _ _ _ _ _ _ _ _ _ _ _ _ _ _ _ _ _ _ _ _ _ _ _ _ _ _ _ _ _ _ _ _ _ _ _ _ _ _ _ _ _ _ _ _ _ _ _ _ _ _ _ _ _ _ _ _ _ _ _ _ _ _ _ _ _ _ _ _ _ _ _ _ _ _ _ _ _) wr.drew
        refine wpAnyX_take (i := 0) (v := .pointer (some ⟨C, 4, none⟩)) rfl (by kernel_rfl) (by kernel_rfl) (by kernel_rfl) (by kernel_rfl) (fun _ _ _ h => h) (.inl ⟨rfl, fun w' hw' => k_field4 rfl rfl⟩) hS ?_
        change wpAnyX Try.prog .any _ _ _ _ 8 _ (kcActB _ _ _ _ _ _ _ _ _ _ _ _ _ _ _ _ _ _ _ _ _ _ _ _ _ _ _ _ _ _ _ _ _ _ _ _ _ _ _ _ _ _ _ _ _ _ _ _ _ _ _ _ _ _ _ _ _ _ _ _ _ _ _ _ _ _ _ _ _ _ _ _ _ _ _ _ _ _ _ _ _ _ _ _ _ _ _ _ _ _ _ (.pointer (some ⟨C, 4, none⟩)) _ _ _ _ _ _ _ _ _ _ _ _ _ _ _ _ _ _ _ _ _ _ _ _ _ _ _ _ _ _ _ _ _ _ _ _ _ _ _ _ _ _ _ _ _ _ _ _ _ _) wr.drew
        refine wpAnyX_take (i := 1) (v := .slice ua j cap) rfl (by kernel_rfl) (by kernel_rfl) (by kernel_rfl) (by kernel_rfl) (fun _ _ _ h => h) (.inl ⟨rfl, fun w' hw' => exec_load rfl rfl (k_loadR w' _ _ _ _ _ hw')⟩) hS ?_
        change wpAnyX Try.prog .any _ _ _ _ 7 _ (kcActB _ _ _ _ _ _ _ _ _ _ _ _ _ _ _ _ _ _ _ _ _ _ _ _ _ _ _ _ _ _ _ _ _ _ _ _ _ _ _ _ _ _ _ _ _ _ _ _ _ _ _ _ _ _ _ _ _ _ _ _ _ _ _ _ _ _ _ _ _ _ _ _ _ _ _ _ _ _ _ _ _ _ _ _ _ _ _ _ _ _ _ (.pointer (some ⟨C, 4, none⟩)) (.slice ua j cap) _ _ _ _ _ _ _ _ _ _ _ _ _ _ _ _ _ _ _ _ _ _ _ _ _ _ _ _ _ _ _ _ _ _ _ _ _ _ _ _ _ _ _ _ _ _ _ _ _) wr.drew
        refine wpAnyX_take (i := 2) (v := .pointer (some ⟨B, 0, none⟩)) rfl (by kernel_rfl) (by kernel_rfl) (by kernel_rfl) (by kernel_rfl) (fun _ _ _ h => h) (.inl ⟨rfl, fun w' hw' => rfl⟩) hS ?_
        change wpAnyX Try.prog .any _ _ _ _ 6 _ (kcActB _ _ _ _ _ _ _ _ _ _ _ _ _ _ _ _ _ _ _ _ _ _ _ _ _ _ _ _ _ _ _ _ _ _ _ _ _ _ _ _ _ _ _ _ _ _ _ _ _ _ _ _ _ _ _ _ _ _ _ _ _ _ _ _ _ _ _ _ _ _ _ _ _ _ _ _ _ _ _ _ _ _ _ _ _ _ _ _ _ _ _ (.pointer (some ⟨C, 4, none⟩)) (.slice ua j cap) (.pointer (some ⟨B, 0, none⟩)) _ _ _ _ _ _ _ _ _ _ _ _ _ _ _ _ _ _ _ _ _ _ _ _ _ _ _ _ _ _ _ _ _ _ _ _ _ _ _ _ _ _ _ _ _ _ _ _) wr.drew
        refine wpAnyX_take (i := 3) (v := .int .i64 vn) rfl (by kernel_rfl) (by kernel_rfl) (by kernel_rfl) (by kernel_rfl) (fun _ _ _ h => h) (.inl ⟨rfl, fun w' hw' => rfl⟩) hS ?_
        change wpAnyX Try.prog .any _ _ _ _ 5 _ (kcActB _ _ _ _ _ _ _ _ _ _ _ _ _ _ _ _ _ _ _ _ _ _ _ _ _ _ _ _ _ _ _ _ _ _ _ _ _ _ _ _ _ _ _ _ _ _ _ _ _ _ _ _ _ _ _ _ _ _ _ _ _ _ _ _ _ _ _ _ _ _ _ _ _ _ _ _ _ _ _ _ _ _ _ _ _ _ _ _ _ _ _ (.pointer (some ⟨C, 4, none⟩)) (.slice ua j cap) (.pointer (some ⟨B, 0, none⟩)) (.int .i64 vn) _ _ _ _ _ _ _ _ _ _ _ _ _ _ _ _ _ _ _ _ _ _ _ _ _ _ _ _ _ _ _ _ _ _ _ _ _ _ _ _ _ _ _ _ _ _ _) wr.drew
        refine wpAnyX_one (i := 4) (by kernel_rfl) rfl (fun K' hK' => ?_)
        refine k_call2 _ rfl 163 _ _ _ _ _ rfl rfl rfl (enters_of Try.func163 (by kernel_rfl) rfl) _ (randomRow_some n0 B vn q wr.drew (HL.out.rd.drewN 1) (by omega) (by omega) (by omega)) (fun c w' h => by obtain ⟨_, _, _, h, _⟩ := h; cases h) (fun w' h => by obtain ⟨_, _, _, h, _⟩ := h; cases h) ?_
        rintro vz w5 ⟨v5, xs, q5, ev, hx5, o5, hq5, hq5', r5, d5, gx, cx, e5⟩
        obtain rfl : vz = v5 := by injection ev
        subst e5
        obtain ⟨xn, hxn⟩ : ∃ xn, xn = xs.length := ⟨_, rfl⟩
        rw [← hxn] at o5 ⊢
        have HXN := Lib.hid hxn
        clear hxn ev
        have hd5 : Dn B wr w5 := (Dn.of_below (Below.refl _ wr).drew).trans d5
        have hS5 : w5.cell? ⟨C, 4, none⟩ = some (.slice ua j cap) := (wo_cell_same (d5.block C hClt hCB)).trans hS
        refine hK'.out _ _ (fun _ => hS5) ?_
        clear hK' K'
        change wpAnyX Try.prog .any _ _ _ _ 4 _ (kcActB _ _ _ _ _ _ _ _ _ _ _ _ _ _ _ _ _ _ _ _ _ _ _ _ _ _ _ _ _ _ _ _ _ _ _ _ _ _ _ _ _ _ _ _ _ _ _ _ _ _ _ _ _ _ _ _ _ _ _ _ _ _ _ _ _ _ _ _ _ _ _ _ _ _ _ _ _ _ _ _ _ _ _ _ _ _ _ _ _ _ _ (.pointer (some ⟨C, 4, none⟩)) (.slice ua j cap) (.pointer (some ⟨B, 0, none⟩)) (.int .i64 vn) (.slice (some ⟨gx, 0, none⟩) xn cx) _ _ _ _ _ _ _ _ _ _ _ _ _ _ _ _ _ _ _ _ _ _ _ _ _ _ _ _ _ _ _ _ _ _ _ _ _ _ _ _ _ _ _ _ _ _) w5
        refine wpAnyX_one (i := 5) (by kernel_rfl) rfl (fun K' hK' => ?_)
        refine step_value _ (w5.alloc (.cells #[.slice (some ⟨gx, 0, none⟩) xn cx] 32)) rfl _ (k_exec1 rfl rfl (k_build1R w5 _ _ _)) ?_
        have bV3 : Below w5.heap.size w5 (w5.alloc (.cells #[.slice (some ⟨gx, 0, none⟩) xn cx] 32)) := (Below.refl _ _).alloc (Nat.le_refl _) _
        have hS3 := (bV3.cell (Nat.lt_of_lt_of_le hClt hd5.size)).trans hS5
        have hs5 : wt.heap.size ≤ w5.heap.size := Nat.le_trans HL.out.fr.size hd5.size
        have hown3 : (w5.alloc (.cells #[.slice (some ⟨gx, 0, none⟩) xn cx] 32)).ownsRow wt.heap.size 32 1 (.slice ua j cap) j us := (by have := (own_dn HL.out.own.2.1 HKS.out.rd.lt hd5).alloc (.cells #[.slice (some ⟨gx, 0, none⟩) xn cx] 32); rw [HL.out.len] at this; exact this)
        refine hK'.out _ _ (fun _ => hS3) ?_
        clear hK' K'
        change wpAnyX Try.prog .any _ _ _ _ 3 _ (kcActB _ _ _ _ _ _ _ _ _ _ _ _ _ _ _ _ _ _ _ _ _ _ _ _ _ _ _ _ _ _ _ _ _ _ _ _ _ _ _ _ _ _ _ _ _ _ _ _ _ _ _ _ _ _ _ _ _ _ _ _ _ _ _ _ _ _ _ _ _ _ _ _ _ _ _ _ _ _ _ _ _ _ _ _ _ _ _ _ _ _ _ (.pointer (some ⟨C, 4, none⟩)) (.slice ua j cap) (.pointer (some ⟨B, 0, none⟩)) (.int .i64 vn) (.slice (some ⟨gx, 0, none⟩) xn cx) (.slice (some ⟨w5.heap.size, 0, none⟩) 1 1) _ _ _ _ _ _ _ _ _ _ _ _ _ _ _ _ _ _ _ _ _ _ _ _ _ _ _ _ _ _ _ _ _ _ _ _ _ _ _ _ _ _ _ _ _) (w5.alloc (.cells #[.slice (some ⟨gx, 0, none⟩) xn cx] 32))
        refine wpAnyX_one (i := 6) (by kernel_rfl) rfl (fun K' hK' => ?_)
        refine k_appendR rfl _ _ rfl wt.heap.size (.slice ua j cap) us j w5.heap.size _ _ _ rfl rfl hown3 (cell_one_new _ _ _ 0 _ rfl) (by simp; omega) (by omega) ?_
        intro v6 w6 own6 grow6
        obtain ⟨ua', cap', ev6, hc6, hc6'⟩ := own_form own6
        subst ev6
        have hlow : Below wt.heap.size w5 w6 := ((Below.refl wt.heap.size w5).alloc hs5 _).grown grow6 (by simp; omega) (fun g e => (HL.out.own.2.1.lt g e).1)
        have hS6 : w6.cell? ⟨C, 4, none⟩ = some (.slice ua j cap) := (hlow.cell HKS.out.bc.lt).trans hS5
        have hF6 : w6.frozen? ⟨C, 4, none⟩ = false := (hlow.frozen HKS.out.bc.lt).trans ((frozen_dnB (hd5) HL.out.bc.lt hCB 4).trans HL.out.bc.frozen.2.2.2.2)
        refine hK'.out _ _ (fun _ => hS6) ?_
        clear hK' K'
        change wpAnyX Try.prog .any _ _ _ _ 2 _ (kcActB _ _ _ _ _ _ _ _ _ _ _ _ _ _ _ _ _ _ _ _ _ _ _ _ _ _ _ _ _ _ _ _ _ _ _ _ _ _ _ _ _ _ _ _ _ _ _ _ _ _ _ _ _ _ _ _ _ _ _ _ _ _ _ _ _ _ _ _ _ _ _ _ _ _ _ _ _ _ _ _ _ _ _ _ _ _ _ _ _ _ _ (.pointer (some ⟨C, 4, none⟩)) (.slice ua j cap) (.pointer (some ⟨B, 0, none⟩)) (.int .i64 vn) (.slice (some ⟨gx, 0, none⟩) xn cx) (.slice (some ⟨w5.heap.size, 0, none⟩) 1 1) (.slice ua' (j + 1) cap') _ _ _ _ _ _ _ _ _ _ _ _ _ _ _ _ _ _ _ _ _ _ _ _ _ _ _ _ _ _ _ _ _ _ _ _ _ _ _ _ _ _ _ _) w6
        refine wpAnyX_take (i := 7) (v := .pointer (some ⟨C, 4, none⟩)) rfl (by kernel_rfl) (by kernel_rfl) (by kernel_rfl) (by kernel_rfl) (fun _ _ _ h => h) (.inl ⟨rfl, fun w' hw' => k_field4 rfl rfl⟩) hS6 ?_
        change wpAnyX Try.prog .any _ _ _ _ 1 _ (kcActB _ _ _ _ _ _ _ _ _ _ _ _ _ _ _ _ _ _ _ _ _ _ _ _ _ _ _ _ _ _ _ _ _ _ _ _ _ _ _ _ _ _ _ _ _ _ _ _ _ _ _ _ _ _ _ _ _ _ _ _ _ _ _ _ _ _ _ _ _ _ _ _ _ _ _ _ _ _ _ _ _ _ _ _ _ _ _ _ _ _ _ (.pointer (some ⟨C, 4, none⟩)) (.slice ua j cap) (.pointer (some ⟨B, 0, none⟩)) (.int .i64 vn) (.slice (some ⟨gx, 0, none⟩) xn cx) (.slice (some ⟨w5.heap.size, 0, none⟩) 1 1) (.slice ua' (j + 1) cap') (.pointer (some ⟨C, 4, none⟩)) _ _ _ _ _ _ _ _ _ _ _ _ _ _ _ _ _ _ _ _ _ _ _ _ _ _ _ _ _ _ _ _ _ _ _ _ _ _ _ _ _ _ _) w6
        refine wpAnyX_one (i := 8) (by kernel_rfl) rfl (fun K' hK' => ?_)
        refine step_skip _ (w6.setCell ⟨C, 4, none⟩ (.slice ua' (j + 1) cap')) rfl (exec_store rfl rfl rfl (k_storeR w6 C 4 ua ua' j cap (j + 1) cap' hS6 hF6)) ?_
        refine hK'.out _ _ (fun h => by cases h) ?_
        clear hK' K'
        change wpAnyX Try.prog .any _ _ _ _ 0 _ (kcActB _ _ _ _ _ _ _ _ _ _ _ _ _ _ _ _ _ _ _ _ _ _ _ _ _ _ _ _ _ _ _ _ _ _ _ _ _ _ _ _ _ _ _ _ _ _ _ _ _ _ _ _ _ _ _ _ _ _ _ _ _ _ _ _ _ _ _ _ _ _ _ _ _ _ _ _ _ _ _ _ _ _ _ _ _ _ _ _ _ _ _ (.pointer (some ⟨C, 4, none⟩)) (.slice ua j cap) (.pointer (some ⟨B, 0, none⟩)) (.int .i64 vn) (.slice (some ⟨gx, 0, none⟩) xn cx) (.slice (some ⟨w5.heap.size, 0, none⟩) 1 1) (.slice ua' (j + 1) cap') (.pointer (some ⟨C, 4, none⟩)) _ _ _ _ _ _ _ _ _ _ _ _ _ _ _ _ _ _ _ _ _ _ _ _ _ _ _ _ _ _ _ _ _ _ _ _ _ _ _ _ _ _ _) (w6.setCell ⟨C, 4, none⟩ (.slice ua' (j + 1) cap'))
        refine wpAnyX_done (by kernel_rfl) ?_ _
        unfold kcActB
        have HL6 := Lib.hid (LR.push (r := xs) HK.out HKS.out HL.out hd5 r5 (by rw [← HXN.out]; exact o5) rfl own6 grow6)
        have HR6 : Hid (∀ r ∈ rows ++ [xs], r.length ≤ 6) := Lib.hid (fun r hr => by rcases List.mem_append.1 hr with hr | hr; (· exact HRS.out r hr); (· rw [List.mem_singleton] at hr; subst hr; rw [hx5.1]; omega))
        clear hS hS5 hS3 hS6 hF6 own6 grow6 hown3 bV3 hlow d5 r5 hd5 hs5 HL hClt hCB hx5 o5 HXN HRS
        go_wp2
        go_roundw
        case rel => exact ⟨i' - 1, j + 1, ua', cap', _, rows ++ [xs], q5, by omega, by go_num, by omega, by omega, HL6, HR6⟩
        case measure => simp [intOf]; omega
      · obtain rfl : i' = 0 := by omega
        have HXL : Hid (rows.length ≤ 20) := Lib.hid (by rw [← HL.out.own.1, HL.out.len]; omega)
        have HKS2 := Lib.hid (LR.ks HK.out HKS.out HL.out)
        obtain ⟨p0, p1, p2, p3, p4⟩ := HKS2.out.bc.cell
        obtain ⟨g0, g1, g2, g3, g4⟩ := HKS2.out.bc.frozen
        obtain ⟨o0, o1, o2, o3, o4⟩ := HKS2.out.br.cell
        obtain ⟨f0, f1, f2, f3, f4⟩ := HKS2.out.br.frozen
        clear HL
        go_wp2
        have hq := (putR_blk HKS2.out.br (.int .i64 5) (.slice (some ⟨gv, 0, none⟩) vn vc) (.slice none 0 0) (.int .i64 0) (.slice ua j cap)).cell
        simp only [putR] at hq
        obtain ⟨q0, q1, q2, q3, q4⟩ := hq
        refine bodyPost_ret (v := .agg #[.int .i64 5, .slice (some ⟨gv, 0, none⟩) vn vc, .slice none 0 0, .int .i64 0, .slice ua j cap]) (by simp [results, Try.results128, go_sem, q0, q1, q2, q3, q4]) rfl ?_
        exact conDn_fin (c := ⟨5, vars, [], 0, rows⟩) HK.out HKS2.out (by show 1 ≤ vars.length; rw [← HVN.out]; exact hv1) ⟨by show vars.length ≤ 20; rw [← HVN.out]; omega, by simp, rowsLe_of HXL.out (fun r hr => Nat.le_trans (HRS.out r hr) (by omega))⟩ (by have := HPQ.out; omega) (by have := HPQ.out; omega) (by first | exact nilOk_nil | exact nilOk_some _ _ _ _ | exact HNO.out)
  · skip
    go_wp2_with (rw [HWK.out])
    obtain ⟨C, hC⟩ : ∃ C, C = w4.heap.size := ⟨_, rfl⟩
    rw [← hC] at HKS HK ⊢
    clear hC HWK
    clear p0 p1 p2 p3 p4' g0 g1 g2 g3 g4 o0 o1 o2 o3 o4 f0 f1 f2 f3 f4
    refine (pick_dn n0 B p4 6 Wk HKS.out.rd (by omega) (by omega) (by omega)).mono ?_
    rintro e w7 ⟨b, rfl, hb0, hb1, r7, d7⟩
    have hb2 : b ≤ 10 := by omega
    clear hb1
    have HKS7 := Lib.hid (HKS.out.dnStep HK.out d7 r7)
    clear r7 d7 HKS
    have bV8 : Below w7.heap.size w7 (w7.alloc (.cells #[.int .i64 b] 3)) := (Below.refl _ _).alloc (Nat.le_refl _) _
    have HKS8 := Lib.hid (HKS7.out.below HK.out bV8)
    have hnV8 : (w7.alloc (.cells #[.int .i64 b] 3)).ownsRow w7.heap.size 3 1 (.slice (some ⟨w7.heap.size, 0, none⟩) 1 1) 1 [.int .i64 b] := own_one1 w7 _ _
    obtain ⟨V8, hV8⟩ : ∃ V8, w7.alloc (.cells #[.int .i64 b] 3) = V8 := ⟨_, rfl⟩
    rw [hV8] at HKS8 hnV8
    have HV8 := Lib.hid hV8
    clear hV8 bV8
    have hrV8 : RdInts (av (qs Q0 R C) V8) (.slice (some ⟨w7.heap.size, 0, none⟩) 1 1) [b] := rdInts_of_own (xs := [b]) (own_av hnV8 (fun b hb => qs_no (HK.out.hQ0 _ (by have := HKS7.out.dn.size; omega)) (by have := HKS7.out.br.lt; omega) (by have := HKS7.out.bc.lt; omega)))
    clear hnV8
    have HKS9 := Lib.hid (HKS8.out.setArgs HK.out hrV8)
    obtain ⟨W9, hW9⟩ : ∃ W9, V8.setCell ⟨C, 2, none⟩ (.slice (some ⟨w7.heap.size, 0, none⟩) 1 1) = W9 := ⟨_, rfl⟩
    rw [hW9] at HKS9
    have HW9 := Lib.hid hW9
    clear hW9
    have yb := HKS8.out.bc.cell.2.2.1
    have zb := HKS8.out.bc.frozen.2.2.1
    clear hrV8 HKS7
    go_wp2_with (first | rw [HV8.out] | rw [HW9.out])
    clear yb zb
    refine (pick_dn n0 B (p4 + 1) 4 W9 HKS9.out.rd (by omega) (by omega) (by omega)).mono ?_
    rintro e w10 ⟨d, rfl, hd0, hd1, r10, d10⟩
    have hd2 : d ≤ 10 := by omega
    clear hd1
    have HKS10 := Lib.hid (HKS9.out.dnStep HK.out d10 r10)
    clear r10 d10 HKS9 HKS8
    have HKS11 := Lib.hid (HKS10.out.bound HK.out d)
    obtain ⟨W11, hW11⟩ : ∃ W11, w10.setCell ⟨C, 3, none⟩ (.int .i64 d) = W11 := ⟨_, rfl⟩
    rw [hW11] at HKS11
    have HW11 := Lib.hid hW11
    clear hW11
    have yc := HKS10.out.bc.cell.2.2.2.1
    have zc := HKS10.out.bc.frozen.2.2.2.1
    obtain ⟨p0, p1, p2, p3, p4⟩ := HKS11.out.bc.cell
    obtain ⟨g0, g1, g2, g3, g4⟩ := HKS11.out.bc.frozen
    obtain ⟨o0, o1, o2, o3, o4⟩ := HKS11.out.br.cell
    obtain ⟨f0, f1, f2, f3, f4⟩ := HKS11.out.br.frozen
    go_wp2_with (rw [HW11.out])
    have hq := (putR_blk HKS11.out.br (.int .i64 6) (.slice (some ⟨gv, 0, none⟩) vn vc) (.slice (some ⟨w7.heap.size, 0, none⟩) 1 1) (.int .i64 d) (.slice none 0 0)).cell
    simp only [putR] at hq
    obtain ⟨q0, q1, q2, q3, q4⟩ := hq
    refine bodyPost_ret (v := .agg #[.int .i64 6, .slice (some ⟨gv, 0, none⟩) vn vc, .slice (some ⟨w7.heap.size, 0, none⟩) 1 1, .int .i64 d, .slice none 0 0]) (by simp [results, Try.results128, go_sem, q0, q1, q2, q3, q4]) rfl ?_
    exact conDn_fin (c := ⟨6, vars, [b], d, []⟩) HK.out HKS11.out (by show 1 ≤ vars.length; rw [← HVN.out]; exact hv1) ⟨by show vars.length ≤ 20; rw [← HVN.out]; omega, by simp, rowsLe_of (by simp) (fun r hr => by cases hr)⟩ (by have := HPQ.out; omega) (by have := HPQ.out; omega) (by first | exact nilOk_nil | exact nilOk_some _ _ _ _ | exact HNO.out)
  · skip
    go_wp2_with (rw [HWK.out])
    obtain ⟨C, hC⟩ : ∃ C, C = w4.heap.size := ⟨_, rfl⟩
    rw [← hC] at HKS HK ⊢
    clear hC HWK
    clear p0 p1 p2 p3 p4' g0 g1 g2 g3 g4 o0 o1 o2 o3 o4 f0 f1 f2 f3 f4
    go_loopw [9] (fun i wr => ∃ (j : Nat) (ua : Option Addr) (cap : Nat) (xs : List Int) (q : Int), j ≤ 2 * vn ∧ i = .int .i64 j ∧ p4 ≤ q ∧ q ≤ p4 + j ∧ Hid (LI Q0 n0 B R C w Wk wr q ⟨7, vars, [], 0, []⟩ (.slice (some ⟨gv, 0, none⟩) vn vc) (.slice none 0 0) ua j cap xs)) (fun i _ => 2 * vn - (intOf i).toNat)
    case atStart => exact ⟨0, none, 0, [], p4, Nat.zero_le _, rfl, by omega, by omega, Lib.hid (LI.start HKS.out)⟩
    case round =>
      obtain ⟨j, ua, cap, xs, q, hj, rfl, hq, hq2, HL⟩ := hrel
      by_cases hjv : j < 2 * vn
      · have hS : wr.drew.cell? ⟨C, 2, none⟩ = some (.slice ua j cap) := HL.out.bc.cell.2.2.1
        have hClt : C < wr.drew.heap.size := HL.out.bc.lt
        have hCB : C ≠ B := by have := HK.out.hC; have := HK.out.hB; omega
        have HX := Lib.hid (And.intro hClt hCB)
        clear hClt hCB
        have hj30 : j ≤ 30 := by omega
        go_wp2_with fail
        obtain ⟨hClt, hCB⟩ := HX.out
        refine region_x (fun w' => w'.cell? ⟨C, 2, none⟩ = some (.slice ua j cap)) (fun i => i == 7) rfl ?_
        change wpAnyX Try.prog .any _ _ _ _ 8 _ (kcActB _ _ _ _ _ _ _ _ _ _ _ _ _ _ _ _ _ _ _ _ _ _ _ _ _ _ _ _ _ _ _ _ _ _ _ _ _ _ _ _ _ _ _ _ _ _ _ _ _ _ _ _ _ _ _ _ _ _ _ _ _ _ _ _ _ _ _ _ _ _ _ _ _ _ _ _ _ _ _ _ _ _ _ _ _ _ _ _ _ _ _ _ _ _ _ _ _ _ _ _ _ _ _ _ _ _ _ _ _ _ _ _ _ _ _ _ _ _ _ _ _ _ _ _ _ _ _ _ _ _ _ _ _ _ _ _ _ _ _ _ _ _) wr.drew
        refine wpAnyX_take (i := 0) (v := .pointer (some ⟨C, 2, none⟩)) rfl (by kernel_rfl) (by kernel_rfl) (by kernel_rfl) (by kernel_rfl) (fun _ _ _ h => h) (.inl ⟨rfl, fun w' hw' => k_field2 rfl rfl⟩) hS ?_
        change wpAnyX Try.prog .any _ _ _ _ 7 _ (kcActB _ _ _ _ _ _ _ _ _ _ _ _ _ _ _ _ _ _ _ _ _ _ _ _ _ _ _ _ _ _ _ _ _ _ _ _ _ _ _ _ _ _ _ _ _ _ _ _ _ _ _ _ _ _ _ _ _ _ _ _ _ _ _ _ _ _ _ _ _ _ _ _ _ _ _ _ _ _ _ _ _ _ _ _ _ _ _ _ _ _ _ _ _ _ _ _ _ _ _ _ _ _ _ _ _ _ _ _ _ _ _ _ _ _ _ _ (.pointer (some ⟨C, 2, none⟩)) _ _ _ _ _ _ _ _ _ _ _ _ _ _ _ _ _ _ _ _ _ _ _ _ _) wr.drew
        refine wpAnyX_take (i := 1) (v := .slice ua j cap) rfl (by kernel_rfl) (by kernel_rfl) (by kernel_rfl) (by kernel_rfl) (fun _ _ _ h => h) (.inl ⟨rfl, fun w' hw' => exec_load rfl rfl (k_loadI w' _ _ _ _ _ hw')⟩) hS ?_
        change wpAnyX Try.prog .any _ _ _ _ 6 _ (kcActB _ _ _ _ _ _ _ _ _ _ _ _ _ _ _ _ _ _ _ _ _ _ _ _ _ _ _ _ _ _ _ _ _ _ _ _ _ _ _ _ _ _ _ _ _ _ _ _ _ _ _ _ _ _ _ _ _ _ _ _ _ _ _ _ _ _ _ _ _ _ _ _ _ _ _ _ _ _ _ _ _ _ _ _ _ _ _ _ _ _ _ _ _ _ _ _ _ _ _ _ _ _ _ _ _ _ _ _ _ _ _ _ _ _ _ _ (.pointer (some ⟨C, 2, none⟩)) (.slice ua j cap) _ _ _ _ _ _ _ _ _ _ _ _ _ _ _ _ _ _ _ _ _ _ _ _) wr.drew
        refine wpAnyX_take (i := 2) (v := .pointer (some ⟨B, 0, none⟩)) rfl (by kernel_rfl) (by kernel_rfl) (by kernel_rfl) (by kernel_rfl) (fun _ _ _ h => h) (.inl ⟨rfl, fun w' hw' => rfl⟩) hS ?_
        change wpAnyX Try.prog .any _ _ _ _ 5 _ (kcActB _ _ _ _ _ _ _ _ _ _ _ _ _ _ _ _ _ _ _ _ _ _ _ _ _ _ _ _ _ _ _ _ _ _ _ _ _ _ _ _ _ _ _ _ _ _ _ _ _ _ _ _ _ _ _ _ _ _ _ _ _ _ _ _ _ _ _ _ _ _ _ _ _ _ _ _ _ _ _ _ _ _ _ _ _ _ _ _ _ _ _ _ _ _ _ _ _ _ _ _ _ _ _ _ _ _ _ _ _ _ _ _ _ _ _ _ (.pointer (some ⟨C, 2, none⟩)) (.slice ua j cap) (.pointer (some ⟨B, 0, none⟩)) _ _ _ _ _ _ _ _ _ _ _ _ _ _ _ _ _ _ _ _ _ _ _) wr.drew
        refine wpAnyX_one (i := 3) (by kernel_rfl) rfl (fun K' hK' => ?_)
        refine k_call2 _ rfl 125 _ _ _ _ _ rfl rfl rfl (enters_of Try.func125 (by kernel_rfl) rfl) _ (pick_dn n0 B q 4 wr.drew (HL.out.rd.drewN 1) (by omega) (by omega) (by omega)) (fun c w' h => by obtain ⟨_, h, _⟩ := h; cases h) (fun w' h => by obtain ⟨_, h, _⟩ := h; cases h) ?_
        rintro vz w5 ⟨z, ev, hz0, hz1, r5, d5⟩
        obtain rfl : vz = .int .i64 z := by injection ev
        have hd5 : Dn B wr w5 := (Dn.of_below (Below.refl _ wr).drew).trans d5
        have hS5 : w5.cell? ⟨C, 2, none⟩ = some (.slice ua j cap) := (wo_cell_same (d5.block C hClt hCB)).trans hS
        refine hK'.out _ _ (fun _ => hS5) ?_
        clear hK' K'
        change wpAnyX Try.prog .any _ _ _ _ 4 _ (kcActB _ _ _ _ _ _ _ _ _ _ _ _ _ _ _ _ _ _ _ _ _ _ _ _ _ _ _ _ _ _ _ _ _ _ _ _ _ _ _ _ _ _ _ _ _ _ _ _ _ _ _ _ _ _ _ _ _ _ _ _ _ _ _ _ _ _ _ _ _ _ _ _ _ _ _ _ _ _ _ _ _ _ _ _ _ _ _ _ _ _ _ _ _ _ _ _ _ _ _ _ _ _ _ _ _ _ _ _ _ _ _ _ _ _ _ _ (.pointer (some ⟨C, 2, none⟩)) (.slice ua j cap) (.pointer (some ⟨B, 0, none⟩)) (.int .i64 z) _ _ _ _ _ _ _ _ _ _ _ _ _ _ _ _ _ _ _ _ _ _) w5
        refine wpAnyX_one (i := 4) (by kernel_rfl) rfl (fun K' hK' => ?_)
        refine step_value _ (w5.alloc (.cells #[.int .i64 z] 3)) rfl _ (k_exec1 rfl rfl (k_build1 w5 _)) ?_
        have bV3 : Below w5.heap.size w5 (w5.alloc (.cells #[.int .i64 z] 3)) := (Below.refl _ _).alloc (Nat.le_refl _) _
        have hS3 := (bV3.cell (Nat.lt_of_lt_of_le hClt hd5.size)).trans hS5
        have hs5 : Wk.heap.size ≤ w5.heap.size := Nat.le_trans HL.out.fr.size hd5.size
        have hown3 : (w5.alloc (.cells #[.int .i64 z] 3)).ownsRow Wk.heap.size 3 1 (.slice ua j cap) j (xs.map (Value.int .i64)) := (own_dn HL.out.own HKS.out.rd.lt hd5).alloc _
        refine hK'.out _ _ (fun _ => hS3) ?_
        clear hK' K'
        change wpAnyX Try.prog .any _ _ _ _ 3 _ (kcActB _ _ _ _ _ _ _ _ _ _ _ _ _ _ _ _ _ _ _ _ _ _ _ _ _ _ _ _ _ _ _ _ _ _ _ _ _ _ _ _ _ _ _ _ _ _ _ _ _ _ _ _ _ _ _ _ _ _ _ _ _ _ _ _ _ _ _ _ _ _ _ _ _ _ _ _ _ _ _ _ _ _ _ _ _ _ _ _ _ _ _ _ _ _ _ _ _ _ _ _ _ _ _ _ _ _ _ _ _ _ _ _ _ _ _ _ (.pointer (some ⟨C, 2, none⟩)) (.slice ua j cap) (.pointer (some ⟨B, 0, none⟩)) (.int .i64 z) (.slice (some ⟨w5.heap.size, 0, none⟩) 1 1) _ _ _ _ _ _ _ _ _ _ _ _ _ _ _ _ _ _ _ _ _) (w5.alloc (.cells #[.int .i64 z] 3))
        refine wpAnyX_one (i := 5) (by kernel_rfl) rfl (fun K' hK' => ?_)
        refine k_appendI rfl _ _ rfl Wk.heap.size (.slice ua j cap) (xs.map (Value.int .i64)) j w5.heap.size z rfl rfl hown3 (cell_one_new _ _ _ 0 _ rfl) (by simp; omega) (by omega) ?_
        intro v6 w6 own6 grow6
        obtain ⟨ua', cap', ev6, hc6, hc6'⟩ := own_form own6
        subst ev6
        have hlow : Below Wk.heap.size w5 w6 := ((Below.refl Wk.heap.size w5).alloc hs5 _).grown grow6 (by simp; omega) (fun g e => (HL.out.own.lt g e).1)
        have hS6 : w6.cell? ⟨C, 2, none⟩ = some (.slice ua j cap) := (hlow.cell HKS.out.bc.lt).trans hS5
        have hF6 : w6.frozen? ⟨C, 2, none⟩ = false := (hlow.frozen HKS.out.bc.lt).trans ((frozen_dnB (hd5) HL.out.bc.lt hCB 2).trans HL.out.bc.frozen.2.2.1)
        refine hK'.out _ _ (fun _ => hS6) ?_
        clear hK' K'
        change wpAnyX Try.prog .any _ _ _ _ 2 _ (kcActB _ _ _ _ _ _ _ _ _ _ _ _ _ _ _ _ _ _ _ _ _ _ _ _ _ _ _ _ _ _ _ _ _ _ _ _ _ _ _ _ _ _ _ _ _ _ _ _ _ _ _ _ _ _ _ _ _ _ _ _ _ _ _ _ _ _ _ _ _ _ _ _ _ _ _ _ _ _ _ _ _ _ _ _ _ _ _ _ _ _ _ _ _ _ _ _ _ _ _ _ _ _ _ _ _ _ _ _ _ _ _ _ _ _ _ _ (.pointer (some ⟨C, 2, none⟩)) (.slice ua j cap) (.pointer (some ⟨B, 0, none⟩)) (.int .i64 z) (.slice (some ⟨w5.heap.size, 0, none⟩) 1 1) (.slice ua' (j + 1) cap') _ _ _ _ _ _ _ _ _ _ _ _ _ _ _ _ _ _ _ _) w6
        refine wpAnyX_take (i := 6) (v := .pointer (some ⟨C, 2, none⟩)) rfl (by kernel_rfl) (by kernel_rfl) (by kernel_rfl) (by kernel_rfl) (fun _ _ _ h => h) (.inl ⟨rfl, fun w' hw' => k_field2 rfl rfl⟩) hS6 ?_
        change wpAnyX Try.prog .any _ _ _ _ 1 _ (kcActB _ _ _ _ _ _ _ _ _ _ _ _ _ _ _ _ _ _ _ _ _ _ _ _ _ _ _ _ _ _ _ _ _ _ _ _ _ _ _ _ _ _ _ _ _ _ _ _ _ _ _ _ _ _ _ _ _ _ _ _ _ _ _ _ _ _ _ _ _ _ _ _ _ _ _ _ _ _ _ _ _ _ _ _ _ _ _ _ _ _ _ _ _ _ _ _ _ _ _ _ _ _ _ _ _ _ _ _ _ _ _ _ _ _ _ _ (.pointer (some ⟨C, 2, none⟩)) (.slice ua j cap) (.pointer (some ⟨B, 0, none⟩)) (.int .i64 z) (.slice (some ⟨w5.heap.size, 0, none⟩) 1 1) (.slice ua' (j + 1) cap') (.pointer (some ⟨C, 2, none⟩)) _ _ _ _ _ _ _ _ _ _ _ _ _ _ _ _ _ _ _) w6
        refine wpAnyX_one (i := 7) (by kernel_rfl) rfl (fun K' hK' => ?_)
        refine step_skip _ (w6.setCell ⟨C, 2, none⟩ (.slice ua' (j + 1) cap')) rfl (exec_store rfl rfl rfl (k_storeI w6 C 2 ua ua' j cap (j + 1) cap' hS6 hF6)) ?_
        refine hK'.out _ _ (fun h => by cases h) ?_
        clear hK' K'
        change wpAnyX Try.prog .any _ _ _ _ 0 _ (kcActB _ _ _ _ _ _ _ _ _ _ _ _ _ _ _ _ _ _ _ _ _ _ _ _ _ _ _ _ _ _ _ _ _ _ _ _ _ _ _ _ _ _ _ _ _ _ _ _ _ _ _ _ _ _ _ _ _ _ _ _ _ _ _ _ _ _ _ _ _ _ _ _ _ _ _ _ _ _ _ _ _ _ _ _ _ _ _ _ _ _ _ _ _ _ _ _ _ _ _ _ _ _ _ _ _ _ _ _ _ _ _ _ _ _ _ _ (.pointer (some ⟨C, 2, none⟩)) (.slice ua j cap) (.pointer (some ⟨B, 0, none⟩)) (.int .i64 z) (.slice (some ⟨w5.heap.size, 0, none⟩) 1 1) (.slice ua' (j + 1) cap') (.pointer (some ⟨C, 2, none⟩)) _ _ _ _ _ _ _ _ _ _ _ _ _ _ _ _ _ _ _) (w6.setCell ⟨C, 2, none⟩ (.slice ua' (j + 1) cap'))
        refine wpAnyX_done (by kernel_rfl) ?_ _
        unfold kcActB
        have HL6 := Lib.hid (LI.push HK.out HKS.out HL.out hd5 r5 rfl own6 grow6)
        clear hS hS5 hS3 hS6 hF6 own6 grow6 hown3 bV3 hlow d5 r5 hd5 hs5 HL hClt hCB ev
        go_wp2
        go_roundw
        case rel => exact ⟨j + 1, ua', cap', xs ++ [z], q + 1, by omega, by go_num, by omega, by omega, HL6⟩
        case measure => simp [intOf]; omega
      · have hj30 : j ≤ 30 := by omega
        have HXL : Hid (xs.length ≤ 20) := Lib.hid (by rw [HL.out.len]; omega)
        have HKS2 := Lib.hid (LI.ks HK.out HKS.out HL.out)
        go_wp2_with fail
        refine (pick_dn n0 B q 4 wr HKS2.out.rd (by omega) (by omega) (by omega)).mono ?_
        rintro e w6 ⟨b, rfl, hb0, hb1, r6, d6⟩
        have HNO := Lib.hid (nilOk_own HL.out.own)
        have hb2 : b ≤ 14 := by omega
        clear hb1
        have HKS3 := Lib.hid (HKS2.out.dnStep HK.out d6 r6)
        have HKS4 := Lib.hid (HKS3.out.bound HK.out (1 + b))
        obtain ⟨W7, hW7⟩ : ∃ W7, w6.setCell ⟨C, 3, none⟩ (.int .i64 (1 + b)) = W7 := ⟨_, rfl⟩
        rw [hW7] at HKS4
        have HW7 := Lib.hid hW7
        have y0 := HKS3.out.bc.cell.2.2.2.1
        have y1 := HKS3.out.bc.frozen.2.2.2.1
        obtain ⟨p0, p1, p2, p3, p4⟩ := HKS4.out.bc.cell
        obtain ⟨g0, g1, g2, g3, g4⟩ := HKS4.out.bc.frozen
        obtain ⟨o0, o1, o2, o3, o4⟩ := HKS4.out.br.cell
        obtain ⟨f0, f1, f2, f3, f4⟩ := HKS4.out.br.frozen
        clear r6 d6 HKS2 HL hW7
        go_wp2_with (rw [HW7.out])
        have hq := (putR_blk HKS4.out.br (.int .i64 7) (.slice (some ⟨gv, 0, none⟩) vn vc) (.slice ua j cap) (.int .i64 (1 + b)) (.slice none 0 0)).cell
        simp only [putR] at hq
        obtain ⟨q0, q1, q2, q3, q4⟩ := hq
        refine bodyPost_ret (v := .agg #[.int .i64 7, .slice (some ⟨gv, 0, none⟩) vn vc, .slice ua j cap, .int .i64 (1 + b), .slice none 0 0]) (by simp [results, Try.results128, go_sem, q0, q1, q2, q3, q4]) rfl ?_
        exact conDn_fin (c := ⟨7, vars, xs, (1 + b), []⟩) HK.out HKS4.out (by show 1 ≤ vars.length; rw [← HVN.out]; exact hv1) ⟨by show vars.length ≤ 20; rw [← HVN.out]; omega, HXL.out, rowsLe_of (by simp) (fun r hr => by cases hr)⟩ (by have := HPQ.out; omega) (by have := HPQ.out; omega) (by first | exact nilOk_nil | exact nilOk_some _ _ _ _ | exact HNO.out)
  · skip
    go_wp2_with (rw [HWK.out])
    obtain ⟨C, hC⟩ : ∃ C, C = w4.heap.size := ⟨_, rfl⟩
    rw [← hC] at HKS HK ⊢
    clear hC HWK
    clear p0 p1 p2 p3 p4' g0 g1 g2 g3 g4 o0 o1 o2 o3 o4 f0 f1 f2 f3 f4
    refine (pick_dn n0 B p4 3 Wk HKS.out.rd (by omega) (by omega) (by omega)).mono ?_
    rintro e w7 ⟨b, rfl, hb0, hb1, r7, d7⟩
    obtain ⟨b, rfl⟩ := Int.eq_ofNat_of_zero_le hb0
    have hb5 : b ≤ 2 := by omega
    have HKS7 := Lib.hid (HKS.out.dnStep HK.out d7 r7)
    clear r7 d7 HKS hb0 hb1
    have hb1' : (1 : Int) + (b : Int) = ((b + 1 : Nat) : Int) := by omega
    have HB1 := Lib.hid hb1'
    clear hb1'
    go_wp2_with fail
    rw [HB1.out]
    obtain ⟨m, hm⟩ : ∃ m, m = b + 1 := ⟨_, rfl⟩
    rw [← hm]
    have hm1 : 1 ≤ m := by omega
    have hm3 : m ≤ 3 := by omega
    clear HB1 hm hb5
    refine (randomAutomaton_any n0 B m (p4 + 1) w7 HKS7.out.rd (by omega) (by omega) hm1 hm3).mono ?_
    rintro e w8 ⟨ra, rc, rows, p8, rfl, hrl, hr6, rr8, hp8, hp8', r8, d8⟩
    have HKS8 := Lib.hid (HKS7.out.dnStep HK.out d8 r8)
    have hrv : RdRows (av (qs Q0 R C) w8) (.slice ra m rc) rows := rr8 _ (fun b hb => qs_no (HK.out.hQ0 _ (by have := HKS7.out.dn.size; omega)) (by have := HKS7.out.br.lt; omega) (by have := HKS7.out.bc.lt; omega))
    have hrc : m ≤ rc ∧ rc ≤ 9223372036854775807 := by obtain ⟨a', c', e', h1', h2', _⟩ := id hrv; simp at e'; obtain ⟨_, _, rfl⟩ := e'; unfold maxLen at h2'; omega
    have HRL := Lib.hid (And.intro hrl hr6)
    have HP8 : Hid (p ≤ p8 ∧ p8 ≤ p + 60) := Lib.hid (by have := HPQ.out; omega)
    clear r8 d8 rr8 hrl hr6 HKS7 hp8 hp8'
    have HKS9 := Lib.hid (HKS8.out.setRows HK.out hrv)
    obtain ⟨W9, hW9⟩ : ∃ W9, w8.setCell ⟨C, 4, none⟩ (.slice ra m rc) = W9 := ⟨_, rfl⟩
    rw [hW9] at HKS9
    have HW9 := Lib.hid hW9
    clear hW9
    have yb := HKS8.out.bc.cell.2.2.2.2
    have zb := HKS8.out.bc.frozen.2.2.2.2
    clear hrv
    have x4 := HKS9.out.bc.cell.2.2.2.2
    have bV10 : Below W9.heap.size W9 (W9.alloc (.cells #[.int .i64 ((m : Int) - 1)] 3)) := (Below.refl _ _).alloc (Nat.le_refl _) _
    have HKS10 := Lib.hid (HKS9.out.below HK.out bV10)
    have hnV10 : (W9.alloc (.cells #[.int .i64 ((m : Int) - 1)] 3)).ownsRow W9.heap.size 3 1 (.slice (some ⟨W9.heap.size, 0, none⟩) 1 1) 1 [.int .i64 ((m : Int) - 1)] := own_one1 W9 _ _
    obtain ⟨V10, hV10⟩ : ∃ V10, W9.alloc (.cells #[.int .i64 ((m : Int) - 1)] 3) = V10 := ⟨_, rfl⟩
    rw [hV10] at HKS10 hnV10
    have HV10 := Lib.hid hV10
    clear hV10 bV10
    have hrV10 : RdInts (av (qs Q0 R C) V10) (.slice (some ⟨W9.heap.size, 0, none⟩) 1 1) [((m : Int) - 1)] := rdInts_of_own (xs := [((m : Int) - 1)]) (own_av hnV10 (fun b hb => qs_no (HK.out.hQ0 _ (by have := HKS9.out.dn.size; omega)) (by have := HKS9.out.br.lt; omega) (by have := HKS9.out.bc.lt; omega)))
    clear hnV10
    have HKS11 := Lib.hid (HKS10.out.setArgs HK.out hrV10)
    obtain ⟨W11, hW11⟩ : ∃ W11, V10.setCell ⟨C, 2, none⟩ (.slice (some ⟨W9.heap.size, 0, none⟩) 1 1) = W11 := ⟨_, rfl⟩
    rw [hW11] at HKS11
    have HW11 := Lib.hid hW11
    clear hW11
    have yc := HKS10.out.bc.cell.2.2.1
    have zc := HKS10.out.bc.frozen.2.2.1
    obtain ⟨p0, p1, p2, p3, p4⟩ := HKS11.out.bc.cell
    obtain ⟨g0, g1, g2, g3, g4⟩ := HKS11.out.bc.frozen
    obtain ⟨o0, o1, o2, o3, o4⟩ := HKS11.out.br.cell
    obtain ⟨f0, f1, f2, f3, f4⟩ := HKS11.out.br.frozen
    clear hrV10 HKS8
    go_wp2_with (first | rw [HW9.out] | rw [HV10.out] | rw [HW11.out])
    have hq := (putR_blk HKS11.out.br (.int .i64 8) (.slice (some ⟨gv, 0, none⟩) vn vc) (.slice (some ⟨W9.heap.size, 0, none⟩) 1 1) (.int .i64 0) (.slice ra m rc)).cell
    simp only [putR] at hq
    obtain ⟨q0, q1, q2, q3, q4⟩ := hq
    refine bodyPost_ret (v := .agg #[.int .i64 8, .slice (some ⟨gv, 0, none⟩) vn vc, .slice (some ⟨W9.heap.size, 0, none⟩) 1 1, .int .i64 0, .slice ra m rc]) (by simp [results, Try.results128, go_sem, q0, q1, q2, q3, q4]) rfl ?_
    exact conDn_fin (c := ⟨8, vars, [(m : Int) - 1], 0, rows⟩) HK.out HKS11.out (by show 1 ≤ vars.length; rw [← HVN.out]; exact hv1) ⟨by show vars.length ≤ 20; rw [← HVN.out]; omega, by simp, rowsLe_of (by rw [HRL.out.1]; omega) (fun r hr => Nat.le_trans (HRL.out.2 r hr) (by omega))⟩ (by have := HP8.out; omega) (by have := HP8.out; omega) (by first | exact nilOk_nil | exact nilOk_some _ _ _ _ | exact HNO.out)
  · skip
    go_wp2_with (rw [HWK.out])
    obtain ⟨C, hC⟩ : ∃ C, C = w4.heap.size := ⟨_, rfl⟩
    rw [← hC] at HKS HK
    clear hC
    have hq := (putR_blk HKS.out.br (.int .i64 9) (.slice (some ⟨gv, 0, none⟩) vn vc) (.slice none 0 0) (.int .i64 0) (.slice none 0 0)).cell
    simp only [putR] at hq
    obtain ⟨q0, q1, q2, q3, q4⟩ := hq
    refine bodyPost_ret (v := .agg #[.int .i64 9, .slice (some ⟨gv, 0, none⟩) vn vc, .slice none 0 0, .int .i64 0, .slice none 0 0]) (by simp [results, Try.results128, go_sem, q0, q1, q2, q3, q4]) rfl ?_
    exact conDn_fin (c := ⟨9, vars, [], 0, []⟩) HK.out HKS.out (by show 1 ≤ vars.length; rw [← HVN.out]; exact hv1) ⟨by show vars.length ≤ 20; rw [← HVN.out]; omega, by simp, rowsLe_of (by simp) (fun r hr => by cases hr)⟩ (by have := HPQ.out; omega) (by have := HPQ.out; omega) (by first | exact nilOk_nil | exact nilOk_some _ _ _ _ | exact HNO.out)
end Go.Proofs.Ytjdbfiiaadphhaa

/-! The draw of a valid constraint: both ways together. -/
namespace Go.Proofs.Ytjdbfiiaadphhaa
theorem randomConstraint_any (Q0 : Nat → Bool) (n0 B n : Nat) (p : Int) (w : World) (hR : Rd n0 B p w) (hp : 0 ≤ p) (hp2 : p ≤ 1000000) (hn : 1 ≤ n) (hn4 : n ≤ 4) (hQB : Q0 B = true) (hQ0 : ∀ b, w.heap.size ≤ b → Q0 b = false) :
    Calls Try.prog 128 #[.pointer (some ⟨B, 0, none⟩), .int .i64 n] w (ConDn Q0 n0 B p 100 20 w) := by
  by_cases hn2 : (n : Int) < 2
  · exact randomConstraint_small Q0 n0 B n p w hR hp hp2 hn hn4 hQB hQ0 hn2
  · exact randomConstraint_big Q0 n0 B n p w hR hp hp2 hn hn4 hQB hQ0 hn2
end Go.Proofs.Ytjdbfiiaadphhaa
