/- The draw of a valid model. -/
import Derived.Test.YtjdbfiiaadphhaaDrM1
namespace Go.Proofs.Ytjdbfiiaadphhaa
open Go.ChangeShapes Go.WideShapes Go.ChangeAt Go.RowKit Go.Shelf
set_option linter.unusedVariables false
set_option linter.unusedSimpArgs false

def rmAct (z0 z1 z2 z3 z4 z5 z6 z7 z8 z9 z10 z11 z12 z13 z14 z15 z16 z17 z18 z19 z20 z21 z22 z23 z24 z25 z26 z27 z28 z29 z30 z31 z32 z33 z34 z35 z36 z37 : Value) : Act := { tmps := #[z0, z1, z2, z3, z4, z5, z6, z7, z8, z9, z10, z11, z12, z13, z14, z15, z16, z17, z18, z19, z20, z21, z22, z23, z24, z25, z26, z27, z28, z29, z30, z31, z32, z33, z34, z35, z36, z37], defers := [] }
set_option maxRecDepth 100000 in
set_option maxHeartbeats 64000000 in
theorem randomModel_any (Q0 : Nat → Bool) (n0 B : Nat) (p : Int) (w : World) (hR : Rd n0 B p w) (hp : 0 ≤ p) (hp2 : p ≤ 100000) (hQB : Q0 B = true) (hQ0 : ∀ b, w.heap.size ≤ b → Q0 b = false) :
    Calls Try.prog 66 #[.pointer (some ⟨B, 0, none⟩)] w (ModDn Q0 n0 B p 500 20 w) := by
  have hlt := hR.lt
  obtain ⟨R, hRe⟩ : ∃ R, R = w.heap.size := ⟨_, rfl⟩
  obtain ⟨M, hMe⟩ : ∃ M, M = w.heap.size + 1 := ⟨_, rfl⟩
  obtain ⟨W2, hW2⟩ : ∃ W2, (w.alloc (.cells #[.slice none 0 0, .slice none 0 0] 68)).alloc (.cells #[.slice none 0 0, .slice none 0 0] 68) = W2 := ⟨_, rfl⟩
  have b2 : Below w.heap.size w W2 := by rw [← hW2]; exact ((Below.refl _ _).alloc (Nat.le_refl _) _).alloc (by simp) _
  have hk : MP Q0 B R M n0 w := ⟨hlt, by omega, by omega, by omega, hR.1, hQB, hQ0⟩
  have hms : MS Q0 n0 B R M 20 w W2 p (.slice none 0 0) (.slice none 0 0) [] [] := MS.start hk
    (by rw [← hW2, hMe]; have := Blk2.new (w.alloc (.cells #[.slice none 0 0, .slice none 0 0] 68)) 68 (.slice none 0 0) (.slice none 0 0); rw [World.size_alloc] at this; exact this)
    (by rw [← hW2, hRe]; exact (Blk2.new w 68 (.slice none 0 0) (.slice none 0 0)).alloc _) (hR.below (b2.mono (by omega))) (Dn.of_below b2)
  have HK := Lib.hid hk
  have HMS := Lib.hid hms
  have HW2 := Lib.hid hW2
  have HRE := Lib.hid hRe
  have HME := Lib.hid hMe
  clear hR hQB hQ0 hlt hRe hMe hW2 b2 hk hms
  go_enter Try.func66, Try.ntmps66
  go_wp2_with fail
  rw [HW2.out, ← HME.out, ← HRE.out]
  clear HW2
  refine (pick_dn n0 B p 4 W2 HMS.out.rd (by omega) (by omega) (by omega)).mono ?_
  rintro e w3 ⟨x, rfl, hx0, hx1, r3, d3⟩
  obtain ⟨k0, rfl⟩ := Int.eq_ofNat_of_zero_le hx0
  have hk4 : k0 ≤ 3 := by omega
  have HMS3 := Lib.hid (HMS.out.dnStep HK.out d3 r3)
  have hk1 : (1 : Int) + (k0 : Int) = ((k0 + 1 : Nat) : Int) := by omega
  have HK1 := Lib.hid hk1
  clear r3 d3 hx0 hx1 HMS hk1
  go_wp2_with fail
  rw [HK1.out]
  obtain ⟨n, hn⟩ : ∃ n, n = k0 + 1 := ⟨_, rfl⟩
  rw [← hn]
  have hn1 : 1 ≤ n := by omega
  have hn4 : n ≤ 4 := by omega
  clear HK1 hn hk4
  go_loopw [4] (fun i wr => ∃ (j m : Nat) (ua : Option Addr) (cap : Nat) (ds : List Int) (q : Int), i = .int .i64 j ∧ m + j = n ∧ p ≤ q ∧ q ≤ p + 1 + 3 * m ∧ Hid (ds.length = m) ∧ Hid (MS Q0 n0 B R M 20 w wr q (.slice ua m cap) (.slice none 0 0) ds [])) (fun i _ => (intOf i).toNat)
  case atStart => exact ⟨n, 0, none, 0, [], p + 1, rfl, by omega, by omega, by omega, Lib.hid rfl, HMS3⟩
  case round =>
    obtain ⟨j, m, ua, cap, ds, q, rfl, hmj, hq, hq2, HDL, HL⟩ := hrel
    by_cases hj : 0 < j
    · have hS : wr.drew.cell? ⟨M, 0, none⟩ = some (.slice ua m cap) := HL.out.bm.cell.1
      have HS := Lib.hid hS
      clear hS
      go_wp2_with fail
      have hS := HS.out
      refine region_x (fun w' => w'.cell? ⟨M, 0, none⟩ = some (.slice ua m cap)) (fun i => i == 7) rfl ?_
      change wpAnyX Try.prog .any _ _ _ _ 8 _ (rmAct _ _ _ _ _ _ _ _ _ _ _ _ _ _ _ _ _ _ _ _ _ _ _ _ _ _ _ _ _ _ _ _ _ _ _ _ _ _) wr.drew
      refine wpAnyX_take (i := 0) (v := .pointer (some ⟨M, 0, none⟩)) rfl (by kernel_rfl) (by kernel_rfl) (by kernel_rfl) (by kernel_rfl) (fun _ _ _ h => h) (.inl ⟨rfl, fun w' hw' => m_field0 rfl rfl⟩) hS ?_
      change wpAnyX Try.prog .any _ _ _ _ 7 _ (rmAct _ _ _ _ _ _ _ _ _ _ _ _ _ _ (.pointer (some ⟨M, 0, none⟩)) _ _ _ _ _ _ _ _ _ _ _ _ _ _ _ _ _ _ _ _ _ _ _) wr.drew
      refine wpAnyX_take (i := 1) (v := .slice ua m cap) rfl (by kernel_rfl) (by kernel_rfl) (by kernel_rfl) (by kernel_rfl) (fun _ _ _ h => h) (.inl ⟨rfl, fun w' hw' => exec_load rfl rfl (k_loadI w' _ _ _ _ _ hw')⟩) hS ?_
      change wpAnyX Try.prog .any _ _ _ _ 6 _ (rmAct _ _ _ _ _ _ _ _ _ _ _ _ _ _ (.pointer (some ⟨M, 0, none⟩)) (.slice ua m cap) _ _ _ _ _ _ _ _ _ _ _ _ _ _ _ _ _ _ _ _ _ _) wr.drew
      refine wpAnyX_take (i := 2) (v := .pointer (some ⟨B, 0, none⟩)) rfl (by kernel_rfl) (by kernel_rfl) (by kernel_rfl) (by kernel_rfl) (fun _ _ _ h => h) (.inl ⟨rfl, fun w' hw' => rfl⟩) hS ?_
      change wpAnyX Try.prog .any _ _ _ _ 5 _ (rmAct _ _ _ _ _ _ _ _ _ _ _ _ _ _ (.pointer (some ⟨M, 0, none⟩)) (.slice ua m cap) (.pointer (some ⟨B, 0, none⟩)) _ _ _ _ _ _ _ _ _ _ _ _ _ _ _ _ _ _ _ _ _) wr.drew
      refine wpAnyX_one (i := 3) (by kernel_rfl) rfl (fun K' hK' => ?_)
      refine step_call1 _ rfl 127 _ _ _ rfl rfl (enters_of Try.func127 (by kernel_rfl) rfl) _ (randomDomain_dn n0 B q wr.drew (HL.out.rd.drewN 1) (by omega) (by omega)) (fun c w' h => by obtain ⟨_, _, h, _⟩ := h; cases h) (fun w' h => by obtain ⟨_, _, h, _⟩ := h; cases h) ?_
      rintro vz w5 ⟨z, q5, ev, hq5, hq5', r5, d5⟩
      obtain rfl : vz = .int .i64 z := by injection ev
      have hd5 : Dn B wr w5 := (Dn.of_below (Below.refl _ wr).drew).trans d5
      have hL5 := HL.out.dnStep HK.out hd5 r5
      have hS5 : w5.cell? ⟨M, 0, none⟩ = some (.slice ua m cap) := hL5.bm.cell.1
      refine hK'.out _ _ (fun _ => hS5) ?_
      clear hK' K'
      change wpAnyX Try.prog .any _ _ _ _ 4 _ (rmAct _ _ _ _ _ _ _ _ _ _ _ _ _ _ (.pointer (some ⟨M, 0, none⟩)) (.slice ua m cap) (.pointer (some ⟨B, 0, none⟩)) (.int .i64 z) _ _ _ _ _ _ _ _ _ _ _ _ _ _ _ _ _ _ _ _) w5
      refine wpAnyX_one (i := 4) (by kernel_rfl) rfl (fun K' hK' => ?_)
      refine step_value _ (w5.alloc (.cells #[.int .i64 z] 3)) rfl _ (k_exec1 rfl rfl (k_build1 w5 _)) ?_
      have hL3 := hL5.below HK.out ((Below.refl w5.heap.size w5).alloc (Nat.le_refl _) (.cells #[.int .i64 z] 3))
      have hS3 := hL3.bm.cell.1
      refine hK'.out _ _ (fun _ => hS3) ?_
      clear hK' K'
      change wpAnyX Try.prog .any _ _ _ _ 3 _ (rmAct _ _ _ _ _ _ _ _ _ _ _ _ _ _ (.pointer (some ⟨M, 0, none⟩)) (.slice ua m cap) (.pointer (some ⟨B, 0, none⟩)) (.int .i64 z) (.slice (some ⟨w5.heap.size, 0, none⟩) 1 1) _ _ _ _ _ _ _ _ _ _ _ _ _ _ _ _ _ _ _) (w5.alloc (.cells #[.int .i64 z] 3))
      refine wpAnyX_one (i := 5) (by kernel_rfl) rfl (fun K' hK' => ?_)
      refine m_appendI rfl _ _ rfl w.heap.size (.slice ua m cap) (ds.map (Value.int .i64)) ds.length w5.heap.size z rfl rfl hL3.o1 (cell_one_new _ _ _ 0 _ rfl) (by have := hL3.dn.size; exact this) (by have := HDL.out; omega) ?_
      intro v6 w6 own6 grow6 at6
      obtain ⟨ua', cap', ev6, hc6, hc6'⟩ := own_form own6
      obtain ⟨m', hm'⟩ : ∃ m', m' = ds.length + 1 := ⟨_, rfl⟩
      rw [← hm'] at own6 ev6
      subst ev6
      have hS6 : w6.cell? ⟨M, 0, none⟩ = some (.slice ua m cap) := (World.cell?_of_block (grow6.block M hL3.bm.lt (fun e => (hL3.n1 M e.symm).1 rfl))).trans hS3
      have hF6 : w6.frozen? ⟨M, 0, none⟩ = false := (World.frozen?_of_block (grow6.block M hL3.bm.lt (fun e => (hL3.n1 M e.symm).1 rfl))).trans hL3.bm.frozen.1
      refine hK'.out _ _ (fun _ => hS6) ?_
      clear hK' K'
      change wpAnyX Try.prog .any _ _ _ _ 2 _ (rmAct _ _ _ _ _ _ _ _ _ _ _ _ _ _ (.pointer (some ⟨M, 0, none⟩)) (.slice ua m cap) (.pointer (some ⟨B, 0, none⟩)) (.int .i64 z) (.slice (some ⟨w5.heap.size, 0, none⟩) 1 1) (.slice ua' m' cap') _ _ _ _ _ _ _ _ _ _ _ _ _ _ _ _ _ _) w6
      refine wpAnyX_take (i := 6) (v := .pointer (some ⟨M, 0, none⟩)) rfl (by kernel_rfl) (by kernel_rfl) (by kernel_rfl) (by kernel_rfl) (fun _ _ _ h => h) (.inl ⟨rfl, fun w' hw' => m_field0 rfl rfl⟩) hS6 ?_
      change wpAnyX Try.prog .any _ _ _ _ 1 _ (rmAct _ _ _ _ _ _ _ _ _ _ _ _ _ _ (.pointer (some ⟨M, 0, none⟩)) (.slice ua m cap) (.pointer (some ⟨B, 0, none⟩)) (.int .i64 z) (.slice (some ⟨w5.heap.size, 0, none⟩) 1 1) (.slice ua' m' cap') (.pointer (some ⟨M, 0, none⟩)) _ _ _ _ _ _ _ _ _ _ _ _ _ _ _ _ _) w6
      refine wpAnyX_one (i := 7) (by kernel_rfl) rfl (fun K' hK' => ?_)
      refine step_skip _ (w6.setCell ⟨M, 0, none⟩ (.slice ua' m' cap')) rfl (exec_store rfl rfl rfl (k_storeI w6 M 0 ua ua' m cap m' cap' hS6 hF6)) ?_
      refine hK'.out _ _ (fun h => by cases h) ?_
      clear hK' K'
      change wpAnyX Try.prog .any _ _ _ _ 0 _ (rmAct _ _ _ _ _ _ _ _ _ _ _ _ _ _ (.pointer (some ⟨M, 0, none⟩)) (.slice ua m cap) (.pointer (some ⟨B, 0, none⟩)) (.int .i64 z) (.slice (some ⟨w5.heap.size, 0, none⟩) 1 1) (.slice ua' m' cap') (.pointer (some ⟨M, 0, none⟩)) _ _ _ _ _ _ _ _ _ _ _ _ _ _ _ _ _) (w6.setCell ⟨M, 0, none⟩ (.slice ua' m' cap'))
      refine wpAnyX_done (by kernel_rfl) ?_ _
      unfold rmAct
      have HL6 := Lib.hid (MS.pushD (m' := m') HK.out HL.out hd5 r5 own6 hm' grow6 (at6.imp id (fun h g e => Nat.le_trans (by simp) (h g e))))
      have hmm : Hid (m' = m + 1) := Lib.hid (by have := HDL.out; omega)
      have HD6 : Hid ((ds ++ [z]).length = m') := Lib.hid (by simp; omega)
      clear HS hS hL5 hS5 hL3 hS3 own6 grow6 at6 hc6 hc6' hS6 hF6 d5 r5 hd5 ev HL HDL hm'
      go_wp2
      go_roundw
      case rel => exact ⟨j - 1, m', ua', cap', ds ++ [z], q5, by go_num, by have := hmm.out; omega, by omega, by have := hmm.out; omega, HD6, HL6⟩
      case measure => simp [intOf]; omega
    · obtain rfl : j = 0 := by omega
      have hmn : 1 ≤ m ∧ m ≤ 4 := by omega
      have hq3 : 0 ≤ q ∧ q ≤ p + 13 := by omega
      clear HMS3 hmj hj hn1 hn4
      go_wp2_with fail
      refine (pick_dn n0 B q 5 wr HL.out.rd (by omega) (by omega) (by omega)).mono ?_
      rintro e w3 ⟨x, rfl, hx0, hx1, r3, d3⟩
      obtain ⟨c0, rfl⟩ := Int.eq_ofNat_of_zero_le hx0
      have hc4 : c0 ≤ 4 := by omega
      have HL3 := Lib.hid (HL.out.dnStep HK.out d3 r3)
      obtain ⟨q0, hq0⟩ : ∃ q0, q0 = q + 1 := ⟨_, rfl⟩
      rw [← hq0] at HL3
      have hq4 : p ≤ q0 ∧ q0 ≤ p + 14 := by omega
      clear r3 d3 hx0 hx1 HL hq hq2 hq3 hq0
      go_wp2_with fail
      go_loopw [5] (fun i wr => ∃ (j mb : Nat) (ub : Option Addr) (cb : Nat) (xs : List CE) (q : Int), i = .int .i64 j ∧ mb + j = c0 ∧ q0 ≤ q ∧ q ≤ q0 + 100 * mb ∧ Hid (xs.length = mb) ∧ Hid (MS Q0 n0 B R M 20 w wr q (.slice ua m cap) (.slice ub mb cb) ds xs)) (fun i _ => (intOf i).toNat)
      case atStart => exact ⟨c0, 0, none, 0, [], q0, rfl, by omega, by omega, by omega, Lib.hid rfl, HL3⟩
      case round =>
        obtain ⟨j, mb, ub, cb, xs, q, rfl, hmj, hq, hq2, HXL, HL⟩ := hrel
        by_cases hj : 0 < j
        · have hS : wr.drew.cell? ⟨M, 1, none⟩ = some (.slice ub mb cb) ∧ wr.drew.cell? ⟨M, 0, none⟩ = some (.slice ua m cap) := ⟨HL.out.bm.cell.2, HL.out.bm.cell.1⟩
          have HS := Lib.hid hS
          clear hS
          go_wp2_with fail
          have hS := HS.out
          refine region_x (fun w' => w'.cell? ⟨M, 1, none⟩ = some (.slice ub mb cb) ∧ w'.cell? ⟨M, 0, none⟩ = some (.slice ua m cap)) (fun i => i == 10) rfl ?_
          change wpAnyX Try.prog .any _ _ _ _ 11 _ (rmAct _ _ _ _ _ _ _ _ _ _ _ _ _ _ _ _ _ _ _ _ _ _ _ _ _ _ _ _ _ _ _ _ _ _ _ _ _ _) wr.drew
          refine wpAnyX_take (i := 0) (v := .pointer (some ⟨M, 1, none⟩)) rfl (by kernel_rfl) (by kernel_rfl) (by kernel_rfl) (by kernel_rfl) (fun _ _ _ h => h) (.inl ⟨rfl, fun w' hw' => m_field1 rfl rfl⟩) hS ?_
          change wpAnyX Try.prog .any _ _ _ _ 10 _ (rmAct _ _ _ _ _ _ _ _ _ _ _ _ _ _ _ _ _ _ _ _ _ _ _ _ _ _ _ (.pointer (some ⟨M, 1, none⟩)) _ _ _ _ _ _ _ _ _ _) wr.drew
          refine wpAnyX_take (i := 1) (v := .slice ub mb cb) rfl (by kernel_rfl) (by kernel_rfl) (by kernel_rfl) (by kernel_rfl) (fun _ _ _ h => h) (.inl ⟨rfl, fun w' hw' => exec_load rfl rfl (m_loadC w' _ _ _ _ _ hw'.1)⟩) hS ?_
          change wpAnyX Try.prog .any _ _ _ _ 9 _ (rmAct _ _ _ _ _ _ _ _ _ _ _ _ _ _ _ _ _ _ _ _ _ _ _ _ _ _ _ (.pointer (some ⟨M, 1, none⟩)) (.slice ub mb cb) _ _ _ _ _ _ _ _ _) wr.drew
          refine wpAnyX_take (i := 2) (v := .pointer (some ⟨B, 0, none⟩)) rfl (by kernel_rfl) (by kernel_rfl) (by kernel_rfl) (by kernel_rfl) (fun _ _ _ h => h) (.inl ⟨rfl, fun w' hw' => rfl⟩) hS ?_
          change wpAnyX Try.prog .any _ _ _ _ 8 _ (rmAct _ _ _ _ _ _ _ _ _ _ _ _ _ _ _ _ _ _ _ _ _ _ _ _ _ _ _ (.pointer (some ⟨M, 1, none⟩)) (.slice ub mb cb) (.pointer (some ⟨B, 0, none⟩)) _ _ _ _ _ _ _ _) wr.drew
          refine wpAnyX_take (i := 3) (v := .pointer (some ⟨M, 0, none⟩)) rfl (by kernel_rfl) (by kernel_rfl) (by kernel_rfl) (by kernel_rfl) (fun _ _ _ h => h) (.inl ⟨rfl, fun w' hw' => m_field0 rfl rfl⟩) hS ?_
          change wpAnyX Try.prog .any _ _ _ _ 7 _ (rmAct _ _ _ _ _ _ _ _ _ _ _ _ _ _ _ _ _ _ _ _ _ _ _ _ _ _ _ (.pointer (some ⟨M, 1, none⟩)) (.slice ub mb cb) (.pointer (some ⟨B, 0, none⟩)) (.pointer (some ⟨M, 0, none⟩)) _ _ _ _ _ _ _) wr.drew
          refine wpAnyX_take (i := 4) (v := .slice ua m cap) rfl (by kernel_rfl) (by kernel_rfl) (by kernel_rfl) (by kernel_rfl) (fun _ _ _ h => h) (.inl ⟨rfl, fun w' hw' => exec_load rfl rfl (k_loadI w' _ _ _ _ _ hw'.2)⟩) hS ?_
          change wpAnyX Try.prog .any _ _ _ _ 6 _ (rmAct _ _ _ _ _ _ _ _ _ _ _ _ _ _ _ _ _ _ _ _ _ _ _ _ _ _ _ (.pointer (some ⟨M, 1, none⟩)) (.slice ub mb cb) (.pointer (some ⟨B, 0, none⟩)) (.pointer (some ⟨M, 0, none⟩)) (.slice ua m cap) _ _ _ _ _ _) wr.drew
          refine wpAnyX_take (i := 5) (v := .int .i64 m) rfl (by kernel_rfl) (by kernel_rfl) (by kernel_rfl) (by kernel_rfl) (fun _ _ _ h => h) (.inl ⟨rfl, fun w' hw' => m_lenI rfl rfl⟩) hS ?_
          change wpAnyX Try.prog .any _ _ _ _ 5 _ (rmAct _ _ _ _ _ _ _ _ _ _ _ _ _ _ _ _ _ _ _ _ _ _ _ _ _ _ _ (.pointer (some ⟨M, 1, none⟩)) (.slice ub mb cb) (.pointer (some ⟨B, 0, none⟩)) (.pointer (some ⟨M, 0, none⟩)) (.slice ua m cap) (.int .i64 m) _ _ _ _ _) wr.drew
          refine wpAnyX_one (i := 6) (by kernel_rfl) rfl (fun K' hK' => ?_)
          refine k_call2 _ rfl 128 _ _ _ _ _ rfl rfl rfl (enters_of Try.func128 (by kernel_rfl) rfl) _ (randomConstraint_any (qm Q0 R M (.slice ua m cap) (.slice ub mb cb)) n0 B m q wr.drew (HL.out.rd.drewN 1) (by omega) (by omega) (by omega) (by omega) (qm_B HK.out.hQB) ((HL.out.below HK.out (Below.refl _ wr).drew).new_no HK.out)) (fun c w' h => by obtain ⟨_, _, _, _, _, h, _⟩ := h; cases h) (fun w' h => by obtain ⟨_, _, _, _, _, h, _⟩ := h; cases h) ?_
          rintro vz w5 ⟨v1, v2, v4, c, q5, ev, r1, r2, r4, hnil, hv1, hcl, hq5, hq5', r5, d5⟩
          obtain ⟨a1, vc, e1, -, -, -⟩ := id r1
          obtain ⟨a2, ac, e2, -, -, -⟩ := id r2
          obtain ⟨a4, rc, e4, -, -, -⟩ := id r4
          obtain ⟨vn, hvn⟩ : ∃ n, n = c.vars.length := ⟨_, rfl⟩
          obtain ⟨an, han⟩ : ∃ n, n = c.args.length := ⟨_, rfl⟩
          obtain ⟨rn, hrn⟩ : ∃ n, n = c.rows.length := ⟨_, rfl⟩
          rw [← hvn] at e1
          rw [← han] at e2
          rw [← hrn] at e4
          subst e1 e2 e4
          obtain rfl : vz = .agg #[.int .i64 c.kind, .slice a1 vn vc, .slice a2 an ac, .int .i64 c.bound, .slice a4 rn rc] := by injection ev
          have hd5 : Dn B wr w5 := (Dn.of_below (Below.refl _ wr).drew).trans d5
          have hL5 := HL.out.dnStep HK.out hd5 r5
          have hS5 : w5.cell? ⟨M, 1, none⟩ = some (.slice ub mb cb) ∧ w5.cell? ⟨M, 0, none⟩ = some (.slice ua m cap) := ⟨hL5.bm.cell.2, hL5.bm.cell.1⟩
          refine hK'.out _ _ (fun _ => hS5) ?_
          clear hK' K'
          change wpAnyX Try.prog .any _ _ _ _ 4 _ (rmAct _ _ _ _ _ _ _ _ _ _ _ _ _ _ _ _ _ _ _ _ _ _ _ _ _ _ _ (.pointer (some ⟨M, 1, none⟩)) (.slice ub mb cb) (.pointer (some ⟨B, 0, none⟩)) (.pointer (some ⟨M, 0, none⟩)) (.slice ua m cap) (.int .i64 m) (.agg #[.int .i64 c.kind, .slice a1 vn vc, .slice a2 an ac, .int .i64 c.bound, .slice a4 rn rc]) _ _ _ _) w5
          refine wpAnyX_one (i := 7) (by kernel_rfl) rfl (fun K' hK' => ?_)
          refine step_value _ (w5.alloc (.cells #[.int .i64 c.kind, .slice a1 vn vc, .slice a2 an ac, .int .i64 c.bound, .slice a4 rn rc] 53)) rfl _ (k_exec1 rfl rfl (m_build1 w5 _ _ _ _ _ _ _ _ _ _ _)) ?_
          have hL3 := hL5.below HK.out ((Below.refl w5.heap.size w5).alloc (Nat.le_refl _) (.cells #[.int .i64 c.kind, .slice a1 vn vc, .slice a2 an ac, .int .i64 c.bound, .slice a4 rn rc] 53))
          have hS3 : (w5.alloc (.cells #[.int .i64 c.kind, .slice a1 vn vc, .slice a2 an ac, .int .i64 c.bound, .slice a4 rn rc] 53)).cell? ⟨M, 1, none⟩ = some (.slice ub mb cb) ∧ (w5.alloc (.cells #[.int .i64 c.kind, .slice a1 vn vc, .slice a2 an ac, .int .i64 c.bound, .slice a4 rn rc] 53)).cell? ⟨M, 0, none⟩ = some (.slice ua m cap) := ⟨hL3.bm.cell.2, hL3.bm.cell.1⟩
          refine hK'.out _ _ (fun _ => hS3) ?_
          clear hK' K'
          change wpAnyX Try.prog .any _ _ _ _ 3 _ (rmAct _ _ _ _ _ _ _ _ _ _ _ _ _ _ _ _ _ _ _ _ _ _ _ _ _ _ _ (.pointer (some ⟨M, 1, none⟩)) (.slice ub mb cb) (.pointer (some ⟨B, 0, none⟩)) (.pointer (some ⟨M, 0, none⟩)) (.slice ua m cap) (.int .i64 m) (.agg #[.int .i64 c.kind, .slice a1 vn vc, .slice a2 an ac, .int .i64 c.bound, .slice a4 rn rc]) (.slice (some ⟨w5.heap.size, 0, none⟩) 1 1) _ _ _) (w5.alloc (.cells #[.int .i64 c.kind, .slice a1 vn vc, .slice a2 an ac, .int .i64 c.bound, .slice a4 rn rc] 53))
          refine wpAnyX_one (i := 8) (by kernel_rfl) rfl (fun K' hK' => ?_)
          refine m_appendC rfl _ _ rfl w.heap.size (.slice ub mb cb) (cellsE xs) xs.length w5.heap.size _ _ _ _ _ _ _ _ _ _ _ rfl rfl hL3.o2 (fun j u h => cells_one5 w5 _ _ _ _ _ _ j u h) (by have := hL3.dn.size; exact this) (by have := HXL.out; omega) ?_
          intro v6 w6 own6 grow6 at6
          obtain ⟨ua', cap', ev6, hc6, hc6'⟩ := own_form own6
          obtain ⟨m', hm'⟩ : ∃ m', m' = xs.length + 1 := ⟨_, rfl⟩
          rw [← hm'] at own6 ev6
          subst ev6
          have hk6 := grow6.block M hL3.bm.lt (fun e => (hL3.n2 M e.symm).1 rfl)
          have hS6 : w6.cell? ⟨M, 1, none⟩ = some (.slice ub mb cb) ∧ w6.cell? ⟨M, 0, none⟩ = some (.slice ua m cap) := ⟨(World.cell?_of_block hk6).trans hS3.1, (World.cell?_of_block hk6).trans hS3.2⟩
          have hF6 : w6.frozen? ⟨M, 1, none⟩ = false := (World.frozen?_of_block hk6).trans hL3.bm.frozen.2
          refine hK'.out _ _ (fun _ => hS6) ?_
          clear hK' K'
          change wpAnyX Try.prog .any _ _ _ _ 2 _ (rmAct _ _ _ _ _ _ _ _ _ _ _ _ _ _ _ _ _ _ _ _ _ _ _ _ _ _ _ (.pointer (some ⟨M, 1, none⟩)) (.slice ub mb cb) (.pointer (some ⟨B, 0, none⟩)) (.pointer (some ⟨M, 0, none⟩)) (.slice ua m cap) (.int .i64 m) (.agg #[.int .i64 c.kind, .slice a1 vn vc, .slice a2 an ac, .int .i64 c.bound, .slice a4 rn rc]) (.slice (some ⟨w5.heap.size, 0, none⟩) 1 1) (.slice ua' m' cap') _ _) w6
          refine wpAnyX_take (i := 9) (v := .pointer (some ⟨M, 1, none⟩)) rfl (by kernel_rfl) (by kernel_rfl) (by kernel_rfl) (by kernel_rfl) (fun _ _ _ h => h) (.inl ⟨rfl, fun w' hw' => m_field1 rfl rfl⟩) hS6 ?_
          change wpAnyX Try.prog .any _ _ _ _ 1 _ (rmAct _ _ _ _ _ _ _ _ _ _ _ _ _ _ _ _ _ _ _ _ _ _ _ _ _ _ _ (.pointer (some ⟨M, 1, none⟩)) (.slice ub mb cb) (.pointer (some ⟨B, 0, none⟩)) (.pointer (some ⟨M, 0, none⟩)) (.slice ua m cap) (.int .i64 m) (.agg #[.int .i64 c.kind, .slice a1 vn vc, .slice a2 an ac, .int .i64 c.bound, .slice a4 rn rc]) (.slice (some ⟨w5.heap.size, 0, none⟩) 1 1) (.slice ua' m' cap') (.pointer (some ⟨M, 1, none⟩)) _) w6
          refine wpAnyX_one (i := 10) (by kernel_rfl) rfl (fun K' hK' => ?_)
          refine step_skip _ (w6.setCell ⟨M, 1, none⟩ (.slice ua' m' cap')) rfl (exec_store rfl rfl rfl (m_storeC w6 M 1 ub ua' mb cb m' cap' hS6.1 hF6)) ?_
          refine hK'.out _ _ (fun h => by cases h) ?_
          clear hK' K'
          change wpAnyX Try.prog .any _ _ _ _ 0 _ (rmAct _ _ _ _ _ _ _ _ _ _ _ _ _ _ _ _ _ _ _ _ _ _ _ _ _ _ _ (.pointer (some ⟨M, 1, none⟩)) (.slice ub mb cb) (.pointer (some ⟨B, 0, none⟩)) (.pointer (some ⟨M, 0, none⟩)) (.slice ua m cap) (.int .i64 m) (.agg #[.int .i64 c.kind, .slice a1 vn vc, .slice a2 an ac, .int .i64 c.bound, .slice a4 rn rc]) (.slice (some ⟨w5.heap.size, 0, none⟩) 1 1) (.slice ua' m' cap') (.pointer (some ⟨M, 1, none⟩)) _) (w6.setCell ⟨M, 1, none⟩ (.slice ua' m' cap'))
          refine wpAnyX_done (by kernel_rfl) ?_ _
          unfold rmAct
          have HL6 := Lib.hid (MS.pushC (x := ⟨c, .slice a1 vn vc, .slice a2 an ac, .slice a4 rn rc⟩) (m' := m') HK.out HL.out hd5 r5 ⟨r1, r2, r4, hnil, hv1, hcl⟩ own6 hm' grow6 (at6.imp id (fun h g e => Nat.le_trans (by simp) (h g e))))
          have hmm : Hid (m' = mb + 1) := Lib.hid (by have := HXL.out; omega)
          have HX6 : Hid ((xs ++ [(⟨c, .slice a1 vn vc, .slice a2 an ac, .slice a4 rn rc⟩ : CE)]).length = m') := Lib.hid (by simp; omega)
          clear HS hS hL5 hS5 hL3 hS3 own6 grow6 at6 hc6 hc6' hk6 hS6 hF6 d5 r5 hd5 ev HL HXL hm' r1 r2 r4 hnil hv1 hcl hvn han hrn
          go_wp2
          go_roundw
          case rel => exact ⟨j - 1, m', ua', cap', _, q5, by go_num, by have := hmm.out; omega, by omega, by have := hmm.out; omega, HX6, HL6⟩
          case measure => simp [intOf]; omega
        · obtain rfl : j = 0 := by omega
          have HFIN := Lib.hid (modDn_fin (p := p) (s := 500) HK.out HL.out (by have := HDL.out; omega) (by have := HDL.out; omega) (by have := HXL.out; omega) (by omega) (by omega))
          obtain ⟨p0, p1⟩ := HL.out.bm.cell
          obtain ⟨o0, o1⟩ := HL.out.br.cell
          obtain ⟨f0, f1⟩ := HL.out.br.frozen
          have HQ := Lib.hid (putM_blk HL.out.br (.slice ua m cap) (.slice ub mb cb)).cell
          clear HL HL3 hmj hq hq2
          go_wp2
          have hq := HQ.out
          simp only [putM] at hq
          obtain ⟨q0, q1⟩ := hq
          refine bodyPost_ret (v := .agg #[.slice ua m cap, .slice ub mb cb]) (by simp [results, Try.results66, go_sem, q0, q1]) rfl ?_
          exact HFIN.out
end Go.Proofs.Ytjdbfiiaadphhaa
