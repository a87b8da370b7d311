/- The law of promise 28: a clause holds if one of its literals does. -/
import Derived.Test.YtolfjkdkbiicmaaDrC
import Derived.Test.YtolfjkdkbiicmaaLitH
namespace Go.Proofs.Ytolfjkdkbiicmaa
open Go.ChangeShapes Go.WideShapes Go.ChangeAt Go.RowKit Go.Deep Go.Shelf
set_option linter.unusedVariables false
set_option linter.unusedSimpArgs false

theorem rdLits_nil (w : World) : RdLits w (.slice none 0 0) [] := ⟨none, 0, rfl, Nat.le_refl _, by decide, .inl rfl⟩
/-- A clause and an assignment that were drawn. -/
def ChDrawn (w : World) (e : Ending) (w' : World) : Prop := ∃ (cv xv : Value) (ls : List Lit) (xs : List Int), e = .returned (.tuple #[cv, xv]) ∧ RdLits w' cv ls ∧ RdInts w' xv xs ∧ ls.length ≤ 4 ∧ 1 ≤ xs.length ∧ xs.length ≤ 4 ∧ (∀ x ∈ xs, 0 ≤ x ∧ x ≤ 5) ∧ Below w.heap.size w w'

set_option maxRecDepth 100000 in
set_option maxHeartbeats 4000000 in
theorem drawCh_any (a : Option Addr) (len cap : Nat) (w : World) (h : CodeOk w.heap.size w a len cap) :
    Calls Try.prog 26 #[.slice a len cap] w (ChDrawn w) := by
  go_enter Try.func26, Try.ntmps26
  go_wp2_with fail
  refine (newReader_any w.heap.size a len cap w (Nat.le_refl _) h).mono ?_
  rintro e w1 ⟨rfl, hr, hb, hz⟩
  have HB1 := Lib.hid hb
  have HR1 := Lib.hid hr
  have HZ1 := Lib.hid hz
  clear hz h hr hb
  go_wp2_with fail
  refine (pick_dn w.heap.size w.heap.size 0 4 w1 HR1.out (by omega) (by omega) (by omega)).mono ?_
  rintro e w2 ⟨x, rfl, hx0, hx1, r2, d2⟩
  obtain ⟨k, rfl⟩ := Int.eq_ofNat_of_zero_le hx0
  have hk4 : k < 4 := by omega
  have HR2 := Lib.hid r2
  have HS2 := Lib.hid (show w.heap.size + 1 ≤ w2.heap.size by have := d2.size; have := HZ1.out; omega)
  have HB2 := Lib.hid (HB1.out.trans (d2.below (Nat.le_refl _) HB1.out.size))
  have hk1 : (1 : Int) + (k : Int) = ((k + 1 : Nat) : Int) := by omega
  have HK1 := Lib.hid hk1
  clear r2 d2 hx0 hx1 HR1 hk1
  go_wp2_with fail
  rw [HK1.out]
  obtain ⟨n, hn⟩ : ∃ n, n = k + 1 := ⟨_, rfl⟩
  rw [← hn]
  have hn1 : 1 ≤ n := by omega
  have hn4 : n ≤ 4 := by omega
  clear HK1 hn hk4
  refine (anyClause_any w.heap.size w.heap.size n (0 + 1) w2 HR2.out (by omega) (by omega) (by omega)).mono ?_
  rintro e w3 ⟨cv, ls, p3, rfl, o3, hl3, hp3, hp3', r3, d3⟩
  have HR3 := Lib.hid r3
  have HO3 := Lib.hid o3
  have HL3 := Lib.hid hl3
  have HS3 := Lib.hid (show w2.heap.size ≤ w3.heap.size from d3.size)
  have HB3 := Lib.hid (HB2.out.trans (d3.below (Nat.le_refl _) HB2.out.size))
  clear r3 d3 o3 hl3 HR2
  go_wp2_with fail
  refine (randomRow_any w.heap.size w.heap.size n p3 w3 HR3.out (by omega) (by omega) (by omega)).mono ?_
  rintro e w4 ⟨xv, xs, p4, rfl, hx4, o4, hp4, hp4', r4, d4⟩
  have HO4 := Lib.hid (HO3.out.dn (by have := HS2.out; omega) d4)
  have HX4 := Lib.hid o4
  have HB4 := Lib.hid (HB3.out.trans (d4.below (Nat.le_refl _) HB3.out.size))
  have HXV := Lib.hid hx4
  clear r4 d4 o4 hx4 HR3
  obtain ⟨_, g, c, evo, _⟩ := HO4.out
  obtain ⟨xa, xc, exv, _⟩ := own_form HX4.out
  rw [evo] at HO4 ⊢
  rw [exv] at HX4 ⊢
  clear evo exv
  go_wp2
  go_ret2
  exact ⟨_, _, ls, xs, rfl, HO4.out.rd, rdInts_of_own HX4.out, HL3.out, by rw [HXV.out.1]; exact hn1, by rw [HXV.out.1]; exact hn4, HXV.out.2, HB4.out⟩

def chAct (z0 z1 z2 z3 z4 z5 z6 z7 z8 z9 z10 z11 z12 z13 z14 z15 z16 z17 z18 z19 z20 z21 z22 z23 z24 z25 z26 z27 z28 z29 z30 z31 z32 z33 z34 z35 z36 z37 z38 z39 z40 z41 z42 z43 z44 z45 z46 z47 z48 z49 z50 z51 z52 z53 z54 z55 z56 z57 z58 z59 z60 z61 z62 z63 z64 z65 z66 z67 z68 z69 z70 z71 z72 z73 z74 z75 z76 z77 z78 z79 z80 z81 z82 z83 z84 z85 z86 z87 z88 z89 z90 z91 z92 z93 z94 : Value) : Act := { tmps := #[z0, z1, z2, z3, z4, z5, z6, z7, z8, z9, z10, z11, z12, z13, z14, z15, z16, z17, z18, z19, z20, z21, z22, z23, z24, z25, z26, z27, z28, z29, z30, z31, z32, z33, z34, z35, z36, z37, z38, z39, z40, z41, z42, z43, z44, z45, z46, z47, z48, z49, z50, z51, z52, z53, z54, z55, z56, z57, z58, z59, z60, z61, z62, z63, z64, z65, z66, z67, z68, z69, z70, z71, z72, z73, z74, z75, z76, z77, z78, z79, z80, z81, z82, z83, z84, z85, z86, z87, z88, z89, z90, z91, z92, z93, z94], defers := [] }
set_option maxRecDepth 100000 in
theorem ch_field1 {w : World} {ev : Operand → Value} {o : Oper} {x : Operand} {b q : Nat} (ho : o.op = .fieldAddr 47 x 1) (hx : ev x = .pointer (some ⟨b, q, none⟩)) : (execOp ev o).run Try.prog w = .ok (.value (.pointer (some ⟨b, q + 1, none⟩))) w := by
  unfold execOp
  simp only [ho, hx]
  go_simp
set_option maxRecDepth 100000 in
theorem ch_field2 {w : World} {ev : Operand → Value} {o : Oper} {x : Operand} {b q : Nat} (ho : o.op = .fieldAddr 47 x 2) (hx : ev x = .pointer (some ⟨b, q, none⟩)) : (execOp ev o).run Try.prog w = .ok (.value (.pointer (some ⟨b, q + 2, none⟩))) w := by
  unfold execOp
  simp only [ho, hx]
  go_simp
set_option maxRecDepth 100000 in
theorem ch_field0 {w : World} {ev : Operand → Value} {o : Oper} {x : Operand} {b q : Nat} (ho : o.op = .fieldAddr 47 x 0) (hx : ev x = .pointer (some ⟨b, q, none⟩)) : (execOp ev o).run Try.prog w = .ok (.value (.pointer (some ⟨b, q, none⟩))) w := by
  unfold execOp
  simp only [ho, hx]
  go_simp
theorem ch_eq (w : World) (x y : Operand) (a b : Int) : (do eqGuard .eql 3 x y (.int .i64 a) (.int .i64 b); binOp .eql 3 (.int .i64 a) (.int .i64 b) : Sem Value).run Try.prog w = .ok (.bool (decide (a = b))) w := by
  go_simp
  by_cases h : a = b <;> simp [h]
theorem ch_ne (w : World) (x y : Operand) (a b : Bool) : (do eqGuard .neq 4 x y (.bool a) (.bool b); binOp .neq 4 (.bool a) (.bool b) : Sem Value).run Try.prog w = .ok (.bool (a != b)) w := by
  cases a <;> cases b <;> go_simp
theorem ch_loadO (w : World) (g o : Nat) (x : Int) (h0 : w.cell? ⟨g, o, none⟩ = some (.int .i64 x)) : (loadVar 3 ⟨g, o, none⟩).run Try.prog w = .ok (.int .i64 x) w := by
  go_simp
theorem ch_loadB (w : World) (g o : Nat) (x : Bool) (h0 : w.cell? ⟨g, o, none⟩ = some (.bool x)) : (loadVar 4 ⟨g, o, none⟩).run Try.prog w = .ok (.bool x) w := by
  go_simp
theorem hoB_step {ls : List Lit} {k : Nat} {l : Lit} {xs : List Int} (h : ls[k]? = some l) : hoB (ls.take (k + 1)) xs = (hoB (ls.take k) xs || lhB xs l) := by
  unfold hoB lhB
  rw [List.take_add_one, h, List.any_append]
  simp
theorem chB_nil (xs : List Int) : chB [] xs = false := by unfold chB hoB; simp

set_option maxRecDepth 100000 in
set_option maxHeartbeats 16000000 in
theorem law_fch (a : Option Addr) (len cap : Nat) (w : World) (h : CodeOk w.heap.size w a len cap) :
    Calls Try.prog 7 #[.slice a len cap] w fun e w' => e = .returned (.bool true) ∧ Below w.heap.size w w' := by
  have hl0 := h.1
  have hm0 := h.2.1
  unfold maxLen at hm0
  have HK := Lib.hid h
  clear h
  by_cases hbig : 1048576 < len
  · go_enter Try.func7, Try.ntmps7
    go_wp2
    go_ret
    exact ⟨rfl, Below.refl _ _⟩
  go_enter Try.func7, Try.ntmps7
  go_wp2_with fail
  refine (drawCh_any a len cap w HK.out).mono ?_
  rintro e w1 ⟨cv, xv, ls, xs, rfl, rc, rx, hl4, hx1, hx4, hxs, b1⟩
  obtain ⟨ca, cc, ec, hcc, hcm, -⟩ := id rc
  obtain ⟨xa, xc, ex, -⟩ := id rx
  subst ec ex
  obtain ⟨m, hm⟩ : ∃ m, m = ls.length := ⟨_, rfl⟩
  obtain ⟨n, hn⟩ : ∃ n, n = xs.length := ⟨_, rfl⟩
  rw [← hm] at rc hl4 hcc ⊢
  rw [← hn] at rx hx1 hx4 ⊢
  have hxc := (rdInts_cap rx).2
  unfold maxLen at hcm
  have HM := Lib.hid hm
  have HN := Lib.hid hn
  have HXS := Lib.hid hxs
  have HC := Lib.hid rc
  have HX := Lib.hid rx
  have HB := Lib.hid b1
  clear rc rx b1 hm hn hxs
  have HV : ∀ W, RdLits W (.slice ca m cc) ls → Calls Try.prog 29 #[.slice ca m cc, .int .i64 n] W (BoolPost (vclB ls n) W) := fun W hW => iValidClause_any _ ls n W hW
  have HVS : ∀ W, RdLits W (.slice ca m cc) ls → Calls Try.prog 30 #[.slice ca m cc, .int .i64 n] W (BoolPost (vclB ls n) W) := fun W hW => sValidClause_any _ ls n W hW
  have HHI : ∀ W, RdLits W (.slice ca m cc) ls → RdInts W (.slice xa n xc) xs → Calls Try.prog 27 #[.slice ca m cc, .slice xa n xc] W (BoolPost (chB ls xs) W) := fun W hW hX => iClauseHolds_any _ _ ls xs W hW hX
  have HHS : ∀ W, RdLits W (.slice ca m cc) ls → RdInts W (.slice xa n xc) xs → Calls Try.prog 28 #[.slice ca m cc, .slice xa n xc] W (BoolPost (chB ls xs) W) := fun W hW hX => sClauseHolds_any _ _ ls xs W hW hX
  obtain ⟨bv, hbv⟩ : ∃ bv, bv = vclB ls n := ⟨_, rfl⟩
  obtain ⟨bc, hbc⟩ : ∃ bc, bc = chB ls xs := ⟨_, rfl⟩
  rw [← hbv] at HV HVS
  rw [← hbc] at HHI HHS
  have HBV := Lib.hid hbv
  have HBC := Lib.hid hbc
  have HV := Lib.hid HV
  have HVS := Lib.hid HVS
  have HHI := Lib.hid HHI
  have HHS := Lib.hid HHS
  clear hbv hbc
  go_wp2_with fail
  refine (HHI.out w1 HC.out HX.out).mono ?_
  rintro e w2 ⟨rfl, b2⟩
  have HC2 := Lib.hid (HC.out.below b2)
  have HX2 := Lib.hid (HX.out.below b2)
  have HB2 := Lib.hid (HB.out.trans (b2.mono HB.out.size))
  clear b2 HC HX HB
  go_wp2_with fail
  refine (HHS.out w2 HC2.out HX2.out).mono ?_
  rintro e w3 ⟨rfl, b3⟩
  have HC3 := Lib.hid (HC2.out.below b3)
  have HX3 := Lib.hid (HX2.out.below b3)
  have HB3 := Lib.hid (HB2.out.trans (b3.mono HB2.out.size))
  have hne : (bc != bc) = false := by simp
  have heq : (bc == bc) = true := by simp
  clear b3 HC2 HX2 HB2
  go_wp2_with fail
  refine (HV.out w3 HC3.out).mono ?_
  rintro e w4 ⟨rfl, b4⟩
  have HC4 := Lib.hid (HC3.out.below b4)
  have HX4 := Lib.hid (HX3.out.below b4)
  have HB4 := Lib.hid (HB3.out.trans (b4.mono HB3.out.size))
  clear b4 HC3 HX3 HB3
  go_wp2_with fail
  refine (HVS.out w4 HC4.out).mono ?_
  rintro e w5 ⟨rfl, b5⟩
  have HC5 := Lib.hid (HC4.out.below b5)
  have HX5 := Lib.hid (HX4.out.below b5)
  have HB5 := Lib.hid (HB4.out.trans (b5.mono HB4.out.size))
  have hne2 : (bv != bv) = false := by simp
  have heq2 : (bv == bv) = true := by simp
  clear b5 HC4 HX4 HB4
  go_wp2_with fail
  refine (HV.out w5 HC5.out).mono ?_
  rintro e w6 ⟨rfl, b6⟩
  have HC6 := Lib.hid (HC5.out.below b6)
  have HX6 := Lib.hid (HX5.out.below b6)
  have HB6 := Lib.hid (HB5.out.trans (b6.mono HB5.out.size))
  clear b6 HC5 HX5 HB5
  cases hv : bv
  · subst hv
    go_wp2_with fail
    refine (HHS.out w6 HC6.out HX6.out).mono ?_
    rintro e w7 ⟨rfl, b7⟩
    have HC7 := Lib.hid (HC6.out.below b7)
    have HB7 := Lib.hid (HB6.out.trans (b7.mono HB6.out.size))
    clear b7 HC6 HX6 HB6
    go_wp2_with fail
    refine (HV.out w7 HC7.out).mono ?_
    rintro e w8 ⟨rfl, b8⟩
    have HC8 := Lib.hid (HC7.out.below b8)
    have HB8 := Lib.hid (HB7.out.trans (b8.mono HB7.out.size))
    clear b8 HC7 HB7
    go_wp2_with fail
    refine (HVS.out w8 HC8.out).mono ?_
    rintro e w9 ⟨rfl, b9⟩
    have HB9 := Lib.hid (HB8.out.trans (b9.mono HB8.out.size))
    clear b9 HC8 HB8
    go_wp2
    go_ret
    exact ⟨rfl, HB9.out⟩
  · subst hv
    have hcl : clB ls xs.length = true := by rw [← HN.out]; exact (vclB_parts HBV.out.symm).2
    have HCL := Lib.hid hcl
    have HVI := Lib.hid (clB_vars hcl)
    have HHO : Hid (bc = hoB ls xs) := Lib.hid (by
      rw [HBC.out]
      unfold chB
      rw [hcl, allB_true (xs := xs) (lo := 0) (hi := 5) (fun j hj => by
        have := HXS.out (xs[j]) (List.getElem_mem hj)
        rw [List.getElem?_eq_getElem hj]
        exact wiB_true this.1 this.2), wiB_true (by rw [← HN.out]; omega) (by rw [← HN.out]; omega)]
      simp)
    clear hcl
    go_wp2_with fail
    go_loopw [6, 7] (fun s i wr => ∃ k : Nat, k ≤ m ∧ i = .int .i64 k ∧ s = .bool (hoB (ls.take k) xs) ∧ Hid (Below w6.heap.size w6 wr)) (fun _ i _ => m - (intOf i).toNat)
    case atStart => exact ⟨0, Nat.zero_le _, rfl, rfl, Lib.hid (Below.refl _ _)⟩
    case round =>
      obtain ⟨k, hk, rfl, rfl, HBW⟩ := hrel
      by_cases hlt : k < m
      · obtain ⟨b, off, o, rfl, hck, k0, k1, k2⟩ := rdLits_at (HC6.out.below HBW.out) hlt
        have hov := HVI.out o (List.mem_of_getElem? hck)
        obtain ⟨ov, oa, on⟩ := o
        simp only at hov k0 k1 k2
        obtain ⟨vn, rfl⟩ := Int.eq_ofNat_of_zero_le hov.1
        have hvn : vn < n := by have := HN.out; omega
        obtain ⟨bx, ox, rfl, qx⟩ := rdInts_at (HX6.out.below HBW.out) hvn
        have HST := Lib.hid (hoB_step (xs := xs) hck)
        obtain ⟨xi, hxi⟩ : ∃ xi, xi = xs[vn]?.getD 0 := ⟨_, rfl⟩
        rw [← hxi] at qx
        have HLH : Hid (lhB xs ⟨(vn : Int), oa, on⟩ = (decide (xi = oa) != on)) := Lib.hid (by unfold lhB; rw [hxi]; rfl)
        have hS : LitAt b (off + k * 3) ⟨(vn : Int), oa, on⟩ wr.drew ∧ wr.drew.cell? ⟨bx, ox + vn, none⟩ = some (.int .i64 xi) := ⟨⟨k0, k1, k2⟩, qx⟩
        clear hck k0 k1 k2 qx hxi hov
        cases hh : hoB (ls.take k) xs
        · rw [hh] at HST
          go_wp2_with fail
          refine region_x (fun w' => LitAt b (off + k * 3) ⟨(vn : Int), oa, on⟩ w' ∧ w'.cell? ⟨bx, ox + vn, none⟩ = some (.int .i64 xi)) (fun _ => false) rfl ?_
          change wpAnyX Try.prog .any _ _ _ _ 24 _ (chAct _ _ _ _ _ _ _ _ _ _ _ _ _ _ _ _ _ _ _ _ _ _ _ _ _ _ _ _ _ _ _ _ _ _ _ _ _ _ _ _ _ _ _ _ _ _ _ _ _ _ _ _ _ _ _ _ _ _ _ _ _ _ _ _ _ _ _ _ _ _ _ _ _ _ _ _ _ _ _ _ _ _ _ _ _ _ _ _ _ _ _ _ _ _ _) wr.drew
          refine wpAnyX_take (i := 0) (v := .bool false) rfl (by kernel_rfl) (by kernel_rfl) (by kernel_rfl) (by kernel_rfl) (fun _ _ _ h => h) (.inl ⟨rfl, fun w' hw' => rfl⟩) hS ?_
          change wpAnyX Try.prog .any _ _ _ _ 23 _ (chAct _ _ _ _ _ _ _ _ _ _ _ _ _ _ _ _ _ _ _ _ _ _ _ _ _ _ _ _ _ _ _ _ _ _ _ _ _ _ _ _ _ _ _ _ _ _ _ _ _ _ _ _ _ _ _ _ _ _ _ _ _ _ _ _ (.bool false) _ _ _ _ _ _ _ _ _ _ _ _ _ _ _ _ _ _ _ _ _ _ _ _ _ _ _ _ _ _) wr.drew
          refine wpAnyX_take (i := 1) (v := .bool false) rfl (by kernel_rfl) (by kernel_rfl) (by kernel_rfl) (by kernel_rfl) (fun _ _ _ h => h) (.inl ⟨rfl, fun w' hw' => rfl⟩) hS ?_
          change wpAnyX Try.prog .any _ _ _ _ 22 _ (chAct _ _ _ _ _ _ _ _ _ _ _ _ _ _ _ _ _ _ _ _ _ _ _ _ _ _ _ _ _ _ _ _ _ _ _ _ _ _ _ _ _ _ _ _ _ _ _ _ _ _ _ _ _ _ _ _ _ _ _ _ _ _ _ _ (.bool false) (.bool false) _ _ _ _ _ _ _ _ _ _ _ _ _ _ _ _ _ _ _ _ _ _ _ _ _ _ _ _ _) wr.drew
          refine wpAnyX_take (i := 2) (v := .slice (some ⟨bx, ox, none⟩) n xc) rfl (by kernel_rfl) (by kernel_rfl) (by kernel_rfl) (by kernel_rfl) (fun _ _ _ h => h) (.inl ⟨rfl, fun w' hw' => rfl⟩) hS ?_
          change wpAnyX Try.prog .any _ _ _ _ 21 _ (chAct _ _ _ _ _ _ _ _ _ _ _ _ _ _ _ _ _ _ _ _ _ _ _ _ _ _ _ _ _ _ _ _ _ _ _ _ _ _ _ _ _ _ _ _ _ _ _ _ _ _ _ _ _ _ _ _ _ _ _ _ _ _ _ _ (.bool false) (.bool false) (.slice (some ⟨bx, ox, none⟩) n xc) _ _ _ _ _ _ _ _ _ _ _ _ _ _ _ _ _ _ _ _ _ _ _ _ _ _ _ _) wr.drew
          refine wpAnyX_take (i := 3) (v := .slice (some ⟨b, off, none⟩) m cc) rfl (by kernel_rfl) (by kernel_rfl) (by kernel_rfl) (by kernel_rfl) (fun _ _ _ h => h) (.inl ⟨rfl, fun w' hw' => rfl⟩) hS ?_
          change wpAnyX Try.prog .any _ _ _ _ 20 _ (chAct _ _ _ _ _ _ _ _ _ _ _ _ _ _ _ _ _ _ _ _ _ _ _ _ _ _ _ _ _ _ _ _ _ _ _ _ _ _ _ _ _ _ _ _ _ _ _ _ _ _ _ _ _ _ _ _ _ _ _ _ _ _ _ _ (.bool false) (.bool false) (.slice (some ⟨bx, ox, none⟩) n xc) (.slice (some ⟨b, off, none⟩) m cc) _ _ _ _ _ _ _ _ _ _ _ _ _ _ _ _ _ _ _ _ _ _ _ _ _ _ _) wr.drew
          refine wpAnyX_take (i := 4) (v := .int .i64 k) rfl (by kernel_rfl) (by kernel_rfl) (by kernel_rfl) (by kernel_rfl) (fun _ _ _ h => h) (.inl ⟨rfl, fun w' hw' => rfl⟩) hS ?_
          change wpAnyX Try.prog .any _ _ _ _ 19 _ (chAct _ _ _ _ _ _ _ _ _ _ _ _ _ _ _ _ _ _ _ _ _ _ _ _ _ _ _ _ _ _ _ _ _ _ _ _ _ _ _ _ _ _ _ _ _ _ _ _ _ _ _ _ _ _ _ _ _ _ _ _ _ _ _ _ (.bool false) (.bool false) (.slice (some ⟨bx, ox, none⟩) n xc) (.slice (some ⟨b, off, none⟩) m cc) (.int .i64 k) _ _ _ _ _ _ _ _ _ _ _ _ _ _ _ _ _ _ _ _ _ _ _ _ _ _) wr.drew
          refine wpAnyX_take (i := 5) (v := .pointer (some ⟨b, off + k * 3, none⟩)) rfl (by kernel_rfl) (by kernel_rfl) (by kernel_rfl) (by kernel_rfl) (fun _ _ _ h => h) (.inl ⟨rfl, fun w' hw' => exec_index rfl rfl rfl (index_lits w' _ _ _ _ _ hlt)⟩) hS ?_
          change wpAnyX Try.prog .any _ _ _ _ 18 _ (chAct _ _ _ _ _ _ _ _ _ _ _ _ _ _ _ _ _ _ _ _ _ _ _ _ _ _ _ _ _ _ _ _ _ _ _ _ _ _ _ _ _ _ _ _ _ _ _ _ _ _ _ _ _ _ _ _ _ _ _ _ _ _ _ _ (.bool false) (.bool false) (.slice (some ⟨bx, ox, none⟩) n xc) (.slice (some ⟨b, off, none⟩) m cc) (.int .i64 k) (.pointer (some ⟨b, off + k * 3, none⟩)) _ _ _ _ _ _ _ _ _ _ _ _ _ _ _ _ _ _ _ _ _ _ _ _ _) wr.drew
          refine wpAnyX_take (i := 6) (v := .pointer (some ⟨b, off + k * 3, none⟩)) rfl (by kernel_rfl) (by kernel_rfl) (by kernel_rfl) (by kernel_rfl) (fun _ _ _ h => h) (.inl ⟨rfl, fun w' hw' => ch_field0 rfl rfl⟩) hS ?_
          change wpAnyX Try.prog .any _ _ _ _ 17 _ (chAct _ _ _ _ _ _ _ _ _ _ _ _ _ _ _ _ _ _ _ _ _ _ _ _ _ _ _ _ _ _ _ _ _ _ _ _ _ _ _ _ _ _ _ _ _ _ _ _ _ _ _ _ _ _ _ _ _ _ _ _ _ _ _ _ (.bool false) (.bool false) (.slice (some ⟨bx, ox, none⟩) n xc) (.slice (some ⟨b, off, none⟩) m cc) (.int .i64 k) (.pointer (some ⟨b, off + k * 3, none⟩)) (.pointer (some ⟨b, off + k * 3, none⟩)) _ _ _ _ _ _ _ _ _ _ _ _ _ _ _ _ _ _ _ _ _ _ _ _) wr.drew
          refine wpAnyX_take (i := 7) (v := .int .i64 vn) rfl (by kernel_rfl) (by kernel_rfl) (by kernel_rfl) (by kernel_rfl) (fun _ _ _ h => h) (.inl ⟨rfl, fun w' hw' => exec_load rfl rfl (ch_loadO w' _ _ _ hw'.1.1)⟩) hS ?_
          change wpAnyX Try.prog .any _ _ _ _ 16 _ (chAct _ _ _ _ _ _ _ _ _ _ _ _ _ _ _ _ _ _ _ _ _ _ _ _ _ _ _ _ _ _ _ _ _ _ _ _ _ _ _ _ _ _ _ _ _ _ _ _ _ _ _ _ _ _ _ _ _ _ _ _ _ _ _ _ (.bool false) (.bool false) (.slice (some ⟨bx, ox, none⟩) n xc) (.slice (some ⟨b, off, none⟩) m cc) (.int .i64 k) (.pointer (some ⟨b, off + k * 3, none⟩)) (.pointer (some ⟨b, off + k * 3, none⟩)) (.int .i64 vn) _ _ _ _ _ _ _ _ _ _ _ _ _ _ _ _ _ _ _ _ _ _ _) wr.drew
          refine wpAnyX_take (i := 8) (v := .pointer (some ⟨bx, ox + vn, none⟩)) rfl (by kernel_rfl) (by kernel_rfl) (by kernel_rfl) (by kernel_rfl) (fun _ _ _ h => h) (.inl ⟨rfl, fun w' hw' => exec_index rfl rfl rfl (index_ints w' _ _ _ _ _ hvn)⟩) hS ?_
          change wpAnyX Try.prog .any _ _ _ _ 15 _ (chAct _ _ _ _ _ _ _ _ _ _ _ _ _ _ _ _ _ _ _ _ _ _ _ _ _ _ _ _ _ _ _ _ _ _ _ _ _ _ _ _ _ _ _ _ _ _ _ _ _ _ _ _ _ _ _ _ _ _ _ _ _ _ _ _ (.bool false) (.bool false) (.slice (some ⟨bx, ox, none⟩) n xc) (.slice (some ⟨b, off, none⟩) m cc) (.int .i64 k) (.pointer (some ⟨b, off + k * 3, none⟩)) (.pointer (some ⟨b, off + k * 3, none⟩)) (.int .i64 vn) (.pointer (some ⟨bx, ox + vn, none⟩)) _ _ _ _ _ _ _ _ _ _ _ _ _ _ _ _ _ _ _ _ _ _) wr.drew
          refine wpAnyX_take (i := 9) (v := .int .i64 xi) rfl (by kernel_rfl) (by kernel_rfl) (by kernel_rfl) (by kernel_rfl) (fun _ _ _ h => h) (.inl ⟨rfl, fun w' hw' => exec_load rfl rfl (ch_loadO w' _ _ _ hw'.2)⟩) hS ?_
          change wpAnyX Try.prog .any _ _ _ _ 14 _ (chAct _ _ _ _ _ _ _ _ _ _ _ _ _ _ _ _ _ _ _ _ _ _ _ _ _ _ _ _ _ _ _ _ _ _ _ _ _ _ _ _ _ _ _ _ _ _ _ _ _ _ _ _ _ _ _ _ _ _ _ _ _ _ _ _ (.bool false) (.bool false) (.slice (some ⟨bx, ox, none⟩) n xc) (.slice (some ⟨b, off, none⟩) m cc) (.int .i64 k) (.pointer (some ⟨b, off + k * 3, none⟩)) (.pointer (some ⟨b, off + k * 3, none⟩)) (.int .i64 vn) (.pointer (some ⟨bx, ox + vn, none⟩)) (.int .i64 xi) _ _ _ _ _ _ _ _ _ _ _ _ _ _ _ _ _ _ _ _ _) wr.drew
          refine wpAnyX_take (i := 10) (v := .slice (some ⟨b, off, none⟩) m cc) rfl (by kernel_rfl) (by kernel_rfl) (by kernel_rfl) (by kernel_rfl) (fun _ _ _ h => h) (.inl ⟨rfl, fun w' hw' => rfl⟩) hS ?_
          change wpAnyX Try.prog .any _ _ _ _ 13 _ (chAct _ _ _ _ _ _ _ _ _ _ _ _ _ _ _ _ _ _ _ _ _ _ _ _ _ _ _ _ _ _ _ _ _ _ _ _ _ _ _ _ _ _ _ _ _ _ _ _ _ _ _ _ _ _ _ _ _ _ _ _ _ _ _ _ (.bool false) (.bool false) (.slice (some ⟨bx, ox, none⟩) n xc) (.slice (some ⟨b, off, none⟩) m cc) (.int .i64 k) (.pointer (some ⟨b, off + k * 3, none⟩)) (.pointer (some ⟨b, off + k * 3, none⟩)) (.int .i64 vn) (.pointer (some ⟨bx, ox + vn, none⟩)) (.int .i64 xi) (.slice (some ⟨b, off, none⟩) m cc) _ _ _ _ _ _ _ _ _ _ _ _ _ _ _ _ _ _ _ _) wr.drew
          refine wpAnyX_take (i := 11) (v := .int .i64 k) rfl (by kernel_rfl) (by kernel_rfl) (by kernel_rfl) (by kernel_rfl) (fun _ _ _ h => h) (.inl ⟨rfl, fun w' hw' => rfl⟩) hS ?_
          change wpAnyX Try.prog .any _ _ _ _ 12 _ (chAct _ _ _ _ _ _ _ _ _ _ _ _ _ _ _ _ _ _ _ _ _ _ _ _ _ _ _ _ _ _ _ _ _ _ _ _ _ _ _ _ _ _ _ _ _ _ _ _ _ _ _ _ _ _ _ _ _ _ _ _ _ _ _ _ (.bool false) (.bool false) (.slice (some ⟨bx, ox, none⟩) n xc) (.slice (some ⟨b, off, none⟩) m cc) (.int .i64 k) (.pointer (some ⟨b, off + k * 3, none⟩)) (.pointer (some ⟨b, off + k * 3, none⟩)) (.int .i64 vn) (.pointer (some ⟨bx, ox + vn, none⟩)) (.int .i64 xi) (.slice (some ⟨b, off, none⟩) m cc) (.int .i64 k) _ _ _ _ _ _ _ _ _ _ _ _ _ _ _ _ _ _ _) wr.drew
          refine wpAnyX_take (i := 12) (v := .pointer (some ⟨b, off + k * 3, none⟩)) rfl (by kernel_rfl) (by kernel_rfl) (by kernel_rfl) (by kernel_rfl) (fun _ _ _ h => h) (.inl ⟨rfl, fun w' hw' => exec_index rfl rfl rfl (index_lits w' _ _ _ _ _ hlt)⟩) hS ?_
          change wpAnyX Try.prog .any _ _ _ _ 11 _ (chAct _ _ _ _ _ _ _ _ _ _ _ _ _ _ _ _ _ _ _ _ _ _ _ _ _ _ _ _ _ _ _ _ _ _ _ _ _ _ _ _ _ _ _ _ _ _ _ _ _ _ _ _ _ _ _ _ _ _ _ _ _ _ _ _ (.bool false) (.bool false) (.slice (some ⟨bx, ox, none⟩) n xc) (.slice (some ⟨b, off, none⟩) m cc) (.int .i64 k) (.pointer (some ⟨b, off + k * 3, none⟩)) (.pointer (some ⟨b, off + k * 3, none⟩)) (.int .i64 vn) (.pointer (some ⟨bx, ox + vn, none⟩)) (.int .i64 xi) (.slice (some ⟨b, off, none⟩) m cc) (.int .i64 k) (.pointer (some ⟨b, off + k * 3, none⟩)) _ _ _ _ _ _ _ _ _ _ _ _ _ _ _ _ _ _) wr.drew
          refine wpAnyX_take (i := 13) (v := .pointer (some ⟨b, off + k * 3 + 1, none⟩)) rfl (by kernel_rfl) (by kernel_rfl) (by kernel_rfl) (by kernel_rfl) (fun _ _ _ h => h) (.inl ⟨rfl, fun w' hw' => ch_field1 rfl rfl⟩) hS ?_
          change wpAnyX Try.prog .any _ _ _ _ 10 _ (chAct _ _ _ _ _ _ _ _ _ _ _ _ _ _ _ _ _ _ _ _ _ _ _ _ _ _ _ _ _ _ _ _ _ _ _ _ _ _ _ _ _ _ _ _ _ _ _ _ _ _ _ _ _ _ _ _ _ _ _ _ _ _ _ _ (.bool false) (.bool false) (.slice (some ⟨bx, ox, none⟩) n xc) (.slice (some ⟨b, off, none⟩) m cc) (.int .i64 k) (.pointer (some ⟨b, off + k * 3, none⟩)) (.pointer (some ⟨b, off + k * 3, none⟩)) (.int .i64 vn) (.pointer (some ⟨bx, ox + vn, none⟩)) (.int .i64 xi) (.slice (some ⟨b, off, none⟩) m cc) (.int .i64 k) (.pointer (some ⟨b, off + k * 3, none⟩)) (.pointer (some ⟨b, off + k * 3 + 1, none⟩)) _ _ _ _ _ _ _ _ _ _ _ _ _ _ _ _ _) wr.drew
          refine wpAnyX_take (i := 14) (v := .int .i64 oa) rfl (by kernel_rfl) (by kernel_rfl) (by kernel_rfl) (by kernel_rfl) (fun _ _ _ h => h) (.inl ⟨rfl, fun w' hw' => exec_load rfl rfl (ch_loadO w' _ _ _ hw'.1.2.1)⟩) hS ?_
          change wpAnyX Try.prog .any _ _ _ _ 9 _ (chAct _ _ _ _ _ _ _ _ _ _ _ _ _ _ _ _ _ _ _ _ _ _ _ _ _ _ _ _ _ _ _ _ _ _ _ _ _ _ _ _ _ _ _ _ _ _ _ _ _ _ _ _ _ _ _ _ _ _ _ _ _ _ _ _ (.bool false) (.bool false) (.slice (some ⟨bx, ox, none⟩) n xc) (.slice (some ⟨b, off, none⟩) m cc) (.int .i64 k) (.pointer (some ⟨b, off + k * 3, none⟩)) (.pointer (some ⟨b, off + k * 3, none⟩)) (.int .i64 vn) (.pointer (some ⟨bx, ox + vn, none⟩)) (.int .i64 xi) (.slice (some ⟨b, off, none⟩) m cc) (.int .i64 k) (.pointer (some ⟨b, off + k * 3, none⟩)) (.pointer (some ⟨b, off + k * 3 + 1, none⟩)) (.int .i64 oa) _ _ _ _ _ _ _ _ _ _ _ _ _ _ _ _) wr.drew
          refine wpAnyX_take (i := 15) (v := .bool (decide (xi = oa))) rfl (by kernel_rfl) (by kernel_rfl) (by kernel_rfl) (by kernel_rfl) (fun _ _ _ h => h) (.inl ⟨rfl, fun w' hw' => exec_bin rfl rfl rfl (ch_eq w' _ _ _ _)⟩) hS ?_
          change wpAnyX Try.prog .any _ _ _ _ 8 _ (chAct _ _ _ _ _ _ _ _ _ _ _ _ _ _ _ _ _ _ _ _ _ _ _ _ _ _ _ _ _ _ _ _ _ _ _ _ _ _ _ _ _ _ _ _ _ _ _ _ _ _ _ _ _ _ _ _ _ _ _ _ _ _ _ _ (.bool false) (.bool false) (.slice (some ⟨bx, ox, none⟩) n xc) (.slice (some ⟨b, off, none⟩) m cc) (.int .i64 k) (.pointer (some ⟨b, off + k * 3, none⟩)) (.pointer (some ⟨b, off + k * 3, none⟩)) (.int .i64 vn) (.pointer (some ⟨bx, ox + vn, none⟩)) (.int .i64 xi) (.slice (some ⟨b, off, none⟩) m cc) (.int .i64 k) (.pointer (some ⟨b, off + k * 3, none⟩)) (.pointer (some ⟨b, off + k * 3 + 1, none⟩)) (.int .i64 oa) (.bool (decide (xi = oa))) _ _ _ _ _ _ _ _ _ _ _ _ _ _ _) wr.drew
          refine wpAnyX_take (i := 16) (v := .slice (some ⟨b, off, none⟩) m cc) rfl (by kernel_rfl) (by kernel_rfl) (by kernel_rfl) (by kernel_rfl) (fun _ _ _ h => h) (.inl ⟨rfl, fun w' hw' => rfl⟩) hS ?_
          change wpAnyX Try.prog .any _ _ _ _ 7 _ (chAct _ _ _ _ _ _ _ _ _ _ _ _ _ _ _ _ _ _ _ _ _ _ _ _ _ _ _ _ _ _ _ _ _ _ _ _ _ _ _ _ _ _ _ _ _ _ _ _ _ _ _ _ _ _ _ _ _ _ _ _ _ _ _ _ (.bool false) (.bool false) (.slice (some ⟨bx, ox, none⟩) n xc) (.slice (some ⟨b, off, none⟩) m cc) (.int .i64 k) (.pointer (some ⟨b, off + k * 3, none⟩)) (.pointer (some ⟨b, off + k * 3, none⟩)) (.int .i64 vn) (.pointer (some ⟨bx, ox + vn, none⟩)) (.int .i64 xi) (.slice (some ⟨b, off, none⟩) m cc) (.int .i64 k) (.pointer (some ⟨b, off + k * 3, none⟩)) (.pointer (some ⟨b, off + k * 3 + 1, none⟩)) (.int .i64 oa) (.bool (decide (xi = oa))) (.slice (some ⟨b, off, none⟩) m cc) _ _ _ _ _ _ _ _ _ _ _ _ _ _) wr.drew
          refine wpAnyX_take (i := 17) (v := .int .i64 k) rfl (by kernel_rfl) (by kernel_rfl) (by kernel_rfl) (by kernel_rfl) (fun _ _ _ h => h) (.inl ⟨rfl, fun w' hw' => rfl⟩) hS ?_
          change wpAnyX Try.prog .any _ _ _ _ 6 _ (chAct _ _ _ _ _ _ _ _ _ _ _ _ _ _ _ _ _ _ _ _ _ _ _ _ _ _ _ _ _ _ _ _ _ _ _ _ _ _ _ _ _ _ _ _ _ _ _ _ _ _ _ _ _ _ _ _ _ _ _ _ _ _ _ _ (.bool false) (.bool false) (.slice (some ⟨bx, ox, none⟩) n xc) (.slice (some ⟨b, off, none⟩) m cc) (.int .i64 k) (.pointer (some ⟨b, off + k * 3, none⟩)) (.pointer (some ⟨b, off + k * 3, none⟩)) (.int .i64 vn) (.pointer (some ⟨bx, ox + vn, none⟩)) (.int .i64 xi) (.slice (some ⟨b, off, none⟩) m cc) (.int .i64 k) (.pointer (some ⟨b, off + k * 3, none⟩)) (.pointer (some ⟨b, off + k * 3 + 1, none⟩)) (.int .i64 oa) (.bool (decide (xi = oa))) (.slice (some ⟨b, off, none⟩) m cc) (.int .i64 k) _ _ _ _ _ _ _ _ _ _ _ _ _) wr.drew
          refine wpAnyX_take (i := 18) (v := .pointer (some ⟨b, off + k * 3, none⟩)) rfl (by kernel_rfl) (by kernel_rfl) (by kernel_rfl) (by kernel_rfl) (fun _ _ _ h => h) (.inl ⟨rfl, fun w' hw' => exec_index rfl rfl rfl (index_lits w' _ _ _ _ _ hlt)⟩) hS ?_
          change wpAnyX Try.prog .any _ _ _ _ 5 _ (chAct _ _ _ _ _ _ _ _ _ _ _ _ _ _ _ _ _ _ _ _ _ _ _ _ _ _ _ _ _ _ _ _ _ _ _ _ _ _ _ _ _ _ _ _ _ _ _ _ _ _ _ _ _ _ _ _ _ _ _ _ _ _ _ _ (.bool false) (.bool false) (.slice (some ⟨bx, ox, none⟩) n xc) (.slice (some ⟨b, off, none⟩) m cc) (.int .i64 k) (.pointer (some ⟨b, off + k * 3, none⟩)) (.pointer (some ⟨b, off + k * 3, none⟩)) (.int .i64 vn) (.pointer (some ⟨bx, ox + vn, none⟩)) (.int .i64 xi) (.slice (some ⟨b, off, none⟩) m cc) (.int .i64 k) (.pointer (some ⟨b, off + k * 3, none⟩)) (.pointer (some ⟨b, off + k * 3 + 1, none⟩)) (.int .i64 oa) (.bool (decide (xi = oa))) (.slice (some ⟨b, off, none⟩) m cc) (.int .i64 k) (.pointer (some ⟨b, off + k * 3, none⟩)) _ _ _ _ _ _ _ _ _ _ _ _) wr.drew
          refine wpAnyX_take (i := 19) (v := .pointer (some ⟨b, off + k * 3 + 2, none⟩)) rfl (by kernel_rfl) (by kernel_rfl) (by kernel_rfl) (by kernel_rfl) (fun _ _ _ h => h) (.inl ⟨rfl, fun w' hw' => ch_field2 rfl rfl⟩) hS ?_
          change wpAnyX Try.prog .any _ _ _ _ 4 _ (chAct _ _ _ _ _ _ _ _ _ _ _ _ _ _ _ _ _ _ _ _ _ _ _ _ _ _ _ _ _ _ _ _ _ _ _ _ _ _ _ _ _ _ _ _ _ _ _ _ _ _ _ _ _ _ _ _ _ _ _ _ _ _ _ _ (.bool false) (.bool false) (.slice (some ⟨bx, ox, none⟩) n xc) (.slice (some ⟨b, off, none⟩) m cc) (.int .i64 k) (.pointer (some ⟨b, off + k * 3, none⟩)) (.pointer (some ⟨b, off + k * 3, none⟩)) (.int .i64 vn) (.pointer (some ⟨bx, ox + vn, none⟩)) (.int .i64 xi) (.slice (some ⟨b, off, none⟩) m cc) (.int .i64 k) (.pointer (some ⟨b, off + k * 3, none⟩)) (.pointer (some ⟨b, off + k * 3 + 1, none⟩)) (.int .i64 oa) (.bool (decide (xi = oa))) (.slice (some ⟨b, off, none⟩) m cc) (.int .i64 k) (.pointer (some ⟨b, off + k * 3, none⟩)) (.pointer (some ⟨b, off + k * 3 + 2, none⟩)) _ _ _ _ _ _ _ _ _ _ _) wr.drew
          refine wpAnyX_take (i := 20) (v := .bool on) rfl (by kernel_rfl) (by kernel_rfl) (by kernel_rfl) (by kernel_rfl) (fun _ _ _ h => h) (.inl ⟨rfl, fun w' hw' => exec_load rfl rfl (ch_loadB w' _ _ _ hw'.1.2.2)⟩) hS ?_
          change wpAnyX Try.prog .any _ _ _ _ 3 _ (chAct _ _ _ _ _ _ _ _ _ _ _ _ _ _ _ _ _ _ _ _ _ _ _ _ _ _ _ _ _ _ _ _ _ _ _ _ _ _ _ _ _ _ _ _ _ _ _ _ _ _ _ _ _ _ _ _ _ _ _ _ _ _ _ _ (.bool false) (.bool false) (.slice (some ⟨bx, ox, none⟩) n xc) (.slice (some ⟨b, off, none⟩) m cc) (.int .i64 k) (.pointer (some ⟨b, off + k * 3, none⟩)) (.pointer (some ⟨b, off + k * 3, none⟩)) (.int .i64 vn) (.pointer (some ⟨bx, ox + vn, none⟩)) (.int .i64 xi) (.slice (some ⟨b, off, none⟩) m cc) (.int .i64 k) (.pointer (some ⟨b, off + k * 3, none⟩)) (.pointer (some ⟨b, off + k * 3 + 1, none⟩)) (.int .i64 oa) (.bool (decide (xi = oa))) (.slice (some ⟨b, off, none⟩) m cc) (.int .i64 k) (.pointer (some ⟨b, off + k * 3, none⟩)) (.pointer (some ⟨b, off + k * 3 + 2, none⟩)) (.bool on) _ _ _ _ _ _ _ _ _ _) wr.drew
          refine wpAnyX_take (i := 21) (v := .bool (decide (xi = oa) != on)) rfl (by kernel_rfl) (by kernel_rfl) (by kernel_rfl) (by kernel_rfl) (fun _ _ _ h => h) (.inl ⟨rfl, fun w' hw' => exec_bin rfl rfl rfl (ch_ne w' _ _ _ _)⟩) hS ?_
          change wpAnyX Try.prog .any _ _ _ _ 2 _ (chAct _ _ _ _ _ _ _ _ _ _ _ _ _ _ _ _ _ _ _ _ _ _ _ _ _ _ _ _ _ _ _ _ _ _ _ _ _ _ _ _ _ _ _ _ _ _ _ _ _ _ _ _ _ _ _ _ _ _ _ _ _ _ _ _ (.bool false) (.bool false) (.slice (some ⟨bx, ox, none⟩) n xc) (.slice (some ⟨b, off, none⟩) m cc) (.int .i64 k) (.pointer (some ⟨b, off + k * 3, none⟩)) (.pointer (some ⟨b, off + k * 3, none⟩)) (.int .i64 vn) (.pointer (some ⟨bx, ox + vn, none⟩)) (.int .i64 xi) (.slice (some ⟨b, off, none⟩) m cc) (.int .i64 k) (.pointer (some ⟨b, off + k * 3, none⟩)) (.pointer (some ⟨b, off + k * 3 + 1, none⟩)) (.int .i64 oa) (.bool (decide (xi = oa))) (.slice (some ⟨b, off, none⟩) m cc) (.int .i64 k) (.pointer (some ⟨b, off + k * 3, none⟩)) (.pointer (some ⟨b, off + k * 3 + 2, none⟩)) (.bool on) (.bool (decide (xi = oa) != on)) _ _ _ _ _ _ _ _ _) wr.drew
          refine wpAnyX_take (i := 22) (v := .bool (decide (xi = oa) != on)) rfl (by kernel_rfl) (by kernel_rfl) (by kernel_rfl) (by kernel_rfl) (fun _ _ _ h => h) (.inl ⟨rfl, fun w' hw' => rfl⟩) hS ?_
          change wpAnyX Try.prog .any _ _ _ _ 1 _ (chAct _ _ _ _ _ _ _ _ _ _ _ _ _ _ _ _ _ _ _ _ _ _ _ _ _ _ _ _ _ _ _ _ _ _ _ _ _ _ _ _ _ _ _ _ _ _ _ _ _ _ _ _ _ _ _ _ _ _ _ _ _ _ _ _ (.bool false) (.bool false) (.slice (some ⟨bx, ox, none⟩) n xc) (.slice (some ⟨b, off, none⟩) m cc) (.int .i64 k) (.pointer (some ⟨b, off + k * 3, none⟩)) (.pointer (some ⟨b, off + k * 3, none⟩)) (.int .i64 vn) (.pointer (some ⟨bx, ox + vn, none⟩)) (.int .i64 xi) (.slice (some ⟨b, off, none⟩) m cc) (.int .i64 k) (.pointer (some ⟨b, off + k * 3, none⟩)) (.pointer (some ⟨b, off + k * 3 + 1, none⟩)) (.int .i64 oa) (.bool (decide (xi = oa))) (.slice (some ⟨b, off, none⟩) m cc) (.int .i64 k) (.pointer (some ⟨b, off + k * 3, none⟩)) (.pointer (some ⟨b, off + k * 3 + 2, none⟩)) (.bool on) (.bool (decide (xi = oa) != on)) (.bool (decide (xi = oa) != on)) _ _ _ _ _ _ _ _) wr.drew
          refine wpAnyX_take (i := 23) (v := .bool (decide (xi = oa) != on)) rfl (by kernel_rfl) (by kernel_rfl) (by kernel_rfl) (by kernel_rfl) (fun _ _ _ h => h) (.inl ⟨rfl, fun w' hw' => rfl⟩) hS ?_
          change wpAnyX Try.prog .any _ _ _ _ 0 _ (chAct _ _ _ _ _ _ (.bool (decide (xi = oa) != on)) _ _ _ _ _ _ _ _ _ _ _ _ _ _ _ _ _ _ _ _ _ _ _ _ _ _ _ _ _ _ _ _ _ _ _ _ _ _ _ _ _ _ _ _ _ _ _ _ _ _ _ _ _ _ _ _ _ (.bool false) (.bool false) (.slice (some ⟨bx, ox, none⟩) n xc) (.slice (some ⟨b, off, none⟩) m cc) (.int .i64 k) (.pointer (some ⟨b, off + k * 3, none⟩)) (.pointer (some ⟨b, off + k * 3, none⟩)) (.int .i64 vn) (.pointer (some ⟨bx, ox + vn, none⟩)) (.int .i64 xi) (.slice (some ⟨b, off, none⟩) m cc) (.int .i64 k) (.pointer (some ⟨b, off + k * 3, none⟩)) (.pointer (some ⟨b, off + k * 3 + 1, none⟩)) (.int .i64 oa) (.bool (decide (xi = oa))) (.slice (some ⟨b, off, none⟩) m cc) (.int .i64 k) (.pointer (some ⟨b, off + k * 3, none⟩)) (.pointer (some ⟨b, off + k * 3 + 2, none⟩)) (.bool on) (.bool (decide (xi = oa) != on)) (.bool (decide (xi = oa) != on)) _ _ _ _ _ _ _ _) wr.drew
          refine wpAnyX_done (by kernel_rfl) ?_ _
          unfold chAct
          go_wp2
          go_roundw
          all_goals first
            | exact ⟨k + 1, by omega, by go_num, by rw [HST.out, HLH.out]; rfl, Lib.hid HBW.out.drew⟩
            | (simp [intOf]; omega)
        · rw [hh] at HST
          go_wp2_with fail
          refine region_x (fun w' => LitAt b (off + k * 3) ⟨(vn : Int), oa, on⟩ w' ∧ w'.cell? ⟨bx, ox + vn, none⟩ = some (.int .i64 xi)) (fun _ => false) rfl ?_
          change wpAnyX Try.prog .any _ _ _ _ 24 _ (chAct _ _ _ _ _ _ _ _ _ _ _ _ _ _ _ _ _ _ _ _ _ _ _ _ _ _ _ _ _ _ _ _ _ _ _ _ _ _ _ _ _ _ _ _ _ _ _ _ _ _ _ _ _ _ _ _ _ _ _ _ _ _ _ _ _ _ _ _ _ _ _ _ _ _ _ _ _ _ _ _ _ _ _ _ _ _ _ _ _ _ _ _ _ _ _) wr.drew
          refine wpAnyX_take (i := 0) (v := .bool true) rfl (by kernel_rfl) (by kernel_rfl) (by kernel_rfl) (by kernel_rfl) (fun _ _ _ h => h) (.inl ⟨rfl, fun w' hw' => rfl⟩) hS ?_
          change wpAnyX Try.prog .any _ _ _ _ 23 _ (chAct _ _ _ _ _ _ _ _ _ _ _ _ _ _ _ _ _ _ _ _ _ _ _ _ _ _ _ _ _ _ _ _ _ _ _ _ _ _ _ _ _ _ _ _ _ _ _ _ _ _ _ _ _ _ _ _ _ _ _ _ _ _ _ _ (.bool true) _ _ _ _ _ _ _ _ _ _ _ _ _ _ _ _ _ _ _ _ _ _ _ _ _ _ _ _ _ _) wr.drew
          refine wpAnyX_take (i := 1) (v := .bool true) rfl (by kernel_rfl) (by kernel_rfl) (by kernel_rfl) (by kernel_rfl) (fun _ _ _ h => h) (.inl ⟨rfl, fun w' hw' => rfl⟩) hS ?_
          change wpAnyX Try.prog .any _ _ _ _ 22 _ (chAct _ _ _ _ _ _ _ _ _ _ _ _ _ _ _ _ _ _ _ _ _ _ _ _ _ _ _ _ _ _ _ _ _ _ _ _ _ _ _ _ _ _ _ _ _ _ _ _ _ _ _ _ _ _ _ _ _ _ _ _ _ _ _ _ (.bool true) (.bool true) _ _ _ _ _ _ _ _ _ _ _ _ _ _ _ _ _ _ _ _ _ _ _ _ _ _ _ _ _) wr.drew
          refine wpAnyX_take (i := 2) (v := undef) rfl (by kernel_rfl) (by kernel_rfl) (by kernel_rfl) (by kernel_rfl) (fun _ _ _ h => h) (.inr ⟨rfl, rfl⟩) hS ?_
          change wpAnyX Try.prog .any _ _ _ _ 21 _ (chAct _ _ _ _ _ _ _ _ _ _ _ _ _ _ _ _ _ _ _ _ _ _ _ _ _ _ _ _ _ _ _ _ _ _ _ _ _ _ _ _ _ _ _ _ _ _ _ _ _ _ _ _ _ _ _ _ _ _ _ _ _ _ _ _ (.bool true) (.bool true) (undef) _ _ _ _ _ _ _ _ _ _ _ _ _ _ _ _ _ _ _ _ _ _ _ _ _ _ _ _) wr.drew
          refine wpAnyX_take (i := 3) (v := undef) rfl (by kernel_rfl) (by kernel_rfl) (by kernel_rfl) (by kernel_rfl) (fun _ _ _ h => h) (.inr ⟨rfl, rfl⟩) hS ?_
          change wpAnyX Try.prog .any _ _ _ _ 20 _ (chAct _ _ _ _ _ _ _ _ _ _ _ _ _ _ _ _ _ _ _ _ _ _ _ _ _ _ _ _ _ _ _ _ _ _ _ _ _ _ _ _ _ _ _ _ _ _ _ _ _ _ _ _ _ _ _ _ _ _ _ _ _ _ _ _ (.bool true) (.bool true) (undef) (undef) _ _ _ _ _ _ _ _ _ _ _ _ _ _ _ _ _ _ _ _ _ _ _ _ _ _ _) wr.drew
          refine wpAnyX_take (i := 4) (v := undef) rfl (by kernel_rfl) (by kernel_rfl) (by kernel_rfl) (by kernel_rfl) (fun _ _ _ h => h) (.inr ⟨rfl, rfl⟩) hS ?_
          change wpAnyX Try.prog .any _ _ _ _ 19 _ (chAct _ _ _ _ _ _ _ _ _ _ _ _ _ _ _ _ _ _ _ _ _ _ _ _ _ _ _ _ _ _ _ _ _ _ _ _ _ _ _ _ _ _ _ _ _ _ _ _ _ _ _ _ _ _ _ _ _ _ _ _ _ _ _ _ (.bool true) (.bool true) (undef) (undef) (undef) _ _ _ _ _ _ _ _ _ _ _ _ _ _ _ _ _ _ _ _ _ _ _ _ _ _) wr.drew
          refine wpAnyX_take (i := 5) (v := undef) rfl (by kernel_rfl) (by kernel_rfl) (by kernel_rfl) (by kernel_rfl) (fun _ _ _ h => h) (.inr ⟨rfl, rfl⟩) hS ?_
          change wpAnyX Try.prog .any _ _ _ _ 18 _ (chAct _ _ _ _ _ _ _ _ _ _ _ _ _ _ _ _ _ _ _ _ _ _ _ _ _ _ _ _ _ _ _ _ _ _ _ _ _ _ _ _ _ _ _ _ _ _ _ _ _ _ _ _ _ _ _ _ _ _ _ _ _ _ _ _ (.bool true) (.bool true) (undef) (undef) (undef) (undef) _ _ _ _ _ _ _ _ _ _ _ _ _ _ _ _ _ _ _ _ _ _ _ _ _) wr.drew
          refine wpAnyX_take (i := 6) (v := undef) rfl (by kernel_rfl) (by kernel_rfl) (by kernel_rfl) (by kernel_rfl) (fun _ _ _ h => h) (.inr ⟨rfl, rfl⟩) hS ?_
          change wpAnyX Try.prog .any _ _ _ _ 17 _ (chAct _ _ _ _ _ _ _ _ _ _ _ _ _ _ _ _ _ _ _ _ _ _ _ _ _ _ _ _ _ _ _ _ _ _ _ _ _ _ _ _ _ _ _ _ _ _ _ _ _ _ _ _ _ _ _ _ _ _ _ _ _ _ _ _ (.bool true) (.bool true) (undef) (undef) (undef) (undef) (undef) _ _ _ _ _ _ _ _ _ _ _ _ _ _ _ _ _ _ _ _ _ _ _ _) wr.drew
          refine wpAnyX_take (i := 7) (v := undef) rfl (by kernel_rfl) (by kernel_rfl) (by kernel_rfl) (by kernel_rfl) (fun _ _ _ h => h) (.inr ⟨rfl, rfl⟩) hS ?_
          change wpAnyX Try.prog .any _ _ _ _ 16 _ (chAct _ _ _ _ _ _ _ _ _ _ _ _ _ _ _ _ _ _ _ _ _ _ _ _ _ _ _ _ _ _ _ _ _ _ _ _ _ _ _ _ _ _ _ _ _ _ _ _ _ _ _ _ _ _ _ _ _ _ _ _ _ _ _ _ (.bool true) (.bool true) (undef) (undef) (undef) (undef) (undef) (undef) _ _ _ _ _ _ _ _ _ _ _ _ _ _ _ _ _ _ _ _ _ _ _) wr.drew
          refine wpAnyX_take (i := 8) (v := undef) rfl (by kernel_rfl) (by kernel_rfl) (by kernel_rfl) (by kernel_rfl) (fun _ _ _ h => h) (.inr ⟨rfl, rfl⟩) hS ?_
          change wpAnyX Try.prog .any _ _ _ _ 15 _ (chAct _ _ _ _ _ _ _ _ _ _ _ _ _ _ _ _ _ _ _ _ _ _ _ _ _ _ _ _ _ _ _ _ _ _ _ _ _ _ _ _ _ _ _ _ _ _ _ _ _ _ _ _ _ _ _ _ _ _ _ _ _ _ _ _ (.bool true) (.bool true) (undef) (undef) (undef) (undef) (undef) (undef) (undef) _ _ _ _ _ _ _ _ _ _ _ _ _ _ _ _ _ _ _ _ _ _) wr.drew
          refine wpAnyX_take (i := 9) (v := undef) rfl (by kernel_rfl) (by kernel_rfl) (by kernel_rfl) (by kernel_rfl) (fun _ _ _ h => h) (.inr ⟨rfl, rfl⟩) hS ?_
          change wpAnyX Try.prog .any _ _ _ _ 14 _ (chAct _ _ _ _ _ _ _ _ _ _ _ _ _ _ _ _ _ _ _ _ _ _ _ _ _ _ _ _ _ _ _ _ _ _ _ _ _ _ _ _ _ _ _ _ _ _ _ _ _ _ _ _ _ _ _ _ _ _ _ _ _ _ _ _ (.bool true) (.bool true) (undef) (undef) (undef) (undef) (undef) (undef) (undef) (undef) _ _ _ _ _ _ _ _ _ _ _ _ _ _ _ _ _ _ _ _ _) wr.drew
          refine wpAnyX_take (i := 10) (v := undef) rfl (by kernel_rfl) (by kernel_rfl) (by kernel_rfl) (by kernel_rfl) (fun _ _ _ h => h) (.inr ⟨rfl, rfl⟩) hS ?_
          change wpAnyX Try.prog .any _ _ _ _ 13 _ (chAct _ _ _ _ _ _ _ _ _ _ _ _ _ _ _ _ _ _ _ _ _ _ _ _ _ _ _ _ _ _ _ _ _ _ _ _ _ _ _ _ _ _ _ _ _ _ _ _ _ _ _ _ _ _ _ _ _ _ _ _ _ _ _ _ (.bool true) (.bool true) (undef) (undef) (undef) (undef) (undef) (undef) (undef) (undef) (undef) _ _ _ _ _ _ _ _ _ _ _ _ _ _ _ _ _ _ _ _) wr.drew
          refine wpAnyX_take (i := 11) (v := undef) rfl (by kernel_rfl) (by kernel_rfl) (by kernel_rfl) (by kernel_rfl) (fun _ _ _ h => h) (.inr ⟨rfl, rfl⟩) hS ?_
          change wpAnyX Try.prog .any _ _ _ _ 12 _ (chAct _ _ _ _ _ _ _ _ _ _ _ _ _ _ _ _ _ _ _ _ _ _ _ _ _ _ _ _ _ _ _ _ _ _ _ _ _ _ _ _ _ _ _ _ _ _ _ _ _ _ _ _ _ _ _ _ _ _ _ _ _ _ _ _ (.bool true) (.bool true) (undef) (undef) (undef) (undef) (undef) (undef) (undef) (undef) (undef) (undef) _ _ _ _ _ _ _ _ _ _ _ _ _ _ _ _ _ _ _) wr.drew
          refine wpAnyX_take (i := 12) (v := undef) rfl (by kernel_rfl) (by kernel_rfl) (by kernel_rfl) (by kernel_rfl) (fun _ _ _ h => h) (.inr ⟨rfl, rfl⟩) hS ?_
          change wpAnyX Try.prog .any _ _ _ _ 11 _ (chAct _ _ _ _ _ _ _ _ _ _ _ _ _ _ _ _ _ _ _ _ _ _ _ _ _ _ _ _ _ _ _ _ _ _ _ _ _ _ _ _ _ _ _ _ _ _ _ _ _ _ _ _ _ _ _ _ _ _ _ _ _ _ _ _ (.bool true) (.bool true) (undef) (undef) (undef) (undef) (undef) (undef) (undef) (undef) (undef) (undef) (undef) _ _ _ _ _ _ _ _ _ _ _ _ _ _ _ _ _ _) wr.drew
          refine wpAnyX_take (i := 13) (v := undef) rfl (by kernel_rfl) (by kernel_rfl) (by kernel_rfl) (by kernel_rfl) (fun _ _ _ h => h) (.inr ⟨rfl, rfl⟩) hS ?_
          change wpAnyX Try.prog .any _ _ _ _ 10 _ (chAct _ _ _ _ _ _ _ _ _ _ _ _ _ _ _ _ _ _ _ _ _ _ _ _ _ _ _ _ _ _ _ _ _ _ _ _ _ _ _ _ _ _ _ _ _ _ _ _ _ _ _ _ _ _ _ _ _ _ _ _ _ _ _ _ (.bool true) (.bool true) (undef) (undef) (undef) (undef) (undef) (undef) (undef) (undef) (undef) (undef) (undef) (undef) _ _ _ _ _ _ _ _ _ _ _ _ _ _ _ _ _) wr.drew
          refine wpAnyX_take (i := 14) (v := undef) rfl (by kernel_rfl) (by kernel_rfl) (by kernel_rfl) (by kernel_rfl) (fun _ _ _ h => h) (.inr ⟨rfl, rfl⟩) hS ?_
          change wpAnyX Try.prog .any _ _ _ _ 9 _ (chAct _ _ _ _ _ _ _ _ _ _ _ _ _ _ _ _ _ _ _ _ _ _ _ _ _ _ _ _ _ _ _ _ _ _ _ _ _ _ _ _ _ _ _ _ _ _ _ _ _ _ _ _ _ _ _ _ _ _ _ _ _ _ _ _ (.bool true) (.bool true) (undef) (undef) (undef) (undef) (undef) (undef) (undef) (undef) (undef) (undef) (undef) (undef) (undef) _ _ _ _ _ _ _ _ _ _ _ _ _ _ _ _) wr.drew
          refine wpAnyX_take (i := 15) (v := undef) rfl (by kernel_rfl) (by kernel_rfl) (by kernel_rfl) (by kernel_rfl) (fun _ _ _ h => h) (.inr ⟨rfl, rfl⟩) hS ?_
          change wpAnyX Try.prog .any _ _ _ _ 8 _ (chAct _ _ _ _ _ _ _ _ _ _ _ _ _ _ _ _ _ _ _ _ _ _ _ _ _ _ _ _ _ _ _ _ _ _ _ _ _ _ _ _ _ _ _ _ _ _ _ _ _ _ _ _ _ _ _ _ _ _ _ _ _ _ _ _ (.bool true) (.bool true) (undef) (undef) (undef) (undef) (undef) (undef) (undef) (undef) (undef) (undef) (undef) (undef) (undef) (undef) _ _ _ _ _ _ _ _ _ _ _ _ _ _ _) wr.drew
          refine wpAnyX_take (i := 16) (v := undef) rfl (by kernel_rfl) (by kernel_rfl) (by kernel_rfl) (by kernel_rfl) (fun _ _ _ h => h) (.inr ⟨rfl, rfl⟩) hS ?_
          change wpAnyX Try.prog .any _ _ _ _ 7 _ (chAct _ _ _ _ _ _ _ _ _ _ _ _ _ _ _ _ _ _ _ _ _ _ _ _ _ _ _ _ _ _ _ _ _ _ _ _ _ _ _ _ _ _ _ _ _ _ _ _ _ _ _ _ _ _ _ _ _ _ _ _ _ _ _ _ (.bool true) (.bool true) (undef) (undef) (undef) (undef) (undef) (undef) (undef) (undef) (undef) (undef) (undef) (undef) (undef) (undef) (undef) _ _ _ _ _ _ _ _ _ _ _ _ _ _) wr.drew
          refine wpAnyX_take (i := 17) (v := undef) rfl (by kernel_rfl) (by kernel_rfl) (by kernel_rfl) (by kernel_rfl) (fun _ _ _ h => h) (.inr ⟨rfl, rfl⟩) hS ?_
          change wpAnyX Try.prog .any _ _ _ _ 6 _ (chAct _ _ _ _ _ _ _ _ _ _ _ _ _ _ _ _ _ _ _ _ _ _ _ _ _ _ _ _ _ _ _ _ _ _ _ _ _ _ _ _ _ _ _ _ _ _ _ _ _ _ _ _ _ _ _ _ _ _ _ _ _ _ _ _ (.bool true) (.bool true) (undef) (undef) (undef) (undef) (undef) (undef) (undef) (undef) (undef) (undef) (undef) (undef) (undef) (undef) (undef) (undef) _ _ _ _ _ _ _ _ _ _ _ _ _) wr.drew
          refine wpAnyX_take (i := 18) (v := undef) rfl (by kernel_rfl) (by kernel_rfl) (by kernel_rfl) (by kernel_rfl) (fun _ _ _ h => h) (.inr ⟨rfl, rfl⟩) hS ?_
          change wpAnyX Try.prog .any _ _ _ _ 5 _ (chAct _ _ _ _ _ _ _ _ _ _ _ _ _ _ _ _ _ _ _ _ _ _ _ _ _ _ _ _ _ _ _ _ _ _ _ _ _ _ _ _ _ _ _ _ _ _ _ _ _ _ _ _ _ _ _ _ _ _ _ _ _ _ _ _ (.bool true) (.bool true) (undef) (undef) (undef) (undef) (undef) (undef) (undef) (undef) (undef) (undef) (undef) (undef) (undef) (undef) (undef) (undef) (undef) _ _ _ _ _ _ _ _ _ _ _ _) wr.drew
          refine wpAnyX_take (i := 19) (v := undef) rfl (by kernel_rfl) (by kernel_rfl) (by kernel_rfl) (by kernel_rfl) (fun _ _ _ h => h) (.inr ⟨rfl, rfl⟩) hS ?_
          change wpAnyX Try.prog .any _ _ _ _ 4 _ (chAct _ _ _ _ _ _ _ _ _ _ _ _ _ _ _ _ _ _ _ _ _ _ _ _ _ _ _ _ _ _ _ _ _ _ _ _ _ _ _ _ _ _ _ _ _ _ _ _ _ _ _ _ _ _ _ _ _ _ _ _ _ _ _ _ (.bool true) (.bool true) (undef) (undef) (undef) (undef) (undef) (undef) (undef) (undef) (undef) (undef) (undef) (undef) (undef) (undef) (undef) (undef) (undef) (undef) _ _ _ _ _ _ _ _ _ _ _) wr.drew
          refine wpAnyX_take (i := 20) (v := undef) rfl (by kernel_rfl) (by kernel_rfl) (by kernel_rfl) (by kernel_rfl) (fun _ _ _ h => h) (.inr ⟨rfl, rfl⟩) hS ?_
          change wpAnyX Try.prog .any _ _ _ _ 3 _ (chAct _ _ _ _ _ _ _ _ _ _ _ _ _ _ _ _ _ _ _ _ _ _ _ _ _ _ _ _ _ _ _ _ _ _ _ _ _ _ _ _ _ _ _ _ _ _ _ _ _ _ _ _ _ _ _ _ _ _ _ _ _ _ _ _ (.bool true) (.bool true) (undef) (undef) (undef) (undef) (undef) (undef) (undef) (undef) (undef) (undef) (undef) (undef) (undef) (undef) (undef) (undef) (undef) (undef) (undef) _ _ _ _ _ _ _ _ _ _) wr.drew
          refine wpAnyX_take (i := 21) (v := undef) rfl (by kernel_rfl) (by kernel_rfl) (by kernel_rfl) (by kernel_rfl) (fun _ _ _ h => h) (.inr ⟨rfl, rfl⟩) hS ?_
          change wpAnyX Try.prog .any _ _ _ _ 2 _ (chAct _ _ _ _ _ _ _ _ _ _ _ _ _ _ _ _ _ _ _ _ _ _ _ _ _ _ _ _ _ _ _ _ _ _ _ _ _ _ _ _ _ _ _ _ _ _ _ _ _ _ _ _ _ _ _ _ _ _ _ _ _ _ _ _ (.bool true) (.bool true) (undef) (undef) (undef) (undef) (undef) (undef) (undef) (undef) (undef) (undef) (undef) (undef) (undef) (undef) (undef) (undef) (undef) (undef) (undef) (undef) _ _ _ _ _ _ _ _ _) wr.drew
          refine wpAnyX_take (i := 22) (v := .bool true) rfl (by kernel_rfl) (by kernel_rfl) (by kernel_rfl) (by kernel_rfl) (fun _ _ _ h => h) (.inl ⟨rfl, fun w' hw' => rfl⟩) hS ?_
          change wpAnyX Try.prog .any _ _ _ _ 1 _ (chAct _ _ _ _ _ _ _ _ _ _ _ _ _ _ _ _ _ _ _ _ _ _ _ _ _ _ _ _ _ _ _ _ _ _ _ _ _ _ _ _ _ _ _ _ _ _ _ _ _ _ _ _ _ _ _ _ _ _ _ _ _ _ _ _ (.bool true) (.bool true) (undef) (undef) (undef) (undef) (undef) (undef) (undef) (undef) (undef) (undef) (undef) (undef) (undef) (undef) (undef) (undef) (undef) (undef) (undef) (undef) (.bool true) _ _ _ _ _ _ _ _) wr.drew
          refine wpAnyX_take (i := 23) (v := .bool true) rfl (by kernel_rfl) (by kernel_rfl) (by kernel_rfl) (by kernel_rfl) (fun _ _ _ h => h) (.inl ⟨rfl, fun w' hw' => rfl⟩) hS ?_
          change wpAnyX Try.prog .any _ _ _ _ 0 _ (chAct _ _ _ _ _ _ (.bool true) _ _ _ _ _ _ _ _ _ _ _ _ _ _ _ _ _ _ _ _ _ _ _ _ _ _ _ _ _ _ _ _ _ _ _ _ _ _ _ _ _ _ _ _ _ _ _ _ _ _ _ _ _ _ _ _ _ (.bool true) (.bool true) (undef) (undef) (undef) (undef) (undef) (undef) (undef) (undef) (undef) (undef) (undef) (undef) (undef) (undef) (undef) (undef) (undef) (undef) (undef) (undef) (.bool true) _ _ _ _ _ _ _ _) wr.drew
          refine wpAnyX_done (by kernel_rfl) ?_ _
          unfold chAct
          go_wp2
          go_roundw
          all_goals first
            | exact ⟨k + 1, by omega, by go_num, by rw [HST.out]; rfl, Lib.hid HBW.out.drew⟩
            | (simp [intOf]; omega)
      · obtain rfl : m = k := by omega
        have HF : Hid (hoB (ls.take m) xs = bc) := Lib.hid (by rw [HHO.out, HM.out, List.take_length])
        rw [HF.out]
        have HB7 := Lib.hid (HB6.out.trans (HBW.out.mono HB6.out.size))
        have HX7 := Lib.hid (HX6.out.below HBW.out)
        clear HBW HX6 HB6
        go_wp2_with fail
        refine (iClauseHolds_any _ _ [] xs wr (rdLits_nil wr) HX7.out).mono ?_
        rintro e w8 ⟨rfl, b8⟩
        rw [chB_nil]
        have HB8 := Lib.hid (HB7.out.trans (b8.mono HB7.out.size))
        clear b8 HB7 HX7
        go_wp2
        go_ret
        exact ⟨rfl, HB8.out⟩
end Go.Proofs.Ytolfjkdkbiicmaa
