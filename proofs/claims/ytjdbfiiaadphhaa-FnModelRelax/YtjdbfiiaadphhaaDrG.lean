/- The draw of a constraint that may be invalid. The draw of a constraint that may be invalid, and of domains for it. -/
import Derived.Test.YtjdbfiiaadphhaaDrKc
import Derived.Test.YtjdbfiiaadphhaaDrDst

/-! The draw of a constraint that may be invalid. -/
namespace Go.Proofs.Ytjdbfiiaadphhaa
open Go.ChangeShapes Go.WideShapes Go.ChangeAt Go.RowKit Go.Shelf
set_option linter.unusedVariables false
set_option linter.unusedSimpArgs false

theorem wo_new {Q : Nat → Bool} {B : Nat} {a w : World} (hb : Below a.heap.size a w) (hQ : ∀ b, b < a.heap.size → b ≠ B → Q b = false) : Inc (wo B a) (av Q w) := fun p x hx => by
  obtain ⟨e, h1⟩ := wo_at B a hx
  have hl := World.block_lt_of_cell? a _ h1
  exact av_mk Q w (hQ _ hl e) ((hb.cell hl).trans h1)
set_option maxRecDepth 100000 in
theorem scopyInts_nil (w : World) : Calls Try.prog 149 #[.slice none 0 0] w (IntsPost [] w) := by
  obtain ⟨i0, hi, hz0, hz1, hz2⟩ := info_parts Try.info3
  have hmade := ownsRow_made w 3
  have hrun := run_append_owned_none (P := Try.prog) (w := w.alloc (.cells #[] 3)) w.heap.size 32 32 3 i0 1 Try.underlying32 hi _ 0 [] hmade
  go_enter Try.func149, Try.ntmps149
  go_wp2
  go_ret
  exact ⟨_, rfl, hmade, (Below.refl _ _).alloc (Nat.le_refl _) _⟩
theorem e_field1 {w : World} {ev : Operand → Value} {o : Oper} {x : Operand} {b : Nat} (ho : o.op = .fieldAddr 53 x 1) (hx : ev x = .pointer (some ⟨b, 0, none⟩)) : (execOp ev o).run Try.prog w = .ok (.value (.pointer (some ⟨b, 1, none⟩))) w := by
  unfold execOp
  simp only [ho, hx]
  go_simp
theorem e_index0 (w : World) (b o n c : Nat) (hj : 1 ≤ n) : (Instr.indexAt 32 (.slice (some ⟨b, o, none⟩) n c) (.int .i64 0)).run Try.prog w = .ok (.pointer (some ⟨b, o, none⟩)) w := by
  have h0 : 0 < n := by omega
  go_simp
theorem e_call1 {P : Program} (w : World) {ops : Array Oper} {o : Oper} {a : Act} {K : Act → World → Prop} {Q : Exit → Act → World → Prop} {E : Prop} (hgd : o.guard = none) (F : FuncId) (x0 : Operand) (v0 : Value) (ts : Array TypeId)
    (ho : o.op = .call { callee := .value (.func F), args := #[x0], argTypes := ts }) (h0 : a.eval x0 = v0) (eg : ∀ gs w, (callFunc F gs).run P w = .ok (.enter F gs) w)
    (R : Ending → World → Prop) (h : Calls P F #[v0] w R) (hp : ∀ c w', ¬ R (.panicked c) w') (hou : ∀ w', ¬ R .outgrown w') (hR : ∀ v w', R (.returned v) w' → K (a.put o.dst v) w') :
    if Region.wanted o (yielded ops a.tmps) = true then Oper.wp P o a w K Q else E := by
  have hw : Region.wanted o (yielded ops a.tmps) = true := by simp [Region.wanted, hgd]
  rw [if_pos hw]
  have hrun : (execOp a.eval o).run P w = .ok (.enter F #[v0]) w := by
    have hf : a.eval (.func F) = .func (.func F) #[] #[] := rfl
    simp [execOp, ho, resolve, invoke, eg, Deferred.ofValue, h0, hf]
  unfold Oper.wp
  rw [hrun]
  refine Calls.mono h ?_
  intro e w' hr
  cases e with
  | returned v => exact hR v w' hr
  | panicked c => exact (hp c w' hr).elim
  | outgrown => exact (hou w' hr).elim
theorem wpAnyX_twoE {P : Program} {ops : Array Oper} {Q : Exit → Act → World → Prop} {md : Region.Mode} {S : World → Prop} {X : Nat → Bool} {i j : Nat} {o q : Oper} {fuel : Nat} {listed : Array Bool} {a : Act} {w : World} (hr : Region.ready md ops listed = [i, j]) (ho : ops[i]? = some o) (hq : ops[j]? = some q)
    (h : ∀ K' : Act → World → Prop, Shut (∀ a w, (X i = false → S w) → wpAnyX P md ops Q S X fuel (listed.setIfInBounds i true) a w → K' a w) → if Region.wanted o (yielded ops a.tmps) = true then Oper.wp P o a w K' Q else K' (a.put o.dst undef) w)
    (h' : ∀ K' : Act → World → Prop, Shut (∀ a w, (X j = false → S w) → wpAnyX P md ops Q S X fuel (listed.setIfInBounds j true) a w → K' a w) → if Region.wanted q (yielded ops a.tmps) = true then Oper.wp P q a w K' Q else K' (a.put q.dst undef) w) :
    wpAnyX P md ops Q S X (fuel + 1) listed a w := by
  refine ⟨fun h0 => absurd (hr.symm.trans h0) (by simp), fun k hk => ?_⟩
  rw [hr] at hk
  rcases (show k = i ∨ k = j by simpa using hk) with rfl | rfl
  · exact wpOp_step ho (fun K' hK => h K' (fun a w hS hW => hK a w ⟨hS, hW⟩))
  · exact wpOp_step hq (fun K' hK => h' K' (fun a w hS hW => hK a w ⟨hS, hW⟩))
def dmAct (z0 z1 z2 z3 z4 z5 z6 z7 z8 z9 z10 z11 z12 z13 z14 z15 z16 z17 z18 z19 z20 z21 z22 z23 z24 z25 z26 z27 z28 z29 z30 z31 z32 z33 z34 z35 z36 z37 z38 z39 z40 z41 z42 z43 z44 : Value) : Act := { tmps := #[z0, z1, z2, z3, z4, z5, z6, z7, z8, z9, z10, z11, z12, z13, z14, z15, z16, z17, z18, z19, z20, z21, z22, z23, z24, z25, z26, z27, z28, z29, z30, z31, z32, z33, z34, z35, z36, z37, z38, z39, z40, z41, z42, z43, z44], defers := [] }
set_option maxRecDepth 100000 in
set_option maxHeartbeats 64000000 in
theorem damage_any (Q0 : Nat → Bool) (n0 B : Nat) (p : Int) (c : Con) (u1 u2 u4 : Value) (w : World) (hR : Rd n0 B p w) (r1 : RdInts (av Q0 w) u1 c.vars) (r2 : RdInts (av Q0 w) u2 c.args) (r4 : RdRows (av Q0 w) u4 c.rows) (hnil : NilOk u2) (hv : 1 ≤ c.vars.length) (hc : ConLe c 20) (hp : 0 ≤ p) (hp2 : p ≤ 1000000) (hQB : Q0 B = true) (hQ0 : ∀ b, w.heap.size ≤ b → Q0 b = false) :
    Calls Try.prog 154 #[.pointer (some ⟨B, 0, none⟩), .agg #[.int .i64 c.kind, u1, u2, .int .i64 c.bound, u4]] w (ConDn Q0 n0 B p 3 21 w) := by
  have hlt := hR.lt
  obtain ⟨a1, vc, e1, hvc, hvm, hv3⟩ := id r1
  obtain ⟨a2, ac, e2, hac, ham, ha3⟩ := id r2
  obtain ⟨a4, rc, e4, hrc, hrm, hr4⟩ := id r4
  obtain ⟨gv, go, rfl⟩ : ∃ gv go, a1 = some ⟨gv, go, none⟩ := by
    rcases hv3 with h | ⟨b, o, h, _⟩
    · omega
    · exact ⟨b, o, h⟩
  obtain ⟨vn, hvn⟩ : ∃ n, n = c.vars.length := ⟨_, rfl⟩
  obtain ⟨an, han⟩ : ∃ n, n = c.args.length := ⟨_, rfl⟩
  obtain ⟨rn, hrn⟩ : ∃ n, n = c.rows.length := ⟨_, rfl⟩
  rw [← hvn] at e1 hvc
  rw [← han] at e2 hac
  rw [← hrn] at e4 hrc
  subst e1 e2 e4
  obtain ⟨ck, cvars, cargs, cb, crows⟩ := c
  simp only at *
  have hvl : vn ≤ 20 := by rw [hvn]; exact hc.1
  have hal : an ≤ 20 := by rw [han]; exact hc.2.1
  have hv1 : 1 ≤ vn := by omega
  unfold maxLen at hvm ham hrm
  have HVN := Lib.hid hvn
  have HAN := Lib.hid han
  have HCL := Lib.hid hc
  have HNIL := Lib.hid hnil
  have HRL : Hid (RowsLe crows 20) := Lib.hid hc.2.2
  obtain ⟨C, hCe⟩ : ∃ C, C = w.heap.size := ⟨_, rfl⟩
  obtain ⟨R, hRe⟩ : ∃ R, R = w.heap.size + 1 := ⟨_, rfl⟩
  obtain ⟨W2, hW2⟩ : ∃ W2, (w.alloc (.cells #[.int .i64 ck, (.slice (some ⟨gv, go, none⟩) vn vc), (.slice a2 an ac), .int .i64 cb, (.slice a4 rn rc)] 53)).alloc (.cells #[.int .i64 0, .slice none 0 0, .slice none 0 0, .int .i64 0, .slice none 0 0] 53) = W2 := ⟨_, rfl⟩
  have hb2 : Below w.heap.size w W2 := by rw [← hW2]; exact ((Below.refl _ _).alloc (Nat.le_refl _) _).alloc (by simp) _
  have hk : KP Q0 B R C n0 w := ⟨hlt, by omega, by omega, by omega, hR.1, hQB, hQ0⟩
  have hks : KS Q0 n0 B R C w W2 p ⟨ck, cvars, cargs, cb, crows⟩ (.slice (some ⟨gv, go, none⟩) vn vc) (.slice a2 an ac) (.slice a4 rn rc) := by
    have hQ : ∀ b, b < w.heap.size → Q0 b = false → qs Q0 R C b = false := fun b hb hbB => qs_no hbB (by omega) (by omega)
    refine ⟨?_, ?_, r1.inc (av_new hb2 hQ), r2.inc (av_new hb2 hQ), r4.inc (av_new hb2 hQ), hR.below (hb2.mono (by omega)), Dn.of_below hb2⟩
    · rw [← hW2, hCe]
      exact (Blk5.new w _ _ _ _ _ _).alloc _
    · rw [← hW2, hRe]
      have := Blk5.new (w.alloc (.cells #[.int .i64 ck, (.slice (some ⟨gv, go, none⟩) vn vc), (.slice a2 an ac), .int .i64 cb, (.slice a4 rn rc)] 53)) 53 (.int .i64 0) (.slice none 0 0) (.slice none 0 0) (.int .i64 0) (.slice none 0 0)
      rw [World.size_alloc] at this
      exact this
  have HK := Lib.hid hk
  have HKS0 := Lib.hid hks
  have HW2 := Lib.hid hW2
  have HCE := Lib.hid hCe
  have HRE := Lib.hid hRe
  clear hQB hQ0 hlt hR r1 r2 r4 hnil hv hc hvn han hrn hb2 hk hks hW2 hv3 ha3 hr4 hCe hRe
  go_enter Try.func154, Try.ntmps154
  go_wp2_with fail
  rw [HW2.out, ← HRE.out, ← HCE.out]
  clear HW2 HRE HCE
  refine (pick_dn n0 B p 5 W2 HKS0.out.rd (by omega) (by omega) (by omega)).mono ?_
  rintro e w3 ⟨x, rfl, hx0, hx1, r3, d3⟩
  have HKS := Lib.hid (HKS0.out.dnStep HK.out d3 r3)
  clear r3 d3 HKS0
  have hx4 : x = 0 ∨ x = 1 ∨ x = 2 ∨ x = 3 ∨ x = 4 := by omega
  clear hx0 hx1
  rcases hx4 with rfl | rfl | rfl | rfl | rfl
  · skip
    obtain ⟨W4, hW4⟩ : ∃ W4, w3.alloc (.cells #[.int .i64 0, .int .i64 10, .int .i64 1, .int .i64 5] 3) = W4 := ⟨_, rfl⟩
    have q4 : W4.heap[w3.heap.size]? = some (.cells #[.int .i64 0, .int .i64 10, .int .i64 1, .int .i64 5] 3) := by rw [← hW4]; exact World.alloc_heap_new _ _
    have hc4 : ∀ i, i < 4 → W4.cell? ⟨w3.heap.size, i, none⟩ = some (.int .i64 (([0, 10, 1, 5] : List Int)[i]?.getD 0)) := fun i hi => by
      simp only [World.cell?, q4]
      rcases (show i = 0 ∨ i = 1 ∨ i = 2 ∨ i = 3 by omega) with rfl | rfl | rfl | rfl <;> rfl
    have b4 : Below w3.heap.size w3 W4 := by rw [← hW4]; exact (Below.refl _ _).alloc (Nat.le_refl _) _
    have HKS4 := Lib.hid (HKS.out.below HK.out b4)
    have HC4 := Lib.hid hc4
    have HW4 := Lib.hid hW4
    have HNE := Lib.hid (show w3.heap.size ≠ B by have := HKS.out.rd.lt; omega)
    clear hW4 q4 hc4 b4
    go_wp2_with fail
    rw [HW4.out]
    refine (one_dn n0 B w3.heap.size 4 (p + 1) (fun i => ([0, 10, 1, 5] : List Int)[i]?.getD 0) W4 HKS4.out.rd (by omega) (by omega) (by omega) (by omega) HNE.out HC4.out).mono ?_
    rintro e w5 ⟨i, hi5, rfl, r5, d5⟩
    obtain ⟨z, hz⟩ : ∃ z, z = ([0, 10, 1, 5] : List Int)[i]?.getD 0 := ⟨_, rfl⟩
    simp only [← hz]
    have HKS5 := Lib.hid (HKS4.out.dnStep HK.out d5 r5)
    clear hz r5 d5 HKS4 HC4 HW4 HNE HKS
    have HKS6 := Lib.hid (HKS5.out.setKind HK.out z)
    obtain ⟨W6, hW6⟩ : ∃ W6, w5.setCell ⟨C, 0, none⟩ (.int .i64 z) = W6 := ⟨_, rfl⟩
    rw [hW6] at HKS6
    have HW6 := Lib.hid hW6
    clear hW6
    have ya := HKS5.out.bc.cell.1
    have za := HKS5.out.bc.frozen.1
    obtain ⟨p0, p1, p2, p3, p4⟩ := HKS6.out.bc.cell
    obtain ⟨g0, g1, g2, g3, g4⟩ := HKS6.out.bc.frozen
    obtain ⟨o0, o1, o2, o3, o4⟩ := HKS6.out.br.cell
    obtain ⟨f0, f1, f2, f3, f4⟩ := HKS6.out.br.frozen
    go_wp2_with (rw [HW6.out])
    have hq := (putR_blk HKS6.out.br (.int .i64 z) (.slice (some ⟨gv, go, none⟩) vn vc) (.slice a2 an ac) (.int .i64 cb) (.slice a4 rn rc)).cell
    simp only [putR] at hq
    obtain ⟨q0, q1, q2, q3, q4⟩ := hq
    refine bodyPost_ret (v := .agg #[.int .i64 z, .slice (some ⟨gv, go, none⟩) vn vc, .slice a2 an ac, .int .i64 cb, .slice a4 rn rc]) (by simp [results, Try.results154, go_sem, q0, q1, q2, q3, q4]) rfl ?_
    exact conDn_fin (c := ⟨z, cvars, cargs, cb, crows⟩) HK.out HKS6.out (by show 1 ≤ cvars.length; rw [← HVN.out]; exact hv1) ⟨by show _ ≤ 21; rw [← HVN.out]; omega, by show _ ≤ 21; rw [← HAN.out]; omega, HRL.out.mono (by omega)⟩ (by omega) (by omega) HNIL.out
  · skip
    obtain ⟨x0, hx0⟩ : ∃ x0, x0 = cvars[0]?.getD 0 := ⟨_, rfl⟩
    have hrv := HKS.out.r1.inc (av_inc _ _)
    obtain ⟨bb, oo, eb, qc⟩ := rdInts_at (i := 0) hrv (by omega)
    simp at eb
    obtain ⟨rfl, rfl⟩ := eb
    rw [Nat.add_zero, ← hx0] at qc
    have HRV := Lib.hid hrv
    have hS : w3.drew.cell? ⟨C, 1, none⟩ = some (.slice (some ⟨gv, go, none⟩) vn vc) ∧ w3.drew.cell? ⟨gv, go, none⟩ = some (.int .i64 x0) := ⟨HKS.out.bc.cell.2.1, qc⟩
    have HX0 := Lib.hid hx0
    clear hrv qc hx0
    go_wp2_with fail
    refine region_x (fun w' => w'.cell? ⟨C, 1, none⟩ = some (.slice (some ⟨gv, go, none⟩) vn vc) ∧ w'.cell? ⟨gv, go, none⟩ = some (.int .i64 x0)) (fun i => i == 10) rfl ?_
    change wpAnyX Try.prog .any _ _ _ _ 11 _ (dmAct _ _ _ _ _ _ _ _ _ _ _ _ _ _ _ _ _ _ _ _ _ _ _ _ _ _ _ _ _ _ _ _ _ _ _ _ _ _ _ _ _ _ _ _ _) w3.drew
    refine wpAnyX_take (i := 0) (v := .pointer (some ⟨C, 1, none⟩)) rfl (by kernel_rfl) (by kernel_rfl) (by kernel_rfl) (by kernel_rfl) (fun _ _ _ h => h) (.inl ⟨rfl, fun w' hw' => e_field1 rfl rfl⟩) hS ?_
    change wpAnyX Try.prog .any _ _ _ _ 10 _ (dmAct _ _ _ _ _ _ _ _ _ _ _ _ _ _ _ _ _ _ _ _ (.pointer (some ⟨C, 1, none⟩)) _ _ _ _ _ _ _ _ _ _ _ _ _ _ _ _ _ _ _ _ _ _ _ _) w3.drew
    refine wpAnyX_take (i := 1) (v := .slice (some ⟨gv, go, none⟩) vn vc) rfl (by kernel_rfl) (by kernel_rfl) (by kernel_rfl) (by kernel_rfl) (fun _ _ _ h => h) (.inl ⟨rfl, fun w' hw' => exec_load rfl rfl (k_loadI w' _ _ _ _ _ hw'.1)⟩) hS ?_
    change wpAnyX Try.prog .any _ _ _ _ 9 _ (dmAct _ _ _ _ _ _ _ _ _ _ _ _ _ _ _ _ _ _ _ _ (.pointer (some ⟨C, 1, none⟩)) (.slice (some ⟨gv, go, none⟩) vn vc) _ _ _ _ _ _ _ _ _ _ _ _ _ _ _ _ _ _ _ _ _ _ _) w3.drew
    refine wpAnyX_take (i := 3) (v := .pointer (some ⟨C, 1, none⟩)) rfl (by kernel_rfl) (by kernel_rfl) (by kernel_rfl) (by kernel_rfl) (fun _ _ _ h => h) (.inl ⟨rfl, fun w' hw' => e_field1 rfl rfl⟩) hS ?_
    change wpAnyX Try.prog .any _ _ _ _ 8 _ (dmAct _ _ _ _ _ _ _ _ _ _ _ _ _ _ _ _ _ _ _ _ (.pointer (some ⟨C, 1, none⟩)) (.slice (some ⟨gv, go, none⟩) vn vc) _ (.pointer (some ⟨C, 1, none⟩)) _ _ _ _ _ _ _ _ _ _ _ _ _ _ _ _ _ _ _ _ _) w3.drew
    refine wpAnyX_take (i := 4) (v := .slice (some ⟨gv, go, none⟩) vn vc) rfl (by kernel_rfl) (by kernel_rfl) (by kernel_rfl) (by kernel_rfl) (fun _ _ _ h => h) (.inl ⟨rfl, fun w' hw' => exec_load rfl rfl (k_loadI w' _ _ _ _ _ hw'.1)⟩) hS ?_
    change wpAnyX Try.prog .any _ _ _ _ 7 _ (dmAct _ _ _ _ _ _ _ _ _ _ _ _ _ _ _ _ _ _ _ _ (.pointer (some ⟨C, 1, none⟩)) (.slice (some ⟨gv, go, none⟩) vn vc) _ (.pointer (some ⟨C, 1, none⟩)) (.slice (some ⟨gv, go, none⟩) vn vc) _ _ _ _ _ _ _ _ _ _ _ _ _ _ _ _ _ _ _ _) w3.drew
    refine wpAnyX_take (i := 5) (v := .pointer (some ⟨gv, go, none⟩)) rfl (by kernel_rfl) (by kernel_rfl) (by kernel_rfl) (by kernel_rfl) (fun _ _ _ h => h) (.inl ⟨rfl, fun w' hw' => exec_index rfl rfl rfl (e_index0 w' _ _ _ _ hv1)⟩) hS ?_
    change wpAnyX Try.prog .any _ _ _ _ 6 _ (dmAct _ _ _ _ _ _ _ _ _ _ _ _ _ _ _ _ _ _ _ _ (.pointer (some ⟨C, 1, none⟩)) (.slice (some ⟨gv, go, none⟩) vn vc) _ (.pointer (some ⟨C, 1, none⟩)) (.slice (some ⟨gv, go, none⟩) vn vc) (.pointer (some ⟨gv, go, none⟩)) _ _ _ _ _ _ _ _ _ _ _ _ _ _ _ _ _ _ _) w3.drew
    refine wpAnyX_take (i := 6) (v := .int .i64 x0) rfl (by kernel_rfl) (by kernel_rfl) (by kernel_rfl) (by kernel_rfl) (fun _ _ _ h => h) (.inl ⟨rfl, fun w' hw' => exec_load rfl rfl (load_int w' _ _ _ hw'.2)⟩) hS ?_
    change wpAnyX Try.prog .any _ _ _ _ 5 _ (dmAct _ _ _ _ _ _ _ _ _ _ _ _ _ _ _ _ _ _ _ _ (.pointer (some ⟨C, 1, none⟩)) (.slice (some ⟨gv, go, none⟩) vn vc) _ (.pointer (some ⟨C, 1, none⟩)) (.slice (some ⟨gv, go, none⟩) vn vc) (.pointer (some ⟨gv, go, none⟩)) (.int .i64 x0) _ _ _ _ _ _ _ _ _ _ _ _ _ _ _ _ _ _) w3.drew
    refine wpAnyX_twoE (i := 2) (j := 7) (by kernel_rfl) rfl rfl (fun K' hK' => ?_) (fun K' hK' => ?_)
    · refine e_call1 _ rfl 149 _ _ _ rfl rfl (enters_of Try.func149 (by kernel_rfl) rfl) _ (scopyInts_at gv go vn vc cvars w3.drew HVN.out (HRV.out.below (Below.refl _ _).drew) (by omega)) (fun c w' h => by obtain ⟨_, h, _⟩ := h; cases h) (fun w' h => by obtain ⟨_, h, _⟩ := h; cases h) ?_
      rintro vv0 w5 ⟨vv, ev, own5, bc⟩
      obtain rfl : vv = vv0 := by injection ev with h; exact h.symm
      have hSc : w5.cell? ⟨C, 1, none⟩ = some (.slice (some ⟨gv, go, none⟩) vn vc) ∧ w5.cell? ⟨gv, go, none⟩ = some (.int .i64 x0) := ⟨(bc.cell (World.block_lt_of_cell? _ _ hS.1)).trans hS.1, (bc.cell (World.block_lt_of_cell? _ _ hS.2)).trans hS.2⟩
      refine hK'.out _ _ (fun _ => hSc) ?_
      clear hK' K'
      change wpAnyX Try.prog .any _ _ _ _ 4 _ (dmAct _ _ _ _ _ _ _ _ _ _ _ _ _ _ _ _ _ _ _ _ (.pointer (some ⟨C, 1, none⟩)) (.slice (some ⟨gv, go, none⟩) vn vc) (vv) (.pointer (some ⟨C, 1, none⟩)) (.slice (some ⟨gv, go, none⟩) vn vc) (.pointer (some ⟨gv, go, none⟩)) (.int .i64 x0) _ _ _ _ _ _ _ _ _ _ _ _ _ _ _ _ _ _) w5
      refine wpAnyX_one (i := 7) (by kernel_rfl) rfl (fun K' hK' => ?_)
      refine step_value _ (w5.alloc (.cells #[.int .i64 x0] 3)) rfl _ (k_exec1 rfl rfl (k_build1 w5 _)) ?_
      have bbA : Below w5.heap.size w5 (w5.alloc (.cells #[.int .i64 x0] 3)) := (Below.refl _ _).alloc (Nat.le_refl _) _
      have hSb : (w5.alloc (.cells #[.int .i64 x0] 3)).cell? ⟨C, 1, none⟩ = some (.slice (some ⟨gv, go, none⟩) vn vc) ∧ (w5.alloc (.cells #[.int .i64 x0] 3)).cell? ⟨gv, go, none⟩ = some (.int .i64 x0) := ⟨(bbA.cell (World.block_lt_of_cell? _ _ hSc.1)).trans hSc.1, (bbA.cell (World.block_lt_of_cell? _ _ hSc.2)).trans hSc.2⟩
      refine hK'.out _ _ (fun _ => hSb) ?_
      clear hK' K'
      change wpAnyX Try.prog .any _ _ _ _ 3 _ (dmAct _ _ _ _ _ _ _ _ _ _ _ _ _ _ _ _ _ _ _ _ (.pointer (some ⟨C, 1, none⟩)) (.slice (some ⟨gv, go, none⟩) vn vc) (vv) (.pointer (some ⟨C, 1, none⟩)) (.slice (some ⟨gv, go, none⟩) vn vc) (.pointer (some ⟨gv, go, none⟩)) (.int .i64 x0) (.slice (some ⟨w5.heap.size, 0, none⟩) 1 1) _ _ _ _ _ _ _ _ _ _ _ _ _ _ _ _ _) (w5.alloc (.cells #[.int .i64 x0] 3))
      refine wpAnyX_one (i := 8) (by kernel_rfl) rfl (fun K' hK' => ?_)
      have own5' := own5.alloc (.cells #[.int .i64 x0] 3)
      rw [← HVN.out] at own5'
      have hsz : w3.drew.heap.size ≤ (w5.alloc (.cells #[.int .i64 x0] 3)).heap.size := Nat.le_trans bc.size bbA.size; have hszw := hsz; have hbase : w3.drew.heap.size ≤ w3.drew.heap.size := Nat.le_refl _
      refine k_appendI rfl _ _ rfl w3.drew.heap.size (vv) (cvars.map (Value.int .i64)) vn w5.heap.size x0 rfl rfl own5' (cell_one_new _ _ _ 0 _ rfl) hsz (by omega) ?_
      intro v8 w8 own8 grow8
      obtain ⟨ua', cap', ev8, hc8, hc8'⟩ := own_form own8
      subst ev8
      have hlow : Below w3.drew.heap.size w3.drew w8 := (bc.trans (bbA.mono bc.size)).grown grow8 hszw (fun g e => Nat.le_trans hbase (own5'.lt g e).1)
      have hS8 : w8.cell? ⟨C, 1, none⟩ = some (.slice (some ⟨gv, go, none⟩) vn vc) ∧ w8.cell? ⟨gv, go, none⟩ = some (.int .i64 x0) := ⟨(hlow.cell (World.block_lt_of_cell? _ _ hS.1)).trans hS.1, (hlow.cell (World.block_lt_of_cell? _ _ hS.2)).trans hS.2⟩
      refine hK'.out _ _ (fun _ => hS8) ?_
      clear hK' K'
      change wpAnyX Try.prog .any _ _ _ _ 2 _ (dmAct _ _ _ _ _ _ _ _ _ _ _ _ _ _ _ _ _ _ _ _ (.pointer (some ⟨C, 1, none⟩)) (.slice (some ⟨gv, go, none⟩) vn vc) (vv) (.pointer (some ⟨C, 1, none⟩)) (.slice (some ⟨gv, go, none⟩) vn vc) (.pointer (some ⟨gv, go, none⟩)) (.int .i64 x0) (.slice (some ⟨w5.heap.size, 0, none⟩) 1 1) (.slice ua' (vn + 1) cap') _ _ _ _ _ _ _ _ _ _ _ _ _ _ _ _) w8
      refine wpAnyX_take (i := 9) (v := .pointer (some ⟨C, 1, none⟩)) rfl (by kernel_rfl) (by kernel_rfl) (by kernel_rfl) (by kernel_rfl) (fun _ _ _ h => h) (.inl ⟨rfl, fun w' hw' => e_field1 rfl rfl⟩) hS8 ?_
      change wpAnyX Try.prog .any _ _ _ _ 1 _ (dmAct _ _ _ _ _ _ _ _ _ _ _ _ _ _ _ _ _ _ _ _ (.pointer (some ⟨C, 1, none⟩)) (.slice (some ⟨gv, go, none⟩) vn vc) (vv) (.pointer (some ⟨C, 1, none⟩)) (.slice (some ⟨gv, go, none⟩) vn vc) (.pointer (some ⟨gv, go, none⟩)) (.int .i64 x0) (.slice (some ⟨w5.heap.size, 0, none⟩) 1 1) (.slice ua' (vn + 1) cap') (.pointer (some ⟨C, 1, none⟩)) _ _ _ _ _ _ _ _ _ _ _ _ _ _ _) w8
      refine wpAnyX_one (i := 10) (by kernel_rfl) rfl (fun K' hK' => ?_)
      have hF8 : w8.frozen? ⟨C, 1, none⟩ = false := (hlow.frozen (World.block_lt_of_cell? _ _ hS.1)).trans HKS.out.bc.frozen.2.1
      refine step_skip _ (w8.setCell ⟨C, 1, none⟩ (.slice ua' (vn + 1) cap')) rfl (exec_store rfl rfl rfl (k_storeI w8 C 1 _ ua' vn vc (vn + 1) cap' hS8.1 hF8)) ?_
      refine hK'.out _ _ (fun h => by cases h) ?_
      clear hK' K'
      change wpAnyX Try.prog .any _ _ _ _ 0 _ (dmAct _ _ _ _ _ _ _ _ _ _ _ _ _ _ _ _ _ _ _ _ (.pointer (some ⟨C, 1, none⟩)) (.slice (some ⟨gv, go, none⟩) vn vc) (vv) (.pointer (some ⟨C, 1, none⟩)) (.slice (some ⟨gv, go, none⟩) vn vc) (.pointer (some ⟨gv, go, none⟩)) (.int .i64 x0) (.slice (some ⟨w5.heap.size, 0, none⟩) 1 1) (.slice ua' (vn + 1) cap') (.pointer (some ⟨C, 1, none⟩)) _ _ _ _ _ _ _ _ _ _ _ _ _ _ _) (w8.setCell ⟨C, 1, none⟩ (.slice ua' (vn + 1) cap'))
      refine wpAnyX_done (by kernel_rfl) ?_ _
      unfold dmAct
      have hown9 : w8.ownsRow w3.drew.heap.size 3 1 (.slice ua' (vn + 1) cap') (vn + 1) ((cvars ++ [x0]).map (Value.int .i64)) := by rw [List.map_append]; exact own_mono own8 hbase
      have hks8 := HKS.out.below HK.out (show Below w3.heap.size w3 w8 from (Below.refl _ w3).drew.trans hlow)
      have hrd8 : RdInts (av (qs Q0 R C) w8) (.slice ua' (vn + 1) cap') (cvars ++ [x0]) := rdInts_of_own (by have := own_av hown9 (Q := qs Q0 R C) (fun b hb => qs_no (HK.out.hQ0 _ (by have := HKS.out.dn.size; have : w3.heap.size ≤ b := hb; omega)) (by have := HKS.out.br.lt; have : w3.heap.size ≤ b := hb; omega) (by have := HKS.out.bc.lt; have : w3.heap.size ≤ b := hb; omega)); rw [List.length_append, ← HVN.out]; exact this)
      have HKS9 := Lib.hid (hks8.setVars HK.out hrd8)
      obtain ⟨W9, hW9⟩ : ∃ W9, w8.setCell ⟨C, 1, none⟩ (.slice ua' (vn + 1) cap') = W9 := ⟨_, rfl⟩
      rw [hW9] at HKS9 ⊢
      clear hW9 hown9 hks8 hrd8 hlow own8 grow8 hS8 hF8 own5' own5 bc hSc hSb hsz hszw hbase HRV hS
      obtain ⟨p0, p1, p2, p3, p4⟩ := HKS9.out.bc.cell
      obtain ⟨g0, g1, g2, g3, g4⟩ := HKS9.out.bc.frozen
      obtain ⟨o0, o1, o2, o3, o4⟩ := HKS9.out.br.cell
      obtain ⟨f0, f1, f2, f3, f4⟩ := HKS9.out.br.frozen
      go_wp2
      have hq := (putR_blk HKS9.out.br (.int .i64 ck) (.slice ua' (vn + 1) cap') (.slice a2 an ac) (.int .i64 cb) (.slice a4 rn rc)).cell
      simp only [putR] at hq
      obtain ⟨q0, q1, q2, q3, q4⟩ := hq
      refine bodyPost_ret (v := .agg #[.int .i64 ck, .slice ua' (vn + 1) cap', .slice a2 an ac, .int .i64 cb, .slice a4 rn rc]) (by simp [results, Try.results154, go_sem, q0, q1, q2, q3, q4]) rfl ?_
      exact conDn_fin (c := ⟨ck, cvars ++ [x0], cargs, cb, crows⟩) HK.out HKS9.out (by show 1 ≤ (cvars ++ [x0]).length; simp) ⟨by show (cvars ++ [x0]).length ≤ 21; rw [List.length_append, ← HVN.out]; simp; omega, by show _ ≤ 21; rw [← HAN.out]; omega, HRL.out.mono (by omega)⟩ (by omega) (by omega) HNIL.out
    · refine step_value _ (w3.drew.alloc (.cells #[.int .i64 x0] 3)) rfl _ (k_exec1 rfl rfl (k_build1 w3.drew _)) ?_
      have bbB : Below w3.drew.heap.size w3.drew (w3.drew.alloc (.cells #[.int .i64 x0] 3)) := (Below.refl _ _).alloc (Nat.le_refl _) _
      have hSb : (w3.drew.alloc (.cells #[.int .i64 x0] 3)).cell? ⟨C, 1, none⟩ = some (.slice (some ⟨gv, go, none⟩) vn vc) ∧ (w3.drew.alloc (.cells #[.int .i64 x0] 3)).cell? ⟨gv, go, none⟩ = some (.int .i64 x0) := ⟨(bbB.cell (World.block_lt_of_cell? _ _ hS.1)).trans hS.1, (bbB.cell (World.block_lt_of_cell? _ _ hS.2)).trans hS.2⟩
      refine hK'.out _ _ (fun _ => hSb) ?_
      clear hK' K'
      change wpAnyX Try.prog .any _ _ _ _ 4 _ (dmAct _ _ _ _ _ _ _ _ _ _ _ _ _ _ _ _ _ _ _ _ (.pointer (some ⟨C, 1, none⟩)) (.slice (some ⟨gv, go, none⟩) vn vc) _ (.pointer (some ⟨C, 1, none⟩)) (.slice (some ⟨gv, go, none⟩) vn vc) (.pointer (some ⟨gv, go, none⟩)) (.int .i64 x0) (.slice (some ⟨w3.drew.heap.size, 0, none⟩) 1 1) _ _ _ _ _ _ _ _ _ _ _ _ _ _ _ _ _) (w3.drew.alloc (.cells #[.int .i64 x0] 3))
      refine wpAnyX_one (i := 2) (by kernel_rfl) rfl (fun K' hK' => ?_)
      refine e_call1 _ rfl 149 _ _ _ rfl rfl (enters_of Try.func149 (by kernel_rfl) rfl) _ (scopyInts_at gv go vn vc cvars (w3.drew.alloc (.cells #[.int .i64 x0] 3)) HVN.out ((HRV.out.below (Below.refl _ _).drew).below bbB) (by omega)) (fun c w' h => by obtain ⟨_, h, _⟩ := h; cases h) (fun w' h => by obtain ⟨_, h, _⟩ := h; cases h) ?_
      rintro vv0 w6 ⟨vv, ev, own5, bc⟩
      obtain rfl : vv = vv0 := by injection ev with h; exact h.symm
      have hSc : w6.cell? ⟨C, 1, none⟩ = some (.slice (some ⟨gv, go, none⟩) vn vc) ∧ w6.cell? ⟨gv, go, none⟩ = some (.int .i64 x0) := ⟨(bc.cell (World.block_lt_of_cell? _ _ hSb.1)).trans hSb.1, (bc.cell (World.block_lt_of_cell? _ _ hSb.2)).trans hSb.2⟩
      refine hK'.out _ _ (fun _ => hSc) ?_
      clear hK' K'
      change wpAnyX Try.prog .any _ _ _ _ 3 _ (dmAct _ _ _ _ _ _ _ _ _ _ _ _ _ _ _ _ _ _ _ _ (.pointer (some ⟨C, 1, none⟩)) (.slice (some ⟨gv, go, none⟩) vn vc) (vv) (.pointer (some ⟨C, 1, none⟩)) (.slice (some ⟨gv, go, none⟩) vn vc) (.pointer (some ⟨gv, go, none⟩)) (.int .i64 x0) (.slice (some ⟨w3.drew.heap.size, 0, none⟩) 1 1) _ _ _ _ _ _ _ _ _ _ _ _ _ _ _ _ _) w6
      refine wpAnyX_one (i := 8) (by kernel_rfl) rfl (fun K' hK' => ?_)
      have own5' := own5
      rw [← HVN.out] at own5'
      have hsz : (w3.drew.alloc (.cells #[.int .i64 x0] 3)).heap.size ≤ w6.heap.size := bc.size; have hszw : w3.drew.heap.size ≤ w6.heap.size := Nat.le_trans bbB.size bc.size; have hbase : w3.drew.heap.size ≤ (w3.drew.alloc (.cells #[.int .i64 x0] 3)).heap.size := bbB.size
      refine k_appendI rfl _ _ rfl (w3.drew.alloc (.cells #[.int .i64 x0] 3)).heap.size (vv) (cvars.map (Value.int .i64)) vn w3.drew.heap.size x0 rfl rfl own5' ((bc.cell (by simp)).trans (cell_one_new _ _ _ 0 _ rfl)) hsz (by omega) ?_
      intro v8 w8 own8 grow8
      obtain ⟨ua', cap', ev8, hc8, hc8'⟩ := own_form own8
      subst ev8
      have hlow : Below w3.drew.heap.size w3.drew w8 := (bbB.trans (bc.mono bbB.size)).grown grow8 hszw (fun g e => Nat.le_trans hbase (own5'.lt g e).1)
      have hS8 : w8.cell? ⟨C, 1, none⟩ = some (.slice (some ⟨gv, go, none⟩) vn vc) ∧ w8.cell? ⟨gv, go, none⟩ = some (.int .i64 x0) := ⟨(hlow.cell (World.block_lt_of_cell? _ _ hS.1)).trans hS.1, (hlow.cell (World.block_lt_of_cell? _ _ hS.2)).trans hS.2⟩
      refine hK'.out _ _ (fun _ => hS8) ?_
      clear hK' K'
      change wpAnyX Try.prog .any _ _ _ _ 2 _ (dmAct _ _ _ _ _ _ _ _ _ _ _ _ _ _ _ _ _ _ _ _ (.pointer (some ⟨C, 1, none⟩)) (.slice (some ⟨gv, go, none⟩) vn vc) (vv) (.pointer (some ⟨C, 1, none⟩)) (.slice (some ⟨gv, go, none⟩) vn vc) (.pointer (some ⟨gv, go, none⟩)) (.int .i64 x0) (.slice (some ⟨w3.drew.heap.size, 0, none⟩) 1 1) (.slice ua' (vn + 1) cap') _ _ _ _ _ _ _ _ _ _ _ _ _ _ _ _) w8
      refine wpAnyX_take (i := 9) (v := .pointer (some ⟨C, 1, none⟩)) rfl (by kernel_rfl) (by kernel_rfl) (by kernel_rfl) (by kernel_rfl) (fun _ _ _ h => h) (.inl ⟨rfl, fun w' hw' => e_field1 rfl rfl⟩) hS8 ?_
      change wpAnyX Try.prog .any _ _ _ _ 1 _ (dmAct _ _ _ _ _ _ _ _ _ _ _ _ _ _ _ _ _ _ _ _ (.pointer (some ⟨C, 1, none⟩)) (.slice (some ⟨gv, go, none⟩) vn vc) (vv) (.pointer (some ⟨C, 1, none⟩)) (.slice (some ⟨gv, go, none⟩) vn vc) (.pointer (some ⟨gv, go, none⟩)) (.int .i64 x0) (.slice (some ⟨w3.drew.heap.size, 0, none⟩) 1 1) (.slice ua' (vn + 1) cap') (.pointer (some ⟨C, 1, none⟩)) _ _ _ _ _ _ _ _ _ _ _ _ _ _ _) w8
      refine wpAnyX_one (i := 10) (by kernel_rfl) rfl (fun K' hK' => ?_)
      have hF8 : w8.frozen? ⟨C, 1, none⟩ = false := (hlow.frozen (World.block_lt_of_cell? _ _ hS.1)).trans HKS.out.bc.frozen.2.1
      refine step_skip _ (w8.setCell ⟨C, 1, none⟩ (.slice ua' (vn + 1) cap')) rfl (exec_store rfl rfl rfl (k_storeI w8 C 1 _ ua' vn vc (vn + 1) cap' hS8.1 hF8)) ?_
      refine hK'.out _ _ (fun h => by cases h) ?_
      clear hK' K'
      change wpAnyX Try.prog .any _ _ _ _ 0 _ (dmAct _ _ _ _ _ _ _ _ _ _ _ _ _ _ _ _ _ _ _ _ (.pointer (some ⟨C, 1, none⟩)) (.slice (some ⟨gv, go, none⟩) vn vc) (vv) (.pointer (some ⟨C, 1, none⟩)) (.slice (some ⟨gv, go, none⟩) vn vc) (.pointer (some ⟨gv, go, none⟩)) (.int .i64 x0) (.slice (some ⟨w3.drew.heap.size, 0, none⟩) 1 1) (.slice ua' (vn + 1) cap') (.pointer (some ⟨C, 1, none⟩)) _ _ _ _ _ _ _ _ _ _ _ _ _ _ _) (w8.setCell ⟨C, 1, none⟩ (.slice ua' (vn + 1) cap'))
      refine wpAnyX_done (by kernel_rfl) ?_ _
      unfold dmAct
      have hown9 : w8.ownsRow w3.drew.heap.size 3 1 (.slice ua' (vn + 1) cap') (vn + 1) ((cvars ++ [x0]).map (Value.int .i64)) := by rw [List.map_append]; exact own_mono own8 hbase
      have hks8 := HKS.out.below HK.out (show Below w3.heap.size w3 w8 from (Below.refl _ w3).drew.trans hlow)
      have hrd8 : RdInts (av (qs Q0 R C) w8) (.slice ua' (vn + 1) cap') (cvars ++ [x0]) := rdInts_of_own (by have := own_av hown9 (Q := qs Q0 R C) (fun b hb => qs_no (HK.out.hQ0 _ (by have := HKS.out.dn.size; have : w3.heap.size ≤ b := hb; omega)) (by have := HKS.out.br.lt; have : w3.heap.size ≤ b := hb; omega) (by have := HKS.out.bc.lt; have : w3.heap.size ≤ b := hb; omega)); rw [List.length_append, ← HVN.out]; exact this)
      have HKS9 := Lib.hid (hks8.setVars HK.out hrd8)
      obtain ⟨W9, hW9⟩ : ∃ W9, w8.setCell ⟨C, 1, none⟩ (.slice ua' (vn + 1) cap') = W9 := ⟨_, rfl⟩
      rw [hW9] at HKS9 ⊢
      clear hW9 hown9 hks8 hrd8 hlow own8 grow8 hS8 hF8 own5' own5 bc hSc hSb hsz hszw hbase HRV hS
      obtain ⟨p0, p1, p2, p3, p4⟩ := HKS9.out.bc.cell
      obtain ⟨g0, g1, g2, g3, g4⟩ := HKS9.out.bc.frozen
      obtain ⟨o0, o1, o2, o3, o4⟩ := HKS9.out.br.cell
      obtain ⟨f0, f1, f2, f3, f4⟩ := HKS9.out.br.frozen
      go_wp2
      have hq := (putR_blk HKS9.out.br (.int .i64 ck) (.slice ua' (vn + 1) cap') (.slice a2 an ac) (.int .i64 cb) (.slice a4 rn rc)).cell
      simp only [putR] at hq
      obtain ⟨q0, q1, q2, q3, q4⟩ := hq
      refine bodyPost_ret (v := .agg #[.int .i64 ck, .slice ua' (vn + 1) cap', .slice a2 an ac, .int .i64 cb, .slice a4 rn rc]) (by simp [results, Try.results154, go_sem, q0, q1, q2, q3, q4]) rfl ?_
      exact conDn_fin (c := ⟨ck, cvars ++ [x0], cargs, cb, crows⟩) HK.out HKS9.out (by show 1 ≤ (cvars ++ [x0]).length; simp) ⟨by show (cvars ++ [x0]).length ≤ 21; rw [List.length_append, ← HVN.out]; simp; omega, by show _ ≤ 21; rw [← HAN.out]; omega, HRL.out.mono (by omega)⟩ (by omega) (by omega) HNIL.out
  · skip
    rcases HNIL.out with he | ⟨bA, oA, nA, cA, he⟩
    · simp at he
      obtain ⟨rfl, rfl, rfl⟩ := he
      have y2 := HKS.out.bc.cell.2.2.1
      go_wp2_with fail
      have hnn : cargs = [] := List.eq_nil_of_length_eq_zero HAN.out.symm
      refine (show Calls Try.prog 149 #[.slice none 0 0] w3 (IntsPost cargs w3) from by rw [hnn]; exact scopyInts_nil w3).mono ?_
      rintro e w5 ⟨vv, rfl, o5, b5⟩
      rw [← HAN.out] at o5
      have hs5 := b5.size
      obtain ⟨i0, hi, hz0, hz1, hz2⟩ := info_parts Try.info3
      have HO5 := Lib.hid o5
      have HB5 := Lib.hid b5
      clear b5 y2 hnn
      go_wp2_with (first | (at_builtin; refine wpList_append_own _ rfl _ _ 32 rfl w3.heap.size 3 i0 (.int .i64 0) 1 8 Try.underlying32 hi hz0 hz1 hz2 rfl (by decide) _ _ _ rfl (o5.alloc _) ⟨w5.heap.size, 0, none⟩ 1 1 [.int .i64 1] rfl rfl (cell_one_new _ _ _) (by simp [Value.oneCell']) (by unfold maxLen; omega) (by omega) (by simp; omega) ?_; intro v' w6 hown' hgrow _; obtain ⟨ua', cap', ev', hcc1, hcc2⟩ := own_form hown'; subst ev'; have hlow : Below w3.heap.size w3 w6 := HB5.out.trans (((Below.refl w3.heap.size w5).alloc hs5 _).grown hgrow (by simp; omega) (fun g e => (o5.lt g e).1)); have hks6 := HKS.out.below HK.out hlow; have hown7 : w6.ownsRow w3.heap.size 3 1 (.slice ua' (0 + 1) cap') (0 + 1) ((cargs ++ [1]).map (Value.int .i64)) := (by rw [List.map_append]; exact hown'); have hrd6 : RdInts (av (qs Q0 R C) w6) (.slice ua' (0 + 1) cap') (cargs ++ [1]) := rdInts_of_own (by have := own_av hown7 (Q := qs Q0 R C) (fun b hb => qs_no (HK.out.hQ0 _ (by have := HKS.out.dn.size; omega)) (by have := HKS.out.br.lt; omega) (by have := HKS.out.bc.lt; omega)); rw [List.length_append, ← HAN.out]; exact this); have HNO := Lib.hid (nilOk_own hown7); have HKS7 := Lib.hid (hks6.setArgs HK.out hrd6); have y6 := hks6.bc.cell.2.2.1; have z6 := hks6.bc.frozen.2.2.1; obtain ⟨W7, hW7⟩ : ∃ W7, w6.setCell ⟨C, 2, none⟩ (.slice ua' (0 + 1) cap') = W7 := ⟨_, rfl⟩; rw [hW7] at HKS7; have HW7 := Lib.hid hW7; obtain ⟨p0, p1, p2, p3, p4⟩ := HKS7.out.bc.cell; obtain ⟨g0, g1, g2, g3, g4⟩ := HKS7.out.bc.frozen; obtain ⟨o0, o1, o2, o3, o4⟩ := HKS7.out.br.cell; obtain ⟨f0, f1, f2, f3, f4⟩ := HKS7.out.br.frozen; clear hW7 hown' hgrow hlow hks6 hown7 hrd6) | rw [HW7.out])
      have hq := (putR_blk HKS7.out.br (.int .i64 ck) (.slice (some ⟨gv, go, none⟩) vn vc) (.slice ua' (0 + 1) cap') (.int .i64 cb) (.slice a4 rn rc)).cell
      simp only [putR] at hq
      obtain ⟨q0, q1, q2, q3, q4⟩ := hq
      refine bodyPost_ret (v := .agg #[.int .i64 ck, .slice (some ⟨gv, go, none⟩) vn vc, .slice ua' (0 + 1) cap', .int .i64 cb, .slice a4 rn rc]) (by simp [results, Try.results154, go_sem, q0, q1, q2, q3, q4]) rfl ?_
      exact conDn_fin (c := ⟨ck, cvars, cargs ++ [1], cb, crows⟩) HK.out HKS7.out (by show 1 ≤ cvars.length; rw [← HVN.out]; exact hv1) ⟨by show _ ≤ 21; rw [← HVN.out]; omega, by show (cargs ++ [1]).length ≤ 21; rw [List.length_append, ← HAN.out]; first | (simp; done) | (simp; omega), HRL.out.mono (by omega)⟩ (by omega) (by omega) HNO.out
    · simp at he
      obtain ⟨rfl, -, -⟩ := he
      clear nA cA
      have y2 := HKS.out.bc.cell.2.2.1
      go_wp2_with fail
      refine (scopyInts_at bA oA an ac cargs w3 HAN.out (HKS.out.r2.inc (av_inc _ _)) (by omega)).mono ?_
      rintro e w5 ⟨vv, rfl, o5, b5⟩
      rw [← HAN.out] at o5
      have hs5 := b5.size
      obtain ⟨i0, hi, hz0, hz1, hz2⟩ := info_parts Try.info3
      have HO5 := Lib.hid o5
      have HB5 := Lib.hid b5
      clear b5 y2
      go_wp2_with (first | (at_builtin; refine wpList_append_own _ rfl _ _ 32 rfl w3.heap.size 3 i0 (.int .i64 0) 1 8 Try.underlying32 hi hz0 hz1 hz2 rfl (by decide) _ _ _ rfl (o5.alloc _) ⟨w5.heap.size, 0, none⟩ 1 1 [.int .i64 1] rfl rfl (cell_one_new _ _ _) (by simp [Value.oneCell']) (by unfold maxLen; omega) (by omega) (by simp; omega) ?_; intro v' w6 hown' hgrow _; obtain ⟨ua', cap', ev', hcc1, hcc2⟩ := own_form hown'; subst ev'; have hlow : Below w3.heap.size w3 w6 := HB5.out.trans (((Below.refl w3.heap.size w5).alloc hs5 _).grown hgrow (by simp; omega) (fun g e => (o5.lt g e).1)); have hks6 := HKS.out.below HK.out hlow; have hown7 : w6.ownsRow w3.heap.size 3 1 (.slice ua' (an + 1) cap') (an + 1) ((cargs ++ [1]).map (Value.int .i64)) := (by rw [List.map_append]; exact hown'); have hrd6 : RdInts (av (qs Q0 R C) w6) (.slice ua' (an + 1) cap') (cargs ++ [1]) := rdInts_of_own (by have := own_av hown7 (Q := qs Q0 R C) (fun b hb => qs_no (HK.out.hQ0 _ (by have := HKS.out.dn.size; omega)) (by have := HKS.out.br.lt; omega) (by have := HKS.out.bc.lt; omega)); rw [List.length_append, ← HAN.out]; exact this); have HNO := Lib.hid (nilOk_own hown7); have HKS7 := Lib.hid (hks6.setArgs HK.out hrd6); have y6 := hks6.bc.cell.2.2.1; have z6 := hks6.bc.frozen.2.2.1; obtain ⟨W7, hW7⟩ : ∃ W7, w6.setCell ⟨C, 2, none⟩ (.slice ua' (an + 1) cap') = W7 := ⟨_, rfl⟩; rw [hW7] at HKS7; have HW7 := Lib.hid hW7; obtain ⟨p0, p1, p2, p3, p4⟩ := HKS7.out.bc.cell; obtain ⟨g0, g1, g2, g3, g4⟩ := HKS7.out.bc.frozen; obtain ⟨o0, o1, o2, o3, o4⟩ := HKS7.out.br.cell; obtain ⟨f0, f1, f2, f3, f4⟩ := HKS7.out.br.frozen; clear hW7 hown' hgrow hlow hks6 hown7 hrd6) | rw [HW7.out])
      have hq := (putR_blk HKS7.out.br (.int .i64 ck) (.slice (some ⟨gv, go, none⟩) vn vc) (.slice ua' (an + 1) cap') (.int .i64 cb) (.slice a4 rn rc)).cell
      simp only [putR] at hq
      obtain ⟨q0, q1, q2, q3, q4⟩ := hq
      refine bodyPost_ret (v := .agg #[.int .i64 ck, .slice (some ⟨gv, go, none⟩) vn vc, .slice ua' (an + 1) cap', .int .i64 cb, .slice a4 rn rc]) (by simp [results, Try.results154, go_sem, q0, q1, q2, q3, q4]) rfl ?_
      exact conDn_fin (c := ⟨ck, cvars, cargs ++ [1], cb, crows⟩) HK.out HKS7.out (by show 1 ≤ cvars.length; rw [← HVN.out]; exact hv1) ⟨by show _ ≤ 21; rw [← HVN.out]; omega, by show (cargs ++ [1]).length ≤ 21; rw [List.length_append, ← HAN.out]; first | (simp; done) | (simp; omega), HRL.out.mono (by omega)⟩ (by omega) (by omega) HNO.out
  · skip
    obtain ⟨W4, hW4⟩ : ∃ W4, w3.alloc (.cells #[.int .i64 (-1000), .int .i64 1000, .int .i64 5] 3) = W4 := ⟨_, rfl⟩
    have q4 : W4.heap[w3.heap.size]? = some (.cells #[.int .i64 (-1000), .int .i64 1000, .int .i64 5] 3) := by rw [← hW4]; exact World.alloc_heap_new _ _
    have hc4 : ∀ i, i < 3 → W4.cell? ⟨w3.heap.size, i, none⟩ = some (.int .i64 (([-1000, 1000, 5] : List Int)[i]?.getD 0)) := fun i hi => by
      simp only [World.cell?, q4]
      rcases (show i = 0 ∨ i = 1 ∨ i = 2 by omega) with rfl | rfl | rfl <;> rfl
    have b4 : Below w3.heap.size w3 W4 := by rw [← hW4]; exact (Below.refl _ _).alloc (Nat.le_refl _) _
    have HKS4 := Lib.hid (HKS.out.below HK.out b4)
    have HC4 := Lib.hid hc4
    have HW4 := Lib.hid hW4
    have HNE := Lib.hid (show w3.heap.size ≠ B by have := HKS.out.rd.lt; omega)
    clear hW4 q4 hc4 b4
    go_wp2_with fail
    rw [HW4.out]
    refine (one_dn n0 B w3.heap.size 3 (p + 1) (fun i => ([-1000, 1000, 5] : List Int)[i]?.getD 0) W4 HKS4.out.rd (by omega) (by omega) (by omega) (by omega) HNE.out HC4.out).mono ?_
    rintro e w5 ⟨i, hi5, rfl, r5, d5⟩
    obtain ⟨z, hz⟩ : ∃ z, z = ([-1000, 1000, 5] : List Int)[i]?.getD 0 := ⟨_, rfl⟩
    simp only [← hz]
    have HKS5 := Lib.hid (HKS4.out.dnStep HK.out d5 r5)
    clear hz r5 d5 HKS4 HC4 HW4 HNE HKS
    have HKS6 := Lib.hid (HKS5.out.bound HK.out z)
    obtain ⟨W6, hW6⟩ : ∃ W6, w5.setCell ⟨C, 3, none⟩ (.int .i64 z) = W6 := ⟨_, rfl⟩
    rw [hW6] at HKS6
    have HW6 := Lib.hid hW6
    clear hW6
    have ya := HKS5.out.bc.cell.2.2.2.1
    have za := HKS5.out.bc.frozen.2.2.2.1
    obtain ⟨p0, p1, p2, p3, p4⟩ := HKS6.out.bc.cell
    obtain ⟨g0, g1, g2, g3, g4⟩ := HKS6.out.bc.frozen
    obtain ⟨o0, o1, o2, o3, o4⟩ := HKS6.out.br.cell
    obtain ⟨f0, f1, f2, f3, f4⟩ := HKS6.out.br.frozen
    go_wp2_with (rw [HW6.out])
    have hq := (putR_blk HKS6.out.br (.int .i64 ck) (.slice (some ⟨gv, go, none⟩) vn vc) (.slice a2 an ac) (.int .i64 z) (.slice a4 rn rc)).cell
    simp only [putR] at hq
    obtain ⟨q0, q1, q2, q3, q4⟩ := hq
    refine bodyPost_ret (v := .agg #[.int .i64 ck, .slice (some ⟨gv, go, none⟩) vn vc, .slice a2 an ac, .int .i64 z, .slice a4 rn rc]) (by simp [results, Try.results154, go_sem, q0, q1, q2, q3, q4]) rfl ?_
    exact conDn_fin (c := ⟨ck, cvars, cargs, z, crows⟩) HK.out HKS6.out (by show 1 ≤ cvars.length; rw [← HVN.out]; exact hv1) ⟨by show _ ≤ 21; rw [← HVN.out]; omega, by show _ ≤ 21; rw [← HAN.out]; omega, HRL.out.mono (by omega)⟩ (by omega) (by omega) HNIL.out
  · skip
    obtain ⟨W4, hW4⟩ : ∃ W4, w3.alloc (.cells #[.int .i64 (-1), .int .i64 4] 3) = W4 := ⟨_, rfl⟩
    have q4 : W4.heap[w3.heap.size]? = some (.cells #[.int .i64 (-1), .int .i64 4] 3) := by rw [← hW4]; exact World.alloc_heap_new _ _
    have hc4 : ∀ i, i < 2 → W4.cell? ⟨w3.heap.size, i, none⟩ = some (.int .i64 (([-1, 4] : List Int)[i]?.getD 0)) := fun i hi => by
      simp only [World.cell?, q4]
      rcases (show i = 0 ∨ i = 1 by omega) with rfl | rfl <;> rfl
    have b4 : Below w3.heap.size w3 W4 := by rw [← hW4]; exact (Below.refl _ _).alloc (Nat.le_refl _) _
    have HKS4 := Lib.hid (HKS.out.below HK.out b4)
    have HC4 := Lib.hid hc4
    have HW4 := Lib.hid hW4
    have HNE := Lib.hid (show w3.heap.size ≠ B by have := HKS.out.rd.lt; omega)
    clear hW4 q4 hc4 b4
    go_wp2_with fail
    rw [HW4.out]
    refine (one_dn n0 B w3.heap.size 2 (p + 1) (fun i => ([-1, 4] : List Int)[i]?.getD 0) W4 HKS4.out.rd (by omega) (by omega) (by omega) (by omega) HNE.out HC4.out).mono ?_
    rintro e w5 ⟨i, hi5, rfl, r5, d5⟩
    obtain ⟨z, hz⟩ : ∃ z, z = ([-1, 4] : List Int)[i]?.getD 0 := ⟨_, rfl⟩
    simp only [← hz]
    have HKS5 := Lib.hid (HKS4.out.dnStep HK.out d5 r5)
    clear hz r5 d5 HKS4 HC4 HW4 HNE HKS
    have bV6 : Below w5.heap.size w5 (w5.alloc (.cells #[.int .i64 z] 3)) := (Below.refl _ _).alloc (Nat.le_refl _) _
    have HKS6 := Lib.hid (HKS5.out.below HK.out bV6)
    have hnV6 : (w5.alloc (.cells #[.int .i64 z] 3)).ownsRow w5.heap.size 3 1 (.slice (some ⟨w5.heap.size, 0, none⟩) 1 1) 1 [.int .i64 z] := own_one1 w5 _ _
    obtain ⟨V6, hV6⟩ : ∃ V6, w5.alloc (.cells #[.int .i64 z] 3) = V6 := ⟨_, rfl⟩
    rw [hV6] at HKS6 hnV6
    have HV6 := Lib.hid hV6
    clear hV6 bV6
    have hrV6 : RdInts (av (qs Q0 R C) V6) (.slice (some ⟨w5.heap.size, 0, none⟩) 1 1) [z] := rdInts_of_own (xs := [z]) (own_av hnV6 (fun b hb => qs_no (HK.out.hQ0 _ (by have := HKS5.out.dn.size; omega)) (by have := HKS5.out.br.lt; omega) (by have := HKS5.out.bc.lt; omega)))
    clear hnV6
    have HKS7 := Lib.hid (HKS6.out.setVars HK.out hrV6)
    obtain ⟨W7, hW7⟩ : ∃ W7, V6.setCell ⟨C, 1, none⟩ (.slice (some ⟨w5.heap.size, 0, none⟩) 1 1) = W7 := ⟨_, rfl⟩
    rw [hW7] at HKS7
    have HW7 := Lib.hid hW7
    clear hW7
    have yb := HKS6.out.bc.cell.2.1
    have zb := HKS6.out.bc.frozen.2.1
    obtain ⟨p0, p1, p2, p3, p4⟩ := HKS7.out.bc.cell
    obtain ⟨g0, g1, g2, g3, g4⟩ := HKS7.out.bc.frozen
    obtain ⟨o0, o1, o2, o3, o4⟩ := HKS7.out.br.cell
    obtain ⟨f0, f1, f2, f3, f4⟩ := HKS7.out.br.frozen
    clear hrV6
    go_wp2_with (first | rw [HV6.out] | rw [HW7.out])
    have hq := (putR_blk HKS7.out.br (.int .i64 ck) (.slice (some ⟨w5.heap.size, 0, none⟩) 1 1) (.slice a2 an ac) (.int .i64 cb) (.slice a4 rn rc)).cell
    simp only [putR] at hq
    obtain ⟨q0, q1, q2, q3, q4⟩ := hq
    refine bodyPost_ret (v := .agg #[.int .i64 ck, .slice (some ⟨w5.heap.size, 0, none⟩) 1 1, .slice a2 an ac, .int .i64 cb, .slice a4 rn rc]) (by simp [results, Try.results154, go_sem, q0, q1, q2, q3, q4]) rfl ?_
    exact conDn_fin (c := ⟨ck, [z], cargs, cb, crows⟩) HK.out HKS7.out (by show 1 ≤ [z].length; simp) ⟨by simp, by show _ ≤ 21; rw [← HAN.out]; omega, HRL.out.mono (by omega)⟩ (by omega) (by omega) HNIL.out
end Go.Proofs.Ytjdbfiiaadphhaa

/-! The draw of a constraint that may be invalid, and of domains for it. -/
namespace Go.Proofs.Ytjdbfiiaadphhaa
open Go.ChangeShapes Go.WideShapes Go.ChangeAt Go.RowKit Go.Shelf
set_option linter.unusedVariables false
set_option linter.unusedSimpArgs false

theorem conDn_put {Q0 : Nat → Bool} {n0 B R C : Nat} {w W : World} {p q s : Int} {c : Con} {u1 u2 u4 : Value} (k : KP Q0 B R C n0 w) (r1 : RdInts (av (qs Q0 R C) W) u1 c.vars) (r2 : RdInts (av (qs Q0 R C) W) u2 c.args) (r4 : RdRows (av (qs Q0 R C) W) u4 c.rows) (rd : Rd n0 B q W) (dn : Dn B w W) {M : Nat} (h1 : 1 ≤ c.vars.length) (hc : ConLe c M) (hp : p ≤ q) (hq : q ≤ p + s) (hnil : NilOk u2) :
    ConDn Q0 n0 B p s M w (.returned (.agg #[.int .i64 c.kind, u1, u2, .int .i64 c.bound, u4])) (putR W R (.int .i64 c.kind) u1 u2 (.int .i64 c.bound) u4) := by
  have fr : Fr (qs Q0 R C) W (putR W R (.int .i64 c.kind) u1 u2 (.int .i64 c.bound) u4) := ((((fr_setR _ _).trans (fr_setR _ _)).trans (fr_setR _ _)).trans (fr_setR _ _)).trans (fr_setR _ _)
  have i1 : Inc (av (qs Q0 R C) W) (av Q0 (putR W R (.int .i64 c.kind) u1 u2 (.int .i64 c.bound) u4)) := fun p x hx => by
    have h1 := fr.inc _ _ hx
    obtain ⟨e1, h2⟩ := av_at _ _ h1
    exact av_mk _ _ (qs_Q e1) h2
  have hBR : B < R := by have := k.hB; have := k.hR; omega
  refine ⟨u1, u2, u4, c, q, rfl, r1.inc i1, r2.inc i1, r4.inc i1, hnil, h1, hc, hp, hq, ?_, ?_⟩
  · exact rd_setC (w := w) hBR (rd_setC (w := w) hBR (rd_setC (w := w) hBR (rd_setC (w := w) hBR (rd_setC (w := w) hBR rd _ _) _ _) _ _) _ _) _ _
  · exact dn_setC k.hR (dn_setC k.hR (dn_setC k.hR (dn_setC k.hR (dn_setC k.hR dn _ _) _ _) _ _) _ _) _ _
theorem ConLe.mono' {c : Con} {a b : Nat} (h : ConLe c a) (hab : a ≤ b) : ConLe c b := ⟨Nat.le_trans h.1 hab, Nat.le_trans h.2.1 hab, h.2.2.mono hab⟩

end Go.Proofs.Ytjdbfiiaadphhaa
