/- The draw of a constraint that may be invalid, and of domains for it. -/
import Derived.Test.YtolfjkdkbiicmaaDrE
namespace Go.Proofs.Ytolfjkdkbiicmaa
open Go.ChangeShapes Go.WideShapes Go.ChangeAt Go.RowKit Go.Shelf
set_option linter.unusedVariables false
set_option linter.unusedSimpArgs false

theorem conDn_put {Q0 : Nat → Bool} {n0 B R C : Nat} {w W : World} {p q s : Int} {c : Con} {u1 u2 u4 : Value} (k : KP Q0 B R C n0 w) (r1 : RdInts (av (qs Q0 R C) W) u1 c.vars) (r2 : RdInts (av (qs Q0 R C) W) u2 c.args) (r4 : RdRows (av (qs Q0 R C) W) u4 c.rows) (rd : Rd n0 B q W) (dn : Dn B w W) {M : Nat} (h1 : 1 ≤ c.vars.length) (hc : ConLe c M) (hp : p ≤ q) (hq : q ≤ p + s) (hnil : NilOk u2) :
    ConDn Q0 n0 B p s M w (.returned (.agg #[.int .i64 c.kind, u1, u2, .int .i64 c.bound, u4])) (putR W R (.int .i64 c.kind) u1 u2 (.int .i64 c.bound) u4) := by
  have fr : Fr (qs Q0 R C) W (putR W R (.int .i64 c.kind) u1 u2 (.int .i64 c.bound) u4) := ((((fr_setR _ _).trans (fr_setR _ _)).trans (fr_setR _ _)).trans (fr_setR _ _)).trans (fr_setR _ _)
  have i1 : Inc (av (qs Q0 R C) W) (av Q0 (putR W R (.int .i64 c.kind) u1 u2 (.int .i64 c.bound) u4)) := fun p x hx => by
    have h1 := fr.inc _ _ hx
    obtain ⟨e1, h2⟩ := av_at _ _ h1
    exact av_mk _ _ (qs_Q e1) h2
  have hBR : B < R := by have := k.hB; have := k.hR; omega
  refine ⟨u1, u2, u4, c, q, rfl, r1.inc i1, r2.inc i1, r4.inc i1, hnil, h1, hc, hp, hq, ?_, ?_⟩
  · exact rd_setC (w := w) hBR (rd_setC (w := w) hBR (rd_setC (w := w) hBR (rd_setC (w := w) hBR (rd_setC (w := w) hBR rd _ _) _ _) _ _) _ _) _ _
  · exact dn_setC k.hR (dn_setC k.hR (dn_setC k.hR (dn_setC k.hR (dn_setC k.hR dn _ _) _ _) _ _) _ _) _ _
theorem ConLe.mono' {c : Con} {a b : Nat} (h : ConLe c a) (hab : a ≤ b) : ConLe c b := ⟨Nat.le_trans h.1 hab, Nat.le_trans h.2.1 hab, h.2.2.mono hab⟩

set_option maxRecDepth 100000 in
set_option maxHeartbeats 64000000 in
theorem anyConstraint_any (Q0 : Nat → Bool) (n0 B n : Nat) (p : Int) (w : World) (hR : Rd n0 B p w) (hp : 0 ≤ p) (hp2 : p ≤ 100000) (hn : 1 ≤ n) (hn4 : n ≤ 4) (hQB : Q0 B = true) (hQ0 : ∀ b, w.heap.size ≤ b → Q0 b = false) :
    Calls Try.prog 135 #[.pointer (some ⟨B, 0, none⟩), .int .i64 n] w (ConDn Q0 n0 B p 110 21 w) := by
  have hlt := hR.lt
  have HQB := Lib.hid hQB
  have HQ0 := Lib.hid hQ0
  clear hQB hQ0
  obtain ⟨R, hRe⟩ : ∃ R, R = w.heap.size := ⟨_, rfl⟩
  obtain ⟨W1, hW1⟩ : ∃ W1, w.alloc (.cells #[.int .i64 0, .slice none 0 0, .slice none 0 0, .int .i64 0, .slice none 0 0] 26) = W1 := ⟨_, rfl⟩
  have b1 : Below w.heap.size w W1 := by rw [← hW1]; exact (Below.refl _ _).alloc (Nat.le_refl _) _
  have hbr : Blk5 W1 R 26 (.int .i64 0) (.slice none 0 0) (.slice none 0 0) (.int .i64 0) (.slice none 0 0) := by rw [← hW1, hRe]; exact Blk5.new w _ _ _ _ _ _
  have HBR := Lib.hid hbr
  have HRE := Lib.hid hRe
  have HR1 := Lib.hid (hR.below (b1.mono (by omega)))
  have HD1 := Lib.hid (Dn.of_below b1 (B := B))
  have HLT := Lib.hid hlt
  have HN0 := Lib.hid hR.1
  have HW1 := Lib.hid hW1
  have HQ1 : Hid (∀ b, W1.heap.size ≤ b → (Q0 b || b == R) = false) := Lib.hid (fun b hb => by
    have h1 : Q0 b = false := HQ0.out b (Nat.le_trans b1.size hb)
    have h2 : b ≠ R := by have := hbr.lt; omega
    simp [h1, h2])
  clear hR hlt hW1 b1 hRe hbr
  go_enter Try.func135, Try.ntmps135
  go_wp2_with fail
  rw [HW1.out, ← HRE.out]
  clear HW1
  refine (randomConstraint_any (fun b => Q0 b || b == R) n0 B n p W1 HR1.out hp (by omega) hn hn4 (by simp [HQB.out]) HQ1.out).mono ?_
  rintro e w2 ⟨u1, u2, u4, c, pz, rfl, r1, r2, r4, hnil, hv, hc, hpz, hpz', rd, d⟩
  obtain ⟨a1, vc, e1, -, -, -⟩ := id r1
  obtain ⟨a2, ac, e2, -, -, -⟩ := id r2
  obtain ⟨a4, rc, e4, -, -, -⟩ := id r4
  obtain ⟨vn, hvn⟩ : ∃ n, n = c.vars.length := ⟨_, rfl⟩
  obtain ⟨an, han⟩ : ∃ n, n = c.args.length := ⟨_, rfl⟩
  obtain ⟨rn, hrn⟩ : ∃ n, n = c.rows.length := ⟨_, rfl⟩
  rw [← hvn] at e1
  rw [← han] at e2
  rw [← hrn] at e4
  subst e1 e2 e4
  obtain ⟨C, hCe⟩ : ∃ C, C = w2.heap.size := ⟨_, rfl⟩
  obtain ⟨Wk, hWk⟩ : ∃ Wk, w2.alloc (.cells #[.int .i64 c.kind, .slice a1 vn vc, .slice a2 an ac, .int .i64 c.bound, .slice a4 rn rc] 26) = Wk := ⟨_, rfl⟩
  have hbw : Below w2.heap.size w2 Wk := by rw [← hWk]; exact (Below.refl _ _).alloc (Nat.le_refl _) _
  have hd2 : Dn B w w2 := HD1.out.trans d
  have hbr2 : Blk5 w2 R 26 (.int .i64 0) (.slice none 0 0) (.slice none 0 0) (.int .i64 0) (.slice none 0 0) := (d.block R HBR.out.lt (by have := HLT.out; have := HRE.out; omega)).trans HBR.out
  have hk : KP Q0 B R C n0 w := ⟨HLT.out, by rw [HRE.out]; exact Nat.le_refl _, by rw [hCe]; exact hd2.size, by have := hbr2.lt; omega, HN0.out, HQB.out, HQ0.out⟩
  have hinc : Inc (av (fun b => Q0 b || b == R) w2) (av (qs Q0 R C) Wk) := av_new hbw (fun b hb hq => by simp at hq; exact qs_no hq.1 hq.2 (by omega))
  have hks : KS Q0 n0 B R C w Wk pz c (.slice a1 vn vc) (.slice a2 an ac) (.slice a4 rn rc) :=
    ⟨by rw [← hWk, hCe]; exact Blk5.new w2 _ _ _ _ _ _, hbr2.below hbw, r1.inc hinc, r2.inc hinc, r4.inc hinc, rd.below (hbw.mono (by have := rd.lt; omega)), hd2.trans (Dn.of_below hbw)⟩
  have HK := Lib.hid hk
  have HKS := Lib.hid hks
  have HWK := Lib.hid hWk
  have HCE := Lib.hid hCe
  have HV := Lib.hid hv
  have HC := Lib.hid hc
  have HNIL := Lib.hid hnil
  clear hbw hd2 hbr2 hk hinc hks hWk hCe r1 r2 r4 rd d hv hc hnil hvn han hrn HD1 HBR HR1 HQ1
  go_wp2_with (rw [HWK.out])
  rw [← HCE.out]
  refine (pick_dn n0 B pz 10 Wk HKS.out.rd (by omega) (by omega) (by omega)).mono ?_
  rintro e w5 ⟨x, rfl, hx0, hx1, r5, d5⟩
  have HKS5 := Lib.hid (HKS.out.dnStep HK.out d5 r5)
  clear r5 d5 hx0 hx1 HWK HKS HCE
  obtain ⟨p0, p1, p2, p3, p4⟩ := HKS5.out.bc.cell
  obtain ⟨g0, g1, g2, g3, g4⟩ := HKS5.out.bc.frozen
  obtain ⟨o0, o1, o2, o3, o4⟩ := HKS5.out.br.cell
  obtain ⟨f0, f1, f2, f3, f4⟩ := HKS5.out.br.frozen
  have HP2 := Lib.hid (show p ≤ pz + 1 ∧ pz + 1 ≤ p + 110 by omega)
  cases hx : (x == 0)
  · go_wp2_with fail
    have hq := (putR_blk HKS5.out.br (.int .i64 c.kind) (.slice a1 vn vc) (.slice a2 an ac) (.int .i64 c.bound) (.slice a4 rn rc)).cell
    simp only [putR] at hq
    obtain ⟨q0, q1, q2, q3, q4⟩ := hq
    refine bodyPost_ret (v := .agg #[.int .i64 c.kind, .slice a1 vn vc, .slice a2 an ac, .int .i64 c.bound, .slice a4 rn rc]) (by simp [results, Try.results135, go_sem, q0, q1, q2, q3, q4]) rfl ?_
    exact conDn_fin HK.out HKS5.out HV.out (HC.out.mono' (by omega)) HP2.out.1 HP2.out.2 HNIL.out
  · go_wp2_with fail
    have hQs : ∀ b, w5.heap.size ≤ b → qs Q0 R C b = false := fun b hb => qs_no (HQ0.out b (Nat.le_trans HKS5.out.dn.size hb)) (by have := HKS5.out.br.lt; omega) (by have := HKS5.out.bc.lt; omega)
    refine (damage_any (qs Q0 R C) n0 B (pz + 1) c (.slice a1 vn vc) (.slice a2 an ac) (.slice a4 rn rc) w5 HKS5.out.rd HKS5.out.r1 HKS5.out.r2 HKS5.out.r4 HNIL.out HV.out HC.out (by omega) (by omega) (qs_B R C HQB.out) hQs).mono ?_
    rintro e w6 ⟨u1, u2, u4, c', p6, rfl, r1, r2, r4, hnil, hv, hc, hp6, hp6', rd, d⟩
    clear p0 p1 p2 p3 p4 g0 g1 g2 g3 g4 o0 o1 o2 o3 o4 f0 f1 f2 f3 f4 hQs
    obtain ⟨a1x, vcx, e1, -, -, -⟩ := id r1
    obtain ⟨a2x, acx, e2, -, -, -⟩ := id r2
    obtain ⟨a4x, rcx, e4, -, -, -⟩ := id r4
    obtain ⟨vnx, hvn⟩ : ∃ n, n = c'.vars.length := ⟨_, rfl⟩
    obtain ⟨anx, han⟩ : ∃ n, n = c'.args.length := ⟨_, rfl⟩
    obtain ⟨rnx, hrn⟩ : ∃ n, n = c'.rows.length := ⟨_, rfl⟩
    rw [← hvn] at e1
    rw [← han] at e2
    rw [← hrn] at e4
    subst e1 e2 e4
    have hbr6 : Blk5 w6 R 26 (.int .i64 0) (.slice none 0 0) (.slice none 0 0) (.int .i64 0) (.slice none 0 0) := (d.block R HKS5.out.br.lt (by have := HK.out.hB; have := HK.out.hR; omega)).trans HKS5.out.br
    obtain ⟨o0, o1, o2, o3, o4⟩ := hbr6.cell
    obtain ⟨f0, f1, f2, f3, f4⟩ := hbr6.frozen
    have HF := Lib.hid (conDn_put (p := p) (s := 110) HK.out r1 r2 r4 rd (HKS5.out.dn.trans d) hv hc (by have := HP2.out; omega) (by have := HP2.out; omega) hnil)
    have hq := (putR_blk hbr6 (.int .i64 c'.kind) (.slice a1x vnx vcx) (.slice a2x anx acx) (.int .i64 c'.bound) (.slice a4x rnx rcx)).cell
    have HQ := Lib.hid hq
    clear hq hbr6 r1 r2 r4 rd d hv hc hnil hvn han hrn
    go_wp2
    have hq := HQ.out
    simp only [putR] at hq
    obtain ⟨q0, q1, q2, q3, q4⟩ := hq
    refine bodyPost_ret (v := .agg #[.int .i64 c'.kind, .slice a1x vnx vcx, .slice a2x anx acx, .int .i64 c'.bound, .slice a4x rnx rcx]) (by simp [results, Try.results135, go_sem, q0, q1, q2, q3, q4]) rfl ?_
    exact HF.out
end Go.Proofs.Ytolfjkdkbiicmaa
