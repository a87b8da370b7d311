/- The draw of Filter's arguments. -/
import Derived.Test.YtolfjkdkbiicmaaDrH
namespace Go.Proofs.Ytolfjkdkbiicmaa
open Go.ChangeShapes Go.WideShapes Go.ChangeAt Go.RowKit Go.Shelf
set_option linter.unusedVariables false
set_option linter.unusedSimpArgs false

/-- A constraint and domains, drawn for a law. -/
def FilDrawn (w : World) (e : Ending) (w' : World) : Prop :=
  ∃ (u1 u2 u4 dv : Value) (c : Con) (ds : List Int), e = .returned (.tuple #[.agg #[.int .i64 c.kind, u1, u2, .int .i64 c.bound, u4], dv]) ∧ RdInts w' u1 c.vars ∧ RdInts w' u2 c.args ∧ RdRows w' u4 c.rows ∧ RdInts w' dv ds ∧ ConLe c 21 ∧ 1 ≤ ds.length ∧ ds.length ≤ 4 ∧ Below w.heap.size w w'

set_option maxRecDepth 100000 in
set_option maxHeartbeats 64000000 in
theorem drawFil_any (a : Option Addr) (len cap : Nat) (w : World) (h : CodeOk w.heap.size w a len cap) :
    Calls Try.prog 15 #[.slice a len cap] w (FilDrawn w) := by
  obtain ⟨R, hRe⟩ : ∃ R, R = w.heap.size := ⟨_, rfl⟩
  obtain ⟨W1, hW1⟩ : ∃ W1, w.alloc (.cells #[.int .i64 0, .slice none 0 0, .slice none 0 0, .int .i64 0, .slice none 0 0] 26) = W1 := ⟨_, rfl⟩
  have b1 : Below w.heap.size w W1 := by rw [← hW1]; exact (Below.refl _ _).alloc (Nat.le_refl _) _
  have hbr : Blk5 W1 R 26 (.int .i64 0) (.slice none 0 0) (.slice none 0 0) (.int .i64 0) (.slice none 0 0) := by rw [← hW1, hRe]; exact Blk5.new w _ _ _ _ _ _
  have hc1 : CodeOk w.heap.size W1 a len cap := by
    refine ⟨h.1, h.2.1, ?_⟩
    rcases h.2.2 with h0 | ⟨b, off, f, ha, hb, hf, hx⟩
    · exact .inl h0
    · exact .inr ⟨b, off, f, ha, hb, hf, fun i hi => (b1.cell (p := ⟨b, off + i, none⟩) hb).trans (hx i hi)⟩
  have HC1 := Lib.hid hc1
  have HB1 := Lib.hid b1
  have HBR := Lib.hid hbr
  have HRE := Lib.hid hRe
  have HW1 := Lib.hid hW1
  clear h hc1 hbr hRe hW1 b1
  go_enter Try.func15, Try.ntmps15
  go_wp2_with fail
  rw [HW1.out, ← HRE.out]
  clear HW1
  refine (newReader_any w.heap.size a len cap W1 HB1.out.size HC1.out).mono ?_
  rintro e w1 ⟨rfl, hr, hb, hz⟩
  obtain ⟨B, hBe⟩ : ∃ B, B = W1.heap.size := ⟨_, rfl⟩
  rw [← hBe] at hr hz ⊢
  have hRB : R < B := by rw [hBe]; exact HBR.out.lt
  have hbr1 : Blk5 w1 R 26 (.int .i64 0) (.slice none 0 0) (.slice none 0 0) (.int .i64 0) (.slice none 0 0) := (hb.block R HBR.out.lt).trans HBR.out
  have HBR1 := Lib.hid hbr1
  have HR1 := Lib.hid hr
  have HZ1 := Lib.hid hz
  have HRB := Lib.hid hRB
  have HWW := Lib.hid (show Below w.heap.size w w1 from HB1.out.trans (hb.mono HB1.out.size))
  have HQ := Lib.hid (show ∀ b, w1.heap.size ≤ b → (b == B || b == R) = false from fun b hb => by
    have h1 : b ≠ B := by omega
    have h2 : b ≠ R := by omega
    simp [h1, h2])
  clear hr hb hz hBe hRB hbr1 HBR HC1 HB1
  go_wp2_with fail
  refine (cad_any (fun b => b == B || b == R) w.heap.size B 0 w1 HR1.out (by omega) (by omega) (by simp) HQ.out).mono ?_
  rintro e w2 ⟨u1, u2, u4, dv, c, ds, p', rfl, r1, r2, r4, rd, hc, h1, h4, hp, hp', hR2, d⟩
  obtain ⟨a1, vc, e1, -, -, -⟩ := id r1
  obtain ⟨a2, ac, e2, -, -, -⟩ := id r2
  obtain ⟨a4, rc, e4, -, -, -⟩ := id r4
  obtain ⟨a5, dc, e5, -, -, -⟩ := id rd
  obtain ⟨vn, hvn⟩ : ∃ n, n = c.vars.length := ⟨_, rfl⟩
  obtain ⟨an, han⟩ : ∃ n, n = c.args.length := ⟨_, rfl⟩
  obtain ⟨rn, hrn⟩ : ∃ n, n = c.rows.length := ⟨_, rfl⟩
  obtain ⟨dn, hdn⟩ : ∃ n, n = ds.length := ⟨_, rfl⟩
  rw [← hvn] at e1
  rw [← han] at e2
  rw [← hrn] at e4
  rw [← hdn] at e5
  subst e1 e2 e4 e5
  have hbr2 : Blk5 w2 R 26 (.int .i64 0) (.slice none 0 0) (.slice none 0 0) (.int .i64 0) (.slice none 0 0) := (d.block R HBR1.out.lt (by have := HRB.out; omega)).trans HBR1.out
  have fr : Fr (fun b => b == B || b == R) w2 (putR w2 R (.int .i64 c.kind) (.slice a1 vn vc) (.slice a2 an ac) (.int .i64 c.bound) (.slice a4 rn rc)) := by
    unfold putR
    exact (((((Fr.refl _ w2).setCell (by simp) _).setCell (by simp) _).setCell (by simp) _).setCell (by simp) _).setCell (by simp) _
  have hinc : Inc (av (fun b => b == B || b == R) w2) (putR w2 R (.int .i64 c.kind) (.slice a1 vn vc) (.slice a2 an ac) (.int .i64 c.bound) (.slice a4 rn rc)) := fun p x hx => av_inc _ _ _ _ (fr.inc p x hx)
  have hRw : w.heap.size ≤ R := by rw [HRE.out]; exact Nat.le_refl _
  have hbel : Below w.heap.size w (putR w2 R (.int .i64 c.kind) (.slice a1 vn vc) (.slice a2 an ac) (.int .i64 c.bound) (.slice a4 rn rc)) := by
    unfold putR
    exact ((((((HWW.out.trans (d.below (by have := HRB.out; omega) HWW.out.size)).setCell hRw _).setCell hRw _).setCell hRw _).setCell hRw _).setCell hRw _)
  have HF : Hid (FilDrawn w (.returned (.tuple #[.agg #[.int .i64 c.kind, .slice a1 vn vc, .slice a2 an ac, .int .i64 c.bound, .slice a4 rn rc], .slice a5 dn dc])) (putR w2 R (.int .i64 c.kind) (.slice a1 vn vc) (.slice a2 an ac) (.int .i64 c.bound) (.slice a4 rn rc))) :=
    Lib.hid ⟨_, _, _, _, c, ds, rfl, r1.inc hinc, r2.inc hinc, r4.inc hinc, rd.inc hinc, hc, h1, h4, hbel⟩
  obtain ⟨o0, o1, o2, o3, o4⟩ := hbr2.cell
  obtain ⟨f0, f1, f2, f3, f4⟩ := hbr2.frozen
  have HQ2 := Lib.hid (putR_blk hbr2 (.int .i64 c.kind) (.slice a1 vn vc) (.slice a2 an ac) (.int .i64 c.bound) (.slice a4 rn rc)).cell
  clear hbr2 fr hinc hRw hbel r1 r2 r4 rd hc h1 h4 hp hp' hR2 d hvn han hrn hdn
  go_wp2
  have hq := HQ2.out
  simp only [putR] at hq
  obtain ⟨q0, q1, q2, q3, q4⟩ := hq
  refine bodyPost_ret (v := .tuple #[.agg #[.int .i64 c.kind, .slice a1 vn vc, .slice a2 an ac, .int .i64 c.bound, .slice a4 rn rc], .slice a5 dn dc]) (by simp [results, Try.results15, go_sem, q0, q1, q2, q3, q4]) rfl ?_
  exact HF.out
end Go.Proofs.Ytolfjkdkbiicmaa
