/- The draw of a model for a law. -/
import Derived.Test.YtjdbfiiaadphhaaDrMb
namespace Go.Proofs.Ytjdbfiiaadphhaa
open Go.ChangeShapes Go.WideShapes Go.ChangeAt Go.RowKit Go.Shelf
set_option linter.unusedVariables false
set_option linter.unusedSimpArgs false

/-- A model, drawn for a law. -/
def ModDrawn (w : World) (e : Ending) (w' : World) : Prop :=
  ∃ (u1 u2 : Value) (m : Mod), e = .returned (.agg #[u1, u2]) ∧ RdInts w' u1 m.doms ∧ RdCons w' u2 m.cons ∧ ModLe m 21 ∧ 1 ≤ m.doms.length ∧ m.doms.length ≤ 4 ∧ m.cons.length ≤ 6 ∧ Below w.heap.size w w'
theorem codeOk_below {n0 : Nat} {w w' : World} {a : Option Addr} {len cap : Nat} (h : CodeOk n0 w a len cap) (hb : Below n0 w w') : CodeOk n0 w' a len cap := by
  refine ⟨h.1, h.2.1, ?_⟩
  rcases h.2.2 with h0 | ⟨b, off, f, ha, hb0, hf, hx⟩
  · exact .inl h0
  · exact .inr ⟨b, off, f, ha, hb0, hf, fun i hi => (hb.cell (p := ⟨b, off + i, none⟩) hb0).trans (hx i hi)⟩
theorem inc_putM {Q : Nat → Bool} {W : World} {R : Nat} (hR : Q R = true) (u1 u2 : Value) : Inc (av Q W) (av Q (putM W R u1 u2)) :=
  (((Fr.refl Q W).setCell (p := ⟨R, 0, none⟩) hR u1).setCell (p := ⟨R, 1, none⟩) hR u2).inc

set_option maxRecDepth 100000 in
set_option maxHeartbeats 64000000 in
theorem drawPro_any (a : Option Addr) (len cap : Nat) (w : World) (h : CodeOk w.heap.size w a len cap) :
    Calls Try.prog 53 #[.slice a len cap] w (ModDrawn w) := by
  obtain ⟨R, hRe⟩ : ∃ R, R = w.heap.size := ⟨_, rfl⟩
  obtain ⟨W1, hW1⟩ : ∃ W1, w.alloc (.cells #[.slice none 0 0, .slice none 0 0] 68) = W1 := ⟨_, rfl⟩
  have b1 : Below w.heap.size w W1 := by rw [← hW1]; exact (Below.refl _ _).alloc (Nat.le_refl _) _
  have hbr : Blk2 W1 R 68 (.slice none 0 0) (.slice none 0 0) := by rw [← hW1, hRe]; exact Blk2.new w _ _ _
  have HC1 := Lib.hid (codeOk_below h b1)
  have HB1 := Lib.hid b1
  have HBR := Lib.hid hbr
  have HRE := Lib.hid hRe
  have HW1 := Lib.hid hW1
  clear h hbr hRe hW1 b1
  go_enter Try.func53, Try.ntmps53
  go_wp2_with fail
  rw [HW1.out, ← HRE.out]
  clear HW1
  refine (newReader_any w.heap.size a len cap W1 HB1.out.size HC1.out).mono ?_
  rintro e w1 ⟨rfl, hr, hb, hz⟩
  obtain ⟨B, hBe⟩ : ∃ B, B = W1.heap.size := ⟨_, rfl⟩
  rw [← hBe] at hr hz ⊢
  have hRB : R < B := by rw [hBe]; exact HBR.out.lt
  have HBR1 : Hid (Blk2 w1 R 68 (.slice none 0 0) (.slice none 0 0)) := Lib.hid ((hb.block R HBR.out.lt).trans HBR.out)
  have HR1 := Lib.hid hr
  have HZ1 := Lib.hid hz
  have HRB := Lib.hid hRB
  have HWW := Lib.hid (show Below w.heap.size w w1 from HB1.out.trans (hb.mono HB1.out.size))
  have HQ := Lib.hid (show ∀ b, w1.heap.size ≤ b → (b == B || b == R) = false from fun b hb => by
    have h1 : b ≠ B := by omega
    have h2 : b ≠ R := by omega
    simp [h1, h2])
  clear hr hb hz hBe hRB HBR HC1 HB1
  go_wp2_with fail
  refine (anyModel_any (fun b => b == B || b == R) w.heap.size B 0 w1 HR1.out (by omega) (by omega) (by simp) HQ.out).mono ?_
  rintro e w2 ⟨u1, u2, ds, xs, q, rfl, o1, o2, ne, ok, h1, h4, h6, hq, hq', rd, d⟩
  obtain ⟨a1, c1, rfl, -, -⟩ := own_form o1
  obtain ⟨a2, c2, rfl, -, -⟩ := own_form o2
  obtain ⟨n1, hn1⟩ : ∃ n, n = ds.length := ⟨_, rfl⟩
  obtain ⟨n2, hn2⟩ : ∃ n, n = xs.length := ⟨_, rfl⟩
  have hbr2 : Blk2 w2 R 68 (.slice none 0 0) (.slice none 0 0) := (d.block R HBR1.out.lt (by have := HRB.out; omega)).trans HBR1.out
  have hkeep : ∀ b, b ≠ R → (putM w2 R (.slice a1 ds.length c1) (.slice a2 xs.length c2)).heap[b]? = w2.heap[b]? := fun b hb => by
    unfold putM
    rw [Below.heap_setCell _ _ _ _ (by exact hb), Below.heap_setCell _ _ _ _ (by exact hb)]
  have hRw : R < w1.heap.size := HBR1.out.lt
  have r1 := rdInts_of_own (own_keepB o1 (fun b hb => hkeep b (by have := (o1.lt b hb).1; omega)))
  have r2 := ownE_rd (own_keepB o2 (fun b hb => hkeep b (by have := (o2.lt b hb).1; omega))) (fun x hx => (ok x hx).inc (inc_putM (by simp) _ _))
  have hle := consLe_of ok (by omega)
  have hRw2 : w.heap.size ≤ R := by rw [HRE.out]; exact Nat.le_refl _
  have hbel : Below w.heap.size w (putM w2 R (.slice a1 ds.length c1) (.slice a2 xs.length c2)) := by
    unfold putM
    exact (((HWW.out.trans (d.below (by have := HRB.out; omega) HWW.out.size)).setCell hRw2 _).setCell hRw2 _)
  have HF : Hid (ModDrawn w (.returned (.agg #[.slice a1 ds.length c1, .slice a2 xs.length c2])) (putM w2 R (.slice a1 ds.length c1) (.slice a2 xs.length c2))) :=
    Lib.hid ⟨_, _, ⟨ds, xs.map CE.c⟩, rfl, r1, r2, ⟨by show ds.length ≤ 21; omega, hle⟩, h1, h4, by simpa using h6, hbel⟩
  have HQ2 := Lib.hid (putM_blk hbr2 (.slice a1 ds.length c1) (.slice a2 xs.length c2)).cell
  rw [← hn1, ← hn2] at HF HQ2
  rw [← hn1, ← hn2]
  obtain ⟨o0, o1'⟩ := hbr2.cell
  obtain ⟨f0, f1⟩ := hbr2.frozen
  clear hbr2 hkeep hRw r1 r2 hle hRw2 hbel ok o1 o2 ne h1 h4 h6 hq hq' rd d hn1 hn2
  go_wp2
  have hq := HQ2.out
  simp only [putM] at hq
  obtain ⟨q0, q1⟩ := hq
  refine bodyPost_ret (v := .agg #[.slice a1 n1 c1, .slice a2 n2 c2]) (by simp [results, Try.results53, go_sem, q0, q1]) rfl ?_
  exact HF.out
end Go.Proofs.Ytjdbfiiaadphhaa
