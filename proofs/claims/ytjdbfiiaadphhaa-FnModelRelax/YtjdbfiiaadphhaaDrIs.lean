/- The draw of a model and an assignment for it. -/
import Derived.Test.YtjdbfiiaadphhaaDrAs
import Derived.Test.YtjdbfiiaadphhaaOrdZ
namespace Go.Proofs.Ytjdbfiiaadphhaa
open Go.ChangeShapes Go.WideShapes Go.ChangeAt Go.RowKit Go.Deep Go.Shelf
set_option linter.unusedVariables false
set_option linter.unusedSimpArgs false

section
set_option maxRecDepth 100000
theorem m_loadM (w : World) (g : Nat) (a1 a2 : Option Addr) (n1 n2 c1 c2 : Nat) (h0 : w.cell? ⟨g, 0, none⟩ = some (.slice a1 n1 c1)) (h1 : w.cell? ⟨g, 1, none⟩ = some (.slice a2 n2 c2)) : (loadVar 68 ⟨g, 0, none⟩).run Try.prog w = .ok (.agg #[.slice a1 n1 c1, .slice a2 n2 c2]) w := by
  go_simp
theorem m_storeM (w : World) (g : Nat) (a1 a2 b1 b2 : Option Addr) (n1 n2 c1 c2 m1 m2 d1 d2 : Nat) (h0 : w.cell? ⟨g, 0, none⟩ = some (.slice b1 m1 d1)) (h1 : w.cell? ⟨g, 1, none⟩ = some (.slice b2 m2 d2)) (f0 : w.frozen? ⟨g, 0, none⟩ = false) (f1 : w.frozen? ⟨g, 1, none⟩ = false) : (Instr.storeAt 68 (.pointer (some ⟨g, 0, none⟩)) (.agg #[.slice a1 n1 c1, .slice a2 n2 c2])).run Try.prog w = .ok () (putM w g (.slice a1 n1 c1) (.slice a2 n2 c2)) := by
  unfold putM
  go_simp
end
def diAct (z0 z1 z2 z3 z4 z5 z6 z7 z8 z9 z10 z11 z12 z13 : Value) : Act := { tmps := #[z0, z1, z2, z3, z4, z5, z6, z7, z8, z9, z10, z11, z12, z13], defers := [] }
/-- A model and an assignment, drawn for a law. -/
def IsDrawn (w : World) (e : Ending) (w' : World) : Prop :=
  ∃ (u1 u2 xv : Value) (m : Mod) (xs : List Int), e = .returned (.tuple #[.agg #[u1, u2], xv]) ∧ RdInts w' u1 m.doms ∧ RdCons w' u2 m.cons ∧ RdInts w' xv xs ∧ ModLe m 21 ∧ 1 ≤ m.doms.length ∧ m.doms.length ≤ 4 ∧ m.cons.length ≤ 6 ∧ xs.length ≤ 5 ∧ Below w.heap.size w w'

set_option maxRecDepth 100000 in
set_option maxHeartbeats 64000000 in
theorem drawIs_any (a : Option Addr) (len cap : Nat) (w : World) (h : CodeOk w.heap.size w a len cap) :
    Calls Try.prog 59 #[.slice a len cap] w (IsDrawn w) := by
  obtain ⟨R, hRe⟩ : ∃ R, R = w.heap.size := ⟨_, rfl⟩
  obtain ⟨W1, hW1⟩ : ∃ W1, w.alloc (.cells #[.slice none 0 0, .slice none 0 0] 68) = W1 := ⟨_, rfl⟩
  have b1 : Below w.heap.size w W1 := by rw [← hW1]; exact (Below.refl _ _).alloc (Nat.le_refl _) _
  have hbr : Blk2 W1 R 68 (.slice none 0 0) (.slice none 0 0) := by rw [← hW1, hRe]; exact Blk2.new w _ _ _
  have HC1 := Lib.hid (codeOk_below h b1)
  have HB1 := Lib.hid b1
  have HBR := Lib.hid hbr
  have HRE := Lib.hid hRe
  have HW1 := Lib.hid hW1
  clear h hbr hRe hW1 b1
  go_enter Try.func59, Try.ntmps59
  go_wp2_with fail
  rw [HW1.out, ← HRE.out]
  clear HW1
  refine (newReader_any w.heap.size a len cap W1 HB1.out.size HC1.out).mono ?_
  rintro e w1 ⟨rfl, hr, hb, hz⟩
  obtain ⟨B, hBe⟩ : ∃ B, B = W1.heap.size := ⟨_, rfl⟩
  rw [← hBe] at hr hz ⊢
  have hRB : R < B := by rw [hBe]; exact HBR.out.lt
  have HBR1 : Hid (Blk2 w1 R 68 (.slice none 0 0) (.slice none 0 0)) := Lib.hid ((hb.block R HBR.out.lt).trans HBR.out)
  have HR1 := Lib.hid hr
  have HZ1 := Lib.hid hz
  have HRB := Lib.hid hRB
  have HWW := Lib.hid (show Below w.heap.size w w1 from HB1.out.trans (hb.mono HB1.out.size))
  have HQ := Lib.hid (show ∀ b, w1.heap.size ≤ b → (b == B || b == R) = false from fun b hb => by
    have h1 : b ≠ B := by omega
    have h2 : b ≠ R := by omega
    simp [h1, h2])
  clear hr hb hz hBe hRB HBR HC1 HB1
  go_wp2_with fail
  refine (anyModel_any (fun b => b == B || b == R) w.heap.size B 0 w1 HR1.out (by omega) (by omega) (by simp) HQ.out).mono ?_
  rintro e w2 ⟨u1, u2, ds, xs0, q, rfl, o1, o2, ne, ok, h1, h4, h6, hq, hq', rd, d⟩
  obtain ⟨a1, c1, rfl, hcc1, hcc1'⟩ := own_form o1
  obtain ⟨a2, c2, rfl, hcc2, hcc2'⟩ := own_form o2
  unfold maxLen at hcc1' hcc2'
  have r1 : RdInts (av (fun b => b == B || b == R) w2) (.slice a1 ds.length c1) ds := rdInts_of_own (own_av o1 HQ.out)
  have r2 : RdCons (av (fun b => b == B || b == R) w2) (.slice a2 xs0.length c2) (xs0.map CE.c) := elts_rd (own_av o2 HQ.out) (fun x hx => by
    have hx2 := ok x hx
    have hi : Inc (av (fun b => (b == B || b == R) || decide ((Value.slice a1 ds.length c1).ownBlock = some b) || decide ((Value.slice a2 xs0.length c2).ownBlock = some b)) w2) (av (fun b => b == B || b == R) w2) := fun p y hp => by
      obtain ⟨e, h1⟩ := av_at _ _ hp
      exact av_mk _ _ (by simp only [Bool.or_eq_false_iff] at e ⊢; exact e.1.1) h1
    exact ⟨hx2.1.inc hi, hx2.2.1.inc hi, hx2.2.2.1.inc hi⟩)
  have hle : ModLe ⟨ds, xs0.map CE.c⟩ 21 := ⟨by show ds.length ≤ 21; omega, consLe_of ok (by omega)⟩
  obtain ⟨n1, hn1⟩ : ∃ n, n = ds.length := ⟨_, rfl⟩
  obtain ⟨n2, hn2⟩ : ∃ n, n = xs0.length := ⟨_, rfl⟩
  rw [← hn1] at r1 hcc1 ⊢
  rw [← hn2] at r2 hcc2 ⊢
  obtain ⟨W3, hW3⟩ : ∃ W3, w2.alloc (.cells #[.slice a1 n1 c1, .slice a2 n2 c2] 68) = W3 := ⟨_, rfl⟩
  obtain ⟨M, hM⟩ : ∃ M, M = w2.heap.size := ⟨_, rfl⟩
  have b3 : Below w2.heap.size w2 W3 := by rw [← hW3]; exact (Below.refl _ _).alloc (Nat.le_refl _) _
  have hbm : Blk2 W3 M 68 (.slice a1 n1 c1) (.slice a2 n2 c2) := by rw [← hW3, hM]; exact Blk2.new w2 _ _ _
  have hRw2 : Blk2 W3 R 68 (.slice none 0 0) (.slice none 0 0) := ((d.block R HBR1.out.lt (by have := HRB.out; omega)).trans HBR1.out |> fun h => (b3.block R (Array.getElem?_eq_some_iff.1 h).1).trans h)
  have hi3 : Inc (av (fun b => b == B || b == R) w2) (av (fun b => b == B || b == R) W3) := (Fr.of_below b3).inc
  have HA1 := Lib.hid (r1.inc hi3)
  have HA2 := Lib.hid (r2.inc hi3)
  have HMR := Lib.hid (show M ≠ R from by have := hRw2.lt; have := (Array.getElem?_eq_some_iff.1 ((d.block R HBR1.out.lt (by have := HRB.out; omega)).trans HBR1.out)).1; omega)
  have HMB := Lib.hid (show M < W3.heap.size ∧ M ≠ B ∧ R < W3.heap.size ∧ R ≠ B from ⟨hbm.lt, by have := rd.lt; omega, hRw2.lt, by have := HRB.out; omega⟩)
  have HSK : Hid (∀ W, Dn B W3 W → W.cell? ⟨M, 0, none⟩ = some (.slice a1 n1 c1) ∧ W.cell? ⟨M, 1, none⟩ = some (.slice a2 n2 c2)) := Lib.hid (fun W hd => by
    have h : Blk2 W M 68 (.slice a1 n1 c1) (.slice a2 n2 c2) := (hd.block M hbm.lt (by have := rd.lt; omega)).trans hbm
    exact h.cell)
  have HRK : Hid (∀ W, Dn B W3 W → Blk2 W R 68 (.slice none 0 0) (.slice none 0 0)) := Lib.hid (fun W hd => (hd.block R hRw2.lt (by have := HRB.out; omega)).trans hRw2)
  have HR3 := Lib.hid (rd.below (b3.mono (by have := rd.lt; omega)))
  have HBW : Hid (Below w.heap.size w W3) := Lib.hid ((HWW.out.trans (d.below (by have := HRB.out; have := HRE.out; omega) HWW.out.size)).trans (b3.mono (by have := d.size; have := HWW.out.size; omega)))
  have HAS : Hid (Calls Try.prog 121 #[.pointer (some ⟨B, 0, none⟩), .agg #[.slice a1 n1 c1, .slice a2 n2 c2]] W3.drew (RowDrawn w.heap.size B q 60 (fun xs => xs.length ≤ 5) W3.drew)) := Lib.hid
    (assignment_any (fun b => b == B || b == R) w.heap.size B q ⟨ds, xs0.map CE.c⟩ a1 a2 n1 n2 c1 c2 W3.drew (HR3.out.drewN 1) (by omega) (by omega) (by simp) hn1 (by omega) (by omega) HA1.out HA2.out ⟨by have := hle.1; omega, by have := hle.2.1; omega, fun j c hj => (hle.2.2 j c hj).mono (by omega)⟩)
  have HMM := Lib.hid (show ModLe ⟨ds, xs0.map CE.c⟩ 21 ∧ 1 ≤ ds.length ∧ ds.length ≤ 4 ∧ (xs0.map CE.c).length ≤ 6 from ⟨hle, h1, h4, by simpa using h6⟩)
  have HW3 := Lib.hid hW3
  have HME := Lib.hid hM
  clear o1 o2 ne ok h1 h4 h6 hq hq' rd d r1 r2 hle hn1 hn2 b3 hbm hRw2 hi3 hW3 hM HR1 HBR1
  go_wp2_with (rw [HW3.out])
  rw [← HME.out]
  have hS := HSK.out W3.drew (Dn.of_below (Below.refl _ W3).drew)
  refine region_z (fun W => W.cell? ⟨M, 0, none⟩ = some (.slice a1 n1 c1) ∧ W.cell? ⟨M, 1, none⟩ = some (.slice a2 n2 c2)) (fun _ => false) rfl ?_
  change wpAnyZ Try.prog .any _ _ _ _ 6 _ (diAct _ _ _ _ _ _ _ _ _ _ _ _ _ _) W3.drew
  refine wpAnyZ_take (i := 0) (v := .agg #[.slice a1 n1 c1, .slice a2 n2 c2]) rfl (by kernel_rfl) (by kernel_rfl) (by kernel_rfl) (by kernel_rfl) (fun _ _ _ h => h) (.inl ⟨rfl, fun w' hw' => exec_load rfl rfl (m_loadM w' _ _ _ _ _ _ _ hw'.1 hw'.2)⟩) hS ?_
  change wpAnyZ Try.prog .any _ _ _ _ 5 _ (diAct _ _ _ _ _ _ _ _ _ _ (.agg #[.slice a1 n1 c1, .slice a2 n2 c2]) _ _ _) W3.drew
  refine wpAnyZ_takeW (i := 1) (v := .pointer (some ⟨B, 0, none⟩)) rfl (by kernel_rfl) (by kernel_rfl) (by kernel_rfl) (fun _ _ _ h => h) (.inl ⟨rfl, fun w' hw' => rfl⟩) ?_
  change wpAnyZ Try.prog .any _ _ _ _ 4 _ (diAct _ _ _ _ _ _ _ _ _ _ (.agg #[.slice a1 n1 c1, .slice a2 n2 c2]) (.pointer (some ⟨B, 0, none⟩)) _ _) W3.drew
  refine wpAnyZ_take (i := 2) (v := .agg #[.slice a1 n1 c1, .slice a2 n2 c2]) rfl (by kernel_rfl) (by kernel_rfl) (by kernel_rfl) (by kernel_rfl) (fun _ _ _ h => h) (.inl ⟨rfl, fun w' hw' => exec_load rfl rfl (m_loadM w' _ _ _ _ _ _ _ hw'.1 hw'.2)⟩) hS ?_
  change wpAnyZ Try.prog .any _ _ _ _ 3 _ (diAct _ _ _ _ _ _ _ _ _ _ (.agg #[.slice a1 n1 c1, .slice a2 n2 c2]) (.pointer (some ⟨B, 0, none⟩)) (.agg #[.slice a1 n1 c1, .slice a2 n2 c2]) _) W3.drew
  refine wpAnyZ_one (i := 3) (by kernel_rfl) rfl (fun K' hK' => ?_)
  refine k_call2 _ rfl 121 _ _ _ _ _ rfl rfl rfl (enters_of Try.func121 (by kernel_rfl) rfl) _ HAS.out (fun c w' h => by obtain ⟨_, _, _, h, _⟩ := h; cases h) (fun w' h => by obtain ⟨_, _, _, h, _⟩ := h; cases h) ?_
  rintro vz w5 ⟨v5, xs, q5, ev, hxl, o5, hq5, hq5', r5, d5⟩
  obtain rfl : vz = v5 := by injection ev
  obtain ⟨ax, cx, ex, hcx, hcx'⟩ := own_form o5
  obtain ⟨nx, hnx⟩ : ∃ nx, nx = xs.length := ⟨_, rfl⟩
  rw [← hnx] at ex
  subst ex
  have hd5 : Dn B W3 w5 := (Dn.of_below (Below.refl _ W3).drew).trans d5
  have hS5 := HSK.out w5 hd5
  refine hK'.out _ _ (fun _ _ => hS5) ?_
  clear hK' K'
  change wpAnyZ Try.prog .any _ _ _ _ 2 _ (diAct _ _ _ _ _ _ _ _ _ _ (.agg #[.slice a1 n1 c1, .slice a2 n2 c2]) (.pointer (some ⟨B, 0, none⟩)) (.agg #[.slice a1 n1 c1, .slice a2 n2 c2]) (.slice ax nx cx)) w5
  refine wpAnyZ_one (i := 4) (by kernel_rfl) rfl (fun K' hK' => ?_)
  refine step_skip _ (putM w5 R (.slice a1 n1 c1) (.slice a2 n2 c2)) rfl (exec_store rfl rfl rfl (m_storeM w5 R _ _ _ _ _ _ _ _ _ _ _ _ (HRK.out w5 hd5).cell.1 (HRK.out w5 hd5).cell.2 (HRK.out w5 hd5).frozen.1 (HRK.out w5 hd5).frozen.2)) ?_
  have hkM : (putM w5 R (.slice a1 n1 c1) (.slice a2 n2 c2)).heap[M]? = w5.heap[M]? := by unfold putM; rw [Below.heap_setCell _ _ _ _ (by exact HMR.out), Below.heap_setCell _ _ _ _ (by exact HMR.out)]
  have hS7 : (putM w5 R (.slice a1 n1 c1) (.slice a2 n2 c2)).cell? ⟨M, 0, none⟩ = some (.slice a1 n1 c1) ∧ (putM w5 R (.slice a1 n1 c1) (.slice a2 n2 c2)).cell? ⟨M, 1, none⟩ = some (.slice a2 n2 c2) := ⟨(World.cell?_of_block hkM).trans hS5.1, (World.cell?_of_block hkM).trans hS5.2⟩
  refine hK'.out _ _ (fun _ _ => hS7) ?_
  clear hK' K'
  change wpAnyZ Try.prog .any _ _ _ _ 1 _ (diAct _ _ _ _ _ _ _ _ _ _ (.agg #[.slice a1 n1 c1, .slice a2 n2 c2]) (.pointer (some ⟨B, 0, none⟩)) (.agg #[.slice a1 n1 c1, .slice a2 n2 c2]) (.slice ax nx cx)) (putM w5 R (.slice a1 n1 c1) (.slice a2 n2 c2))
  refine wpAnyZ_one (i := 5) (by kernel_rfl) rfl (fun K' hK' => ?_)
  refine step_value _ (putM w5 R (.slice a1 n1 c1) (.slice a2 n2 c2)) rfl _ rfl ?_
  refine hK'.out _ _ (fun _ _ => hS7) ?_
  clear hK' K'
  change wpAnyZ Try.prog .any _ _ _ _ 0 _ (diAct _ _ _ (.slice ax nx cx) _ _ _ _ _ _ (.agg #[.slice a1 n1 c1, .slice a2 n2 c2]) (.pointer (some ⟨B, 0, none⟩)) (.agg #[.slice a1 n1 c1, .slice a2 n2 c2]) (.slice ax nx cx)) (putM w5 R (.slice a1 n1 c1) (.slice a2 n2 c2))
  refine wpAnyZ_done (by kernel_rfl) ?_ _
  unfold diAct
  have hiR : ∀ u1 u2, Inc (av (fun b => b == B || b == R) w5) (putM w5 R u1 u2) := fun u1 u2 p y hp => av_inc _ _ _ _ (inc_putM (by simp) u1 u2 p y hp)
  have hi5 : Inc (av (fun b => b == B || b == R) W3) (av (fun b => b == B || b == R) w5) := (Fr.of_dn (by simp) hd5).inc
  have hRw : w.heap.size ≤ R := by rw [HRE.out]; exact Nat.le_refl _
  have hbel : Below w.heap.size w (putM w5 R (.slice a1 n1 c1) (.slice a2 n2 c2)) := by
    unfold putM
    exact (((HBW.out.trans (hd5.below (by have := HRB.out; have := HRE.out; omega) HBW.out.size)).setCell (by exact hRw) _).setCell (by exact hRw) _)
  have hkeep : ∀ b, b ≠ R → (putM w5 R (.slice a1 n1 c1) (.slice a2 n2 c2)).heap[b]? = w5.heap[b]? := fun b hb => by
    unfold putM
    rw [Below.heap_setCell _ _ _ _ (by exact hb), Below.heap_setCell _ _ _ _ (by exact hb)]
  have hxr : RdInts (putM w5 R (.slice a1 n1 c1) (.slice a2 n2 c2)) (.slice ax nx cx) xs := by
    have h := own_keepB o5 (fun b hb => hkeep b (by have := (o5.lt b hb).1; have : R < W3.drew.heap.size := HMB.out.2.2.1; omega))
    rw [hnx]
    rw [hnx] at h
    exact rdInts_of_own h
  have HF : Hid (IsDrawn w (.returned (.tuple #[.agg #[.slice a1 n1 c1, .slice a2 n2 c2], .slice ax nx cx])) (putM w5 R (.slice a1 n1 c1) (.slice a2 n2 c2))) :=
    Lib.hid ⟨_, _, _, ⟨ds, xs0.map CE.c⟩, xs, rfl, (HA1.out.inc hi5).inc (hiR _ _), (HA2.out.inc hi5).inc (hiR _ _), hxr, HMM.out.1, HMM.out.2.1, HMM.out.2.2.1, HMM.out.2.2.2, hxl, hbel⟩
  have HQ2 := Lib.hid (putM_blk (HRK.out w5 hd5) (.slice a1 n1 c1) (.slice a2 n2 c2)).cell
  clear hS hS5 hS7 hkM hd5 hiR hi5 hRw hbel hkeep hxr o5 hq5 hq5' r5 d5 ev hxl hnx
  go_wp2
  obtain ⟨q0, q1⟩ := HQ2.out
  refine bodyPost_ret (v := .tuple #[.agg #[.slice a1 n1 c1, .slice a2 n2 c2], .slice ax nx cx]) (by simp [results, Try.results59, go_sem, q0, q1]) rfl ?_
  exact HF.out
end Go.Proofs.Ytjdbfiiaadphhaa
