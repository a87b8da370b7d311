/- Draws of numbers: some number; the reader goes on; nothing else that was there changes. -/
import Derived.Test.YtjdbfiiaadphhaaPick
namespace Go.Proofs.Ytjdbfiiaadphhaa
open Go.ChangeShapes Go.WideShapes Go.ChangeAt Go.RowKit
set_option linter.unusedVariables false
set_option linter.unusedSimpArgs false

/-- What a draw of a number leaves: the reader has gone on by at most s picks. -/
def NumDrawn (n0 B : Nat) (p s : Int) (w : World) (e : Ending) (w' : World) : Prop :=
  ∃ (x p' : Int), e = .returned (.int .i64 x) ∧ p ≤ p' ∧ p' ≤ p + s ∧ Rd n0 B p' w' ∧ Below n0 w w'

theorem pick_num (n0 B : Nat) (p n : Int) (w : World) (hR : Rd n0 B p w) (hp : 0 ≤ p) (hp2 : p ≤ 1000000000) (hn2 : n ≤ 1000000) :
    Calls Try.prog 125 #[.pointer (some ⟨B, 0, none⟩), .int .i64 n] w fun e w' => ∃ x : Int, e = .returned (.int .i64 x) ∧ 0 ≤ x ∧ (x < n ∨ x = 0) ∧ Rd n0 B (p + 1) w' ∧ Below n0 w w' := by
  refine (rpick_any n0 B p n w hR hp hp2 hn2).mono ?_
  rintro e w' ⟨x, k, rfl, h0, h1, rfl⟩
  exact ⟨x, rfl, h0, h1, hR.picked k, below_picked hR.1 k⟩

theorem Rd.alloc {n0 B : Nat} {p : Int} {w : World} (h : Rd n0 B p w) (hn : n0 ≤ w.heap.size) (o : Obj) : Rd n0 B p (w.alloc o) := by
  obtain ⟨hB, hc, hz, a, len, cap, hs, hl, h⟩ := h
  have k : ∀ (q : Addr) (x : Value), w.cell? q = some x → (w.alloc o).cell? q = some x := fun q x hq => (cell_alloc_ne _ _ _ (Nat.ne_of_lt (World.block_lt_of_cell? w _ hq))).trans hq
  have hlt := World.block_lt_of_cell? w _ hc
  refine ⟨hB, k _ _ hc, ?_, a, len, cap, k _ _ hs, hl, ?_⟩
  · have := World.frozen?_alloc_past (w := w) o B 1 hlt
    rw [this]; exact hz
  · rcases h with h | ⟨b, off, f, e, hb0, hf, hb⟩
    · exact .inl h
    · exact .inr ⟨b, off, f, e, hb0, hf, fun i hi => k _ _ (hb i hi)⟩

set_option maxRecDepth 100000 in
set_option maxHeartbeats 2000000 in
theorem one_any (n0 B L m : Nat) (p : Int) (f : Nat → Int) (w : World) (hR : Rd n0 B p w) (hp : 0 ≤ p) (hp2 : p ≤ 100000000) (hm : 0 < m) (hm2 : m ≤ 1000) (hL : L ≠ B) (hc : ∀ i, i < m → w.cell? ⟨L, i, none⟩ = some (.int .i64 (f i))) :
    Calls Try.prog 153 #[.pointer (some ⟨B, 0, none⟩), .slice (some ⟨L, 0, none⟩) m m] w (NumDrawn n0 B p 1 w) := by
  have HC := Lib.hid hc
  clear hc
  go_enter Try.func153, Try.ntmps153
  go_wp2_with fail
  refine (rpick_any n0 B p m w hR hp (by omega) (by omega)).mono ?_
  rintro e w1 ⟨x, k, rfl, hx0, hx1, hw1⟩
  obtain ⟨i, rfl⟩ := Int.eq_ofNat_of_zero_le hx0
  have hi : i < m := by omega
  have hci : w1.cell? ⟨L, i, none⟩ = some (.int .i64 (f i)) := by
    rw [hw1, World.cell?_drewN, cell_set_ne _ _ _ _ (by intro h; have := congrArg Addr.block h; simp at this; exact hL this.symm)]
    exact HC.out i hi
  have r1 : Rd n0 B (p + 1) w1 := by rw [hw1]; exact hR.picked k
  have b1 : Below n0 w w1 := by rw [hw1]; exact below_picked hR.1 k
  clear hw1 hx0 hx1
  go_wp2
  go_ret
  exact ⟨_, _, rfl, by omega, by omega, r1, b1⟩

end Go.Proofs.Ytjdbfiiaadphhaa
