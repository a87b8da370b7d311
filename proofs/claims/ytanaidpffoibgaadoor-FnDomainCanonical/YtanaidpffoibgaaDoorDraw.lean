/- Draws of domains: some number; the reader goes on; nothing else that was there changes. -/
import Derived.Test.YtanaidpffoibgaaDoorPick
import Derived.Test.YtanaidpffoibgaaDoorRng
namespace Go.Proofs.YtanaidpffoibgaaDoor
open Go.ChangeShapes Go.WideShapes Go.ChangeAt Go.RowKit
set_option linter.unusedVariables false
set_option linter.unusedSimpArgs false

/-- What a draw of a number leaves: the reader has gone on by at most s picks. -/
def NumDrawn (n0 B : Nat) (p s : Int) (w : World) (e : Ending) (w' : World) : Prop :=
  ∃ (x p' : Int), e = .returned (.int .i64 x) ∧ p ≤ p' ∧ p' ≤ p + s ∧ Rd n0 B p' w' ∧ Below n0 w w'

theorem pick_num (n0 B : Nat) (p n : Int) (w : World) (hR : Rd n0 B p w) (hp : 0 ≤ p) (hp2 : p ≤ 1000000000) (hn2 : n ≤ 1000000) :
    Calls Tryd.prog 40 #[.pointer (some ⟨B, 0, none⟩), .int .i64 n] w fun e w' => ∃ x : Int, e = .returned (.int .i64 x) ∧ 0 ≤ x ∧ (x < n ∨ x = 0) ∧ Rd n0 B (p + 1) w' ∧ Below n0 w w' := by
  refine (pick_any n0 B p n w hR hp hp2 hn2).mono ?_
  rintro e w' ⟨x, k, rfl, h0, h1, rfl⟩
  exact ⟨x, rfl, h0, h1, hR.picked k, below_picked hR.1 k⟩

set_option maxRecDepth 100000 in
set_option maxHeartbeats 2000000 in
theorem randomDomain_any (n0 B : Nat) (p : Int) (w : World) (hR : Rd n0 B p w) (hp : 0 ≤ p) (hp2 : p ≤ 100000000) :
    Calls Tryd.prog 43 #[.pointer (some ⟨B, 0, none⟩)] w (NumDrawn n0 B p 3 w) := by
  go_enter Tryd.func43, Tryd.ntmps43
  go_wp2_with fail
  refine (pick_num n0 B p 4 w hR hp (by omega) (by omega)).mono ?_
  rintro e w1 ⟨x, rfl, hx0, hx1, r1, b1⟩
  by_cases e0 : x = 0
  · subst e0
    go_wp2
    go_ret
    exact ⟨_, _, rfl, by omega, by omega, r1, b1⟩
  have k0 : (x == 0) = false := by simp [e0]
  by_cases e1 : x = 1
  · subst e1
    clear e0
    go_wp2_with fail
    refine (pick_num n0 B (p + 1) 3 w1 r1 (by omega) (by omega) (by omega)).mono ?_
    rintro e w2 ⟨y, rfl, hy0, hy1, r2, b2⟩
    go_wp2_with fail
    refine (pick_num n0 B (p + 1 + 1) 4 w2 r2 (by omega) (by omega) (by omega)).mono ?_
    rintro e w3 ⟨z, rfl, hz0, hz1, r3, b3⟩
    go_wp2_with fail
    refine (sRange_any y (2 + z) w3).mono ?_
    rintro e w' ⟨rfl, rfl⟩
    go_wp2
    go_ret
    exact ⟨_, _, rfl, by omega, by omega, r3, (b1.trans b2).trans b3⟩
  have k1 : (x == 1) = false := by simp [e1]
  by_cases e2 : x = 2
  · subst e2
    clear e0 e1
    go_wp2_with fail
    refine (pick_num n0 B (p + 1) 6 w1 r1 (by omega) (by omega) (by omega)).mono ?_
    rintro e w2 ⟨y, rfl, hy0, hy1, r2, b2⟩
    have hy5 : y ≤ 63 := by omega
    go_wp2
    go_ret
    exact ⟨_, _, rfl, by omega, by omega, r2, b1.trans b2⟩
  have k2 : (x == 2) = false := by simp [e2]
  clear e0 e1 e2
  go_wp2_with fail
  refine (pick_num n0 B (p + 1) 63 w1 r1 (by omega) (by omega) (by omega)).mono ?_
  rintro e w2 ⟨y, rfl, hy0, hy1, r2, b2⟩
  go_wp2
  go_ret
  exact ⟨_, _, rfl, by omega, by omega, r2, b1.trans b2⟩

theorem Rd.alloc {n0 B : Nat} {p : Int} {w : World} (h : Rd n0 B p w) (hn : n0 ≤ w.heap.size) (o : Obj) : Rd n0 B p (w.alloc o) := by
  obtain ⟨hB, hc, hz, a, len, cap, hs, hl, h⟩ := h
  have k : ∀ (q : Addr) (x : Value), w.cell? q = some x → (w.alloc o).cell? q = some x := fun q x hq => (cell_alloc_ne _ _ _ (Nat.ne_of_lt (World.block_lt_of_cell? w _ hq))).trans hq
  have hlt := World.block_lt_of_cell? w _ hc
  refine ⟨hB, k _ _ hc, ?_, a, len, cap, k _ _ hs, hl, ?_⟩
  · have := World.frozen?_alloc_past (w := w) o B 1 hlt
    rw [this]; exact hz
  · rcases h with h | ⟨b, off, f, e, hb0, hf, hb⟩
    · exact .inl h
    · exact .inr ⟨b, off, f, e, hb0, hf, fun i hi => k _ _ (hb i hi)⟩

set_option maxRecDepth 100000 in
set_option maxHeartbeats 2000000 in
theorem one_any (n0 B L m : Nat) (p : Int) (f : Nat → Int) (w : World) (hR : Rd n0 B p w) (hp : 0 ≤ p) (hp2 : p ≤ 100000000) (hm : 0 < m) (hm2 : m ≤ 1000) (hL : L ≠ B) (hc : ∀ i, i < m → w.cell? ⟨L, i, none⟩ = some (.int .i64 (f i))) :
    Calls Tryd.prog 42 #[.pointer (some ⟨B, 0, none⟩), .slice (some ⟨L, 0, none⟩) m m] w (NumDrawn n0 B p 1 w) := by
  have HC := Lib.hid hc
  clear hc
  go_enter Tryd.func42, Tryd.ntmps42
  go_wp2_with fail
  refine (pick_any n0 B p m w hR hp (by omega) (by omega)).mono ?_
  rintro e w1 ⟨x, k, rfl, hx0, hx1, hw1⟩
  obtain ⟨i, rfl⟩ := Int.eq_ofNat_of_zero_le hx0
  have hi : i < m := by omega
  have hci : w1.cell? ⟨L, i, none⟩ = some (.int .i64 (f i)) := by
    rw [hw1, World.cell?_drewN, cell_set_ne _ _ _ _ (by intro h; have := congrArg Addr.block h; simp at this; exact hL this.symm)]
    exact HC.out i hi
  have r1 : Rd n0 B (p + 1) w1 := by rw [hw1]; exact hR.picked k
  have b1 : Below n0 w w1 := by rw [hw1]; exact below_picked hR.1 k
  clear hw1 hx0 hx1
  go_wp2
  go_ret
  exact ⟨_, _, rfl, by omega, by omega, r1, b1⟩

set_option maxRecDepth 100000 in
set_option maxHeartbeats 2000000 in
theorem anyDomain_any (n0 B : Nat) (p : Int) (w : World) (hR : Rd n0 B p w) (hn : n0 ≤ w.heap.size) (hp : 0 ≤ p) (hp2 : p ≤ 10000000) :
    Calls Tryd.prog 26 #[.pointer (some ⟨B, 0, none⟩)] w (NumDrawn n0 B p 4 w) := by
  go_enter Tryd.func26, Tryd.ntmps26
  go_wp2_with fail
  refine (pick_num n0 B p 10 w hR hp (by omega) (by omega)).mono ?_
  rintro e w1 ⟨x, rfl, hx0, hx1, r1, b1⟩
  have hn1 : n0 ≤ w1.heap.size := Nat.le_trans hn b1.size
  by_cases e0 : x = 0
  · subst e0
    go_wp2_with fail
    have hlt := World.block_lt_of_cell? w1 _ r1.2.1
    refine (one_any n0 B w1.heap.size 4 (p + 1) (fun i => [0, -1, 64, 255].getD i 0) _ (r1.alloc hn1 _) (by omega) (by omega) (by omega) (by omega) (by show w1.heap.size ≠ B; exact Nat.ne_of_gt hlt) ?_).mono ?_
    · intro i hi
      match i, hi with
      | 0, _ => simp
      | 1, _ => simp
      | 2, _ => simp
      | 3, _ => simp
    rintro e w2 ⟨y, p', rfl, q1, q2, r2, b2⟩
    have b3 : Below n0 w w2 := (b1.alloc hn1 _).trans b2
    go_wp2
    go_ret
    exact ⟨_, _, rfl, by omega, by omega, r2, b3⟩
  have k0 : (x == 0) = false := by simp [e0]
  clear e0
  go_wp2_with fail
  refine (randomDomain_any n0 B (p + 1) w1 r1 (by omega) (by omega)).mono ?_
  rintro e w2 ⟨y, p', rfl, q1, q2, r2, b2⟩
  go_wp2
  go_ret
  exact ⟨_, _, rfl, by omega, by omega, r2, b1.trans b2⟩

/-- What a draw from the bytes leaves. -/
def CodeDrawn (w : World) (e : Ending) (w' : World) : Prop := ∃ x : Int, e = .returned (.int .i64 x) ∧ Below w.heap.size w w'

set_option maxRecDepth 100000 in
theorem drawValues_any (a : Option Addr) (len cap : Nat) (w : World) (h : CodeOk w.heap.size w a len cap) :
    Calls Tryd.prog 9 #[.slice a len cap] w (CodeDrawn w) := by
  go_enter Tryd.func9, Tryd.ntmps9
  go_wp2_with fail
  refine (newReader_any w.heap.size a len cap w (Nat.le_refl _) h).mono ?_
  rintro e w1 ⟨rfl, hr, hb, hz⟩
  have hs := hb.size
  clear hz h
  go_wp2_with fail
  refine (anyDomain_any w.heap.size w.heap.size 0 w1 hr hs (by omega) (by omega)).mono ?_
  rintro e w2 ⟨x, p', rfl, _, _, _, b2⟩
  go_wp2
  go_ret
  exact ⟨_, rfl, hb.trans b2⟩
set_option maxRecDepth 100000 in
theorem drawEncode_any (a : Option Addr) (len cap : Nat) (w : World) (h : CodeOk w.heap.size w a len cap) :
    Calls Tryd.prog 19 #[.slice a len cap] w (CodeDrawn w) := by
  go_enter Tryd.func19, Tryd.ntmps19
  go_wp2_with fail
  refine (newReader_any w.heap.size a len cap w (Nat.le_refl _) h).mono ?_
  rintro e w1 ⟨rfl, hr, hb, hz⟩
  have hs := hb.size
  clear hz h
  go_wp2_with fail
  refine (anyDomain_any w.heap.size w.heap.size 0 w1 hr hs (by omega) (by omega)).mono ?_
  rintro e w2 ⟨x, p', rfl, _, _, _, b2⟩
  go_wp2
  go_ret
  exact ⟨_, rfl, hb.trans b2⟩
end Go.Proofs.YtanaidpffoibgaaDoor
