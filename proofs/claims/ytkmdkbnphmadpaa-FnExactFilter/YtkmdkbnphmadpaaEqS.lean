/- The laws' own tests of equality: of slices of integers, of rows, of constraints. -/
import Derived.Test.YtkmdkbnphmadpaaData
import Derived.Test.YtkmdkbnphmadpaaToC
namespace Go.Proofs.Ytkmdkbnphmadpaa
open Go.ChangeShapes Go.WideShapes Go.ChangeAt Go.RowKit
set_option linter.unusedVariables false
set_option linter.unusedSimpArgs false

theorem getD_ext {xs ys : List Int} (hl : xs.length = ys.length) (h : ∀ j, j < xs.length → xs[j]?.getD 0 = ys[j]?.getD 0) : xs = ys := by
  apply List.ext_getElem hl
  intro i h1 h2
  have := h i h1
  simpa [h1, h2] using this

/-- What eqIntS leaves. -/
def EqPost (xs ys : List Int) (w : World) (e : Ending) (w' : World) : Prop := e = .returned (.bool (decide (xs = ys))) ∧ ∃ k, w' = w.drewN k

set_option maxRecDepth 100000 in
set_option maxHeartbeats 1000000 in
theorem eqIntS_any (v1 v2 : Value) (xs ys : List Int) (w : World) (h1 : RdInts w v1 xs) (h2 : RdInts w v2 ys) :
    Calls Try.prog 28 #[v1, v2] w (EqPost xs ys w) := by
  obtain ⟨a1, c1, rfl, hl1, hm1, h1⟩ := h1
  obtain ⟨a2, c2, rfl, hl2, hm2, h2⟩ := h2
  unfold maxLen at hm1 hm2
  by_cases hl : xs.length = ys.length
  · have hne : ((xs.length : Int) != (ys.length : Int)) = false := by simp [hl]
    by_cases h0 : xs.length = 0
    · have hx : xs = [] := List.eq_nil_of_length_eq_zero h0
      have hy : ys = [] := List.eq_nil_of_length_eq_zero (by omega)
      subst hx hy
      clear h1 h2
      go_enter Try.func28, Try.ntmps28
      go_wp2
      go_loop [5] (fun i => i = .int .i64 0) (fun _ => 0)
      case atStart => rfl
      case round =>
        subst hrel
        go_wp2
        go_ret
        exact ⟨rfl, 0, rfl⟩
    · rcases h1 with h1 | ⟨b1, o1, rfl, g1⟩
      · omega
      rcases h2 with h2 | ⟨b2, o2, rfl, g2⟩
      · omega
      have HL := Lib.hid hl
      rw [← hl] at g2 hne ⊢
      obtain ⟨n, hn⟩ : ∃ n, n = xs.length := ⟨_, rfl⟩
      rw [← hn] at g1 g2 hne hl1 h0 ⊢
      have HN := Lib.hid hn
      clear hl hn
      go_enter Try.func28, Try.ntmps28
      go_wp2
      go_loopw [5] (fun i wr => ∃ k nq : Nat, k ≤ n ∧ i = .int .i64 k ∧ Hid (∀ j, j < k → xs[j]?.getD 0 = ys[j]?.getD 0) ∧ wr = w.drewN nq) (fun i _ => n - (intOf i).toNat)
      case atStart => exact ⟨0, 0, Nat.zero_le _, rfl, fun j hj => by omega, rfl⟩
      case round =>
        obtain ⟨k, nq, hk, rfl, HE, rfl⟩ := hrel
        by_cases hlt : k < n
        · have q1 := g1 k hlt
          have q2 := g2 k hlt
          clear g1 g2
          by_cases he : xs[k]?.getD 0 = ys[k]?.getD 0
          · have hb : (xs[k]?.getD 0 != ys[k]?.getD 0) = false := by simp [he]
            have HX := Lib.hid he
            clear he
            go_wp2_with fail
            go_quiet (fail)
            go_wp2
            go_roundw
            case rel => exact ⟨k + 1, _, by omega, by go_num, fun j hj => by by_cases e : j = k; (· subst e; exact HX.out); (· exact HE.out j (by omega)), rfl⟩
            case measure => simp [intOf]; omega
          · have hb : (xs[k]?.getD 0 != ys[k]?.getD 0) = true := by simp [he]
            go_wp2_with fail
            go_quiet (fail)
            go_wp2
            go_ret
            refine ⟨ret_bool (decide_eq_false (fun e => he (by rw [e]))).symm, ?_⟩
            rw [World.drewN_drewN]
            exact ⟨_, rfl⟩
        · obtain rfl : k = n := by omega
          have hfin : decide (xs = ys) = true := by rw [decide_eq_true_iff]; exact getD_ext HL.out (fun j hj => HE.out j (by have := HN.out; omega))
          have HF := Lib.hid hfin
          clear hfin g1 g2
          go_wp2
          go_ret
          exact ⟨ret_bool HF.out.symm, _, rfl⟩
  · have hne : ((xs.length : Int) != (ys.length : Int)) = true := by simp; omega
    clear h1 h2
    go_enter Try.func28, Try.ntmps28
    go_wp2
    go_ret
    exact ⟨ret_bool (decide_eq_false (fun e => hl (by rw [e]))).symm, 0, rfl⟩


/-- What a test of equality that answers yes leaves. -/
def SamePost (w : World) (e : Ending) (w' : World) : Prop := e = .returned (.bool true) ∧ ∃ k, w' = w.drewN k

theorem eqIntS_same (v1 v2 : Value) (xs : List Int) (w : World) (h1 : RdInts w v1 xs) (h2 : RdInts w v2 xs) : Calls Try.prog 28 #[v1, v2] w (SamePost w) :=
  (eqIntS_any v1 v2 xs xs w h1 h2).mono fun e w' ⟨he, hw⟩ => ⟨by rw [he, decide_eq_true rfl], hw⟩

theorem RdInts.drewN' {w : World} {v : Value} {xs : List Int} (h : RdInts w v xs) (k : Nat) : RdInts (w.drewN k) v xs := h
theorem RdRows.drewN' {w : World} {v : Value} {xs : List (List Int)} (h : RdRows w v xs) (k : Nat) : RdRows (w.drewN k) v xs := h

set_option maxRecDepth 100000 in
set_option maxHeartbeats 2000000 in
theorem eqIntSS_same (v1 v2 : Value) (rows : List (List Int)) (w : World) (h1 : RdRows w v1 rows) (h2 : RdRows w v2 rows) :
    Calls Try.prog 63 #[v1, v2] w (SamePost w) := by
  obtain ⟨a1, c1, rfl, hl1, hm1, h1⟩ := h1
  obtain ⟨a2, c2, rfl, hl2, hm2, h2⟩ := h2
  unfold maxLen at hm1 hm2
  obtain ⟨n, hn⟩ : ∃ n, n = rows.length := ⟨_, rfl⟩
  have HN := Lib.hid hn
  rw [← hn] at hl1 hl2 h1 h2 ⊢
  clear hn
  have hne : ((n : Int) != (n : Int)) = false := by simp
  go_enter Try.func63, Try.ntmps63
  go_wp2
  go_loopw [5] (fun i wr => ∃ k nq : Nat, k ≤ n ∧ i = .int .i64 k ∧ wr = w.drewN nq) (fun i _ => n - (intOf i).toNat)
  case atStart => exact ⟨0, 0, Nat.zero_le _, rfl, rfl⟩
  case round =>
    obtain ⟨k, nq, hk, rfl, hwr⟩ := hrel
    have HW := Lib.hid hwr
    by_cases hlt : k < n
    · rcases h1 with h1 | ⟨b1, o1, rfl, g1⟩
      · omega
      rcases h2 with h2 | ⟨b2, o2, rfl, g2⟩
      · omega
      obtain ⟨u1, q1, r1⟩ := g1 k hlt
      obtain ⟨u2, q2, r2⟩ := g2 k hlt
      have R1 : Hid (RdInts wr u1 (rows[k]?.getD [])) := Lib.hid (by rw [hwr]; exact r1)
      have R2 : Hid (RdInts wr u2 (rows[k]?.getD [])) := Lib.hid (by rw [hwr]; exact r2)
      have q1' : wr.cell? ⟨b1, o1 + k, none⟩ = some u1 := by rw [hwr]; exact q1
      have q2' : wr.cell? ⟨b2, o2 + k, none⟩ = some u2 := by rw [hwr]; exact q2
      clear g1 g2 q1 q2 hwr
      obtain ⟨x1, y1, e1, _⟩ := r1
      obtain ⟨x2, y2, e2, _⟩ := r2
      rw [e1] at q1' R1
      rw [e2] at q2' R2
      clear e1 e2
      go_wp2_with fail
      go_quiet ((go_at_call 28; exact Calls.quiet_of (eqIntS_same _ _ (rows[k]?.getD []) _ (R1.out.drewN' _) (R2.out.drewN' _))))
      go_wp2
      go_roundw
      case rel => exact ⟨k + 1, _, by omega, by go_num, by rw [HW.out, World.drewN_drewN]⟩
      case measure => simp [intOf]; omega
    · obtain rfl : k = n := by omega
      clear h1 h2 hwr
      go_wp2
      go_ret
      exact ⟨rfl, _, HW.out⟩

/-- What eqConstraint leaves at two copies of one constraint. -/
def SamePostB (w : World) (e : Ending) (w' : World) : Prop := e = .returned (.bool true) ∧ Below w.heap.size w w'
theorem below_drewN' {B : Nat} {a w : World} (h : Below B a w) (k : Nat) : Below B a (w.drewN k) := ⟨h.os, h.tape, h.output, h.size, h.block⟩

set_option maxRecDepth 100000 in
set_option maxHeartbeats 2000000 in
theorem eqConstraint_same (v1 v2 : Value) (c : Con) (w : World) (h1 : RdCon w v1 c) (h2 : RdCon w v2 c) :
    Calls Try.prog 19 #[v1, v2] w (SamePostB w) := by
  obtain ⟨a2, a3, a5, c2, c3, c5, rfl, i2, i3, i5⟩ := rdCon_slices h1
  obtain ⟨b2, b3, b5, d2, d3, d5, rfl, j2, j3, j5⟩ := rdCon_slices h2
  have hB : Below w.heap.size w ((w.alloc (.cells #[.int .i64 c.kind, .slice a2 c.vars.length c2, .slice a3 c.args.length c3, .int .i64 c.bound, .slice a5 c.rows.length c5] 28)).alloc (.cells #[.int .i64 c.kind, .slice b2 c.vars.length d2, .slice b3 c.args.length d3, .int .i64 c.bound, .slice b5 c.rows.length d5] 28)) := ((Below.refl _ _).alloc (Nat.le_refl _) _).alloc (by simp) _
  have I2 := Lib.hid (i2.below hB)
  have I3 := Lib.hid (i3.below hB)
  have I5 := Lib.hid (i5.below hB)
  have J2 := Lib.hid (j2.below hB)
  have J3 := Lib.hid (j3.below hB)
  have J5 := Lib.hid (j5.below hB)
  have HB := Lib.hid hB
  clear h1 h2 i2 i3 i5 j2 j3 j5 hB
  have n1 : (c.kind != c.kind) = false := by simp
  have n2 : (c.bound != c.bound) = false := by simp
  go_enter Try.func19, Try.ntmps19
  go_wp2_with fail
  refine (eqIntS_same _ _ c.vars _ I2.out J2.out).mono ?_
  rintro e w' ⟨rfl, m1, rfl⟩
  go_wp2_with fail
  refine (eqIntS_same _ _ c.args _ (I3.out.drewN' _) (J3.out.drewN' _)).mono ?_
  rintro e w' ⟨rfl, m2, rfl⟩
  rw [World.drewN_drewN]
  go_wp2_with fail
  refine (eqIntSS_same _ _ c.rows _ (I5.out.drewN' _) (J5.out.drewN' _)).mono ?_
  rintro e w' ⟨rfl, m3, rfl⟩
  rw [World.drewN_drewN]
  go_wp2
  go_ret
  exact ⟨rfl, below_drewN' HB.out _⟩
end Go.Proofs.Ytkmdkbnphmadpaa
