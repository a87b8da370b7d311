/- The draw of DomainRange's arguments: two numbers; and what the domain of a range holds. -/
import Derived.Test.YtklecdjbhgfglaaRng
import Derived.Test.YtklecdjbhgfglaaPick
namespace Go.Proofs.Ytklecdjbhgfglaa
open Go.ChangeShapes Go.WideShapes Go.ChangeAt Go.RowKit

/-- What a draw of two numbers leaves. -/
def TwoDrawn (w : World) (e : Ending) (w' : World) : Prop := ∃ lo hi : Int, e = .returned (.tuple #[.int .i64 lo, .int .i64 hi]) ∧ Below w.heap.size w w'

set_option maxRecDepth 100000 in
set_option maxHeartbeats 1000000 in
theorem draw_any (n0 : Nat) (a : Option Addr) (len cap : Nat) (w : World) (hn : n0 ≤ w.heap.size) (h : CodeOk n0 w a len cap) :
    Calls Try.prog 9 #[.slice a len cap] w (TwoDrawn w) := by
  go_enter Try.func9, Try.ntmps9
  go_wp2_with fail
  refine (newReader_any n0 a len cap w hn h).mono ?_
  rintro e w1 ⟨rfl, hr, hb, hz⟩
  have HZ := Lib.hid hz
  clear hz h
  go_wp2_with fail
  refine (pick_any n0 w.heap.size 0 9 w1 hr (by omega) (by omega) (by omega)).mono ?_
  rintro e w2 ⟨x, k, rfl, hx0, hx1, hw2⟩
  have hr2 : Rd n0 w.heap.size 1 w2 := by rw [hw2]; exact hr.picked k
  have hb2 : Below w.heap.size w w2 := hb.trans (by rw [hw2]; exact below_picked (Nat.le_refl _) k)
  clear hw2
  go_wp2_with fail
  refine (pick_any n0 w.heap.size 1 10 w2 hr2 (by omega) (by omega) (by omega)).mono ?_
  rintro e w3 ⟨y, k2, rfl, hy0, hy1, hw3⟩
  have hb3 : Below w.heap.size w w3 := hb2.trans (by rw [hw3]; exact below_picked (Nat.le_refl _) k2)
  clear hw3
  go_wp2
  go_ret2
  exact ⟨_, _, rfl, hb3⟩

/-- The values of the domain of a range. -/
theorem rng_has (lo hi : Int) (k : Nat) : ∀ m, k < m → rngD lo hi m / 2 ^ k % 2 = if wiB k lo hi then 1 else 0 := by
  intro m
  induction m with
  | zero => intro h; omega
  | succ m ih =>
    intro h
    simp only [rngD]
    by_cases e : k = m
    · subst e
      have hb := rngD_bd lo hi k
      split
      · rw [Int.add_ediv_of_dvd_right (Int.dvd_refl _), Int.ediv_eq_zero_of_lt hb.1 hb.2, Int.ediv_self (by have : (0:Int) < 2 ^ k := Int.pow_pos (by omega); omega)]; rfl
      · rw [Int.add_zero, Int.ediv_eq_zero_of_lt hb.1 hb.2]; rfl
    · have hm : k < m := by omega
      rw [← ih hm]
      split
      · obtain ⟨j, rfl⟩ : ∃ j, m = k + 1 + j := ⟨m - k - 1, by omega⟩
        have e2 : (2 : Int) ^ (k + 1 + j) = 2 ^ k * (2 * 2 ^ j) := by rw [Int.pow_add, Int.pow_succ]; simp [Int.mul_assoc]
        rw [e2, Int.add_mul_ediv_left _ _ (by have : (0:Int) < 2 ^ k := Int.pow_pos (by omega); omega)]
        omega
      · rw [Int.add_zero]

theorem dom_rng (lo hi : Int) (k : Nat) (hk : k ≤ 5) : domB (rngD lo hi 6) k = wiB k lo hi := by
  have hb := rngD_bd lo hi 6
  have h := rng_has lo hi k 6 (by omega)
  have hv : wiB (rngD lo hi 6) 0 63 = true := wiB_true hb.1 (by have := hb.2; simp at this; omega)
  cases hw : wiB (k : Int) lo hi <;> simp [domB, hv, hasB, hw] at h ⊢ <;> omega
end Go.Proofs.Ytklecdjbhgfglaa
