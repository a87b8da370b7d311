/- The values of a domain as a list, and the specification's functions that make it. -/
import Derived.Test.YtanaidpffoibgaaDoorDom
import Derived.Maps.AppendAt
namespace Go.Proofs.YtanaidpffoibgaaDoor
open Go.ChangeShapes Go.WideShapes Go.ChangeAt Go.RowKit
set_option linter.unusedVariables false
set_option linter.unusedSimpArgs false

/-- The values of d below k, ascending. -/
def valsL (d : Int) : Nat → List Int
  | 0 => []
  | k + 1 => valsL d k ++ if hasB d k then [(k : Int)] else []

theorem valsL_le (d : Int) (k : Nat) : (valsL d k).length ≤ k := by
  induction k with
  | zero => simp [valsL]
  | succ k ih => simp only [valsL, List.length_append]; split <;> simp <;> omega

theorem Tryd.info3 : (Tryd.prog.info? 3).map (fun i => (i.zero, i.size, i.bytes)) = some (some (.int .i64 0), 1, 8) := by kernel_rfl

/-- A result that is a slice of integers of the call's own, which reads xs. -/
def Ints (B : Nat) (xs : List Int) (w : World) (e : Ending) (w' : World) : Prop :=
  ∃ v, e = .returned v ∧ w'.ownsRow B 3 1 v xs.length (xs.map (Value.int .i64)) ∧ Below B w w'

/-- A slice literal without elements. -/
theorem ownsRow_made (w : World) (e : TypeId) : (w.alloc (.cells #[] e)).ownsRow w.heap.size e 1 (.slice (some ⟨w.heap.size, 0, none⟩) 0 0) 0 [] := by
  refine ⟨by simp, .inr ⟨w.heap.size, 0, #[], rfl, Nat.le_refl _, ?_, by simp, by simp, by simp, by simp⟩⟩
  exact (MapKept.heap_alloc w _).1

set_option maxRecDepth 100000 in
set_option maxHeartbeats 1000000 in
theorem sdomainValues_any (d : Int) (w : World) (h1 : 0 ≤ d) (h2 : d ≤ 63) :
    Calls Tryd.prog 32 #[.int .i64 d] w (Ints w.heap.size (valsL d 6) w) := by
  obtain ⟨i0, hi, hz0, hz1, hz2⟩ := info_parts Tryd.info3
  go_enter Tryd.func32, Tryd.ntmps32
  go_wp2
  go_loopw [3, 4] (fun v i wr => ∃ k : Nat, k ≤ 6 ∧ i = .int .i64 k ∧ wr.ownsRow w.heap.size 3 1 v (valsL d k).length ((valsL d k).map (Value.int .i64)) ∧ Below w.heap.size w wr) (fun _ i _ => 6 - (intOf i).toNat)
  case atStart =>
    exact ⟨0, by omega, rfl, ownsRow_made w 3, (Below.refl _ _).alloc (Nat.le_refl _) _⟩
  case round =>
    obtain ⟨k, hk, rfl, hown, hbel⟩ := hrel
    have hle := valsL_le d k
    have hsz := hbel.size
    by_cases hlt : k < 6
    · cases hh : hasB d k
      · have HS := Lib.hid (show valsL d (k + 1) = valsL d k ++ if hasB d k then [(k : Int)] else [] from rfl)
        rw [hh] at HS
        go_wp2_with (go_at_call 50; refine (shas_any _ _ _ h1 h2).mono ?_; rintro e w' ⟨rfl, rfl⟩)
        go_roundw
        case rel => exact ⟨k + 1, by omega, by go_num, by rw [HS.out]; simpa using hown, hbel⟩
        case measure => simp [intOf]; omega
      · have HS := Lib.hid (show valsL d (k + 1) = valsL d k ++ if hasB d k then [(k : Int)] else [] from rfl)
        rw [hh] at HS
        go_wp2_with (first
          | (go_at_call 50; refine (shas_any _ _ _ h1 h2).mono ?_; rintro e w' ⟨rfl, rfl⟩)
          | (at_builtin; refine wpList_append_own _ rfl _ _ 24 rfl w.heap.size 3 i0 (.int .i64 0) 1 8 Tryd.underlying24 hi hz0 hz1 hz2 rfl (by decide) _ _ _ rfl (hown.alloc _) ⟨wr.heap.size, 0, none⟩ 1 1 [.int .i64 k] rfl rfl (cell_one_new _ _ _) (by simp [Value.oneCell']) (by unfold maxLen; omega) (by omega) (by simp; omega) ?_; intro v' w1 hown' hgrow _))
        have hb1 : Below w.heap.size w w1 := ((hbel.alloc (by omega) _).grown hgrow (by simp; omega) (fun j e => (hown.lt j e).1))
        go_wp2
        go_roundw
        case rel => exact ⟨k + 1, by omega, by go_num, by rw [HS.out]; simpa using hown', hb1⟩
        case measure => simp [intOf]; omega
    · obtain rfl : k = 6 := by omega
      go_wp2
      go_ret
      exact ⟨_, rfl, hown, hbel⟩

/-- What DomainValues returns: the values of a valid domain, or nil. -/
def dvals (d : Int) : List Int := if wiB d 0 63 then valsL d 6 else []

theorem sDomainValues_any (d : Int) (w : World) :
    Calls Tryd.prog 13 #[.int .i64 d] w (Ints w.heap.size (dvals d) w) := by
  cases hv : wiB d 0 63
  · rw [show dvals d = [] from by simp [dvals, hv]]
    go_enter Tryd.func13, Tryd.ntmps13
    go_wp2_with (go_at_call 31; refine (svalid_any _ _).mono ?_; rintro e w' ⟨rfl, rfl⟩)
    go_ret
    exact ⟨_, rfl, World.ownsRow_nil _ _ _ _, Below.refl _ _⟩
  · rw [show dvals d = valsL d 6 from by simp [dvals, hv]]
    have hv' := wiB_in hv
    go_enter Tryd.func13, Tryd.ntmps13
    go_wp2_with fail
    refine (svalid_any d _).mono ?_
    rintro e w' ⟨rfl, rfl⟩
    go_wp2_with fail
    refine (sdomainValues_any d _ hv'.1 hv'.2).mono ?_
    rintro e w1 ⟨v, rfl, hown, hb⟩
    go_wp2
    go_ret
    exact ⟨_, rfl, hown, hb⟩

/-- The length of an owned row. -/
theorem ownsRow_slice {w : World} {B : Nat} {e : TypeId} {v : Value} {n : Nat} {xs : List Value} (h : w.ownsRow B e 1 v n xs) : ∃ a cap, v = .slice a n cap := by
  rcases h.2 with ⟨rfl, rfl⟩ | ⟨g, cap, cur, rfl, _⟩
  · exact ⟨_, _, rfl⟩
  · exact ⟨_, _, rfl⟩

/-- What DomainSize returns. -/
def dsize (d : Int) : Int := if wiB d 0 63 then ((valsL d 6).length : Int) else -1

theorem ret_int {k : IntKind} {a b : Int} (h : a = b) : Ending.returned (.int k a) = .returned (.int k b) := by rw [h]

set_option maxRecDepth 100000 in
theorem size_any (n : Nat) (w : World) (h2 : n < 64) :
    Calls Tryd.prog 35 #[.int .i64 n] w fun e w' => e = .returned (.int .i64 (dsize n)) ∧ w = w' := by
  go_enter Tryd.func35, Tryd.ntmps35
  go_wp2
  go_ret
  refine ⟨ret_int ?_, rfl⟩
  clear w
  revert n
  decide +kernel

theorem iDomainSize_any (d : Int) (w : World) :
    Calls Tryd.prog 18 #[.int .i64 d] w fun e w' => e = .returned (.int .i64 (dsize d)) ∧ w = w' := by
  cases hv : wiB d 0 63
  · rw [show dsize d = -1 from by simp [dsize, hv]]
    go_enter Tryd.func18, Tryd.ntmps18
    go_wp2_with (go_at_call 14; refine (ivalid_any _ _).mono ?_; rintro e w' ⟨rfl, rfl⟩)
    go_ret
    exact ⟨rfl, rfl⟩
  · have hv' := wiB_in hv
    obtain ⟨n, rfl⟩ := Int.eq_ofNat_of_zero_le hv'.1
    go_enter Tryd.func18, Tryd.ntmps18
    go_wp2_with fail
    refine (ivalid_any _ _).mono ?_
    rintro e w' ⟨rfl, rfl⟩
    go_wp2_with fail
    refine (size_any n _ (by omega)).mono ?_
    rintro e w' ⟨rfl, rfl⟩
    go_wp2
    go_ret
    exact ⟨rfl, rfl⟩
end Go.Proofs.YtanaidpffoibgaaDoor
