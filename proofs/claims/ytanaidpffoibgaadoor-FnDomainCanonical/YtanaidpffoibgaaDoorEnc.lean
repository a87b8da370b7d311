/- The program's text of an interval. -/
import Derived.Test.YtanaidpffoibgaaDoorFmt
namespace Go.Proofs.YtanaidpffoibgaaDoor
open Go.ChangeShapes Go.WideShapes Go.ChangeAt Go.RowKit
set_option linter.unusedVariables false
set_option linter.unusedSimpArgs false

theorem decDigits_small (n : Nat) (h : n ≤ 5) : (⟨(Lib.decDigits n).toArray⟩ : ByteArray) = digB n := by
  have h' : n < 6 := by omega
  revert n; decide +kernel
/-- The text of an interval. -/
def intB (lo hi : Nat) : ByteArray := if lo = hi then digB lo else digB lo ++ ⟨#[45]⟩ ++ digB hi

set_option maxRecDepth 100000 in
set_option maxHeartbeats 1000000 in
theorem encodeInterval_any (lo hi : Nat) (w : World) (h1 : lo ≤ 5) (h2 : hi ≤ 5) :
    Calls Tryd.prog 37 #[.int .i64 lo, .int .i64 hi] w fun e w' => e = .returned (.string (intB lo hi)) ∧ w = w' := by
  have hs1 := digB_size lo
  have hs2 := digB_size hi
  have hs4 : (⟨#[45]⟩ : ByteArray).size = 1 := rfl
  by_cases he : lo = hi
  · subst he
    have HF : Hid (intB lo lo = digB lo) := Lib.hid (by unfold intB; rw [if_pos rfl])
    go_enter Tryd.func37, Tryd.ntmps37
    go_wp2_with (go_at_call 54; refine (Tryd.strconv_Itoa_small _ (by omega) _).mono ?_; rintro e w' ⟨rfl, rfl⟩; rw [decDigits_small _ (by omega)])
    go_ret
    exact ⟨by rw [HF.out]; rfl, rfl⟩
  · have HF : Hid (intB lo hi = digB lo ++ ⟨#[45]⟩ ++ digB hi) := Lib.hid (by unfold intB; rw [if_neg he])
    have hd : ((lo : Int) == (hi : Int)) = false := by simp; omega
    go_enter Tryd.func37, Tryd.ntmps37
    go_wp2_with (go_at_call 54; refine (Tryd.strconv_Itoa_small _ (by omega) _).mono ?_; rintro e w' ⟨rfl, rfl⟩; rw [decDigits_small _ (by omega)])
    go_ret
    exact ⟨by rw [HF.out]; rfl, rfl⟩
end Go.Proofs.YtanaidpffoibgaaDoor
