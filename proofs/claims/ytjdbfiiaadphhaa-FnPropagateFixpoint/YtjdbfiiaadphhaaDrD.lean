/- Draws of domains: the reader's block turns, new blocks come; nothing else. -/
import Derived.Test.YtjdbfiiaadphhaaDrL
import Derived.Test.YtjdbfiiaadphhaaRng
namespace Go.Proofs.Ytjdbfiiaadphhaa
open Go.ChangeShapes Go.WideShapes Go.ChangeAt Go.RowKit
set_option linter.unusedVariables false
set_option linter.unusedSimpArgs false

/-- What a draw of a number leaves. -/
def NumDn (n0 B : Nat) (p s : Int) (w : World) (e : Ending) (w' : World) : Prop :=
  ∃ (x p' : Int), e = .returned (.int .i64 x) ∧ p ≤ p' ∧ p' ≤ p + s ∧ Rd n0 B p' w' ∧ Dn B w w'

set_option maxRecDepth 100000 in
set_option maxHeartbeats 2000000 in
theorem randomDomain_dn (n0 B : Nat) (p : Int) (w : World) (hR : Rd n0 B p w) (hp : 0 ≤ p) (hp2 : p ≤ 100000000) :
    Calls Try.prog 127 #[.pointer (some ⟨B, 0, none⟩)] w (NumDn n0 B p 3 w) := by
  go_enter Try.func127, Try.ntmps127
  go_wp2_with fail
  refine (pick_dn n0 B p 4 w hR hp (by omega) (by omega)).mono ?_
  rintro e w1 ⟨x, rfl, hx0, hx1, r1, b1⟩
  by_cases e0 : x = 0
  · subst e0
    go_wp2
    go_ret
    exact ⟨_, _, rfl, by omega, by omega, r1, b1⟩
  have k0 : (x == 0) = false := by simp [e0]
  by_cases e1 : x = 1
  · subst e1
    clear e0
    go_wp2_with fail
    refine (pick_dn n0 B (p + 1) 3 w1 r1 (by omega) (by omega) (by omega)).mono ?_
    rintro e w2 ⟨y, rfl, hy0, hy1, r2, b2⟩
    go_wp2_with fail
    refine (pick_dn n0 B (p + 1 + 1) 4 w2 r2 (by omega) (by omega) (by omega)).mono ?_
    rintro e w3 ⟨z, rfl, hz0, hz1, r3, b3⟩
    go_wp2_with fail
    refine (sRange_any y (2 + z) w3).mono ?_
    rintro e w' ⟨rfl, rfl⟩
    go_wp2
    go_ret
    exact ⟨_, _, rfl, by omega, by omega, r3, (b1.trans b2).trans b3⟩
  have k1 : (x == 1) = false := by simp [e1]
  by_cases e2 : x = 2
  · subst e2
    clear e0 e1
    go_wp2_with fail
    refine (pick_dn n0 B (p + 1) 6 w1 r1 (by omega) (by omega) (by omega)).mono ?_
    rintro e w2 ⟨y, rfl, hy0, hy1, r2, b2⟩
    have hy5 : y ≤ 63 := by omega
    go_wp2
    go_ret
    exact ⟨_, _, rfl, by omega, by omega, r2, b1.trans b2⟩
  have k2 : (x == 2) = false := by simp [e2]
  clear e0 e1 e2
  go_wp2_with fail
  refine (pick_dn n0 B (p + 1) 63 w1 r1 (by omega) (by omega) (by omega)).mono ?_
  rintro e w2 ⟨y, rfl, hy0, hy1, r2, b2⟩
  go_wp2
  go_ret
  exact ⟨_, _, rfl, by omega, by omega, r2, b1.trans b2⟩

end Go.Proofs.Ytjdbfiiaadphhaa
