/- The draw of a valid constraint: both ways together. -/
import Derived.Test.YtjdbfiiaadphhaaDrKa
import Derived.Test.YtjdbfiiaadphhaaDrKb
namespace Go.Proofs.Ytjdbfiiaadphhaa
theorem randomConstraint_any (Q0 : Nat → Bool) (n0 B n : Nat) (p : Int) (w : World) (hR : Rd n0 B p w) (hp : 0 ≤ p) (hp2 : p ≤ 1000000) (hn : 1 ≤ n) (hn4 : n ≤ 4) (hQB : Q0 B = true) (hQ0 : ∀ b, w.heap.size ≤ b → Q0 b = false) :
    Calls Try.prog 128 #[.pointer (some ⟨B, 0, none⟩), .int .i64 n] w (ConDn Q0 n0 B p 100 20 w) := by
  by_cases hn2 : (n : Int) < 2
  · exact randomConstraint_small Q0 n0 B n p w hR hp hp2 hn hn4 hQB hQ0 hn2
  · exact randomConstraint_big Q0 n0 B n p w hR hp hp2 hn hn4 hQB hQ0 hn2
end Go.Proofs.Ytjdbfiiaadphhaa
