/- DrawValidDomain, for the law of FnFilterMonotone. -/
import Derived.Test.YtolfjkdkbiicmaaFiP
import Derived.Test.YtolfjkdkbiicmaaDom
namespace Go.Proofs.Ytolfjkdkbiicmaa
open Go.ChangeShapes Go.WideShapes Go.ChangeAt Go.RowKit Go.Deep Go.Shelf
set_option linter.unusedVariables false
set_option linter.unusedSimpArgs false

set_option maxRecDepth 100000 in
set_option maxHeartbeats 4000000 in
theorem drawVD_any (a : Option Addr) (len cap : Nat) (w : World) (h : CodeOk w.heap.size w a len cap) :
    Calls Try.prog 19 #[.slice a len cap] w fun e w' => (∃ x : Int, e = .returned (.int .i64 x)) ∧ Below w.heap.size w w' := by
  go_enter Try.func19, Try.ntmps19
  go_wp2_with fail
  refine (newReader_any w.heap.size a len cap w (Nat.le_refl _) h).mono ?_
  rintro e w1 ⟨rfl, hr, hb, hz⟩
  have HB1 := Lib.hid hb
  have HR1 := Lib.hid hr
  clear hz h hr hb
  go_wp2_with fail
  refine (anyDomain_dn w.heap.size w.heap.size 0 w1 HR1.out (by omega) (by omega)).mono ?_
  rintro e w2 ⟨x, q', rfl, hq2, hq3, r2, d2⟩
  have HB2 := Lib.hid (HB1.out.trans (d2.below (Nat.le_refl _) HB1.out.size))
  clear r2 d2 hq2 hq3
  go_wp2
  go_ret
  exact ⟨⟨_, rfl⟩, HB2.out⟩
theorem CodeOk.later {n0 : Nat} {w w' : World} {a : Option Addr} {len cap : Nat} (h : CodeOk n0 w a len cap) (hb : Below n0 w w') (hn : n0 ≤ w'.heap.size) : CodeOk w'.heap.size w' a len cap := by
  refine ⟨h.1, h.2.1, ?_⟩
  rcases h.2.2 with h0 | ⟨b, off, f, ha, hb', hf, hx⟩
  · exact .inl h0
  · exact .inr ⟨b, off, f, ha, Nat.lt_of_lt_of_le hb' hn, hf, fun i hi => (hb.cell (p := ⟨b, off + i, none⟩) hb').trans (hx i hi)⟩
end Go.Proofs.Ytolfjkdkbiicmaa
