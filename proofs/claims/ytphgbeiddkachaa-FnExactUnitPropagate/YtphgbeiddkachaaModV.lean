/- Valid models, in both packages, and the law. -/
import Derived.Test.YtphgbeiddkachaaMod
namespace Go.Proofs.Ytphgbeiddkachaa
open Go.ChangeShapes Go.WideShapes Go.ChangeAt Go.RowKit
set_option linter.unusedVariables false
set_option linter.unusedSimpArgs false

theorem rdInts_at {w : World} {a : Option Addr} {n cap : Nat} {xs : List Int} (h : RdInts w (.slice a n cap) xs) {i : Nat} (hi : i < n) : ∃ (b off : Nat), a = some ⟨b, off, none⟩ ∧ w.cell? ⟨b, off + i, none⟩ = some (.int .i64 (xs[i]?.getD 0)) := by
  obtain ⟨a', cap', e, h1, h2, h3⟩ := h
  simp at e
  obtain ⟨rfl, rfl, rfl⟩ := e
  rcases h3 with h3 | ⟨b, off, rfl, h3⟩
  · omega
  · exact ⟨b, off, rfl, h3 i hi⟩
theorem rdInts_cap {w : World} {a : Option Addr} {n cap : Nat} {xs : List Int} (h : RdInts w (.slice a n cap) xs) : n = xs.length ∧ n ≤ cap ∧ cap ≤ 9223372036854775807 := by
  obtain ⟨a', cap', e, h1, h2, _⟩ := h
  simp at e
  obtain ⟨rfl, rfl, rfl⟩ := e
  exact ⟨rfl, h1, by unfold maxLen at h2; omega⟩
theorem rdCons_cap {w : World} {a : Option Addr} {n cap : Nat} {xs : List Con} (h : RdCons w (.slice a n cap) xs) : n = xs.length ∧ n ≤ cap ∧ cap ≤ 9223372036854775807 := by
  obtain ⟨a', cap', e, h1, h2, _⟩ := h
  simp at e
  obtain ⟨rfl, rfl, rfl⟩ := e
  exact ⟨rfl, h1, by unfold maxLen at h2; omega⟩

/-- Every constraint is valid for n variables. -/
def consB (cs : List Con) (n : Int) : Bool := cs.all fun c => vcB c n
theorem consB_true {cs : List Con} {n : Int} (h : ∀ (j : Nat) (c : Con), j < cs.length → cs[j]? = some c → vcB c n = true) : consB cs n = true := by
  unfold consB
  rw [List.all_eq_true]
  intro x hx
  obtain ⟨j, hj, rfl⟩ := List.mem_iff_getElem.1 hx
  exact h j _ hj (List.getElem?_eq_getElem hj)
theorem consB_false {cs : List Con} {n : Int} {j : Nat} {c : Con} (hc : cs[j]? = some c) (h : vcB c n = false) : consB cs n = false := by
  unfold consB
  rw [List.all_eq_false]
  exact ⟨c, List.mem_of_getElem? hc, by simp [h]⟩
/-- The model is valid. -/
def vmB (m : Mod) : Bool := wiB m.doms.length 1 4 && allB m.doms 0 63 && decide (m.cons.length ≤ 6) && consB m.cons m.doms.length

set_option maxRecDepth 100000 in
theorem validDomains_any (dv : Value) (ds : List Int) (w : World) (h : RdInts w dv ds) :
    Calls Try.prog 60 #[dv] w fun e w' => e = .returned (.bool (wiB ds.length 1 4 && allB ds 0 63)) ∧ w = w' := by
  have HX := Lib.hid h
  obtain ⟨ax, cx, e2, -⟩ := id h
  rw [e2] at HX ⊢
  have hc := (rdInts_cap HX.out).2
  clear e2 h
  cases hw : wiB ds.length 1 4
  · go_enter Try.func60, Try.ntmps60
    go_wp2_with (go_at_call 46; refine (within_any _ _ _ _).mono ?_; rintro e w' ⟨rfl, rfl⟩)
    go_ret
    exact ⟨rfl, rfl⟩
  · go_enter Try.func60, Try.ntmps60
    go_wp2_with (first
      | (go_at_call 46; refine (within_any _ _ _ _).mono ?_; rintro e w' ⟨rfl, rfl⟩)
      | (go_at_call 93; refine (allWithin_any _ ds _ _ _ HX.out).mono ?_; rintro e w' ⟨rfl, rfl⟩))
    go_ret
    exact ⟨rfl, rfl⟩

end Go.Proofs.Ytphgbeiddkachaa
