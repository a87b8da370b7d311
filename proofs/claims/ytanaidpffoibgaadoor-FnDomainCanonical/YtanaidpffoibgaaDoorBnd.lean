/- DomainBounds of both packages: the smallest and the largest value of a domain. -/
import Derived.Test.YtanaidpffoibgaaDoorVals
import Derived.Test.YtanaidpffoibgaaDoorIter
import Derived.Test.YtanaidpffoibgaaDoorShelf
import Derived.Lib.LaidTab
import Derived.LaidMore
import Derived.Stop.Joined
namespace Go.Proofs.YtanaidpffoibgaaDoor
open Go.ChangeShapes Go.WideShapes Go.ChangeAt Go.RowKit
set_option linter.unusedVariables false
set_option linter.unusedSimpArgs false

/-- The library's table of 64 small numbers, read off the given rows. -/
def tab64 : List Int := match (Rows.laid_math_bits_deBruijn64tab : DataW Unit) with
  | .agg l => l.map fun | .lit (.int _ z) => z | _ => 0
  | _ => []
/-- The cells of that table in memory. -/
def Tab64 (w : World) : Prop := ∀ i, i < 64 → w.cell? ⟨1, i, none⟩ = some (.int .u8 (tab64.getD i 0))

/-- The smallest and the largest value. -/
def lowD (d : Int) : Int := (dvals d).headD (-1)
def highD (d : Int) : Int := (dvals d).getLastD (-1)

/-- The index that the library computes. -/
def tzI (n : Int) : Int := IntKind.u64.wrap (bits BinOp.and IntKind.u64 n (IntKind.u64.wrap (-n)) * 285870213051353865) / 288230376151711744
theorem tz_fact : ∀ n : Nat, n < 64 → 0 < n → 0 ≤ tzI n ∧ tzI n < 64 ∧ tab64.getD (tzI n).toNat 0 = lowD n := by decide +kernel
theorem high_fact : ∀ n : Nat, n < 64 → 0 < n → ((Lib.bitLen n : Nat) : Int) - 1 = highD n := by decide +kernel
theorem low_fact : ∀ n : Nat, n < 64 → 0 < n → 0 ≤ lowD n ∧ lowD n ≤ 5 := by decide +kernel
theorem vals_fact : ∀ n : Nat, n < 64 → 0 < n → (dvals n) ≠ [] := by decide +kernel
theorem vals_zero : dvals 0 = [] := by decide +kernel

set_option maxRecDepth 100000 in
set_option maxHeartbeats 1000000 in
theorem tz_any (n : Nat) (w : World) (h : n < 64) (h0 : 0 < n) (hT : Tab64 w) :
    Calls Tryd.prog 46 #[.int .u64 n] w fun e w' => e = .returned (.int .i64 (lowD n)) ∧ w = w' := by
  have hb : ((n : Int) == 0) = false := by simp; omega
  obtain ⟨f1, f2, f3⟩ := tz_fact n h h0
  obtain ⟨i, hi⟩ := Int.eq_ofNat_of_zero_le f1
  have hi' := hi
  unfold tzI at hi'
  rw [hi] at f2 f3
  have hc := hT i (by omega)
  have e3 : tab64.getD i 0 = lowD n := by simpa using f3
  rw [e3] at hc
  have hlow := low_fact n h h0
  clear hT f3 e3 f1 hi
  have hi64 : i < 64 := by omega
  go_enter Tryd.func46, Tryd.ntmps46
  go_wp2
  go_ret
  exact ⟨rfl, rfl⟩

set_option maxRecDepth 100000 in
set_option maxHeartbeats 1000000 in
theorem iBounds_ok (n : Nat) (w : World) (h : n < 64) (h0 : 0 < n) (hT : Tab64 w) :
    Calls Tryd.prog 11 #[.int .i64 n] w fun e w' => e = .returned (.tuple #[.int .i64 (lowD n), .int .i64 (highD n)]) ∧ w = w' := by
  have hv : wiB (n : Int) 0 63 = true := wiB_true (by omega) (by omega)
  have hb : ((n : Int) == 0) = false := by simp; omega
  have hH := Lib.hid (high_fact n h h0)
  have HT := Lib.hid hT
  have hbl : Lib.bitLen n ≤ 64 := by have : ∀ n : Nat, n < 64 → Lib.bitLen n ≤ 64 := by decide +kernel
                                     exact this n h
  clear hT
  go_enter Tryd.func11, Tryd.ntmps11
  go_wp2_with fail
  refine (ivalid_any _ _).mono ?_
  rintro e w' ⟨rfl, rfl⟩
  go_wp2_with (first
    | go_at_call 29; go_in
    | (go_at_call 46; refine (tz_any n _ h h0 HT.out).mono ?_; rintro e w' ⟨rfl, rfl⟩)
    | (go_at_call 30; refine (Tryd.bits_Len n _ (by omega) (by omega)).mono ?_; rintro e w' ⟨rfl, rfl⟩))
  go_ret2
  exact ⟨by rw [← hH.out]; rfl, rfl⟩

theorem below_drewN {B : Nat} {a w : World} (h : Below B a w) (k : Nat) : Below B a (w.drewN k) := ⟨h.os, h.tape, h.output, h.size, h.block⟩

/-- DomainBounds' two results. -/
def bndV (d : Int) : Value := .tuple #[.int .i64 (lowD d), .int .i64 (highD d)]

theorem iBounds_any (d : Int) (w : World) (hT : Tab64 w) :
    Calls Tryd.prog 11 #[.int .i64 d] w fun e w' => e = .returned (bndV d) ∧ w = w' := by
  cases hv : wiB d 0 63
  · have e : bndV d = .tuple #[.int .i64 (-1), .int .i64 (-1)] := by simp [bndV, lowD, highD, dvals, hv]
    rw [e]
    clear e hT
    go_enter Tryd.func11, Tryd.ntmps11
    go_wp2_with (go_at_call 14; refine (ivalid_any _ _).mono ?_; rintro e w' ⟨rfl, rfl⟩)
    go_ret2
    exact ⟨rfl, rfl⟩
  · have hv' := wiB_in hv
    by_cases h0 : d = 0
    · subst h0
      have e : bndV 0 = .tuple #[.int .i64 (-1), .int .i64 (-1)] := by simp [bndV, lowD, highD, vals_zero]
      rw [e]
      clear e hT hv'
      go_enter Tryd.func11, Tryd.ntmps11
      go_wp2_with (go_at_call 14; refine (ivalid_any _ _).mono ?_; rintro e w' ⟨rfl, rfl⟩)
      go_ret2
      exact ⟨rfl, rfl⟩
    · obtain ⟨n, rfl⟩ := Int.eq_ofNat_of_zero_le hv'.1
      exact iBounds_ok n w (by omega) (by omega) hT

theorem headD_get (xs : List Int) (h : xs ≠ []) : xs[0]?.getD 0 = xs.headD (-1) := by cases xs <;> simp_all
theorem lastD_get (xs : List Int) (h : xs ≠ []) : xs[xs.length - 1]?.getD 0 = xs.getLastD (-1) := by
  rw [List.getLastD_eq_getLast?, List.getLast?_eq_getElem?]
  rw [List.getElem?_eq_getElem (by have := List.length_pos_iff.2 h; omega)]
  rfl

set_option maxRecDepth 100000 in
set_option maxHeartbeats 1000000 in
theorem sBounds_any (d : Int) (w : World) :
    Calls Tryd.prog 25 #[.int .i64 d] w fun e w' => e = .returned (bndV d) ∧ Below w.heap.size w w' := by
  have hlen : (dvals d).length ≤ 6 := by unfold dvals; split; (· exact valsL_le _ _); (· simp)
  by_cases h0 : dvals d = []
  · have e : bndV d = .tuple #[.int .i64 (-1), .int .i64 (-1)] := by simp [bndV, lowD, highD, h0]
    rw [e]
    have H0 := Lib.hid h0
    clear e h0 hlen
    go_enter Tryd.func25, Tryd.ntmps25
    go_wp2_with fail
    refine (sDomainValues_any d w).mono ?_
    rintro e w1 ⟨v, rfl, ho, hb⟩
    rw [H0.out] at ho
    obtain ⟨a, cap, hav⟩ := ownsRow_slice ho
    rw [hav]
    clear hav ho
    go_wp2
    go_ret2
    exact ⟨rfl, hb⟩
  · have HL := Lib.hid (headD_get _ h0)
    have HH := Lib.hid (lastD_get _ h0)
    have hpos := List.length_pos_iff.2 h0
    clear h0
    unfold bndV
    go_enter Tryd.func25, Tryd.ntmps25
    go_wp2_with fail
    refine (sDomainValues_any d w).mono ?_
    rintro e w1 ⟨v, rfl, ho, hb⟩
    obtain ⟨n, hn⟩ : ∃ n, n = (dvals d).length := ⟨_, rfl⟩
    obtain ⟨g, cap, hav⟩ : ∃ g cap, v = .slice (some ⟨g, 0, none⟩) n cap := by
      rcases ho.2 with ⟨_, hz⟩ | ⟨g, cap, cur, hav, _⟩
      · omega
      · exact ⟨g, cap, by rw [hn]; exact hav⟩
    rw [← hn] at ho hpos hlen HH
    rw [hav] at ho ⊢
    have c1 : w1.cell? ⟨g, 0, none⟩ = some (.int .i64 (lowD d)) := by
      rw [ho.cellAt 0 (by omega), List.getElem?_map]
      have := HL.out
      rw [List.getElem?_eq_getElem (by omega)] at this ⊢
      show some (Value.int .i64 _) = _
      rw [show (dvals d)[0]'(by omega) = lowD d from this]
    have c2 : w1.cell? ⟨g, n - 1, none⟩ = some (.int .i64 (highD d)) := by
      rw [ho.cellAt (n - 1) (by omega), List.getElem?_map]
      have := HH.out
      rw [List.getElem?_eq_getElem (by omega)] at this ⊢
      show some (Value.int .i64 _) = _
      rw [show (dvals d)[n - 1]'(by omega) = highD d from this]
    have hne : ((n : Int) == 0) = false := by simp; omega
    obtain ⟨m, rfl⟩ : ∃ m, n = m + 1 := ⟨n - 1, by omega⟩
    simp only [Nat.add_sub_cancel] at c2
    clear HL HH hav ho hn
    go_wp2
    go_quiet (fail)
    go_wp2
    go_ret2
    exact ⟨rfl, below_drewN hb _⟩

/-- What the given rows list, as the walk wants it. -/
theorem tab_is : (Rows.laid_math_bits_deBruijn64tab : DataW Unit) = Lib.tabData .u8 tab64 := by kernel_rfl
theorem tab_len : tab64.length = 64 := by kernel_rfl
theorem g64 : Tryd.prog.globalNamed (Rows.fnExactDomainBoundsRow.named.getD 1 default) = some 1 := by kernel_rfl
theorem t64 : (Tryd.prog.globals[1]?).map (·.type) = some 76 := by kernel_rfl

/-- The second listed table. -/
theorem tab64_of {W : World} {x : String × DataW Unit} {r : List (String × DataW Unit)} (h : laidMet Tryd.prog (x :: (Rows.fnExactDomainBoundsRow.named.getD 1 default, Rows.laid_math_bits_deBruijn64tab) :: r) W) : Tab64 W := by
  obtain ⟨ps, ⟨g0, t0, cs0, f0, p0, q0, hg0, ht0, hv0, hd0, ⟨g1, t1, cs1, f1, p1, q1, hg1, ht1, hv1, hd1, _, _⟩, _⟩, _⟩ := h
  obtain rfl := Option.some.inj (g64.symm.trans hg1)
  obtain rfl := Option.some.inj (t64.symm.trans ht1)
  rw [tab_is] at hd1
  have hcs := Lib.cells_of_tab Tryd.underlying76 Tryd.underlying5 (by kernel_rfl) (by kernel_rfl) hd1
  have hT : Lib.TabIs Tryd.prog W (Rows.fnExactDomainBoundsRow.named.getD 1 default) .u8 tab64 := by
    unfold Lib.TabIs
    rw [hv1, ← hcs]
  exact fun i hi => hT.cell g64 i (by rw [tab_len]; exact hi)

theorem tabs2 {W : World} (h : laidMetH Tryd.prog Rows.fnExactDomainBoundsRow.laid W) : Tab64 W := by
  rw [MakeChecks.laidMetH_plain _ _ _ (by kernel_rfl)] at h
  exact tab64_of h
theorem tabs3 {W : World} (h : laidMetH Tryd.prog Rows.fnExactEncodeDomainRow.laid W) : Tab64 W := by
  rw [MakeChecks.laidMetH_plain _ _ _ (by kernel_rfl)] at h
  exact tab64_of h
end Go.Proofs.YtanaidpffoibgaaDoor
