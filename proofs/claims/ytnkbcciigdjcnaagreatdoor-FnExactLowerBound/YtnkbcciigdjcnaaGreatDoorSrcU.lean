/- The program's search: the pieces of one node: its branching variable, a child, the values of single domains, the reversal of the children. -/
import Derived.Test.YtnkbcciigdjcnaaGreatDoorProI
import Derived.Test.YtnkbcciigdjcnaaGreatDoorSrcS
import Derived.Test.YtnkbcciigdjcnaaGreatDoorOrdX
import Derived.Lib.LaidTab
import Derived.LaidMore
import Derived.Stop.Joined
namespace Go.Proofs.YtnkbcciigdjcnaaGreatDoor
open Go.ChangeShapes Go.WideShapes Go.ChangeAt Go.RowKit Go.Shelf
set_option linter.unusedVariables false
set_option linter.unusedSimpArgs false

set_option maxRecDepth 100000 in
theorem isizeN_any (n : Nat) (w : World) (h2 : n < 64) :
    Calls Tryz.prog 70 #[.int .i64 n] w fun e w' => e = .returned (.int .i64 (cntD n : Nat)) ∧ w = w' := by
  go_enter Tryz.func70, Tryz.ntmps70
  go_wp2
  go_ret
  refine ⟨ret_int ?_, rfl⟩
  clear w
  revert n
  decide +kernel
theorem isize_any (d : Int) (w : World) (h1 : 0 ≤ d) (h2 : d ≤ 63) :
    Calls Tryz.prog 70 #[.int .i64 d] w fun e w' => e = .returned (.int .i64 (cntD d : Nat)) ∧ w = w' := by
  obtain ⟨n, rfl⟩ := Int.eq_ofNat_of_zero_le h1
  exact isizeN_any n w (by omega)

set_option maxRecDepth 100000 in
theorem brv1_any (d : Int) (w : World) (h1 : 0 ≤ d) (h2 : d ≤ 63) :
    Calls Tryz.prog 124 #[.int .i64 d] w fun e w' => e = .returned (.bool (decide (1 < cntD d))) ∧ w = w' := by
  have h6 := cnt_six d
  obtain ⟨c, hc⟩ : ∃ c, c = cntD d := ⟨_, rfl⟩
  have HC := Lib.hid hc
  rw [← hc] at h6 ⊢
  clear hc
  by_cases hcc : 1 < c
  · have hd : decide ((c : Int) > 1) = true := by simp; omega
    rw [decide_eq_true hcc]
    go_enter Tryz.func124, Tryz.ntmps124
    go_wp2_with fail
    refine (isize_any d w h1 h2).mono ?_
    rintro e w' ⟨rfl, rfl⟩
    rw [← HC.out]
    go_wp2
    go_ret
    exact ⟨rfl, rfl⟩
  · have hd : decide ((c : Int) > 1) = false := by simp; omega
    rw [decide_eq_false hcc]
    go_enter Tryz.func124, Tryz.ntmps124
    go_wp2_with fail
    refine (isize_any d w h1 h2).mono ?_
    rintro e w' ⟨rfl, rfl⟩
    rw [← HC.out]
    go_wp2
    go_ret
    exact ⟨rfl, rfl⟩

/-- The branching variable as the program returns it. -/
def bvI (p : List Int) : Int := match brV p with | none => -1 | some v => (v : Nat)
theorem brV_none_of {p : List Int} (h : ∀ j, j < p.length → ¬ 1 < cntD (p[j]?.getD 0)) : brV p = none := by
  unfold brV
  rw [List.findIdx?_eq_none_iff]
  intro x hx
  obtain ⟨j, hj, rfl⟩ := List.mem_iff_getElem.1 hx
  have := h j hj
  rw [List.getElem?_eq_getElem hj] at this
  simpa using this
theorem brV_first {p : List Int} {k : Nat} (hk : k < p.length) (h : ∀ j, j < k → ¬ 1 < cntD (p[j]?.getD 0)) (h2 : 1 < cntD (p[k]?.getD 0)) : brV p = some k := by
  unfold brV
  rw [List.findIdx?_eq_some_iff_getElem]
  refine ⟨hk, ?_, fun q hq => ?_⟩
  · rw [List.getElem?_eq_getElem hk] at h2; simpa using h2
  · have := h q hq
    rw [List.getElem?_eq_getElem (by omega)] at this
    simpa using this

set_option maxRecDepth 100000 in
set_option maxHeartbeats 1000000 in
theorem brvIx_any (xv : Value) (x : List Int) (w : World) (hx : RdInts w xv x) (hs : Small x 0 63) :
    Calls Tryz.prog 123 #[xv, .func (.func 124) #[] #[]] w fun e w' => e = .returned (.int .i64 (bvI x)) ∧ w = w' := by
  have HX := Lib.hid hx
  obtain ⟨ax, cx, e2, _⟩ := hx
  rw [e2] at HX ⊢
  obtain ⟨n, hn⟩ : ∃ n, n = x.length := ⟨_, rfl⟩
  rw [← hn] at HX ⊢
  have HN := Lib.hid hn
  have HS := Lib.hid hs
  clear e2 hn hs
  have hc2 := (rdInts_cap HX.out).2
  go_enter Tryz.func123, Tryz.ntmps123
  go_wp2
  go_loop [8] (fun i => ∃ k : Nat, k ≤ n ∧ i = .int .i64 k ∧ Hid (∀ j, j < k → ¬ 1 < cntD (x[j]?.getD 0))) (fun i => n - (intOf i).toNat)
  case atStart => exact ⟨0, Nat.zero_le _, rfl, fun j hj => by omega⟩
  case round =>
    obtain ⟨k, hk, rfl, HE⟩ := hrel
    by_cases hlt : k < n
    · obtain ⟨b1, o1, rfl, q1⟩ := rdInts_at HX.out hlt
      have hz := HS.out k (by have := HN.out; omega)
      by_cases he : 1 < cntD (x[k]?.getD 0)
      · have HM : Hid (bvI x = (k : Nat)) := Lib.hid (by unfold bvI; rw [brV_first (by have := HN.out; omega) HE.out he])
        have HD := Lib.hid (decide_eq_true he)
        clear he
        go_wp2_with (go_at_call 124; refine (brv1_any _ _ hz.1 hz.2).mono ?_; rintro e w' ⟨rfl, rfl⟩; rw [HD.out])
        go_ret
        exact ⟨ret_int HM.out.symm, rfl⟩
      · have HE2 := Lib.hid he
        have HD := Lib.hid (decide_eq_false he)
        clear he
        go_wp2_with (go_at_call 124; refine (brv1_any _ _ hz.1 hz.2).mono ?_; rintro e w' ⟨rfl, rfl⟩; rw [HD.out])
        go_round
        case rel => exact ⟨k + 1, by omega, by go_num, fun j hj => by by_cases e : j = k; (· subst e; exact HE2.out); (· exact HE.out j (by omega))⟩
        case measure => simp [intOf]; omega
    · obtain rfl : k = n := by omega
      have HM : Hid (bvI x = -1) := Lib.hid (by unfold bvI; rw [brV_none_of (fun j hj => HE.out j (by have := HN.out; omega))])
      clear HE
      go_wp2
      go_ret
      exact ⟨ret_int HM.out.symm, rfl⟩

set_option maxRecDepth 100000 in
theorem ibrV_any (xv : Value) (x : List Int) (w : World) (hx : RdInts w xv x) (hs : Small x 0 63) :
    Calls Tryz.prog 103 #[xv] w fun e w' => e = .returned (.int .i64 (bvI x)) ∧ w = w' := by
  have HC := Lib.hid (brvIx_any xv x w hx hs)
  obtain ⟨ax, cx, e2, -⟩ := id hx
  rw [e2] at HC ⊢
  clear e2 hx hs
  go_enter Tryz.func103, Tryz.ntmps103
  go_wp2_with fail
  refine HC.out.mono ?_
  rintro e w' ⟨rfl, rfl⟩
  go_wp2
  go_ret
  exact ⟨rfl, rfl⟩

theorem and_pow2_fin : ∀ n : Fin 64, ∀ k : Fin 6, hasB (n.val : Int) (k.val : Int) = true → bits .and .i64 ((n.val : Nat) : Int) (wrap64 (2 ^ k.val)) = 2 ^ k.val := by decide +kernel
theorem and_pow2 {d : Int} {a : Nat} (h1 : 0 ≤ d) (h2 : d ≤ 63) (h4 : a < 6) (hh : hasB d a = true) : bits .and .i64 d (wrap64 (2 ^ a)) = 2 ^ a := by
  have := and_pow2_fin ⟨d.toNat, by omega⟩ ⟨a, h4⟩
  simp only [Int.toNat_of_nonneg h1] at this
  exact this hh

set_option maxRecDepth 100000 in
set_option maxHeartbeats 2000000 in
theorem ifixed_any (dv : Value) (p : List Int) (v a : Nat) (w : World) (h : RdInts w dv p) (hs : Small p 0 63) (hl : p.length ≤ 4) (hv : v < p.length) (ha : a < 6) (hh : hasB (p[v]?.getD 0) a = true) :
    Calls Tryz.prog 105 #[dv, .int .i64 v, .int .i64 a] w (IntsPost (p.set v (2 ^ a)) w) := by
  have HC := Lib.hid (icopyInts_any dv p w h (by omega) (by omega))
  have hx := hs v hv
  have HW := Lib.hid (and_pow2 hx.1 hx.2 ha hh)
  obtain ⟨av, cv, e2, -⟩ := id h
  obtain ⟨n, hn⟩ : ∃ n, n = p.length := ⟨_, rfl⟩
  rw [e2] at HC ⊢
  rw [← hn] at HC hl hv ⊢
  have HN := Lib.hid hn
  obtain ⟨x, hxx⟩ : ∃ x, x = p[v]?.getD 0 := ⟨_, rfl⟩
  rw [← hxx] at HW
  have HX := Lib.hid hxx
  clear e2 hn h hs hx hh hxx
  go_enter Tryz.func105, Tryz.ntmps105
  go_wp2_with fail
  refine HC.out.mono ?_
  rintro e w2 ⟨v2, rfl, o2, b2⟩
  obtain ⟨g, cap, eg, hg, -, hc1, hc2⟩ := own_form o2 (by have := HN.out; omega)
  rw [← HN.out] at eg o2 hc1
  subst eg
  have q1 := own_int_at o2 hv
  rw [← HX.out] at q1
  have f1 := o2.frozenAt v
  have o3 := ((own_below o2 (Below.refl _ w2).drew).stored v (.int .i64 (2 ^ a))).1
  rw [← List.map_set] at o3
  have HO3 := Lib.hid o3
  have HB3 := Lib.hid (show Below w.heap.size w (w2.drew.setCell ⟨g, v, none⟩ (.int .i64 (2 ^ a))) from b2.drew.setCell (p := ⟨g, v, none⟩) hg _)
  have HLN : Hid ((p.set v (2 ^ a)).length = n) := Lib.hid (by rw [List.length_set, HN.out])
  clear o2 o3 b2 hg HC
  go_wp2
  go_region
  all_goals rw [HW.out]
  all_goals go_wp2
  all_goals go_ret
  all_goals exact ⟨_, rfl, by rw [HLN.out]; exact HO3.out, HB3.out⟩

/-! ### The values of single domains -/
/-- The library's table of 64 small numbers, read off the given rows. -/
def tab64 : List Int := match (Rows.laid_math_bits_deBruijn64tab : DataW Unit) with
  | .agg l => l.map fun | .lit (.int _ z) => z | _ => 0
  | _ => []
/-- The cells of that table in memory. -/
def Tab64 (w : World) : Prop := ∀ i, i < 64 → w.cell? ⟨1, i, none⟩ = some (.int .u8 (tab64.getD i 0))
theorem Tab64.size {w : World} (h : Tab64 w) : 1 < w.heap.size := World.block_lt_of_cell? w _ (h 0 (by omega))
theorem Tab64.keep {w w' : World} (h : Tab64 w) (hk : w'.heap[1]? = w.heap[1]?) : Tab64 w' := fun i hi => by rw [← h i hi]; simp only [World.cell?, hk]
theorem Tab64.below {w w' : World} {B : Nat} (h : Tab64 w) (hB : 1 < B) (hb : Below B w w') : Tab64 w' := h.keep (hb.block 1 hB)
/-- The smallest value. -/
def low1 (d : Int) : Int := (vL d 6).headD 0
/-- The index that the library computes. -/
def tzI (n : Int) : Int := IntKind.u64.wrap (bits BinOp.and IntKind.u64 n (IntKind.u64.wrap (-n)) * 285870213051353865) / 288230376151711744
theorem tz_fact : ∀ n : Nat, n < 64 → 0 < n → 0 ≤ tzI n ∧ tzI n < 64 ∧ tab64.getD (tzI n).toNat 0 = low1 n := by decide +kernel
theorem low_fact : ∀ n : Nat, n < 64 → 0 < n → 0 ≤ low1 n ∧ low1 n ≤ 5 := by decide +kernel

set_option maxRecDepth 100000 in
set_option maxHeartbeats 1000000 in
theorem tz_any (n : Nat) (w : World) (h : n < 64) (h0 : 0 < n) (hT : Tab64 w) :
    Calls Tryz.prog 94 #[.int .u64 n] w fun e w' => e = .returned (.int .i64 (low1 n)) ∧ w = w' := by
  have hb : ((n : Int) == 0) = false := by simp; omega
  obtain ⟨f1, f2, f3⟩ := tz_fact n h h0
  obtain ⟨i, hi⟩ := Int.eq_ofNat_of_zero_le f1
  have hi' := hi
  unfold tzI at hi'
  rw [hi] at f2 f3
  have hc := hT i (by omega)
  have e3 : tab64.getD i 0 = low1 n := by simpa using f3
  rw [e3] at hc
  have hlow := low_fact n h h0
  clear hT f3 e3 f1 hi
  have hi64 : i < 64 := by omega
  go_enter Tryz.func94, Tryz.ntmps94
  go_wp2
  go_ret
  exact ⟨rfl, rfl⟩
set_option maxRecDepth 100000 in
theorem tz0_any (n : Nat) (w : World) (h : n < 64) (h0 : 0 < n) (hT : Tab64 w) :
    Calls Tryz.prog 71 #[.int .u64 n] w fun e w' => e = .returned (.int .i64 (low1 n)) ∧ w = w' := by
  have HT := Lib.hid hT
  clear hT
  go_enter Tryz.func71, Tryz.ntmps71
  go_wp2_with fail
  refine (tz_any n w h h0 HT.out).mono ?_
  rintro e w' ⟨rfl, rfl⟩
  go_wp2
  go_ret
  exact ⟨rfl, rfl⟩
end Go.Proofs.YtnkbcciigdjcnaaGreatDoor
