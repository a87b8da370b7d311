/- Diagrams: pieces for the laws; the path of an assignment. -/
import Derived.Test.YtjdbfiiaadphhaaDgm
import Derived.Test.YtjdbfiiaadphhaaSolA
import Derived.Test.YtjdbfiiaadphhaaMkC
namespace Go.Proofs.Ytjdbfiiaadphhaa
open Go.ChangeShapes Go.WideShapes Go.ChangeAt Go.RowKit Go.Deep
set_option linter.unusedVariables false
set_option linter.unusedSimpArgs false

theorem R3Le.mono {d : Dg} {a b : Nat} (h : R3Le d a) (hab : a ≤ b) : R3Le d b := ⟨Nat.le_trans h.1 hab, fun j hj => (h.2 j hj).mono hab⟩
theorem rdR3_len {w : World} {a : Option Addr} {n cap : Nat} {d : Dg} (h : RdR3 w (.slice a n cap) d) : d.length = n ∧ n ≤ cap ∧ cap ≤ 9223372036854775807 := by
  obtain ⟨a', cap', e, h1, h2, h3⟩ := h
  simp at e
  obtain ⟨rfl, rfl, rfl⟩ := e
  unfold maxLen at h2
  exact ⟨rfl, h1, by omega⟩
def ShR3 (lo hi : Nat) (w : World) (v : Value) : Prop := True
theorem ShR3.below {lo hi : Nat} {w w' : World} {v : Value} (h : ShR3 lo hi w v) (hb : Below w.heap.size w w') : ShR3 lo hi w' v := trivial
theorem toIntSSS_sh (v : Value) (d : Dg) (w : World) (h : RdR3 w v d) (hx : R3Le d 1048576) :
    Calls Try.prog 20 #[v] w fun e w' => ∃ v', e = .returned v' ∧ RdR3 w' v' d ∧ ShR3 w.heap.size w'.heap.size w' v' ∧ Below w.heap.size w w' :=
  (toIntSSS_any v d w h hx).mono (fun e w' ⟨h1, h2, h3, _⟩ => ⟨_, h1, h2, trivial, h3⟩)
theorem eqIntSSS_sameB (v1 v2 : Value) (d : Dg) (w : World) (h1 : RdR3 w v1 d) (h2 : RdR3 w v2 d) :
    Calls Try.prog 22 #[v1, v2] w (SamePostB w) :=
  (eqIntSSS_same v1 v2 d w h1 h2).mono (fun e w' ⟨he, k, hw⟩ => ⟨he, by rw [hw]; exact below_drewN' (Below.refl _ _) _⟩)
set_option maxRecDepth 100000 in
theorem sVD_any (v : Value) (d : Dg) (w : World) (h : RdR3 w v d) :
    Calls Try.prog 19 #[v] w (BoolPost (dgB d) w) := by
  go_enter Try.func19, Try.ntmps19
  go_wp2_with fail
  refine (svalidDiagram_any _ d _ h).mono ?_
  rintro e w' ⟨rfl, rfl⟩
  go_wp2
  go_ret
  exact ⟨rfl, Below.refl _ _⟩
theorem iVD_any (v : Value) (d : Dg) (w : World) (h : RdR3 w v d) :
    Calls Try.prog 21 #[v] w (BoolPost (dgB d) w) :=
  (iValidDiagram_any v d w h).mono (fun e w' ⟨h1, h2⟩ => ⟨h1, by rw [← h2]; exact Below.refl _ _⟩)

/-- The node at which the path of xs stands ahead of layer k; -1 where an edge is missing. -/
def entD (d : Dg) (k a : Nat) (x : Int) : Int := ((d[k]?.getD [])[a]?.getD [])[x.toNat]?.getD 0
def atD (d : Dg) (xs : List Int) : Nat → Int
  | 0 => 0
  | k + 1 => if 0 ≤ atD d xs k then entD d k (atD d xs k).toNat (xs[k]?.getD 0) else -1
def acB (d : Dg) (xs : List Int) : Bool := dgB d && decide (xs.length = d.length) && allB xs 0 5 && decide (0 ≤ atD d xs d.length)
theorem layB_ent {d : Dg} {k a : Nat} {x : Int} (h : layB d k = true) (ha : a < (d[k]?.getD []).length) (hx : 0 ≤ x) (hx5 : x ≤ 5) :
    ((d[k]?.getD [])[a]?.getD []).length = 6 ∧ -1 ≤ entD d k a x ∧ entD d k a x ≤ (nxtD d k : Int) - 1 := by
  unfold layB at h
  simp only [Bool.and_eq_true] at h
  have hr := h.1
  unfold rowsB at hr
  have hm := List.all_eq_true.1 hr ((d[k]?.getD [])[a]) (List.getElem_mem ha)
  simp only [Bool.and_eq_true, decide_eq_true_eq] at hm
  rw [show (d[k]?.getD [])[a]?.getD [] = (d[k]?.getD [])[a] from by rw [List.getElem?_eq_getElem ha]; rfl]
  have e6 : ((d[k]?.getD [])[a]).length = 6 := by omega
  have := allB_at hm.2 (j := x.toNat) (by omega)
  refine ⟨e6, ?_, ?_⟩
  · unfold entD
    rw [show (d[k]?.getD [])[a]?.getD [] = (d[k]?.getD [])[a] from by rw [List.getElem?_eq_getElem ha]; rfl]
    exact this.1
  · unfold entD
    rw [show (d[k]?.getD [])[a]?.getD [] = (d[k]?.getD [])[a] from by rw [List.getElem?_eq_getElem ha]; rfl]
    exact this.2
theorem atD_neg {d : Dg} {xs : List Int} {k : Nat} (h : atD d xs k < 0) : ∀ j, k ≤ j → atD d xs j < 0 := by
  intro j hj
  induction j with
  | zero =>
    obtain rfl : k = 0 := by omega
    exact h
  | succ j ih =>
    by_cases e : k = j + 1
    · rw [← e]; exact h
    · have := ih (by omega)
      show (if 0 ≤ atD d xs j then _ else (-1 : Int)) < 0
      rw [if_neg (by omega)]
      omega
theorem acB_no {d : Dg} {xs : List Int} {k : Nat} (h : atD d xs k < 0) (hk : k ≤ d.length) : acB d xs = false := by
  have e : decide (0 ≤ atD d xs d.length) = false := decide_eq_false (by have := atD_neg h d.length hk; omega)
  unfold acB
  rw [e, Bool.and_false]
theorem nxtD_lt {d : Dg} {k : Nat} (h : k + 1 < d.length) : nxtD d k = (d[k + 1]?.getD []).length := by unfold nxtD; rw [if_pos h]

set_option maxRecDepth 100000 in
set_option maxHeartbeats 1500000 in
theorem iDA_any (dv xv : Value) (d : Dg) (xs : List Int) (w : World) (h : RdR3 w dv d) (hx : RdInts w xv xs) :
    Calls Try.prog 25 #[dv, xv] w (BoolPost (acB d xs) w) := by
  have H := Lib.hid h
  obtain ⟨a, cap, ev, hl, hm, _⟩ := h
  unfold maxLen at hm
  rw [ev] at H ⊢
  have HX := Lib.hid hx
  obtain ⟨ax, capx, ex, hxl, hxm, _⟩ := hx
  unfold maxLen at hxm
  rw [ex] at HX ⊢
  obtain ⟨n, hn⟩ : ∃ n, n = d.length := ⟨_, rfl⟩
  have HN := Lib.hid hn
  obtain ⟨nx, hnx⟩ : ∃ n, n = xs.length := ⟨_, rfl⟩
  have HNX := Lib.hid hnx
  rw [← hn] at hl H ⊢
  rw [← hnx] at hxl HX ⊢
  clear hn ev hnx ex
  obtain ⟨db, hdb⟩ : ∃ db, db = dgB d := ⟨_, rfl⟩
  obtain ⟨qb, hqb⟩ : ∃ qb, qb = (decide (xs.length = n) && allB xs 0 5) := ⟨_, rfl⟩
  have HVD : Hid (Calls Try.prog 21 #[.slice a n cap] w fun e w' => e = .returned (.bool db) ∧ w = w') := Lib.hid (by rw [hdb]; exact iValidDiagram_any _ d w H.out)
  have HIA : Hid (Calls Try.prog 75 #[.slice ax nx capx, .int .i64 n] w fun e w' => e = .returned (.bool qb) ∧ w = w') := Lib.hid (by rw [hqb]; exact isAssignment_any _ xs n w HX.out (by omega))
  have HDB := Lib.hid hdb
  have HQB := Lib.hid hqb
  clear hdb hqb
  cases db
  · have HF : Hid (acB d xs = false) := Lib.hid (by unfold acB; rw [← HDB.out]; rfl)
    go_enter Try.func25, Try.ntmps25
    go_wp2_with (go_at_call 21; refine HVD.out.mono ?_; rintro e w' ⟨rfl, rfl⟩)
    go_ret
    exact ⟨ret_bool HF.out.symm, Below.refl _ _⟩
  cases qb
  · have HF : Hid (acB d xs = false) := Lib.hid (by unfold acB; rw [← HN.out, ← HDB.out, Bool.true_and, ← HQB.out]; rfl)
    go_enter Try.func25, Try.ntmps25
    go_wp2_with (first | (go_at_call 21; refine HVD.out.mono ?_; rintro e w' ⟨rfl, rfl⟩) | (go_at_call 75; refine HIA.out.mono ?_; rintro e w' ⟨rfl, rfl⟩))
    go_ret
    exact ⟨ret_bool HF.out.symm, Below.refl _ _⟩
  have hq2 := HQB.out.symm
  simp only [Bool.and_eq_true, decide_eq_true_eq] at hq2
  obtain ⟨hp1, hp4, hp0, hpl⟩ := dgB_parts HDB.out.symm
  have HLY := Lib.hid hpl
  have HP0 := Lib.hid hp0
  have HAB := Lib.hid hq2.2
  have hnn : nx = n := by rw [HNX.out]; exact hq2.1
  have HAC : Hid (acB d xs = decide (0 ≤ atD d xs n)) := Lib.hid (by unfold acB; rw [← HDB.out, Bool.true_and, ← HN.out, ← HQB.out, Bool.true_and])
  have hn1 : 1 ≤ n ∧ n ≤ 4 := by rw [HN.out]; exact ⟨hp1, hp4⟩
  subst hnn
  clear hq2 hp1 hp4 hp0 hpl
  go_enter Try.func25, Try.ntmps25
  go_wp2_with (first | (go_at_call 21; refine HVD.out.mono ?_; rintro e w' ⟨rfl, rfl⟩) | (go_at_call 75; refine HIA.out.mono ?_; rintro e w' ⟨rfl, rfl⟩))
  go_loop [5, 20] (fun p i => ∃ (k at' : Nat), k ≤ nx ∧ i = .int .i64 k ∧ p = .int .i64 at' ∧ Hid ((at' : Int) = atD d xs k) ∧ Hid (k < nx → at' < (d[k]?.getD []).length)) (fun _ i => nx - (intOf i).toNat)
  case atStart => exact ⟨0, 0, Nat.zero_le _, rfl, rfl, Lib.hid rfl, Lib.hid (fun _ => by rw [HP0.out]; omega)⟩
  case round =>
    obtain ⟨k, p, hk, rfl, rfl, HA, HB⟩ := hrel
    by_cases hlt : k < nx
    · obtain ⟨b, off, a2, r, c2, rfl, q1, hr, hrc, hc2, hrows⟩ := rdR3_at H.out hlt
      have hpr : p < r := by rw [hr]; exact HB.out hlt
      obtain ⟨b4, o4, a4, rl, c4, rfl, q4, hrl, hr4, hc4, hrow⟩ := rdRows_at' hrows hpr
      obtain ⟨b5, o5, rfl, q5⟩ := rdInts_at HX.out hlt
      obtain ⟨x, hxx⟩ : ∃ x, x = xs[k]?.getD 0 := ⟨_, rfl⟩
      have hxr := allB_at HAB.out (j := k) (by have := HNX.out; omega)
      rw [← hxx] at hxr q5
      obtain ⟨xn, rfl⟩ := Int.eq_ofNat_of_zero_le hxr.1
      have hent := layB_ent (HLY.out k (by have := HN.out; omega)) (show p < (d[k]?.getD []).length by omega) hxr.1 hxr.2
      have hxl6 : xn < rl := by omega
      obtain ⟨b6, o6, rfl, q6⟩ := rdInts_at hrow hxl6
      obtain ⟨y, hy⟩ : ∃ y, y = entD d k p (xn : Int) := ⟨_, rfl⟩
      have hy0 : ((d[k]?.getD [])[p]?.getD [])[xn]?.getD 0 = y := hy.symm
      rw [hy0] at q6
      rw [← hy] at hent
      have HAT : Hid (atD d xs (k + 1) = y) := Lib.hid (by
        show (if 0 ≤ atD d xs k then _ else (-1 : Int)) = y
        rw [← HA.out, if_pos (by omega), ← hxx, hy]
        rfl)
      have hy1 : -1 ≤ y := hent.2.1
      have HY2 := Lib.hid hent.2.2
      clear hent hy hy0 hrows hrow hr hrl hxx hxr
      by_cases hyn : y = -1
      · have HF : Hid (acB d xs = false) := Lib.hid (acB_no (k := k + 1) (by rw [HAT.out]; omega) (by have := HN.out; omega))
        subst hyn
        go_wp2
        go_ret
        exact ⟨ret_bool HF.out.symm, Below.refl _ _⟩
      · obtain ⟨z, rfl⟩ := Int.eq_ofNat_of_zero_le (show 0 ≤ y by omega)
        have hz1 : ((z : Int) == -1) = false := by rw [beq_eq_false_iff_ne]; omega
        have HB2 : Hid (k + 1 < nx → z < (d[k + 1]?.getD []).length) := Lib.hid (fun h => by
          have := HY2.out
          rw [nxtD_lt (by have := HN.out; omega)] at this
          omega)
        clear hyn
        go_wp2
        go_round
        case rel => exact ⟨k + 1, z, by omega, by go_num, rfl, Lib.hid HAT.out.symm, HB2⟩
        case measure => simp [intOf]; omega
    · obtain rfl : k = nx := by omega
      have HF : Hid (acB d xs = true) := Lib.hid (HAC.out.trans (decide_eq_true (by rw [← HA.out]; exact Int.natCast_nonneg _)))
      go_wp2
      go_ret
      exact ⟨ret_bool HF.out.symm, Below.refl _ _⟩
set_option maxRecDepth 100000 in
set_option maxHeartbeats 1500000 in
theorem sDA_any (dv xv : Value) (d : Dg) (xs : List Int) (w : World) (h : RdR3 w dv d) (hx : RdInts w xv xs) :
    Calls Try.prog 23 #[dv, xv] w (BoolPost (acB d xs) w) := by
  have H := Lib.hid h
  obtain ⟨a, cap, ev, hl, hm, _⟩ := h
  unfold maxLen at hm
  rw [ev] at H ⊢
  have HX := Lib.hid hx
  obtain ⟨ax, capx, ex, hxl, hxm, _⟩ := hx
  unfold maxLen at hxm
  rw [ex] at HX ⊢
  obtain ⟨n, hn⟩ : ∃ n, n = d.length := ⟨_, rfl⟩
  have HN := Lib.hid hn
  obtain ⟨nx, hnx⟩ : ∃ n, n = xs.length := ⟨_, rfl⟩
  have HNX := Lib.hid hnx
  rw [← hn] at hl H ⊢
  rw [← hnx] at hxl HX ⊢
  clear hn ev hnx ex
  obtain ⟨db, hdb⟩ : ∃ db, db = dgB d := ⟨_, rfl⟩
  obtain ⟨qb, hqb⟩ : ∃ qb, qb = allB xs 0 5 := ⟨_, rfl⟩
  have HVD : Hid (Calls Try.prog 68 #[.slice a n cap] w fun e w' => e = .returned (.bool db) ∧ w = w') := Lib.hid (by rw [hdb]; exact svalidDiagram_any _ d w H.out)
  have HIA : Hid (Calls Try.prog 74 #[.slice ax nx capx, .int .i64 0, .int .i64 5] w fun e w' => e = .returned (.bool qb) ∧ w = w') := Lib.hid (by rw [hqb]; exact allInRange_any _ xs 0 5 w HX.out)
  have HDB := Lib.hid hdb
  have HQB := Lib.hid hqb
  clear hdb hqb
  cases db
  · have HF : Hid (acB d xs = false) := Lib.hid (by unfold acB; rw [← HDB.out]; rfl)
    go_enter Try.func23, Try.ntmps23
    go_wp2_with (go_at_call 68; refine HVD.out.mono ?_; rintro e w' ⟨rfl, rfl⟩)
    go_ret
    exact ⟨ret_bool HF.out.symm, Below.refl _ _⟩
  by_cases hln : nx = n
  rotate_left
  · have HF : Hid (acB d xs = false) := Lib.hid (by
      have e : decide (xs.length = d.length) = false := decide_eq_false (by have := HNX.out; have := HN.out; omega)
      unfold acB
      rw [e, Bool.and_false, Bool.false_and, Bool.false_and])
    have hb : ((nx : Int) != (n : Int)) = true := by simp; omega
    go_enter Try.func23, Try.ntmps23
    go_wp2_with (go_at_call 68; refine HVD.out.mono ?_; rintro e w' ⟨rfl, rfl⟩)
    go_ret
    exact ⟨ret_bool HF.out.symm, Below.refl _ _⟩
  subst hln
  have hb : ((nx : Int) != (nx : Int)) = false := by simp
  cases qb
  · have HF : Hid (acB d xs = false) := Lib.hid (by unfold acB; rw [← HDB.out, ← HQB.out, Bool.and_false, Bool.false_and])
    go_enter Try.func23, Try.ntmps23
    go_wp2_with (first | (go_at_call 68; refine HVD.out.mono ?_; rintro e w' ⟨rfl, rfl⟩) | (go_at_call 74; refine HIA.out.mono ?_; rintro e w' ⟨rfl, rfl⟩))
    go_ret
    exact ⟨ret_bool HF.out.symm, Below.refl _ _⟩
  have hq2 := HQB.out.symm
  obtain ⟨hp1, hp4, hp0, hpl⟩ := dgB_parts HDB.out.symm
  have HLY := Lib.hid hpl
  have HP0 := Lib.hid hp0
  have HAB := Lib.hid hq2
  have HAC : Hid (acB d xs = decide (0 ≤ atD d xs nx)) := Lib.hid (by
    have e : decide (xs.length = d.length) = true := decide_eq_true (by have := HNX.out; have := HN.out; omega)
    unfold acB
    rw [← HDB.out, e, ← HN.out, ← HQB.out]
    rfl)
  have hn1 : 1 ≤ nx ∧ nx ≤ 4 := by rw [HN.out]; exact ⟨hp1, hp4⟩
  clear hq2 hp1 hp4 hp0 hpl
  go_enter Try.func23, Try.ntmps23
  go_wp2_with (first | (go_at_call 68; refine HVD.out.mono ?_; rintro e w' ⟨rfl, rfl⟩) | (go_at_call 74; refine HIA.out.mono ?_; rintro e w' ⟨rfl, rfl⟩))
  go_loopw [5, 6] (fun p i wr => ∃ (k at' nq : Nat), k ≤ nx ∧ i = .int .i64 k ∧ p = .int .i64 at' ∧ Hid ((at' : Int) = atD d xs k) ∧ Hid (k < nx → at' < (d[k]?.getD []).length) ∧ wr = w.drewN nq) (fun _ i _ => nx - (intOf i).toNat)
  case atStart => exact ⟨0, 0, 0, Nat.zero_le _, rfl, rfl, Lib.hid rfl, Lib.hid (fun _ => by rw [HP0.out]; omega), rfl⟩
  case round =>
    obtain ⟨k, p, nq, hk, rfl, rfl, HA, HB, rfl⟩ := hrel
    by_cases hlt : k < nx
    · obtain ⟨b, off, a2, r, c2, rfl, q1, hr, hrc, hc2, hrows⟩ := rdR3_at H.out hlt
      have hpr : p < r := by rw [hr]; exact HB.out hlt
      obtain ⟨b4, o4, a4, rl, c4, rfl, q4, hrl, hr4, hc4, hrow⟩ := rdRows_at' hrows hpr
      obtain ⟨b5, o5, rfl, q5⟩ := rdInts_at HX.out hlt
      obtain ⟨x, hxx⟩ : ∃ x, x = xs[k]?.getD 0 := ⟨_, rfl⟩
      have hxr := allB_at HAB.out (j := k) (by have := HNX.out; omega)
      rw [← hxx] at hxr q5
      obtain ⟨xn, rfl⟩ := Int.eq_ofNat_of_zero_le hxr.1
      have hent := layB_ent (HLY.out k (by have := HN.out; omega)) (show p < (d[k]?.getD []).length by omega) hxr.1 hxr.2
      have hxl6 : xn < rl := by omega
      obtain ⟨b6, o6, rfl, q6⟩ := rdInts_at hrow hxl6
      obtain ⟨y, hy⟩ : ∃ y, y = entD d k p (xn : Int) := ⟨_, rfl⟩
      have hy0 : ((d[k]?.getD [])[p]?.getD [])[xn]?.getD 0 = y := hy.symm
      rw [hy0] at q6
      rw [← hy] at hent
      have HAT : Hid (atD d xs (k + 1) = y) := Lib.hid (by
        show (if 0 ≤ atD d xs k then _ else (-1 : Int)) = y
        rw [← HA.out, if_pos (by omega), ← hxx, hy]
        rfl)
      have hy1 : -1 ≤ y := hent.2.1
      have HY2 := Lib.hid hent.2.2
      clear hent hy hy0 hrows hrow hr hrl hxx hxr
      have hyl : decide (y < 0) = decide (y < 0) := rfl
      clear hyl
      by_cases hyn : y = -1
      · have HF : Hid (acB d xs = false) := Lib.hid (acB_no (k := k + 1) (by rw [HAT.out]; omega) (by have := HN.out; omega))
        subst hyn
        go_wp2_with fail
        go_quiet (fail)
        go_wp2
        go_ret
        exact ⟨ret_bool HF.out.symm, below_drewN' (Below.refl _ _) _⟩
      · obtain ⟨z, rfl⟩ := Int.eq_ofNat_of_zero_le (show 0 ≤ y by omega)
        have hz1 : ((z : Int) == -1) = false := by rw [beq_eq_false_iff_ne]; omega
        have HB2 : Hid (k + 1 < nx → z < (d[k + 1]?.getD []).length) := Lib.hid (fun h => by
          have := HY2.out
          rw [nxtD_lt (by have := HN.out; omega)] at this
          omega)
        clear hyn hz1
        go_wp2_with fail
        go_quiet (fail)
        go_wp2
        go_roundw
        case rel => exact ⟨k + 1, z, _, by omega, by go_num, rfl, Lib.hid HAT.out.symm, HB2, rfl⟩
        case measure => simp [intOf]; omega
    · obtain rfl : k = nx := by omega
      have HF : Hid (acB d xs = true) := Lib.hid (HAC.out.trans (decide_eq_true (by rw [← HA.out]; exact Int.natCast_nonneg _)))
      go_wp2
      go_ret
      exact ⟨ret_bool HF.out.symm, below_drewN' (Below.refl _ _) _⟩
end Go.Proofs.Ytjdbfiiaadphhaa
