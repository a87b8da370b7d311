/- The reference's tests of capacity and of acceptance. The reference's test of satisfaction, kind by kind. -/
import Derived.Test.YtipapmmjfoaddaaSatP

/-! The reference's tests of capacity and of acceptance. -/
namespace Go.Proofs.Ytipapmmjfoaddaa
open Go.ChangeShapes Go.WideShapes Go.ChangeAt Go.RowKit
set_option linter.unusedVariables false
set_option linter.unusedSimpArgs false

theorem loadS_yes {ar xs : List Int} {n : Nat} {t : Int} {k : Nat} (h1 : xs[k]?.getD 0 ≤ t) (h2 : t < xs[k]?.getD 0 + ar[k]?.getD 0) : loadS ar xs n t (k + 1) = loadS ar xs n t k + ar[n + k]?.getD 0 := by rw [loadS, if_pos ⟨h1, h2⟩]
theorem loadS_no {ar xs : List Int} {n : Nat} {t : Int} {k : Nat} (h : ¬ (xs[k]?.getD 0 ≤ t ∧ t < xs[k]?.getD 0 + ar[k]?.getD 0)) : loadS ar xs n t (k + 1) = loadS ar xs n t k := by rw [loadS, if_neg h]
theorem runS_bnd {rows : List (List Int)} {x : List Int} (h1 : 1 ≤ rows.length) (hrow : ∀ j, j < rows.length → (rows[j]?.getD []).length = 6 ∧ Small (rows[j]?.getD []) (-1) (rows.length - 1)) (hv : Small x 0 5) (q : Nat) (hq : q ≤ x.length) (h : ∀ j, j < q → 0 ≤ runS rows x j) : -1 ≤ runS rows x q ∧ runS rows x q ≤ rows.length - 1 := by
  induction q with
  | zero => simp [runS]; omega
  | succ q ih =>
    have i := ih (by omega) (fun j hj => h j (by omega))
    have j := h q (by omega)
    have y := hv q (by omega)
    obtain ⟨l, s⟩ := hrow (runS rows x q).toNat (by omega)
    have := s (x[q]?.getD 0).toNat (by omega)
    rw [runS]
    exact this

set_option maxRecDepth 100000 in
set_option maxHeartbeats 2000000 in
theorem withinCapacity_any (c : Con) (cv xv : Value) (x : List Int) (w : World) (h : RdCon w cv c) (hx : RdInts w xv x) (hl : c.args.length = 2 * x.length) (hn4 : x.length ≤ 4) (ha : Small c.args 0 9) (hv : Small x 0 5) :
    Calls Try.prog 140 #[cv, xv] w (BoolPost (decide (∀ t : Nat, t < 15 → loadS c.args x x.length t x.length ≤ c.bound)) w) := by
  obtain ⟨a2, a3, a5, c2, c3, c5, rfl, h2, h3, h5⟩ := rdCon_slices h
  obtain ⟨ax, cx, ev, -⟩ := id hx
  rw [ev] at hx ⊢
  obtain ⟨W1, hW1⟩ : ∃ W1, w.alloc (.cells #[.int .i64 c.kind, .slice a2 c.vars.length c2, .slice a3 c.args.length c3, .int .i64 c.bound, .slice a5 c.rows.length c5] 82) = W1 := ⟨_, rfl⟩
  have B1 : Below w.heap.size w W1 := by rw [← hW1]; exact (Below.refl _ _).alloc (Nat.le_refl _) _
  have bP : Blk5 W1 w.heap.size 82 (.int .i64 c.kind) (.slice a2 c.vars.length c2) (.slice a3 c.args.length c3) (.int .i64 c.bound) (.slice a5 c.rows.length c5) := by rw [← hW1]; exact Blk5.new w _ _ _ _ _ _
  have HC := Lib.hid (h.below B1)
  have HX := Lib.hid (hx.below B1)
  have HA := Lib.hid (h3.below B1)
  have HR := Lib.hid (h5.below B1)
  have HB1 := Lib.hid B1
  have HW := Lib.hid hW1
  have HP := Lib.hid bP
  obtain ⟨n, hn⟩ : ∃ n, n = x.length := ⟨_, rfl⟩
  have HN := Lib.hid hn
  rw [← hn] at HX ⊢
  have hca := (rdInts_cap HA.out).2
  have hcx := (rdInts_cap HX.out).2
  have hcr := (rdRows_cap HR.out).2
  clear h hx h2 h3 h5 hW1 B1 bP ev hn
  obtain ⟨p0, p1, p2, p3, p4⟩ := HP.out.cell
  go_enter Try.func140, Try.ntmps140
  have hn5 : n ≤ 4 := by have := HN.out; omega
  have l1 : c.args.length ≤ 2 * n := by have := HN.out; omega
  have l2 : 2 * n ≤ c.args.length := by have := HN.out; omega
  have HS := Lib.hid (fun (t : Int) (k : Nat) (hk : k ≤ n) => loadS_le (xs := x) (n := n) ha (by omega) t k hk)
  have HAL := Lib.hid ha
  have HVL := Lib.hid hv
  clear ha hv hl hn4
  go_wp2
  rw [HW.out]
  go_loopw [6] (fun t wr => ∃ k nq : Nat, k ≤ 15 ∧ t = .int .i64 k ∧ Hid (∀ j : Nat, j < k → loadS c.args x n j n ≤ c.bound) ∧ wr = W1.drewN nq) (fun t _ => 15 - (intOf t).toNat)
  case atStart => exact ⟨0, 0, Nat.zero_le _, rfl, fun j hj => by omega, rfl⟩
  case round =>
    obtain ⟨k, nq, hk, rfl, HE, rfl⟩ := hrel
    by_cases hlt : k < 15
    · go_wp2
      go_loopw [7, 8] (fun s i wr => ∃ q nq : Nat, q ≤ n ∧ i = .int .i64 q ∧ s = .int .i64 (loadS c.args x n k q) ∧ wr = W1.drewN nq) (fun _ i _ => n - (intOf i).toNat)
      case atStart => exact ⟨0, nq, Nat.zero_le _, rfl, rfl, rfl⟩
      case round =>
        obtain ⟨q, nq, hq, rfl, rfl, rfl⟩ := hrel
        have s1 := HS.out k q hq
        by_cases hlt2 : q < n
        · obtain ⟨b1, o1, rfl, q1⟩ := rdInts_at HA.out (i := q) (by omega)
          obtain ⟨b3, o3, e3, q3⟩ := rdInts_at HA.out (i := n + q) (by omega)
          simp at e3
          obtain ⟨rfl, rfl⟩ := e3
          obtain ⟨b2, o2, rfl, q2⟩ := rdInts_at HX.out hlt2
          have g1 := HAL.out q (by omega)
          have g2 := HAL.out (n + q) (by omega)
          have g3 := HVL.out q (by have := HN.out; omega)
          by_cases hd1 : x[q]?.getD 0 ≤ (k : Int)
          · by_cases hd2 : (k : Int) < x[q]?.getD 0 + c.args[q]?.getD 0
            · have hb1 : decide (x[q]?.getD 0 ≤ (k : Int)) = true := decide_eq_true hd1
              have hb2 : decide ((k : Int) < x[q]?.getD 0 + c.args[q]?.getD 0) = true := decide_eq_true hd2
              have HT := Lib.hid (loadS_yes (n := n) hd1 hd2)
              go_wp2_with fail
              go_quiet (fail)
              go_wp2
              go_roundw
              case rel => exact ⟨q + 1, _, by omega, by go_num, by rw [HT.out], rfl⟩
              case measure => simp [intOf]; omega
            · have hb1 : decide (x[q]?.getD 0 ≤ (k : Int)) = true := decide_eq_true hd1
              have hb2 : decide ((k : Int) < x[q]?.getD 0 + c.args[q]?.getD 0) = false := decide_eq_false hd2
              have HT := Lib.hid (loadS_no (n := n) (fun h => hd2 h.2))
              clear hd2
              go_wp2_with fail
              go_quiet (fail)
              go_wp2
              go_roundw
              case rel => exact ⟨q + 1, _, by omega, by go_num, by rw [HT.out], rfl⟩
              case measure => simp [intOf]; omega
          · have hb1 : decide (x[q]?.getD 0 ≤ (k : Int)) = false := decide_eq_false hd1
            have HT := Lib.hid (loadS_no (ar := c.args) (n := n) (fun h => hd1 h.1))
            clear hd1
            go_wp2_with fail
            go_quiet (fail)
            go_wp2
            go_roundw
            case rel => exact ⟨q + 1, _, by omega, by go_num, by rw [HT.out], rfl⟩
            case measure => simp [intOf]; omega
        · obtain rfl : q = n := by omega
          by_cases hb : loadS c.args x q k q ≤ c.bound
          · have HT := Lib.hid hb
            go_wp2
            go_roundw
            case rel => exact ⟨k + 1, _, by omega, by go_num, fun j hj => by by_cases e : j = k; (· subst e; exact HT.out); (· exact HE.out j (by omega)), rfl⟩
            case measure => simp [intOf]; omega
          · have HF := Lib.hid (decide_eq_false (fun h : ∀ t : Nat, t < 15 → loadS c.args x q t q ≤ c.bound => hb (h k hlt)))
            go_wp2
            go_ret
            exact ⟨ret_bool HF.out.symm, below_drewN' HB1.out _⟩
    · obtain rfl : k = 15 := by omega
      have HF := Lib.hid (decide_eq_true (fun t ht => HE.out t ht : ∀ t : Nat, t < 15 → loadS c.args x n t n ≤ c.bound))
      go_wp2
      go_ret
      exact ⟨ret_bool HF.out.symm, below_drewN' HB1.out _⟩

set_option maxRecDepth 100000 in
set_option maxHeartbeats 2000000 in
theorem accepts_any (c : Con) (cv xv : Value) (x : List Int) (w : World) (h : RdCon w cv c) (hx : RdInts w xv x) (hr8 : 1 ≤ c.rows.length ∧ c.rows.length ≤ 8) (hn4 : x.length ≤ 4) (hrow : ∀ j, j < c.rows.length → (c.rows[j]?.getD []).length = 6 ∧ Small (c.rows[j]?.getD []) (-1) (c.rows.length - 1)) (hv : Small x 0 5) :
    Calls Try.prog 141 #[cv, xv] w (BoolPost (decide (∀ j : Nat, j ≤ x.length → 0 ≤ runS c.rows x j) && decide (runS c.rows x x.length ∈ c.args)) w) := by
  obtain ⟨a2, a3, a5, c2, c3, c5, rfl, h2, h3, h5⟩ := rdCon_slices h
  obtain ⟨ax, cx, ev, -⟩ := id hx
  rw [ev] at hx ⊢
  obtain ⟨W1, hW1⟩ : ∃ W1, w.alloc (.cells #[.int .i64 c.kind, .slice a2 c.vars.length c2, .slice a3 c.args.length c3, .int .i64 c.bound, .slice a5 c.rows.length c5] 82) = W1 := ⟨_, rfl⟩
  have B1 : Below w.heap.size w W1 := by rw [← hW1]; exact (Below.refl _ _).alloc (Nat.le_refl _) _
  have bP : Blk5 W1 w.heap.size 82 (.int .i64 c.kind) (.slice a2 c.vars.length c2) (.slice a3 c.args.length c3) (.int .i64 c.bound) (.slice a5 c.rows.length c5) := by rw [← hW1]; exact Blk5.new w _ _ _ _ _ _
  have HC := Lib.hid (h.below B1)
  have HX := Lib.hid (hx.below B1)
  have HA := Lib.hid (h3.below B1)
  have HR := Lib.hid (h5.below B1)
  have HB1 := Lib.hid B1
  have HW := Lib.hid hW1
  have HP := Lib.hid bP
  obtain ⟨n, hn⟩ : ∃ n, n = x.length := ⟨_, rfl⟩
  have HN := Lib.hid hn
  rw [← hn] at HX ⊢
  have hca := (rdInts_cap HA.out).2
  have hcx := (rdInts_cap HX.out).2
  have hcr := (rdRows_cap HR.out).2
  clear h hx h2 h3 h5 hW1 B1 bP ev hn
  obtain ⟨p0, p1, p2, p3, p4⟩ := HP.out.cell
  go_enter Try.func141, Try.ntmps141
  have hn5 : n ≤ 4 := by have := HN.out; omega
  have HVL := Lib.hid hv
  have HRW := Lib.hid hrow
  have HRB := Lib.hid (runS_bnd hr8.1 hrow hv)
  obtain ⟨m, hm⟩ : ∃ m, m = c.rows.length := ⟨_, rfl⟩
  rw [← hm] at HR HW hr8 p4 hcr ⊢
  have HM := Lib.hid hm
  obtain ⟨la, hla⟩ : ∃ la, la = c.args.length := ⟨_, rfl⟩
  rw [← hla] at HA HW p2 hca ⊢
  have HLA := Lib.hid hla
  clear hv hrow hn4 hm hla
  obtain ⟨hm1, hm8⟩ := hr8
  go_wp2
  rw [HW.out]
  go_loopw [5, 6] (fun s i wr => ∃ q nq st : Nat, q ≤ n ∧ i = .int .i64 q ∧ s = .int .i64 st ∧ st < m ∧ Hid (runS c.rows x q = st) ∧ Hid (∀ j, j ≤ q → 0 ≤ runS c.rows x j) ∧ wr = W1.drewN nq) (fun _ i _ => n - (intOf i).toNat)
  case atStart => exact ⟨0, 0, 0, Nat.zero_le _, rfl, rfl, by omega, Lib.hid rfl, Lib.hid (fun j hj => by rw [show j = 0 from by omega]; simp [runS]), rfl⟩
  case round =>
    obtain ⟨q, nq, st, hq, rfl, rfl, hst, HG, HE, rfl⟩ := hrel
    by_cases hlt : q < n
    · obtain ⟨b1, o1, a1, c1, rfl, q1, r1⟩ := rdRows_at HR.out hst
      obtain ⟨r, hr⟩ : ∃ r, r = c.rows[st]?.getD [] := ⟨_, rfl⟩
      have hrl : r.length = 6 := by rw [hr]; exact (HRW.out st (by have := HM.out; omega)).1
      rw [← hr] at q1 r1
      rw [hrl] at q1 r1
      obtain ⟨b2, o2, rfl, q2⟩ := rdInts_at HX.out hlt
      have g3 := HVL.out q (by have := HN.out; omega)
      obtain ⟨z, hz⟩ : ∃ z : Nat, x[q]?.getD 0 = (z : Int) := ⟨(x[q]?.getD 0).toNat, by omega⟩
      rw [hz] at q2 g3
      obtain ⟨b3, o3, rfl, q3⟩ := rdInts_at r1 (i := z) (by omega)
      obtain ⟨y, hy⟩ : ∃ y, y = r[z]?.getD 0 := ⟨_, rfl⟩
      rw [← hy] at q3
      have HY : Hid (runS c.rows x (q + 1) = y) := Lib.hid (by rw [runS, HG.out, hz, hy, hr]; rfl)
      have hyb := HRB.out (q + 1) (by have := HN.out; omega) (fun j hj => HE.out j (by omega))
      rw [HY.out, ← HM.out] at hyb
      have hc3 := (rdInts_cap r1).2
      clear hr hrl hz hy r1
      by_cases hneg : y < 0
      · have HF : Hid ((decide (∀ j, j ≤ n → 0 ≤ runS c.rows x j) && decide (runS c.rows x n ∈ c.args)) = false) := Lib.hid (by
          rw [decide_eq_false (fun h => by have := h (q + 1) (by omega); rw [HY.out] at this; omega)]; rfl)
        go_wp2_with fail
        go_quiet (fail)
        go_wp2
        go_ret
        exact ⟨ret_bool HF.out.symm, below_drewN' HB1.out _⟩
      · obtain ⟨s', hs'⟩ : ∃ s' : Nat, y = s' := ⟨y.toNat, by omega⟩
        subst hs'
        go_wp2_with fail
        go_quiet (fail)
        go_wp2
        go_roundw
        case rel => exact ⟨q + 1, _, s', by omega, by go_num, rfl, by omega, HY, Lib.hid (fun j hj => by by_cases e : j = q + 1; (· subst e; rw [HY.out]; omega); (· exact HE.out j (by omega))), rfl⟩
        case measure => simp [intOf]; omega
    · obtain rfl : q = n := by omega
      have HD := Lib.hid (decide_eq_true (fun j hj => HE.out j hj : ∀ j, j ≤ q → 0 ≤ runS c.rows x j))
      clear HE
      go_wp2
      go_loop [7] (fun i => ∃ k : Nat, k ≤ la ∧ i = .int .i64 k ∧ Hid (∀ j, j < k → c.args[j]?.getD 0 ≠ (st : Int))) (fun i => la - (intOf i).toNat)
      case atStart => exact ⟨0, Nat.zero_le _, rfl, fun j hj => by omega⟩
      case round =>
        obtain ⟨k, hk, rfl, HE⟩ := hrel
        by_cases hlt2 : k < la
        · obtain ⟨b1, o1, rfl, q1⟩ := rdInts_at HA.out hlt2
          by_cases he : c.args[k]?.getD 0 = (st : Int)
          · have hb : (c.args[k]?.getD 0 == (st : Int)) = true := by simp [he]
            have HF : Hid ((decide (∀ j, j ≤ q → 0 ≤ runS c.rows x j) && decide (runS c.rows x q ∈ c.args)) = true) := Lib.hid (by
              have hk' : k < c.args.length := by have := HLA.out; omega
              rw [HD.out, HG.out, ← he, List.getElem?_eq_getElem hk']; simp)
            clear he
            go_wp2
            go_ret
            exact ⟨ret_bool HF.out.symm, below_drewN' HB1.out _⟩
          · have hb : (c.args[k]?.getD 0 == (st : Int)) = false := by simp [he]
            have HE2 := Lib.hid he
            clear he
            go_wp2
            go_round
            case rel => exact ⟨k + 1, by omega, by go_num, fun j hj => by by_cases e : j = k; (· subst e; exact HE2.out); (· exact HE.out j (by omega))⟩
            case measure => simp [intOf]; omega
        · have HF : Hid ((decide (∀ j, j ≤ q → 0 ≤ runS c.rows x j) && decide (runS c.rows x q ∈ c.args)) = false) := Lib.hid (by
            rw [HD.out, HG.out, decide_eq_false (fun hm => by
              obtain ⟨j, hj, e⟩ := List.mem_iff_getElem.1 hm
              exact HE.out j (by have := HLA.out; omega) (by rw [List.getElem?_eq_getElem hj]; exact e))]; rfl)
          obtain rfl : k = la := by omega
          go_wp2
          go_ret
          exact ⟨ret_bool HF.out.symm, below_drewN' HB1.out _⟩

end Go.Proofs.Ytipapmmjfoaddaa

/-! The reference's test of satisfaction, kind by kind. -/
namespace Go.Proofs.Ytipapmmjfoaddaa
open Go.ChangeShapes Go.WideShapes Go.ChangeAt Go.RowKit
set_option linter.unusedVariables false
set_option linter.unusedSimpArgs false

set_option maxRecDepth 100000 in
set_option maxHeartbeats 2000000 in
theorem ssat1 (c : Con) (cv xv : Value) (x : List Int) (w : World) (h : RdCon w cv c) (hx : RdInts w xv x) (hk : c.kind = 1) (hl : c.args.length = x.length) (hn4 : x.length ≤ 4) (ha : Small c.args (-9) 9) (hv : Small x 0 5) :
    Calls Try.prog 126 #[cv, xv] w (BoolPost (decide (linS c.args x x.length ≤ c.bound)) w) := by
  obtain ⟨a2, a3, a5, c2, c3, c5, rfl, h2, h3, h5⟩ := rdCon_slices h
  obtain ⟨ax, cx, ev, -⟩ := id hx
  rw [ev] at hx ⊢
  obtain ⟨W1, hW1⟩ : ∃ W1, w.alloc (.cells #[.int .i64 c.kind, .slice a2 c.vars.length c2, .slice a3 c.args.length c3, .int .i64 c.bound, .slice a5 c.rows.length c5] 82) = W1 := ⟨_, rfl⟩
  have B1 : Below w.heap.size w W1 := by rw [← hW1]; exact (Below.refl _ _).alloc (Nat.le_refl _) _
  have bP : Blk5 W1 w.heap.size 82 (.int .i64 c.kind) (.slice a2 c.vars.length c2) (.slice a3 c.args.length c3) (.int .i64 c.bound) (.slice a5 c.rows.length c5) := by rw [← hW1]; exact Blk5.new w _ _ _ _ _ _
  have HC := Lib.hid (h.below B1)
  have HX := Lib.hid (hx.below B1)
  have HA := Lib.hid (h3.below B1)
  have HR := Lib.hid (h5.below B1)
  have HB1 := Lib.hid B1
  have HW := Lib.hid hW1
  rw [hk] at bP HW HC ⊢
  clear hk
  have HP := Lib.hid bP
  obtain ⟨n, hn⟩ : ∃ n, n = x.length := ⟨_, rfl⟩
  have HN := Lib.hid hn
  rw [← hn] at HX ⊢
  have hca := (rdInts_cap HA.out).2
  have hcx := (rdInts_cap HX.out).2
  have hcr := (rdRows_cap HR.out).2
  clear h hx h2 h3 h5 hW1 B1 bP ev hn
  obtain ⟨p0, p1, p2, p3, p4⟩ := HP.out.cell
  go_enter Try.func126, Try.ntmps126
  have HS := Lib.hid (linS_le ha hv hl)
  have HAL := Lib.hid ha
  have HVL := Lib.hid hv
  have hln : c.args.length = n := by have := HN.out; omega
  have hn5 : n ≤ 4 := by have := HN.out; omega
  have HLN := Lib.hid hln
  rw [hln] at HA HW p2 hca ⊢
  clear ha hv hl hn4 hln
  go_wp2
  rw [HW.out]
  go_loopw [5, 6] (fun s i wr => ∃ k nq : Nat, k ≤ n ∧ i = .int .i64 k ∧ s = .int .i64 (linS c.args x k) ∧ wr = W1.drewN nq) (fun _ i _ => n - (intOf i).toNat)
  case atStart => exact ⟨0, 0, Nat.zero_le _, rfl, rfl, rfl⟩
  case round =>
    obtain ⟨k, nq, hk, rfl, rfl, rfl⟩ := hrel
    have s1 := HS.out k (by have := HN.out; omega)
    by_cases hlt : k < n
    · obtain ⟨b1, o1, rfl, q1⟩ := rdInts_at HA.out hlt
      obtain ⟨b2, o2, rfl, q2⟩ := rdInts_at HX.out hlt
      have a1 := HAL.out k (by have := HLN.out; omega)
      have a2 := HVL.out k (by have := HN.out; omega)
      have m1 := mul_small a1.1 a1.2 a2.1 a2.2
      go_wp2_with fail
      go_quiet (fail)
      go_wp2
      go_roundw
      case rel => exact ⟨k + 1, _, by omega, by go_num, rfl, rfl⟩
      case measure => simp [intOf]; omega
    · obtain rfl : k = n := by omega
      go_wp2
      go_ret
      exact ⟨ret_bool (by rw [HN.out]), below_drewN' HB1.out _⟩

set_option maxRecDepth 100000 in
set_option maxHeartbeats 2000000 in
theorem ssat2 (c : Con) (cv xv : Value) (x : List Int) (w : World) (h : RdCon w cv c) (hx : RdInts w xv x) (hk : c.kind = 2) (hl : c.args.length = 1) (hn2 : x.length = 2) (ha : Small c.args (-9) 9) (hv : Small x 0 5) :
    Calls Try.prog 126 #[cv, xv] w (BoolPost (x[0]?.getD 0 != x[1]?.getD 0 + c.args[0]?.getD 0) w) := by
  obtain ⟨a2, a3, a5, c2, c3, c5, rfl, h2, h3, h5⟩ := rdCon_slices h
  obtain ⟨ax, cx, ev, -⟩ := id hx
  rw [ev] at hx ⊢
  obtain ⟨W1, hW1⟩ : ∃ W1, w.alloc (.cells #[.int .i64 c.kind, .slice a2 c.vars.length c2, .slice a3 c.args.length c3, .int .i64 c.bound, .slice a5 c.rows.length c5] 82) = W1 := ⟨_, rfl⟩
  have B1 : Below w.heap.size w W1 := by rw [← hW1]; exact (Below.refl _ _).alloc (Nat.le_refl _) _
  have bP : Blk5 W1 w.heap.size 82 (.int .i64 c.kind) (.slice a2 c.vars.length c2) (.slice a3 c.args.length c3) (.int .i64 c.bound) (.slice a5 c.rows.length c5) := by rw [← hW1]; exact Blk5.new w _ _ _ _ _ _
  have HC := Lib.hid (h.below B1)
  have HX := Lib.hid (hx.below B1)
  have HA := Lib.hid (h3.below B1)
  have HR := Lib.hid (h5.below B1)
  have HB1 := Lib.hid B1
  have HW := Lib.hid hW1
  rw [hk] at bP HW HC ⊢
  clear hk
  have HP := Lib.hid bP
  obtain ⟨n, hn⟩ : ∃ n, n = x.length := ⟨_, rfl⟩
  have HN := Lib.hid hn
  rw [← hn] at HX ⊢
  have hca := (rdInts_cap HA.out).2
  have hcx := (rdInts_cap HX.out).2
  have hcr := (rdRows_cap HR.out).2
  clear h hx h2 h3 h5 hW1 B1 bP ev hn
  obtain ⟨p0, p1, p2, p3, p4⟩ := HP.out.cell
  go_enter Try.func126, Try.ntmps126
  have hn5 : n = 2 := by have := HN.out; omega
  have a1 := ha 0 (by omega)
  have y0 := hv 0 (by omega)
  have y1 := hv 1 (by omega)
  rw [hl] at HA HW p2 hca ⊢
  obtain ⟨b1, o1, rfl, q1⟩ := rdInts_at HA.out (i := 0) (by omega)
  rw [Nat.add_zero] at q1
  obtain ⟨b2, o2, rfl, q2⟩ := rdInts_at HX.out (i := 0) (by omega)
  rw [Nat.add_zero] at q2
  obtain ⟨b3, o3, e3, q3⟩ := rdInts_at HX.out (i := 1) (by omega)
  simp at e3
  obtain ⟨rfl, rfl⟩ := e3
  clear ha hv hn2 hl
  subst hn5
  go_wp2_with fail
  rw [HW.out]
  go_quiet (fail)
  go_wp2
  go_ret
  exact ⟨ret_bool rfl, below_drewN' HB1.out _⟩

set_option maxRecDepth 100000 in
set_option maxHeartbeats 2000000 in
theorem ssat3 (c : Con) (cv xv : Value) (x : List Int) (w : World) (h : RdCon w cv c) (hx : RdInts w xv x) (hk : c.kind = 3)  :
    Calls Try.prog 126 #[cv, xv] w (BoolPost (dstB x) w) := by
  obtain ⟨a2, a3, a5, c2, c3, c5, rfl, h2, h3, h5⟩ := rdCon_slices h
  obtain ⟨ax, cx, ev, -⟩ := id hx
  rw [ev] at hx ⊢
  obtain ⟨W1, hW1⟩ : ∃ W1, w.alloc (.cells #[.int .i64 c.kind, .slice a2 c.vars.length c2, .slice a3 c.args.length c3, .int .i64 c.bound, .slice a5 c.rows.length c5] 82) = W1 := ⟨_, rfl⟩
  have B1 : Below w.heap.size w W1 := by rw [← hW1]; exact (Below.refl _ _).alloc (Nat.le_refl _) _
  have bP : Blk5 W1 w.heap.size 82 (.int .i64 c.kind) (.slice a2 c.vars.length c2) (.slice a3 c.args.length c3) (.int .i64 c.bound) (.slice a5 c.rows.length c5) := by rw [← hW1]; exact Blk5.new w _ _ _ _ _ _
  have HC := Lib.hid (h.below B1)
  have HX := Lib.hid (hx.below B1)
  have HA := Lib.hid (h3.below B1)
  have HR := Lib.hid (h5.below B1)
  have HB1 := Lib.hid B1
  have HW := Lib.hid hW1
  rw [hk] at bP HW HC ⊢
  clear hk
  have HP := Lib.hid bP
  obtain ⟨n, hn⟩ : ∃ n, n = x.length := ⟨_, rfl⟩
  have HN := Lib.hid hn
  rw [← hn] at HX ⊢
  have hca := (rdInts_cap HA.out).2
  have hcx := (rdInts_cap HX.out).2
  have hcr := (rdRows_cap HR.out).2
  clear h hx h2 h3 h5 hW1 B1 bP ev hn
  obtain ⟨p0, p1, p2, p3, p4⟩ := HP.out.cell
  go_enter Try.func126, Try.ntmps126
  go_wp2_with fail
  rw [HW.out]
  refine (distinct_any _ x _ HX.out).mono ?_
  rintro e w9 ⟨rfl, m1, rfl⟩
  have HB9 := Lib.hid (below_drewN' HB1.out m1)
  go_wp2
  go_ret
  exact ⟨ret_bool (by simp), HB9.out⟩

set_option maxRecDepth 100000 in
set_option maxHeartbeats 2000000 in
theorem ssat4 (c : Con) (cv xv : Value) (x : List Int) (w : World) (h : RdCon w cv c) (hx : RdInts w xv x) (hk : c.kind = 4) (hl : c.args.length ≤ 6) (hn2 : x.length = 2) (hv : Small x 0 5) :
    Calls Try.prog 126 #[cv, xv] w (BoolPost (decide (x[0]?.getD 0 < (c.args.length : Int)) && (c.args[(x[0]?.getD 0).toNat]?.getD 0 == x[1]?.getD 0)) w) := by
  obtain ⟨a2, a3, a5, c2, c3, c5, rfl, h2, h3, h5⟩ := rdCon_slices h
  obtain ⟨ax, cx, ev, -⟩ := id hx
  rw [ev] at hx ⊢
  obtain ⟨W1, hW1⟩ : ∃ W1, w.alloc (.cells #[.int .i64 c.kind, .slice a2 c.vars.length c2, .slice a3 c.args.length c3, .int .i64 c.bound, .slice a5 c.rows.length c5] 82) = W1 := ⟨_, rfl⟩
  have B1 : Below w.heap.size w W1 := by rw [← hW1]; exact (Below.refl _ _).alloc (Nat.le_refl _) _
  have bP : Blk5 W1 w.heap.size 82 (.int .i64 c.kind) (.slice a2 c.vars.length c2) (.slice a3 c.args.length c3) (.int .i64 c.bound) (.slice a5 c.rows.length c5) := by rw [← hW1]; exact Blk5.new w _ _ _ _ _ _
  have HC := Lib.hid (h.below B1)
  have HX := Lib.hid (hx.below B1)
  have HA := Lib.hid (h3.below B1)
  have HR := Lib.hid (h5.below B1)
  have HB1 := Lib.hid B1
  have HW := Lib.hid hW1
  rw [hk] at bP HW HC ⊢
  clear hk
  have HP := Lib.hid bP
  obtain ⟨n, hn⟩ : ∃ n, n = x.length := ⟨_, rfl⟩
  have HN := Lib.hid hn
  rw [← hn] at HX ⊢
  have hca := (rdInts_cap HA.out).2
  have hcx := (rdInts_cap HX.out).2
  have hcr := (rdRows_cap HR.out).2
  clear h hx h2 h3 h5 hW1 B1 bP ev hn
  obtain ⟨p0, p1, p2, p3, p4⟩ := HP.out.cell
  go_enter Try.func126, Try.ntmps126
  have hn5 : n = 2 := by have := HN.out; omega
  have y0 := hv 0 (by omega)
  have y1 := hv 1 (by omega)
  obtain ⟨b2, o2, rfl, q2⟩ := rdInts_at HX.out (i := 0) (by omega)
  rw [Nat.add_zero] at q2
  obtain ⟨b3, o3, e3, q3⟩ := rdInts_at HX.out (i := 1) (by omega)
  simp at e3
  obtain ⟨rfl, rfl⟩ := e3
  obtain ⟨z, hz⟩ : ∃ z : Nat, x[0]?.getD 0 = (z : Int) := ⟨(x[0]?.getD 0).toNat, by omega⟩
  rw [hz] at q2 y0 ⊢
  clear hv hn2 hz
  subst hn5
  by_cases hlt : z < c.args.length
  · obtain ⟨b1, o1, rfl, q1⟩ := rdInts_at HA.out hlt
    have hd : ((z : Int) < (c.args.length : Int)) := by omega
    have HT : Hid ((decide ((z : Int) < (c.args.length : Int)) && (c.args[(z : Int).toNat]?.getD 0 == x[1]?.getD 0)) = (c.args[z]?.getD 0 == x[1]?.getD 0)) := Lib.hid (by rw [decide_eq_true hd]; simp)
    go_wp2_with fail
    rw [HW.out]
    go_quiet (fail)
    go_wp2
    go_ret
    exact ⟨ret_bool (by rw [HT.out]; simp [List.getElem?_eq_getElem hlt]), below_drewN' HB1.out _⟩
  · have hd : ¬ ((z : Int) < (c.args.length : Int)) := by omega
    have HT : Hid ((decide ((z : Int) < (c.args.length : Int)) && (c.args[(z : Int).toNat]?.getD 0 == x[1]?.getD 0)) = false) := Lib.hid (by rw [decide_eq_false hd]; simp)
    go_wp2_with fail
    rw [HW.out]
    go_quiet (fail)
    go_wp2
    go_ret
    exact ⟨ret_bool HT.out.symm, below_drewN' HB1.out _⟩

set_option maxRecDepth 100000 in
set_option maxHeartbeats 2000000 in
theorem ssat5 (c : Con) (cv xv : Value) (x : List Int) (w : World) (h : RdCon w cv c) (hx : RdInts w xv x) (hk : c.kind = 5) (hl : ∀ j, j < c.rows.length → (c.rows[j]?.getD []).length = x.length) :
    Calls Try.prog 126 #[cv, xv] w (BoolPost (decide (x ∈ c.rows)) w) := by
  obtain ⟨a2, a3, a5, c2, c3, c5, rfl, h2, h3, h5⟩ := rdCon_slices h
  obtain ⟨ax, cx, ev, -⟩ := id hx
  rw [ev] at hx ⊢
  obtain ⟨W1, hW1⟩ : ∃ W1, w.alloc (.cells #[.int .i64 c.kind, .slice a2 c.vars.length c2, .slice a3 c.args.length c3, .int .i64 c.bound, .slice a5 c.rows.length c5] 82) = W1 := ⟨_, rfl⟩
  have B1 : Below w.heap.size w W1 := by rw [← hW1]; exact (Below.refl _ _).alloc (Nat.le_refl _) _
  have bP : Blk5 W1 w.heap.size 82 (.int .i64 c.kind) (.slice a2 c.vars.length c2) (.slice a3 c.args.length c3) (.int .i64 c.bound) (.slice a5 c.rows.length c5) := by rw [← hW1]; exact Blk5.new w _ _ _ _ _ _
  have HC := Lib.hid (h.below B1)
  have HX := Lib.hid (hx.below B1)
  have HA := Lib.hid (h3.below B1)
  have HR := Lib.hid (h5.below B1)
  have HB1 := Lib.hid B1
  have HW := Lib.hid hW1
  rw [hk] at bP HW HC ⊢
  clear hk
  have HP := Lib.hid bP
  obtain ⟨n, hn⟩ : ∃ n, n = x.length := ⟨_, rfl⟩
  have HN := Lib.hid hn
  rw [← hn] at HX ⊢
  have hca := (rdInts_cap HA.out).2
  have hcx := (rdInts_cap HX.out).2
  have hcr := (rdRows_cap HR.out).2
  clear h hx h2 h3 h5 hW1 B1 bP ev hn
  obtain ⟨p0, p1, p2, p3, p4⟩ := HP.out.cell
  go_enter Try.func126, Try.ntmps126
  go_wp2_with fail
  rw [HW.out]
  refine (hasRow_any _ _ c.rows x _ HR.out HX.out hl).mono ?_
  rintro e w9 ⟨rfl, m1, rfl⟩
  have HB9 := Lib.hid (below_drewN' HB1.out m1)
  go_wp2
  go_ret
  exact ⟨ret_bool (by simp), HB9.out⟩

set_option maxRecDepth 100000 in
set_option maxHeartbeats 2000000 in
theorem ssat6 (c : Con) (cv xv : Value) (x : List Int) (w : World) (h : RdCon w cv c) (hx : RdInts w xv x) (hk : c.kind = 6) (hl : c.args.length = 1) (hn4 : x.length ≤ 4) :
    Calls Try.prog 126 #[cv, xv] w (BoolPost (cntS (c.args[0]?.getD 0) x x.length == c.bound) w) := by
  obtain ⟨a2, a3, a5, c2, c3, c5, rfl, h2, h3, h5⟩ := rdCon_slices h
  obtain ⟨ax, cx, ev, -⟩ := id hx
  rw [ev] at hx ⊢
  obtain ⟨W1, hW1⟩ : ∃ W1, w.alloc (.cells #[.int .i64 c.kind, .slice a2 c.vars.length c2, .slice a3 c.args.length c3, .int .i64 c.bound, .slice a5 c.rows.length c5] 82) = W1 := ⟨_, rfl⟩
  have B1 : Below w.heap.size w W1 := by rw [← hW1]; exact (Below.refl _ _).alloc (Nat.le_refl _) _
  have bP : Blk5 W1 w.heap.size 82 (.int .i64 c.kind) (.slice a2 c.vars.length c2) (.slice a3 c.args.length c3) (.int .i64 c.bound) (.slice a5 c.rows.length c5) := by rw [← hW1]; exact Blk5.new w _ _ _ _ _ _
  have HC := Lib.hid (h.below B1)
  have HX := Lib.hid (hx.below B1)
  have HA := Lib.hid (h3.below B1)
  have HR := Lib.hid (h5.below B1)
  have HB1 := Lib.hid B1
  have HW := Lib.hid hW1
  rw [hk] at bP HW HC ⊢
  clear hk
  have HP := Lib.hid bP
  obtain ⟨n, hn⟩ : ∃ n, n = x.length := ⟨_, rfl⟩
  have HN := Lib.hid hn
  rw [← hn] at HX ⊢
  have hca := (rdInts_cap HA.out).2
  have hcx := (rdInts_cap HX.out).2
  have hcr := (rdRows_cap HR.out).2
  clear h hx h2 h3 h5 hW1 B1 bP ev hn
  obtain ⟨p0, p1, p2, p3, p4⟩ := HP.out.cell
  go_enter Try.func126, Try.ntmps126
  have hn5 : n ≤ 4 := by have := HN.out; omega
  rw [hl] at HA HW p2 hca ⊢
  obtain ⟨b1, o1, rfl, q1⟩ := rdInts_at HA.out (i := 0) (by omega)
  rw [Nat.add_zero] at q1
  obtain ⟨a, haa⟩ : ∃ a, a = c.args[0]?.getD 0 := ⟨_, rfl⟩
  rw [← haa] at q1 ⊢
  clear haa hl hn4
  go_wp2
  rw [HW.out]
  go_loopw [7, 8] (fun s i wr => ∃ k nq : Nat, k ≤ n ∧ i = .int .i64 k ∧ s = .int .i64 (cntS a x k) ∧ wr = W1.drewN nq) (fun _ i _ => n - (intOf i).toNat)
  case atStart => exact ⟨0, 0, Nat.zero_le _, rfl, rfl, rfl⟩
  case round =>
    obtain ⟨k, nq, hk, rfl, rfl, rfl⟩ := hrel
    have s1 := cntS_le a x k
    by_cases hlt : k < n
    · obtain ⟨b2, o2, rfl, q2⟩ := rdInts_at HX.out hlt
      by_cases he : x[k]?.getD 0 = a
      · have hb : (x[k]?.getD 0 == a) = true := by simp [he]
        have HS := Lib.hid (show cntS a x (k + 1) = cntS a x k + 1 from by rw [cntS, if_pos he])
        clear he
        go_wp2_with fail
        go_quiet (fail)
        go_wp2
        go_roundw
        case rel => exact ⟨k + 1, _, by omega, by go_num, by rw [HS.out], rfl⟩
        case measure => simp [intOf]; omega
      · have hb : (x[k]?.getD 0 == a) = false := by simp [he]
        have HS := Lib.hid (show cntS a x (k + 1) = cntS a x k from by rw [cntS, if_neg he])
        clear he
        go_wp2_with fail
        go_quiet (fail)
        go_wp2
        go_roundw
        case rel => exact ⟨k + 1, _, by omega, by go_num, by rw [HS.out], rfl⟩
        case measure => simp [intOf]; omega
    · obtain rfl : k = n := by omega
      go_wp2
      go_ret
      exact ⟨ret_bool (by rw [HN.out]), below_drewN' HB1.out _⟩

set_option maxRecDepth 100000 in
set_option maxHeartbeats 2000000 in
theorem ssat7 (c : Con) (cv xv : Value) (x : List Int) (w : World) (h : RdCon w cv c) (hx : RdInts w xv x) (hk : c.kind = 7) (hl : c.args.length = 2 * x.length) (hn4 : x.length ≤ 4) (ha : Small c.args 0 9) (hv : Small x 0 5) :
    Calls Try.prog 126 #[cv, xv] w (BoolPost (decide (∀ t : Nat, t < 15 → loadS c.args x x.length t x.length ≤ c.bound)) w) := by
  obtain ⟨a2, a3, a5, c2, c3, c5, rfl, h2, h3, h5⟩ := rdCon_slices h
  obtain ⟨ax, cx, ev, -⟩ := id hx
  rw [ev] at hx ⊢
  obtain ⟨W1, hW1⟩ : ∃ W1, w.alloc (.cells #[.int .i64 c.kind, .slice a2 c.vars.length c2, .slice a3 c.args.length c3, .int .i64 c.bound, .slice a5 c.rows.length c5] 82) = W1 := ⟨_, rfl⟩
  have B1 : Below w.heap.size w W1 := by rw [← hW1]; exact (Below.refl _ _).alloc (Nat.le_refl _) _
  have bP : Blk5 W1 w.heap.size 82 (.int .i64 c.kind) (.slice a2 c.vars.length c2) (.slice a3 c.args.length c3) (.int .i64 c.bound) (.slice a5 c.rows.length c5) := by rw [← hW1]; exact Blk5.new w _ _ _ _ _ _
  have HC := Lib.hid (h.below B1)
  have HX := Lib.hid (hx.below B1)
  have HA := Lib.hid (h3.below B1)
  have HR := Lib.hid (h5.below B1)
  have HB1 := Lib.hid B1
  have HW := Lib.hid hW1
  rw [hk] at bP HW HC ⊢
  clear hk
  have HP := Lib.hid bP
  obtain ⟨n, hn⟩ : ∃ n, n = x.length := ⟨_, rfl⟩
  have HN := Lib.hid hn
  rw [← hn] at HX ⊢
  have hca := (rdInts_cap HA.out).2
  have hcx := (rdInts_cap HX.out).2
  have hcr := (rdRows_cap HR.out).2
  clear h hx h2 h3 h5 hW1 B1 bP ev hn
  obtain ⟨p0, p1, p2, p3, p4⟩ := HP.out.cell
  go_enter Try.func126, Try.ntmps126
  have HU := Lib.hid (withinCapacity_any _ _ _ x _ HC.out HX.out hl hn4 ha hv)
  clear hl hn4 ha hv
  go_wp2_with fail
  rw [HW.out]
  refine (HU.out).mono ?_
  rintro e w9 ⟨rfl, b9⟩
  have HB9 := Lib.hid (HB1.out.trans (b9.mono HB1.out.size))
  clear b9
  go_wp2
  go_ret
  exact ⟨ret_bool (by rw [← HN.out]), HB9.out⟩

set_option maxRecDepth 100000 in
set_option maxHeartbeats 2000000 in
theorem ssat8 (c : Con) (cv xv : Value) (x : List Int) (w : World) (h : RdCon w cv c) (hx : RdInts w xv x) (hk : c.kind = 8) (hr8 : 1 ≤ c.rows.length ∧ c.rows.length ≤ 8) (hn4 : x.length ≤ 4) (hrow : ∀ j, j < c.rows.length → (c.rows[j]?.getD []).length = 6 ∧ Small (c.rows[j]?.getD []) (-1) (c.rows.length - 1)) (hv : Small x 0 5) :
    Calls Try.prog 126 #[cv, xv] w (BoolPost (decide (∀ j : Nat, j ≤ x.length → 0 ≤ runS c.rows x j) && decide (runS c.rows x x.length ∈ c.args)) w) := by
  obtain ⟨a2, a3, a5, c2, c3, c5, rfl, h2, h3, h5⟩ := rdCon_slices h
  obtain ⟨ax, cx, ev, -⟩ := id hx
  rw [ev] at hx ⊢
  obtain ⟨W1, hW1⟩ : ∃ W1, w.alloc (.cells #[.int .i64 c.kind, .slice a2 c.vars.length c2, .slice a3 c.args.length c3, .int .i64 c.bound, .slice a5 c.rows.length c5] 82) = W1 := ⟨_, rfl⟩
  have B1 : Below w.heap.size w W1 := by rw [← hW1]; exact (Below.refl _ _).alloc (Nat.le_refl _) _
  have bP : Blk5 W1 w.heap.size 82 (.int .i64 c.kind) (.slice a2 c.vars.length c2) (.slice a3 c.args.length c3) (.int .i64 c.bound) (.slice a5 c.rows.length c5) := by rw [← hW1]; exact Blk5.new w _ _ _ _ _ _
  have HC := Lib.hid (h.below B1)
  have HX := Lib.hid (hx.below B1)
  have HA := Lib.hid (h3.below B1)
  have HR := Lib.hid (h5.below B1)
  have HB1 := Lib.hid B1
  have HW := Lib.hid hW1
  rw [hk] at bP HW HC ⊢
  clear hk
  have HP := Lib.hid bP
  obtain ⟨n, hn⟩ : ∃ n, n = x.length := ⟨_, rfl⟩
  have HN := Lib.hid hn
  rw [← hn] at HX ⊢
  have hca := (rdInts_cap HA.out).2
  have hcx := (rdInts_cap HX.out).2
  have hcr := (rdRows_cap HR.out).2
  clear h hx h2 h3 h5 hW1 B1 bP ev hn
  obtain ⟨p0, p1, p2, p3, p4⟩ := HP.out.cell
  go_enter Try.func126, Try.ntmps126
  have HU := Lib.hid (accepts_any _ _ _ x _ HC.out HX.out hr8 hn4 hrow hv)
  clear hr8 hn4 hrow hv
  go_wp2_with fail
  rw [HW.out]
  refine (HU.out).mono ?_
  rintro e w9 ⟨rfl, b9⟩
  have HB9 := Lib.hid (HB1.out.trans (b9.mono HB1.out.size))
  clear b9
  go_wp2
  go_ret
  exact ⟨ret_bool (by rw [← HN.out]), HB9.out⟩

set_option maxRecDepth 100000 in
set_option maxHeartbeats 2000000 in
theorem ssat9 (c : Con) (cv xv : Value) (x : List Int) (w : World) (h : RdCon w cv c) (hx : RdInts w xv x) (hk : c.kind = 9) (hn1 : 1 ≤ x.length) (hn4 : x.length ≤ 4) (hv : Small x 0 5) :
    Calls Try.prog 126 #[cv, xv] w (BoolPost (goS x 0 1 x.length) w) := by
  obtain ⟨a2, a3, a5, c2, c3, c5, rfl, h2, h3, h5⟩ := rdCon_slices h
  obtain ⟨ax, cx, ev, -⟩ := id hx
  rw [ev] at hx ⊢
  obtain ⟨W1, hW1⟩ : ∃ W1, w.alloc (.cells #[.int .i64 c.kind, .slice a2 c.vars.length c2, .slice a3 c.args.length c3, .int .i64 c.bound, .slice a5 c.rows.length c5] 82) = W1 := ⟨_, rfl⟩
  have B1 : Below w.heap.size w W1 := by rw [← hW1]; exact (Below.refl _ _).alloc (Nat.le_refl _) _
  have bP : Blk5 W1 w.heap.size 82 (.int .i64 c.kind) (.slice a2 c.vars.length c2) (.slice a3 c.args.length c3) (.int .i64 c.bound) (.slice a5 c.rows.length c5) := by rw [← hW1]; exact Blk5.new w _ _ _ _ _ _
  have HC := Lib.hid (h.below B1)
  have HX := Lib.hid (hx.below B1)
  have HA := Lib.hid (h3.below B1)
  have HR := Lib.hid (h5.below B1)
  have HB1 := Lib.hid B1
  have HW := Lib.hid hW1
  rw [hk] at bP HW HC ⊢
  clear hk
  have HP := Lib.hid bP
  obtain ⟨n, hn⟩ : ∃ n, n = x.length := ⟨_, rfl⟩
  have HN := Lib.hid hn
  rw [← hn] at HX ⊢
  have hca := (rdInts_cap HA.out).2
  have hcx := (rdInts_cap HX.out).2
  have hcr := (rdRows_cap HR.out).2
  clear h hx h2 h3 h5 hW1 B1 bP ev hn
  obtain ⟨p0, p1, p2, p3, p4⟩ := HP.out.cell
  go_enter Try.func126, Try.ntmps126
  go_wp2_with fail
  rw [HW.out]
  refine (isCircuit_any _ x _ HX.out hn1 hn4 hv).mono ?_
  rintro e w9 ⟨rfl, m1, rfl⟩
  have HB9 := Lib.hid (below_drewN' HB1.out m1)
  rw [← HN.out]
  go_wp2
  go_ret
  exact ⟨ret_bool (by simp), HB9.out⟩

end Go.Proofs.Ytipapmmjfoaddaa
