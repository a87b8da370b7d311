/- The reference's test of satisfaction, kind by kind. -/
import Derived.Test.YtipapmmjfoaddaaGreatSatQ
namespace Go.Proofs.YtipapmmjfoaddaaGreat
open Go.ChangeShapes Go.WideShapes Go.ChangeAt Go.RowKit
set_option linter.unusedVariables false
set_option linter.unusedSimpArgs false

set_option maxRecDepth 100000 in
set_option maxHeartbeats 2000000 in
theorem ssat1 (c : Con) (cv xv : Value) (x : List Int) (w : World) (h : RdCon w cv c) (hx : RdInts w xv x) (hk : c.kind = 1) (hl : c.args.length = x.length) (hn4 : x.length ≤ 4) (ha : Small c.args (-9) 9) (hv : Small x 0 5) :
    Calls Tryz.prog 180 #[cv, xv] w (BoolPost (decide (linS c.args x x.length ≤ c.bound)) w) := by
  obtain ⟨a2, a3, a5, c2, c3, c5, rfl, h2, h3, h5⟩ := rdCon_slices h
  obtain ⟨ax, cx, ev, -⟩ := id hx
  rw [ev] at hx ⊢
  obtain ⟨W1, hW1⟩ : ∃ W1, w.alloc (.cells #[.int .i64 c.kind, .slice a2 c.vars.length c2, .slice a3 c.args.length c3, .int .i64 c.bound, .slice a5 c.rows.length c5] 110) = W1 := ⟨_, rfl⟩
  have B1 : Below w.heap.size w W1 := by rw [← hW1]; exact (Below.refl _ _).alloc (Nat.le_refl _) _
  have bP : Blk5 W1 w.heap.size 110 (.int .i64 c.kind) (.slice a2 c.vars.length c2) (.slice a3 c.args.length c3) (.int .i64 c.bound) (.slice a5 c.rows.length c5) := by rw [← hW1]; exact Blk5.new w _ _ _ _ _ _
  have HC := Lib.hid (h.below B1)
  have HX := Lib.hid (hx.below B1)
  have HA := Lib.hid (h3.below B1)
  have HR := Lib.hid (h5.below B1)
  have HB1 := Lib.hid B1
  have HW := Lib.hid hW1
  rw [hk] at bP HW HC ⊢
  clear hk
  have HP := Lib.hid bP
  obtain ⟨n, hn⟩ : ∃ n, n = x.length := ⟨_, rfl⟩
  have HN := Lib.hid hn
  rw [← hn] at HX ⊢
  have hca := (rdInts_cap HA.out).2
  have hcx := (rdInts_cap HX.out).2
  have hcr := (rdRows_cap HR.out).2
  clear h hx h2 h3 h5 hW1 B1 bP ev hn
  obtain ⟨p0, p1, p2, p3, p4⟩ := HP.out.cell
  go_enter Tryz.func180, Tryz.ntmps180
  have HS := Lib.hid (linS_le ha hv hl)
  have HAL := Lib.hid ha
  have HVL := Lib.hid hv
  have hln : c.args.length = n := by have := HN.out; omega
  have hn5 : n ≤ 4 := by have := HN.out; omega
  have HLN := Lib.hid hln
  rw [hln] at HA HW p2 hca ⊢
  clear ha hv hl hn4 hln
  go_wp2
  rw [HW.out]
  go_loopw [5, 6] (fun s i wr => ∃ k nq : Nat, k ≤ n ∧ i = .int .i64 k ∧ s = .int .i64 (linS c.args x k) ∧ wr = W1.drewN nq) (fun _ i _ => n - (intOf i).toNat)
  case atStart => exact ⟨0, 0, Nat.zero_le _, rfl, rfl, rfl⟩
  case round =>
    obtain ⟨k, nq, hk, rfl, rfl, rfl⟩ := hrel
    have s1 := HS.out k (by have := HN.out; omega)
    by_cases hlt : k < n
    · obtain ⟨b1, o1, rfl, q1⟩ := rdInts_at HA.out hlt
      obtain ⟨b2, o2, rfl, q2⟩ := rdInts_at HX.out hlt
      have a1 := HAL.out k (by have := HLN.out; omega)
      have a2 := HVL.out k (by have := HN.out; omega)
      have m1 := mul_small a1.1 a1.2 a2.1 a2.2
      go_wp2_with fail
      go_quiet (fail)
      go_wp2
      go_roundw
      case rel => exact ⟨k + 1, _, by omega, by go_num, rfl, rfl⟩
      case measure => simp [intOf]; omega
    · obtain rfl : k = n := by omega
      go_wp2
      go_ret
      exact ⟨ret_bool (by rw [HN.out]), below_drewN' HB1.out _⟩

set_option maxRecDepth 100000 in
set_option maxHeartbeats 2000000 in
theorem ssat2 (c : Con) (cv xv : Value) (x : List Int) (w : World) (h : RdCon w cv c) (hx : RdInts w xv x) (hk : c.kind = 2) (hl : c.args.length = 1) (hn2 : x.length = 2) (ha : Small c.args (-9) 9) (hv : Small x 0 5) :
    Calls Tryz.prog 180 #[cv, xv] w (BoolPost (x[0]?.getD 0 != x[1]?.getD 0 + c.args[0]?.getD 0) w) := by
  obtain ⟨a2, a3, a5, c2, c3, c5, rfl, h2, h3, h5⟩ := rdCon_slices h
  obtain ⟨ax, cx, ev, -⟩ := id hx
  rw [ev] at hx ⊢
  obtain ⟨W1, hW1⟩ : ∃ W1, w.alloc (.cells #[.int .i64 c.kind, .slice a2 c.vars.length c2, .slice a3 c.args.length c3, .int .i64 c.bound, .slice a5 c.rows.length c5] 110) = W1 := ⟨_, rfl⟩
  have B1 : Below w.heap.size w W1 := by rw [← hW1]; exact (Below.refl _ _).alloc (Nat.le_refl _) _
  have bP : Blk5 W1 w.heap.size 110 (.int .i64 c.kind) (.slice a2 c.vars.length c2) (.slice a3 c.args.length c3) (.int .i64 c.bound) (.slice a5 c.rows.length c5) := by rw [← hW1]; exact Blk5.new w _ _ _ _ _ _
  have HC := Lib.hid (h.below B1)
  have HX := Lib.hid (hx.below B1)
  have HA := Lib.hid (h3.below B1)
  have HR := Lib.hid (h5.below B1)
  have HB1 := Lib.hid B1
  have HW := Lib.hid hW1
  rw [hk] at bP HW HC ⊢
  clear hk
  have HP := Lib.hid bP
  obtain ⟨n, hn⟩ : ∃ n, n = x.length := ⟨_, rfl⟩
  have HN := Lib.hid hn
  rw [← hn] at HX ⊢
  have hca := (rdInts_cap HA.out).2
  have hcx := (rdInts_cap HX.out).2
  have hcr := (rdRows_cap HR.out).2
  clear h hx h2 h3 h5 hW1 B1 bP ev hn
  obtain ⟨p0, p1, p2, p3, p4⟩ := HP.out.cell
  go_enter Tryz.func180, Tryz.ntmps180
  have hn5 : n = 2 := by have := HN.out; omega
  have a1 := ha 0 (by omega)
  have y0 := hv 0 (by omega)
  have y1 := hv 1 (by omega)
  rw [hl] at HA HW p2 hca ⊢
  obtain ⟨b1, o1, rfl, q1⟩ := rdInts_at HA.out (i := 0) (by omega)
  rw [Nat.add_zero] at q1
  obtain ⟨b2, o2, rfl, q2⟩ := rdInts_at HX.out (i := 0) (by omega)
  rw [Nat.add_zero] at q2
  obtain ⟨b3, o3, e3, q3⟩ := rdInts_at HX.out (i := 1) (by omega)
  simp at e3
  obtain ⟨rfl, rfl⟩ := e3
  clear ha hv hn2 hl
  subst hn5
  go_wp2_with fail
  rw [HW.out]
  go_quiet (fail)
  go_wp2
  go_ret
  exact ⟨ret_bool rfl, below_drewN' HB1.out _⟩

set_option maxRecDepth 100000 in
set_option maxHeartbeats 2000000 in
theorem ssat3 (c : Con) (cv xv : Value) (x : List Int) (w : World) (h : RdCon w cv c) (hx : RdInts w xv x) (hk : c.kind = 3)  :
    Calls Tryz.prog 180 #[cv, xv] w (BoolPost (dstB x) w) := by
  obtain ⟨a2, a3, a5, c2, c3, c5, rfl, h2, h3, h5⟩ := rdCon_slices h
  obtain ⟨ax, cx, ev, -⟩ := id hx
  rw [ev] at hx ⊢
  obtain ⟨W1, hW1⟩ : ∃ W1, w.alloc (.cells #[.int .i64 c.kind, .slice a2 c.vars.length c2, .slice a3 c.args.length c3, .int .i64 c.bound, .slice a5 c.rows.length c5] 110) = W1 := ⟨_, rfl⟩
  have B1 : Below w.heap.size w W1 := by rw [← hW1]; exact (Below.refl _ _).alloc (Nat.le_refl _) _
  have bP : Blk5 W1 w.heap.size 110 (.int .i64 c.kind) (.slice a2 c.vars.length c2) (.slice a3 c.args.length c3) (.int .i64 c.bound) (.slice a5 c.rows.length c5) := by rw [← hW1]; exact Blk5.new w _ _ _ _ _ _
  have HC := Lib.hid (h.below B1)
  have HX := Lib.hid (hx.below B1)
  have HA := Lib.hid (h3.below B1)
  have HR := Lib.hid (h5.below B1)
  have HB1 := Lib.hid B1
  have HW := Lib.hid hW1
  rw [hk] at bP HW HC ⊢
  clear hk
  have HP := Lib.hid bP
  obtain ⟨n, hn⟩ : ∃ n, n = x.length := ⟨_, rfl⟩
  have HN := Lib.hid hn
  rw [← hn] at HX ⊢
  have hca := (rdInts_cap HA.out).2
  have hcx := (rdInts_cap HX.out).2
  have hcr := (rdRows_cap HR.out).2
  clear h hx h2 h3 h5 hW1 B1 bP ev hn
  obtain ⟨p0, p1, p2, p3, p4⟩ := HP.out.cell
  go_enter Tryz.func180, Tryz.ntmps180
  go_wp2_with fail
  rw [HW.out]
  refine (distinct_any _ x _ HX.out).mono ?_
  rintro e w9 ⟨rfl, m1, rfl⟩
  have HB9 := Lib.hid (below_drewN' HB1.out m1)
  go_wp2
  go_ret
  exact ⟨ret_bool (by simp), HB9.out⟩

set_option maxRecDepth 100000 in
set_option maxHeartbeats 2000000 in
theorem ssat4 (c : Con) (cv xv : Value) (x : List Int) (w : World) (h : RdCon w cv c) (hx : RdInts w xv x) (hk : c.kind = 4) (hl : c.args.length ≤ 6) (hn2 : x.length = 2) (hv : Small x 0 5) :
    Calls Tryz.prog 180 #[cv, xv] w (BoolPost (decide (x[0]?.getD 0 < (c.args.length : Int)) && (c.args[(x[0]?.getD 0).toNat]?.getD 0 == x[1]?.getD 0)) w) := by
  obtain ⟨a2, a3, a5, c2, c3, c5, rfl, h2, h3, h5⟩ := rdCon_slices h
  obtain ⟨ax, cx, ev, -⟩ := id hx
  rw [ev] at hx ⊢
  obtain ⟨W1, hW1⟩ : ∃ W1, w.alloc (.cells #[.int .i64 c.kind, .slice a2 c.vars.length c2, .slice a3 c.args.length c3, .int .i64 c.bound, .slice a5 c.rows.length c5] 110) = W1 := ⟨_, rfl⟩
  have B1 : Below w.heap.size w W1 := by rw [← hW1]; exact (Below.refl _ _).alloc (Nat.le_refl _) _
  have bP : Blk5 W1 w.heap.size 110 (.int .i64 c.kind) (.slice a2 c.vars.length c2) (.slice a3 c.args.length c3) (.int .i64 c.bound) (.slice a5 c.rows.length c5) := by rw [← hW1]; exact Blk5.new w _ _ _ _ _ _
  have HC := Lib.hid (h.below B1)
  have HX := Lib.hid (hx.below B1)
  have HA := Lib.hid (h3.below B1)
  have HR := Lib.hid (h5.below B1)
  have HB1 := Lib.hid B1
  have HW := Lib.hid hW1
  rw [hk] at bP HW HC ⊢
  clear hk
  have HP := Lib.hid bP
  obtain ⟨n, hn⟩ : ∃ n, n = x.length := ⟨_, rfl⟩
  have HN := Lib.hid hn
  rw [← hn] at HX ⊢
  have hca := (rdInts_cap HA.out).2
  have hcx := (rdInts_cap HX.out).2
  have hcr := (rdRows_cap HR.out).2
  clear h hx h2 h3 h5 hW1 B1 bP ev hn
  obtain ⟨p0, p1, p2, p3, p4⟩ := HP.out.cell
  go_enter Tryz.func180, Tryz.ntmps180
  have hn5 : n = 2 := by have := HN.out; omega
  have y0 := hv 0 (by omega)
  have y1 := hv 1 (by omega)
  obtain ⟨b2, o2, rfl, q2⟩ := rdInts_at HX.out (i := 0) (by omega)
  rw [Nat.add_zero] at q2
  obtain ⟨b3, o3, e3, q3⟩ := rdInts_at HX.out (i := 1) (by omega)
  simp at e3
  obtain ⟨rfl, rfl⟩ := e3
  obtain ⟨z, hz⟩ : ∃ z : Nat, x[0]?.getD 0 = (z : Int) := ⟨(x[0]?.getD 0).toNat, by omega⟩
  rw [hz] at q2 y0 ⊢
  clear hv hn2 hz
  subst hn5
  by_cases hlt : z < c.args.length
  · obtain ⟨b1, o1, rfl, q1⟩ := rdInts_at HA.out hlt
    have hd : ((z : Int) < (c.args.length : Int)) := by omega
    have HT : Hid ((decide ((z : Int) < (c.args.length : Int)) && (c.args[(z : Int).toNat]?.getD 0 == x[1]?.getD 0)) = (c.args[z]?.getD 0 == x[1]?.getD 0)) := Lib.hid (by rw [decide_eq_true hd]; simp)
    go_wp2_with fail
    rw [HW.out]
    go_quiet (fail)
    go_wp2
    go_ret
    exact ⟨ret_bool (by rw [HT.out]; simp [List.getElem?_eq_getElem hlt]), below_drewN' HB1.out _⟩
  · have hd : ¬ ((z : Int) < (c.args.length : Int)) := by omega
    have HT : Hid ((decide ((z : Int) < (c.args.length : Int)) && (c.args[(z : Int).toNat]?.getD 0 == x[1]?.getD 0)) = false) := Lib.hid (by rw [decide_eq_false hd]; simp)
    go_wp2_with fail
    rw [HW.out]
    go_quiet (fail)
    go_wp2
    go_ret
    exact ⟨ret_bool HT.out.symm, below_drewN' HB1.out _⟩

set_option maxRecDepth 100000 in
set_option maxHeartbeats 2000000 in
theorem ssat5 (c : Con) (cv xv : Value) (x : List Int) (w : World) (h : RdCon w cv c) (hx : RdInts w xv x) (hk : c.kind = 5) (hl : ∀ j, j < c.rows.length → (c.rows[j]?.getD []).length = x.length) :
    Calls Tryz.prog 180 #[cv, xv] w (BoolPost (decide (x ∈ c.rows)) w) := by
  obtain ⟨a2, a3, a5, c2, c3, c5, rfl, h2, h3, h5⟩ := rdCon_slices h
  obtain ⟨ax, cx, ev, -⟩ := id hx
  rw [ev] at hx ⊢
  obtain ⟨W1, hW1⟩ : ∃ W1, w.alloc (.cells #[.int .i64 c.kind, .slice a2 c.vars.length c2, .slice a3 c.args.length c3, .int .i64 c.bound, .slice a5 c.rows.length c5] 110) = W1 := ⟨_, rfl⟩
  have B1 : Below w.heap.size w W1 := by rw [← hW1]; exact (Below.refl _ _).alloc (Nat.le_refl _) _
  have bP : Blk5 W1 w.heap.size 110 (.int .i64 c.kind) (.slice a2 c.vars.length c2) (.slice a3 c.args.length c3) (.int .i64 c.bound) (.slice a5 c.rows.length c5) := by rw [← hW1]; exact Blk5.new w _ _ _ _ _ _
  have HC := Lib.hid (h.below B1)
  have HX := Lib.hid (hx.below B1)
  have HA := Lib.hid (h3.below B1)
  have HR := Lib.hid (h5.below B1)
  have HB1 := Lib.hid B1
  have HW := Lib.hid hW1
  rw [hk] at bP HW HC ⊢
  clear hk
  have HP := Lib.hid bP
  obtain ⟨n, hn⟩ : ∃ n, n = x.length := ⟨_, rfl⟩
  have HN := Lib.hid hn
  rw [← hn] at HX ⊢
  have hca := (rdInts_cap HA.out).2
  have hcx := (rdInts_cap HX.out).2
  have hcr := (rdRows_cap HR.out).2
  clear h hx h2 h3 h5 hW1 B1 bP ev hn
  obtain ⟨p0, p1, p2, p3, p4⟩ := HP.out.cell
  go_enter Tryz.func180, Tryz.ntmps180
  go_wp2_with fail
  rw [HW.out]
  refine (hasRow_any _ _ c.rows x _ HR.out HX.out hl).mono ?_
  rintro e w9 ⟨rfl, m1, rfl⟩
  have HB9 := Lib.hid (below_drewN' HB1.out m1)
  go_wp2
  go_ret
  exact ⟨ret_bool (by simp), HB9.out⟩

set_option maxRecDepth 100000 in
set_option maxHeartbeats 2000000 in
theorem ssat6 (c : Con) (cv xv : Value) (x : List Int) (w : World) (h : RdCon w cv c) (hx : RdInts w xv x) (hk : c.kind = 6) (hl : c.args.length = 1) (hn4 : x.length ≤ 4) :
    Calls Tryz.prog 180 #[cv, xv] w (BoolPost (cntS (c.args[0]?.getD 0) x x.length == c.bound) w) := by
  obtain ⟨a2, a3, a5, c2, c3, c5, rfl, h2, h3, h5⟩ := rdCon_slices h
  obtain ⟨ax, cx, ev, -⟩ := id hx
  rw [ev] at hx ⊢
  obtain ⟨W1, hW1⟩ : ∃ W1, w.alloc (.cells #[.int .i64 c.kind, .slice a2 c.vars.length c2, .slice a3 c.args.length c3, .int .i64 c.bound, .slice a5 c.rows.length c5] 110) = W1 := ⟨_, rfl⟩
  have B1 : Below w.heap.size w W1 := by rw [← hW1]; exact (Below.refl _ _).alloc (Nat.le_refl _) _
  have bP : Blk5 W1 w.heap.size 110 (.int .i64 c.kind) (.slice a2 c.vars.length c2) (.slice a3 c.args.length c3) (.int .i64 c.bound) (.slice a5 c.rows.length c5) := by rw [← hW1]; exact Blk5.new w _ _ _ _ _ _
  have HC := Lib.hid (h.below B1)
  have HX := Lib.hid (hx.below B1)
  have HA := Lib.hid (h3.below B1)
  have HR := Lib.hid (h5.below B1)
  have HB1 := Lib.hid B1
  have HW := Lib.hid hW1
  rw [hk] at bP HW HC ⊢
  clear hk
  have HP := Lib.hid bP
  obtain ⟨n, hn⟩ : ∃ n, n = x.length := ⟨_, rfl⟩
  have HN := Lib.hid hn
  rw [← hn] at HX ⊢
  have hca := (rdInts_cap HA.out).2
  have hcx := (rdInts_cap HX.out).2
  have hcr := (rdRows_cap HR.out).2
  clear h hx h2 h3 h5 hW1 B1 bP ev hn
  obtain ⟨p0, p1, p2, p3, p4⟩ := HP.out.cell
  go_enter Tryz.func180, Tryz.ntmps180
  have hn5 : n ≤ 4 := by have := HN.out; omega
  rw [hl] at HA HW p2 hca ⊢
  obtain ⟨b1, o1, rfl, q1⟩ := rdInts_at HA.out (i := 0) (by omega)
  rw [Nat.add_zero] at q1
  obtain ⟨a, haa⟩ : ∃ a, a = c.args[0]?.getD 0 := ⟨_, rfl⟩
  rw [← haa] at q1 ⊢
  clear haa hl hn4
  go_wp2
  rw [HW.out]
  go_loopw [7, 8] (fun s i wr => ∃ k nq : Nat, k ≤ n ∧ i = .int .i64 k ∧ s = .int .i64 (cntS a x k) ∧ wr = W1.drewN nq) (fun _ i _ => n - (intOf i).toNat)
  case atStart => exact ⟨0, 0, Nat.zero_le _, rfl, rfl, rfl⟩
  case round =>
    obtain ⟨k, nq, hk, rfl, rfl, rfl⟩ := hrel
    have s1 := cntS_le a x k
    by_cases hlt : k < n
    · obtain ⟨b2, o2, rfl, q2⟩ := rdInts_at HX.out hlt
      by_cases he : x[k]?.getD 0 = a
      · have hb : (x[k]?.getD 0 == a) = true := by simp [he]
        have HS := Lib.hid (show cntS a x (k + 1) = cntS a x k + 1 from by rw [cntS, if_pos he])
        clear he
        go_wp2_with fail
        go_quiet (fail)
        go_wp2
        go_roundw
        case rel => exact ⟨k + 1, _, by omega, by go_num, by rw [HS.out], rfl⟩
        case measure => simp [intOf]; omega
      · have hb : (x[k]?.getD 0 == a) = false := by simp [he]
        have HS := Lib.hid (show cntS a x (k + 1) = cntS a x k from by rw [cntS, if_neg he])
        clear he
        go_wp2_with fail
        go_quiet (fail)
        go_wp2
        go_roundw
        case rel => exact ⟨k + 1, _, by omega, by go_num, by rw [HS.out], rfl⟩
        case measure => simp [intOf]; omega
    · obtain rfl : k = n := by omega
      go_wp2
      go_ret
      exact ⟨ret_bool (by rw [HN.out]), below_drewN' HB1.out _⟩

set_option maxRecDepth 100000 in
set_option maxHeartbeats 2000000 in
theorem ssat7 (c : Con) (cv xv : Value) (x : List Int) (w : World) (h : RdCon w cv c) (hx : RdInts w xv x) (hk : c.kind = 7) (hl : c.args.length = 2 * x.length) (hn4 : x.length ≤ 4) (ha : Small c.args 0 9) (hv : Small x 0 5) :
    Calls Tryz.prog 180 #[cv, xv] w (BoolPost (decide (∀ t : Nat, t < 15 → loadS c.args x x.length t x.length ≤ c.bound)) w) := by
  obtain ⟨a2, a3, a5, c2, c3, c5, rfl, h2, h3, h5⟩ := rdCon_slices h
  obtain ⟨ax, cx, ev, -⟩ := id hx
  rw [ev] at hx ⊢
  obtain ⟨W1, hW1⟩ : ∃ W1, w.alloc (.cells #[.int .i64 c.kind, .slice a2 c.vars.length c2, .slice a3 c.args.length c3, .int .i64 c.bound, .slice a5 c.rows.length c5] 110) = W1 := ⟨_, rfl⟩
  have B1 : Below w.heap.size w W1 := by rw [← hW1]; exact (Below.refl _ _).alloc (Nat.le_refl _) _
  have bP : Blk5 W1 w.heap.size 110 (.int .i64 c.kind) (.slice a2 c.vars.length c2) (.slice a3 c.args.length c3) (.int .i64 c.bound) (.slice a5 c.rows.length c5) := by rw [← hW1]; exact Blk5.new w _ _ _ _ _ _
  have HC := Lib.hid (h.below B1)
  have HX := Lib.hid (hx.below B1)
  have HA := Lib.hid (h3.below B1)
  have HR := Lib.hid (h5.below B1)
  have HB1 := Lib.hid B1
  have HW := Lib.hid hW1
  rw [hk] at bP HW HC ⊢
  clear hk
  have HP := Lib.hid bP
  obtain ⟨n, hn⟩ : ∃ n, n = x.length := ⟨_, rfl⟩
  have HN := Lib.hid hn
  rw [← hn] at HX ⊢
  have hca := (rdInts_cap HA.out).2
  have hcx := (rdInts_cap HX.out).2
  have hcr := (rdRows_cap HR.out).2
  clear h hx h2 h3 h5 hW1 B1 bP ev hn
  obtain ⟨p0, p1, p2, p3, p4⟩ := HP.out.cell
  go_enter Tryz.func180, Tryz.ntmps180
  have HU := Lib.hid (withinCapacity_any _ _ _ x _ HC.out HX.out hl hn4 ha hv)
  clear hl hn4 ha hv
  go_wp2_with fail
  rw [HW.out]
  refine (HU.out).mono ?_
  rintro e w9 ⟨rfl, b9⟩
  have HB9 := Lib.hid (HB1.out.trans (b9.mono HB1.out.size))
  clear b9
  go_wp2
  go_ret
  exact ⟨ret_bool (by rw [← HN.out]), HB9.out⟩

set_option maxRecDepth 100000 in
set_option maxHeartbeats 2000000 in
theorem ssat8 (c : Con) (cv xv : Value) (x : List Int) (w : World) (h : RdCon w cv c) (hx : RdInts w xv x) (hk : c.kind = 8) (hr8 : 1 ≤ c.rows.length ∧ c.rows.length ≤ 8) (hn4 : x.length ≤ 4) (hrow : ∀ j, j < c.rows.length → (c.rows[j]?.getD []).length = 6 ∧ Small (c.rows[j]?.getD []) (-1) (c.rows.length - 1)) (hv : Small x 0 5) :
    Calls Tryz.prog 180 #[cv, xv] w (BoolPost (decide (∀ j : Nat, j ≤ x.length → 0 ≤ runS c.rows x j) && decide (runS c.rows x x.length ∈ c.args)) w) := by
  obtain ⟨a2, a3, a5, c2, c3, c5, rfl, h2, h3, h5⟩ := rdCon_slices h
  obtain ⟨ax, cx, ev, -⟩ := id hx
  rw [ev] at hx ⊢
  obtain ⟨W1, hW1⟩ : ∃ W1, w.alloc (.cells #[.int .i64 c.kind, .slice a2 c.vars.length c2, .slice a3 c.args.length c3, .int .i64 c.bound, .slice a5 c.rows.length c5] 110) = W1 := ⟨_, rfl⟩
  have B1 : Below w.heap.size w W1 := by rw [← hW1]; exact (Below.refl _ _).alloc (Nat.le_refl _) _
  have bP : Blk5 W1 w.heap.size 110 (.int .i64 c.kind) (.slice a2 c.vars.length c2) (.slice a3 c.args.length c3) (.int .i64 c.bound) (.slice a5 c.rows.length c5) := by rw [← hW1]; exact Blk5.new w _ _ _ _ _ _
  have HC := Lib.hid (h.below B1)
  have HX := Lib.hid (hx.below B1)
  have HA := Lib.hid (h3.below B1)
  have HR := Lib.hid (h5.below B1)
  have HB1 := Lib.hid B1
  have HW := Lib.hid hW1
  rw [hk] at bP HW HC ⊢
  clear hk
  have HP := Lib.hid bP
  obtain ⟨n, hn⟩ : ∃ n, n = x.length := ⟨_, rfl⟩
  have HN := Lib.hid hn
  rw [← hn] at HX ⊢
  have hca := (rdInts_cap HA.out).2
  have hcx := (rdInts_cap HX.out).2
  have hcr := (rdRows_cap HR.out).2
  clear h hx h2 h3 h5 hW1 B1 bP ev hn
  obtain ⟨p0, p1, p2, p3, p4⟩ := HP.out.cell
  go_enter Tryz.func180, Tryz.ntmps180
  have HU := Lib.hid (accepts_any _ _ _ x _ HC.out HX.out hr8 hn4 hrow hv)
  clear hr8 hn4 hrow hv
  go_wp2_with fail
  rw [HW.out]
  refine (HU.out).mono ?_
  rintro e w9 ⟨rfl, b9⟩
  have HB9 := Lib.hid (HB1.out.trans (b9.mono HB1.out.size))
  clear b9
  go_wp2
  go_ret
  exact ⟨ret_bool (by rw [← HN.out]), HB9.out⟩

set_option maxRecDepth 100000 in
set_option maxHeartbeats 2000000 in
theorem ssat9 (c : Con) (cv xv : Value) (x : List Int) (w : World) (h : RdCon w cv c) (hx : RdInts w xv x) (hk : c.kind = 9) (hn1 : 1 ≤ x.length) (hn4 : x.length ≤ 4) (hv : Small x 0 5) :
    Calls Tryz.prog 180 #[cv, xv] w (BoolPost (goS x 0 1 x.length) w) := by
  obtain ⟨a2, a3, a5, c2, c3, c5, rfl, h2, h3, h5⟩ := rdCon_slices h
  obtain ⟨ax, cx, ev, -⟩ := id hx
  rw [ev] at hx ⊢
  obtain ⟨W1, hW1⟩ : ∃ W1, w.alloc (.cells #[.int .i64 c.kind, .slice a2 c.vars.length c2, .slice a3 c.args.length c3, .int .i64 c.bound, .slice a5 c.rows.length c5] 110) = W1 := ⟨_, rfl⟩
  have B1 : Below w.heap.size w W1 := by rw [← hW1]; exact (Below.refl _ _).alloc (Nat.le_refl _) _
  have bP : Blk5 W1 w.heap.size 110 (.int .i64 c.kind) (.slice a2 c.vars.length c2) (.slice a3 c.args.length c3) (.int .i64 c.bound) (.slice a5 c.rows.length c5) := by rw [← hW1]; exact Blk5.new w _ _ _ _ _ _
  have HC := Lib.hid (h.below B1)
  have HX := Lib.hid (hx.below B1)
  have HA := Lib.hid (h3.below B1)
  have HR := Lib.hid (h5.below B1)
  have HB1 := Lib.hid B1
  have HW := Lib.hid hW1
  rw [hk] at bP HW HC ⊢
  clear hk
  have HP := Lib.hid bP
  obtain ⟨n, hn⟩ : ∃ n, n = x.length := ⟨_, rfl⟩
  have HN := Lib.hid hn
  rw [← hn] at HX ⊢
  have hca := (rdInts_cap HA.out).2
  have hcx := (rdInts_cap HX.out).2
  have hcr := (rdRows_cap HR.out).2
  clear h hx h2 h3 h5 hW1 B1 bP ev hn
  obtain ⟨p0, p1, p2, p3, p4⟩ := HP.out.cell
  go_enter Tryz.func180, Tryz.ntmps180
  go_wp2_with fail
  rw [HW.out]
  refine (isCircuit_any _ x _ HX.out hn1 hn4 hv).mono ?_
  rintro e w9 ⟨rfl, m1, rfl⟩
  have HB9 := Lib.hid (below_drewN' HB1.out m1)
  rw [← HN.out]
  go_wp2
  go_ret
  exact ⟨ret_bool (by simp), HB9.out⟩

end Go.Proofs.YtipapmmjfoaddaaGreat
