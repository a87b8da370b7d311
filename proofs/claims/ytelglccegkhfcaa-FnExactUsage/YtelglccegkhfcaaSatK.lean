/- The program's rules, kind by kind. The program's rules: tables, capacity, automata, circuits. One test of satisfaction for both packages. -/
import Derived.Test.YtelglccegkhfcaaSatP
import Derived.Test.YtelglccegkhfcaaSatQ

/-! The program's rules, kind by kind. -/
namespace Go.Proofs.Ytelglccegkhfcaa
open Go.ChangeShapes Go.WideShapes Go.ChangeAt Go.RowKit
set_option linter.unusedVariables false
set_option linter.unusedSimpArgs false

set_option maxRecDepth 100000 in
set_option maxHeartbeats 2000000 in
theorem wsum_any (ov xv : Value) (o x : List Int) (w : World) (ho : RdInts w ov o) (hx : RdInts w xv x) (hl : o.length = x.length) (hn4 : x.length ≤ 4) (ha : Small o (-9) 9) (hv : Small x 0 5) :
    Calls Try.prog 182 #[ov, xv] w fun e w' => e = .returned (.int .i64 (linS o x x.length)) ∧ w = w' := by
  obtain ⟨ax, cx, ev, -⟩ := id hx
  obtain ⟨ao, co, eo, -⟩ := id ho
  rw [ev] at hx ⊢
  rw [eo] at ho ⊢
  have HX := Lib.hid hx
  have HA := Lib.hid ho
  obtain ⟨n, hn⟩ : ∃ n, n = x.length := ⟨_, rfl⟩
  have HN := Lib.hid hn
  have HS := Lib.hid (linS_le ha hv hl)
  have HAL := Lib.hid ha
  have HVL := Lib.hid hv
  rw [← hn] at HX hl ⊢
  have HLN := Lib.hid hl
  rw [hl] at HA ⊢
  have hca := (rdInts_cap HA.out).2
  have hcx := (rdInts_cap HX.out).2
  have hn5 : n ≤ 4 := by have := HN.out; omega
  clear ho hx eo ev hn hl hn4 ha hv
  go_enter Try.func182, Try.ntmps182
  go_wp2
  go_loop [5, 10] (fun s i => ∃ k : Nat, k ≤ n ∧ i = .int .i64 k ∧ s = .int .i64 (linS o x k)) (fun _ i => n - (intOf i).toNat)
  case atStart => exact ⟨0, Nat.zero_le _, rfl, rfl⟩
  case round =>
    obtain ⟨k, hk, rfl, rfl⟩ := hrel
    have s1 := HS.out k (by have := HN.out; omega)
    by_cases hlt : k < n
    · obtain ⟨b1, o1, rfl, q1⟩ := rdInts_at HA.out hlt
      obtain ⟨b2, o2, rfl, q2⟩ := rdInts_at HX.out hlt
      have a1 := HAL.out k (by have := HN.out; have := HLN.out; omega)
      have a2 := HVL.out k (by have := HN.out; omega)
      have m1 := mul_small a1.1 a1.2 a2.1 a2.2
      go_wp2
      go_round
      case rel => exact ⟨k + 1, by omega, by go_num, rfl⟩
      case measure => simp [intOf]; omega
    · obtain rfl : k = n := by omega
      go_wp2
      go_ret
      exact ⟨rfl, rfl⟩

set_option maxRecDepth 100000 in
set_option maxHeartbeats 2000000 in
theorem isat1 (c : Con) (cv xv : Value) (x : List Int) (w : World) (h : RdCon w cv c) (hx : RdInts w xv x) (hl : c.args.length = x.length) (hn4 : x.length ≤ 4) (ha : Small c.args (-9) 9) (hv : Small x 0 5) :
    Calls Try.prog 154 #[cv, xv] w (BoolPost (decide (linS c.args x x.length ≤ c.bound)) w) := by
  obtain ⟨a2, a3, a5, c2, c3, c5, rfl, h2, h3, h5⟩ := rdCon_slices h
  obtain ⟨ax, cx, ev, -⟩ := id hx
  rw [ev] at hx ⊢
  obtain ⟨W1, hW1⟩ : ∃ W1, w.alloc (.cells #[.int .i64 c.kind, .slice a2 c.vars.length c2, .slice a3 c.args.length c3, .int .i64 c.bound, .slice a5 c.rows.length c5] 162) = W1 := ⟨_, rfl⟩
  have B1 : Below w.heap.size w W1 := by rw [← hW1]; exact (Below.refl _ _).alloc (Nat.le_refl _) _
  have bP : Blk5 W1 w.heap.size 162 (.int .i64 c.kind) (.slice a2 c.vars.length c2) (.slice a3 c.args.length c3) (.int .i64 c.bound) (.slice a5 c.rows.length c5) := by rw [← hW1]; exact Blk5.new w _ _ _ _ _ _
  have HC := Lib.hid (h.below B1)
  have HX := Lib.hid (hx.below B1)
  have HA := Lib.hid (h3.below B1)
  have HR := Lib.hid (h5.below B1)
  have HB1 := Lib.hid B1
  have HW := Lib.hid hW1
  have HP := Lib.hid bP
  obtain ⟨n, hn⟩ : ∃ n, n = x.length := ⟨_, rfl⟩
  have HN := Lib.hid hn
  rw [← hn] at HX ⊢
  have hca := (rdInts_cap HA.out).2
  have hcx := (rdInts_cap HX.out).2
  have hcr := (rdRows_cap HR.out).2
  clear h hx h2 h3 h5 hW1 B1 bP ev hn
  obtain ⟨p0, p1, p2, p3, p4⟩ := HP.out.cell
  go_enter Try.func154, Try.ntmps154
  have HU : Hid (∀ W, RdInts W (.slice a3 c.args.length c3) c.args → RdInts W (.slice ax n cx) x → Calls Try.prog 182 #[.slice a3 c.args.length c3, .slice ax n cx] W fun e w' => e = .returned (.int .i64 (linS c.args x x.length)) ∧ W = w') := Lib.hid (fun W q1 q2 => wsum_any _ _ c.args x W q1 q2 hl hn4 ha hv)
  obtain ⟨z, hz⟩ : ∃ z, z = linS c.args x x.length := ⟨_, rfl⟩
  rw [← hz] at HU
  have HZ := Lib.hid hz
  clear hl hn4 ha hv hz
  go_wp2_with fail
  rw [HW.out]
  go_quiet ((go_at_call 182; exact Calls.quiet_of ((HU.out _ (HA.out.drewN' _) (HX.out.drewN' _)).mono (fun e w' ⟨he, hw'⟩ => ⟨he, 0, hw'.symm⟩))))
  go_wp2
  go_ret
  exact ⟨ret_bool (by rw [HZ.out, ← HN.out]), below_drewN' HB1.out _⟩

set_option maxRecDepth 100000 in
set_option maxHeartbeats 2000000 in
theorem isat2 (c : Con) (cv xv : Value) (x : List Int) (w : World) (h : RdCon w cv c) (hx : RdInts w xv x) (hl : c.args.length = 1) (hn2 : x.length = 2) (ha : Small c.args (-9) 9) (hv : Small x 0 5) :
    Calls Try.prog 155 #[cv, xv] w (BoolPost (x[0]?.getD 0 != x[1]?.getD 0 + c.args[0]?.getD 0) w) := by
  obtain ⟨a2, a3, a5, c2, c3, c5, rfl, h2, h3, h5⟩ := rdCon_slices h
  obtain ⟨ax, cx, ev, -⟩ := id hx
  rw [ev] at hx ⊢
  obtain ⟨W1, hW1⟩ : ∃ W1, w.alloc (.cells #[.int .i64 c.kind, .slice a2 c.vars.length c2, .slice a3 c.args.length c3, .int .i64 c.bound, .slice a5 c.rows.length c5] 163) = W1 := ⟨_, rfl⟩
  have B1 : Below w.heap.size w W1 := by rw [← hW1]; exact (Below.refl _ _).alloc (Nat.le_refl _) _
  have bP : Blk5 W1 w.heap.size 163 (.int .i64 c.kind) (.slice a2 c.vars.length c2) (.slice a3 c.args.length c3) (.int .i64 c.bound) (.slice a5 c.rows.length c5) := by rw [← hW1]; exact Blk5.new w _ _ _ _ _ _
  have HC := Lib.hid (h.below B1)
  have HX := Lib.hid (hx.below B1)
  have HA := Lib.hid (h3.below B1)
  have HR := Lib.hid (h5.below B1)
  have HB1 := Lib.hid B1
  have HW := Lib.hid hW1
  have HP := Lib.hid bP
  obtain ⟨n, hn⟩ : ∃ n, n = x.length := ⟨_, rfl⟩
  have HN := Lib.hid hn
  rw [← hn] at HX ⊢
  have hca := (rdInts_cap HA.out).2
  have hcx := (rdInts_cap HX.out).2
  have hcr := (rdRows_cap HR.out).2
  clear h hx h2 h3 h5 hW1 B1 bP ev hn
  obtain ⟨p0, p1, p2, p3, p4⟩ := HP.out.cell
  go_enter Try.func155, Try.ntmps155
  have hn5 : n = 2 := by have := HN.out; omega
  have a1 := ha 0 (by omega)
  have y0 := hv 0 (by omega)
  have y1 := hv 1 (by omega)
  rw [hl] at HA HW p2 hca ⊢
  obtain ⟨b1, o1, rfl, q1⟩ := rdInts_at HA.out (i := 0) (by omega)
  rw [Nat.add_zero] at q1
  obtain ⟨b2, o2, rfl, q2⟩ := rdInts_at HX.out (i := 0) (by omega)
  rw [Nat.add_zero] at q2
  obtain ⟨b3, o3, e3, q3⟩ := rdInts_at HX.out (i := 1) (by omega)
  simp at e3
  obtain ⟨rfl, rfl⟩ := e3
  clear ha hv hn2 hl
  subst hn5
  go_wp2_with fail
  rw [HW.out]
  go_quiet (fail)
  go_wp2
  go_ret
  exact ⟨ret_bool rfl, below_drewN' HB1.out _⟩

set_option maxRecDepth 100000 in
set_option maxHeartbeats 2000000 in
theorem isat3 (c : Con) (cv xv : Value) (x : List Int) (w : World) (h : RdCon w cv c) (hx : RdInts w xv x) (hv : allB x 0 5 = true) :
    Calls Try.prog 156 #[cv, xv] w (BoolPost (dstB x) w) := by
  obtain ⟨a2, a3, a5, c2, c3, c5, rfl, h2, h3, h5⟩ := rdCon_slices h
  obtain ⟨ax, cx, ev, -⟩ := id hx
  rw [ev] at hx ⊢
  obtain ⟨W1, hW1⟩ : ∃ W1, w.alloc (.cells #[.int .i64 c.kind, .slice a2 c.vars.length c2, .slice a3 c.args.length c3, .int .i64 c.bound, .slice a5 c.rows.length c5] 164) = W1 := ⟨_, rfl⟩
  have B1 : Below w.heap.size w W1 := by rw [← hW1]; exact (Below.refl _ _).alloc (Nat.le_refl _) _
  have bP : Blk5 W1 w.heap.size 164 (.int .i64 c.kind) (.slice a2 c.vars.length c2) (.slice a3 c.args.length c3) (.int .i64 c.bound) (.slice a5 c.rows.length c5) := by rw [← hW1]; exact Blk5.new w _ _ _ _ _ _
  have HC := Lib.hid (h.below B1)
  have HX := Lib.hid (hx.below B1)
  have HA := Lib.hid (h3.below B1)
  have HR := Lib.hid (h5.below B1)
  have HB1 := Lib.hid B1
  have HW := Lib.hid hW1
  have HP := Lib.hid bP
  obtain ⟨n, hn⟩ : ∃ n, n = x.length := ⟨_, rfl⟩
  have HN := Lib.hid hn
  rw [← hn] at HX ⊢
  have hca := (rdInts_cap HA.out).2
  have hcx := (rdInts_cap HX.out).2
  have hcr := (rdRows_cap HR.out).2
  clear h hx h2 h3 h5 hW1 B1 bP ev hn
  obtain ⟨p0, p1, p2, p3, p4⟩ := HP.out.cell
  go_enter Try.func156, Try.ntmps156
  have HD := Lib.hid hv
  clear hv
  go_wp2_with fail
  rw [HW.out]
  refine (areDistinct_any _ x 6 _ HX.out (by omega)).mono ?_
  rintro e w9 ⟨rfl, b9⟩
  have HB9 := Lib.hid (HB1.out.trans (b9.mono HB1.out.size))
  clear b9
  go_wp2
  go_ret
  exact ⟨ret_bool (by rw [HD.out]; simp), HB9.out⟩

set_option maxRecDepth 100000 in
set_option maxHeartbeats 2000000 in
theorem isat4 (c : Con) (cv xv : Value) (x : List Int) (w : World) (h : RdCon w cv c) (hx : RdInts w xv x) (hl : c.args.length ≤ 6) (hn2 : x.length = 2) (hv : Small x 0 5) :
    Calls Try.prog 157 #[cv, xv] w (BoolPost (decide (x[0]?.getD 0 < (c.args.length : Int)) && (c.args[(x[0]?.getD 0).toNat]?.getD 0 == x[1]?.getD 0)) w) := by
  obtain ⟨a2, a3, a5, c2, c3, c5, rfl, h2, h3, h5⟩ := rdCon_slices h
  obtain ⟨ax, cx, ev, -⟩ := id hx
  rw [ev] at hx ⊢
  obtain ⟨W1, hW1⟩ : ∃ W1, w.alloc (.cells #[.int .i64 c.kind, .slice a2 c.vars.length c2, .slice a3 c.args.length c3, .int .i64 c.bound, .slice a5 c.rows.length c5] 165) = W1 := ⟨_, rfl⟩
  have B1 : Below w.heap.size w W1 := by rw [← hW1]; exact (Below.refl _ _).alloc (Nat.le_refl _) _
  have bP : Blk5 W1 w.heap.size 165 (.int .i64 c.kind) (.slice a2 c.vars.length c2) (.slice a3 c.args.length c3) (.int .i64 c.bound) (.slice a5 c.rows.length c5) := by rw [← hW1]; exact Blk5.new w _ _ _ _ _ _
  have HC := Lib.hid (h.below B1)
  have HX := Lib.hid (hx.below B1)
  have HA := Lib.hid (h3.below B1)
  have HR := Lib.hid (h5.below B1)
  have HB1 := Lib.hid B1
  have HW := Lib.hid hW1
  have HP := Lib.hid bP
  obtain ⟨n, hn⟩ : ∃ n, n = x.length := ⟨_, rfl⟩
  have HN := Lib.hid hn
  rw [← hn] at HX ⊢
  have hca := (rdInts_cap HA.out).2
  have hcx := (rdInts_cap HX.out).2
  have hcr := (rdRows_cap HR.out).2
  clear h hx h2 h3 h5 hW1 B1 bP ev hn
  obtain ⟨p0, p1, p2, p3, p4⟩ := HP.out.cell
  go_enter Try.func157, Try.ntmps157
  have hn5 : n = 2 := by have := HN.out; omega
  have y0 := hv 0 (by omega)
  have y1 := hv 1 (by omega)
  obtain ⟨b2, o2, rfl, q2⟩ := rdInts_at HX.out (i := 0) (by omega)
  rw [Nat.add_zero] at q2
  obtain ⟨b3, o3, e3, q3⟩ := rdInts_at HX.out (i := 1) (by omega)
  simp at e3
  obtain ⟨rfl, rfl⟩ := e3
  obtain ⟨z, hz⟩ : ∃ z : Nat, x[0]?.getD 0 = (z : Int) := ⟨(x[0]?.getD 0).toNat, by omega⟩
  rw [hz] at q2 y0 ⊢
  clear hv hn2 hz
  subst hn5
  by_cases hlt : z < c.args.length
  · obtain ⟨b1, o1, rfl, q1⟩ := rdInts_at HA.out hlt
    have hd : ((z : Int) < (c.args.length : Int)) := by omega
    have HT : Hid ((decide ((z : Int) < (c.args.length : Int)) && (c.args[(z : Int).toNat]?.getD 0 == x[1]?.getD 0)) = (c.args[z]?.getD 0 == x[1]?.getD 0)) := Lib.hid (by rw [decide_eq_true hd]; simp)
    go_wp2_with fail
    rw [HW.out]
    go_quiet (fail)
    go_wp2
    go_ret
    exact ⟨ret_bool (by rw [HT.out]; simp [List.getElem?_eq_getElem hlt]), below_drewN' HB1.out _⟩
  · have hd : ¬ ((z : Int) < (c.args.length : Int)) := by omega
    have HT : Hid ((decide ((z : Int) < (c.args.length : Int)) && (c.args[(z : Int).toNat]?.getD 0 == x[1]?.getD 0)) = false) := Lib.hid (by rw [decide_eq_false hd]; simp)
    go_wp2_with fail
    rw [HW.out]
    go_quiet (fail)
    go_wp2
    go_ret
    exact ⟨ret_bool HT.out.symm, below_drewN' HB1.out _⟩

set_option maxRecDepth 100000 in
set_option maxHeartbeats 2000000 in
theorem isat6 (c : Con) (cv xv : Value) (x : List Int) (w : World) (h : RdCon w cv c) (hx : RdInts w xv x) (hl : c.args.length = 1) (hn4 : x.length ≤ 4) :
    Calls Try.prog 159 #[cv, xv] w (BoolPost (cntS (c.args[0]?.getD 0) x x.length == c.bound) w) := by
  obtain ⟨a2, a3, a5, c2, c3, c5, rfl, h2, h3, h5⟩ := rdCon_slices h
  obtain ⟨ax, cx, ev, -⟩ := id hx
  rw [ev] at hx ⊢
  obtain ⟨W1, hW1⟩ : ∃ W1, w.alloc (.cells #[.int .i64 c.kind, .slice a2 c.vars.length c2, .slice a3 c.args.length c3, .int .i64 c.bound, .slice a5 c.rows.length c5] 167) = W1 := ⟨_, rfl⟩
  have B1 : Below w.heap.size w W1 := by rw [← hW1]; exact (Below.refl _ _).alloc (Nat.le_refl _) _
  have bP : Blk5 W1 w.heap.size 167 (.int .i64 c.kind) (.slice a2 c.vars.length c2) (.slice a3 c.args.length c3) (.int .i64 c.bound) (.slice a5 c.rows.length c5) := by rw [← hW1]; exact Blk5.new w _ _ _ _ _ _
  have HC := Lib.hid (h.below B1)
  have HX := Lib.hid (hx.below B1)
  have HA := Lib.hid (h3.below B1)
  have HR := Lib.hid (h5.below B1)
  have HB1 := Lib.hid B1
  have HW := Lib.hid hW1
  have HP := Lib.hid bP
  obtain ⟨n, hn⟩ : ∃ n, n = x.length := ⟨_, rfl⟩
  have HN := Lib.hid hn
  rw [← hn] at HX ⊢
  have hca := (rdInts_cap HA.out).2
  have hcx := (rdInts_cap HX.out).2
  have hcr := (rdRows_cap HR.out).2
  clear h hx h2 h3 h5 hW1 B1 bP ev hn
  obtain ⟨p0, p1, p2, p3, p4⟩ := HP.out.cell
  go_enter Try.func159, Try.ntmps159
  have hn5 : n ≤ 4 := by have := HN.out; omega
  rw [hl] at HA HW p2 hca ⊢
  obtain ⟨b1, o1, rfl, q1⟩ := rdInts_at HA.out (i := 0) (by omega)
  rw [Nat.add_zero] at q1
  obtain ⟨a, haa⟩ : ∃ a, a = c.args[0]?.getD 0 := ⟨_, rfl⟩
  rw [← haa] at q1 ⊢
  clear haa hl hn4
  go_wp2
  rw [HW.out]
  go_loopw [5, 10] (fun s i wr => ∃ k nq : Nat, k ≤ n ∧ i = .int .i64 k ∧ s = .int .i64 (cntS a x k) ∧ wr = W1.drewN nq) (fun _ i _ => n - (intOf i).toNat)
  case atStart => exact ⟨0, 0, Nat.zero_le _, rfl, rfl, rfl⟩
  case round =>
    obtain ⟨k, nq, hk, rfl, rfl, rfl⟩ := hrel
    have s1 := cntS_le a x k
    by_cases hlt : k < n
    · obtain ⟨b2, o2, rfl, q2⟩ := rdInts_at HX.out hlt
      by_cases he : x[k]?.getD 0 = a
      · have hb : (x[k]?.getD 0 == a) = true := by simp [he]
        have HS := Lib.hid (show cntS a x (k + 1) = cntS a x k + 1 from by rw [cntS, if_pos he])
        clear he
        go_wp2
        go_roundw
        case rel => exact ⟨k + 1, _, by omega, by go_num, by rw [HS.out], rfl⟩
        case measure => simp [intOf]; omega
      · have hb : (x[k]?.getD 0 == a) = false := by simp [he]
        have HS := Lib.hid (show cntS a x (k + 1) = cntS a x k from by rw [cntS, if_neg he])
        clear he
        go_wp2
        go_roundw
        case rel => exact ⟨k + 1, _, by omega, by go_num, by rw [HS.out], rfl⟩
        case measure => simp [intOf]; omega
    · obtain rfl : k = n := by omega
      go_wp2
      go_ret
      exact ⟨ret_bool (by rw [HN.out]), below_drewN' HB1.out _⟩

end Go.Proofs.Ytelglccegkhfcaa

/-! The program's rules: tables, capacity, automata, circuits. -/
namespace Go.Proofs.Ytelglccegkhfcaa
open Go.ChangeShapes Go.WideShapes Go.ChangeAt Go.RowKit
set_option linter.unusedVariables false
set_option linter.unusedSimpArgs false

set_option maxRecDepth 100000 in
set_option maxHeartbeats 1000000 in
theorem slicesEqual_any (v1 v2 : Value) (xs ys : List Int) (w : World) (h1 : RdInts w v1 xs) (h2 : RdInts w v2 ys) :
    Calls Try.prog 131 #[v1, v2] w (EqPost xs ys w) := by
  obtain ⟨a1, c1, rfl, hl1, hm1, h1⟩ := h1
  obtain ⟨a2, c2, rfl, hl2, hm2, h2⟩ := h2
  unfold maxLen at hm1 hm2
  by_cases hl : xs.length = ys.length
  · have hne : ((xs.length : Int) != (ys.length : Int)) = false := by simp [hl]
    by_cases h0 : xs.length = 0
    · have hx : xs = [] := List.eq_nil_of_length_eq_zero h0
      have hy : ys = [] := List.eq_nil_of_length_eq_zero (by omega)
      subst hx hy
      clear h1 h2
      go_enter Try.func131, Try.ntmps131
      go_wp2
      go_loop [13] (fun i => i = .int .i64 0) (fun _ => 0)
      case atStart => rfl
      case round =>
        subst hrel
        go_wp2
        go_ret
        exact ⟨rfl, 0, rfl⟩
    · rcases h1 with h1 | ⟨b1, o1, rfl, g1⟩
      · omega
      rcases h2 with h2 | ⟨b2, o2, rfl, g2⟩
      · omega
      have HL := Lib.hid hl
      rw [← hl] at g2 hne ⊢
      obtain ⟨n, hn⟩ : ∃ n, n = xs.length := ⟨_, rfl⟩
      rw [← hn] at g1 g2 hne hl1 h0 ⊢
      have HN := Lib.hid hn
      clear hl hn
      go_enter Try.func131, Try.ntmps131
      go_wp2
      go_loopw [13] (fun i wr => ∃ k nq : Nat, k ≤ n ∧ i = .int .i64 k ∧ Hid (∀ j, j < k → xs[j]?.getD 0 = ys[j]?.getD 0) ∧ wr = w.drewN nq) (fun i _ => n - (intOf i).toNat)
      case atStart => exact ⟨0, 0, Nat.zero_le _, rfl, fun j hj => by omega, rfl⟩
      case round =>
        obtain ⟨k, nq, hk, rfl, HE, rfl⟩ := hrel
        by_cases hlt : k < n
        · have q1 := g1 k hlt
          have q2 := g2 k hlt
          clear g1 g2
          by_cases he : xs[k]?.getD 0 = ys[k]?.getD 0
          · have hb : (xs[k]?.getD 0 != ys[k]?.getD 0) = false := by simp [he]
            have HX := Lib.hid he
            clear he
            go_wp2_with fail
            go_quiet (fail)
            go_wp2
            go_roundw
            case rel => exact ⟨k + 1, _, by omega, by go_num, fun j hj => by by_cases e : j = k; (· subst e; exact HX.out); (· exact HE.out j (by omega)), rfl⟩
            case measure => simp [intOf]; omega
          · have hb : (xs[k]?.getD 0 != ys[k]?.getD 0) = true := by simp [he]
            go_wp2_with fail
            go_quiet (fail)
            go_wp2
            go_ret
            refine ⟨ret_bool (decide_eq_false (fun e => he (by rw [e]))).symm, ?_⟩
            rw [World.drewN_drewN]
            exact ⟨_, rfl⟩
        · obtain rfl : k = n := by omega
          have hfin : decide (xs = ys) = true := by rw [decide_eq_true_iff]; exact getD_ext HL.out (fun j hj => HE.out j (by have := HN.out; omega))
          have HF := Lib.hid hfin
          clear hfin g1 g2
          go_wp2
          go_ret
          exact ⟨ret_bool HF.out.symm, _, rfl⟩
  · have hne : ((xs.length : Int) != (ys.length : Int)) = true := by simp; omega
    clear h1 h2
    go_enter Try.func131, Try.ntmps131
    go_wp2
    go_ret
    exact ⟨ret_bool (decide_eq_false (fun e => hl (by rw [e]))).symm, 0, rfl⟩



set_option maxRecDepth 100000 in
set_option maxHeartbeats 1000000 in
theorem slicesIndex_any (xv : Value) (x : List Int) (v : Int) (w : World) (hx : RdInts w xv x) :
    Calls Try.prog 170 #[xv, .int .i64 v] w fun e w' => ∃ r : Int, e = .returned (.int .i64 r) ∧ (0 ≤ r ↔ v ∈ x) ∧ w = w' := by
  have HX := Lib.hid hx
  obtain ⟨ax, cx, e2, _⟩ := hx
  rw [e2] at HX ⊢
  obtain ⟨n, hn⟩ : ∃ n, n = x.length := ⟨_, rfl⟩
  rw [← hn] at HX ⊢
  have HN := Lib.hid hn
  clear e2 hn
  have hc2 := (rdInts_cap HX.out).2
  go_enter Try.func170, Try.ntmps170
  go_wp2
  go_loop [8] (fun i => ∃ k : Nat, k ≤ n ∧ i = .int .i64 k ∧ Hid (∀ j, j < k → x[j]?.getD 0 ≠ v)) (fun i => n - (intOf i).toNat)
  case atStart => exact ⟨0, Nat.zero_le _, rfl, fun j hj => by omega⟩
  case round =>
    obtain ⟨k, hk, rfl, HE⟩ := hrel
    by_cases hlt : k < n
    · obtain ⟨b1, o1, rfl, q1⟩ := rdInts_at HX.out hlt
      by_cases he : v = x[k]?.getD 0
      · have hb : (v == x[k]?.getD 0) = true := by simp [he]
        have HM : Hid (v ∈ x) := Lib.hid (by have hk' : k < x.length := by have := HN.out; omega
                                             rw [he, List.getElem?_eq_getElem hk']; exact List.getElem_mem hk')
        clear he
        go_wp2
        go_ret
        exact ⟨k, rfl, ⟨fun _ => HM.out, fun _ => by omega⟩, rfl⟩
      · have hb : (v == x[k]?.getD 0) = false := by simp [he]
        have HE2 := Lib.hid (Ne.symm he)
        clear he
        go_wp2
        go_round
        case rel => exact ⟨k + 1, by omega, by go_num, fun j hj => by by_cases e : j = k; (· subst e; exact HE2.out); (· exact HE.out j (by omega))⟩
        case measure => simp [intOf]; omega
    · obtain rfl : k = n := by omega
      have HM : Hid (¬ v ∈ x) := Lib.hid (fun hm => by
        obtain ⟨j, hj, e⟩ := List.mem_iff_getElem.1 hm
        exact HE.out j (by have := HN.out; omega) (by rw [List.getElem?_eq_getElem hj]; exact e))
      clear HE
      go_wp2
      go_ret
      exact ⟨-1, rfl, ⟨fun h => by omega, fun h => (HM.out h).elim⟩, rfl⟩
set_option maxRecDepth 100000 in
theorem slicesContains_any (xv : Value) (x : List Int) (v : Int) (w : World) (hx : RdInts w xv x) :
    Calls Try.prog 140 #[xv, .int .i64 v] w fun e w' => e = .returned (.bool (decide (v ∈ x))) ∧ w = w' := by
  have HX := Lib.hid hx
  obtain ⟨ax, cx, e2, _⟩ := hx
  rw [e2] at HX ⊢
  clear e2
  go_enter Try.func140, Try.ntmps140
  go_wp2_with fail
  refine (slicesIndex_any _ x v _ HX.out).mono ?_
  rintro e w9 ⟨r, rfl, hr, rfl⟩
  have HR := Lib.hid hr
  clear hr
  by_cases h : 0 ≤ r
  · have HM := Lib.hid (HR.out.1 h)
    go_wp2
    go_ret
    exact ⟨ret_bool (by rw [decide_eq_true HM.out]), rfl⟩
  · have HM : Hid (¬ v ∈ x) := Lib.hid (fun hm => h (HR.out.2 hm))
    go_wp2
    go_ret
    exact ⟨ret_bool (by rw [decide_eq_false HM.out]; simp; omega), rfl⟩

set_option maxRecDepth 100000 in
set_option maxHeartbeats 2000000 in
theorem isat5 (c : Con) (cv xv : Value) (x : List Int) (w : World) (h : RdCon w cv c) (hx : RdInts w xv x)  :
    Calls Try.prog 158 #[cv, xv] w (BoolPost (decide (x ∈ c.rows)) w) := by
  obtain ⟨a2, a3, a5, c2, c3, c5, rfl, h2, h3, h5⟩ := rdCon_slices h
  obtain ⟨ax, cx, ev, -⟩ := id hx
  rw [ev] at hx ⊢
  obtain ⟨W1, hW1⟩ : ∃ W1, w.alloc (.cells #[.int .i64 c.kind, .slice a2 c.vars.length c2, .slice a3 c.args.length c3, .int .i64 c.bound, .slice a5 c.rows.length c5] 166) = W1 := ⟨_, rfl⟩
  have B1 : Below w.heap.size w W1 := by rw [← hW1]; exact (Below.refl _ _).alloc (Nat.le_refl _) _
  have bP : Blk5 W1 w.heap.size 166 (.int .i64 c.kind) (.slice a2 c.vars.length c2) (.slice a3 c.args.length c3) (.int .i64 c.bound) (.slice a5 c.rows.length c5) := by rw [← hW1]; exact Blk5.new w _ _ _ _ _ _
  have HC := Lib.hid (h.below B1)
  have HX := Lib.hid (hx.below B1)
  have HA := Lib.hid (h3.below B1)
  have HR := Lib.hid (h5.below B1)
  have HB1 := Lib.hid B1
  have HW := Lib.hid hW1
  have HP := Lib.hid bP
  obtain ⟨n, hn⟩ : ∃ n, n = x.length := ⟨_, rfl⟩
  have HN := Lib.hid hn
  rw [← hn] at HX ⊢
  have hca := (rdInts_cap HA.out).2
  have hcx := (rdInts_cap HX.out).2
  have hcr := (rdRows_cap HR.out).2
  clear h hx h2 h3 h5 hW1 B1 bP ev hn
  obtain ⟨p0, p1, p2, p3, p4⟩ := HP.out.cell
  go_enter Try.func158, Try.ntmps158
  obtain ⟨m, hm⟩ : ∃ m, m = c.rows.length := ⟨_, rfl⟩
  rw [← hm] at HR HW p4 hcr ⊢
  have HM := Lib.hid hm
  clear hm
  go_wp2
  rw [HW.out]
  go_loopw [10] (fun i wr => ∃ k nq : Nat, k ≤ m ∧ i = .int .i64 k ∧ Hid (∀ j, j < k → c.rows[j]?.getD [] ≠ x) ∧ wr = W1.drewN nq) (fun i _ => m - (intOf i).toNat)
  case atStart => exact ⟨0, 0, Nat.zero_le _, rfl, fun j hj => by omega, rfl⟩
  case round =>
    obtain ⟨k, nq, hk, rfl, HE, rfl⟩ := hrel
    by_cases hlt : k < m
    · obtain ⟨b1, o1, a1, c1, rfl, q1, r1⟩ := rdRows_at HR.out hlt
      have R1 := Lib.hid r1
      clear r1
      cases he : decide (c.rows[k]?.getD [] = x)
      · have HE2 := Lib.hid (of_decide_eq_false he)
        go_wp2_with fail
        refine (slicesEqual_any _ _ (c.rows[k]?.getD []) x _ (R1.out.drewN' _) (HX.out.drewN' _)).mono ?_
        rintro e w9 ⟨rfl, m1, rfl⟩
        rw [he, World.drewN_drewN]
        go_wp2
        go_roundw
        case rel => exact ⟨k + 1, _, by omega, by go_num, fun j hj => by by_cases e : j = k; (· subst e; exact HE2.out); (· exact HE.out j (by omega)), rfl⟩
        case measure => simp [intOf]; omega
      · have HQ : Hid (decide (x ∈ c.rows) = true) := Lib.hid (by
          rw [decide_eq_true_iff, ← of_decide_eq_true he]
          have hk' : k < c.rows.length := by have := HM.out; omega
          rw [List.getElem?_eq_getElem hk']
          exact List.getElem_mem hk')
        go_wp2_with fail
        refine (slicesEqual_any _ _ (c.rows[k]?.getD []) x _ (R1.out.drewN' _) (HX.out.drewN' _)).mono ?_
        rintro e w9 ⟨rfl, m1, rfl⟩
        rw [he, World.drewN_drewN]
        go_wp2
        go_ret
        exact ⟨ret_bool HQ.out.symm, below_drewN' HB1.out _⟩
    · obtain rfl : k = m := by omega
      have HQ : Hid (decide (x ∈ c.rows) = false) := Lib.hid (by
        rw [decide_eq_false_iff_not]
        intro hx
        obtain ⟨j, hj, e⟩ := List.mem_iff_getElem.1 hx
        exact HE.out j (by have := HM.out; omega) (by rw [List.getElem?_eq_getElem hj]; exact e))
      clear HE
      go_wp2
      go_ret
      exact ⟨ret_bool HQ.out.symm, below_drewN' HB1.out _⟩

set_option maxRecDepth 100000 in
set_option maxHeartbeats 2000000 in
theorem usage_any (c : Con) (cv xv : Value) (x : List Int) (w : World) (h : RdCon w cv c) (hx : RdInts w xv x) (hl : c.args.length = 2 * x.length) (hn4 : x.length ≤ 4) (ha : Small c.args 0 9) (hv : Small x 0 5) (hn1 : 1 ≤ x.length) (t : Int) (ht : 0 ≤ t ∧ t ≤ 5) :
    Calls Try.prog 183 #[cv, xv, .int .i64 t] w (fun e w' => e = .returned (.int .i64 (loadS c.args x x.length t x.length)) ∧ Below w.heap.size w w') := by
  obtain ⟨a2, a3, a5, c2, c3, c5, rfl, h2, h3, h5⟩ := rdCon_slices h
  obtain ⟨ax, cx, ev, -⟩ := id hx
  rw [ev] at hx ⊢
  obtain ⟨W1, hW1⟩ : ∃ W1, w.alloc (.cells #[.int .i64 c.kind, .slice a2 c.vars.length c2, .slice a3 c.args.length c3, .int .i64 c.bound, .slice a5 c.rows.length c5] 168) = W1 := ⟨_, rfl⟩
  have B1 : Below w.heap.size w W1 := by rw [← hW1]; exact (Below.refl _ _).alloc (Nat.le_refl _) _
  have bP : Blk5 W1 w.heap.size 168 (.int .i64 c.kind) (.slice a2 c.vars.length c2) (.slice a3 c.args.length c3) (.int .i64 c.bound) (.slice a5 c.rows.length c5) := by rw [← hW1]; exact Blk5.new w _ _ _ _ _ _
  have HC := Lib.hid (h.below B1)
  have HX := Lib.hid (hx.below B1)
  have HA := Lib.hid (h3.below B1)
  have HR := Lib.hid (h5.below B1)
  have HB1 := Lib.hid B1
  have HW := Lib.hid hW1
  have HP := Lib.hid bP
  obtain ⟨n, hn⟩ : ∃ n, n = x.length := ⟨_, rfl⟩
  have HN := Lib.hid hn
  rw [← hn] at HX ⊢
  have hca := (rdInts_cap HA.out).2
  have hcx := (rdInts_cap HX.out).2
  have hcr := (rdRows_cap HR.out).2
  clear h hx h2 h3 h5 hW1 B1 bP ev hn
  obtain ⟨p0, p1, p2, p3, p4⟩ := HP.out.cell
  go_enter Try.func183, Try.ntmps183
  have hn5 : n ≤ 4 := by have := HN.out; omega
  have hn6 : 1 ≤ n := by have := HN.out; omega
  have hl' : c.args.length = 2 * n := by have := HN.out; omega
  have HS := Lib.hid (fun (k : Nat) (hk : k ≤ n) => loadS_le (xs := x) (n := n) ha (by omega) t k hk)
  have HAL := Lib.hid ha
  have HVL := Lib.hid hv
  have HL' := Lib.hid hl'
  obtain ⟨b1, o1, rfl, _⟩ := rdInts_at HA.out (i := 0) (by omega)
  rw [hl'] at HA HW p2 hca ⊢
  clear ha hv hl hn4 hn1 hl'
  go_wp2_with fail
  rw [HW.out]
  go_quiet (fail)
  go_wp2
  go_loop [9, 24] (fun s i => ∃ q : Nat, q ≤ n ∧ i = .int .i64 q ∧ s = .int .i64 (loadS c.args x n t q)) (fun _ i => n - (intOf i).toNat)
  case atStart => exact ⟨0, Nat.zero_le _, rfl, rfl⟩
  case round =>
    obtain ⟨q, hq, rfl, rfl⟩ := hrel
    have s1 := HS.out q hq
    by_cases hlt : q < n
    · obtain ⟨b2, o2, e2, q1⟩ := rdInts_at HA.out (i := q) (by omega)
      simp at e2
      obtain ⟨rfl, rfl⟩ := e2
      obtain ⟨b3, o3, e3, q3⟩ := rdInts_at HA.out (i := n + q) (by omega)
      simp at e3
      obtain ⟨rfl, rfl⟩ := e3
      rw [← Nat.add_assoc] at q3
      obtain ⟨b2, o2, rfl, q2⟩ := rdInts_at HX.out hlt
      have g1 := HAL.out q (by have := HL'.out; omega)
      have g2 := HAL.out (n + q) (by have := HL'.out; omega)
      have g3 := HVL.out q (by have := HN.out; omega)
      by_cases hd1 : x[q]?.getD 0 ≤ t
      · by_cases hd2 : t < x[q]?.getD 0 + c.args[q]?.getD 0
        · have hb1 : decide (x[q]?.getD 0 ≤ t) = true := decide_eq_true hd1
          have hb2 : decide (t < x[q]?.getD 0 + c.args[q]?.getD 0) = true := decide_eq_true hd2
          have HT := Lib.hid (loadS_yes (n := n) hd1 hd2)
          go_wp2
          go_round
          case rel => exact ⟨q + 1, by omega, by go_num, by rw [HT.out]⟩
          case measure => simp [intOf]; omega
        · have hb1 : decide (x[q]?.getD 0 ≤ t) = true := decide_eq_true hd1
          have hb2 : decide (t < x[q]?.getD 0 + c.args[q]?.getD 0) = false := decide_eq_false hd2
          have HT := Lib.hid (loadS_no (n := n) (fun h => hd2 h.2))
          clear hd2
          go_wp2
          go_round
          case rel => exact ⟨q + 1, by omega, by go_num, by rw [HT.out]⟩
          case measure => simp [intOf]; omega
      · have hb1 : decide (x[q]?.getD 0 ≤ t) = false := decide_eq_false hd1
        have HT := Lib.hid (loadS_no (ar := c.args) (n := n) (fun h => hd1 h.1))
        clear hd1
        go_wp2
        go_round
        case rel => exact ⟨q + 1, by omega, by go_num, by rw [HT.out]⟩
        case measure => simp [intOf]; omega
    · obtain rfl : q = n := by omega
      go_wp2
      go_ret
      exact ⟨ret_int (by rw [HN.out]), below_drewN' HB1.out _⟩

set_option maxRecDepth 100000 in
set_option maxHeartbeats 2000000 in
theorem isat7 (c : Con) (cv xv : Value) (x : List Int) (w : World) (h : RdCon w cv c) (hx : RdInts w xv x) (hl : c.args.length = 2 * x.length) (hn4 : x.length ≤ 4) (ha : Small c.args 0 9) (hv : Small x 0 5) (hn1 : 1 ≤ x.length) :
    Calls Try.prog 160 #[cv, xv] w (BoolPost (decide (∀ j : Nat, j < x.length → loadS c.args x x.length (x[j]?.getD 0) x.length ≤ c.bound)) w) := by
  obtain ⟨a2, a3, a5, c2, c3, c5, rfl, h2, h3, h5⟩ := rdCon_slices h
  obtain ⟨ax, cx, ev, -⟩ := id hx
  rw [ev] at hx ⊢
  obtain ⟨W1, hW1⟩ : ∃ W1, w.alloc (.cells #[.int .i64 c.kind, .slice a2 c.vars.length c2, .slice a3 c.args.length c3, .int .i64 c.bound, .slice a5 c.rows.length c5] 168) = W1 := ⟨_, rfl⟩
  have B1 : Below w.heap.size w W1 := by rw [← hW1]; exact (Below.refl _ _).alloc (Nat.le_refl _) _
  have bP : Blk5 W1 w.heap.size 168 (.int .i64 c.kind) (.slice a2 c.vars.length c2) (.slice a3 c.args.length c3) (.int .i64 c.bound) (.slice a5 c.rows.length c5) := by rw [← hW1]; exact Blk5.new w _ _ _ _ _ _
  have HC := Lib.hid (h.below B1)
  have HX := Lib.hid (hx.below B1)
  have HA := Lib.hid (h3.below B1)
  have HR := Lib.hid (h5.below B1)
  have HB1 := Lib.hid B1
  have HW := Lib.hid hW1
  have HP := Lib.hid bP
  obtain ⟨n, hn⟩ : ∃ n, n = x.length := ⟨_, rfl⟩
  have HN := Lib.hid hn
  rw [← hn] at HX ⊢
  have hca := (rdInts_cap HA.out).2
  have hcx := (rdInts_cap HX.out).2
  have hcr := (rdRows_cap HR.out).2
  clear h hx h2 h3 h5 hW1 B1 bP ev hn
  obtain ⟨p0, p1, p2, p3, p4⟩ := HP.out.cell
  go_enter Try.func160, Try.ntmps160
  have hn5 : n ≤ 4 := by have := HN.out; omega
  have HU := Lib.hid (fun (v1 v2 : Value) (w0 : World) (h : RdCon w0 v1 c) (hx : RdInts w0 v2 x) (t : Int) (ht : 0 ≤ t ∧ t ≤ 5) => usage_any c v1 v2 x w0 h hx hl hn4 ha hv hn1 t ht)
  have HVL := Lib.hid hv
  have HS := Lib.hid (fun (t : Int) => loadS_le (xs := x) (n := n) ha (by have := HN.out; omega) t n (Nat.le_refl _))
  clear ha hv hl hn4 hn1
  go_wp2
  rw [HW.out]
  go_loopw [9] (fun i wr => ∃ k : Nat, k ≤ n ∧ i = .int .i64 k ∧ Hid (∀ j, j < k → loadS c.args x n (x[j]?.getD 0) n ≤ c.bound) ∧ Hid (Below W1.heap.size W1 wr)) (fun i _ => n - (intOf i).toNat)
  case atStart => exact ⟨0, Nat.zero_le _, rfl, fun j hj => by omega, Lib.hid (Below.refl _ _)⟩
  case round =>
    obtain ⟨k, hk, rfl, HE, HBE⟩ := hrel
    clear p0 p1 p2 p3 p4
    obtain ⟨p0, p1, p2, p3, p4⟩ := (HP.out.below HBE.out).cell
    have HBw : Hid (Below w.heap.size w wr) := Lib.hid (HB1.out.trans (HBE.out.mono HB1.out.size))
    by_cases hlt : k < n
    · obtain ⟨b2, o2, rfl, q2⟩ := rdInts_at (HX.out.below HBE.out) hlt
      have g3 := HVL.out k (by have := HN.out; omega)
      have s1 := HS.out (x[k]?.getD 0)
      have R1 : Hid (RdCon wr.drew _ c) := Lib.hid (HC.out.below HBE.out).drew
      have R2 : Hid (RdInts wr.drew _ x) := Lib.hid (HX.out.below HBE.out).drew
      have HP2 := Lib.hid ((HP.out.below HBE.out).drew)
      have HBd : Hid (Below w.heap.size w wr.drew) := Lib.hid HBw.out.drew
      have HBe : Hid (Below W1.heap.size W1 wr.drew) := Lib.hid HBE.out.drew
      by_cases hb : loadS c.args x n (x[k]?.getD 0) n ≤ c.bound
      · have HT := Lib.hid hb
        go_wp2_with fail
        go_region_with (go_at_call 183; refine (HU.out _ _ _ R1.out R2.out _ g3).mono ?_; rintro e w9 ⟨rfl, b9⟩; obtain ⟨y0, y1, y2, y3, y4⟩ := (HP2.out.below b9).cell; have B9 := Lib.hid (HBe.out.trans (b9.mono HBe.out.size)); clear b9; rw [← HN.out])
        all_goals go_wp2
        all_goals go_roundw
        all_goals first
          | exact ⟨k + 1, by omega, by go_num, fun j hj => by by_cases e : j = k; (· subst e; exact HT.out); (· exact HE.out j (by omega)), B9⟩
          | (simp [intOf]; omega)
      · have HF := Lib.hid (decide_eq_false (fun h : ∀ j, j < n → loadS c.args x n (x[j]?.getD 0) n ≤ c.bound => hb (h k hlt)))
        go_wp2_with fail
        go_region_with (go_at_call 183; refine (HU.out _ _ _ R1.out R2.out _ g3).mono ?_; rintro e w9 ⟨rfl, b9⟩; obtain ⟨y0, y1, y2, y3, y4⟩ := (HP2.out.below b9).cell; have B9 := Lib.hid (HBd.out.trans (b9.mono HBd.out.size)); clear b9; rw [← HN.out])
        all_goals go_wp2
        all_goals go_ret
        all_goals exact ⟨ret_bool HF.out.symm, B9.out⟩
    · obtain rfl : k = n := by omega
      have HF := Lib.hid (decide_eq_true (fun t ht => HE.out t ht : ∀ j, j < k → loadS c.args x k (x[j]?.getD 0) k ≤ c.bound))
      go_wp2
      go_ret
      exact ⟨ret_bool HF.out.symm, HBw.out⟩

set_option maxRecDepth 100000 in
set_option maxHeartbeats 2000000 in
theorem isat8 (c : Con) (cv xv : Value) (x : List Int) (w : World) (h : RdCon w cv c) (hx : RdInts w xv x) (hr8 : 1 ≤ c.rows.length ∧ c.rows.length ≤ 8) (hn4 : x.length ≤ 8) (hrow : ∀ j, j < c.rows.length → (c.rows[j]?.getD []).length = 6 ∧ Small (c.rows[j]?.getD []) (-1) (c.rows.length - 1)) (hv : Small x 0 5) :
    Calls Try.prog 106 #[cv, xv] w (BoolPost (decide (∀ j : Nat, j ≤ x.length → 0 ≤ runS c.rows x j) && decide (runS c.rows x x.length ∈ c.args)) w) := by
  obtain ⟨a2, a3, a5, c2, c3, c5, rfl, h2, h3, h5⟩ := rdCon_slices h
  obtain ⟨ax, cx, ev, -⟩ := id hx
  rw [ev] at hx ⊢
  obtain ⟨W1, hW1⟩ : ∃ W1, w.alloc (.cells #[.int .i64 c.kind, .slice a2 c.vars.length c2, .slice a3 c.args.length c3, .int .i64 c.bound, .slice a5 c.rows.length c5] 113) = W1 := ⟨_, rfl⟩
  have B1 : Below w.heap.size w W1 := by rw [← hW1]; exact (Below.refl _ _).alloc (Nat.le_refl _) _
  have bP : Blk5 W1 w.heap.size 113 (.int .i64 c.kind) (.slice a2 c.vars.length c2) (.slice a3 c.args.length c3) (.int .i64 c.bound) (.slice a5 c.rows.length c5) := by rw [← hW1]; exact Blk5.new w _ _ _ _ _ _
  have HC := Lib.hid (h.below B1)
  have HX := Lib.hid (hx.below B1)
  have HA := Lib.hid (h3.below B1)
  have HR := Lib.hid (h5.below B1)
  have HB1 := Lib.hid B1
  have HW := Lib.hid hW1
  have HP := Lib.hid bP
  obtain ⟨n, hn⟩ : ∃ n, n = x.length := ⟨_, rfl⟩
  have HN := Lib.hid hn
  rw [← hn] at HX ⊢
  have hca := (rdInts_cap HA.out).2
  have hcx := (rdInts_cap HX.out).2
  have hcr := (rdRows_cap HR.out).2
  clear h hx h2 h3 h5 hW1 B1 bP ev hn
  obtain ⟨p0, p1, p2, p3, p4⟩ := HP.out.cell
  go_enter Try.func106, Try.ntmps106
  have hn5 : n ≤ 8 := by have := HN.out; omega
  have HVL := Lib.hid hv
  have HRW := Lib.hid hrow
  have HRB := Lib.hid (runS_bnd hr8.1 hrow hv)
  obtain ⟨m, hm⟩ : ∃ m, m = c.rows.length := ⟨_, rfl⟩
  rw [← hm] at HR HW hr8 p4 hcr ⊢
  have HM := Lib.hid hm
  clear hv hrow hn4 hm
  obtain ⟨hm1, hm8⟩ := hr8
  go_wp2
  rw [HW.out]
  go_loop [5, 10] (fun s i => ∃ q st : Nat, q ≤ n ∧ i = .int .i64 q ∧ s = .int .i64 st ∧ st < m ∧ Hid (runS c.rows x q = st) ∧ Hid (∀ j, j ≤ q → 0 ≤ runS c.rows x j)) (fun _ i => n - (intOf i).toNat)
  case atStart => exact ⟨0, 0, Nat.zero_le _, rfl, rfl, by omega, Lib.hid rfl, Lib.hid (fun j hj => by rw [show j = 0 from by omega]; simp [runS])⟩
  case round =>
    obtain ⟨q, st, hq, rfl, rfl, hst, HG, HE⟩ := hrel
    by_cases hlt : q < n
    · obtain ⟨b1, o1, a1, c1, rfl, q1, r1⟩ := rdRows_at HR.out hst
      obtain ⟨r, hr⟩ : ∃ r, r = c.rows[st]?.getD [] := ⟨_, rfl⟩
      have hrl : r.length = 6 := by rw [hr]; exact (HRW.out st (by have := HM.out; omega)).1
      rw [← hr] at q1 r1
      rw [hrl] at q1 r1
      obtain ⟨b2, o2, rfl, q2⟩ := rdInts_at HX.out hlt
      have g3 := HVL.out q (by have := HN.out; omega)
      obtain ⟨z, hz⟩ : ∃ z : Nat, x[q]?.getD 0 = (z : Int) := ⟨(x[q]?.getD 0).toNat, by omega⟩
      rw [hz] at q2 g3
      obtain ⟨b3, o3, rfl, q3⟩ := rdInts_at r1 (i := z) (by omega)
      obtain ⟨y, hy⟩ : ∃ y, y = r[z]?.getD 0 := ⟨_, rfl⟩
      rw [← hy] at q3
      have HY : Hid (runS c.rows x (q + 1) = y) := Lib.hid (by rw [runS, HG.out, hz, hy, hr]; rfl)
      have hyb := HRB.out (q + 1) (by have := HN.out; omega) (fun j hj => HE.out j (by omega))
      rw [HY.out, ← HM.out] at hyb
      have hc3 := (rdInts_cap r1).2
      clear hr hrl hz hy r1
      by_cases hneg : y < 0
      · have hy1 : y = -1 := by omega
        have HF : Hid ((decide (∀ j, j ≤ n → 0 ≤ runS c.rows x j) && decide (runS c.rows x n ∈ c.args)) = false) := Lib.hid (by
          rw [decide_eq_false (fun h => by have := h (q + 1) (by omega); rw [HY.out] at this; omega)]; rfl)
        clear HY
        subst hy1
        go_wp2
        go_ret
        exact ⟨ret_bool HF.out.symm, HB1.out⟩
      · obtain ⟨s', hs'⟩ : ∃ s' : Nat, y = s' := ⟨y.toNat, by omega⟩
        subst hs'
        have hne : ((s' : Int) == -1) = false := by simp
        go_wp2
        go_round
        case rel => exact ⟨q + 1, s', by omega, by go_num, rfl, by omega, HY, Lib.hid (fun j hj => by by_cases e : j = q + 1; (· subst e; rw [HY.out]; omega); (· exact HE.out j (by omega)))⟩
        case measure => simp [intOf]; omega
    · obtain rfl : q = n := by omega
      have HD := Lib.hid (decide_eq_true (fun j hj => HE.out j hj : ∀ j, j ≤ q → 0 ≤ runS c.rows x j))
      clear HE
      go_wp2_with fail
      refine (slicesContains_any _ c.args st _ HA.out).mono ?_
      rintro e w9 ⟨rfl, rfl⟩
      go_wp2
      go_ret
      exact ⟨ret_bool (by rw [HD.out, HG.out]; simp), HB1.out⟩

/-- The test of a circuit, as the program walks it. -/
def goI (xs : List Int) (pos st : Nat) : Nat → Bool
  | 0 => decide (pos = 0) && decide (st = xs.length)
  | f + 1 => if pos ≠ 0 ∧ st < xs.length then goI xs (xs[pos]?.getD 0).toNat (st + 1) f else decide (pos = 0) && decide (st = xs.length)
theorem goI_end {xs : List Int} {pos st f : Nat} (h : ¬ (pos ≠ 0 ∧ st < xs.length)) : goI xs pos st f = (decide (pos = 0) && decide (st = xs.length)) := by
  cases f with
  | zero => rfl
  | succ f => rw [goI, if_neg h]

set_option maxRecDepth 100000 in
set_option maxHeartbeats 2000000 in
theorem isat9 (c : Con) (cv xv : Value) (x : List Int) (w : World) (h : RdCon w cv c) (hx : RdInts w xv x) (hn1 : 1 ≤ x.length) (hn4 : x.length ≤ 4) (hv : Small x 0 5) :
    Calls Try.prog 161 #[cv, xv] w (BoolPost (allB x 0 (x.length - 1) && goI x (x[0]?.getD 0).toNat 1 (x.length - 1)) w) := by
  obtain ⟨a2, a3, a5, c2, c3, c5, rfl, h2, h3, h5⟩ := rdCon_slices h
  obtain ⟨ax, cx, ev, -⟩ := id hx
  rw [ev] at hx ⊢
  obtain ⟨W1, hW1⟩ : ∃ W1, w.alloc (.cells #[.int .i64 c.kind, .slice a2 c.vars.length c2, .slice a3 c.args.length c3, .int .i64 c.bound, .slice a5 c.rows.length c5] 169) = W1 := ⟨_, rfl⟩
  have B1 : Below w.heap.size w W1 := by rw [← hW1]; exact (Below.refl _ _).alloc (Nat.le_refl _) _
  have bP : Blk5 W1 w.heap.size 169 (.int .i64 c.kind) (.slice a2 c.vars.length c2) (.slice a3 c.args.length c3) (.int .i64 c.bound) (.slice a5 c.rows.length c5) := by rw [← hW1]; exact Blk5.new w _ _ _ _ _ _
  have HC := Lib.hid (h.below B1)
  have HX := Lib.hid (hx.below B1)
  have HA := Lib.hid (h3.below B1)
  have HR := Lib.hid (h5.below B1)
  have HB1 := Lib.hid B1
  have HW := Lib.hid hW1
  have HP := Lib.hid bP
  obtain ⟨n, hn⟩ : ∃ n, n = x.length := ⟨_, rfl⟩
  have HN := Lib.hid hn
  rw [← hn] at HX ⊢
  have hca := (rdInts_cap HA.out).2
  have hcx := (rdInts_cap HX.out).2
  have hcr := (rdRows_cap HR.out).2
  clear h hx h2 h3 h5 hW1 B1 bP ev hn
  obtain ⟨p0, p1, p2, p3, p4⟩ := HP.out.cell
  go_enter Try.func161, Try.ntmps161
  have hn5 : n ≤ 4 := by have := HN.out; omega
  have hn6 : 1 ≤ n := by have := HN.out; omega
  have HVL := Lib.hid hv
  clear hv hn4 hn1
  go_wp2_with fail
  rw [HW.out]
  refine (allWithin_any _ x _ _ _ HX.out).mono ?_
  rintro e w9 ⟨rfl, rfl⟩
  cases hw : allB x 0 ((n : Int) - 1)
  · go_wp2
    go_ret
    exact ⟨ret_bool (by rw [hw]; rfl), HB1.out⟩
  have HI := Lib.hid (fun (j : Nat) (hj : j < n) => allB_at hw (j := j) (by have := HN.out; omega))
  have y0 := HI.out 0 (by omega)
  obtain ⟨z0, hz0⟩ : ∃ z0 : Nat, x[0]?.getD 0 = (z0 : Int) := ⟨(x[0]?.getD 0).toNat, by omega⟩
  obtain ⟨b1, o1, rfl, q0⟩ := rdInts_at HX.out (i := 0) (by omega)
  rw [Nat.add_zero] at q0
  rw [hz0] at y0 q0
  have HZ := Lib.hid hz0
  clear hz0
  go_wp2
  go_loop [5, 6] (fun p s => ∃ pos st : Nat, pos < n ∧ 1 ≤ st ∧ st ≤ n ∧ p = .int .i64 pos ∧ s = .int .i64 st ∧ Hid (goI x z0 1 (n - 1) = goI x pos st (n - st))) (fun _ i => n - (intOf i).toNat)
  case atStart => exact ⟨z0, 1, by omega, by omega, by omega, rfl, rfl, Lib.hid rfl⟩
  case round =>
    obtain ⟨pos, st, hp, hs1, hs, rfl, rfl, HG⟩ := hrel
    by_cases h0 : pos = 0
    · subst h0
      by_cases hsn : st = n
      · have HF : Hid (goI x z0 1 (n - 1) = true) := Lib.hid (by rw [HG.out, goI_end (fun h => h.1 rfl), ← HN.out, hsn]; simp)
        subst hsn
        go_wp2
        go_ret
        exact ⟨ret_bool (by rw [HZ.out, Int.toNat_natCast]; exact HF.out.symm), HB1.out⟩
      · have HF : Hid (goI x z0 1 (n - 1) = false) := Lib.hid (by rw [HG.out, goI_end (fun h => h.1 rfl), ← HN.out, decide_eq_false hsn]; simp)
        have hd : ((st : Int) == (n : Int)) = false := by simp; omega
        go_wp2
        go_ret
        exact ⟨ret_bool (by rw [HZ.out, Int.toNat_natCast]; exact HF.out.symm), HB1.out⟩
    · have hd0 : ((pos : Int) != 0) = true := by simp; omega
      have hd1 : ((pos : Int) == 0) = false := by simp; omega
      by_cases hsn : st < n
      · obtain ⟨b2, o2, e2, q2⟩ := rdInts_at HX.out hp
        simp at e2
        obtain ⟨rfl, rfl⟩ := e2
        have y1 := HI.out pos hp
        obtain ⟨z, hz⟩ : ∃ z : Nat, x[pos]?.getD 0 = (z : Int) := ⟨(x[pos]?.getD 0).toNat, by omega⟩
        have HG2 : Hid (goI x pos st (n - st) = goI x z (st + 1) (n - (st + 1))) := Lib.hid (by rw [show n - st = (n - (st + 1)) + 1 from by omega, goI, if_pos ⟨h0, by have := HN.out; omega⟩, hz]; rfl)
        rw [hz] at q2 y1
        clear hz
        go_wp2
        go_round
        case rel => exact ⟨z, st + 1, by omega, by omega, by omega, rfl, by go_num, Lib.hid (by rw [HG.out, HG2.out])⟩
        case measure => simp [intOf]; omega
      · have HF : Hid (goI x z0 1 (n - 1) = false) := Lib.hid (by rw [HG.out, goI_end (fun h => by have := HN.out; omega), decide_eq_false h0]; rfl)
        go_wp2
        go_ret
        exact ⟨ret_bool (by rw [HZ.out, Int.toNat_natCast]; exact HF.out.symm), HB1.out⟩

end Go.Proofs.Ytelglccegkhfcaa

/-! One test of satisfaction for both packages. -/
namespace Go.Proofs.Ytelglccegkhfcaa
open Go.ChangeShapes Go.WideShapes Go.ChangeAt Go.RowKit
set_option linter.unusedVariables false
set_option linter.unusedSimpArgs false

/-- Task i runs at time t. -/
def RunAt (ar xs : List Int) (t : Int) (i : Nat) : Prop := xs[i]?.getD 0 ≤ t ∧ t < xs[i]?.getD 0 + ar[i]?.getD 0
theorem load_zero {ar xs : List Int} {n : Nat} {t : Int} (k : Nat) (h : ∀ i, i < k → ¬ RunAt ar xs t i) : loadS ar xs n t k = 0 := by
  induction k with
  | zero => rfl
  | succ k ih => rw [loadS_no (h k (by omega)), ih (fun i hi => h i (by omega))]
theorem load_mono {ar xs : List Int} {n : Nat} (ha : Small ar 0 9) (hl : ar.length = 2 * n) {t s : Int} (k : Nat) (hk : k ≤ n) (h : ∀ i, i < k → RunAt ar xs t i → RunAt ar xs s i) : loadS ar xs n t k ≤ loadS ar xs n s k := by
  induction k with
  | zero => exact Int.le_refl _
  | succ k ih =>
    have i := ih (by omega) (fun i hi => h i (by omega))
    have a := ha (n + k) (by omega)
    by_cases ht : RunAt ar xs t k
    · have hs := h k (by omega) ht
      rw [loadS_yes ht.1 ht.2, loadS_yes hs.1 hs.2]
      omega
    · rw [loadS_no ht]
      by_cases hs : RunAt ar xs s k
      · rw [loadS_yes hs.1 hs.2]; omega
      · rw [loadS_no hs]; exact i
theorem max_run (ar xs : List Int) (t : Int) (k : Nat) : (∀ i, i < k → ¬ RunAt ar xs t i) ∨ ∃ j, j < k ∧ RunAt ar xs t j ∧ ∀ i, i < k → RunAt ar xs t i → xs[i]?.getD 0 ≤ xs[j]?.getD 0 := by
  induction k with
  | zero => exact .inl fun i hi => by omega
  | succ k ih =>
    by_cases hk : RunAt ar xs t k
    · right
      rcases ih with ih | ⟨j, hj, hr, hm⟩
      · exact ⟨k, by omega, hk, fun i hi hr => by by_cases e : i = k; (· subst e; exact Int.le_refl _); (· exact (ih i (by omega) hr).elim)⟩
      · by_cases hc : xs[j]?.getD 0 ≤ xs[k]?.getD 0
        · exact ⟨k, by omega, hk, fun i hi hr => by by_cases e : i = k; (· subst e; exact Int.le_refl _); (· exact Int.le_trans (hm i (by omega) hr) hc)⟩
        · exact ⟨j, by omega, hr, fun i hi hr => by by_cases e : i = k; (· subst e; omega); (· exact hm i (by omega) hr)⟩
    · rcases ih with ih | ⟨j, hj, hr, hm⟩
      · exact .inl fun i hi => by by_cases e : i = k; (· subst e; exact hk); (· exact ih i (by omega))
      · exact .inr ⟨j, by omega, hr, fun i hi hr => by by_cases e : i = k; (· subst e; exact (hk hr).elim); (· exact hm i (by omega) hr)⟩
theorem cap_eq {ar xs : List Int} {bound : Int} (ha : Small ar 0 9) (hl : ar.length = 2 * xs.length) (hv : Small xs 0 5) (hb : 0 ≤ bound) :
    (decide (∀ t : Nat, t < 15 → loadS ar xs xs.length t xs.length ≤ bound)) = (decide (∀ j : Nat, j < xs.length → loadS ar xs xs.length (xs[j]?.getD 0) xs.length ≤ bound)) := by
  apply decide_eq_decide.2
  constructor
  · intro h j hj
    have := hv j hj
    have g := h (xs[j]?.getD 0).toNat (by omega)
    rwa [Int.toNat_of_nonneg this.1] at g
  · intro h t _
    rcases max_run ar xs t xs.length with h0 | ⟨j, hj, hr, hm⟩
    · rw [load_zero _ h0]; exact hb
    · refine Int.le_trans (load_mono ha hl xs.length (Nat.le_refl _) fun i hi hri => ⟨hm i hi hri, ?_⟩) (h j hj)
      have := hri.2
      have := hr.1
      omega

theorem circ1 : ∀ a : Fin 6, goS [(a.val : Int)] 0 1 1 = (allB [(a.val : Int)] 0 0 && goI [(a.val : Int)] a.val 1 0) := by decide +kernel
theorem circ2 : ∀ a b : Fin 6, goS [(a.val : Int), (b.val : Int)] 0 1 2 = (allB [(a.val : Int), (b.val : Int)] 0 1 && goI [(a.val : Int), (b.val : Int)] a.val 1 1) := by decide +kernel
theorem circ3 : ∀ a b c : Fin 6, goS [(a.val : Int), (b.val : Int), (c.val : Int)] 0 1 3 = (allB [(a.val : Int), (b.val : Int), (c.val : Int)] 0 2 && goI [(a.val : Int), (b.val : Int), (c.val : Int)] a.val 1 2) := by decide +kernel
set_option maxRecDepth 100000 in
theorem circ4 : ∀ a b c d : Fin 6, goS [(a.val : Int), (b.val : Int), (c.val : Int), (d.val : Int)] 0 1 4 = (allB [(a.val : Int), (b.val : Int), (c.val : Int), (d.val : Int)] 0 3 && goI [(a.val : Int), (b.val : Int), (c.val : Int), (d.val : Int)] a.val 1 3) := by decide +kernel
theorem fin6 {a : Int} (h : 0 ≤ a ∧ a ≤ 5) : ∃ f : Fin 6, a = (f.val : Int) := ⟨⟨a.toNat, by omega⟩, by simp; omega⟩
theorem circ_eq (x : List Int) (h1 : 1 ≤ x.length) (h4 : x.length ≤ 4) (hv : Small x 0 5) : goS x 0 1 x.length = (allB x 0 (x.length - 1) && goI x (x[0]?.getD 0).toNat 1 (x.length - 1)) := by
  match x, h1, h4, hv with
  | [a], _, _, hv =>
    obtain ⟨a, rfl⟩ := fin6 (hv 0 (by simp))
    exact circ1 a
  | [a, b], _, _, hv =>
    obtain ⟨a, rfl⟩ := fin6 (hv 0 (by simp))
    obtain ⟨b, rfl⟩ := fin6 (hv 1 (by simp))
    exact circ2 a b
  | [a, b, c], _, _, hv =>
    obtain ⟨a, rfl⟩ := fin6 (hv 0 (by simp))
    obtain ⟨b, rfl⟩ := fin6 (hv 1 (by simp))
    obtain ⟨c, rfl⟩ := fin6 (hv 2 (by simp))
    exact circ3 a b c
  | [a, b, c, d], _, _, hv =>
    obtain ⟨a, rfl⟩ := fin6 (hv 0 (by simp))
    obtain ⟨b, rfl⟩ := fin6 (hv 1 (by simp))
    obtain ⟨c, rfl⟩ := fin6 (hv 2 (by simp))
    obtain ⟨d, rfl⟩ := fin6 (hv 3 (by simp))
    exact circ4 a b c d

/-- The values x satisfy c. -/
def satB (c : Con) (x : List Int) : Bool :=
  if c.kind = 1 then decide (linS c.args x x.length ≤ c.bound)
  else if c.kind = 2 then x[0]?.getD 0 != x[1]?.getD 0 + c.args[0]?.getD 0
  else if c.kind = 3 then dstB x
  else if c.kind = 4 then decide (x[0]?.getD 0 < (c.args.length : Int)) && (c.args[(x[0]?.getD 0).toNat]?.getD 0 == x[1]?.getD 0)
  else if c.kind = 5 then decide (x ∈ c.rows)
  else if c.kind = 6 then cntS (c.args[0]?.getD 0) x x.length == c.bound
  else if c.kind = 7 then decide (∀ t : Nat, t < 15 → loadS c.args x x.length t x.length ≤ c.bound)
  else if c.kind = 8 then decide (∀ j : Nat, j ≤ x.length → 0 ≤ runS c.rows x j) && decide (runS c.rows x x.length ∈ c.args)
  else goS x 0 1 x.length

theorem small_of {xs : List Int} {lo hi : Int} (h : allB xs lo hi = true) : Small xs lo hi := fun j hj => allB_at h hj

/-- What the requirements of the kinds say. -/
theorem kind_cases {c : Con} (h : kindB c = true) :
    (c.kind = 1 ∧ c.args.length = c.vars.length ∧ Small c.args (-9) 9) ∨
    (c.kind = 2 ∧ c.vars.length = 2 ∧ c.args.length = 1 ∧ Small c.args (-9) 9) ∨
    c.kind = 3 ∨
    (c.kind = 4 ∧ c.vars.length = 2 ∧ c.args.length ≤ 6) ∨
    (c.kind = 5 ∧ ∀ j, j < c.rows.length → (c.rows[j]?.getD []).length = c.vars.length) ∨
    (c.kind = 6 ∧ c.args.length = 1) ∨
    (c.kind = 7 ∧ c.args.length = 2 * c.vars.length ∧ Small c.args 0 9 ∧ 0 ≤ c.bound) ∨
    (c.kind = 8 ∧ (1 ≤ c.rows.length ∧ c.rows.length ≤ 8) ∧ ∀ j, j < c.rows.length → (c.rows[j]?.getD []).length = 6 ∧ Small (c.rows[j]?.getD []) (-1) (c.rows.length - 1)) ∨
    c.kind = 9 := by
  have hrows : ∀ {rows : List (List Int)} {n lo hi : Int}, rowsB rows n lo hi = true → ∀ j, j < rows.length → ((rows[j]?.getD []).length : Int) = n ∧ Small (rows[j]?.getD []) lo hi := by
    intro rows n lo hi h j hj
    unfold rowsB at h
    rw [List.all_eq_true] at h
    have := h _ (List.getElem_mem hj)
    simp at this
    rw [List.getElem?_eq_getElem hj]
    exact ⟨this.1, small_of this.2⟩
  unfold kindB at h
  split at h
  · simp at h; exact .inl ⟨by assumption, by omega, small_of h.1.1.2⟩
  split at h
  · simp at h; exact .inr (.inl ⟨by assumption, by omega, by omega, small_of h.1.1.2⟩)
  split at h
  · exact .inr (.inr (.inl (by assumption)))
  split at h
  · simp at h; exact .inr (.inr (.inr (.inl ⟨by assumption, by omega, by have := wiB_in h.1.1.1.2; omega⟩)))
  split at h
  · simp at h; exact .inr (.inr (.inr (.inr (.inl ⟨by assumption, fun j hj => by have := (hrows h.2.1 j hj).1; omega⟩))))
  split at h
  · simp at h; exact .inr (.inr (.inr (.inr (.inr (.inl ⟨by assumption, by omega⟩)))))
  split at h
  · simp at h; exact .inr (.inr (.inr (.inr (.inr (.inr (.inl ⟨by assumption, by omega, small_of h.1.1.2, by have := wiB_in h.1.2; omega⟩))))))
  split at h
  · simp at h; exact .inr (.inr (.inr (.inr (.inr (.inr (.inr (.inl ⟨by assumption, by have := wiB_in h.1.1.1.2; omega, fun j hj => by have := hrows h.1.1.1.1 j hj; exact ⟨by omega, this.2⟩⟩)))))))
  split at h
  · exact .inr (.inr (.inr (.inr (.inr (.inr (.inr (.inr (by assumption))))))))
  · simp at h

/-- What a valid constraint and the values of its variables meet. -/
structure Fit (c : Con) (x : List Int) : Prop where
  kind : kindB c = true
  len : x.length = c.vars.length
  one : 1 ≤ x.length
  four : x.length ≤ 4
  small : Small x 0 5
  all : allB x 0 5 = true

end Go.Proofs.Ytelglccegkhfcaa
