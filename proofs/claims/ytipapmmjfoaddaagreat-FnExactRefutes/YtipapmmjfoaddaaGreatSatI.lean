/- The program's rules, kind by kind. -/
import Derived.Test.YtipapmmjfoaddaaGreatSatP
namespace Go.Proofs.YtipapmmjfoaddaaGreat
open Go.ChangeShapes Go.WideShapes Go.ChangeAt Go.RowKit
set_option linter.unusedVariables false
set_option linter.unusedSimpArgs false

set_option maxRecDepth 100000 in
set_option maxHeartbeats 2000000 in
theorem wsum_any (ov xv : Value) (o x : List Int) (w : World) (ho : RdInts w ov o) (hx : RdInts w xv x) (hl : o.length = x.length) (hn4 : x.length ≤ 4) (ha : Small o (-9) 9) (hv : Small x 0 5) :
    Calls Tryz.prog 185 #[ov, xv] w fun e w' => e = .returned (.int .i64 (linS o x x.length)) ∧ w = w' := by
  obtain ⟨ax, cx, ev, -⟩ := id hx
  obtain ⟨ao, co, eo, -⟩ := id ho
  rw [ev] at hx ⊢
  rw [eo] at ho ⊢
  have HX := Lib.hid hx
  have HA := Lib.hid ho
  obtain ⟨n, hn⟩ : ∃ n, n = x.length := ⟨_, rfl⟩
  have HN := Lib.hid hn
  have HS := Lib.hid (linS_le ha hv hl)
  have HAL := Lib.hid ha
  have HVL := Lib.hid hv
  rw [← hn] at HX hl ⊢
  have HLN := Lib.hid hl
  rw [hl] at HA ⊢
  have hca := (rdInts_cap HA.out).2
  have hcx := (rdInts_cap HX.out).2
  have hn5 : n ≤ 4 := by have := HN.out; omega
  clear ho hx eo ev hn hl hn4 ha hv
  go_enter Tryz.func185, Tryz.ntmps185
  go_wp2
  go_loop [5, 10] (fun s i => ∃ k : Nat, k ≤ n ∧ i = .int .i64 k ∧ s = .int .i64 (linS o x k)) (fun _ i => n - (intOf i).toNat)
  case atStart => exact ⟨0, Nat.zero_le _, rfl, rfl⟩
  case round =>
    obtain ⟨k, hk, rfl, rfl⟩ := hrel
    have s1 := HS.out k (by have := HN.out; omega)
    by_cases hlt : k < n
    · obtain ⟨b1, o1, rfl, q1⟩ := rdInts_at HA.out hlt
      obtain ⟨b2, o2, rfl, q2⟩ := rdInts_at HX.out hlt
      have a1 := HAL.out k (by have := HN.out; have := HLN.out; omega)
      have a2 := HVL.out k (by have := HN.out; omega)
      have m1 := mul_small a1.1 a1.2 a2.1 a2.2
      go_wp2
      go_round
      case rel => exact ⟨k + 1, by omega, by go_num, rfl⟩
      case measure => simp [intOf]; omega
    · obtain rfl : k = n := by omega
      go_wp2
      go_ret
      exact ⟨rfl, rfl⟩

set_option maxRecDepth 100000 in
set_option maxHeartbeats 2000000 in
theorem isat1 (c : Con) (cv xv : Value) (x : List Int) (w : World) (h : RdCon w cv c) (hx : RdInts w xv x) (hl : c.args.length = x.length) (hn4 : x.length ≤ 4) (ha : Small c.args (-9) 9) (hv : Small x 0 5) :
    Calls Tryz.prog 163 #[cv, xv] w (BoolPost (decide (linS c.args x x.length ≤ c.bound)) w) := by
  obtain ⟨a2, a3, a5, c2, c3, c5, rfl, h2, h3, h5⟩ := rdCon_slices h
  obtain ⟨ax, cx, ev, -⟩ := id hx
  rw [ev] at hx ⊢
  obtain ⟨W1, hW1⟩ : ∃ W1, w.alloc (.cells #[.int .i64 c.kind, .slice a2 c.vars.length c2, .slice a3 c.args.length c3, .int .i64 c.bound, .slice a5 c.rows.length c5] 166) = W1 := ⟨_, rfl⟩
  have B1 : Below w.heap.size w W1 := by rw [← hW1]; exact (Below.refl _ _).alloc (Nat.le_refl _) _
  have bP : Blk5 W1 w.heap.size 166 (.int .i64 c.kind) (.slice a2 c.vars.length c2) (.slice a3 c.args.length c3) (.int .i64 c.bound) (.slice a5 c.rows.length c5) := by rw [← hW1]; exact Blk5.new w _ _ _ _ _ _
  have HC := Lib.hid (h.below B1)
  have HX := Lib.hid (hx.below B1)
  have HA := Lib.hid (h3.below B1)
  have HR := Lib.hid (h5.below B1)
  have HB1 := Lib.hid B1
  have HW := Lib.hid hW1
  have HP := Lib.hid bP
  obtain ⟨n, hn⟩ : ∃ n, n = x.length := ⟨_, rfl⟩
  have HN := Lib.hid hn
  rw [← hn] at HX ⊢
  have hca := (rdInts_cap HA.out).2
  have hcx := (rdInts_cap HX.out).2
  have hcr := (rdRows_cap HR.out).2
  clear h hx h2 h3 h5 hW1 B1 bP ev hn
  obtain ⟨p0, p1, p2, p3, p4⟩ := HP.out.cell
  go_enter Tryz.func163, Tryz.ntmps163
  have HU : Hid (∀ W, RdInts W (.slice a3 c.args.length c3) c.args → RdInts W (.slice ax n cx) x → Calls Tryz.prog 185 #[.slice a3 c.args.length c3, .slice ax n cx] W fun e w' => e = .returned (.int .i64 (linS c.args x x.length)) ∧ W = w') := Lib.hid (fun W q1 q2 => wsum_any _ _ c.args x W q1 q2 hl hn4 ha hv)
  obtain ⟨z, hz⟩ : ∃ z, z = linS c.args x x.length := ⟨_, rfl⟩
  rw [← hz] at HU
  have HZ := Lib.hid hz
  clear hl hn4 ha hv hz
  go_wp2_with fail
  rw [HW.out]
  go_quiet ((go_at_call 185; exact Calls.quiet_of ((HU.out _ (HA.out.drewN' _) (HX.out.drewN' _)).mono (fun e w' ⟨he, hw'⟩ => ⟨he, 0, hw'.symm⟩))))
  go_wp2
  go_ret
  exact ⟨ret_bool (by rw [HZ.out, ← HN.out]), below_drewN' HB1.out _⟩

set_option maxRecDepth 100000 in
set_option maxHeartbeats 2000000 in
theorem isat2 (c : Con) (cv xv : Value) (x : List Int) (w : World) (h : RdCon w cv c) (hx : RdInts w xv x) (hl : c.args.length = 1) (hn2 : x.length = 2) (ha : Small c.args (-9) 9) (hv : Small x 0 5) :
    Calls Tryz.prog 164 #[cv, xv] w (BoolPost (x[0]?.getD 0 != x[1]?.getD 0 + c.args[0]?.getD 0) w) := by
  obtain ⟨a2, a3, a5, c2, c3, c5, rfl, h2, h3, h5⟩ := rdCon_slices h
  obtain ⟨ax, cx, ev, -⟩ := id hx
  rw [ev] at hx ⊢
  obtain ⟨W1, hW1⟩ : ∃ W1, w.alloc (.cells #[.int .i64 c.kind, .slice a2 c.vars.length c2, .slice a3 c.args.length c3, .int .i64 c.bound, .slice a5 c.rows.length c5] 167) = W1 := ⟨_, rfl⟩
  have B1 : Below w.heap.size w W1 := by rw [← hW1]; exact (Below.refl _ _).alloc (Nat.le_refl _) _
  have bP : Blk5 W1 w.heap.size 167 (.int .i64 c.kind) (.slice a2 c.vars.length c2) (.slice a3 c.args.length c3) (.int .i64 c.bound) (.slice a5 c.rows.length c5) := by rw [← hW1]; exact Blk5.new w _ _ _ _ _ _
  have HC := Lib.hid (h.below B1)
  have HX := Lib.hid (hx.below B1)
  have HA := Lib.hid (h3.below B1)
  have HR := Lib.hid (h5.below B1)
  have HB1 := Lib.hid B1
  have HW := Lib.hid hW1
  have HP := Lib.hid bP
  obtain ⟨n, hn⟩ : ∃ n, n = x.length := ⟨_, rfl⟩
  have HN := Lib.hid hn
  rw [← hn] at HX ⊢
  have hca := (rdInts_cap HA.out).2
  have hcx := (rdInts_cap HX.out).2
  have hcr := (rdRows_cap HR.out).2
  clear h hx h2 h3 h5 hW1 B1 bP ev hn
  obtain ⟨p0, p1, p2, p3, p4⟩ := HP.out.cell
  go_enter Tryz.func164, Tryz.ntmps164
  have hn5 : n = 2 := by have := HN.out; omega
  have a1 := ha 0 (by omega)
  have y0 := hv 0 (by omega)
  have y1 := hv 1 (by omega)
  rw [hl] at HA HW p2 hca ⊢
  obtain ⟨b1, o1, rfl, q1⟩ := rdInts_at HA.out (i := 0) (by omega)
  rw [Nat.add_zero] at q1
  obtain ⟨b2, o2, rfl, q2⟩ := rdInts_at HX.out (i := 0) (by omega)
  rw [Nat.add_zero] at q2
  obtain ⟨b3, o3, e3, q3⟩ := rdInts_at HX.out (i := 1) (by omega)
  simp at e3
  obtain ⟨rfl, rfl⟩ := e3
  clear ha hv hn2 hl
  subst hn5
  go_wp2_with fail
  rw [HW.out]
  go_quiet (fail)
  go_wp2
  go_ret
  exact ⟨ret_bool rfl, below_drewN' HB1.out _⟩

set_option maxRecDepth 100000 in
set_option maxHeartbeats 2000000 in
theorem isat3 (c : Con) (cv xv : Value) (x : List Int) (w : World) (h : RdCon w cv c) (hx : RdInts w xv x) (hv : allB x 0 5 = true) :
    Calls Tryz.prog 165 #[cv, xv] w (BoolPost (dstB x) w) := by
  obtain ⟨a2, a3, a5, c2, c3, c5, rfl, h2, h3, h5⟩ := rdCon_slices h
  obtain ⟨ax, cx, ev, -⟩ := id hx
  rw [ev] at hx ⊢
  obtain ⟨W1, hW1⟩ : ∃ W1, w.alloc (.cells #[.int .i64 c.kind, .slice a2 c.vars.length c2, .slice a3 c.args.length c3, .int .i64 c.bound, .slice a5 c.rows.length c5] 168) = W1 := ⟨_, rfl⟩
  have B1 : Below w.heap.size w W1 := by rw [← hW1]; exact (Below.refl _ _).alloc (Nat.le_refl _) _
  have bP : Blk5 W1 w.heap.size 168 (.int .i64 c.kind) (.slice a2 c.vars.length c2) (.slice a3 c.args.length c3) (.int .i64 c.bound) (.slice a5 c.rows.length c5) := by rw [← hW1]; exact Blk5.new w _ _ _ _ _ _
  have HC := Lib.hid (h.below B1)
  have HX := Lib.hid (hx.below B1)
  have HA := Lib.hid (h3.below B1)
  have HR := Lib.hid (h5.below B1)
  have HB1 := Lib.hid B1
  have HW := Lib.hid hW1
  have HP := Lib.hid bP
  obtain ⟨n, hn⟩ : ∃ n, n = x.length := ⟨_, rfl⟩
  have HN := Lib.hid hn
  rw [← hn] at HX ⊢
  have hca := (rdInts_cap HA.out).2
  have hcx := (rdInts_cap HX.out).2
  have hcr := (rdRows_cap HR.out).2
  clear h hx h2 h3 h5 hW1 B1 bP ev hn
  obtain ⟨p0, p1, p2, p3, p4⟩ := HP.out.cell
  go_enter Tryz.func165, Tryz.ntmps165
  have HD := Lib.hid hv
  clear hv
  go_wp2_with fail
  rw [HW.out]
  refine (areDistinct_any _ x 6 _ HX.out (by omega)).mono ?_
  rintro e w9 ⟨rfl, b9⟩
  have HB9 := Lib.hid (HB1.out.trans (b9.mono HB1.out.size))
  clear b9
  go_wp2
  go_ret
  exact ⟨ret_bool (by rw [HD.out]; simp), HB9.out⟩

set_option maxRecDepth 100000 in
set_option maxHeartbeats 2000000 in
theorem isat4 (c : Con) (cv xv : Value) (x : List Int) (w : World) (h : RdCon w cv c) (hx : RdInts w xv x) (hl : c.args.length ≤ 6) (hn2 : x.length = 2) (hv : Small x 0 5) :
    Calls Tryz.prog 166 #[cv, xv] w (BoolPost (decide (x[0]?.getD 0 < (c.args.length : Int)) && (c.args[(x[0]?.getD 0).toNat]?.getD 0 == x[1]?.getD 0)) w) := by
  obtain ⟨a2, a3, a5, c2, c3, c5, rfl, h2, h3, h5⟩ := rdCon_slices h
  obtain ⟨ax, cx, ev, -⟩ := id hx
  rw [ev] at hx ⊢
  obtain ⟨W1, hW1⟩ : ∃ W1, w.alloc (.cells #[.int .i64 c.kind, .slice a2 c.vars.length c2, .slice a3 c.args.length c3, .int .i64 c.bound, .slice a5 c.rows.length c5] 169) = W1 := ⟨_, rfl⟩
  have B1 : Below w.heap.size w W1 := by rw [← hW1]; exact (Below.refl _ _).alloc (Nat.le_refl _) _
  have bP : Blk5 W1 w.heap.size 169 (.int .i64 c.kind) (.slice a2 c.vars.length c2) (.slice a3 c.args.length c3) (.int .i64 c.bound) (.slice a5 c.rows.length c5) := by rw [← hW1]; exact Blk5.new w _ _ _ _ _ _
  have HC := Lib.hid (h.below B1)
  have HX := Lib.hid (hx.below B1)
  have HA := Lib.hid (h3.below B1)
  have HR := Lib.hid (h5.below B1)
  have HB1 := Lib.hid B1
  have HW := Lib.hid hW1
  have HP := Lib.hid bP
  obtain ⟨n, hn⟩ : ∃ n, n = x.length := ⟨_, rfl⟩
  have HN := Lib.hid hn
  rw [← hn] at HX ⊢
  have hca := (rdInts_cap HA.out).2
  have hcx := (rdInts_cap HX.out).2
  have hcr := (rdRows_cap HR.out).2
  clear h hx h2 h3 h5 hW1 B1 bP ev hn
  obtain ⟨p0, p1, p2, p3, p4⟩ := HP.out.cell
  go_enter Tryz.func166, Tryz.ntmps166
  have hn5 : n = 2 := by have := HN.out; omega
  have y0 := hv 0 (by omega)
  have y1 := hv 1 (by omega)
  obtain ⟨b2, o2, rfl, q2⟩ := rdInts_at HX.out (i := 0) (by omega)
  rw [Nat.add_zero] at q2
  obtain ⟨b3, o3, e3, q3⟩ := rdInts_at HX.out (i := 1) (by omega)
  simp at e3
  obtain ⟨rfl, rfl⟩ := e3
  obtain ⟨z, hz⟩ : ∃ z : Nat, x[0]?.getD 0 = (z : Int) := ⟨(x[0]?.getD 0).toNat, by omega⟩
  rw [hz] at q2 y0 ⊢
  clear hv hn2 hz
  subst hn5
  by_cases hlt : z < c.args.length
  · obtain ⟨b1, o1, rfl, q1⟩ := rdInts_at HA.out hlt
    have hd : ((z : Int) < (c.args.length : Int)) := by omega
    have HT : Hid ((decide ((z : Int) < (c.args.length : Int)) && (c.args[(z : Int).toNat]?.getD 0 == x[1]?.getD 0)) = (c.args[z]?.getD 0 == x[1]?.getD 0)) := Lib.hid (by rw [decide_eq_true hd]; simp)
    go_wp2_with fail
    rw [HW.out]
    go_quiet (fail)
    go_wp2
    go_ret
    exact ⟨ret_bool (by rw [HT.out]; simp [List.getElem?_eq_getElem hlt]), below_drewN' HB1.out _⟩
  · have hd : ¬ ((z : Int) < (c.args.length : Int)) := by omega
    have HT : Hid ((decide ((z : Int) < (c.args.length : Int)) && (c.args[(z : Int).toNat]?.getD 0 == x[1]?.getD 0)) = false) := Lib.hid (by rw [decide_eq_false hd]; simp)
    go_wp2_with fail
    rw [HW.out]
    go_quiet (fail)
    go_wp2
    go_ret
    exact ⟨ret_bool HT.out.symm, below_drewN' HB1.out _⟩

set_option maxRecDepth 100000 in
set_option maxHeartbeats 2000000 in
theorem isat6 (c : Con) (cv xv : Value) (x : List Int) (w : World) (h : RdCon w cv c) (hx : RdInts w xv x) (hl : c.args.length = 1) (hn4 : x.length ≤ 4) :
    Calls Tryz.prog 168 #[cv, xv] w (BoolPost (cntS (c.args[0]?.getD 0) x x.length == c.bound) w) := by
  obtain ⟨a2, a3, a5, c2, c3, c5, rfl, h2, h3, h5⟩ := rdCon_slices h
  obtain ⟨ax, cx, ev, -⟩ := id hx
  rw [ev] at hx ⊢
  obtain ⟨W1, hW1⟩ : ∃ W1, w.alloc (.cells #[.int .i64 c.kind, .slice a2 c.vars.length c2, .slice a3 c.args.length c3, .int .i64 c.bound, .slice a5 c.rows.length c5] 171) = W1 := ⟨_, rfl⟩
  have B1 : Below w.heap.size w W1 := by rw [← hW1]; exact (Below.refl _ _).alloc (Nat.le_refl _) _
  have bP : Blk5 W1 w.heap.size 171 (.int .i64 c.kind) (.slice a2 c.vars.length c2) (.slice a3 c.args.length c3) (.int .i64 c.bound) (.slice a5 c.rows.length c5) := by rw [← hW1]; exact Blk5.new w _ _ _ _ _ _
  have HC := Lib.hid (h.below B1)
  have HX := Lib.hid (hx.below B1)
  have HA := Lib.hid (h3.below B1)
  have HR := Lib.hid (h5.below B1)
  have HB1 := Lib.hid B1
  have HW := Lib.hid hW1
  have HP := Lib.hid bP
  obtain ⟨n, hn⟩ : ∃ n, n = x.length := ⟨_, rfl⟩
  have HN := Lib.hid hn
  rw [← hn] at HX ⊢
  have hca := (rdInts_cap HA.out).2
  have hcx := (rdInts_cap HX.out).2
  have hcr := (rdRows_cap HR.out).2
  clear h hx h2 h3 h5 hW1 B1 bP ev hn
  obtain ⟨p0, p1, p2, p3, p4⟩ := HP.out.cell
  go_enter Tryz.func168, Tryz.ntmps168
  have hn5 : n ≤ 4 := by have := HN.out; omega
  rw [hl] at HA HW p2 hca ⊢
  obtain ⟨b1, o1, rfl, q1⟩ := rdInts_at HA.out (i := 0) (by omega)
  rw [Nat.add_zero] at q1
  obtain ⟨a, haa⟩ : ∃ a, a = c.args[0]?.getD 0 := ⟨_, rfl⟩
  rw [← haa] at q1 ⊢
  clear haa hl hn4
  go_wp2
  rw [HW.out]
  go_loopw [5, 10] (fun s i wr => ∃ k nq : Nat, k ≤ n ∧ i = .int .i64 k ∧ s = .int .i64 (cntS a x k) ∧ wr = W1.drewN nq) (fun _ i _ => n - (intOf i).toNat)
  case atStart => exact ⟨0, 0, Nat.zero_le _, rfl, rfl, rfl⟩
  case round =>
    obtain ⟨k, nq, hk, rfl, rfl, rfl⟩ := hrel
    have s1 := cntS_le a x k
    by_cases hlt : k < n
    · obtain ⟨b2, o2, rfl, q2⟩ := rdInts_at HX.out hlt
      by_cases he : x[k]?.getD 0 = a
      · have hb : (x[k]?.getD 0 == a) = true := by simp [he]
        have HS := Lib.hid (show cntS a x (k + 1) = cntS a x k + 1 from by rw [cntS, if_pos he])
        clear he
        go_wp2
        go_roundw
        case rel => exact ⟨k + 1, _, by omega, by go_num, by rw [HS.out], rfl⟩
        case measure => simp [intOf]; omega
      · have hb : (x[k]?.getD 0 == a) = false := by simp [he]
        have HS := Lib.hid (show cntS a x (k + 1) = cntS a x k from by rw [cntS, if_neg he])
        clear he
        go_wp2
        go_roundw
        case rel => exact ⟨k + 1, _, by omega, by go_num, by rw [HS.out], rfl⟩
        case measure => simp [intOf]; omega
    · obtain rfl : k = n := by omega
      go_wp2
      go_ret
      exact ⟨ret_bool (by rw [HN.out]), below_drewN' HB1.out _⟩

end Go.Proofs.YtipapmmjfoaddaaGreat
