/- spec.validConstraint, kinds 7 to 9: one walk for each way through its tests. -/
import Derived.Test.YtipapmmjfoaddaaBa
namespace Go.Proofs.Ytipapmmjfoaddaa
open Go.ChangeShapes Go.WideShapes Go.ChangeAt Go.RowKit
set_option linter.unusedVariables false
set_option linter.unusedSimpArgs false

set_option maxRecDepth 1000000 in
set_option maxHeartbeats 4000000 in
theorem svc_7 (n : Int)
    (a2 a3 a5 : Option Addr) (k c2 na c3 nr c5 : Nat) (vars args : List Int) (bound : Int) (rows : List (List Int)) (w : World)
    (hk : k ≤ 2305843009213693952) (hna : na ≤ 9223372036854775807) (hnr : nr ≤ 9223372036854775807)
    (h2 : RdInts w (.slice a2 k c2) vars) (h3 : RdInts w (.slice a3 na c3) args) (h5 : RdRows w (.slice a5 nr c5) rows)
    (hn0 : 0 ≤ n) (hn1 : n ≤ 9223372036854775807) (f0 : wiB k 1 n = true) (f1 : allB vars 0 (n - 1) = true) (f2 : dstB vars = true) :
    Calls Try.prog 51 #[.agg #[.int .i64 7, .slice a2 k c2, .slice a3 na c3, .int .i64 bound, .slice a5 nr c5], .int .i64 n] w (BoolPost (((na : Int) == 2 * (k : Int)) && allB args 0 9 && wiB bound 0 9 && ((nr : Int) == 0)) w) := by
  have hB : Below w.heap.size w (w.alloc (.cells #[.int .i64 7, .slice a2 k c2, .slice a3 na c3, .int .i64 bound, .slice a5 nr c5] 82)) := (Below.refl _ _).alloc (Nat.le_refl _) _
  have H2 := Lib.hid (h2.below hB)
  have H3 := Lib.hid (h3.below hB)
  have H5 := Lib.hid (h5.below hB)
  have HB := Lib.hid hB
  clear h2 h3 h5 hB
  cases g0 : ((na : Int) == 2 * (k : Int))
  · go_enter Try.func51, Try.ntmps51
    go_wp2_with fail
    refine (inRange_any _ _ _ _).mono ?_
    rintro e w' ⟨rfl, rfl⟩
    go_wp2_with fail
    refine (allInRange_any _ vars _ _ _ (H2.out)).mono ?_
    rintro e w' ⟨rfl, rfl⟩
    go_wp2_with fail
    refine (distinct_any _ vars _ (H2.out)).mono ?_
    rintro e w' ⟨rfl, q1, rfl⟩
    go_wp2
    go_ret
    exact ⟨ret_bool (by simp), below_drewN HB.out _⟩
  cases g1 : allB args 0 9
  · go_enter Try.func51, Try.ntmps51
    go_wp2_with fail
    refine (inRange_any _ _ _ _).mono ?_
    rintro e w' ⟨rfl, rfl⟩
    go_wp2_with fail
    refine (allInRange_any _ vars _ _ _ (H2.out)).mono ?_
    rintro e w' ⟨rfl, rfl⟩
    go_wp2_with fail
    refine (distinct_any _ vars _ (H2.out)).mono ?_
    rintro e w' ⟨rfl, q1, rfl⟩
    go_wp2_with fail
    refine (allInRange_any _ args _ _ _ (H3.out.drewN _)).mono ?_
    rintro e w' ⟨rfl, rfl⟩
    go_wp2
    go_ret
    exact ⟨ret_bool (by simp), below_drewN HB.out _⟩
  cases g2 : wiB bound 0 9
  · go_enter Try.func51, Try.ntmps51
    go_wp2_with fail
    refine (inRange_any _ _ _ _).mono ?_
    rintro e w' ⟨rfl, rfl⟩
    go_wp2_with fail
    refine (allInRange_any _ vars _ _ _ (H2.out)).mono ?_
    rintro e w' ⟨rfl, rfl⟩
    go_wp2_with fail
    refine (distinct_any _ vars _ (H2.out)).mono ?_
    rintro e w' ⟨rfl, q1, rfl⟩
    go_wp2_with fail
    refine (allInRange_any _ args _ _ _ (H3.out.drewN _)).mono ?_
    rintro e w' ⟨rfl, rfl⟩
    go_wp2_with fail
    refine (inRange_any _ _ _ _).mono ?_
    rintro e w' ⟨rfl, rfl⟩
    go_wp2
    go_ret
    exact ⟨ret_bool (by simp), below_drewN HB.out _⟩
  cases g3 : ((nr : Int) == 0)
  · go_enter Try.func51, Try.ntmps51
    go_wp2_with fail
    refine (inRange_any _ _ _ _).mono ?_
    rintro e w' ⟨rfl, rfl⟩
    go_wp2_with fail
    refine (allInRange_any _ vars _ _ _ (H2.out)).mono ?_
    rintro e w' ⟨rfl, rfl⟩
    go_wp2_with fail
    refine (distinct_any _ vars _ (H2.out)).mono ?_
    rintro e w' ⟨rfl, q1, rfl⟩
    go_wp2_with fail
    refine (allInRange_any _ args _ _ _ (H3.out.drewN _)).mono ?_
    rintro e w' ⟨rfl, rfl⟩
    go_wp2_with fail
    refine (inRange_any _ _ _ _).mono ?_
    rintro e w' ⟨rfl, rfl⟩
    go_wp2
    go_ret
    exact ⟨ret_bool (by simp), below_drewN HB.out _⟩
  go_enter Try.func51, Try.ntmps51
  go_wp2_with fail
  refine (inRange_any _ _ _ _).mono ?_
  rintro e w' ⟨rfl, rfl⟩
  go_wp2_with fail
  refine (allInRange_any _ vars _ _ _ (H2.out)).mono ?_
  rintro e w' ⟨rfl, rfl⟩
  go_wp2_with fail
  refine (distinct_any _ vars _ (H2.out)).mono ?_
  rintro e w' ⟨rfl, q1, rfl⟩
  go_wp2_with fail
  refine (allInRange_any _ args _ _ _ (H3.out.drewN _)).mono ?_
  rintro e w' ⟨rfl, rfl⟩
  go_wp2_with fail
  refine (inRange_any _ _ _ _).mono ?_
  rintro e w' ⟨rfl, rfl⟩
  go_wp2
  go_ret
  exact ⟨ret_bool (by simp), below_drewN HB.out _⟩

set_option maxRecDepth 1000000 in
set_option maxHeartbeats 4000000 in
theorem svc_8 (n : Int)
    (a2 a3 a5 : Option Addr) (k c2 na c3 nr c5 : Nat) (vars args : List Int) (bound : Int) (rows : List (List Int)) (w : World)
    (hk : k ≤ 2305843009213693952) (hna : na ≤ 9223372036854775807) (hnr : nr ≤ 9223372036854775807)
    (h2 : RdInts w (.slice a2 k c2) vars) (h3 : RdInts w (.slice a3 na c3) args) (h5 : RdRows w (.slice a5 nr c5) rows)
    (hn0 : 0 ≤ n) (hn1 : n ≤ 9223372036854775807) (f0 : wiB k 1 n = true) (f1 : allB vars 0 (n - 1) = true) (f2 : dstB vars = true) :
    Calls Try.prog 51 #[.agg #[.int .i64 8, .slice a2 k c2, .slice a3 na c3, .int .i64 bound, .slice a5 nr c5], .int .i64 n] w (BoolPost (((rowsB rows 6 (-1) (nr - 1) && wiB nr 1 8)) && allB args 0 (nr - 1) && dstB args && (bound == 0)) w) := by
  have hB : Below w.heap.size w (w.alloc (.cells #[.int .i64 8, .slice a2 k c2, .slice a3 na c3, .int .i64 bound, .slice a5 nr c5] 82)) := (Below.refl _ _).alloc (Nat.le_refl _) _
  have H2 := Lib.hid (h2.below hB)
  have H3 := Lib.hid (h3.below hB)
  have H5 := Lib.hid (h5.below hB)
  have HB := Lib.hid hB
  clear h2 h3 h5 hB
  cases g0 : (rowsB rows 6 (-1) (nr - 1) && wiB nr 1 8)
  · go_enter Try.func51, Try.ntmps51
    go_wp2_with fail
    refine (inRange_any _ _ _ _).mono ?_
    rintro e w' ⟨rfl, rfl⟩
    go_wp2_with fail
    refine (allInRange_any _ vars _ _ _ (H2.out)).mono ?_
    rintro e w' ⟨rfl, rfl⟩
    go_wp2_with fail
    refine (distinct_any _ vars _ (H2.out)).mono ?_
    rintro e w' ⟨rfl, q1, rfl⟩
    go_wp2_with fail
    refine (validRows_at _ _ _ rows _ _ _ _ (H5.out.drewN _)).mono ?_
    rintro e w' ⟨rfl, rfl⟩
    go_wp2
    go_ret
    exact ⟨ret_bool (by simp), below_drewN HB.out _⟩
  cases g1 : allB args 0 (nr - 1)
  · go_enter Try.func51, Try.ntmps51
    go_wp2_with fail
    refine (inRange_any _ _ _ _).mono ?_
    rintro e w' ⟨rfl, rfl⟩
    go_wp2_with fail
    refine (allInRange_any _ vars _ _ _ (H2.out)).mono ?_
    rintro e w' ⟨rfl, rfl⟩
    go_wp2_with fail
    refine (distinct_any _ vars _ (H2.out)).mono ?_
    rintro e w' ⟨rfl, q1, rfl⟩
    go_wp2_with fail
    refine (validRows_at _ _ _ rows _ _ _ _ (H5.out.drewN _)).mono ?_
    rintro e w' ⟨rfl, rfl⟩
    go_wp2_with fail
    refine (allInRange_any _ args _ _ _ (H3.out.drewN _)).mono ?_
    rintro e w' ⟨rfl, rfl⟩
    go_wp2
    go_ret
    exact ⟨ret_bool (by simp), below_drewN HB.out _⟩
  cases g2 : dstB args
  · go_enter Try.func51, Try.ntmps51
    go_wp2_with fail
    refine (inRange_any _ _ _ _).mono ?_
    rintro e w' ⟨rfl, rfl⟩
    go_wp2_with fail
    refine (allInRange_any _ vars _ _ _ (H2.out)).mono ?_
    rintro e w' ⟨rfl, rfl⟩
    go_wp2_with fail
    refine (distinct_any _ vars _ (H2.out)).mono ?_
    rintro e w' ⟨rfl, q1, rfl⟩
    go_wp2_with fail
    refine (validRows_at _ _ _ rows _ _ _ _ (H5.out.drewN _)).mono ?_
    rintro e w' ⟨rfl, rfl⟩
    go_wp2_with fail
    refine (allInRange_any _ args _ _ _ (H3.out.drewN _)).mono ?_
    rintro e w' ⟨rfl, rfl⟩
    go_wp2_with fail
    refine (distinct_any _ args _ (H3.out.drewN _)).mono ?_
    rintro e w' ⟨rfl, q2, rfl⟩
    go_wp2
    go_ret
    exact ⟨ret_bool (by simp), below_drewN HB.out _⟩
  cases g3 : (bound == 0)
  · go_enter Try.func51, Try.ntmps51
    go_wp2_with fail
    refine (inRange_any _ _ _ _).mono ?_
    rintro e w' ⟨rfl, rfl⟩
    go_wp2_with fail
    refine (allInRange_any _ vars _ _ _ (H2.out)).mono ?_
    rintro e w' ⟨rfl, rfl⟩
    go_wp2_with fail
    refine (distinct_any _ vars _ (H2.out)).mono ?_
    rintro e w' ⟨rfl, q1, rfl⟩
    go_wp2_with fail
    refine (validRows_at _ _ _ rows _ _ _ _ (H5.out.drewN _)).mono ?_
    rintro e w' ⟨rfl, rfl⟩
    go_wp2_with fail
    refine (allInRange_any _ args _ _ _ (H3.out.drewN _)).mono ?_
    rintro e w' ⟨rfl, rfl⟩
    go_wp2_with fail
    refine (distinct_any _ args _ (H3.out.drewN _)).mono ?_
    rintro e w' ⟨rfl, q2, rfl⟩
    go_wp2
    go_ret
    exact ⟨ret_bool (by simp), below_drewN HB.out _⟩
  go_enter Try.func51, Try.ntmps51
  go_wp2_with fail
  refine (inRange_any _ _ _ _).mono ?_
  rintro e w' ⟨rfl, rfl⟩
  go_wp2_with fail
  refine (allInRange_any _ vars _ _ _ (H2.out)).mono ?_
  rintro e w' ⟨rfl, rfl⟩
  go_wp2_with fail
  refine (distinct_any _ vars _ (H2.out)).mono ?_
  rintro e w' ⟨rfl, q1, rfl⟩
  go_wp2_with fail
  refine (validRows_at _ _ _ rows _ _ _ _ (H5.out.drewN _)).mono ?_
  rintro e w' ⟨rfl, rfl⟩
  go_wp2_with fail
  refine (allInRange_any _ args _ _ _ (H3.out.drewN _)).mono ?_
  rintro e w' ⟨rfl, rfl⟩
  go_wp2_with fail
  refine (distinct_any _ args _ (H3.out.drewN _)).mono ?_
  rintro e w' ⟨rfl, q2, rfl⟩
  go_wp2
  go_ret
  exact ⟨ret_bool (by simp), below_drewN HB.out _⟩

set_option maxRecDepth 1000000 in
set_option maxHeartbeats 4000000 in
theorem svc_9 (n : Int)
    (a2 a3 a5 : Option Addr) (k c2 na c3 nr c5 : Nat) (vars args : List Int) (bound : Int) (rows : List (List Int)) (w : World)
    (hk : k ≤ 2305843009213693952) (hna : na ≤ 9223372036854775807) (hnr : nr ≤ 9223372036854775807)
    (h2 : RdInts w (.slice a2 k c2) vars) (h3 : RdInts w (.slice a3 na c3) args) (h5 : RdRows w (.slice a5 nr c5) rows)
    (hn0 : 0 ≤ n) (hn1 : n ≤ 9223372036854775807) (f0 : wiB k 1 n = true) (f1 : allB vars 0 (n - 1) = true) (f2 : dstB vars = true) :
    Calls Try.prog 51 #[.agg #[.int .i64 9, .slice a2 k c2, .slice a3 na c3, .int .i64 bound, .slice a5 nr c5], .int .i64 n] w (BoolPost (((na : Int) == 0) && (bound == 0) && ((nr : Int) == 0)) w) := by
  have hB : Below w.heap.size w (w.alloc (.cells #[.int .i64 9, .slice a2 k c2, .slice a3 na c3, .int .i64 bound, .slice a5 nr c5] 82)) := (Below.refl _ _).alloc (Nat.le_refl _) _
  have H2 := Lib.hid (h2.below hB)
  have H3 := Lib.hid (h3.below hB)
  have H5 := Lib.hid (h5.below hB)
  have HB := Lib.hid hB
  clear h2 h3 h5 hB
  cases g0 : ((na : Int) == 0)
  · go_enter Try.func51, Try.ntmps51
    go_wp2_with fail
    refine (inRange_any _ _ _ _).mono ?_
    rintro e w' ⟨rfl, rfl⟩
    go_wp2_with fail
    refine (allInRange_any _ vars _ _ _ (H2.out)).mono ?_
    rintro e w' ⟨rfl, rfl⟩
    go_wp2_with fail
    refine (distinct_any _ vars _ (H2.out)).mono ?_
    rintro e w' ⟨rfl, q1, rfl⟩
    go_wp2
    go_ret
    exact ⟨ret_bool (by simp), below_drewN HB.out _⟩
  cases g1 : (bound == 0)
  · go_enter Try.func51, Try.ntmps51
    go_wp2_with fail
    refine (inRange_any _ _ _ _).mono ?_
    rintro e w' ⟨rfl, rfl⟩
    go_wp2_with fail
    refine (allInRange_any _ vars _ _ _ (H2.out)).mono ?_
    rintro e w' ⟨rfl, rfl⟩
    go_wp2_with fail
    refine (distinct_any _ vars _ (H2.out)).mono ?_
    rintro e w' ⟨rfl, q1, rfl⟩
    go_wp2
    go_ret
    exact ⟨ret_bool (by simp), below_drewN HB.out _⟩
  cases g2 : ((nr : Int) == 0)
  · go_enter Try.func51, Try.ntmps51
    go_wp2_with fail
    refine (inRange_any _ _ _ _).mono ?_
    rintro e w' ⟨rfl, rfl⟩
    go_wp2_with fail
    refine (allInRange_any _ vars _ _ _ (H2.out)).mono ?_
    rintro e w' ⟨rfl, rfl⟩
    go_wp2_with fail
    refine (distinct_any _ vars _ (H2.out)).mono ?_
    rintro e w' ⟨rfl, q1, rfl⟩
    go_wp2
    go_ret
    exact ⟨ret_bool (by simp), below_drewN HB.out _⟩
  go_enter Try.func51, Try.ntmps51
  go_wp2_with fail
  refine (inRange_any _ _ _ _).mono ?_
  rintro e w' ⟨rfl, rfl⟩
  go_wp2_with fail
  refine (allInRange_any _ vars _ _ _ (H2.out)).mono ?_
  rintro e w' ⟨rfl, rfl⟩
  go_wp2_with fail
  refine (distinct_any _ vars _ (H2.out)).mono ?_
  rintro e w' ⟨rfl, q1, rfl⟩
  go_wp2
  go_ret
  exact ⟨ret_bool (by simp), below_drewN HB.out _⟩

set_option maxRecDepth 1000000 in
set_option maxHeartbeats 4000000 in
theorem svc_0 (kind n : Int)
    (a2 a3 a5 : Option Addr) (k c2 na c3 nr c5 : Nat) (vars args : List Int) (bound : Int) (rows : List (List Int)) (w : World)
    (hk : k ≤ 2305843009213693952) (hna : na ≤ 9223372036854775807) (hnr : nr ≤ 9223372036854775807)
    (h2 : RdInts w (.slice a2 k c2) vars) (h3 : RdInts w (.slice a3 na c3) args) (h5 : RdRows w (.slice a5 nr c5) rows)
    (hn0 : 0 ≤ n) (hn1 : n ≤ 9223372036854775807) (f0 : wiB k 1 n = true) (f1 : allB vars 0 (n - 1) = true) (f2 : dstB vars = true) (k1 : (kind == 1) = false) (k2 : (kind == 2) = false) (k3 : (kind == 3) = false) (k4 : (kind == 4) = false) (k5 : (kind == 5) = false) (k6 : (kind == 6) = false) (k7 : (kind == 7) = false) (k8 : (kind == 8) = false) (k9 : (kind == 9) = false) :
    Calls Try.prog 51 #[.agg #[.int .i64 kind, .slice a2 k c2, .slice a3 na c3, .int .i64 bound, .slice a5 nr c5], .int .i64 n] w (BoolPost false w) := by
  have hB : Below w.heap.size w (w.alloc (.cells #[.int .i64 kind, .slice a2 k c2, .slice a3 na c3, .int .i64 bound, .slice a5 nr c5] 82)) := (Below.refl _ _).alloc (Nat.le_refl _) _
  have H2 := Lib.hid (h2.below hB)
  have H3 := Lib.hid (h3.below hB)
  have H5 := Lib.hid (h5.below hB)
  have HB := Lib.hid hB
  clear h2 h3 h5 hB
  go_enter Try.func51, Try.ntmps51
  go_wp2_with fail
  refine (inRange_any _ _ _ _).mono ?_
  rintro e w' ⟨rfl, rfl⟩
  go_wp2_with fail
  refine (allInRange_any _ vars _ _ _ (H2.out)).mono ?_
  rintro e w' ⟨rfl, rfl⟩
  go_wp2_with fail
  refine (distinct_any _ vars _ (H2.out)).mono ?_
  rintro e w' ⟨rfl, q1, rfl⟩
  go_wp2
  go_ret
  exact ⟨rfl, below_drewN HB.out _⟩
end Go.Proofs.Ytipapmmjfoaddaa
