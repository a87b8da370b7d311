/- spec.validConstraint, the variables; kinds 1 to 3: one walk for each way through its tests. -/
import Derived.Test.YtipapmmjfoaddaaBa
namespace Go.Proofs.Ytipapmmjfoaddaa
open Go.ChangeShapes Go.WideShapes Go.ChangeAt Go.RowKit
set_option linter.unusedVariables false
set_option linter.unusedSimpArgs false

set_option maxRecDepth 1000000 in
set_option maxHeartbeats 2000000 in
theorem svc_front (kind n : Int)
    (a2 a3 a5 : Option Addr) (k c2 na c3 nr c5 : Nat) (vars args : List Int) (bound : Int) (rows : List (List Int)) (w : World)
    (hk : k ≤ 2305843009213693952) (hna : na ≤ 9223372036854775807) (hnr : nr ≤ 9223372036854775807)
    (h2 : RdInts w (.slice a2 k c2) vars) (h3 : RdInts w (.slice a3 na c3) args) (h5 : RdRows w (.slice a5 nr c5) rows)
    (hn0 : 0 ≤ n) (hn1 : n ≤ 9223372036854775807) (hf : (wiB k 1 n && allB vars 0 (n - 1) && dstB vars) = false) :
    Calls Try.prog 51 #[.agg #[.int .i64 kind, .slice a2 k c2, .slice a3 na c3, .int .i64 bound, .slice a5 nr c5], .int .i64 n] w (BoolPost false w) := by
  have hB : Below w.heap.size w (w.alloc (.cells #[.int .i64 kind, .slice a2 k c2, .slice a3 na c3, .int .i64 bound, .slice a5 nr c5] 82)) := (Below.refl _ _).alloc (Nat.le_refl _) _
  have H2 := Lib.hid (h2.below hB)
  have H3 := Lib.hid (h3.below hB)
  have H5 := Lib.hid (h5.below hB)
  have HB := Lib.hid hB
  clear h2 h3 h5 hB
  cases g0 : wiB k 1 n
  · clear hf
    go_enter Try.func51, Try.ntmps51
    go_wp2_with fail
    refine (inRange_any _ _ _ _).mono ?_
    rintro e w' ⟨rfl, rfl⟩
    go_wp2
    go_ret
    exact ⟨rfl, HB.out⟩
  cases g1 : allB vars 0 (n - 1)
  · clear hf
    go_enter Try.func51, Try.ntmps51
    go_wp2_with fail
    refine (inRange_any _ _ _ _).mono ?_
    rintro e w' ⟨rfl, rfl⟩
    go_wp2_with fail
    refine (allInRange_any _ vars _ _ _ (H2.out)).mono ?_
    rintro e w' ⟨rfl, rfl⟩
    go_wp2
    go_ret
    exact ⟨rfl, HB.out⟩
  cases g2 : dstB vars
  · clear hf
    go_enter Try.func51, Try.ntmps51
    go_wp2_with fail
    refine (inRange_any _ _ _ _).mono ?_
    rintro e w' ⟨rfl, rfl⟩
    go_wp2_with fail
    refine (allInRange_any _ vars _ _ _ (H2.out)).mono ?_
    rintro e w' ⟨rfl, rfl⟩
    go_wp2_with fail
    refine (distinct_any _ vars _ (H2.out)).mono ?_
    rintro e w' ⟨rfl, q1, rfl⟩
    go_wp2
    go_ret
    exact ⟨rfl, below_drewN HB.out _⟩
  simp [g0, g1, g2] at hf

set_option maxRecDepth 1000000 in
set_option maxHeartbeats 4000000 in
theorem svc_1 (n : Int)
    (a2 a3 a5 : Option Addr) (k c2 na c3 nr c5 : Nat) (vars args : List Int) (bound : Int) (rows : List (List Int)) (w : World)
    (hk : k ≤ 2305843009213693952) (hna : na ≤ 9223372036854775807) (hnr : nr ≤ 9223372036854775807)
    (h2 : RdInts w (.slice a2 k c2) vars) (h3 : RdInts w (.slice a3 na c3) args) (h5 : RdRows w (.slice a5 nr c5) rows)
    (hn0 : 0 ≤ n) (hn1 : n ≤ 9223372036854775807) (f0 : wiB k 1 n = true) (f1 : allB vars 0 (n - 1) = true) (f2 : dstB vars = true) :
    Calls Try.prog 51 #[.agg #[.int .i64 1, .slice a2 k c2, .slice a3 na c3, .int .i64 bound, .slice a5 nr c5], .int .i64 n] w (BoolPost (((na : Int) == (k : Int)) && allB args (-9) 9 && wiB bound (-999) 999 && ((nr : Int) == 0)) w) := by
  have hB : Below w.heap.size w (w.alloc (.cells #[.int .i64 1, .slice a2 k c2, .slice a3 na c3, .int .i64 bound, .slice a5 nr c5] 82)) := (Below.refl _ _).alloc (Nat.le_refl _) _
  have H2 := Lib.hid (h2.below hB)
  have H3 := Lib.hid (h3.below hB)
  have H5 := Lib.hid (h5.below hB)
  have HB := Lib.hid hB
  clear h2 h3 h5 hB
  cases g0 : ((na : Int) == (k : Int))
  · go_enter Try.func51, Try.ntmps51
    go_wp2_with fail
    refine (inRange_any _ _ _ _).mono ?_
    rintro e w' ⟨rfl, rfl⟩
    go_wp2_with fail
    refine (allInRange_any _ vars _ _ _ (H2.out)).mono ?_
    rintro e w' ⟨rfl, rfl⟩
    go_wp2_with fail
    refine (distinct_any _ vars _ (H2.out)).mono ?_
    rintro e w' ⟨rfl, q1, rfl⟩
    go_wp2
    go_ret
    exact ⟨ret_bool (by simp), below_drewN HB.out _⟩
  cases g1 : allB args (-9) 9
  · go_enter Try.func51, Try.ntmps51
    go_wp2_with fail
    refine (inRange_any _ _ _ _).mono ?_
    rintro e w' ⟨rfl, rfl⟩
    go_wp2_with fail
    refine (allInRange_any _ vars _ _ _ (H2.out)).mono ?_
    rintro e w' ⟨rfl, rfl⟩
    go_wp2_with fail
    refine (distinct_any _ vars _ (H2.out)).mono ?_
    rintro e w' ⟨rfl, q1, rfl⟩
    go_wp2_with fail
    refine (allInRange_any _ args _ _ _ (H3.out.drewN _)).mono ?_
    rintro e w' ⟨rfl, rfl⟩
    go_wp2
    go_ret
    exact ⟨ret_bool (by simp), below_drewN HB.out _⟩
  cases g2 : wiB bound (-999) 999
  · go_enter Try.func51, Try.ntmps51
    go_wp2_with fail
    refine (inRange_any _ _ _ _).mono ?_
    rintro e w' ⟨rfl, rfl⟩
    go_wp2_with fail
    refine (allInRange_any _ vars _ _ _ (H2.out)).mono ?_
    rintro e w' ⟨rfl, rfl⟩
    go_wp2_with fail
    refine (distinct_any _ vars _ (H2.out)).mono ?_
    rintro e w' ⟨rfl, q1, rfl⟩
    go_wp2_with fail
    refine (allInRange_any _ args _ _ _ (H3.out.drewN _)).mono ?_
    rintro e w' ⟨rfl, rfl⟩
    go_wp2_with fail
    refine (inRange_any _ _ _ _).mono ?_
    rintro e w' ⟨rfl, rfl⟩
    go_wp2
    go_ret
    exact ⟨ret_bool (by simp), below_drewN HB.out _⟩
  cases g3 : ((nr : Int) == 0)
  · go_enter Try.func51, Try.ntmps51
    go_wp2_with fail
    refine (inRange_any _ _ _ _).mono ?_
    rintro e w' ⟨rfl, rfl⟩
    go_wp2_with fail
    refine (allInRange_any _ vars _ _ _ (H2.out)).mono ?_
    rintro e w' ⟨rfl, rfl⟩
    go_wp2_with fail
    refine (distinct_any _ vars _ (H2.out)).mono ?_
    rintro e w' ⟨rfl, q1, rfl⟩
    go_wp2_with fail
    refine (allInRange_any _ args _ _ _ (H3.out.drewN _)).mono ?_
    rintro e w' ⟨rfl, rfl⟩
    go_wp2_with fail
    refine (inRange_any _ _ _ _).mono ?_
    rintro e w' ⟨rfl, rfl⟩
    go_wp2
    go_ret
    exact ⟨ret_bool (by simp), below_drewN HB.out _⟩
  go_enter Try.func51, Try.ntmps51
  go_wp2_with fail
  refine (inRange_any _ _ _ _).mono ?_
  rintro e w' ⟨rfl, rfl⟩
  go_wp2_with fail
  refine (allInRange_any _ vars _ _ _ (H2.out)).mono ?_
  rintro e w' ⟨rfl, rfl⟩
  go_wp2_with fail
  refine (distinct_any _ vars _ (H2.out)).mono ?_
  rintro e w' ⟨rfl, q1, rfl⟩
  go_wp2_with fail
  refine (allInRange_any _ args _ _ _ (H3.out.drewN _)).mono ?_
  rintro e w' ⟨rfl, rfl⟩
  go_wp2_with fail
  refine (inRange_any _ _ _ _).mono ?_
  rintro e w' ⟨rfl, rfl⟩
  go_wp2
  go_ret
  exact ⟨ret_bool (by simp), below_drewN HB.out _⟩

set_option maxRecDepth 1000000 in
set_option maxHeartbeats 4000000 in
theorem svc_2 (n : Int)
    (a2 a3 a5 : Option Addr) (k c2 na c3 nr c5 : Nat) (vars args : List Int) (bound : Int) (rows : List (List Int)) (w : World)
    (hk : k ≤ 2305843009213693952) (hna : na ≤ 9223372036854775807) (hnr : nr ≤ 9223372036854775807)
    (h2 : RdInts w (.slice a2 k c2) vars) (h3 : RdInts w (.slice a3 na c3) args) (h5 : RdRows w (.slice a5 nr c5) rows)
    (hn0 : 0 ≤ n) (hn1 : n ≤ 9223372036854775807) (f0 : wiB k 1 n = true) (f1 : allB vars 0 (n - 1) = true) (f2 : dstB vars = true) :
    Calls Try.prog 51 #[.agg #[.int .i64 2, .slice a2 k c2, .slice a3 na c3, .int .i64 bound, .slice a5 nr c5], .int .i64 n] w (BoolPost (((k : Int) == 2) && ((na : Int) == 1) && allB args (-9) 9 && (bound == 0) && ((nr : Int) == 0)) w) := by
  have hB : Below w.heap.size w (w.alloc (.cells #[.int .i64 2, .slice a2 k c2, .slice a3 na c3, .int .i64 bound, .slice a5 nr c5] 82)) := (Below.refl _ _).alloc (Nat.le_refl _) _
  have H2 := Lib.hid (h2.below hB)
  have H3 := Lib.hid (h3.below hB)
  have H5 := Lib.hid (h5.below hB)
  have HB := Lib.hid hB
  clear h2 h3 h5 hB
  cases g0 : ((k : Int) == 2)
  · go_enter Try.func51, Try.ntmps51
    go_wp2_with fail
    refine (inRange_any _ _ _ _).mono ?_
    rintro e w' ⟨rfl, rfl⟩
    go_wp2_with fail
    refine (allInRange_any _ vars _ _ _ (H2.out)).mono ?_
    rintro e w' ⟨rfl, rfl⟩
    go_wp2_with fail
    refine (distinct_any _ vars _ (H2.out)).mono ?_
    rintro e w' ⟨rfl, q1, rfl⟩
    go_wp2
    go_ret
    exact ⟨ret_bool (by simp), below_drewN HB.out _⟩
  cases g1 : ((na : Int) == 1)
  · go_enter Try.func51, Try.ntmps51
    go_wp2_with fail
    refine (inRange_any _ _ _ _).mono ?_
    rintro e w' ⟨rfl, rfl⟩
    go_wp2_with fail
    refine (allInRange_any _ vars _ _ _ (H2.out)).mono ?_
    rintro e w' ⟨rfl, rfl⟩
    go_wp2_with fail
    refine (distinct_any _ vars _ (H2.out)).mono ?_
    rintro e w' ⟨rfl, q1, rfl⟩
    go_wp2
    go_ret
    exact ⟨ret_bool (by simp), below_drewN HB.out _⟩
  cases g2 : allB args (-9) 9
  · go_enter Try.func51, Try.ntmps51
    go_wp2_with fail
    refine (inRange_any _ _ _ _).mono ?_
    rintro e w' ⟨rfl, rfl⟩
    go_wp2_with fail
    refine (allInRange_any _ vars _ _ _ (H2.out)).mono ?_
    rintro e w' ⟨rfl, rfl⟩
    go_wp2_with fail
    refine (distinct_any _ vars _ (H2.out)).mono ?_
    rintro e w' ⟨rfl, q1, rfl⟩
    go_wp2_with fail
    refine (allInRange_any _ args _ _ _ (H3.out.drewN _)).mono ?_
    rintro e w' ⟨rfl, rfl⟩
    go_wp2
    go_ret
    exact ⟨ret_bool (by simp), below_drewN HB.out _⟩
  cases g3 : (bound == 0)
  · go_enter Try.func51, Try.ntmps51
    go_wp2_with fail
    refine (inRange_any _ _ _ _).mono ?_
    rintro e w' ⟨rfl, rfl⟩
    go_wp2_with fail
    refine (allInRange_any _ vars _ _ _ (H2.out)).mono ?_
    rintro e w' ⟨rfl, rfl⟩
    go_wp2_with fail
    refine (distinct_any _ vars _ (H2.out)).mono ?_
    rintro e w' ⟨rfl, q1, rfl⟩
    go_wp2_with fail
    refine (allInRange_any _ args _ _ _ (H3.out.drewN _)).mono ?_
    rintro e w' ⟨rfl, rfl⟩
    go_wp2
    go_ret
    exact ⟨ret_bool (by simp), below_drewN HB.out _⟩
  cases g4 : ((nr : Int) == 0)
  · go_enter Try.func51, Try.ntmps51
    go_wp2_with fail
    refine (inRange_any _ _ _ _).mono ?_
    rintro e w' ⟨rfl, rfl⟩
    go_wp2_with fail
    refine (allInRange_any _ vars _ _ _ (H2.out)).mono ?_
    rintro e w' ⟨rfl, rfl⟩
    go_wp2_with fail
    refine (distinct_any _ vars _ (H2.out)).mono ?_
    rintro e w' ⟨rfl, q1, rfl⟩
    go_wp2_with fail
    refine (allInRange_any _ args _ _ _ (H3.out.drewN _)).mono ?_
    rintro e w' ⟨rfl, rfl⟩
    go_wp2
    go_ret
    exact ⟨ret_bool (by simp), below_drewN HB.out _⟩
  go_enter Try.func51, Try.ntmps51
  go_wp2_with fail
  refine (inRange_any _ _ _ _).mono ?_
  rintro e w' ⟨rfl, rfl⟩
  go_wp2_with fail
  refine (allInRange_any _ vars _ _ _ (H2.out)).mono ?_
  rintro e w' ⟨rfl, rfl⟩
  go_wp2_with fail
  refine (distinct_any _ vars _ (H2.out)).mono ?_
  rintro e w' ⟨rfl, q1, rfl⟩
  go_wp2_with fail
  refine (allInRange_any _ args _ _ _ (H3.out.drewN _)).mono ?_
  rintro e w' ⟨rfl, rfl⟩
  go_wp2
  go_ret
  exact ⟨ret_bool (by simp), below_drewN HB.out _⟩

set_option maxRecDepth 1000000 in
set_option maxHeartbeats 4000000 in
theorem svc_3 (n : Int)
    (a2 a3 a5 : Option Addr) (k c2 na c3 nr c5 : Nat) (vars args : List Int) (bound : Int) (rows : List (List Int)) (w : World)
    (hk : k ≤ 2305843009213693952) (hna : na ≤ 9223372036854775807) (hnr : nr ≤ 9223372036854775807)
    (h2 : RdInts w (.slice a2 k c2) vars) (h3 : RdInts w (.slice a3 na c3) args) (h5 : RdRows w (.slice a5 nr c5) rows)
    (hn0 : 0 ≤ n) (hn1 : n ≤ 9223372036854775807) (f0 : wiB k 1 n = true) (f1 : allB vars 0 (n - 1) = true) (f2 : dstB vars = true) :
    Calls Try.prog 51 #[.agg #[.int .i64 3, .slice a2 k c2, .slice a3 na c3, .int .i64 bound, .slice a5 nr c5], .int .i64 n] w (BoolPost (((na : Int) == 0) && (bound == 0) && ((nr : Int) == 0)) w) := by
  have hB : Below w.heap.size w (w.alloc (.cells #[.int .i64 3, .slice a2 k c2, .slice a3 na c3, .int .i64 bound, .slice a5 nr c5] 82)) := (Below.refl _ _).alloc (Nat.le_refl _) _
  have H2 := Lib.hid (h2.below hB)
  have H3 := Lib.hid (h3.below hB)
  have H5 := Lib.hid (h5.below hB)
  have HB := Lib.hid hB
  clear h2 h3 h5 hB
  cases g0 : ((na : Int) == 0)
  · go_enter Try.func51, Try.ntmps51
    go_wp2_with fail
    refine (inRange_any _ _ _ _).mono ?_
    rintro e w' ⟨rfl, rfl⟩
    go_wp2_with fail
    refine (allInRange_any _ vars _ _ _ (H2.out)).mono ?_
    rintro e w' ⟨rfl, rfl⟩
    go_wp2_with fail
    refine (distinct_any _ vars _ (H2.out)).mono ?_
    rintro e w' ⟨rfl, q1, rfl⟩
    go_wp2
    go_ret
    exact ⟨ret_bool (by simp), below_drewN HB.out _⟩
  cases g1 : (bound == 0)
  · go_enter Try.func51, Try.ntmps51
    go_wp2_with fail
    refine (inRange_any _ _ _ _).mono ?_
    rintro e w' ⟨rfl, rfl⟩
    go_wp2_with fail
    refine (allInRange_any _ vars _ _ _ (H2.out)).mono ?_
    rintro e w' ⟨rfl, rfl⟩
    go_wp2_with fail
    refine (distinct_any _ vars _ (H2.out)).mono ?_
    rintro e w' ⟨rfl, q1, rfl⟩
    go_wp2
    go_ret
    exact ⟨ret_bool (by simp), below_drewN HB.out _⟩
  cases g2 : ((nr : Int) == 0)
  · go_enter Try.func51, Try.ntmps51
    go_wp2_with fail
    refine (inRange_any _ _ _ _).mono ?_
    rintro e w' ⟨rfl, rfl⟩
    go_wp2_with fail
    refine (allInRange_any _ vars _ _ _ (H2.out)).mono ?_
    rintro e w' ⟨rfl, rfl⟩
    go_wp2_with fail
    refine (distinct_any _ vars _ (H2.out)).mono ?_
    rintro e w' ⟨rfl, q1, rfl⟩
    go_wp2
    go_ret
    exact ⟨ret_bool (by simp), below_drewN HB.out _⟩
  go_enter Try.func51, Try.ntmps51
  go_wp2_with fail
  refine (inRange_any _ _ _ _).mono ?_
  rintro e w' ⟨rfl, rfl⟩
  go_wp2_with fail
  refine (allInRange_any _ vars _ _ _ (H2.out)).mono ?_
  rintro e w' ⟨rfl, rfl⟩
  go_wp2_with fail
  refine (distinct_any _ vars _ (H2.out)).mono ?_
  rintro e w' ⟨rfl, q1, rfl⟩
  go_wp2
  go_ret
  exact ⟨ret_bool (by simp), below_drewN HB.out _⟩
end Go.Proofs.Ytipapmmjfoaddaa
