/- The requirements of each kind in impl: the methods wellFormed; one walk for each way through their tests. impl.ValidConstraint: the front of it, then kind by kind: the rule of the kind, its method. -/
import Derived.Test.YtelglccegkhfcaaBa

/-! The requirements of each kind in impl: the methods wellFormed; one walk for each way through their tests. -/
namespace Go.Proofs.Ytelglccegkhfcaa
open Go.ChangeShapes Go.WideShapes Go.ChangeAt Go.RowKit
set_option linter.unusedVariables false
set_option linter.unusedSimpArgs false

theorem rowsWithin_at (a : Option Addr) (nr cap : Nat) (rows : List (List Int)) (n lo hi : Int) (w : World) (h : RdRows w (.slice a nr cap) rows) :
    Calls Try.prog 136 #[.slice a nr cap, .int .i64 n, .int .i64 lo, .int .i64 hi] w fun e w' => e = .returned (.bool (rowsB rows n lo hi && wiB nr 1 8)) ∧ w = w' := by
  obtain rfl : nr = rows.length := by obtain ⟨_, _, e, _⟩ := h; simp at e; exact e.2.1
  exact rowsWithin_any _ rows n lo hi w h

set_option maxRecDepth 1000000 in
set_option maxHeartbeats 4000000 in
theorem only_any (kind : Int)
    (a2 a3 a5 : Option Addr) (k c2 na c3 nr c5 : Nat) (vars args : List Int) (bound : Int) (rows : List (List Int)) (w : World)
    (hk : k ≤ 2305843009213693952) (hna : na ≤ 9223372036854775807) (hnr : nr ≤ 9223372036854775807)
    (h2 : RdInts w (.slice a2 k c2) vars) (h3 : RdInts w (.slice a3 na c3) args) (h5 : RdRows w (.slice a5 nr c5) rows) :
    Calls Try.prog 216 #[.agg #[.int .i64 kind, .slice a2 k c2, .slice a3 na c3, .int .i64 bound, .slice a5 nr c5]] w (BoolPost (((na : Int) == 0) && (bound == 0) && ((nr : Int) == 0)) w) := by
  have hB : Below w.heap.size w (w.alloc (.cells #[.int .i64 kind, .slice a2 k c2, .slice a3 na c3, .int .i64 bound, .slice a5 nr c5] 97)) := (Below.refl _ _).alloc (Nat.le_refl _) _
  have H2 := Lib.hid (h2.below hB)
  have H3 := Lib.hid (h3.below hB)
  have H5 := Lib.hid (h5.below hB)
  have HB := Lib.hid hB
  clear h2 h3 h5 hB
  cases g0 : ((na : Int) == 0)
  · go_enter Try.func216, Try.ntmps216
    go_wp2
    go_ret
    exact ⟨ret_bool (by simp), HB.out⟩
  cases g1 : (bound == 0)
  · go_enter Try.func216, Try.ntmps216
    go_wp2
    go_ret
    exact ⟨ret_bool (by simp), HB.out⟩
  cases g2 : ((nr : Int) == 0)
  · go_enter Try.func216, Try.ntmps216
    go_wp2
    go_ret
    exact ⟨ret_bool (by simp), HB.out⟩
  go_enter Try.func216, Try.ntmps216
  go_wp2
  go_ret
  exact ⟨ret_bool (by simp), HB.out⟩

set_option maxRecDepth 1000000 in
set_option maxHeartbeats 4000000 in
theorem iwf_1 (kind : Int)
    (a2 a3 a5 : Option Addr) (k c2 na c3 nr c5 : Nat) (vars args : List Int) (bound : Int) (rows : List (List Int)) (w : World)
    (hk : k ≤ 2305843009213693952) (hna : na ≤ 9223372036854775807) (hnr : nr ≤ 9223372036854775807)
    (h2 : RdInts w (.slice a2 k c2) vars) (h3 : RdInts w (.slice a3 na c3) args) (h5 : RdRows w (.slice a5 nr c5) rows) :
    Calls Try.prog 213 #[.agg #[.int .i64 kind, .slice a2 k c2, .slice a3 na c3, .int .i64 bound, .slice a5 nr c5]] w (BoolPost (((na : Int) == (k : Int)) && allB args (-9) 9 && wiB bound (-999) 999 && ((nr : Int) == 0)) w) := by
  have hB : Below w.heap.size w (w.alloc (.cells #[.int .i64 kind, .slice a2 k c2, .slice a3 na c3, .int .i64 bound, .slice a5 nr c5] 162)) := (Below.refl _ _).alloc (Nat.le_refl _) _
  have H2 := Lib.hid (h2.below hB)
  have H3 := Lib.hid (h3.below hB)
  have H5 := Lib.hid (h5.below hB)
  have HB := Lib.hid hB
  clear h2 h3 h5 hB
  cases g0 : ((na : Int) == (k : Int))
  · go_enter Try.func213, Try.ntmps213
    go_wp2
    go_ret
    exact ⟨ret_bool (by simp), HB.out⟩
  cases g1 : allB args (-9) 9
  · go_enter Try.func213, Try.ntmps213
    go_wp2_with fail
    refine (allWithin_any _ args _ _ _ H3.out).mono ?_
    rintro e w' ⟨rfl, rfl⟩
    go_wp2
    go_ret
    exact ⟨ret_bool (by simp), HB.out⟩
  cases g2 : wiB bound (-999) 999
  · go_enter Try.func213, Try.ntmps213
    go_wp2_with fail
    refine (allWithin_any _ args _ _ _ H3.out).mono ?_
    rintro e w' ⟨rfl, rfl⟩
    go_wp2_with fail
    refine (within_any _ _ _ _).mono ?_
    rintro e w' ⟨rfl, rfl⟩
    go_wp2
    go_ret
    exact ⟨ret_bool (by simp), HB.out⟩
  cases g3 : ((nr : Int) == 0)
  · go_enter Try.func213, Try.ntmps213
    go_wp2_with fail
    refine (allWithin_any _ args _ _ _ H3.out).mono ?_
    rintro e w' ⟨rfl, rfl⟩
    go_wp2_with fail
    refine (within_any _ _ _ _).mono ?_
    rintro e w' ⟨rfl, rfl⟩
    go_wp2
    go_ret
    exact ⟨ret_bool (by simp), HB.out⟩
  go_enter Try.func213, Try.ntmps213
  go_wp2_with fail
  refine (allWithin_any _ args _ _ _ H3.out).mono ?_
  rintro e w' ⟨rfl, rfl⟩
  go_wp2_with fail
  refine (within_any _ _ _ _).mono ?_
  rintro e w' ⟨rfl, rfl⟩
  go_wp2
  go_ret
  exact ⟨ret_bool (by simp), HB.out⟩

set_option maxRecDepth 1000000 in
set_option maxHeartbeats 4000000 in
theorem iwf_2 (kind : Int)
    (a2 a3 a5 : Option Addr) (k c2 na c3 nr c5 : Nat) (vars args : List Int) (bound : Int) (rows : List (List Int)) (w : World)
    (hk : k ≤ 2305843009213693952) (hna : na ≤ 9223372036854775807) (hnr : nr ≤ 9223372036854775807)
    (h2 : RdInts w (.slice a2 k c2) vars) (h3 : RdInts w (.slice a3 na c3) args) (h5 : RdRows w (.slice a5 nr c5) rows) :
    Calls Try.prog 214 #[.agg #[.int .i64 kind, .slice a2 k c2, .slice a3 na c3, .int .i64 bound, .slice a5 nr c5]] w (BoolPost (((k : Int) == 2) && ((na : Int) == 1) && allB args (-9) 9 && (bound == 0) && ((nr : Int) == 0)) w) := by
  have hB : Below w.heap.size w (w.alloc (.cells #[.int .i64 kind, .slice a2 k c2, .slice a3 na c3, .int .i64 bound, .slice a5 nr c5] 163)) := (Below.refl _ _).alloc (Nat.le_refl _) _
  have H2 := Lib.hid (h2.below hB)
  have H3 := Lib.hid (h3.below hB)
  have H5 := Lib.hid (h5.below hB)
  have HB := Lib.hid hB
  clear h2 h3 h5 hB
  cases g0 : ((k : Int) == 2)
  · go_enter Try.func214, Try.ntmps214
    go_wp2
    go_ret
    exact ⟨ret_bool (by simp), HB.out⟩
  cases g1 : ((na : Int) == 1)
  · go_enter Try.func214, Try.ntmps214
    go_wp2
    go_ret
    exact ⟨ret_bool (by simp), HB.out⟩
  cases g2 : allB args (-9) 9
  · go_enter Try.func214, Try.ntmps214
    go_wp2_with fail
    refine (allWithin_any _ args _ _ _ H3.out).mono ?_
    rintro e w' ⟨rfl, rfl⟩
    go_wp2
    go_ret
    exact ⟨ret_bool (by simp), HB.out⟩
  cases g3 : (bound == 0)
  · go_enter Try.func214, Try.ntmps214
    go_wp2_with fail
    refine (allWithin_any _ args _ _ _ H3.out).mono ?_
    rintro e w' ⟨rfl, rfl⟩
    go_wp2
    go_ret
    exact ⟨ret_bool (by simp), HB.out⟩
  cases g4 : ((nr : Int) == 0)
  · go_enter Try.func214, Try.ntmps214
    go_wp2_with fail
    refine (allWithin_any _ args _ _ _ H3.out).mono ?_
    rintro e w' ⟨rfl, rfl⟩
    go_wp2
    go_ret
    exact ⟨ret_bool (by simp), HB.out⟩
  go_enter Try.func214, Try.ntmps214
  go_wp2_with fail
  refine (allWithin_any _ args _ _ _ H3.out).mono ?_
  rintro e w' ⟨rfl, rfl⟩
  go_wp2
  go_ret
  exact ⟨ret_bool (by simp), HB.out⟩

set_option maxRecDepth 1000000 in
set_option maxHeartbeats 4000000 in
theorem iwf_4 (kind : Int)
    (a2 a3 a5 : Option Addr) (k c2 na c3 nr c5 : Nat) (vars args : List Int) (bound : Int) (rows : List (List Int)) (w : World)
    (hk : k ≤ 2305843009213693952) (hna : na ≤ 9223372036854775807) (hnr : nr ≤ 9223372036854775807)
    (h2 : RdInts w (.slice a2 k c2) vars) (h3 : RdInts w (.slice a3 na c3) args) (h5 : RdRows w (.slice a5 nr c5) rows) :
    Calls Try.prog 217 #[.agg #[.int .i64 kind, .slice a2 k c2, .slice a3 na c3, .int .i64 bound, .slice a5 nr c5]] w (BoolPost (((k : Int) == 2) && wiB (na : Int) 1 6 && allB args 0 5 && (bound == 0) && ((nr : Int) == 0)) w) := by
  have hB : Below w.heap.size w (w.alloc (.cells #[.int .i64 kind, .slice a2 k c2, .slice a3 na c3, .int .i64 bound, .slice a5 nr c5] 165)) := (Below.refl _ _).alloc (Nat.le_refl _) _
  have H2 := Lib.hid (h2.below hB)
  have H3 := Lib.hid (h3.below hB)
  have H5 := Lib.hid (h5.below hB)
  have HB := Lib.hid hB
  clear h2 h3 h5 hB
  cases g0 : ((k : Int) == 2)
  · go_enter Try.func217, Try.ntmps217
    go_wp2
    go_ret
    exact ⟨ret_bool (by simp), HB.out⟩
  cases g1 : wiB (na : Int) 1 6
  · go_enter Try.func217, Try.ntmps217
    go_wp2_with fail
    refine (within_any _ _ _ _).mono ?_
    rintro e w' ⟨rfl, rfl⟩
    go_wp2
    go_ret
    exact ⟨ret_bool (by simp), HB.out⟩
  cases g2 : allB args 0 5
  · go_enter Try.func217, Try.ntmps217
    go_wp2_with fail
    refine (within_any _ _ _ _).mono ?_
    rintro e w' ⟨rfl, rfl⟩
    go_wp2_with fail
    refine (allWithin_any _ args _ _ _ H3.out).mono ?_
    rintro e w' ⟨rfl, rfl⟩
    go_wp2
    go_ret
    exact ⟨ret_bool (by simp), HB.out⟩
  cases g3 : (bound == 0)
  · go_enter Try.func217, Try.ntmps217
    go_wp2_with fail
    refine (within_any _ _ _ _).mono ?_
    rintro e w' ⟨rfl, rfl⟩
    go_wp2_with fail
    refine (allWithin_any _ args _ _ _ H3.out).mono ?_
    rintro e w' ⟨rfl, rfl⟩
    go_wp2
    go_ret
    exact ⟨ret_bool (by simp), HB.out⟩
  cases g4 : ((nr : Int) == 0)
  · go_enter Try.func217, Try.ntmps217
    go_wp2_with fail
    refine (within_any _ _ _ _).mono ?_
    rintro e w' ⟨rfl, rfl⟩
    go_wp2_with fail
    refine (allWithin_any _ args _ _ _ H3.out).mono ?_
    rintro e w' ⟨rfl, rfl⟩
    go_wp2
    go_ret
    exact ⟨ret_bool (by simp), HB.out⟩
  go_enter Try.func217, Try.ntmps217
  go_wp2_with fail
  refine (within_any _ _ _ _).mono ?_
  rintro e w' ⟨rfl, rfl⟩
  go_wp2_with fail
  refine (allWithin_any _ args _ _ _ H3.out).mono ?_
  rintro e w' ⟨rfl, rfl⟩
  go_wp2
  go_ret
  exact ⟨ret_bool (by simp), HB.out⟩

set_option maxRecDepth 1000000 in
set_option maxHeartbeats 4000000 in
theorem iwf_5 (kind : Int)
    (a2 a3 a5 : Option Addr) (k c2 na c3 nr c5 : Nat) (vars args : List Int) (bound : Int) (rows : List (List Int)) (w : World)
    (hk : k ≤ 2305843009213693952) (hna : na ≤ 9223372036854775807) (hnr : nr ≤ 9223372036854775807)
    (h2 : RdInts w (.slice a2 k c2) vars) (h3 : RdInts w (.slice a3 na c3) args) (h5 : RdRows w (.slice a5 nr c5) rows) :
    Calls Try.prog 218 #[.agg #[.int .i64 kind, .slice a2 k c2, .slice a3 na c3, .int .i64 bound, .slice a5 nr c5]] w (BoolPost (((na : Int) == 0) && (bound == 0) && ((rowsB rows k 0 5 && wiB nr 1 8))) w) := by
  have hB : Below w.heap.size w (w.alloc (.cells #[.int .i64 kind, .slice a2 k c2, .slice a3 na c3, .int .i64 bound, .slice a5 nr c5] 166)) := (Below.refl _ _).alloc (Nat.le_refl _) _
  have H2 := Lib.hid (h2.below hB)
  have H3 := Lib.hid (h3.below hB)
  have H5 := Lib.hid (h5.below hB)
  have HB := Lib.hid hB
  clear h2 h3 h5 hB
  cases g0 : ((na : Int) == 0)
  · go_enter Try.func218, Try.ntmps218
    go_wp2
    go_ret
    exact ⟨ret_bool (by simp), HB.out⟩
  cases g1 : (bound == 0)
  · go_enter Try.func218, Try.ntmps218
    go_wp2
    go_ret
    exact ⟨ret_bool (by simp), HB.out⟩
  cases g2 : (rowsB rows k 0 5 && wiB nr 1 8)
  · go_enter Try.func218, Try.ntmps218
    go_wp2_with fail
    refine (rowsWithin_at _ _ _ rows _ _ _ _ H5.out).mono ?_
    rintro e w' ⟨rfl, rfl⟩
    go_wp2
    go_ret
    exact ⟨ret_bool (by simp), HB.out⟩
  go_enter Try.func218, Try.ntmps218
  go_wp2_with fail
  refine (rowsWithin_at _ _ _ rows _ _ _ _ H5.out).mono ?_
  rintro e w' ⟨rfl, rfl⟩
  go_wp2
  go_ret
  exact ⟨ret_bool (by simp), HB.out⟩

set_option maxRecDepth 1000000 in
set_option maxHeartbeats 4000000 in
theorem iwf_7 (kind : Int)
    (a2 a3 a5 : Option Addr) (k c2 na c3 nr c5 : Nat) (vars args : List Int) (bound : Int) (rows : List (List Int)) (w : World)
    (hk : k ≤ 2305843009213693952) (hna : na ≤ 9223372036854775807) (hnr : nr ≤ 9223372036854775807)
    (h2 : RdInts w (.slice a2 k c2) vars) (h3 : RdInts w (.slice a3 na c3) args) (h5 : RdRows w (.slice a5 nr c5) rows) :
    Calls Try.prog 220 #[.agg #[.int .i64 kind, .slice a2 k c2, .slice a3 na c3, .int .i64 bound, .slice a5 nr c5]] w (BoolPost (((na : Int) == 2 * (k : Int)) && allB args 0 9 && wiB bound 0 9 && ((nr : Int) == 0)) w) := by
  have hB : Below w.heap.size w (w.alloc (.cells #[.int .i64 kind, .slice a2 k c2, .slice a3 na c3, .int .i64 bound, .slice a5 nr c5] 168)) := (Below.refl _ _).alloc (Nat.le_refl _) _
  have H2 := Lib.hid (h2.below hB)
  have H3 := Lib.hid (h3.below hB)
  have H5 := Lib.hid (h5.below hB)
  have HB := Lib.hid hB
  clear h2 h3 h5 hB
  cases g0 : ((na : Int) == 2 * (k : Int))
  · go_enter Try.func220, Try.ntmps220
    go_wp2
    go_ret
    exact ⟨ret_bool (by simp), HB.out⟩
  cases g1 : allB args 0 9
  · go_enter Try.func220, Try.ntmps220
    go_wp2_with fail
    refine (allWithin_any _ args _ _ _ H3.out).mono ?_
    rintro e w' ⟨rfl, rfl⟩
    go_wp2
    go_ret
    exact ⟨ret_bool (by simp), HB.out⟩
  cases g2 : wiB bound 0 9
  · go_enter Try.func220, Try.ntmps220
    go_wp2_with fail
    refine (allWithin_any _ args _ _ _ H3.out).mono ?_
    rintro e w' ⟨rfl, rfl⟩
    go_wp2_with fail
    refine (within_any _ _ _ _).mono ?_
    rintro e w' ⟨rfl, rfl⟩
    go_wp2
    go_ret
    exact ⟨ret_bool (by simp), HB.out⟩
  cases g3 : ((nr : Int) == 0)
  · go_enter Try.func220, Try.ntmps220
    go_wp2_with fail
    refine (allWithin_any _ args _ _ _ H3.out).mono ?_
    rintro e w' ⟨rfl, rfl⟩
    go_wp2_with fail
    refine (within_any _ _ _ _).mono ?_
    rintro e w' ⟨rfl, rfl⟩
    go_wp2
    go_ret
    exact ⟨ret_bool (by simp), HB.out⟩
  go_enter Try.func220, Try.ntmps220
  go_wp2_with fail
  refine (allWithin_any _ args _ _ _ H3.out).mono ?_
  rintro e w' ⟨rfl, rfl⟩
  go_wp2_with fail
  refine (within_any _ _ _ _).mono ?_
  rintro e w' ⟨rfl, rfl⟩
  go_wp2
  go_ret
  exact ⟨ret_bool (by simp), HB.out⟩

theorem one_cell {w : World} {a : Option Addr} {n c : Nat} {xs : List Int} (h : RdInts w (.slice a n c) xs) (e : n = 1) : ∃ b off, a = some ⟨b, off, none⟩ ∧ w.cell? ⟨b, off, none⟩ = some (.int .i64 (xs[0]?.getD 0)) := by
  obtain ⟨a', c', e1, h1, h2, h3⟩ := h
  simp at e1
  obtain ⟨rfl, e2, rfl⟩ := e1
  rcases h3 with h3 | ⟨b, off, rfl, h3⟩
  · omega
  · exact ⟨b, off, rfl, by simpa using h3 0 (by omega)⟩

set_option maxRecDepth 1000000 in
set_option maxHeartbeats 4000000 in
theorem iwf_6 (kind : Int)
    (a2 a3 a5 : Option Addr) (k c2 na c3 nr c5 : Nat) (vars args : List Int) (bound : Int) (rows : List (List Int)) (w : World)
    (hk : k ≤ 2305843009213693952) (hna : na ≤ 9223372036854775807) (hnr : nr ≤ 9223372036854775807)
    (h2 : RdInts w (.slice a2 k c2) vars) (h3 : RdInts w (.slice a3 na c3) args) (h5 : RdRows w (.slice a5 nr c5) rows) :
    Calls Try.prog 219 #[.agg #[.int .i64 kind, .slice a2 k c2, .slice a3 na c3, .int .i64 bound, .slice a5 nr c5]] w (BoolPost (((na : Int) == 1) && wiB (args[0]?.getD 0) 0 5 && wiB bound 0 4 && ((nr : Int) == 0)) w) := by
  have hB : Below w.heap.size w (w.alloc (.cells #[.int .i64 kind, .slice a2 k c2, .slice a3 na c3, .int .i64 bound, .slice a5 nr c5] 167)) := (Below.refl _ _).alloc (Nat.le_refl _) _
  have H2 := Lib.hid (h2.below hB)
  have H3 := Lib.hid (h3.below hB)
  have H5 := Lib.hid (h5.below hB)
  have HB := Lib.hid hB
  clear h2 h3 h5 hB
  have HC : Hid (na = 1 → ∃ b off, a3 = some ⟨b, off, none⟩ ∧ (w.alloc (.cells #[.int .i64 kind, .slice a2 k c2, .slice a3 na c3, .int .i64 bound, .slice a5 nr c5] 167)).cell? ⟨b, off, none⟩ = some (.int .i64 (args[0]?.getD 0))) := Lib.hid (fun e => one_cell H3.out e)
  cases g0 : ((na : Int) == 1)
  · go_enter Try.func219, Try.ntmps219
    go_wp2
    go_ret
    exact ⟨ret_bool (by simp), HB.out⟩
  obtain ⟨b, off, rfl, hc⟩ := HC.out (by have := eq_of_beq g0; omega)
  obtain rfl : na = 1 := by have := eq_of_beq g0; omega
  clear HC
  cases g1 : wiB (args[0]?.getD 0) 0 5
  · go_enter Try.func219, Try.ntmps219
    go_wp2_with fail
    refine (isValue_any _ _).mono ?_
    rintro e w' ⟨rfl, rfl⟩
    go_wp2
    go_ret
    exact ⟨ret_bool (by simp), HB.out⟩
  cases g2 : wiB bound 0 4
  · go_enter Try.func219, Try.ntmps219
    go_wp2_with fail
    refine (isValue_any _ _).mono ?_
    rintro e w' ⟨rfl, rfl⟩
    go_wp2_with fail
    refine (within_any _ _ _ _).mono ?_
    rintro e w' ⟨rfl, rfl⟩
    go_wp2
    go_ret
    exact ⟨ret_bool (by simp), HB.out⟩
  cases g3 : ((nr : Int) == 0)
  · go_enter Try.func219, Try.ntmps219
    go_wp2_with fail
    refine (isValue_any _ _).mono ?_
    rintro e w' ⟨rfl, rfl⟩
    go_wp2_with fail
    refine (within_any _ _ _ _).mono ?_
    rintro e w' ⟨rfl, rfl⟩
    go_wp2
    go_ret
    exact ⟨ret_bool (by simp), HB.out⟩
  go_enter Try.func219, Try.ntmps219
  go_wp2_with fail
  refine (isValue_any _ _).mono ?_
  rintro e w' ⟨rfl, rfl⟩
  go_wp2_with fail
  refine (within_any _ _ _ _).mono ?_
  rintro e w' ⟨rfl, rfl⟩
  go_wp2
  go_ret
  exact ⟨ret_bool (by simp), HB.out⟩

set_option maxRecDepth 1000000 in
set_option maxHeartbeats 4000000 in
theorem iwf_3 (kind : Int)
    (a2 a3 a5 : Option Addr) (k c2 na c3 nr c5 : Nat) (vars args : List Int) (bound : Int) (rows : List (List Int)) (w : World)
    (hk : k ≤ 2305843009213693952) (hna : na ≤ 9223372036854775807) (hnr : nr ≤ 9223372036854775807)
    (h2 : RdInts w (.slice a2 k c2) vars) (h3 : RdInts w (.slice a3 na c3) args) (h5 : RdRows w (.slice a5 nr c5) rows) :
    Calls Try.prog 215 #[.agg #[.int .i64 kind, .slice a2 k c2, .slice a3 na c3, .int .i64 bound, .slice a5 nr c5]] w (BoolPost (((na : Int) == 0) && (bound == 0) && ((nr : Int) == 0)) w) := by
  have hB : Below w.heap.size w (w.alloc (.cells #[.int .i64 kind, .slice a2 k c2, .slice a3 na c3, .int .i64 bound, .slice a5 nr c5] 164)) := (Below.refl _ _).alloc (Nat.le_refl _) _
  have H2 := Lib.hid (h2.below hB)
  have H3 := Lib.hid (h3.below hB)
  have H5 := Lib.hid (h5.below hB)
  have HB := Lib.hid hB
  clear h2 h3 h5 hB
  have hsz : w.heap.size ≤ (w.alloc (.cells #[.int .i64 kind, .slice a2 k c2, .slice a3 na c3, .int .i64 bound, .slice a5 nr c5] 164)).heap.size := HB.out.size
  have HZ := Lib.hid hsz
  clear hsz
  go_enter Try.func215, Try.ntmps215
  go_wp2_with fail
  refine (only_any kind a2 a3 a5 k c2 na c3 nr c5 vars args bound rows _ hk hna hnr H2.out H3.out H5.out).mono ?_
  rintro e w1 ⟨rfl, hb1⟩
  go_wp2
  go_ret
  exact ⟨rfl, HB.out.trans (hb1.mono HZ.out)⟩

set_option maxRecDepth 1000000 in
set_option maxHeartbeats 4000000 in
theorem iwf_9 (kind : Int)
    (a2 a3 a5 : Option Addr) (k c2 na c3 nr c5 : Nat) (vars args : List Int) (bound : Int) (rows : List (List Int)) (w : World)
    (hk : k ≤ 2305843009213693952) (hna : na ≤ 9223372036854775807) (hnr : nr ≤ 9223372036854775807)
    (h2 : RdInts w (.slice a2 k c2) vars) (h3 : RdInts w (.slice a3 na c3) args) (h5 : RdRows w (.slice a5 nr c5) rows) :
    Calls Try.prog 221 #[.agg #[.int .i64 kind, .slice a2 k c2, .slice a3 na c3, .int .i64 bound, .slice a5 nr c5]] w (BoolPost (((na : Int) == 0) && (bound == 0) && ((nr : Int) == 0)) w) := by
  have hB : Below w.heap.size w (w.alloc (.cells #[.int .i64 kind, .slice a2 k c2, .slice a3 na c3, .int .i64 bound, .slice a5 nr c5] 169)) := (Below.refl _ _).alloc (Nat.le_refl _) _
  have H2 := Lib.hid (h2.below hB)
  have H3 := Lib.hid (h3.below hB)
  have H5 := Lib.hid (h5.below hB)
  have HB := Lib.hid hB
  clear h2 h3 h5 hB
  have hsz : w.heap.size ≤ (w.alloc (.cells #[.int .i64 kind, .slice a2 k c2, .slice a3 na c3, .int .i64 bound, .slice a5 nr c5] 169)).heap.size := HB.out.size
  have HZ := Lib.hid hsz
  clear hsz
  go_enter Try.func221, Try.ntmps221
  go_wp2_with fail
  refine (only_any kind a2 a3 a5 k c2 na c3 nr c5 vars args bound rows _ hk hna hnr H2.out H3.out H5.out).mono ?_
  rintro e w1 ⟨rfl, hb1⟩
  go_wp2
  go_ret
  exact ⟨rfl, HB.out.trans (hb1.mono HZ.out)⟩

set_option maxRecDepth 1000000 in
set_option maxHeartbeats 4000000 in
theorem iwf_8 (kind : Int)
    (a2 a3 a5 : Option Addr) (k c2 na c3 nr c5 : Nat) (vars args : List Int) (bound : Int) (rows : List (List Int)) (w : World)
    (hk : k ≤ 2305843009213693952) (hna : na ≤ 9223372036854775807) (hnr : nr ≤ 9223372036854775807)
    (h2 : RdInts w (.slice a2 k c2) vars) (h3 : RdInts w (.slice a3 na c3) args) (h5 : RdRows w (.slice a5 nr c5) rows) :
    Calls Try.prog 99 #[.agg #[.int .i64 kind, .slice a2 k c2, .slice a3 na c3, .int .i64 bound, .slice a5 nr c5]] w (BoolPost (((rowsB rows 6 (-1) (nr - 1) && wiB nr 1 8)) && ((allB args 0 (nr - 1) && dstB args)) && (bound == 0)) w) := by
  have hB : Below w.heap.size w (w.alloc (.cells #[.int .i64 kind, .slice a2 k c2, .slice a3 na c3, .int .i64 bound, .slice a5 nr c5] 113)) := (Below.refl _ _).alloc (Nat.le_refl _) _
  have H2 := Lib.hid (h2.below hB)
  have H3 := Lib.hid (h3.below hB)
  have H5 := Lib.hid (h5.below hB)
  have HB := Lib.hid hB
  clear h2 h3 h5 hB
  have HZ := Lib.hid (show w.heap.size + 1 = (w.alloc (.cells #[.int .i64 kind, .slice a2 k c2, .slice a3 na c3, .int .i64 bound, .slice a5 nr c5] 113)).heap.size from by simp)
  cases g0 : (rowsB rows 6 (-1) (nr - 1) && wiB nr 1 8)
  · go_enter Try.func99, Try.ntmps99
    go_wp2_with fail
    refine (rowsWithin_at _ _ _ rows _ _ _ _ H5.out).mono ?_
    rintro e w' ⟨rfl, rfl⟩
    go_wp2
    go_ret
    exact ⟨ret_bool (by simp), HB.out⟩
  have hnr8 : nr ≤ 8 := by have := wiB_in (Bool.and_eq_true_iff.1 g0).2; omega
  cases g1 : (allB args 0 (nr - 1) && dstB args)
  · go_enter Try.func99, Try.ntmps99
    go_wp2_with fail
    refine (rowsWithin_at _ _ _ rows _ _ _ _ H5.out).mono ?_
    rintro e w' ⟨rfl, rfl⟩
    go_wp2_with fail
    refine (areDistinct_any _ args nr _ H3.out hnr8).mono ?_
    rintro e w1 ⟨rfl, hb1⟩
    have hc3 : w1.cell? ⟨w.heap.size, 3, none⟩ = some (.int .i64 bound) := (hb1.cell (p := ⟨w.heap.size, 3, none⟩) (by rw [← HZ.out]; exact Nat.lt_succ_self _)).trans (by simp)
    have hb2 : Below w.heap.size w w1 := HB.out.trans (hb1.mono (by rw [← HZ.out]; exact Nat.le_succ _))
    clear hb1
    go_wp2
    go_ret
    exact ⟨ret_bool (by simp), hb2⟩
  cases g2 : (bound == 0)
  · go_enter Try.func99, Try.ntmps99
    go_wp2_with fail
    refine (rowsWithin_at _ _ _ rows _ _ _ _ H5.out).mono ?_
    rintro e w' ⟨rfl, rfl⟩
    go_wp2_with fail
    refine (areDistinct_any _ args nr _ H3.out hnr8).mono ?_
    rintro e w1 ⟨rfl, hb1⟩
    have hc3 : w1.cell? ⟨w.heap.size, 3, none⟩ = some (.int .i64 bound) := (hb1.cell (p := ⟨w.heap.size, 3, none⟩) (by rw [← HZ.out]; exact Nat.lt_succ_self _)).trans (by simp)
    have hb2 : Below w.heap.size w w1 := HB.out.trans (hb1.mono (by rw [← HZ.out]; exact Nat.le_succ _))
    clear hb1
    go_wp2
    go_ret
    exact ⟨ret_bool (by simp), hb2⟩
  go_enter Try.func99, Try.ntmps99
  go_wp2_with fail
  refine (rowsWithin_at _ _ _ rows _ _ _ _ H5.out).mono ?_
  rintro e w' ⟨rfl, rfl⟩
  go_wp2_with fail
  refine (areDistinct_any _ args nr _ H3.out hnr8).mono ?_
  rintro e w1 ⟨rfl, hb1⟩
  have hc3 : w1.cell? ⟨w.heap.size, 3, none⟩ = some (.int .i64 bound) := (hb1.cell (p := ⟨w.heap.size, 3, none⟩) (by rw [← HZ.out]; exact Nat.lt_succ_self _)).trans (by simp)
  have hb2 : Below w.heap.size w w1 := HB.out.trans (hb1.mono (by rw [← HZ.out]; exact Nat.le_succ _))
  clear hb1
  go_wp2
  go_ret
  exact ⟨ret_bool (by simp), hb2⟩
end Go.Proofs.Ytelglccegkhfcaa

/-! impl.ValidConstraint: the front of it, then kind by kind: the rule of the kind, its method. -/
namespace Go.Proofs.Ytelglccegkhfcaa
open Go.ChangeShapes Go.WideShapes Go.ChangeAt Go.RowKit
set_option linter.unusedVariables false
set_option linter.unusedSimpArgs false

set_option maxRecDepth 1000000 in
set_option maxHeartbeats 4000000 in
theorem ivc_n (kind n : Int)
    (a2 a3 a5 : Option Addr) (k c2 na c3 nr c5 : Nat) (vars args : List Int) (bound : Int) (rows : List (List Int)) (w : World)
    (hk : k ≤ 2305843009213693952) (hna : na ≤ 9223372036854775807) (hnr : nr ≤ 9223372036854775807)
    (h2 : RdInts w (.slice a2 k c2) vars) (h3 : RdInts w (.slice a3 na c3) args) (h5 : RdRows w (.slice a5 nr c5) rows)
    (f0 : wiB n 1 4 = false) :
    Calls Try.prog 123 #[.agg #[.int .i64 kind, .slice a2 k c2, .slice a3 na c3, .int .i64 bound, .slice a5 nr c5], .int .i64 n] w (BoolPost false w) := by
  have hB : Below w.heap.size w (w.alloc (.cells #[.int .i64 kind, .slice a2 k c2, .slice a3 na c3, .int .i64 bound, .slice a5 nr c5] 97)) := (Below.refl _ _).alloc (Nat.le_refl _) _
  have HZ := Lib.hid (show w.heap.size + 1 = (w.alloc (.cells #[.int .i64 kind, .slice a2 k c2, .slice a3 na c3, .int .i64 bound, .slice a5 nr c5] 97)).heap.size from by simp)
  have H2 := Lib.hid (h2.below hB)
  have H3 := Lib.hid (h3.below hB)
  have H5 := Lib.hid (h5.below hB)
  have HB := Lib.hid hB
  clear h2 h3 h5 hB
  go_enter Try.func123, Try.ntmps123
  go_wp2_with fail
  refine (within_any _ _ _ _).mono ?_
  rintro e w' ⟨rfl, rfl⟩
  go_wp2
  go_ret
  exact ⟨rfl, HB.out⟩

set_option maxRecDepth 1000000 in
set_option maxHeartbeats 4000000 in
theorem ivc_k (kind : Int) (n : Nat)
    (a2 a3 a5 : Option Addr) (k c2 na c3 nr c5 : Nat) (vars args : List Int) (bound : Int) (rows : List (List Int)) (w : World)
    (hk : k ≤ 2305843009213693952) (hna : na ≤ 9223372036854775807) (hnr : nr ≤ 9223372036854775807)
    (h2 : RdInts w (.slice a2 k c2) vars) (h3 : RdInts w (.slice a3 na c3) args) (h5 : RdRows w (.slice a5 nr c5) rows)
    (f0 : wiB n 1 4 = true) (f1 : ((k : Int) == 0) = true) :
    Calls Try.prog 123 #[.agg #[.int .i64 kind, .slice a2 k c2, .slice a3 na c3, .int .i64 bound, .slice a5 nr c5], .int .i64 n] w (BoolPost false w) := by
  have hB : Below w.heap.size w (w.alloc (.cells #[.int .i64 kind, .slice a2 k c2, .slice a3 na c3, .int .i64 bound, .slice a5 nr c5] 97)) := (Below.refl _ _).alloc (Nat.le_refl _) _
  have HZ := Lib.hid (show w.heap.size + 1 = (w.alloc (.cells #[.int .i64 kind, .slice a2 k c2, .slice a3 na c3, .int .i64 bound, .slice a5 nr c5] 97)).heap.size from by simp)
  have H2 := Lib.hid (h2.below hB)
  have H3 := Lib.hid (h3.below hB)
  have H5 := Lib.hid (h5.below hB)
  have HB := Lib.hid hB
  clear h2 h3 h5 hB
  go_enter Try.func123, Try.ntmps123
  go_wp2_with fail
  refine (within_any _ _ _ _).mono ?_
  rintro e w' ⟨rfl, rfl⟩
  go_wp2
  go_ret
  exact ⟨rfl, HB.out⟩

set_option maxRecDepth 1000000 in
set_option maxHeartbeats 4000000 in
theorem ivc_d (kind : Int) (n : Nat)
    (a2 a3 a5 : Option Addr) (k c2 na c3 nr c5 : Nat) (vars args : List Int) (bound : Int) (rows : List (List Int)) (w : World)
    (hk : k ≤ 2305843009213693952) (hna : na ≤ 9223372036854775807) (hnr : nr ≤ 9223372036854775807)
    (h2 : RdInts w (.slice a2 k c2) vars) (h3 : RdInts w (.slice a3 na c3) args) (h5 : RdRows w (.slice a5 nr c5) rows)
    (f0 : wiB n 1 4 = true) (f1 : ((k : Int) == 0) = false) (f2 : (allB vars 0 (n - 1) && dstB vars) = false) (hn4 : n ≤ 4) :
    Calls Try.prog 123 #[.agg #[.int .i64 kind, .slice a2 k c2, .slice a3 na c3, .int .i64 bound, .slice a5 nr c5], .int .i64 n] w (BoolPost false w) := by
  have hB : Below w.heap.size w (w.alloc (.cells #[.int .i64 kind, .slice a2 k c2, .slice a3 na c3, .int .i64 bound, .slice a5 nr c5] 97)) := (Below.refl _ _).alloc (Nat.le_refl _) _
  have HZ := Lib.hid (show w.heap.size + 1 = (w.alloc (.cells #[.int .i64 kind, .slice a2 k c2, .slice a3 na c3, .int .i64 bound, .slice a5 nr c5] 97)).heap.size from by simp)
  have H2 := Lib.hid (h2.below hB)
  have H3 := Lib.hid (h3.below hB)
  have H5 := Lib.hid (h5.below hB)
  have HB := Lib.hid hB
  clear h2 h3 h5 hB
  go_enter Try.func123, Try.ntmps123
  go_wp2_with fail
  refine (within_any _ _ _ _).mono ?_
  rintro e w' ⟨rfl, rfl⟩
  go_wp2_with fail
  refine (areDistinct_any _ vars n _ H2.out (by omega)).mono ?_
  rintro e w1 ⟨rfl, hb1⟩
  have hb2 : Below w.heap.size w w1 := HB.out.trans (hb1.mono (by rw [← HZ.out]; exact Nat.le_succ _))
  clear hb1
  go_wp2
  go_ret
  exact ⟨rfl, hb2⟩

set_option maxRecDepth 1000000 in
set_option maxHeartbeats 4000000 in
theorem ruleOf_1 (a2 a3 a5 : Option Addr) (k c2 na c3 nr c5 : Nat) (bound : Int) (w : World) :
    Calls Try.prog 153 #[.agg #[.int .i64 1, .slice a2 k c2, .slice a3 na c3, .int .i64 bound, .slice a5 nr c5]] w fun e w' => e = .returned (.iface 162 (.agg #[.int .i64 1, .slice a2 k c2, .slice a3 na c3, .int .i64 bound, .slice a5 nr c5])) ∧ Below w.heap.size w w' := by
  go_enter Try.func153, Try.ntmps153
  go_wp2
  go_ret
  exact ⟨rfl, (Below.refl _ _).alloc (Nat.le_refl _) _⟩
theorem method_1 (a2 a3 a5 : Option Addr) (k c2 na c3 nr c5 : Nat) (bound : Int) (w : World) : (method 317 162 (.agg #[.int .i64 1, .slice a2 k c2, .slice a3 na c3, .int .i64 bound, .slice a5 nr c5]) "loop.example/constraintsolver/impl.wellFormed").run Try.prog w = .ok (213, .agg #[.int .i64 1, .slice a2 k c2, .slice a3 na c3, .int .i64 bound, .slice a5 nr c5]) w := by kernel_rfl

set_option maxRecDepth 1000000 in
set_option maxHeartbeats 4000000 in
theorem ivc_1 (n : Nat)
    (a2 a3 a5 : Option Addr) (k c2 na c3 nr c5 : Nat) (vars args : List Int) (bound : Int) (rows : List (List Int)) (w : World)
    (hk : k ≤ 2305843009213693952) (hna : na ≤ 9223372036854775807) (hnr : nr ≤ 9223372036854775807)
    (h2 : RdInts w (.slice a2 k c2) vars) (h3 : RdInts w (.slice a3 na c3) args) (h5 : RdRows w (.slice a5 nr c5) rows)
    (f0 : wiB n 1 4 = true) (f1 : ((k : Int) == 0) = false) (f2 : (allB vars 0 (n - 1) && dstB vars) = true) (hn4 : n ≤ 4) :
    Calls Try.prog 123 #[.agg #[.int .i64 1, .slice a2 k c2, .slice a3 na c3, .int .i64 bound, .slice a5 nr c5], .int .i64 n] w (BoolPost (((na : Int) == (k : Int)) && allB args (-9) 9 && wiB bound (-999) 999 && ((nr : Int) == 0)) w) := by
  have hB : Below w.heap.size w (w.alloc (.cells #[.int .i64 1, .slice a2 k c2, .slice a3 na c3, .int .i64 bound, .slice a5 nr c5] 97)) := (Below.refl _ _).alloc (Nat.le_refl _) _
  have HZ := Lib.hid (show w.heap.size + 1 = (w.alloc (.cells #[.int .i64 1, .slice a2 k c2, .slice a3 na c3, .int .i64 bound, .slice a5 nr c5] 97)).heap.size from by simp)
  have H2 := Lib.hid (h2.below hB)
  have H3 := Lib.hid (h3.below hB)
  have H5 := Lib.hid (h5.below hB)
  have HB := Lib.hid hB
  clear h2 h3 h5 hB
  go_enter Try.func123, Try.ntmps123
  go_wp2_with fail
  refine (within_any _ _ _ _).mono ?_
  rintro e w' ⟨rfl, rfl⟩
  go_wp2_with fail
  refine (areDistinct_any _ vars n _ H2.out (by omega)).mono ?_
  rintro e w1 ⟨rfl, hb1⟩
  have hb2 : Below w.heap.size w w1 := HB.out.trans (hb1.mono (by rw [← HZ.out]; exact Nat.le_succ _))
  have hc : ∀ j : Nat, w1.cell? ⟨w.heap.size, j, none⟩ = (w.alloc (.cells #[.int .i64 1, .slice a2 k c2, .slice a3 na c3, .int .i64 bound, .slice a5 nr c5] 97)).cell? ⟨w.heap.size, j, none⟩ := fun j => hb1.cell (p := ⟨w.heap.size, j, none⟩) (by rw [← HZ.out]; exact Nat.lt_succ_self _)
  have d0 := (hc 0).trans (by simp; rfl)
  have d1 := (hc 1).trans (by simp; rfl)
  have d2 := (hc 2).trans (by simp; rfl)
  have d3 := (hc 3).trans (by simp; rfl)
  have d4 := (hc 4).trans (by simp; rfl)
  have e2 := Lib.hid (H2.out.below hb1)
  have e3 := Lib.hid (H3.out.below hb1)
  have e5 := Lib.hid (H5.out.below hb1)
  clear hc hb1
  go_wp2_with fail
  refine (ruleOf_1 a2 a3 a5 k c2 na c3 nr c5 bound _).mono ?_
  rintro e w2 ⟨rfl, hb3⟩
  have e2' := Lib.hid (e2.out.below hb3)
  have e3' := Lib.hid (e3.out.below hb3)
  have e5' := Lib.hid (e5.out.below hb3)
  have hb4 : Below w.heap.size w w2 := hb2.trans (hb3.mono hb2.size)
  clear hb3
  have hm := method_1 a2 a3 a5 k c2 na c3 nr c5 bound w2
  go_wp2_with fail
  refine (iwf_1 1 a2 a3 a5 k c2 na c3 nr c5 vars args bound rows w2 hk hna hnr e2'.out e3'.out e5'.out).mono ?_
  rintro e w3 ⟨rfl, hb5⟩
  go_wp2
  go_ret
  exact ⟨rfl, hb4.trans (hb5.mono hb4.size)⟩

set_option maxRecDepth 1000000 in
set_option maxHeartbeats 4000000 in
theorem ruleOf_2 (a2 a3 a5 : Option Addr) (k c2 na c3 nr c5 : Nat) (bound : Int) (w : World) :
    Calls Try.prog 153 #[.agg #[.int .i64 2, .slice a2 k c2, .slice a3 na c3, .int .i64 bound, .slice a5 nr c5]] w fun e w' => e = .returned (.iface 163 (.agg #[.int .i64 2, .slice a2 k c2, .slice a3 na c3, .int .i64 bound, .slice a5 nr c5])) ∧ Below w.heap.size w w' := by
  go_enter Try.func153, Try.ntmps153
  go_wp2
  go_ret
  exact ⟨rfl, (Below.refl _ _).alloc (Nat.le_refl _) _⟩
theorem method_2 (a2 a3 a5 : Option Addr) (k c2 na c3 nr c5 : Nat) (bound : Int) (w : World) : (method 317 163 (.agg #[.int .i64 2, .slice a2 k c2, .slice a3 na c3, .int .i64 bound, .slice a5 nr c5]) "loop.example/constraintsolver/impl.wellFormed").run Try.prog w = .ok (214, .agg #[.int .i64 2, .slice a2 k c2, .slice a3 na c3, .int .i64 bound, .slice a5 nr c5]) w := by kernel_rfl

set_option maxRecDepth 1000000 in
set_option maxHeartbeats 4000000 in
theorem ivc_2 (n : Nat)
    (a2 a3 a5 : Option Addr) (k c2 na c3 nr c5 : Nat) (vars args : List Int) (bound : Int) (rows : List (List Int)) (w : World)
    (hk : k ≤ 2305843009213693952) (hna : na ≤ 9223372036854775807) (hnr : nr ≤ 9223372036854775807)
    (h2 : RdInts w (.slice a2 k c2) vars) (h3 : RdInts w (.slice a3 na c3) args) (h5 : RdRows w (.slice a5 nr c5) rows)
    (f0 : wiB n 1 4 = true) (f1 : ((k : Int) == 0) = false) (f2 : (allB vars 0 (n - 1) && dstB vars) = true) (hn4 : n ≤ 4) :
    Calls Try.prog 123 #[.agg #[.int .i64 2, .slice a2 k c2, .slice a3 na c3, .int .i64 bound, .slice a5 nr c5], .int .i64 n] w (BoolPost (((k : Int) == 2) && ((na : Int) == 1) && allB args (-9) 9 && (bound == 0) && ((nr : Int) == 0)) w) := by
  have hB : Below w.heap.size w (w.alloc (.cells #[.int .i64 2, .slice a2 k c2, .slice a3 na c3, .int .i64 bound, .slice a5 nr c5] 97)) := (Below.refl _ _).alloc (Nat.le_refl _) _
  have HZ := Lib.hid (show w.heap.size + 1 = (w.alloc (.cells #[.int .i64 2, .slice a2 k c2, .slice a3 na c3, .int .i64 bound, .slice a5 nr c5] 97)).heap.size from by simp)
  have H2 := Lib.hid (h2.below hB)
  have H3 := Lib.hid (h3.below hB)
  have H5 := Lib.hid (h5.below hB)
  have HB := Lib.hid hB
  clear h2 h3 h5 hB
  go_enter Try.func123, Try.ntmps123
  go_wp2_with fail
  refine (within_any _ _ _ _).mono ?_
  rintro e w' ⟨rfl, rfl⟩
  go_wp2_with fail
  refine (areDistinct_any _ vars n _ H2.out (by omega)).mono ?_
  rintro e w1 ⟨rfl, hb1⟩
  have hb2 : Below w.heap.size w w1 := HB.out.trans (hb1.mono (by rw [← HZ.out]; exact Nat.le_succ _))
  have hc : ∀ j : Nat, w1.cell? ⟨w.heap.size, j, none⟩ = (w.alloc (.cells #[.int .i64 2, .slice a2 k c2, .slice a3 na c3, .int .i64 bound, .slice a5 nr c5] 97)).cell? ⟨w.heap.size, j, none⟩ := fun j => hb1.cell (p := ⟨w.heap.size, j, none⟩) (by rw [← HZ.out]; exact Nat.lt_succ_self _)
  have d0 := (hc 0).trans (by simp; rfl)
  have d1 := (hc 1).trans (by simp; rfl)
  have d2 := (hc 2).trans (by simp; rfl)
  have d3 := (hc 3).trans (by simp; rfl)
  have d4 := (hc 4).trans (by simp; rfl)
  have e2 := Lib.hid (H2.out.below hb1)
  have e3 := Lib.hid (H3.out.below hb1)
  have e5 := Lib.hid (H5.out.below hb1)
  clear hc hb1
  go_wp2_with fail
  refine (ruleOf_2 a2 a3 a5 k c2 na c3 nr c5 bound _).mono ?_
  rintro e w2 ⟨rfl, hb3⟩
  have e2' := Lib.hid (e2.out.below hb3)
  have e3' := Lib.hid (e3.out.below hb3)
  have e5' := Lib.hid (e5.out.below hb3)
  have hb4 : Below w.heap.size w w2 := hb2.trans (hb3.mono hb2.size)
  clear hb3
  have hm := method_2 a2 a3 a5 k c2 na c3 nr c5 bound w2
  go_wp2_with fail
  refine (iwf_2 2 a2 a3 a5 k c2 na c3 nr c5 vars args bound rows w2 hk hna hnr e2'.out e3'.out e5'.out).mono ?_
  rintro e w3 ⟨rfl, hb5⟩
  go_wp2
  go_ret
  exact ⟨rfl, hb4.trans (hb5.mono hb4.size)⟩

set_option maxRecDepth 1000000 in
set_option maxHeartbeats 4000000 in
theorem ruleOf_3 (a2 a3 a5 : Option Addr) (k c2 na c3 nr c5 : Nat) (bound : Int) (w : World) :
    Calls Try.prog 153 #[.agg #[.int .i64 3, .slice a2 k c2, .slice a3 na c3, .int .i64 bound, .slice a5 nr c5]] w fun e w' => e = .returned (.iface 164 (.agg #[.int .i64 3, .slice a2 k c2, .slice a3 na c3, .int .i64 bound, .slice a5 nr c5])) ∧ Below w.heap.size w w' := by
  go_enter Try.func153, Try.ntmps153
  go_wp2
  go_ret
  exact ⟨rfl, (Below.refl _ _).alloc (Nat.le_refl _) _⟩
theorem method_3 (a2 a3 a5 : Option Addr) (k c2 na c3 nr c5 : Nat) (bound : Int) (w : World) : (method 317 164 (.agg #[.int .i64 3, .slice a2 k c2, .slice a3 na c3, .int .i64 bound, .slice a5 nr c5]) "loop.example/constraintsolver/impl.wellFormed").run Try.prog w = .ok (215, .agg #[.int .i64 3, .slice a2 k c2, .slice a3 na c3, .int .i64 bound, .slice a5 nr c5]) w := by kernel_rfl

set_option maxRecDepth 1000000 in
set_option maxHeartbeats 4000000 in
theorem ivc_3 (n : Nat)
    (a2 a3 a5 : Option Addr) (k c2 na c3 nr c5 : Nat) (vars args : List Int) (bound : Int) (rows : List (List Int)) (w : World)
    (hk : k ≤ 2305843009213693952) (hna : na ≤ 9223372036854775807) (hnr : nr ≤ 9223372036854775807)
    (h2 : RdInts w (.slice a2 k c2) vars) (h3 : RdInts w (.slice a3 na c3) args) (h5 : RdRows w (.slice a5 nr c5) rows)
    (f0 : wiB n 1 4 = true) (f1 : ((k : Int) == 0) = false) (f2 : (allB vars 0 (n - 1) && dstB vars) = true) (hn4 : n ≤ 4) :
    Calls Try.prog 123 #[.agg #[.int .i64 3, .slice a2 k c2, .slice a3 na c3, .int .i64 bound, .slice a5 nr c5], .int .i64 n] w (BoolPost (((na : Int) == 0) && (bound == 0) && ((nr : Int) == 0)) w) := by
  have hB : Below w.heap.size w (w.alloc (.cells #[.int .i64 3, .slice a2 k c2, .slice a3 na c3, .int .i64 bound, .slice a5 nr c5] 97)) := (Below.refl _ _).alloc (Nat.le_refl _) _
  have HZ := Lib.hid (show w.heap.size + 1 = (w.alloc (.cells #[.int .i64 3, .slice a2 k c2, .slice a3 na c3, .int .i64 bound, .slice a5 nr c5] 97)).heap.size from by simp)
  have H2 := Lib.hid (h2.below hB)
  have H3 := Lib.hid (h3.below hB)
  have H5 := Lib.hid (h5.below hB)
  have HB := Lib.hid hB
  clear h2 h3 h5 hB
  go_enter Try.func123, Try.ntmps123
  go_wp2_with fail
  refine (within_any _ _ _ _).mono ?_
  rintro e w' ⟨rfl, rfl⟩
  go_wp2_with fail
  refine (areDistinct_any _ vars n _ H2.out (by omega)).mono ?_
  rintro e w1 ⟨rfl, hb1⟩
  have hb2 : Below w.heap.size w w1 := HB.out.trans (hb1.mono (by rw [← HZ.out]; exact Nat.le_succ _))
  have hc : ∀ j : Nat, w1.cell? ⟨w.heap.size, j, none⟩ = (w.alloc (.cells #[.int .i64 3, .slice a2 k c2, .slice a3 na c3, .int .i64 bound, .slice a5 nr c5] 97)).cell? ⟨w.heap.size, j, none⟩ := fun j => hb1.cell (p := ⟨w.heap.size, j, none⟩) (by rw [← HZ.out]; exact Nat.lt_succ_self _)
  have d0 := (hc 0).trans (by simp; rfl)
  have d1 := (hc 1).trans (by simp; rfl)
  have d2 := (hc 2).trans (by simp; rfl)
  have d3 := (hc 3).trans (by simp; rfl)
  have d4 := (hc 4).trans (by simp; rfl)
  have e2 := Lib.hid (H2.out.below hb1)
  have e3 := Lib.hid (H3.out.below hb1)
  have e5 := Lib.hid (H5.out.below hb1)
  clear hc hb1
  go_wp2_with fail
  refine (ruleOf_3 a2 a3 a5 k c2 na c3 nr c5 bound _).mono ?_
  rintro e w2 ⟨rfl, hb3⟩
  have e2' := Lib.hid (e2.out.below hb3)
  have e3' := Lib.hid (e3.out.below hb3)
  have e5' := Lib.hid (e5.out.below hb3)
  have hb4 : Below w.heap.size w w2 := hb2.trans (hb3.mono hb2.size)
  clear hb3
  have hm := method_3 a2 a3 a5 k c2 na c3 nr c5 bound w2
  go_wp2_with fail
  refine (iwf_3 3 a2 a3 a5 k c2 na c3 nr c5 vars args bound rows w2 hk hna hnr e2'.out e3'.out e5'.out).mono ?_
  rintro e w3 ⟨rfl, hb5⟩
  go_wp2
  go_ret
  exact ⟨rfl, hb4.trans (hb5.mono hb4.size)⟩

set_option maxRecDepth 1000000 in
set_option maxHeartbeats 4000000 in
theorem ruleOf_4 (a2 a3 a5 : Option Addr) (k c2 na c3 nr c5 : Nat) (bound : Int) (w : World) :
    Calls Try.prog 153 #[.agg #[.int .i64 4, .slice a2 k c2, .slice a3 na c3, .int .i64 bound, .slice a5 nr c5]] w fun e w' => e = .returned (.iface 165 (.agg #[.int .i64 4, .slice a2 k c2, .slice a3 na c3, .int .i64 bound, .slice a5 nr c5])) ∧ Below w.heap.size w w' := by
  go_enter Try.func153, Try.ntmps153
  go_wp2
  go_ret
  exact ⟨rfl, (Below.refl _ _).alloc (Nat.le_refl _) _⟩
theorem method_4 (a2 a3 a5 : Option Addr) (k c2 na c3 nr c5 : Nat) (bound : Int) (w : World) : (method 317 165 (.agg #[.int .i64 4, .slice a2 k c2, .slice a3 na c3, .int .i64 bound, .slice a5 nr c5]) "loop.example/constraintsolver/impl.wellFormed").run Try.prog w = .ok (217, .agg #[.int .i64 4, .slice a2 k c2, .slice a3 na c3, .int .i64 bound, .slice a5 nr c5]) w := by kernel_rfl

set_option maxRecDepth 1000000 in
set_option maxHeartbeats 4000000 in
theorem ivc_4 (n : Nat)
    (a2 a3 a5 : Option Addr) (k c2 na c3 nr c5 : Nat) (vars args : List Int) (bound : Int) (rows : List (List Int)) (w : World)
    (hk : k ≤ 2305843009213693952) (hna : na ≤ 9223372036854775807) (hnr : nr ≤ 9223372036854775807)
    (h2 : RdInts w (.slice a2 k c2) vars) (h3 : RdInts w (.slice a3 na c3) args) (h5 : RdRows w (.slice a5 nr c5) rows)
    (f0 : wiB n 1 4 = true) (f1 : ((k : Int) == 0) = false) (f2 : (allB vars 0 (n - 1) && dstB vars) = true) (hn4 : n ≤ 4) :
    Calls Try.prog 123 #[.agg #[.int .i64 4, .slice a2 k c2, .slice a3 na c3, .int .i64 bound, .slice a5 nr c5], .int .i64 n] w (BoolPost (((k : Int) == 2) && wiB (na : Int) 1 6 && allB args 0 5 && (bound == 0) && ((nr : Int) == 0)) w) := by
  have hB : Below w.heap.size w (w.alloc (.cells #[.int .i64 4, .slice a2 k c2, .slice a3 na c3, .int .i64 bound, .slice a5 nr c5] 97)) := (Below.refl _ _).alloc (Nat.le_refl _) _
  have HZ := Lib.hid (show w.heap.size + 1 = (w.alloc (.cells #[.int .i64 4, .slice a2 k c2, .slice a3 na c3, .int .i64 bound, .slice a5 nr c5] 97)).heap.size from by simp)
  have H2 := Lib.hid (h2.below hB)
  have H3 := Lib.hid (h3.below hB)
  have H5 := Lib.hid (h5.below hB)
  have HB := Lib.hid hB
  clear h2 h3 h5 hB
  go_enter Try.func123, Try.ntmps123
  go_wp2_with fail
  refine (within_any _ _ _ _).mono ?_
  rintro e w' ⟨rfl, rfl⟩
  go_wp2_with fail
  refine (areDistinct_any _ vars n _ H2.out (by omega)).mono ?_
  rintro e w1 ⟨rfl, hb1⟩
  have hb2 : Below w.heap.size w w1 := HB.out.trans (hb1.mono (by rw [← HZ.out]; exact Nat.le_succ _))
  have hc : ∀ j : Nat, w1.cell? ⟨w.heap.size, j, none⟩ = (w.alloc (.cells #[.int .i64 4, .slice a2 k c2, .slice a3 na c3, .int .i64 bound, .slice a5 nr c5] 97)).cell? ⟨w.heap.size, j, none⟩ := fun j => hb1.cell (p := ⟨w.heap.size, j, none⟩) (by rw [← HZ.out]; exact Nat.lt_succ_self _)
  have d0 := (hc 0).trans (by simp; rfl)
  have d1 := (hc 1).trans (by simp; rfl)
  have d2 := (hc 2).trans (by simp; rfl)
  have d3 := (hc 3).trans (by simp; rfl)
  have d4 := (hc 4).trans (by simp; rfl)
  have e2 := Lib.hid (H2.out.below hb1)
  have e3 := Lib.hid (H3.out.below hb1)
  have e5 := Lib.hid (H5.out.below hb1)
  clear hc hb1
  go_wp2_with fail
  refine (ruleOf_4 a2 a3 a5 k c2 na c3 nr c5 bound _).mono ?_
  rintro e w2 ⟨rfl, hb3⟩
  have e2' := Lib.hid (e2.out.below hb3)
  have e3' := Lib.hid (e3.out.below hb3)
  have e5' := Lib.hid (e5.out.below hb3)
  have hb4 : Below w.heap.size w w2 := hb2.trans (hb3.mono hb2.size)
  clear hb3
  have hm := method_4 a2 a3 a5 k c2 na c3 nr c5 bound w2
  go_wp2_with fail
  refine (iwf_4 4 a2 a3 a5 k c2 na c3 nr c5 vars args bound rows w2 hk hna hnr e2'.out e3'.out e5'.out).mono ?_
  rintro e w3 ⟨rfl, hb5⟩
  go_wp2
  go_ret
  exact ⟨rfl, hb4.trans (hb5.mono hb4.size)⟩

set_option maxRecDepth 1000000 in
set_option maxHeartbeats 4000000 in
theorem ruleOf_5 (a2 a3 a5 : Option Addr) (k c2 na c3 nr c5 : Nat) (bound : Int) (w : World) :
    Calls Try.prog 153 #[.agg #[.int .i64 5, .slice a2 k c2, .slice a3 na c3, .int .i64 bound, .slice a5 nr c5]] w fun e w' => e = .returned (.iface 166 (.agg #[.int .i64 5, .slice a2 k c2, .slice a3 na c3, .int .i64 bound, .slice a5 nr c5])) ∧ Below w.heap.size w w' := by
  go_enter Try.func153, Try.ntmps153
  go_wp2
  go_ret
  exact ⟨rfl, (Below.refl _ _).alloc (Nat.le_refl _) _⟩
theorem method_5 (a2 a3 a5 : Option Addr) (k c2 na c3 nr c5 : Nat) (bound : Int) (w : World) : (method 317 166 (.agg #[.int .i64 5, .slice a2 k c2, .slice a3 na c3, .int .i64 bound, .slice a5 nr c5]) "loop.example/constraintsolver/impl.wellFormed").run Try.prog w = .ok (218, .agg #[.int .i64 5, .slice a2 k c2, .slice a3 na c3, .int .i64 bound, .slice a5 nr c5]) w := by kernel_rfl

set_option maxRecDepth 1000000 in
set_option maxHeartbeats 4000000 in
theorem ivc_5 (n : Nat)
    (a2 a3 a5 : Option Addr) (k c2 na c3 nr c5 : Nat) (vars args : List Int) (bound : Int) (rows : List (List Int)) (w : World)
    (hk : k ≤ 2305843009213693952) (hna : na ≤ 9223372036854775807) (hnr : nr ≤ 9223372036854775807)
    (h2 : RdInts w (.slice a2 k c2) vars) (h3 : RdInts w (.slice a3 na c3) args) (h5 : RdRows w (.slice a5 nr c5) rows)
    (f0 : wiB n 1 4 = true) (f1 : ((k : Int) == 0) = false) (f2 : (allB vars 0 (n - 1) && dstB vars) = true) (hn4 : n ≤ 4) :
    Calls Try.prog 123 #[.agg #[.int .i64 5, .slice a2 k c2, .slice a3 na c3, .int .i64 bound, .slice a5 nr c5], .int .i64 n] w (BoolPost (((na : Int) == 0) && (bound == 0) && ((rowsB rows k 0 5 && wiB nr 1 8))) w) := by
  have hB : Below w.heap.size w (w.alloc (.cells #[.int .i64 5, .slice a2 k c2, .slice a3 na c3, .int .i64 bound, .slice a5 nr c5] 97)) := (Below.refl _ _).alloc (Nat.le_refl _) _
  have HZ := Lib.hid (show w.heap.size + 1 = (w.alloc (.cells #[.int .i64 5, .slice a2 k c2, .slice a3 na c3, .int .i64 bound, .slice a5 nr c5] 97)).heap.size from by simp)
  have H2 := Lib.hid (h2.below hB)
  have H3 := Lib.hid (h3.below hB)
  have H5 := Lib.hid (h5.below hB)
  have HB := Lib.hid hB
  clear h2 h3 h5 hB
  go_enter Try.func123, Try.ntmps123
  go_wp2_with fail
  refine (within_any _ _ _ _).mono ?_
  rintro e w' ⟨rfl, rfl⟩
  go_wp2_with fail
  refine (areDistinct_any _ vars n _ H2.out (by omega)).mono ?_
  rintro e w1 ⟨rfl, hb1⟩
  have hb2 : Below w.heap.size w w1 := HB.out.trans (hb1.mono (by rw [← HZ.out]; exact Nat.le_succ _))
  have hc : ∀ j : Nat, w1.cell? ⟨w.heap.size, j, none⟩ = (w.alloc (.cells #[.int .i64 5, .slice a2 k c2, .slice a3 na c3, .int .i64 bound, .slice a5 nr c5] 97)).cell? ⟨w.heap.size, j, none⟩ := fun j => hb1.cell (p := ⟨w.heap.size, j, none⟩) (by rw [← HZ.out]; exact Nat.lt_succ_self _)
  have d0 := (hc 0).trans (by simp; rfl)
  have d1 := (hc 1).trans (by simp; rfl)
  have d2 := (hc 2).trans (by simp; rfl)
  have d3 := (hc 3).trans (by simp; rfl)
  have d4 := (hc 4).trans (by simp; rfl)
  have e2 := Lib.hid (H2.out.below hb1)
  have e3 := Lib.hid (H3.out.below hb1)
  have e5 := Lib.hid (H5.out.below hb1)
  clear hc hb1
  go_wp2_with fail
  refine (ruleOf_5 a2 a3 a5 k c2 na c3 nr c5 bound _).mono ?_
  rintro e w2 ⟨rfl, hb3⟩
  have e2' := Lib.hid (e2.out.below hb3)
  have e3' := Lib.hid (e3.out.below hb3)
  have e5' := Lib.hid (e5.out.below hb3)
  have hb4 : Below w.heap.size w w2 := hb2.trans (hb3.mono hb2.size)
  clear hb3
  have hm := method_5 a2 a3 a5 k c2 na c3 nr c5 bound w2
  go_wp2_with fail
  refine (iwf_5 5 a2 a3 a5 k c2 na c3 nr c5 vars args bound rows w2 hk hna hnr e2'.out e3'.out e5'.out).mono ?_
  rintro e w3 ⟨rfl, hb5⟩
  go_wp2
  go_ret
  exact ⟨rfl, hb4.trans (hb5.mono hb4.size)⟩

set_option maxRecDepth 1000000 in
set_option maxHeartbeats 4000000 in
theorem ruleOf_6 (a2 a3 a5 : Option Addr) (k c2 na c3 nr c5 : Nat) (bound : Int) (w : World) :
    Calls Try.prog 153 #[.agg #[.int .i64 6, .slice a2 k c2, .slice a3 na c3, .int .i64 bound, .slice a5 nr c5]] w fun e w' => e = .returned (.iface 167 (.agg #[.int .i64 6, .slice a2 k c2, .slice a3 na c3, .int .i64 bound, .slice a5 nr c5])) ∧ Below w.heap.size w w' := by
  go_enter Try.func153, Try.ntmps153
  go_wp2
  go_ret
  exact ⟨rfl, (Below.refl _ _).alloc (Nat.le_refl _) _⟩
theorem method_6 (a2 a3 a5 : Option Addr) (k c2 na c3 nr c5 : Nat) (bound : Int) (w : World) : (method 317 167 (.agg #[.int .i64 6, .slice a2 k c2, .slice a3 na c3, .int .i64 bound, .slice a5 nr c5]) "loop.example/constraintsolver/impl.wellFormed").run Try.prog w = .ok (219, .agg #[.int .i64 6, .slice a2 k c2, .slice a3 na c3, .int .i64 bound, .slice a5 nr c5]) w := by kernel_rfl

set_option maxRecDepth 1000000 in
set_option maxHeartbeats 4000000 in
theorem ivc_6 (n : Nat)
    (a2 a3 a5 : Option Addr) (k c2 na c3 nr c5 : Nat) (vars args : List Int) (bound : Int) (rows : List (List Int)) (w : World)
    (hk : k ≤ 2305843009213693952) (hna : na ≤ 9223372036854775807) (hnr : nr ≤ 9223372036854775807)
    (h2 : RdInts w (.slice a2 k c2) vars) (h3 : RdInts w (.slice a3 na c3) args) (h5 : RdRows w (.slice a5 nr c5) rows)
    (f0 : wiB n 1 4 = true) (f1 : ((k : Int) == 0) = false) (f2 : (allB vars 0 (n - 1) && dstB vars) = true) (hn4 : n ≤ 4) :
    Calls Try.prog 123 #[.agg #[.int .i64 6, .slice a2 k c2, .slice a3 na c3, .int .i64 bound, .slice a5 nr c5], .int .i64 n] w (BoolPost (((na : Int) == 1) && wiB (args[0]?.getD 0) 0 5 && wiB bound 0 4 && ((nr : Int) == 0)) w) := by
  have hB : Below w.heap.size w (w.alloc (.cells #[.int .i64 6, .slice a2 k c2, .slice a3 na c3, .int .i64 bound, .slice a5 nr c5] 97)) := (Below.refl _ _).alloc (Nat.le_refl _) _
  have HZ := Lib.hid (show w.heap.size + 1 = (w.alloc (.cells #[.int .i64 6, .slice a2 k c2, .slice a3 na c3, .int .i64 bound, .slice a5 nr c5] 97)).heap.size from by simp)
  have H2 := Lib.hid (h2.below hB)
  have H3 := Lib.hid (h3.below hB)
  have H5 := Lib.hid (h5.below hB)
  have HB := Lib.hid hB
  clear h2 h3 h5 hB
  go_enter Try.func123, Try.ntmps123
  go_wp2_with fail
  refine (within_any _ _ _ _).mono ?_
  rintro e w' ⟨rfl, rfl⟩
  go_wp2_with fail
  refine (areDistinct_any _ vars n _ H2.out (by omega)).mono ?_
  rintro e w1 ⟨rfl, hb1⟩
  have hb2 : Below w.heap.size w w1 := HB.out.trans (hb1.mono (by rw [← HZ.out]; exact Nat.le_succ _))
  have hc : ∀ j : Nat, w1.cell? ⟨w.heap.size, j, none⟩ = (w.alloc (.cells #[.int .i64 6, .slice a2 k c2, .slice a3 na c3, .int .i64 bound, .slice a5 nr c5] 97)).cell? ⟨w.heap.size, j, none⟩ := fun j => hb1.cell (p := ⟨w.heap.size, j, none⟩) (by rw [← HZ.out]; exact Nat.lt_succ_self _)
  have d0 := (hc 0).trans (by simp; rfl)
  have d1 := (hc 1).trans (by simp; rfl)
  have d2 := (hc 2).trans (by simp; rfl)
  have d3 := (hc 3).trans (by simp; rfl)
  have d4 := (hc 4).trans (by simp; rfl)
  have e2 := Lib.hid (H2.out.below hb1)
  have e3 := Lib.hid (H3.out.below hb1)
  have e5 := Lib.hid (H5.out.below hb1)
  clear hc hb1
  go_wp2_with fail
  refine (ruleOf_6 a2 a3 a5 k c2 na c3 nr c5 bound _).mono ?_
  rintro e w2 ⟨rfl, hb3⟩
  have e2' := Lib.hid (e2.out.below hb3)
  have e3' := Lib.hid (e3.out.below hb3)
  have e5' := Lib.hid (e5.out.below hb3)
  have hb4 : Below w.heap.size w w2 := hb2.trans (hb3.mono hb2.size)
  clear hb3
  have hm := method_6 a2 a3 a5 k c2 na c3 nr c5 bound w2
  go_wp2_with fail
  refine (iwf_6 6 a2 a3 a5 k c2 na c3 nr c5 vars args bound rows w2 hk hna hnr e2'.out e3'.out e5'.out).mono ?_
  rintro e w3 ⟨rfl, hb5⟩
  go_wp2
  go_ret
  exact ⟨rfl, hb4.trans (hb5.mono hb4.size)⟩

set_option maxRecDepth 1000000 in
set_option maxHeartbeats 4000000 in
theorem ruleOf_7 (a2 a3 a5 : Option Addr) (k c2 na c3 nr c5 : Nat) (bound : Int) (w : World) :
    Calls Try.prog 153 #[.agg #[.int .i64 7, .slice a2 k c2, .slice a3 na c3, .int .i64 bound, .slice a5 nr c5]] w fun e w' => e = .returned (.iface 168 (.agg #[.int .i64 7, .slice a2 k c2, .slice a3 na c3, .int .i64 bound, .slice a5 nr c5])) ∧ Below w.heap.size w w' := by
  go_enter Try.func153, Try.ntmps153
  go_wp2
  go_ret
  exact ⟨rfl, (Below.refl _ _).alloc (Nat.le_refl _) _⟩
theorem method_7 (a2 a3 a5 : Option Addr) (k c2 na c3 nr c5 : Nat) (bound : Int) (w : World) : (method 317 168 (.agg #[.int .i64 7, .slice a2 k c2, .slice a3 na c3, .int .i64 bound, .slice a5 nr c5]) "loop.example/constraintsolver/impl.wellFormed").run Try.prog w = .ok (220, .agg #[.int .i64 7, .slice a2 k c2, .slice a3 na c3, .int .i64 bound, .slice a5 nr c5]) w := by kernel_rfl

set_option maxRecDepth 1000000 in
set_option maxHeartbeats 4000000 in
theorem ivc_7 (n : Nat)
    (a2 a3 a5 : Option Addr) (k c2 na c3 nr c5 : Nat) (vars args : List Int) (bound : Int) (rows : List (List Int)) (w : World)
    (hk : k ≤ 2305843009213693952) (hna : na ≤ 9223372036854775807) (hnr : nr ≤ 9223372036854775807)
    (h2 : RdInts w (.slice a2 k c2) vars) (h3 : RdInts w (.slice a3 na c3) args) (h5 : RdRows w (.slice a5 nr c5) rows)
    (f0 : wiB n 1 4 = true) (f1 : ((k : Int) == 0) = false) (f2 : (allB vars 0 (n - 1) && dstB vars) = true) (hn4 : n ≤ 4) :
    Calls Try.prog 123 #[.agg #[.int .i64 7, .slice a2 k c2, .slice a3 na c3, .int .i64 bound, .slice a5 nr c5], .int .i64 n] w (BoolPost (((na : Int) == 2 * (k : Int)) && allB args 0 9 && wiB bound 0 9 && ((nr : Int) == 0)) w) := by
  have hB : Below w.heap.size w (w.alloc (.cells #[.int .i64 7, .slice a2 k c2, .slice a3 na c3, .int .i64 bound, .slice a5 nr c5] 97)) := (Below.refl _ _).alloc (Nat.le_refl _) _
  have HZ := Lib.hid (show w.heap.size + 1 = (w.alloc (.cells #[.int .i64 7, .slice a2 k c2, .slice a3 na c3, .int .i64 bound, .slice a5 nr c5] 97)).heap.size from by simp)
  have H2 := Lib.hid (h2.below hB)
  have H3 := Lib.hid (h3.below hB)
  have H5 := Lib.hid (h5.below hB)
  have HB := Lib.hid hB
  clear h2 h3 h5 hB
  go_enter Try.func123, Try.ntmps123
  go_wp2_with fail
  refine (within_any _ _ _ _).mono ?_
  rintro e w' ⟨rfl, rfl⟩
  go_wp2_with fail
  refine (areDistinct_any _ vars n _ H2.out (by omega)).mono ?_
  rintro e w1 ⟨rfl, hb1⟩
  have hb2 : Below w.heap.size w w1 := HB.out.trans (hb1.mono (by rw [← HZ.out]; exact Nat.le_succ _))
  have hc : ∀ j : Nat, w1.cell? ⟨w.heap.size, j, none⟩ = (w.alloc (.cells #[.int .i64 7, .slice a2 k c2, .slice a3 na c3, .int .i64 bound, .slice a5 nr c5] 97)).cell? ⟨w.heap.size, j, none⟩ := fun j => hb1.cell (p := ⟨w.heap.size, j, none⟩) (by rw [← HZ.out]; exact Nat.lt_succ_self _)
  have d0 := (hc 0).trans (by simp; rfl)
  have d1 := (hc 1).trans (by simp; rfl)
  have d2 := (hc 2).trans (by simp; rfl)
  have d3 := (hc 3).trans (by simp; rfl)
  have d4 := (hc 4).trans (by simp; rfl)
  have e2 := Lib.hid (H2.out.below hb1)
  have e3 := Lib.hid (H3.out.below hb1)
  have e5 := Lib.hid (H5.out.below hb1)
  clear hc hb1
  go_wp2_with fail
  refine (ruleOf_7 a2 a3 a5 k c2 na c3 nr c5 bound _).mono ?_
  rintro e w2 ⟨rfl, hb3⟩
  have e2' := Lib.hid (e2.out.below hb3)
  have e3' := Lib.hid (e3.out.below hb3)
  have e5' := Lib.hid (e5.out.below hb3)
  have hb4 : Below w.heap.size w w2 := hb2.trans (hb3.mono hb2.size)
  clear hb3
  have hm := method_7 a2 a3 a5 k c2 na c3 nr c5 bound w2
  go_wp2_with fail
  refine (iwf_7 7 a2 a3 a5 k c2 na c3 nr c5 vars args bound rows w2 hk hna hnr e2'.out e3'.out e5'.out).mono ?_
  rintro e w3 ⟨rfl, hb5⟩
  go_wp2
  go_ret
  exact ⟨rfl, hb4.trans (hb5.mono hb4.size)⟩

set_option maxRecDepth 1000000 in
set_option maxHeartbeats 4000000 in
theorem ruleOf_8 (a2 a3 a5 : Option Addr) (k c2 na c3 nr c5 : Nat) (bound : Int) (w : World) :
    Calls Try.prog 153 #[.agg #[.int .i64 8, .slice a2 k c2, .slice a3 na c3, .int .i64 bound, .slice a5 nr c5]] w fun e w' => e = .returned (.iface 113 (.agg #[.int .i64 8, .slice a2 k c2, .slice a3 na c3, .int .i64 bound, .slice a5 nr c5])) ∧ Below w.heap.size w w' := by
  go_enter Try.func153, Try.ntmps153
  go_wp2
  go_ret
  exact ⟨rfl, (Below.refl _ _).alloc (Nat.le_refl _) _⟩
theorem method_8 (a2 a3 a5 : Option Addr) (k c2 na c3 nr c5 : Nat) (bound : Int) (w : World) : (method 317 113 (.agg #[.int .i64 8, .slice a2 k c2, .slice a3 na c3, .int .i64 bound, .slice a5 nr c5]) "loop.example/constraintsolver/impl.wellFormed").run Try.prog w = .ok (99, .agg #[.int .i64 8, .slice a2 k c2, .slice a3 na c3, .int .i64 bound, .slice a5 nr c5]) w := by kernel_rfl

set_option maxRecDepth 1000000 in
set_option maxHeartbeats 4000000 in
theorem ivc_8 (n : Nat)
    (a2 a3 a5 : Option Addr) (k c2 na c3 nr c5 : Nat) (vars args : List Int) (bound : Int) (rows : List (List Int)) (w : World)
    (hk : k ≤ 2305843009213693952) (hna : na ≤ 9223372036854775807) (hnr : nr ≤ 9223372036854775807)
    (h2 : RdInts w (.slice a2 k c2) vars) (h3 : RdInts w (.slice a3 na c3) args) (h5 : RdRows w (.slice a5 nr c5) rows)
    (f0 : wiB n 1 4 = true) (f1 : ((k : Int) == 0) = false) (f2 : (allB vars 0 (n - 1) && dstB vars) = true) (hn4 : n ≤ 4) :
    Calls Try.prog 123 #[.agg #[.int .i64 8, .slice a2 k c2, .slice a3 na c3, .int .i64 bound, .slice a5 nr c5], .int .i64 n] w (BoolPost (((rowsB rows 6 (-1) (nr - 1) && wiB nr 1 8)) && ((allB args 0 (nr - 1) && dstB args)) && (bound == 0)) w) := by
  have hB : Below w.heap.size w (w.alloc (.cells #[.int .i64 8, .slice a2 k c2, .slice a3 na c3, .int .i64 bound, .slice a5 nr c5] 97)) := (Below.refl _ _).alloc (Nat.le_refl _) _
  have HZ := Lib.hid (show w.heap.size + 1 = (w.alloc (.cells #[.int .i64 8, .slice a2 k c2, .slice a3 na c3, .int .i64 bound, .slice a5 nr c5] 97)).heap.size from by simp)
  have H2 := Lib.hid (h2.below hB)
  have H3 := Lib.hid (h3.below hB)
  have H5 := Lib.hid (h5.below hB)
  have HB := Lib.hid hB
  clear h2 h3 h5 hB
  go_enter Try.func123, Try.ntmps123
  go_wp2_with fail
  refine (within_any _ _ _ _).mono ?_
  rintro e w' ⟨rfl, rfl⟩
  go_wp2_with fail
  refine (areDistinct_any _ vars n _ H2.out (by omega)).mono ?_
  rintro e w1 ⟨rfl, hb1⟩
  have hb2 : Below w.heap.size w w1 := HB.out.trans (hb1.mono (by rw [← HZ.out]; exact Nat.le_succ _))
  have hc : ∀ j : Nat, w1.cell? ⟨w.heap.size, j, none⟩ = (w.alloc (.cells #[.int .i64 8, .slice a2 k c2, .slice a3 na c3, .int .i64 bound, .slice a5 nr c5] 97)).cell? ⟨w.heap.size, j, none⟩ := fun j => hb1.cell (p := ⟨w.heap.size, j, none⟩) (by rw [← HZ.out]; exact Nat.lt_succ_self _)
  have d0 := (hc 0).trans (by simp; rfl)
  have d1 := (hc 1).trans (by simp; rfl)
  have d2 := (hc 2).trans (by simp; rfl)
  have d3 := (hc 3).trans (by simp; rfl)
  have d4 := (hc 4).trans (by simp; rfl)
  have e2 := Lib.hid (H2.out.below hb1)
  have e3 := Lib.hid (H3.out.below hb1)
  have e5 := Lib.hid (H5.out.below hb1)
  clear hc hb1
  go_wp2_with fail
  refine (ruleOf_8 a2 a3 a5 k c2 na c3 nr c5 bound _).mono ?_
  rintro e w2 ⟨rfl, hb3⟩
  have e2' := Lib.hid (e2.out.below hb3)
  have e3' := Lib.hid (e3.out.below hb3)
  have e5' := Lib.hid (e5.out.below hb3)
  have hb4 : Below w.heap.size w w2 := hb2.trans (hb3.mono hb2.size)
  clear hb3
  have hm := method_8 a2 a3 a5 k c2 na c3 nr c5 bound w2
  go_wp2_with fail
  refine (iwf_8 8 a2 a3 a5 k c2 na c3 nr c5 vars args bound rows w2 hk hna hnr e2'.out e3'.out e5'.out).mono ?_
  rintro e w3 ⟨rfl, hb5⟩
  go_wp2
  go_ret
  exact ⟨rfl, hb4.trans (hb5.mono hb4.size)⟩

set_option maxRecDepth 1000000 in
set_option maxHeartbeats 4000000 in
theorem ruleOf_9 (a2 a3 a5 : Option Addr) (k c2 na c3 nr c5 : Nat) (bound : Int) (w : World) :
    Calls Try.prog 153 #[.agg #[.int .i64 9, .slice a2 k c2, .slice a3 na c3, .int .i64 bound, .slice a5 nr c5]] w fun e w' => e = .returned (.iface 169 (.agg #[.int .i64 9, .slice a2 k c2, .slice a3 na c3, .int .i64 bound, .slice a5 nr c5])) ∧ Below w.heap.size w w' := by
  go_enter Try.func153, Try.ntmps153
  go_wp2
  go_ret
  exact ⟨rfl, (Below.refl _ _).alloc (Nat.le_refl _) _⟩
theorem method_9 (a2 a3 a5 : Option Addr) (k c2 na c3 nr c5 : Nat) (bound : Int) (w : World) : (method 317 169 (.agg #[.int .i64 9, .slice a2 k c2, .slice a3 na c3, .int .i64 bound, .slice a5 nr c5]) "loop.example/constraintsolver/impl.wellFormed").run Try.prog w = .ok (221, .agg #[.int .i64 9, .slice a2 k c2, .slice a3 na c3, .int .i64 bound, .slice a5 nr c5]) w := by kernel_rfl

set_option maxRecDepth 1000000 in
set_option maxHeartbeats 4000000 in
theorem ivc_9 (n : Nat)
    (a2 a3 a5 : Option Addr) (k c2 na c3 nr c5 : Nat) (vars args : List Int) (bound : Int) (rows : List (List Int)) (w : World)
    (hk : k ≤ 2305843009213693952) (hna : na ≤ 9223372036854775807) (hnr : nr ≤ 9223372036854775807)
    (h2 : RdInts w (.slice a2 k c2) vars) (h3 : RdInts w (.slice a3 na c3) args) (h5 : RdRows w (.slice a5 nr c5) rows)
    (f0 : wiB n 1 4 = true) (f1 : ((k : Int) == 0) = false) (f2 : (allB vars 0 (n - 1) && dstB vars) = true) (hn4 : n ≤ 4) :
    Calls Try.prog 123 #[.agg #[.int .i64 9, .slice a2 k c2, .slice a3 na c3, .int .i64 bound, .slice a5 nr c5], .int .i64 n] w (BoolPost (((na : Int) == 0) && (bound == 0) && ((nr : Int) == 0)) w) := by
  have hB : Below w.heap.size w (w.alloc (.cells #[.int .i64 9, .slice a2 k c2, .slice a3 na c3, .int .i64 bound, .slice a5 nr c5] 97)) := (Below.refl _ _).alloc (Nat.le_refl _) _
  have HZ := Lib.hid (show w.heap.size + 1 = (w.alloc (.cells #[.int .i64 9, .slice a2 k c2, .slice a3 na c3, .int .i64 bound, .slice a5 nr c5] 97)).heap.size from by simp)
  have H2 := Lib.hid (h2.below hB)
  have H3 := Lib.hid (h3.below hB)
  have H5 := Lib.hid (h5.below hB)
  have HB := Lib.hid hB
  clear h2 h3 h5 hB
  go_enter Try.func123, Try.ntmps123
  go_wp2_with fail
  refine (within_any _ _ _ _).mono ?_
  rintro e w' ⟨rfl, rfl⟩
  go_wp2_with fail
  refine (areDistinct_any _ vars n _ H2.out (by omega)).mono ?_
  rintro e w1 ⟨rfl, hb1⟩
  have hb2 : Below w.heap.size w w1 := HB.out.trans (hb1.mono (by rw [← HZ.out]; exact Nat.le_succ _))
  have hc : ∀ j : Nat, w1.cell? ⟨w.heap.size, j, none⟩ = (w.alloc (.cells #[.int .i64 9, .slice a2 k c2, .slice a3 na c3, .int .i64 bound, .slice a5 nr c5] 97)).cell? ⟨w.heap.size, j, none⟩ := fun j => hb1.cell (p := ⟨w.heap.size, j, none⟩) (by rw [← HZ.out]; exact Nat.lt_succ_self _)
  have d0 := (hc 0).trans (by simp; rfl)
  have d1 := (hc 1).trans (by simp; rfl)
  have d2 := (hc 2).trans (by simp; rfl)
  have d3 := (hc 3).trans (by simp; rfl)
  have d4 := (hc 4).trans (by simp; rfl)
  have e2 := Lib.hid (H2.out.below hb1)
  have e3 := Lib.hid (H3.out.below hb1)
  have e5 := Lib.hid (H5.out.below hb1)
  clear hc hb1
  go_wp2_with fail
  refine (ruleOf_9 a2 a3 a5 k c2 na c3 nr c5 bound _).mono ?_
  rintro e w2 ⟨rfl, hb3⟩
  have e2' := Lib.hid (e2.out.below hb3)
  have e3' := Lib.hid (e3.out.below hb3)
  have e5' := Lib.hid (e5.out.below hb3)
  have hb4 : Below w.heap.size w w2 := hb2.trans (hb3.mono hb2.size)
  clear hb3
  have hm := method_9 a2 a3 a5 k c2 na c3 nr c5 bound w2
  go_wp2_with fail
  refine (iwf_9 9 a2 a3 a5 k c2 na c3 nr c5 vars args bound rows w2 hk hna hnr e2'.out e3'.out e5'.out).mono ?_
  rintro e w3 ⟨rfl, hb5⟩
  go_wp2
  go_ret
  exact ⟨rfl, hb4.trans (hb5.mono hb4.size)⟩

set_option maxRecDepth 1000000 in
set_option maxHeartbeats 4000000 in
theorem ruleOf_0 (kind : Int) (a2 a3 a5 : Option Addr) (k c2 na c3 nr c5 : Nat) (bound : Int) (w : World) (k1 : (kind == 1) = false) (k2 : (kind == 2) = false) (k3 : (kind == 3) = false) (k4 : (kind == 4) = false) (k5 : (kind == 5) = false) (k6 : (kind == 6) = false) (k7 : (kind == 7) = false) (k8 : (kind == 8) = false) (k9 : (kind == 9) = false) :
    Calls Try.prog 153 #[.agg #[.int .i64 kind, .slice a2 k c2, .slice a3 na c3, .int .i64 bound, .slice a5 nr c5]] w fun e w' => e = .returned .nilIface ∧ Below w.heap.size w w' := by
  go_enter Try.func153, Try.ntmps153
  go_wp2
  go_ret
  exact ⟨rfl, (Below.refl _ _).alloc (Nat.le_refl _) _⟩

set_option maxRecDepth 1000000 in
set_option maxHeartbeats 4000000 in
theorem ivc_0 (kind : Int) (n : Nat)
    (a2 a3 a5 : Option Addr) (k c2 na c3 nr c5 : Nat) (vars args : List Int) (bound : Int) (rows : List (List Int)) (w : World)
    (hk : k ≤ 2305843009213693952) (hna : na ≤ 9223372036854775807) (hnr : nr ≤ 9223372036854775807)
    (h2 : RdInts w (.slice a2 k c2) vars) (h3 : RdInts w (.slice a3 na c3) args) (h5 : RdRows w (.slice a5 nr c5) rows)
    (f0 : wiB n 1 4 = true) (f1 : ((k : Int) == 0) = false) (f2 : (allB vars 0 (n - 1) && dstB vars) = true) (hn4 : n ≤ 4) (k1 : (kind == 1) = false) (k2 : (kind == 2) = false) (k3 : (kind == 3) = false) (k4 : (kind == 4) = false) (k5 : (kind == 5) = false) (k6 : (kind == 6) = false) (k7 : (kind == 7) = false) (k8 : (kind == 8) = false) (k9 : (kind == 9) = false) :
    Calls Try.prog 123 #[.agg #[.int .i64 kind, .slice a2 k c2, .slice a3 na c3, .int .i64 bound, .slice a5 nr c5], .int .i64 n] w (BoolPost false w) := by
  have hB : Below w.heap.size w (w.alloc (.cells #[.int .i64 kind, .slice a2 k c2, .slice a3 na c3, .int .i64 bound, .slice a5 nr c5] 97)) := (Below.refl _ _).alloc (Nat.le_refl _) _
  have HZ := Lib.hid (show w.heap.size + 1 = (w.alloc (.cells #[.int .i64 kind, .slice a2 k c2, .slice a3 na c3, .int .i64 bound, .slice a5 nr c5] 97)).heap.size from by simp)
  have H2 := Lib.hid (h2.below hB)
  have H3 := Lib.hid (h3.below hB)
  have H5 := Lib.hid (h5.below hB)
  have HB := Lib.hid hB
  clear h2 h3 h5 hB
  go_enter Try.func123, Try.ntmps123
  go_wp2_with fail
  refine (within_any _ _ _ _).mono ?_
  rintro e w' ⟨rfl, rfl⟩
  go_wp2_with fail
  refine (areDistinct_any _ vars n _ H2.out (by omega)).mono ?_
  rintro e w1 ⟨rfl, hb1⟩
  have hb2 : Below w.heap.size w w1 := HB.out.trans (hb1.mono (by rw [← HZ.out]; exact Nat.le_succ _))
  have hc : ∀ j : Nat, w1.cell? ⟨w.heap.size, j, none⟩ = (w.alloc (.cells #[.int .i64 kind, .slice a2 k c2, .slice a3 na c3, .int .i64 bound, .slice a5 nr c5] 97)).cell? ⟨w.heap.size, j, none⟩ := fun j => hb1.cell (p := ⟨w.heap.size, j, none⟩) (by rw [← HZ.out]; exact Nat.lt_succ_self _)
  have d0 := (hc 0).trans (by simp; rfl)
  have d1 := (hc 1).trans (by simp; rfl)
  have d2 := (hc 2).trans (by simp; rfl)
  have d3 := (hc 3).trans (by simp; rfl)
  have d4 := (hc 4).trans (by simp; rfl)
  clear hc hb1
  go_wp2_with fail
  refine (ruleOf_0 kind a2 a3 a5 k c2 na c3 nr c5 bound _ k1 k2 k3 k4 k5 k6 k7 k8 k9).mono ?_
  rintro e w2 ⟨rfl, hb3⟩
  have hb4 : Below w.heap.size w w2 := hb2.trans (hb3.mono hb2.size)
  clear hb3
  go_wp2
  go_ret
  exact ⟨rfl, hb4⟩
end Go.Proofs.Ytelglccegkhfcaa
