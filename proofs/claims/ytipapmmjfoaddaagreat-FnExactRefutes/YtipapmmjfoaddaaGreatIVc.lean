/- The requirements of each kind in impl: the methods wellFormed; one walk for each way through their tests. -/
import Derived.Test.YtipapmmjfoaddaaGreatBa
namespace Go.Proofs.YtipapmmjfoaddaaGreat
open Go.ChangeShapes Go.WideShapes Go.ChangeAt Go.RowKit
set_option linter.unusedVariables false
set_option linter.unusedSimpArgs false

theorem rowsWithin_at (a : Option Addr) (nr cap : Nat) (rows : List (List Int)) (n lo hi : Int) (w : World) (h : RdRows w (.slice a nr cap) rows) :
    Calls Tryz.prog 234 #[.slice a nr cap, .int .i64 n, .int .i64 lo, .int .i64 hi] w fun e w' => e = .returned (.bool (rowsB rows n lo hi && wiB nr 1 8)) ∧ w = w' := by
  obtain rfl : nr = rows.length := by obtain ⟨_, _, e, _⟩ := h; simp at e; exact e.2.1
  exact rowsWithin_any _ rows n lo hi w h

set_option maxRecDepth 1000000 in
set_option maxHeartbeats 4000000 in
theorem only_any (kind : Int)
    (a2 a3 a5 : Option Addr) (k c2 na c3 nr c5 : Nat) (vars args : List Int) (bound : Int) (rows : List (List Int)) (w : World)
    (hk : k ≤ 2305843009213693952) (hna : na ≤ 9223372036854775807) (hnr : nr ≤ 9223372036854775807)
    (h2 : RdInts w (.slice a2 k c2) vars) (h3 : RdInts w (.slice a3 na c3) args) (h5 : RdRows w (.slice a5 nr c5) rows) :
    Calls Tryz.prog 231 #[.agg #[.int .i64 kind, .slice a2 k c2, .slice a3 na c3, .int .i64 bound, .slice a5 nr c5]] w (BoolPost (((na : Int) == 0) && (bound == 0) && ((nr : Int) == 0)) w) := by
  have hB : Below w.heap.size w (w.alloc (.cells #[.int .i64 kind, .slice a2 k c2, .slice a3 na c3, .int .i64 bound, .slice a5 nr c5] 110)) := (Below.refl _ _).alloc (Nat.le_refl _) _
  have H2 := Lib.hid (h2.below hB)
  have H3 := Lib.hid (h3.below hB)
  have H5 := Lib.hid (h5.below hB)
  have HB := Lib.hid hB
  clear h2 h3 h5 hB
  cases g0 : ((na : Int) == 0)
  · go_enter Tryz.func231, Tryz.ntmps231
    go_wp2
    go_ret
    exact ⟨ret_bool (by simp), HB.out⟩
  cases g1 : (bound == 0)
  · go_enter Tryz.func231, Tryz.ntmps231
    go_wp2
    go_ret
    exact ⟨ret_bool (by simp), HB.out⟩
  cases g2 : ((nr : Int) == 0)
  · go_enter Tryz.func231, Tryz.ntmps231
    go_wp2
    go_ret
    exact ⟨ret_bool (by simp), HB.out⟩
  go_enter Tryz.func231, Tryz.ntmps231
  go_wp2
  go_ret
  exact ⟨ret_bool (by simp), HB.out⟩

set_option maxRecDepth 1000000 in
set_option maxHeartbeats 4000000 in
theorem iwf_1 (kind : Int)
    (a2 a3 a5 : Option Addr) (k c2 na c3 nr c5 : Nat) (vars args : List Int) (bound : Int) (rows : List (List Int)) (w : World)
    (hk : k ≤ 2305843009213693952) (hna : na ≤ 9223372036854775807) (hnr : nr ≤ 9223372036854775807)
    (h2 : RdInts w (.slice a2 k c2) vars) (h3 : RdInts w (.slice a3 na c3) args) (h5 : RdRows w (.slice a5 nr c5) rows) :
    Calls Tryz.prog 228 #[.agg #[.int .i64 kind, .slice a2 k c2, .slice a3 na c3, .int .i64 bound, .slice a5 nr c5]] w (BoolPost (((na : Int) == (k : Int)) && allB args (-9) 9 && wiB bound (-999) 999 && ((nr : Int) == 0)) w) := by
  have hB : Below w.heap.size w (w.alloc (.cells #[.int .i64 kind, .slice a2 k c2, .slice a3 na c3, .int .i64 bound, .slice a5 nr c5] 166)) := (Below.refl _ _).alloc (Nat.le_refl _) _
  have H2 := Lib.hid (h2.below hB)
  have H3 := Lib.hid (h3.below hB)
  have H5 := Lib.hid (h5.below hB)
  have HB := Lib.hid hB
  clear h2 h3 h5 hB
  cases g0 : ((na : Int) == (k : Int))
  · go_enter Tryz.func228, Tryz.ntmps228
    go_wp2
    go_ret
    exact ⟨ret_bool (by simp), HB.out⟩
  cases g1 : allB args (-9) 9
  · go_enter Tryz.func228, Tryz.ntmps228
    go_wp2_with fail
    refine (allWithin_any _ args _ _ _ H3.out).mono ?_
    rintro e w' ⟨rfl, rfl⟩
    go_wp2
    go_ret
    exact ⟨ret_bool (by simp), HB.out⟩
  cases g2 : wiB bound (-999) 999
  · go_enter Tryz.func228, Tryz.ntmps228
    go_wp2_with fail
    refine (allWithin_any _ args _ _ _ H3.out).mono ?_
    rintro e w' ⟨rfl, rfl⟩
    go_wp2_with fail
    refine (within_any _ _ _ _).mono ?_
    rintro e w' ⟨rfl, rfl⟩
    go_wp2
    go_ret
    exact ⟨ret_bool (by simp), HB.out⟩
  cases g3 : ((nr : Int) == 0)
  · go_enter Tryz.func228, Tryz.ntmps228
    go_wp2_with fail
    refine (allWithin_any _ args _ _ _ H3.out).mono ?_
    rintro e w' ⟨rfl, rfl⟩
    go_wp2_with fail
    refine (within_any _ _ _ _).mono ?_
    rintro e w' ⟨rfl, rfl⟩
    go_wp2
    go_ret
    exact ⟨ret_bool (by simp), HB.out⟩
  go_enter Tryz.func228, Tryz.ntmps228
  go_wp2_with fail
  refine (allWithin_any _ args _ _ _ H3.out).mono ?_
  rintro e w' ⟨rfl, rfl⟩
  go_wp2_with fail
  refine (within_any _ _ _ _).mono ?_
  rintro e w' ⟨rfl, rfl⟩
  go_wp2
  go_ret
  exact ⟨ret_bool (by simp), HB.out⟩

set_option maxRecDepth 1000000 in
set_option maxHeartbeats 4000000 in
theorem iwf_2 (kind : Int)
    (a2 a3 a5 : Option Addr) (k c2 na c3 nr c5 : Nat) (vars args : List Int) (bound : Int) (rows : List (List Int)) (w : World)
    (hk : k ≤ 2305843009213693952) (hna : na ≤ 9223372036854775807) (hnr : nr ≤ 9223372036854775807)
    (h2 : RdInts w (.slice a2 k c2) vars) (h3 : RdInts w (.slice a3 na c3) args) (h5 : RdRows w (.slice a5 nr c5) rows) :
    Calls Tryz.prog 229 #[.agg #[.int .i64 kind, .slice a2 k c2, .slice a3 na c3, .int .i64 bound, .slice a5 nr c5]] w (BoolPost (((k : Int) == 2) && ((na : Int) == 1) && allB args (-9) 9 && (bound == 0) && ((nr : Int) == 0)) w) := by
  have hB : Below w.heap.size w (w.alloc (.cells #[.int .i64 kind, .slice a2 k c2, .slice a3 na c3, .int .i64 bound, .slice a5 nr c5] 167)) := (Below.refl _ _).alloc (Nat.le_refl _) _
  have H2 := Lib.hid (h2.below hB)
  have H3 := Lib.hid (h3.below hB)
  have H5 := Lib.hid (h5.below hB)
  have HB := Lib.hid hB
  clear h2 h3 h5 hB
  cases g0 : ((k : Int) == 2)
  · go_enter Tryz.func229, Tryz.ntmps229
    go_wp2
    go_ret
    exact ⟨ret_bool (by simp), HB.out⟩
  cases g1 : ((na : Int) == 1)
  · go_enter Tryz.func229, Tryz.ntmps229
    go_wp2
    go_ret
    exact ⟨ret_bool (by simp), HB.out⟩
  cases g2 : allB args (-9) 9
  · go_enter Tryz.func229, Tryz.ntmps229
    go_wp2_with fail
    refine (allWithin_any _ args _ _ _ H3.out).mono ?_
    rintro e w' ⟨rfl, rfl⟩
    go_wp2
    go_ret
    exact ⟨ret_bool (by simp), HB.out⟩
  cases g3 : (bound == 0)
  · go_enter Tryz.func229, Tryz.ntmps229
    go_wp2_with fail
    refine (allWithin_any _ args _ _ _ H3.out).mono ?_
    rintro e w' ⟨rfl, rfl⟩
    go_wp2
    go_ret
    exact ⟨ret_bool (by simp), HB.out⟩
  cases g4 : ((nr : Int) == 0)
  · go_enter Tryz.func229, Tryz.ntmps229
    go_wp2_with fail
    refine (allWithin_any _ args _ _ _ H3.out).mono ?_
    rintro e w' ⟨rfl, rfl⟩
    go_wp2
    go_ret
    exact ⟨ret_bool (by simp), HB.out⟩
  go_enter Tryz.func229, Tryz.ntmps229
  go_wp2_with fail
  refine (allWithin_any _ args _ _ _ H3.out).mono ?_
  rintro e w' ⟨rfl, rfl⟩
  go_wp2
  go_ret
  exact ⟨ret_bool (by simp), HB.out⟩

set_option maxRecDepth 1000000 in
set_option maxHeartbeats 4000000 in
theorem iwf_4 (kind : Int)
    (a2 a3 a5 : Option Addr) (k c2 na c3 nr c5 : Nat) (vars args : List Int) (bound : Int) (rows : List (List Int)) (w : World)
    (hk : k ≤ 2305843009213693952) (hna : na ≤ 9223372036854775807) (hnr : nr ≤ 9223372036854775807)
    (h2 : RdInts w (.slice a2 k c2) vars) (h3 : RdInts w (.slice a3 na c3) args) (h5 : RdRows w (.slice a5 nr c5) rows) :
    Calls Tryz.prog 232 #[.agg #[.int .i64 kind, .slice a2 k c2, .slice a3 na c3, .int .i64 bound, .slice a5 nr c5]] w (BoolPost (((k : Int) == 2) && wiB (na : Int) 1 6 && allB args 0 5 && (bound == 0) && ((nr : Int) == 0)) w) := by
  have hB : Below w.heap.size w (w.alloc (.cells #[.int .i64 kind, .slice a2 k c2, .slice a3 na c3, .int .i64 bound, .slice a5 nr c5] 169)) := (Below.refl _ _).alloc (Nat.le_refl _) _
  have H2 := Lib.hid (h2.below hB)
  have H3 := Lib.hid (h3.below hB)
  have H5 := Lib.hid (h5.below hB)
  have HB := Lib.hid hB
  clear h2 h3 h5 hB
  cases g0 : ((k : Int) == 2)
  · go_enter Tryz.func232, Tryz.ntmps232
    go_wp2
    go_ret
    exact ⟨ret_bool (by simp), HB.out⟩
  cases g1 : wiB (na : Int) 1 6
  · go_enter Tryz.func232, Tryz.ntmps232
    go_wp2_with fail
    refine (within_any _ _ _ _).mono ?_
    rintro e w' ⟨rfl, rfl⟩
    go_wp2
    go_ret
    exact ⟨ret_bool (by simp), HB.out⟩
  cases g2 : allB args 0 5
  · go_enter Tryz.func232, Tryz.ntmps232
    go_wp2_with fail
    refine (within_any _ _ _ _).mono ?_
    rintro e w' ⟨rfl, rfl⟩
    go_wp2_with fail
    refine (allWithin_any _ args _ _ _ H3.out).mono ?_
    rintro e w' ⟨rfl, rfl⟩
    go_wp2
    go_ret
    exact ⟨ret_bool (by simp), HB.out⟩
  cases g3 : (bound == 0)
  · go_enter Tryz.func232, Tryz.ntmps232
    go_wp2_with fail
    refine (within_any _ _ _ _).mono ?_
    rintro e w' ⟨rfl, rfl⟩
    go_wp2_with fail
    refine (allWithin_any _ args _ _ _ H3.out).mono ?_
    rintro e w' ⟨rfl, rfl⟩
    go_wp2
    go_ret
    exact ⟨ret_bool (by simp), HB.out⟩
  cases g4 : ((nr : Int) == 0)
  · go_enter Tryz.func232, Tryz.ntmps232
    go_wp2_with fail
    refine (within_any _ _ _ _).mono ?_
    rintro e w' ⟨rfl, rfl⟩
    go_wp2_with fail
    refine (allWithin_any _ args _ _ _ H3.out).mono ?_
    rintro e w' ⟨rfl, rfl⟩
    go_wp2
    go_ret
    exact ⟨ret_bool (by simp), HB.out⟩
  go_enter Tryz.func232, Tryz.ntmps232
  go_wp2_with fail
  refine (within_any _ _ _ _).mono ?_
  rintro e w' ⟨rfl, rfl⟩
  go_wp2_with fail
  refine (allWithin_any _ args _ _ _ H3.out).mono ?_
  rintro e w' ⟨rfl, rfl⟩
  go_wp2
  go_ret
  exact ⟨ret_bool (by simp), HB.out⟩

set_option maxRecDepth 1000000 in
set_option maxHeartbeats 4000000 in
theorem iwf_5 (kind : Int)
    (a2 a3 a5 : Option Addr) (k c2 na c3 nr c5 : Nat) (vars args : List Int) (bound : Int) (rows : List (List Int)) (w : World)
    (hk : k ≤ 2305843009213693952) (hna : na ≤ 9223372036854775807) (hnr : nr ≤ 9223372036854775807)
    (h2 : RdInts w (.slice a2 k c2) vars) (h3 : RdInts w (.slice a3 na c3) args) (h5 : RdRows w (.slice a5 nr c5) rows) :
    Calls Tryz.prog 233 #[.agg #[.int .i64 kind, .slice a2 k c2, .slice a3 na c3, .int .i64 bound, .slice a5 nr c5]] w (BoolPost (((na : Int) == 0) && (bound == 0) && ((rowsB rows k 0 5 && wiB nr 1 8))) w) := by
  have hB : Below w.heap.size w (w.alloc (.cells #[.int .i64 kind, .slice a2 k c2, .slice a3 na c3, .int .i64 bound, .slice a5 nr c5] 170)) := (Below.refl _ _).alloc (Nat.le_refl _) _
  have H2 := Lib.hid (h2.below hB)
  have H3 := Lib.hid (h3.below hB)
  have H5 := Lib.hid (h5.below hB)
  have HB := Lib.hid hB
  clear h2 h3 h5 hB
  cases g0 : ((na : Int) == 0)
  · go_enter Tryz.func233, Tryz.ntmps233
    go_wp2
    go_ret
    exact ⟨ret_bool (by simp), HB.out⟩
  cases g1 : (bound == 0)
  · go_enter Tryz.func233, Tryz.ntmps233
    go_wp2
    go_ret
    exact ⟨ret_bool (by simp), HB.out⟩
  cases g2 : (rowsB rows k 0 5 && wiB nr 1 8)
  · go_enter Tryz.func233, Tryz.ntmps233
    go_wp2_with fail
    refine (rowsWithin_at _ _ _ rows _ _ _ _ H5.out).mono ?_
    rintro e w' ⟨rfl, rfl⟩
    go_wp2
    go_ret
    exact ⟨ret_bool (by simp), HB.out⟩
  go_enter Tryz.func233, Tryz.ntmps233
  go_wp2_with fail
  refine (rowsWithin_at _ _ _ rows _ _ _ _ H5.out).mono ?_
  rintro e w' ⟨rfl, rfl⟩
  go_wp2
  go_ret
  exact ⟨ret_bool (by simp), HB.out⟩

set_option maxRecDepth 1000000 in
set_option maxHeartbeats 4000000 in
theorem iwf_7 (kind : Int)
    (a2 a3 a5 : Option Addr) (k c2 na c3 nr c5 : Nat) (vars args : List Int) (bound : Int) (rows : List (List Int)) (w : World)
    (hk : k ≤ 2305843009213693952) (hna : na ≤ 9223372036854775807) (hnr : nr ≤ 9223372036854775807)
    (h2 : RdInts w (.slice a2 k c2) vars) (h3 : RdInts w (.slice a3 na c3) args) (h5 : RdRows w (.slice a5 nr c5) rows) :
    Calls Tryz.prog 237 #[.agg #[.int .i64 kind, .slice a2 k c2, .slice a3 na c3, .int .i64 bound, .slice a5 nr c5]] w (BoolPost (((na : Int) == 2 * (k : Int)) && allB args 0 9 && wiB bound 0 9 && ((nr : Int) == 0)) w) := by
  have hB : Below w.heap.size w (w.alloc (.cells #[.int .i64 kind, .slice a2 k c2, .slice a3 na c3, .int .i64 bound, .slice a5 nr c5] 172)) := (Below.refl _ _).alloc (Nat.le_refl _) _
  have H2 := Lib.hid (h2.below hB)
  have H3 := Lib.hid (h3.below hB)
  have H5 := Lib.hid (h5.below hB)
  have HB := Lib.hid hB
  clear h2 h3 h5 hB
  cases g0 : ((na : Int) == 2 * (k : Int))
  · go_enter Tryz.func237, Tryz.ntmps237
    go_wp2
    go_ret
    exact ⟨ret_bool (by simp), HB.out⟩
  cases g1 : allB args 0 9
  · go_enter Tryz.func237, Tryz.ntmps237
    go_wp2_with fail
    refine (allWithin_any _ args _ _ _ H3.out).mono ?_
    rintro e w' ⟨rfl, rfl⟩
    go_wp2
    go_ret
    exact ⟨ret_bool (by simp), HB.out⟩
  cases g2 : wiB bound 0 9
  · go_enter Tryz.func237, Tryz.ntmps237
    go_wp2_with fail
    refine (allWithin_any _ args _ _ _ H3.out).mono ?_
    rintro e w' ⟨rfl, rfl⟩
    go_wp2_with fail
    refine (within_any _ _ _ _).mono ?_
    rintro e w' ⟨rfl, rfl⟩
    go_wp2
    go_ret
    exact ⟨ret_bool (by simp), HB.out⟩
  cases g3 : ((nr : Int) == 0)
  · go_enter Tryz.func237, Tryz.ntmps237
    go_wp2_with fail
    refine (allWithin_any _ args _ _ _ H3.out).mono ?_
    rintro e w' ⟨rfl, rfl⟩
    go_wp2_with fail
    refine (within_any _ _ _ _).mono ?_
    rintro e w' ⟨rfl, rfl⟩
    go_wp2
    go_ret
    exact ⟨ret_bool (by simp), HB.out⟩
  go_enter Tryz.func237, Tryz.ntmps237
  go_wp2_with fail
  refine (allWithin_any _ args _ _ _ H3.out).mono ?_
  rintro e w' ⟨rfl, rfl⟩
  go_wp2_with fail
  refine (within_any _ _ _ _).mono ?_
  rintro e w' ⟨rfl, rfl⟩
  go_wp2
  go_ret
  exact ⟨ret_bool (by simp), HB.out⟩

theorem one_cell {w : World} {a : Option Addr} {n c : Nat} {xs : List Int} (h : RdInts w (.slice a n c) xs) (e : n = 1) : ∃ b off, a = some ⟨b, off, none⟩ ∧ w.cell? ⟨b, off, none⟩ = some (.int .i64 (xs[0]?.getD 0)) := by
  obtain ⟨a', c', e1, h1, h2, h3⟩ := h
  simp at e1
  obtain ⟨rfl, e2, rfl⟩ := e1
  rcases h3 with h3 | ⟨b, off, rfl, h3⟩
  · omega
  · exact ⟨b, off, rfl, by simpa using h3 0 (by omega)⟩

set_option maxRecDepth 1000000 in
set_option maxHeartbeats 4000000 in
theorem iwf_6 (kind : Int)
    (a2 a3 a5 : Option Addr) (k c2 na c3 nr c5 : Nat) (vars args : List Int) (bound : Int) (rows : List (List Int)) (w : World)
    (hk : k ≤ 2305843009213693952) (hna : na ≤ 9223372036854775807) (hnr : nr ≤ 9223372036854775807)
    (h2 : RdInts w (.slice a2 k c2) vars) (h3 : RdInts w (.slice a3 na c3) args) (h5 : RdRows w (.slice a5 nr c5) rows) :
    Calls Tryz.prog 236 #[.agg #[.int .i64 kind, .slice a2 k c2, .slice a3 na c3, .int .i64 bound, .slice a5 nr c5]] w (BoolPost (((na : Int) == 1) && wiB (args[0]?.getD 0) 0 5 && wiB bound 0 4 && ((nr : Int) == 0)) w) := by
  have hB : Below w.heap.size w (w.alloc (.cells #[.int .i64 kind, .slice a2 k c2, .slice a3 na c3, .int .i64 bound, .slice a5 nr c5] 171)) := (Below.refl _ _).alloc (Nat.le_refl _) _
  have H2 := Lib.hid (h2.below hB)
  have H3 := Lib.hid (h3.below hB)
  have H5 := Lib.hid (h5.below hB)
  have HB := Lib.hid hB
  clear h2 h3 h5 hB
  have HC : Hid (na = 1 → ∃ b off, a3 = some ⟨b, off, none⟩ ∧ (w.alloc (.cells #[.int .i64 kind, .slice a2 k c2, .slice a3 na c3, .int .i64 bound, .slice a5 nr c5] 171)).cell? ⟨b, off, none⟩ = some (.int .i64 (args[0]?.getD 0))) := Lib.hid (fun e => one_cell H3.out e)
  cases g0 : ((na : Int) == 1)
  · go_enter Tryz.func236, Tryz.ntmps236
    go_wp2
    go_ret
    exact ⟨ret_bool (by simp), HB.out⟩
  obtain ⟨b, off, rfl, hc⟩ := HC.out (by have := eq_of_beq g0; omega)
  obtain rfl : na = 1 := by have := eq_of_beq g0; omega
  clear HC
  cases g1 : wiB (args[0]?.getD 0) 0 5
  · go_enter Tryz.func236, Tryz.ntmps236
    go_wp2_with fail
    refine (isValue_any _ _).mono ?_
    rintro e w' ⟨rfl, rfl⟩
    go_wp2
    go_ret
    exact ⟨ret_bool (by simp), HB.out⟩
  cases g2 : wiB bound 0 4
  · go_enter Tryz.func236, Tryz.ntmps236
    go_wp2_with fail
    refine (isValue_any _ _).mono ?_
    rintro e w' ⟨rfl, rfl⟩
    go_wp2_with fail
    refine (within_any _ _ _ _).mono ?_
    rintro e w' ⟨rfl, rfl⟩
    go_wp2
    go_ret
    exact ⟨ret_bool (by simp), HB.out⟩
  cases g3 : ((nr : Int) == 0)
  · go_enter Tryz.func236, Tryz.ntmps236
    go_wp2_with fail
    refine (isValue_any _ _).mono ?_
    rintro e w' ⟨rfl, rfl⟩
    go_wp2_with fail
    refine (within_any _ _ _ _).mono ?_
    rintro e w' ⟨rfl, rfl⟩
    go_wp2
    go_ret
    exact ⟨ret_bool (by simp), HB.out⟩
  go_enter Tryz.func236, Tryz.ntmps236
  go_wp2_with fail
  refine (isValue_any _ _).mono ?_
  rintro e w' ⟨rfl, rfl⟩
  go_wp2_with fail
  refine (within_any _ _ _ _).mono ?_
  rintro e w' ⟨rfl, rfl⟩
  go_wp2
  go_ret
  exact ⟨ret_bool (by simp), HB.out⟩

set_option maxRecDepth 1000000 in
set_option maxHeartbeats 4000000 in
theorem iwf_3 (kind : Int)
    (a2 a3 a5 : Option Addr) (k c2 na c3 nr c5 : Nat) (vars args : List Int) (bound : Int) (rows : List (List Int)) (w : World)
    (hk : k ≤ 2305843009213693952) (hna : na ≤ 9223372036854775807) (hnr : nr ≤ 9223372036854775807)
    (h2 : RdInts w (.slice a2 k c2) vars) (h3 : RdInts w (.slice a3 na c3) args) (h5 : RdRows w (.slice a5 nr c5) rows) :
    Calls Tryz.prog 230 #[.agg #[.int .i64 kind, .slice a2 k c2, .slice a3 na c3, .int .i64 bound, .slice a5 nr c5]] w (BoolPost (((na : Int) == 0) && (bound == 0) && ((nr : Int) == 0)) w) := by
  have hB : Below w.heap.size w (w.alloc (.cells #[.int .i64 kind, .slice a2 k c2, .slice a3 na c3, .int .i64 bound, .slice a5 nr c5] 168)) := (Below.refl _ _).alloc (Nat.le_refl _) _
  have H2 := Lib.hid (h2.below hB)
  have H3 := Lib.hid (h3.below hB)
  have H5 := Lib.hid (h5.below hB)
  have HB := Lib.hid hB
  clear h2 h3 h5 hB
  have hsz : w.heap.size ≤ (w.alloc (.cells #[.int .i64 kind, .slice a2 k c2, .slice a3 na c3, .int .i64 bound, .slice a5 nr c5] 168)).heap.size := HB.out.size
  have HZ := Lib.hid hsz
  clear hsz
  go_enter Tryz.func230, Tryz.ntmps230
  go_wp2_with fail
  refine (only_any kind a2 a3 a5 k c2 na c3 nr c5 vars args bound rows _ hk hna hnr H2.out H3.out H5.out).mono ?_
  rintro e w1 ⟨rfl, hb1⟩
  go_wp2
  go_ret
  exact ⟨rfl, HB.out.trans (hb1.mono HZ.out)⟩

set_option maxRecDepth 1000000 in
set_option maxHeartbeats 4000000 in
theorem iwf_9 (kind : Int)
    (a2 a3 a5 : Option Addr) (k c2 na c3 nr c5 : Nat) (vars args : List Int) (bound : Int) (rows : List (List Int)) (w : World)
    (hk : k ≤ 2305843009213693952) (hna : na ≤ 9223372036854775807) (hnr : nr ≤ 9223372036854775807)
    (h2 : RdInts w (.slice a2 k c2) vars) (h3 : RdInts w (.slice a3 na c3) args) (h5 : RdRows w (.slice a5 nr c5) rows) :
    Calls Tryz.prog 239 #[.agg #[.int .i64 kind, .slice a2 k c2, .slice a3 na c3, .int .i64 bound, .slice a5 nr c5]] w (BoolPost (((na : Int) == 0) && (bound == 0) && ((nr : Int) == 0)) w) := by
  have hB : Below w.heap.size w (w.alloc (.cells #[.int .i64 kind, .slice a2 k c2, .slice a3 na c3, .int .i64 bound, .slice a5 nr c5] 174)) := (Below.refl _ _).alloc (Nat.le_refl _) _
  have H2 := Lib.hid (h2.below hB)
  have H3 := Lib.hid (h3.below hB)
  have H5 := Lib.hid (h5.below hB)
  have HB := Lib.hid hB
  clear h2 h3 h5 hB
  have hsz : w.heap.size ≤ (w.alloc (.cells #[.int .i64 kind, .slice a2 k c2, .slice a3 na c3, .int .i64 bound, .slice a5 nr c5] 174)).heap.size := HB.out.size
  have HZ := Lib.hid hsz
  clear hsz
  go_enter Tryz.func239, Tryz.ntmps239
  go_wp2_with fail
  refine (only_any kind a2 a3 a5 k c2 na c3 nr c5 vars args bound rows _ hk hna hnr H2.out H3.out H5.out).mono ?_
  rintro e w1 ⟨rfl, hb1⟩
  go_wp2
  go_ret
  exact ⟨rfl, HB.out.trans (hb1.mono HZ.out)⟩

set_option maxRecDepth 1000000 in
set_option maxHeartbeats 4000000 in
theorem iwf_8 (kind : Int)
    (a2 a3 a5 : Option Addr) (k c2 na c3 nr c5 : Nat) (vars args : List Int) (bound : Int) (rows : List (List Int)) (w : World)
    (hk : k ≤ 2305843009213693952) (hna : na ≤ 9223372036854775807) (hnr : nr ≤ 9223372036854775807)
    (h2 : RdInts w (.slice a2 k c2) vars) (h3 : RdInts w (.slice a3 na c3) args) (h5 : RdRows w (.slice a5 nr c5) rows) :
    Calls Tryz.prog 238 #[.agg #[.int .i64 kind, .slice a2 k c2, .slice a3 na c3, .int .i64 bound, .slice a5 nr c5]] w (BoolPost (((rowsB rows 6 (-1) (nr - 1) && wiB nr 1 8)) && ((allB args 0 (nr - 1) && dstB args)) && (bound == 0)) w) := by
  have hB : Below w.heap.size w (w.alloc (.cells #[.int .i64 kind, .slice a2 k c2, .slice a3 na c3, .int .i64 bound, .slice a5 nr c5] 173)) := (Below.refl _ _).alloc (Nat.le_refl _) _
  have H2 := Lib.hid (h2.below hB)
  have H3 := Lib.hid (h3.below hB)
  have H5 := Lib.hid (h5.below hB)
  have HB := Lib.hid hB
  clear h2 h3 h5 hB
  have HZ := Lib.hid (show w.heap.size + 1 = (w.alloc (.cells #[.int .i64 kind, .slice a2 k c2, .slice a3 na c3, .int .i64 bound, .slice a5 nr c5] 173)).heap.size from by simp)
  cases g0 : (rowsB rows 6 (-1) (nr - 1) && wiB nr 1 8)
  · go_enter Tryz.func238, Tryz.ntmps238
    go_wp2_with fail
    refine (rowsWithin_at _ _ _ rows _ _ _ _ H5.out).mono ?_
    rintro e w' ⟨rfl, rfl⟩
    go_wp2
    go_ret
    exact ⟨ret_bool (by simp), HB.out⟩
  have hnr8 : nr ≤ 8 := by have := wiB_in (Bool.and_eq_true_iff.1 g0).2; omega
  cases g1 : (allB args 0 (nr - 1) && dstB args)
  · go_enter Tryz.func238, Tryz.ntmps238
    go_wp2_with fail
    refine (rowsWithin_at _ _ _ rows _ _ _ _ H5.out).mono ?_
    rintro e w' ⟨rfl, rfl⟩
    go_wp2_with fail
    refine (areDistinct_any _ args nr _ H3.out hnr8).mono ?_
    rintro e w1 ⟨rfl, hb1⟩
    have hc3 : w1.cell? ⟨w.heap.size, 3, none⟩ = some (.int .i64 bound) := (hb1.cell (p := ⟨w.heap.size, 3, none⟩) (by rw [← HZ.out]; exact Nat.lt_succ_self _)).trans (by simp)
    have hb2 : Below w.heap.size w w1 := HB.out.trans (hb1.mono (by rw [← HZ.out]; exact Nat.le_succ _))
    clear hb1
    go_wp2
    go_ret
    exact ⟨ret_bool (by simp), hb2⟩
  cases g2 : (bound == 0)
  · go_enter Tryz.func238, Tryz.ntmps238
    go_wp2_with fail
    refine (rowsWithin_at _ _ _ rows _ _ _ _ H5.out).mono ?_
    rintro e w' ⟨rfl, rfl⟩
    go_wp2_with fail
    refine (areDistinct_any _ args nr _ H3.out hnr8).mono ?_
    rintro e w1 ⟨rfl, hb1⟩
    have hc3 : w1.cell? ⟨w.heap.size, 3, none⟩ = some (.int .i64 bound) := (hb1.cell (p := ⟨w.heap.size, 3, none⟩) (by rw [← HZ.out]; exact Nat.lt_succ_self _)).trans (by simp)
    have hb2 : Below w.heap.size w w1 := HB.out.trans (hb1.mono (by rw [← HZ.out]; exact Nat.le_succ _))
    clear hb1
    go_wp2
    go_ret
    exact ⟨ret_bool (by simp), hb2⟩
  go_enter Tryz.func238, Tryz.ntmps238
  go_wp2_with fail
  refine (rowsWithin_at _ _ _ rows _ _ _ _ H5.out).mono ?_
  rintro e w' ⟨rfl, rfl⟩
  go_wp2_with fail
  refine (areDistinct_any _ args nr _ H3.out hnr8).mono ?_
  rintro e w1 ⟨rfl, hb1⟩
  have hc3 : w1.cell? ⟨w.heap.size, 3, none⟩ = some (.int .i64 bound) := (hb1.cell (p := ⟨w.heap.size, 3, none⟩) (by rw [← HZ.out]; exact Nat.lt_succ_self _)).trans (by simp)
  have hb2 : Below w.heap.size w w1 := HB.out.trans (hb1.mono (by rw [← HZ.out]; exact Nat.le_succ _))
  clear hb1
  go_wp2
  go_ret
  exact ⟨ret_bool (by simp), hb2⟩
end Go.Proofs.YtipapmmjfoaddaaGreat
