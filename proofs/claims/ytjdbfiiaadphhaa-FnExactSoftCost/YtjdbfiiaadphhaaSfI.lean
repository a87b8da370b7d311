/- The program's SoftCost. -/
import Derived.Test.YtjdbfiiaadphhaaSfS
import Derived.Test.YtjdbfiiaadphhaaVcC
namespace Go.Proofs.Ytjdbfiiaadphhaa
open Go.ChangeShapes Go.WideShapes Go.ChangeAt Go.RowKit
set_option linter.unusedVariables false
set_option linter.unusedSimpArgs false

set_option maxRecDepth 100000 in
set_option maxHeartbeats 4000000 in
theorem as1_any (a2 a3 a5 : Option Addr) (c2 c3 c5 : Nat) (s : Sft) (N bx : Nat) (w : World) (hb : w.cell? ⟨bx, 0, none⟩ = some (.int .i64 N)) (h : RdCon w (.agg #[.int .i64 s.con.kind, .slice a2 s.con.vars.length c2, .slice a3 s.con.args.length c3, .int .i64 s.con.bound, .slice a5 s.con.rows.length c5]) s.con) (hle : s.con.vars.length ≤ 1048576) (hN1 : 1 ≤ N) (hN4 : N ≤ 4) :
    Calls Try.prog 133 #[.agg #[.int .i64 s.con.kind, .slice a2 s.con.vars.length c2, .slice a3 s.con.args.length c3, .int .i64 s.con.bound, .slice a5 s.con.rows.length c5, .int .i64 s.wt], .pointer (some ⟨bx, 0, none⟩)] w (BoolPost (!sf1B s N) w) := by
  obtain ⟨W1, hW1⟩ : ∃ W1, w.alloc (.cells #[.int .i64 s.con.kind, .slice a2 s.con.vars.length c2, .slice a3 s.con.args.length c3, .int .i64 s.con.bound, .slice a5 s.con.rows.length c5, .int .i64 s.wt] 107) = W1 := ⟨_, rfl⟩
  have hB : Below w.heap.size w W1 := by rw [← hW1]; exact (Below.refl _ _).alloc (Nat.le_refl _) _
  have bP : Blk6 W1 w.heap.size 107 (.int .i64 s.con.kind) (.slice a2 s.con.vars.length c2) (.slice a3 s.con.args.length c3) (.int .i64 s.con.bound) (.slice a5 s.con.rows.length c5) (.int .i64 s.wt) := by rw [← hW1]; exact Blk6.new w _ _ _ _ _ _ _
  have q0 : W1.cell? ⟨bx, 0, none⟩ = some (.int .i64 N) := (hB.cell (World.block_lt_of_cell? _ _ hb)).trans hb
  have HC := Lib.hid (h.below hB)
  have HB := Lib.hid hB
  have HW := Lib.hid hW1
  obtain ⟨p0, p1, p2, p3, p4, p5⟩ := bP.cell
  clear h hB hW1 bP hb
  unfold BoolPost
  cases hw : wiB s.wt 1 9
  · have HF : Hid ((!sf1B s N) = true) := Lib.hid (by unfold sf1B; rw [hw]; rfl)
    go_enter Try.func133, Try.ntmps133
    go_wp2_with fail
    rw [HW.out]
    refine (within_any _ _ _ _).mono ?_
    rintro e w' ⟨rfl, rfl⟩
    rw [hw]
    go_wp2
    go_ret
    exact ⟨ret_bool HF.out.symm, HB.out⟩
  · obtain ⟨bv, hv⟩ : ∃ bv, bv = vcB s.con N := ⟨_, rfl⟩
    have HF : Hid ((!sf1B s N) = !bv) := Lib.hid (by unfold sf1B; rw [hw, hv]; rfl)
    have HN1 : Hid (wiB (N : Int) 1 4 = true) := Lib.hid (wiB_true (by omega) (by omega))
    have HV := Lib.hid hv
    clear hv
    go_enter Try.func133, Try.ntmps133
    go_wp2_with fail
    rw [HW.out]
    refine (within_any _ _ _ _).mono ?_
    rintro e w' ⟨rfl, rfl⟩
    rw [hw]
    go_wp2_with fail
    refine (ivc_any s.con _ N _ HC.out (by omega)).mono ?_
    rintro e w' ⟨rfl, b⟩
    have HB2 := Lib.hid (HB.out.trans (b.mono HB.out.size))
    clear b
    rw [HN1.out, ← HV.out, Bool.true_and]
    go_wp2
    go_ret
    exact ⟨ret_bool HF.out.symm, HB2.out⟩

set_option maxRecDepth 100000 in
set_option maxHeartbeats 4000000 in
theorem asIx_any (v : Value) (ss : List Sft) (N bx : Nat) (w : World) (hb : w.cell? ⟨bx, 0, none⟩ = some (.int .i64 N)) (h : RdSofts w v ss) (hle : SoftsLe ss 1048576) (hN1 : 1 ≤ N) (hN4 : N ≤ 4) (hs : ss.length ≤ 4) :
    Calls Try.prog 174 #[v, .func (.func 133) #[] #[.pointer (some ⟨bx, 0, none⟩)]] w fun e w' => ∃ r : Int, e = .returned (.int .i64 r) ∧ (sfB ss N = !decide (r ≥ 0)) ∧ Below w.heap.size w w' := by
  have HC := Lib.hid h
  obtain ⟨a, cap, ev, hl, hm, _⟩ := h
  obtain ⟨hx1, hx2⟩ := hle
  obtain ⟨m, hn⟩ : ∃ n, n = ss.length := ⟨_, rfl⟩
  have HN := Lib.hid hn
  have HX := Lib.hid hx2
  have HBX := Lib.hid hb
  have HD : Hid (decide (ss.length ≤ 4) = true) := Lib.hid (decide_eq_true hs)
  rw [ev] at HC ⊢
  rw [← hn] at hl hx1 HC ⊢
  clear hn hx2 ev hb hs
  unfold maxLen at hm
  go_enter Try.func174, Try.ntmps174
  go_wp2
  go_loopw [8] (fun i wr => ∃ k : Nat, k ≤ m ∧ i = .int .i64 k ∧ Hid (∀ (j : Nat) (s : Sft), j < k → ss[j]? = some s → sf1B s N = true) ∧ Hid (Below w.heap.size w wr)) (fun i _ => m - (intOf i).toNat)
  case atStart => exact ⟨0, Nat.zero_le _, rfl, Lib.hid (fun j l hj => by omega), Lib.hid (Below.refl _ _)⟩
  case round =>
    obtain ⟨k, hk, rfl, HS, HB⟩ := hrel
    by_cases hlt : k < m
    · obtain ⟨b, off, s, a2, a3, a5, c2, c3, c5, rfl, hck, k0, k1, k2, k3, k4, k5, hr⟩ := rdSofts_at (HC.out.below HB.out) hlt
      have HCK := Lib.hid hck
      have HE := Lib.hid (as1_any _ _ _ _ _ _ s N bx wr ((HB.out.cell (World.block_lt_of_cell? _ _ HBX.out)).trans HBX.out) hr (HX.out k s hck).1 hN1 hN4)
      unfold BoolPost at HE
      clear hck hr
      cases h3 : sf1B s N
      · have HF : Hid (sfB ss N = false) := Lib.hid (sfB_false HCK.out h3)
        rw [h3] at HE
        go_wp2_with (go_at_call 133; refine HE.out.mono ?_; rintro e w9 ⟨rfl, b9⟩; have B9 := Lib.hid (HB.out.trans (b9.mono HB.out.size)); clear b9)
        go_ret
        exact ⟨k, rfl, by rw [HF.out]; simp, B9.out⟩
      · have HF := Lib.hid h3
        rw [h3] at HE
        go_wp2_with (go_at_call 133; refine HE.out.mono ?_; rintro e w9 ⟨rfl, b9⟩; have B9 := Lib.hid (HB.out.trans (b9.mono HB.out.size)); clear b9)
        go_roundw
        case rel => exact ⟨k + 1, by omega, by go_num, Lib.hid (fun i l hi hl => by by_cases e : i = k; (· subst e; rw [HCK.out] at hl; obtain rfl := Option.some.inj hl; exact HF.out); (· exact HS.out i l (by omega) hl)), B9⟩
        case measure => simp [intOf]; omega
    · obtain rfl : k = m := by omega
      have HF : Hid (sfB ss N = true) := Lib.hid (by rw [sfB_end (fun j s hj hc => HS.out j s (by have := HN.out; omega) hc)]; exact HD.out)
      clear HS
      go_wp2
      go_ret
      exact ⟨-1, rfl, by rw [HF.out]; rfl, HB.out⟩

set_option maxRecDepth 100000 in
set_option maxHeartbeats 4000000 in
theorem asCf_any (v : Value) (ss : List Sft) (N bx : Nat) (w : World) (hb : w.cell? ⟨bx, 0, none⟩ = some (.int .i64 N)) (h : RdSofts w v ss) (hle : SoftsLe ss 1048576) (hN1 : 1 ≤ N) (hN4 : N ≤ 4) (hs : ss.length ≤ 4) :
    Calls Try.prog 132 #[v, .func (.func 133) #[] #[.pointer (some ⟨bx, 0, none⟩)]] w (BoolPost (!sfB ss N) w) := by
  have HC := Lib.hid (asIx_any v ss N bx w hb h hle hN1 hN4 hs)
  obtain ⟨a, cap, ev, hl, hm, _⟩ := h
  obtain ⟨n, hn⟩ : ∃ n, n = ss.length := ⟨_, rfl⟩
  rw [ev] at HC ⊢
  rw [← hn] at HC ⊢
  clear ev hb hle hs hn
  unfold BoolPost
  go_enter Try.func132, Try.ntmps132
  go_wp2_with fail
  refine HC.out.mono ?_
  rintro e w9 ⟨r, rfl, hr, b⟩
  have HR := Lib.hid hr
  have HB := Lib.hid b
  clear hr b
  go_wp2
  go_ret
  exact ⟨ret_bool (by rw [HR.out]; simp), HB.out⟩

set_option maxRecDepth 100000 in
set_option maxHeartbeats 4000000 in
theorem iAreSoft_any (v : Value) (ss : List Sft) (N : Nat) (w : World) (h : RdSofts w v ss) (hle : SoftsLe ss 1048576) (hN1 : 1 ≤ N) (hN4 : N ≤ 4) :
    Calls Try.prog 83 #[v, .int .i64 N] w (BoolPost (sfB ss N) w) := by
  obtain ⟨W1, hW1⟩ : ∃ W1, w.alloc (.cells #[.int .i64 N] 3) = W1 := ⟨_, rfl⟩
  have hB : Below w.heap.size w W1 := by rw [← hW1]; exact (Below.refl _ _).alloc (Nat.le_refl _) _
  have hq : W1.cell? ⟨w.heap.size, 0, none⟩ = some (.int .i64 N) := by rw [← hW1]; exact (show Boxed _ _ 3 _ from World.alloc_heap_new _ _).cell
  have HC := Lib.hid (h.below hB)
  obtain ⟨a, cap, ev, hl, hm, _⟩ := h
  have HLE := Lib.hid hle
  have HB := Lib.hid hB
  have HW := Lib.hid hW1
  have HQ := Lib.hid hq
  obtain ⟨n, hn⟩ : ∃ n, n = ss.length := ⟨_, rfl⟩
  have HN := Lib.hid hn
  obtain ⟨q, hq'⟩ : ∃ q, q = sfB ss N := ⟨_, rfl⟩
  have HS := Lib.hid hq'
  rw [← hq']
  rw [ev] at HC ⊢
  rw [← hn] at HC hl ⊢
  clear ev hle hn hB hW1 hq hq'
  unfold maxLen at hm
  unfold BoolPost
  by_cases h4 : n ≤ 4
  · have HCF := Lib.hid (asCf_any _ ss N _ W1 HQ.out HC.out HLE.out hN1 hN4 (by rw [← HN.out]; exact h4))
    unfold BoolPost at HCF
    rw [← HS.out] at HCF
    go_enter Try.func83, Try.ntmps83
    go_wp2_with fail
    rw [HW.out]
    refine HCF.out.mono ?_
    rintro e w9 ⟨rfl, b⟩
    have HB2 := Lib.hid (HB.out.trans (b.mono HB.out.size))
    clear b
    go_wp2
    go_ret
    exact ⟨ret_bool (by simp), HB2.out⟩
  · have HF : Hid (q = false) := Lib.hid (by
      rw [HS.out]
      unfold sfB
      rw [show decide (ss.length ≤ 4) = false from decide_eq_false (by rw [← HN.out]; exact h4), Bool.and_false])
    go_enter Try.func83, Try.ntmps83
    go_wp2
    rw [HW.out]
    go_ret
    exact ⟨ret_bool HF.out.symm, HB.out⟩

set_option maxRecDepth 100000 in
set_option maxHeartbeats 4000000 in
theorem sc1_any (cv xv : Value) (c : Con) (xs : List Int) (bx : Nat) (w : World) (hb : w.cell? ⟨bx, 0, none⟩ = some xv) (h : RdCon w cv c) (hx : RdInts w xv xs) (hvars : Small c.vars 0 (xs.length - 1)) (f : Fit c (projL c xs)) :
    Calls Try.prog 85 #[cv, .pointer (some ⟨bx, 0, none⟩)] w (BoolPost (!satB c (projL c xs)) w) := by
  obtain ⟨a2, a3, a5, c2, c3, c5, rfl, _⟩ := rdCon_slices h
  obtain ⟨W1, hW1⟩ : ∃ W1, w.alloc (.cells #[.int .i64 c.kind, .slice a2 c.vars.length c2, .slice a3 c.args.length c3, .int .i64 c.bound, .slice a5 c.rows.length c5] 53) = W1 := ⟨_, rfl⟩
  have hB : Below w.heap.size w W1 := by rw [← hW1]; exact (Below.refl _ _).alloc (Nat.le_refl _) _
  have bP : Blk5 W1 w.heap.size 53 (.int .i64 c.kind) (.slice a2 c.vars.length c2) (.slice a3 c.args.length c3) (.int .i64 c.bound) (.slice a5 c.rows.length c5) := by rw [← hW1]; exact Blk5.new w _ _ _ _ _ _
  have q0 : W1.cell? ⟨bx, 0, none⟩ = some xv := (hB.cell (World.block_lt_of_cell? _ _ hb)).trans hb
  have HC := Lib.hid (h.below hB)
  have HX := Lib.hid (hx.below hB)
  have HB := Lib.hid hB
  have HW := Lib.hid hW1
  obtain ⟨p0, p1, p2, p3, p4⟩ := bP.cell
  obtain ⟨ax, cx, ex, -⟩ := id hx
  rw [ex] at q0 HX
  have HV := Lib.hid hvars
  have HF := Lib.hid f
  obtain ⟨q, hq⟩ : ∃ q, q = satB c (projL c xs) := ⟨_, rfl⟩
  have HQ := Lib.hid hq
  rw [← hq]
  clear h hB hW1 bP hb hx ex hvars f hq
  unfold BoolPost
  go_enter Try.func85, Try.ntmps85
  go_wp2_with (rw [HW.out])
  refine (isatisfies_any c _ _ xs _ HC.out HX.out HV.out HF.out).mono ?_
  rintro e w9 ⟨rfl, b⟩
  have HB2 := Lib.hid (HB.out.trans (b.mono HB.out.size))
  clear b
  rw [← HQ.out]
  go_wp2
  go_ret
  exact ⟨rfl, HB2.out⟩

set_option maxRecDepth 100000 in
set_option maxHeartbeats 8000000 in
theorem iTotal_any (v xv : Value) (ss : List Sft) (xs : List Int) (bx : Nat) (w : World) (hb : w.cell? ⟨bx, 0, none⟩ = some xv) (h : RdSofts w v ss) (hx : RdInts w xv xs) (h1 : 1 ≤ xs.length) (h4 : xs.length ≤ 4) (ha : allB xs 0 5 = true) (hs : sfB ss xs.length = true) :
    Calls Try.prog 84 #[v, .func (.func 85) #[] #[.pointer (some ⟨bx, 0, none⟩)]] w fun e w' => e = .returned (.int .i64 (sfW ss xs ss.length)) ∧ Below w.heap.size w w' := by
  have HC := Lib.hid h
  have HX := Lib.hid hx
  have HBX := Lib.hid hb
  obtain ⟨a, cap, ev, hl, hm, _⟩ := h
  obtain ⟨hn4, hat⟩ := sfB_at hs
  obtain ⟨n, hn⟩ : ∃ n, n = ss.length := ⟨_, rfl⟩
  have HN := Lib.hid hn
  have HAT := Lib.hid hat
  have HFT := Lib.hid (fun (s : Sft) (hm : s ∈ ss) => fit_soft h1 h4 (small_of ha) (hat s hm).2)
  have HBD := Lib.hid (sfW_bd (xs := xs) fun s hm => (hat s hm).1)
  rw [ev] at HC ⊢
  rw [← hn] at hl hn4 HC ⊢
  clear hn hat ev hx ha hs hb h1 h4
  unfold maxLen at hm
  go_enter Try.func84, Try.ntmps84
  go_wp2
  go_loopw [5, 10] (fun q i wr => ∃ (j : Nat) (z : Int), j ≤ n ∧ i = .int .i64 j ∧ q = .int .i64 z ∧ Hid (z = sfW ss xs j) ∧ 0 ≤ z ∧ z ≤ 36 ∧ Hid (Below w.heap.size w wr)) (fun _ i _ => n - (intOf i).toNat)
  case atStart => exact ⟨0, 0, Nat.zero_le _, rfl, rfl, Lib.hid rfl, by omega, by omega, Lib.hid (Below.refl _ _)⟩
  case round =>
    obtain ⟨j, z, hj, rfl, rfl, HZ, hz0, hz1, HBE⟩ := hrel
    by_cases hlt : j < n
    · obtain ⟨b, off, s, x2, x3, x5, y2, y3, y5, rfl, hck, t0, t1, t2, t3, t4, t5, hr⟩ := rdSofts_at (HC.out.below HBE.out) hlt
      have HCK := Lib.hid hck
      have hft := HFT.out s (List.mem_of_getElem? hck)
      have hwt := (HAT.out s (List.mem_of_getElem? hck)).1
      obtain ⟨W1, hW1⟩ : ∃ W1, wr.alloc (.cells #[.int .i64 s.con.kind, .slice x2 s.con.vars.length y2, .slice x3 s.con.args.length y3, .int .i64 s.con.bound, .slice x5 s.con.rows.length y5, .int .i64 s.wt] 107) = W1 := ⟨_, rfl⟩
      have hB1 : Below wr.heap.size wr W1 := by rw [← hW1]; exact (Below.refl _ _).alloc (Nat.le_refl _) _
      have hB2 : Below w.heap.size w W1 := HBE.out.trans (hB1.mono HBE.out.size)
      have bP : Blk6 W1 wr.heap.size 107 (.int .i64 s.con.kind) (.slice x2 s.con.vars.length y2) (.slice x3 s.con.args.length y3) (.int .i64 s.con.bound) (.slice x5 s.con.rows.length y5) (.int .i64 s.wt) := by rw [← hW1]; exact Blk6.new wr _ _ _ _ _ _ _
      have HE := Lib.hid (sc1_any _ xv s.con xs bx W1 ((hB2.cell (World.block_lt_of_cell? _ _ HBX.out)).trans HBX.out) (hr.below hB1) (HX.out.below hB2) hft.1 hft.2)
      unfold BoolPost at HE
      obtain ⟨bv, hbv⟩ : ∃ bv, bv = satB s.con (projL s.con xs) := ⟨_, rfl⟩
      rw [← hbv] at HE
      have HSB := Lib.hid hbv
      have HB := Lib.hid hB2
      have HW := Lib.hid hW1
      have HP := Lib.hid bP
      clear hck hr hft hbv hB1 hB2 bP hW1
      obtain ⟨p0, p1, p2, p3, p4, p5⟩ := HP.out.cell
      cases bv
      · have HS := Lib.hid (sfW_no (xs := xs) HCK.out HSB.out.symm)
        have hbd := HBD.out (j + 1)
        rw [HS.out, ← HZ.out] at hbd
        go_wp2_with (first | rw [HW.out] | (go_at_call 85; refine HE.out.mono ?_; rintro e w9 ⟨rfl, b9⟩; have B9 := Lib.hid (HB.out.trans (b9.mono HB.out.size)); have n5 := (HP.out.below b9).cell.2.2.2.2.2; clear b9))
        go_roundw
        case rel => exact ⟨j + 1, z + s.wt, by omega, by first | go_num | rfl, by first | rfl | go_num, Lib.hid (by rw [HS.out, HZ.out]), by omega, by omega, B9⟩
        case measure => simp [intOf]; omega
      · have HS := Lib.hid (sfW_yes (xs := xs) HCK.out HSB.out.symm)
        go_wp2_with (first | rw [HW.out] | (go_at_call 85; refine HE.out.mono ?_; rintro e w9 ⟨rfl, b9⟩; have B9 := Lib.hid (HB.out.trans (b9.mono HB.out.size)); have n5 := (HP.out.below b9).cell.2.2.2.2.2; clear b9))
        go_roundw
        case rel => exact ⟨j + 1, z, by omega, by go_num, rfl, Lib.hid (by rw [HS.out, HZ.out]), by omega, by omega, B9⟩
        case measure => simp [intOf]; omega
    · obtain rfl : j = n := by omega
      go_wp2
      go_ret
      exact ⟨ret_int (by rw [HZ.out]), HBE.out⟩

set_option maxRecDepth 100000 in
set_option maxHeartbeats 4000000 in
theorem iSoftCost_any (v xv : Value) (ss : List Sft) (xs : List Int) (w : World) (h : RdSofts w v ss) (hx : RdInts w xv xs) (hle : SoftsLe ss 1048576) :
    Calls Try.prog 32 #[v, xv] w fun e w' => e = .returned (.int .i64 (softN ss xs)) ∧ Below w.heap.size w w' := by
  obtain ⟨a, cap, ev, hl, hm, _⟩ := id h
  obtain ⟨ax, cx, ex, -⟩ := id hx
  have hcx := (rdInts_cap (ex ▸ hx)).2
  obtain ⟨W1, hW1⟩ : ∃ W1, w.alloc (.cells #[.slice ax xs.length cx] 32) = W1 := ⟨_, rfl⟩
  have hB : Below w.heap.size w W1 := by rw [← hW1]; exact (Below.refl _ _).alloc (Nat.le_refl _) _
  have hq : W1.cell? ⟨w.heap.size, 0, none⟩ = some (.slice ax xs.length cx) := by rw [← hW1]; exact (show Boxed _ _ 32 _ from World.alloc_heap_new _ _).cell
  have HC := Lib.hid (h.below hB)
  have HX := Lib.hid (hx.below hB)
  have HLE := Lib.hid hle
  have HB := Lib.hid hB
  obtain ⟨n, hn⟩ : ∃ n, n = xs.length := ⟨_, rfl⟩
  have HN := Lib.hid hn
  obtain ⟨z, hz⟩ : ∃ z, z = softN ss xs := ⟨_, rfl⟩
  have HZ := Lib.hid hz
  rw [← hz]
  obtain ⟨m, hm'⟩ : ∃ m, m = ss.length := ⟨_, rfl⟩
  rw [ev] at HC ⊢
  rw [ex] at HX ⊢
  rw [← hn] at hcx HX hq hW1 ⊢
  rw [← hm'] at hl HC ⊢
  have HW := Lib.hid hW1
  have HQ := Lib.hid hq
  have hD : decide (xs.length = n) = true := decide_eq_true hn.symm
  have HD := Lib.hid hD
  clear hn ev ex hx hz hm' hle h hB hW1 hD
  unfold maxLen at hm
  cases h1 : wiB n 1 4
  · have HF : Hid (z = -1) := Lib.hid (by rw [HZ.out]; unfold softN; rw [← HN.out, h1]; rfl)
    go_enter Try.func32, Try.ntmps32
    go_wp2_with fail
    rw [HW.out]
    refine (within_any _ _ _ _).mono ?_
    rintro e w' ⟨rfl, rfl⟩
    rw [h1]
    go_wp2
    go_ret
    exact ⟨ret_int HF.out.symm, HB.out⟩
  have hn := wiB_in h1
  have hn1 : 1 ≤ n := by omega
  have hn4 : n ≤ 4 := by omega
  clear hn
  cases h2 : allB xs 0 5
  · have HF : Hid (z = -1) := Lib.hid (by rw [HZ.out]; unfold softN; rw [← HN.out, h1, h2]; rfl)
    go_enter Try.func32, Try.ntmps32
    go_wp2_with fail
    rw [HW.out]
    refine (within_any _ _ _ _).mono ?_
    rintro e w' ⟨rfl, rfl⟩
    rw [h1]
    go_wp2_with fail
    refine (isAssignment_any _ xs n _ HX.out (by omega)).mono ?_
    rintro e w' ⟨rfl, rfl⟩
    rw [HD.out, h2]
    go_wp2
    go_ret
    exact ⟨ret_int HF.out.symm, HB.out⟩
  have H2 := Lib.hid h2
  cases h3 : sfB ss n
  · have HF : Hid (z = -1) := Lib.hid (by rw [HZ.out]; unfold softN; rw [← HN.out, h1, h2, h3]; rfl)
    go_enter Try.func32, Try.ntmps32
    go_wp2_with fail
    rw [HW.out]
    refine (within_any _ _ _ _).mono ?_
    rintro e w' ⟨rfl, rfl⟩
    rw [h1]
    go_wp2_with fail
    refine (isAssignment_any _ xs n _ HX.out (by omega)).mono ?_
    rintro e w' ⟨rfl, rfl⟩
    rw [HD.out, h2]
    go_wp2_with fail
    refine (iAreSoft_any _ ss n _ HC.out HLE.out hn1 hn4).mono ?_
    rintro e w' ⟨rfl, b⟩
    have HB2 := Lib.hid (HB.out.trans (b.mono HB.out.size))
    clear b
    rw [h3]
    go_wp2
    go_ret
    exact ⟨ret_int HF.out.symm, HB2.out⟩
  · have HF : Hid (z = sfW ss xs ss.length) := Lib.hid (by rw [HZ.out]; unfold softN; rw [← HN.out, h1, h2, h3]; rfl)
    have H3 := Lib.hid h3
    go_enter Try.func32, Try.ntmps32
    go_wp2_with fail
    rw [HW.out]
    refine (within_any _ _ _ _).mono ?_
    rintro e w' ⟨rfl, rfl⟩
    rw [h1]
    go_wp2_with fail
    refine (isAssignment_any _ xs n _ HX.out (by omega)).mono ?_
    rintro e w' ⟨rfl, rfl⟩
    rw [HD.out, h2]
    go_wp2_with fail
    refine (iAreSoft_any _ ss n _ HC.out HLE.out hn1 hn4).mono ?_
    rintro e w' ⟨rfl, b⟩
    have HB2 := Lib.hid (HB.out.trans (b.mono HB.out.size))
    have HC2 := Lib.hid (HC.out.below b)
    have HX2 := Lib.hid (HX.out.below b)
    have HQ2 := Lib.hid ((b.cell (World.block_lt_of_cell? _ _ HQ.out)).trans HQ.out)
    clear b
    rw [h3]
    go_wp2_with fail
    refine (iTotal_any _ _ ss xs _ _ HQ2.out HC2.out HX2.out (by rw [← HN.out]; exact hn1) (by rw [← HN.out]; exact hn4) H2.out (by rw [← HN.out]; exact H3.out)).mono ?_
    rintro e w' ⟨rfl, b⟩
    have HB3 := Lib.hid (HB2.out.trans (b.mono HB2.out.size))
    clear b
    go_wp2
    go_ret
    exact ⟨ret_int HF.out.symm, HB3.out⟩
end Go.Proofs.Ytjdbfiiaadphhaa
