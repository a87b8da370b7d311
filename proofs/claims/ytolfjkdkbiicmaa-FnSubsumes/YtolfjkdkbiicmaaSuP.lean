/- The law of promise 31: subsumption is containment. -/
import Derived.Test.YtolfjkdkbiicmaaChP
import Derived.Test.YtolfjkdkbiicmaaLwL
namespace Go.Proofs.Ytolfjkdkbiicmaa
open Go.ChangeShapes Go.WideShapes Go.ChangeAt Go.RowKit Go.Deep Go.Shelf
set_option linter.unusedVariables false
set_option linter.unusedSimpArgs false

/-- A number of variables and two clauses that were drawn. -/
def SuDrawn (w : World) (e : Ending) (w' : World) : Prop := ∃ (n : Nat) (av bv : Value) (la lb : List Lit), e = .returned (.tuple #[.int .i64 n, av, bv]) ∧ 1 ≤ n ∧ n ≤ 4 ∧ RdLits w' av la ∧ RdLits w' bv lb ∧ la.length ≤ 4 ∧ lb.length ≤ 8 ∧ Below w.heap.size w w'

set_option maxRecDepth 100000 in
set_option maxHeartbeats 8000000 in
theorem drawSu_any (a : Option Addr) (len cap : Nat) (w : World) (h : CodeOk w.heap.size w a len cap) :
    Calls Try.prog 35 #[.slice a len cap] w (SuDrawn w) := by
  go_enter Try.func35, Try.ntmps35
  go_wp2_with fail
  refine (newReader_any w.heap.size a len cap w (Nat.le_refl _) h).mono ?_
  rintro e w1 ⟨rfl, hr, hb, hz⟩
  have HB1 := Lib.hid hb
  have HR1 := Lib.hid hr
  have HZ1 := Lib.hid hz
  clear hz h hr hb
  go_wp2_with fail
  refine (pick_dn w.heap.size w.heap.size 0 4 w1 HR1.out (by omega) (by omega) (by omega)).mono ?_
  rintro e w2 ⟨x, rfl, hx0, hx1, r2, d2⟩
  obtain ⟨k, rfl⟩ := Int.eq_ofNat_of_zero_le hx0
  have hk4 : k < 4 := by omega
  have HR2 := Lib.hid r2
  have HS2 := Lib.hid (show w.heap.size + 1 ≤ w2.heap.size by have := d2.size; have := HZ1.out; omega)
  have HB2 := Lib.hid (HB1.out.trans (d2.below (Nat.le_refl _) HB1.out.size))
  have hk1 : (1 : Int) + (k : Int) = ((k + 1 : Nat) : Int) := by omega
  have HK1 := Lib.hid hk1
  clear r2 d2 hx0 hx1 HR1 hk1
  go_wp2_with fail
  rw [HK1.out]
  obtain ⟨n, hn⟩ : ∃ n, n = k + 1 := ⟨_, rfl⟩
  rw [← hn]
  have hn1 : 1 ≤ n := by omega
  have hn4 : n ≤ 4 := by omega
  clear HK1 hn hk4
  refine (anyClause_any w.heap.size w.heap.size n (0 + 1) w2 HR2.out (by omega) (by omega) (by omega)).mono ?_
  rintro e w3 ⟨av, la, p3, rfl, o3, hl3, hp3, hp3', r3, d3⟩
  have HR3 := Lib.hid r3
  have HO3 := Lib.hid o3
  have HL3 := Lib.hid hl3
  have HS3 := Lib.hid (show w2.heap.size ≤ w3.heap.size from d3.size)
  have HB3 := Lib.hid (HB2.out.trans (d3.below (Nat.le_refl _) HB2.out.size))
  clear r3 d3 o3 hl3 HR2
  go_wp2_with fail
  refine (anyClause_any w.heap.size w.heap.size n p3 w3 HR3.out (by omega) (by omega) (by omega)).mono ?_
  rintro e w4 ⟨bv, lb, p4, rfl, o4, hl4, hp4, hp4', r4, d4⟩
  have HR4 := Lib.hid r4
  have HO4 := Lib.hid (HO3.out.dn (by have := HS2.out; omega) d4)
  have HV4 := Lib.hid o4
  have HL4 := Lib.hid hl4
  have HS4 := Lib.hid (show w3.heap.size ≤ w4.heap.size from d4.size)
  have HB4 := Lib.hid (HB3.out.trans (d4.below (Nat.le_refl _) HB3.out.size))
  clear r4 d4 o4 hl4 HR3 HO3
  go_wp2_with fail
  refine (pick_dn w.heap.size w.heap.size p4 2 w4 HR4.out (by omega) (by omega) (by omega)).mono ?_
  rintro e w5 ⟨x, rfl, hx0, hx1, r5, d5⟩
  have HR5 := Lib.hid r5
  have HO5 := Lib.hid (HO4.out.dn (by have := HS2.out; omega) d5)
  have HV5 := Lib.hid (HV4.out.dn (by have := HS2.out; have := HS3.out; omega) d5)
  have HS5 := Lib.hid (show w4.heap.size ≤ w5.heap.size from d5.size)
  have HB5 := Lib.hid (HB4.out.trans (d5.below (Nat.le_refl _) HB4.out.size))
  clear r5 d5 hx0 hx1 HR4 HO4 HV4
  cases hx : (x == 0)
  · obtain ⟨_, g, c, evo, _⟩ := HO5.out
    obtain ⟨_, g', c', evo', _⟩ := HV5.out
    rw [evo] at HO5 ⊢
    rw [evo'] at HV5 ⊢
    clear evo evo'
    go_wp2
    go_ret3
    exact ⟨n, _, _, la, lb, rfl, hn1, hn4, HO5.out.rd, HV5.out.rd, HL3.out, by have := HL4.out; omega, HB5.out⟩
  · go_wp2_with fail
    refine (randomClause_any w.heap.size w.heap.size n (p4 + 1) w5 HR5.out (by omega) (by omega) (by omega)).mono ?_
    rintro e w6 ⟨rv, lr, p6, rfl, o6, hl6, hp6, hp6', r6, d6⟩
    have HO6 := Lib.hid (HO5.out.dn (by have := HS2.out; omega) d6)
    have HV6 := Lib.hid o6
    have HL6 := Lib.hid hl6
    have HB6 := Lib.hid (HB5.out.trans (d6.below (Nat.le_refl _) HB5.out.size))
    clear r6 d6 o6 hl6 HR5 HO5 HV5
    go_wp2_with fail
    refine (smerge_gen _ _ la lr w6 HO6.out.rd HV6.out.rd (by have := HL3.out; omega) (by have := HL6.out; omega)).mono ?_
    rintro e w7 ⟨v7, rfl, o7, b7⟩
    have HO7 := Lib.hid (HO6.out.below b7)
    have HV7 := Lib.hid o7
    have HB7 := Lib.hid (HB6.out.trans (b7.mono HB6.out.size))
    have HL7 : Hid ((mrgL la lr).length ≤ 8) := Lib.hid (by have := mrgL_leA lr la; have := HL3.out; have := HL6.out; omega)
    clear o7 b7 HO6 HV6
    obtain ⟨_, g, c, evo, _⟩ := HO7.out
    obtain ⟨_, g', c', evo', _⟩ := HV7.out
    rw [evo] at HO7 ⊢
    rw [evo'] at HV7 ⊢
    clear evo evo'
    go_wp2
    go_ret3
    exact ⟨n, _, _, la, _, rfl, hn1, hn4, HO7.out.rd, HV7.out.rd, HL3.out, HL7.out, HB7.out⟩

theorem all_step {ls lb : List Lit} {k : Nat} {l : Lit} (h : ls[k]? = some l) : (ls.take (k + 1)).all (fun l => decide (l ∈ lb)) = ((ls.take k).all (fun l => decide (l ∈ lb)) && decide (l ∈ lb)) := by
  rw [List.take_add_one, h, List.all_append]
  simp

set_option maxRecDepth 100000 in
set_option maxHeartbeats 16000000 in
theorem law_fsu (a a' : Option Addr) (len cap len' cap' : Nat) (w : World) (h : CodeOk w.heap.size w a len cap) (h' : CodeOk w.heap.size w a' len' cap') :
    Calls Try.prog 9 #[.slice a len cap, .slice a' len' cap'] w fun e w' => e = .returned (.bool true) ∧ Below w.heap.size w w' := by
  have hl0 := h.1
  have hm0 := h.2.1
  have hl1 := h'.1
  have hm1 := h'.2.1
  unfold maxLen at hm0 hm1
  have HK := Lib.hid h
  clear h h'
  by_cases hbig : 1048576 < len
  · go_enter Try.func9, Try.ntmps9
    go_wp2
    go_ret
    exact ⟨rfl, Below.refl _ _⟩
  by_cases hbig' : 1048576 < len'
  · go_enter Try.func9, Try.ntmps9
    go_wp2
    go_ret
    exact ⟨rfl, Below.refl _ _⟩
  obtain ⟨i0, hi, hz0, hz1, hz2⟩ := info_parts Try.info3
  go_enter Try.func9, Try.ntmps9
  go_wp2_with fail
  refine (drawSu_any a len cap w HK.out).mono ?_
  rintro e w1 ⟨n, av, bv, la, lb, rfl, hn1, hn4, ra, rb, hla, hlb, b1⟩
  obtain ⟨aa, ca, ea, hca, hma, -⟩ := id ra
  obtain ⟨ab, cb, eb, hcb, hmb, -⟩ := id rb
  subst ea eb
  obtain ⟨m, hm⟩ : ∃ m, m = la.length := ⟨_, rfl⟩
  obtain ⟨q, hq⟩ : ∃ q, q = lb.length := ⟨_, rfl⟩
  rw [← hm] at ra hla hca ⊢
  rw [← hq] at rb hlb hcb ⊢
  unfold maxLen at hma hmb
  have HM := Lib.hid hm
  have HA := Lib.hid ra
  have HQ := Lib.hid rb
  have HB := Lib.hid b1
  have HI : ∀ W, RdLits W (.slice aa m ca) la → RdLits W (.slice ab q cb) lb → Calls Try.prog 36 #[.int .i64 n, .slice aa m ca, .slice ab q cb] W (BoolPost (suB n la lb) W) := fun W h1 h2 => iSubsumes_any n _ _ la lb W h1 h2
  have HS : ∀ W, RdLits W (.slice aa m ca) la → RdLits W (.slice ab q cb) lb → Calls Try.prog 37 #[.int .i64 n, .slice aa m ca, .slice ab q cb] W (BoolPost (suB n la lb) W) := fun W h1 h2 => sSubsumes_any n _ _ la lb W h1 h2
  obtain ⟨bs, hbs⟩ : ∃ bs, bs = suB n la lb := ⟨_, rfl⟩
  rw [← hbs] at HI HS
  have HBS := Lib.hid hbs
  have HI := Lib.hid HI
  have HS := Lib.hid HS
  clear ra rb b1 hm hq hbs
  go_wp2_with fail
  refine (HI.out w1 HA.out HQ.out).mono ?_
  rintro e w2 ⟨rfl, b2⟩
  have HA2 := Lib.hid (HA.out.below b2)
  have HQ2 := Lib.hid (HQ.out.below b2)
  have HB2 := Lib.hid (HB.out.trans (b2.mono HB.out.size))
  clear b2 HA HQ HB
  go_wp2_with fail
  refine (HS.out w2 HA2.out HQ2.out).mono ?_
  rintro e w3 ⟨rfl, b3⟩
  have HA3 := Lib.hid (HA2.out.below b3)
  have HQ3 := Lib.hid (HQ2.out.below b3)
  have HB3 := Lib.hid (HB2.out.trans (b3.mono HB2.out.size))
  have hne : (bs != bs) = false := by simp
  have heq : (bs == bs) = true := by simp
  clear b3 HA2 HQ2 HB2
  go_wp2_with fail
  refine (iValidClause_any _ la n w3 HA3.out).mono ?_
  rintro e w4 ⟨rfl, b4⟩
  have HA4 := Lib.hid (HA3.out.below b4)
  have HQ4 := Lib.hid (HQ3.out.below b4)
  have HB4 := Lib.hid (HB3.out.trans (b4.mono HB3.out.size))
  clear b4 HA3 HQ3 HB3
  cases hva : vclB la n
  · go_wp2_with fail
    refine (HS.out w4 HA4.out HQ4.out).mono ?_
    rintro e w5 ⟨rfl, b5⟩
    have HB5 := Lib.hid (HB4.out.trans (b5.mono HB4.out.size))
    clear b5 HA4 HQ4 HB4
    go_wp2
    go_ret
    exact ⟨rfl, HB5.out⟩
  go_wp2_with fail
  refine (iValidClause_any _ lb n w4 HQ4.out).mono ?_
  rintro e w5 ⟨rfl, b5⟩
  have HA5 := Lib.hid (HA4.out.below b5)
  have HQ5 := Lib.hid (HQ4.out.below b5)
  have HB5 := Lib.hid (HB4.out.trans (b5.mono HB4.out.size))
  clear b5 HA4 HQ4 HB4
  cases hvb : vclB lb n
  · go_wp2_with fail
    refine (HS.out w5 HA5.out HQ5.out).mono ?_
    rintro e w6 ⟨rfl, b6⟩
    have HB6 := Lib.hid (HB5.out.trans (b6.mono HB5.out.size))
    clear b6 HA5 HQ5 HB5
    go_wp2
    go_ret
    exact ⟨rfl, HB6.out⟩
  have HALL : Hid (bs = la.all (fun l => decide (l ∈ lb))) := Lib.hid (by rw [HBS.out]; unfold suB; rw [hva, hvb]; rfl)
  clear hva hvb
  go_wp2_with fail
  go_loopw [9, 10] (fun s i wr => ∃ k : Nat, k ≤ m ∧ i = .int .i64 k ∧ s = .bool ((la.take k).all (fun l => decide (l ∈ lb))) ∧ Hid (Below w5.heap.size w5 wr)) (fun _ i _ => m - (intOf i).toNat)
  case atStart => exact ⟨0, Nat.zero_le _, rfl, rfl, Lib.hid (Below.refl _ _)⟩
  case round =>
    obtain ⟨k, hk, rfl, rfl, HBW⟩ := hrel
    by_cases hlt : k < m
    · obtain ⟨b, off, l, rfl, hck, k0, k1, k2⟩ := rdLits_at (HA5.out.below HBW.out) hlt
      have HST := Lib.hid (all_step (lb := lb) hck)
      have HQW := Lib.hid (HQ5.out.below HBW.out)
      clear hck
      cases hh : (la.take k).all (fun l => decide (l ∈ lb))
      · rw [hh] at HST
        clear k0 k1 k2
        go_wp2
        go_roundw
        case rel => exact ⟨k + 1, by omega, by go_num, by rw [HST.out]; rfl, HBW⟩
        case measure => simp [intOf]; omega
      · rw [hh] at HST
        go_wp2_with fail
        refine (hasLit_any _ lb l wr HQW.out).mono ?_
        rintro e w6 ⟨rfl, b6⟩
        have HB6 := Lib.hid (HBW.out.trans (b6.mono HBW.out.size))
        obtain ⟨t, ht⟩ : ∃ t, t = decide (l ∈ lb) := ⟨_, rfl⟩
        rw [← ht] at HST ⊢
        clear b6 k0 k1 k2 HBW HQW ht
        go_wp2
        go_roundw
        case rel => exact ⟨k + 1, by omega, by go_num, by rw [HST.out]; rfl, HB6⟩
        case measure => simp [intOf]; omega
    · obtain rfl : m = k := by omega
      have HF : Hid ((la.take m).all (fun l => decide (l ∈ lb)) = bs) := Lib.hid (by rw [HALL.out, HM.out, List.take_length])
      rw [HF.out]
      have HA6 := Lib.hid (HA5.out.below HBW.out)
      have HQ6 := Lib.hid (HQ5.out.below HBW.out)
      have HB6 := Lib.hid (HB5.out.trans (HBW.out.mono HB5.out.size))
      have hmade : Hid ((wr.alloc (.cells #[] 3)).ownsRow wr.heap.size 3 1 (.slice (some ⟨wr.heap.size, 0, none⟩) 0 0) 0 []) := Lib.hid (ownsRow_made wr 3)
      have HB0 : Hid (Below wr.heap.size wr (wr.alloc (.cells #[] 3))) := Lib.hid ((Below.refl _ _).alloc (Nat.le_refl _) _)
      obtain ⟨W6, hW6⟩ : ∃ W6, W6 = wr := ⟨_, rfl⟩
      rw [← hW6] at HA6 HQ6 HB6 hmade HB0 ⊢
      clear hW6 HA5 HQ5 HB5 HBW
      go_wp2_with fail
      go_loopw [11, 12] (fun o i wr => ∃ (j : Nat) (xs : List Int), j ≤ n ∧ i = .int .i64 j ∧ Hid (xs.length = j) ∧ Hid (wr.ownsRow W6.heap.size 3 1 o xs.length (xs.map (Value.int .i64))) ∧ Hid (Below W6.heap.size W6 wr)) (fun _ i _ => n - (intOf i).toNat)
      case atStart => exact ⟨0, [], Nat.zero_le _, rfl, Lib.hid rfl, hmade, HB0⟩
      case round =>
        obtain ⟨j, xs, hj, rfl, HXL, HO, HBX⟩ := hrel
        by_cases hjn : j < n
        · have hown := HO.out
          have hsz := HBX.out.size
          have hxl : xs.length ≤ 1000 := by have := HXL.out; omega
          have hj0 : ¬ (j : Int) < 0 := by omega
          go_wp2_with (at_builtin; refine wpList_append_own _ rfl _ _ 23 rfl W6.heap.size 3 i0 (.int .i64 0) 1 8 Try.underlying23 hi hz0 hz1 hz2 rfl (by decide) _ _ _ rfl (hown.alloc _) ⟨wr.heap.size, 0, none⟩ 1 1 [.int .i64 _] rfl rfl (cell_one_new _ _ _) (by simp [Value.oneCell']) (by unfold maxLen; omega) (by omega) (by simp; omega) ?_; intro v' w7 hown' hgrow _)
          have hge : ∀ q, Value.ownBlock _ = some q → W6.heap.size ≤ q := fun q e => (hown.lt q e).1
          have HB7 := Lib.hid ((HBX.out.alloc HBX.out.size _).grown hgrow (by simp; omega) hge)
          have HO7 := Lib.hid hown'
          clear hown hown' hgrow hge hsz HO HBX
          go_wp2
          go_roundw
          case rel => exact ⟨j + 1, xs ++ [_], by omega, by go_num, Lib.hid (by simp [HXL.out]), Lib.hid (by rw [List.length_append, List.map_append]; exact HO7.out), HB7⟩
          case measure => simp [intOf]; omega
        · obtain rfl : j = n := by omega
          have HX7 : Hid (RdInts wr _ xs) := Lib.hid (rdInts_of_own HO.out)
          obtain ⟨xa, xc, exv, _⟩ := own_form HO.out
          rw [exv] at HX7 ⊢
          have HA7 := Lib.hid (HA6.out.below HBX.out)
          have HQ7 := Lib.hid (HQ6.out.below HBX.out)
          have HB7 := Lib.hid (HB6.out.trans (HBX.out.mono HB6.out.size))
          have HXL2 := Lib.hid HXL.out
          rw [HXL.out] at HX7 ⊢
          clear HA6 HQ6 HB6 HBX HO exv HXL
          cases hb : bs
          · subst hb
            go_wp2
            go_ret
            exact ⟨rfl, HB7.out⟩
          · subst hb
            go_wp2_with fail
            refine (iClauseHolds_any _ _ la xs wr HA7.out HX7.out).mono ?_
            rintro e w8 ⟨rfl, b8⟩
            have HQ8 := Lib.hid (HQ7.out.below b8)
            have HX8 := Lib.hid (HX7.out.below b8)
            have HB8 := Lib.hid (HB7.out.trans (b8.mono HB7.out.size))
            clear b8 HA7 HQ7 HX7 HB7
            cases hc1 : chB la xs
            · go_wp2
              go_ret
              exact ⟨rfl, HB8.out⟩
            · have HC2 : Hid (chB lb xs = true) := Lib.hid (sub_ch HBS.out.symm (by rw [HXL2.out]) hc1)
              clear hc1
              go_wp2_with fail
              refine (iClauseHolds_any _ _ lb xs w8 HQ8.out HX8.out).mono ?_
              rintro e w9 ⟨rfl, b9⟩
              have HB9 := Lib.hid (HB8.out.trans (b9.mono HB8.out.size))
              rw [HC2.out]
              clear b9 HQ8 HX8 HB8
              go_wp2
              go_ret
              exact ⟨rfl, HB9.out⟩
end Go.Proofs.Ytolfjkdkbiicmaa
