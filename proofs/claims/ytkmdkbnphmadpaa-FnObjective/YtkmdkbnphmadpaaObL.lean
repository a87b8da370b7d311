/- The law of promise 20: the objective is linear. -/
import Derived.Test.YtkmdkbnphmadpaaDrO
import Derived.Deep.RegionHeld3
namespace Go.Proofs.Ytkmdkbnphmadpaa
open Go.ChangeShapes Go.WideShapes Go.ChangeAt Go.RowKit
set_option linter.unusedVariables false
set_option linter.unusedSimpArgs false

theorem linS_set (o x : List Int) (i : Nat) (u : Int) (hi : i < x.length) : ∀ n, linS o (x.set i u) n = linS o x n + if i < n then o[i]?.getD 0 * (u - x[i]?.getD 0) else 0
  | 0 => by simp [linS]
  | n + 1 => by
    rw [linS, linS, linS_set o x i u hi n]
    by_cases e : i = n
    · subst e
      rw [List.getElem?_set_self hi, if_neg (by omega), if_pos (by omega)]
      simp only [Option.getD_some]
      rw [Int.mul_sub]
      omega
    · rw [List.getElem?_set_ne e]
      by_cases h : i < n
      · rw [if_pos h, if_pos (by omega)]; omega
      · rw [if_neg h, if_neg (by omega)]; omega
theorem objL_step {o x : List Int} {i : Nat} (hi : i < x.length) (hl : o.length = x.length) (h4 : x.length ≤ 4) (ho : allB o (-9) 9 = true) (hx : allB x 0 5 = true) (h5 : x[i]?.getD 0 < 5) : objL o (x.set i (x[i]?.getD 0 + 1)) = objL o x + o[i]?.getD 0 := by
  have hx' : allB (x.set i (x[i]?.getD 0 + 1)) 0 5 = true := allB_true (fun j hj => by
    rw [List.length_set] at hj
    have hs := small_of hx
    by_cases e : i = j
    · subst e
      rw [List.getElem?_set_self hi]
      have := hs i hi
      exact wiB_true (by simp; omega) (by simp; omega)
    · rw [List.getElem?_set_ne e]
      exact wiB_true (hs j hj).1 (hs j hj).2)
  unfold objL
  rw [if_pos ⟨by rw [List.length_set]; exact hl, by rw [List.length_set]; exact h4, ho, hx'⟩, if_pos ⟨hl, h4, ho, hx⟩, List.length_set, linS_set o x i _ hi, if_pos hi]
  rw [show x[i]?.getD 0 + 1 - x[i]?.getD 0 = 1 by omega, Int.mul_one]

set_option maxRecDepth 100000 in
set_option maxHeartbeats 8000000 in
theorem law_obj (a : Option Addr) (len cap : Nat) (w : World) (h : CodeOk w.heap.size w a len cap) :
    Calls Try.prog 11 #[.slice a len cap] w fun e w' => e = .returned (.bool true) ∧ Below w.heap.size w w' := by
  have hl0 := h.1
  have hm0 := h.2.1
  unfold maxLen at hm0
  have HK := Lib.hid h
  clear h
  by_cases hbig : 1048576 < len
  · go_enter Try.func11, Try.ntmps11
    go_wp2
    go_ret
    exact ⟨rfl, Below.refl _ _⟩
  go_enter Try.func11, Try.ntmps11
  go_wp2_with fail
  refine (drawObj_any a len cap w HK.out).mono ?_
  rintro e w1 ⟨ov, xv, o, x, rfl, ro, rx, lo, lx, b1⟩
  obtain ⟨oa, oc, eo, -⟩ := id ro
  obtain ⟨xa, xc, ex, -⟩ := id rx
  subst eo ex
  have HRO := Lib.hid ro
  have HRX := Lib.hid rx
  have HB1 := Lib.hid b1
  have hoc := (rdInts_cap ro).2
  have hxc := (rdInts_cap rx).2
  clear ro rx b1
  go_wp2_with fail
  refine (iObj_any _ _ o x w1 HRO.out HRX.out).mono ?_
  rintro e w2 ⟨rfl, b2⟩
  have HRO2 := Lib.hid (HRO.out.below b2)
  have HRX2 := Lib.hid (HRX.out.below b2)
  have HB2 := Lib.hid (HB1.out.trans (b2.mono HB1.out.size))
  clear b2 HRO HRX HB1
  go_wp2_with fail
  refine (sObj_any _ _ o x w2 HRO2.out HRX2.out).mono ?_
  rintro e w3 ⟨rfl, b3⟩
  have HRO3 := Lib.hid (HRO2.out.below b3)
  have HRX3 := Lib.hid (HRX2.out.below b3)
  have HB3 := Lib.hid (HB2.out.trans (b3.mono HB2.out.size))
  clear b3 HRO2 HRX2 HB2
  obtain ⟨v, hv⟩ : ∃ v, v = objL o x := ⟨_, rfl⟩
  rw [← hv]
  have HV := Lib.hid hv
  clear hv
  have hvv : (v != v) = false := by simp
  have hve : (v == v) = true := by simp
  obtain ⟨no, hno⟩ : ∃ no, no = o.length := ⟨_, rfl⟩
  obtain ⟨nx, hnx⟩ : ∃ nx, nx = x.length := ⟨_, rfl⟩
  rw [← hno] at HRO3 hoc lo ⊢
  rw [← hnx] at HRX3 hxc lx ⊢
  have HNO := Lib.hid hno
  have HNX := Lib.hid hnx
  clear hno hnx
  cases hlen : ((no : Int) != (nx : Int))
  case true =>
    go_wp2_with (go_at_call 42; refine (sObj_any _ _ o x _ HRO3.out HRX3.out).mono ?_; rintro e w4 ⟨rfl, b4⟩; have HB4 := Lib.hid (HB3.out.trans (b4.mono HB3.out.size)); rw [← HV.out]; clear b4)
    go_ret
    exact ⟨ret_bool (by simp), HB4.out⟩
  cases hz : ((nx : Int) == 0)
  case true =>
    go_wp2_with (go_at_call 42; refine (sObj_any _ _ o x _ HRO3.out HRX3.out).mono ?_; rintro e w4 ⟨rfl, b4⟩; have HB4 := Lib.hid (HB3.out.trans (b4.mono HB3.out.size)); rw [← HV.out]; clear b4)
    go_ret
    exact ⟨ret_bool (by simp), HB4.out⟩
  by_cases h4 : (nx : Int) > 4
  · go_wp2_with (go_at_call 42; refine (sObj_any _ _ o x _ HRO3.out HRX3.out).mono ?_; rintro e w4 ⟨rfl, b4⟩; have HB4 := Lib.hid (HB3.out.trans (b4.mono HB3.out.size)); rw [← HV.out]; clear b4)
    go_ret
    exact ⟨ret_bool (by simp), HB4.out⟩
  have hnn : no = nx := by have h0 : (no : Int) = (nx : Int) := by simpa using hlen
                           omega
  subst hnn
  clear hve
  go_wp2
  clear hlen hz hvv
  obtain ⟨i0, hi, hz0, hz1, hz2⟩ := info_parts Try.info3
  go_loop [6] (fun t => ∃ j : Nat, j ≤ no ∧ t = .int .i64 j ∧ Hid (∀ q, q < j → wiB (o[q]?.getD 0) (-9) 9 = true ∧ wiB (x[q]?.getD 0) 0 5 = true)) (fun t => no - (intOf t).toNat)
  case atStart => exact ⟨0, Nat.zero_le _, rfl, Lib.hid (fun q hq => by omega)⟩
  case round =>
    obtain ⟨j, hj, rfl, HE⟩ := hrel
    by_cases hlt : j < no
    · obtain ⟨b1, o1, rfl, q1⟩ := rdInts_at HRO3.out hlt
      obtain ⟨b2, o2, rfl, q2⟩ := rdInts_at HRX3.out hlt
      obtain ⟨oi, hoi⟩ : ∃ oi, oi = o[j]?.getD 0 := ⟨_, rfl⟩
      obtain ⟨xi, hxi⟩ : ∃ xi, xi = x[j]?.getD 0 := ⟨_, rfl⟩
      rw [← hoi] at q1
      rw [← hxi] at q2
      have HOI := Lib.hid hoi
      have HXI := Lib.hid hxi
      clear hoi hxi
      by_cases hgood : (-9 ≤ oi ∧ oi ≤ 9) ∧ (0 ≤ xi ∧ xi ≤ 5)
      · obtain ⟨⟨g1, g2⟩, g3, g4⟩ := hgood
        have HW : Hid (wiB (o[j]?.getD 0) (-9) 9 = true ∧ wiB (x[j]?.getD 0) 0 5 = true) := Lib.hid ⟨by rw [← HOI.out]; exact wiB_true g1 g2, by rw [← HXI.out]; exact wiB_true g3 g4⟩
        go_wp2
        go_round
        case rel => exact ⟨j + 1, by omega, by go_num, Lib.hid (fun q hq => by by_cases e : q = j; (· subst e; exact HW.out); (· exact HE.out q (by omega)))⟩
        case measure => simp [intOf]; omega
      · have HV0 : Hid (v = 0) := Lib.hid (by
          rw [HV.out]
          unfold objL
          rw [if_neg]
          rintro ⟨_, _, e1, e2⟩
          have s1 := small_of e1 j (by have := HNO.out; omega)
          have s2 := small_of e2 j (by have := HNX.out; omega)
          rw [← HOI.out] at s1
          rw [← HXI.out] at s2
          exact hgood ⟨s1, s2⟩)
        have hv0 : (v == 0) = true := by rw [HV0.out]; rfl
        by_cases g1 : oi < -9
        · go_wp2
          go_ret
          exact ⟨rfl, HB3.out⟩
        by_cases g2 : oi > 9
        · go_wp2
          go_ret
          exact ⟨rfl, HB3.out⟩
        by_cases g3 : xi < 0
        · go_wp2
          go_ret
          exact ⟨rfl, HB3.out⟩
        have g4 : xi > 5 := by omega
        go_wp2
        go_ret
        exact ⟨rfl, HB3.out⟩
    · obtain rfl : no = j := by omega
      have HAO := Lib.hid (allB_true (xs := o) (lo := -9) (hi := 9) (fun q hq => (HE.out q (by have := HNO.out; omega)).1))
      have HAX := Lib.hid (allB_true (xs := x) (lo := 0) (hi := 5) (fun q hq => (HE.out q (by have := HNX.out; omega)).2))
      clear HE
      go_wp2
      go_loopw [7] (fun t wr => ∃ j : Nat, j ≤ no ∧ t = .int .i64 j ∧ Hid (Below w3.heap.size w3 wr)) (fun t _ => no - (intOf t).toNat)
      case atStart => exact ⟨0, Nat.zero_le _, rfl, Lib.hid (Below.refl _ _)⟩
      case round =>
        obtain ⟨j, hj, rfl, HBE⟩ := hrel
        by_cases hlt : j < no
        · obtain ⟨b1, o1, rfl, q1⟩ := rdInts_at (HRO3.out.below HBE.out) hlt
          have HRXE := Lib.hid (HRX3.out.below HBE.out)
          obtain ⟨b2, o2, rfl, q2⟩ := rdInts_at HRXE.out hlt
          obtain ⟨oi, hoi⟩ : ∃ oi, oi = o[j]?.getD 0 := ⟨_, rfl⟩
          obtain ⟨xi, hxi⟩ : ∃ xi, xi = x[j]?.getD 0 := ⟨_, rfl⟩
          rw [← hoi] at q1
          rw [← hxi] at q2
          have HOI := Lib.hid hoi
          have HXI := Lib.hid hxi
          clear hoi hxi
          have so := small_of HAO.out j (by have := HNO.out; omega)
          have sx := small_of HAX.out j (by have := HNX.out; omega)
          rw [← HOI.out] at so
          rw [← HXI.out] at sx
          obtain ⟨so1, so2⟩ := so
          obtain ⟨sx1, sx2⟩ := sx
          by_cases h5 : xi < 5
          · have hmade := ownsRow_made wr 3
            have HCE : Hid (∀ (q : Nat) (u : Value), (x.map (Value.int .i64))[q]? = some u → (wr.alloc (.cells #[] 3)).cell? ((⟨b2, o2, none⟩ : Addr).add q) = some u) := Lib.hid (fun q u hu => by
              have hq : q < x.length := by have := (List.getElem?_eq_some_iff.1 hu).1; simpa using this
              have hq' : q < no := by have := HNX.out; omega
              obtain ⟨b3, o3, e3, c3⟩ := rdInts_at HRXE.out hq'
              injection e3 with e3
              injection e3 with e3 e4
              subst e3 e4
              rw [addr_add, cell_same (Below.heap_alloc _ _ _ (World.block_lt_of_cell? wr _ c3)), c3]
              rw [List.getElem?_map, List.getElem?_eq_getElem hq] at hu
              rw [List.getElem?_eq_getElem hq]
              simpa using hu)
            have HON : Hid (∀ u ∈ x.map (Value.int .i64), u.oneCell' = true) := Lib.hid (fun u hu => by obtain ⟨z, _, rfl⟩ := List.mem_map.1 hu; rfl)
            have HLN : Hid ((x.map (Value.int .i64)).length = no * 1) := Lib.hid (by rw [List.length_map, HNX.out]; omega)
            have HST : Hid (objL o (x.set j (xi + 1)) = v + oi) := Lib.hid (by rw [HV.out, HOI.out, HXI.out]; exact objL_step (by have := HNX.out; omega) (by rw [← HNO.out, HNX.out]) (by have := HNX.out; omega) HAO.out HAX.out (by rw [← HXI.out]; exact h5))
            have hvb : -1000 ≤ v ∧ v ≤ 1000 := by
              rw [HV.out]
              unfold objL
              split
              · rename_i hh
                have := linS_le (small_of hh.2.2.1) (small_of hh.2.2.2) hh.1 x.length (Nat.le_refl _)
                have := hh.2.1
                omega
              · omega
            obtain ⟨hv1, hv2⟩ := hvb
            go_wp2_with (at_builtin; refine wpList_append_own _ rfl _ _ 22 rfl wr.heap.size 3 i0 (.int .i64 0) 1 8 Try.underlying22 hi hz0 hz1 hz2 rfl (by decide) _ 0 [] rfl hmade ⟨b2, o2, none⟩ no xc (x.map (Value.int .i64)) rfl HLN.out HCE.out HON.out (by unfold maxLen; omega) (by omega) (by simp) ?_; intro v' w6 hown hgrow _; have hown2 : w6.ownsRow wr.heap.size 3 1 v' x.length (x.map (Value.int .i64)) := (by rw [← HNX.out]; simpa using hown); obtain ⟨gy, cy, ey, hgy, hxt⟩ := xt_of_own hown2 (by have := HNX.out; omega); rw [← HNX.out] at ey; subst ey; have y1 := hxt.at (i := j) (by have := HNX.out; omega); rw [← HXI.out] at y1; have y2 := hxt.unfrozen j; have HXT := Lib.hid hxt; have HGY := Lib.hid hgy; have hcy := (rdInts_cap hxt.rd).2; rw [← HNX.out] at hcy; have HGR := Lib.hid hgrow; clear hown hown2 hxt hgy hgrow)
            have hb6 : Below wr.heap.size wr w6 := ((Below.refl _ wr).alloc (Nat.le_refl _) _).grown HGR.out (by simp) (fun q e => by injection (show some wr.heap.size = some q from e) with e; omega)
            obtain ⟨W7, hW7⟩ : ∃ W7, w6.setCell ⟨gy, j, none⟩ (.int .i64 (xi + 1)) = W7 := ⟨_, rfl⟩
            have hx7 : XT gy cy (x.set j (xi + 1)) W7 := by rw [← hW7]; exact HXT.out.set (by have := HNX.out; omega) _
            have hb7 : Below wr.heap.size wr W7 := by rw [← hW7]; exact hb6.setCell (by show _ ≤ gy; exact HGY.out) _
            have HB7 := Lib.hid (HBE.out.trans (hb7.mono HBE.out.size))
            have z1 : W7.cell? ⟨b1, o1 + j, none⟩ = some (.int .i64 oi) := (hb7.cell (World.block_lt_of_cell? wr _ q1)).trans q1
            have hry : RdInts W7.drew (.slice (some ⟨gy, 0, none⟩) no cy) (x.set j (xi + 1)) := by
              have := hx7.rd
              rw [List.length_set, ← HNX.out] at this
              exact this
            have HC : Hid (Calls Try.prog 43 #[.slice (some ⟨b1, o1, none⟩) no oc, .slice (some ⟨gy, 0, none⟩) no cy] W7.drew (fun e Y => e = .returned (.int .i64 (v + oi)) ∧ Below w3.heap.size w3 Y ∧ Y.cell? ⟨b1, o1 + j, none⟩ = some (.int .i64 oi))) := by
              refine Lib.hid ((iObj_any _ _ o (x.set j (xi + 1)) W7.drew (HRO3.out.below HB7.out.drew) hry).mono ?_)
              rintro e Y ⟨rfl, bY⟩
              rw [HST.out]
              exact ⟨rfl, HB7.out.drew.trans (bY.mono HB7.out.size), (bY.cell (World.block_lt_of_cell? W7 _ z1)).trans z1⟩
            have HW7 := Lib.hid hW7
            have hne : ((v + oi) != IntKind.i64.wrap (v + oi)) = false := by rw [IntWalk.i64_left, IntWalk.wrap64_in _ (by omega)]; simp
            clear hW7 hx7 hb7 hb6 hry HXT HGR HCE HON HLN hmade y1 y2 q1 q2
            rw [HW7.out]
            go_region_held3 (fun w' => w'.cell? ⟨b1, o1 + j, none⟩ = some (.int .i64 oi)) (first | go_keep | exact u1 | exact z1) ((go_at_call 43; refine HC.out.mono ?_; rintro e Y ⟨rfl, bY, u1⟩))
            go_wp2
            go_roundw
            case rel => exact ⟨j + 1, by omega, by go_num, Lib.hid bY⟩
            case measure => simp [intOf]; omega
          · go_wp2
            go_roundw
            case rel => exact ⟨j + 1, by omega, by go_num, HBE⟩
            case measure => simp [intOf]; omega
        · obtain rfl : no = j := by omega
          go_wp2
          go_ret
          exact ⟨rfl, HB3.out.trans (HBE.out.mono HB3.out.size)⟩
end Go.Proofs.Ytkmdkbnphmadpaa
