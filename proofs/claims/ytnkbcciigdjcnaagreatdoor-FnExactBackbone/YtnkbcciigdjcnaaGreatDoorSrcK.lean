/- Backbone of both packages. -/
import Derived.Test.YtnkbcciigdjcnaaGreatDoorSrcZ
namespace Go.Proofs.YtnkbcciigdjcnaaGreatDoor
open Go.ChangeShapes Go.WideShapes Go.ChangeAt Go.RowKit Go.Shelf
set_option linter.unusedVariables false
set_option linter.unusedSimpArgs false

/-- The values that occur in the rows, variable by variable. -/
def bbF (acc : List Int) (R : List (List Int)) : List Int := R.foldl (fun acc t => List.zipWith addB acc t) acc
theorem bbF_cons (acc x : List Int) (R : List (List Int)) : bbF acc (x :: R) = bbF (List.zipWith addB acc x) R := rfl
/-- What Backbone returns. -/
def bbM (m : Mod) : List Int := if vmB m then bbF (List.replicate m.doms.length 0) (solL m.cons m.doms) else []
theorem low1_in {d : Int} (h1 : 0 ≤ d) (h2 : d ≤ 63) (hc : cntD d = 1) : 0 ≤ (vL d 6).headD 0 ∧ (vL d 6).headD 0 ≤ 5 := by
  have hl := vL_cnt h1 h2
  rw [hc] at hl
  cases hv : vL d 6 with
  | nil => rw [hv] at hl; simp at hl
  | cons x xs =>
    have := vL_mem (show x ∈ vL d 6 by rw [hv]; simp)
    simp
    omega
theorem oneT_small {p x : List Int} (hs : Small p 0 63) (h : oneT p = some x) : Small x 0 5 := by
  unfold oneT at h
  split at h
  · rename_i hall
    obtain rfl := Option.some.inj h
    rw [small_mem]
    intro z hz
    obtain ⟨d, hd, rfl⟩ := List.mem_map.1 hz
    have := small_mem.1 hs d hd
    exact low1_in this.1 this.2 (of_decide_eq_true (List.all_eq_true.1 hall d hd))
  · cases h
theorem vis_small {cs : List Con} {n : Nat} : ∀ (k : Nat) (d p : List Int), OkD cs n d → p ∈ visF cs k d → p.length = n ∧ Small p 0 63
  | 0, d, p, _, h => by simp [visF] at h
  | k + 1, d, p, ho, h => by
    rw [visF] at h
    rcases List.mem_cons.1 h with rfl | h
    · exact ⟨(proL_ok ho).1.len, (proL_ok ho).1.small⟩
    · obtain ⟨d', hd', hp⟩ := List.mem_flatMap.1 h
      exact vis_small k d' p (kid_ok (proL_ok ho).1 hd').1 hp
theorem sol_small {cs : List Con} {n : Nat} {d x : List Int} (h : OkD cs n d) (hx : x ∈ solL cs d) : x.length = n ∧ Small x 0 5 := by
  obtain ⟨p, hp, ho⟩ := List.mem_filterMap.1 hx
  have hv := vis_small _ d p h hp
  refine ⟨?_, oneT_small hv.2 ho⟩
  unfold oneT at ho
  split at ho
  · obtain rfl := Option.some.inj ho; simp [hv.1]
  · cases ho
theorem bbF_ok : ∀ (R : List (List Int)) (acc : List Int), (∀ x ∈ R, x.length = acc.length ∧ Small x 0 5) → Small acc 0 63 → (bbF acc R).length = acc.length ∧ Small (bbF acc R) 0 63
  | [], acc, _, h => ⟨rfl, h⟩
  | x :: R, acc, hR, h => by
    have hx := hR x (by simp)
    have hl := zip_length (acc := acc) (t := x) hx.1
    have ih := bbF_ok R (List.zipWith addB acc x) (fun y hy => by rw [hl]; exact hR y (by simp [hy])) (zip_small hx.1 h hx.2)
    rw [bbF_cons]
    exact ⟨ih.1.trans hl, ih.2⟩
theorem small_zero (n : Nat) : Small (List.replicate n (0 : Int)) 0 63 := by rw [small_mem]; intro x hx; have := (List.mem_replicate.1 hx).2; omega
theorem bbM_le (m : Mod) : (bbM m).length ≤ 1048576 := by
  unfold bbM
  cases hv : vmB m
  · simp
  · have := (bbF_ok (solL m.cons m.doms) (List.replicate m.doms.length 0) (fun x hx => by have := sol_small (okD_mod hv) hx; simpa using this) (small_zero _)).1
    have := (doms_small' hv).2.1
    simp at *
    omega
/-- An element of a list of rows that one owns. -/
theorem ownRows_at {w : World} {B : Nat} {a : Option Addr} {c : Nat} {rows : List (List Int)} (h : OwnRows w B (.slice a rows.length c) rows) {i : Nat} {r : List Int} (hr : rows[i]? = some r) :
    ∃ g u, a = some ⟨g, 0, none⟩ ∧ w.cell? ⟨g, i, none⟩ = some u ∧ w.ownsRow B 3 1 u r.length (r.map (Value.int .i64)) := by
  obtain ⟨vals, h1, h2⟩ := h
  obtain ⟨u, hu, ho⟩ := h2 i r hr
  have hi := (List.getElem?_eq_some_iff.1 hr).1
  rcases h1.2 with ⟨e, h0⟩ | ⟨g, cap, cur, e, _, hg, _, _, _, ht⟩
  · omega
  · injection e with e1 _ _
    refine ⟨g, u, e1, ?_, ho⟩
    simp only [World.cell?, hg]
    rw [← ht, List.getElem?_take] at hu
    split at hu
    · simpa using hu
    · cases hu

set_option maxRecDepth 100000 in
set_option maxHeartbeats 8000000 in
theorem sBackbone_any (m : Mod) (v : Value) (w : World) (h : RdModel w v m) (hm : ModLe m 1048576) :
    Calls Tryz.prog 27 #[v] w (IntsPost (bbM m) w) := by
  obtain ⟨a1, a2, c1, c2, rfl, g1, g2⟩ := rdModel_slices h
  obtain ⟨W1, hW1⟩ : ∃ W1, w.alloc (.cells #[.slice a1 m.doms.length c1, .slice a2 m.cons.length c2] 31) = W1 := ⟨_, rfl⟩
  have B1 : Below w.heap.size w W1 := by rw [← hW1]; exact (Below.refl _ _).alloc (Nat.le_refl _) _
  have bP : Blk2 W1 w.heap.size 31 (.slice a1 m.doms.length c1) (.slice a2 m.cons.length c2) := by rw [← hW1]; exact Blk2.new w _ _ _
  have HM := Lib.hid (h.below B1)
  have HB1 := Lib.hid B1
  have HW := Lib.hid hW1
  have HP := Lib.hid bP
  have HLE := Lib.hid hm
  clear h g1 g2 hW1 B1 bP hm
  obtain ⟨p0, p1⟩ := HP.out.cell
  obtain ⟨i0, hi, hz0, hz1, hz2⟩ := info_parts Tryz.info3
  go_enter Tryz.func27, Tryz.ntmps27
  go_wp2_with fail
  rw [HW.out]
  refine (svm_any m _ W1 HM.out HLE.out).mono ?_
  rintro e w2 ⟨rfl, b2⟩
  have HB2 := Lib.hid (HB1.out.trans (b2.mono HB1.out.size))
  have HM2 := Lib.hid (HM.out.below b2)
  have HP2 := Lib.hid (HP.out.below b2)
  clear p0 p1 b2 HM HP HB1 HW
  obtain ⟨p0, p1⟩ := HP2.out.cell
  cases hv : vmB m
  · have HF : Hid (bbM m = []) := Lib.hid (by unfold bbM; rw [hv]; rfl)
    go_wp2
    go_ret
    exact ⟨_, rfl, by rw [HF.out]; exact World.ownsRow_nil _ _ _ _, HB2.out⟩
  obtain ⟨d1, d2, d3, d4⟩ := doms_small' hv
  have HF : Hid (bbM m = bbF (List.replicate m.doms.length 0) (solL m.cons m.doms)) := Lib.hid (by unfold bbM; rw [hv]; rfl)
  have HSO := Lib.hid (fun x (hx : x ∈ solL m.cons m.doms) => sol_small (okD_mod hv) hx)
  have HSR := Lib.hid (slvR_all hv)
  have hrb := slvR_le hv 4096
  have hnb := slvN_le hv 4096
  have HC := Lib.hid (fun (w3 : World) (hb : Below w2.heap.size w2 w3) => solve_any m _ 4096 4096 w3 (HM2.out.below hb) hv rfl (by omega) (by omega))
  obtain ⟨n, hn⟩ : ∃ n, n = m.doms.length := ⟨_, rfl⟩
  have HN := Lib.hid hn
  rw [← hn] at p0 d2 d3 HC
  clear hv d1 d4 hn
  go_wp2_with (at_make; refine wpList_make_full _ rfl _ _ 22 rfl w2.heap.size 3 i0 (.int .i64 0) 1 Tryz.underlying22 hi hz0 hz1 .i64 .i64 _ _ n rfl rfl rfl rfl (by rw [hz2]; omega) (by unfold maxLen; omega) (Nat.le_refl _) ?_; intro w3 hown hgrow; rw [madeInts] at hown; have HO3 := Lib.hid hown; have HB3 := Lib.hid (below_of_grown hgrow); obtain ⟨k0, k1⟩ := (HP2.out.below HB3.out).cell; rw [← HN.out] at k0; clear hown hgrow p0 p1)
  refine (HC.out w3 HB3.out).mono ?_
  rintro e w4 ⟨fa, fc, rfl, hrows, b4⟩
  rw [HSR.out] at hrb hrows ⊢
  obtain ⟨sols, hsols⟩ : ∃ sols, sols = solL m.cons m.doms := ⟨_, rfl⟩
  rw [← hsols] at HF HSO hrows hrb ⊢
  obtain ⟨T, hT⟩ : ∃ T, T = sols.length := ⟨_, rfl⟩
  have hfc := ownRows_slice hrows
  have HRW := Lib.hid (hrows.mono (B' := w2.heap.size + 1) (HO3.out.lt w2.heap.size rfl).2)
  rw [← hT] at hrb HRW ⊢
  have HTT := Lib.hid hT
  have HB4 := Lib.hid b4
  have HO4 := Lib.hid (own_mono (own_below HO3.out b4) HB2.out.size)
  have HBW : Hid (Below w.heap.size w w4) := Lib.hid ((HB2.out.trans (HB3.out.mono HB2.out.size)).trans (b4.mono (Nat.le_trans HB2.out.size HB3.out.size)))
  have hfc2 : T ≤ fc ∧ fc ≤ 9223372036854775807 := by
    obtain ⟨a, c, e, q1, q2⟩ := hfc
    injection e with _ _ e
    subst e
    omega
  have HZ0 : Hid (w4.ownsRow w.heap.size 3 1 (.slice (some ⟨w2.heap.size, 0, none⟩) n n) n ((bbF (List.replicate n 0) (sols.take 0)).map (Value.int .i64))) := Lib.hid HO4.out
  obtain ⟨g, hg⟩ : ∃ g, g = w2.heap.size := ⟨_, rfl⟩
  rw [← hg] at HZ0 HRW ⊢
  clear hrows b4 hT hsols k0 k1 hfc HO3 HB3 HO4 HC hnb hg
  go_wp2
  go_loopw [6] (fun i wr => ∃ k : Nat, k ≤ T ∧ i = .int .i64 k ∧ Hid (wr.ownsRow w.heap.size 3 1 (.slice (some ⟨g, 0, none⟩) n n) n ((bbF (List.replicate n 0) (sols.take k)).map (Value.int .i64))) ∧ Hid (OwnRows wr (g + 1) (.slice fa T fc) sols) ∧ Hid (Below w.heap.size w wr)) (fun i _ => T - (intOf i).toNat)
  case atStart => exact ⟨0, Nat.zero_le _, rfl, HZ0, HRW, HBW⟩
  case round =>
    obtain ⟨k, hk, rfl, HZ, HR, HBE⟩ := hrel
    by_cases hlt : k < T
    · have hkl : k < sols.length := by have := HTT.out; omega
      obtain ⟨x, hx⟩ : ∃ x, sols[k]? = some x := ⟨_, List.getElem?_eq_getElem hkl⟩
      have hxs := HSO.out x (List.mem_of_getElem? hx)
      have hbok := bbF_ok (sols.take k) (List.replicate n 0) (fun y hy => by have := HSO.out y (List.mem_of_mem_take hy); rw [List.length_replicate, HN.out]; exact this) (small_zero _)
      have hbs : bbF (List.replicate n 0) (sols.take (k + 1)) = List.zipWith addB (bbF (List.replicate n 0) (sols.take k)) x := by
        unfold bbF
        rw [List.take_add_one, hx, List.foldl_append]
        rfl
      obtain ⟨acc, hacc⟩ : ∃ acc, acc = bbF (List.replicate n 0) (sols.take k) := ⟨_, rfl⟩
      rw [← hacc] at HZ hbok hbs
      rw [List.length_replicate] at hbok
      have HXL := Lib.hid (show x.length = n by rw [hxs.1, HN.out])
      have HXS := Lib.hid hxs.2
      have HAL := Lib.hid hbok.1
      have HAS := Lib.hid hbok.2
      have HBS := Lib.hid hbs
      have HX := Lib.hid hx
      clear hxs hbok hbs hx hacc hkl
      go_wp2
      go_loopw [7] (fun i wq => ∃ j : Nat, j ≤ n ∧ i = .int .i64 j ∧ Hid (wq.ownsRow w.heap.size 3 1 (.slice (some ⟨g, 0, none⟩) n n) n ((zipS acc x j).map (Value.int .i64))) ∧ Hid (OwnRows wq (g + 1) (.slice fa T fc) sols) ∧ Hid (Below w.heap.size w wq)) (fun i _ => n - (intOf i).toNat)
      case atStart => exact ⟨0, Nat.zero_le _, rfl, Lib.hid (by rw [zipS_zero]; exact HZ.out), HR, HBE⟩
      case round =>
        obtain ⟨j, hj, rfl, HZj, HRj, HBj⟩ := hrel
        by_cases hlt2 : j < n
        · obtain ⟨g2, u, rfl, hcu, hou⟩ := ownRows_at (by rw [← HTT.out]; exact HRj.out) HX.out
          obtain ⟨ga, ca, eu, -, -, hq1, hq2⟩ := own_form hou (by have := HXL.out; omega)
          rw [HXL.out] at eu hou hq1
          subst eu
          have x0 := own_int_at hou hlt2
          have z0 := own_int_at HZj.out hlt2
          rw [zipS_at (by rw [HXL.out, HAL.out]) (by rw [HAL.out]; exact hlt2)] at z0
          have zf := HZj.out.frozenAt j
          have hxv := HXS.out j (by rw [HXL.out]; exact hlt2)
          obtain ⟨z, hz⟩ : ∃ z : Nat, x[j]?.getD 0 = (z : Int) := ⟨(x[j]?.getD 0).toNat, by omega⟩
          have hz5 : z ≤ 5 := by omega
          have hdv := HAS.out j (by rw [HAL.out]; exact hlt2)
          obtain ⟨d, hd⟩ : ∃ d, d = acc[j]?.getD 0 := ⟨_, rfl⟩
          rw [hz] at x0
          rw [← hd] at z0 hdv
          have HZZ := Lib.hid hz
          have HD := Lib.hid hd
          clear hz hd hxv hou
          cases hh : hasB d z
          · have HE : Hid (zipS acc x (j + 1) = (zipS acc x j).set j (addB d z)) := Lib.hid (by rw [zipS_step (by rw [HXL.out, HAL.out]) (by rw [HAL.out]; exact hlt2), ← HD.out, HZZ.out])
            have HW := Lib.hid (shl_add hdv.1 hdv.2 hz5 hh)
            go_wp2_with fail
            go_quiet ((go_at_call 50; exact Calls.quiet_of ((shas_any _ _ _ hdv.1 hdv.2).mono (fun e w' ⟨he, hw'⟩ => ⟨he, 0, hw'.symm⟩))))
            rw [hh]
            go_wp2_with fail
            go_region
            all_goals rw [HW.out]
            all_goals have HS2 := Lib.hid (((own_below HZj.out (drewN_below' wr (nq + 1))).stored j (.int .i64 (addB d z))).1)
            all_goals have HR2 : Hid (OwnRows ((wr.drewN (nq + 1)).setCell ⟨g, j, none⟩ (.int .i64 (addB d z))) (g + 1) (.slice (some ⟨g2, 0, none⟩) T fc) sols) := Lib.hid ((HRj.out.below (drewN_below' wr (nq + 1))).keep (fun b cur t hB _ _ => Below.heap_setCell _ _ _ _ (by show b ≠ g; omega)))
            all_goals have HB2 := Lib.hid ((HBj.out.trans ((drewN_below' wr (nq + 1)).mono HBj.out.size)).setCell (p := ⟨g, j, none⟩) (by show w.heap.size ≤ g; exact (HZj.out.lt g rfl).1) (.int .i64 (addB d z)))
            all_goals clear x0 z0 zf hcu
            all_goals go_wp2
            all_goals go_roundw
            all_goals first
              | exact ⟨j + 1, by omega, by go_num, Lib.hid (by rw [HE.out, List.map_set]; exact HS2.out), HR2, HB2⟩
              | (simp [intOf]; omega)
          · have HE : Hid (zipS acc x (j + 1) = zipS acc x j) := Lib.hid (zipS_same (by rw [HXL.out, HAL.out]) (by rw [HAL.out]; exact hlt2) (by rw [← HD.out, HZZ.out]; exact hh))
            go_wp2_with fail
            go_quiet ((go_at_call 50; exact Calls.quiet_of ((shas_any _ _ _ hdv.1 hdv.2).mono (fun e w' ⟨he, hw'⟩ => ⟨he, 0, hw'.symm⟩))))
            rw [hh]
            go_wp2
            go_roundw
            case rel => exact ⟨j + 1, by omega, by go_num, Lib.hid (by rw [HE.out]; exact own_below HZj.out (drewN_below' _ _)), Lib.hid (HRj.out.below (drewN_below' _ _)), Lib.hid (HBj.out.trans ((drewN_below' _ _).mono HBj.out.size))⟩
            case measure => simp [intOf]; omega
        · obtain rfl : n = j := by omega
          have HFI : Hid (wr.ownsRow w.heap.size 3 1 (.slice (some ⟨g, 0, none⟩) n n) n ((bbF (List.replicate n 0) (sols.take (k + 1))).map (Value.int .i64))) := Lib.hid (by
            rw [HBS.out, ← zipS_all (by rw [HXL.out, HAL.out]), HAL.out]
            exact HZj.out)
          go_wp2
          go_roundw
          case rel => exact ⟨k + 1, by omega, by go_num, HFI, HRj, HBj⟩
          case measure => simp [intOf]; omega
    · obtain rfl : T = k := by omega
      have HFI : Hid (wr.ownsRow w.heap.size 3 1 (.slice (some ⟨g, 0, none⟩) n n) (bbM m).length ((bbM m).map (Value.int .i64))) := Lib.hid (by
        have hb : bbM m = bbF (List.replicate n 0) (sols.take T) := by rw [HF.out, HN.out, List.take_of_length_le (by have := HTT.out; omega)]
        have hl : (bbM m).length = n := by
          rw [hb]
          have := (bbF_ok (sols.take T) (List.replicate n 0) (fun y hy => by have := HSO.out y (List.mem_of_mem_take hy); rw [List.length_replicate, HN.out]; exact this) (small_zero _)).1
          simpa using this
        rw [hl, hb]
        exact HZ.out)
      go_wp2
      go_ret
      exact ⟨_, rfl, HFI.out, HBE.out⟩

attribute [local go_sem] Oper.semAt_some
theorem shl_ints (w : World) (x y : Operand) (a : Nat) (m : Int) (ha : a ≤ 5) (hm : m = wrap64 (2 ^ a)) : (do eqGuard .shl 3 x y (.int .i64 1) (.int .i64 a); binOp .shl 3 (.int .i64 1) (.int .i64 a) : Sem Value).run Tryz.prog w = .ok (.int .i64 m) w := by
  subst hm
  go_simp
  first | exact IntWalk.i64_left _ | (rw [show min a 64 = a by omega]; rfl) | trace_state
/-- From X to Y only block g has changed. -/
structure OnlyB (g : Nat) (X Y : World) : Prop where
  os : Y.os = X.os
  tape : Y.tape = X.tape
  output : Y.output = X.output
  size : Y.heap.size = X.heap.size
  block : ∀ b, b ≠ g → Y.heap[b]? = X.heap[b]?
theorem OnlyB.refl (g : Nat) (X : World) : OnlyB g X X := ⟨rfl, rfl, rfl, rfl, fun _ _ => rfl⟩
theorem OnlyB.step {g : Nat} {X Y : World} (h : OnlyB g X Y) (j : Nat) (u : Value) : OnlyB g X ((Y.setCell ⟨g, j, none⟩ u).drew) := ⟨h.os, h.tape, h.output, (World.size_setCell _ _ _).trans h.size, fun b hb => (Below.heap_setCell _ _ _ _ (by show b ≠ g; exact hb)).trans (h.block b hb)⟩
/-- What stands while solutions are gathered; gt: the block of the result, its variable behind it. -/
structure BkSt (m : Mod) (w : World) (gt Bt n : Nat) (s1 s2 : Value) (R : List (List Int)) (g : Nat) (acc : List Int) (X : World) : Prop where
  b : Below w.heap.size w X
  v : Boxed X Bt 22 (.slice (some ⟨gt, 0, none⟩) n n)
  o : X.ownsRow w.heap.size 3 1 (.slice (some ⟨gt, 0, none⟩) n n) n (acc.map (Value.int .i64))
  mm : Blk2 X (Bt + 1) 31 s1 s2
  t : Tab64 X
  c : bbF acc R = bbM m
  a : Small acc 0 63
  r : ∀ y ∈ R, y.length = n ∧ Small y 0 5
  g : Bt + 2 ≤ g
  z : w.heap.size ≤ gt ∧ gt < Bt
/-- The activation inside the loops. -/
def bkAct (B gt Bt n : Nat) (s1 s2 c11 xv x5 x6 x19 x20 x21 x22 x23 x24 x25 x26 x27 x28 x29 x30 x31 x32 : Value) : Act := { tmps := #[.agg #[s1, s2], .pointer (some ⟨B, 0, none⟩), .slice none 0 0,   .pointer (some ⟨Bt, 0, none⟩), xv, x5, x6, .agg #[s1, s2], .bool true, .bool false, .pointer (some ⟨B, 0, none⟩), c11, .int .i64 n, .slice (some ⟨gt, 0, none⟩) n n, .agg #[s1, s2], .func (.func 72) #[] #[.pointer (some ⟨Bt + 1, 0, none⟩)], xv, xv, .int .i64 n, x19, x20, x21, x22, x23, x24, x25, x26, x27, x28, x29, x30, x31, x32, undef], defers := [] }

set_option maxRecDepth 100000 in
set_option maxHeartbeats 8000000 in
theorem iBackbone_any (m : Mod) (v : Value) (w : World) (h : RdModel w v m) (hm : ModLe m 1048576) (hT : Tab64 w) :
    Calls Tryz.prog 28 #[v] w (IntsPost (bbM m) w) := by
  obtain ⟨a1, a2, c1, c2, rfl, g1, g2⟩ := rdModel_slices h
  obtain ⟨W1, hW1⟩ : ∃ W1, w.alloc (.cells #[.slice a1 m.doms.length c1, .slice a2 m.cons.length c2] 31) = W1 := ⟨_, rfl⟩
  have B1 : Below w.heap.size w W1 := by rw [← hW1]; exact (Below.refl _ _).alloc (Nat.le_refl _) _
  have bP : Blk2 W1 w.heap.size 31 (.slice a1 m.doms.length c1) (.slice a2 m.cons.length c2) := by rw [← hW1]; exact Blk2.new w _ _ _
  have HM := Lib.hid (h.below B1)
  have HR0 := Lib.hid h
  have HB1 := Lib.hid B1
  have HW := Lib.hid hW1
  have HP := Lib.hid bP
  have HLE := Lib.hid hm
  have HT := Lib.hid hT
  clear h g1 g2 hW1 B1 bP hm hT
  obtain ⟨p0, p1⟩ := HP.out.cell
  obtain ⟨i0, hi, hz0, hz1, hz2⟩ := info_parts Tryz.info3
  refine (callsIn_wide (n := 10)).1 ?_
  refine callsIn_of_wp_marks Tryz.func28 rfl trivial ?_ rfl
  simp only [Tryz.ntmps28, List.size_toArray, List.length_cons, List.length_nil, Nat.reduceAdd, Nat.reduceSub, Array.replicate_succ, Array.replicate_zero, List.push_toArray, List.append_toArray, List.nil_append, List.cons_append]
  gi_wp2_with fail
  refine ⟨trivial, ?_⟩
  gi_at_call 37
  rw [HW.out]
  refine (callsIn_wide.2 (ivm_any m _ W1 HM.out HLE.out)).mono ?_
  rintro e w2 ⟨rfl, b2⟩
  have HB2 := Lib.hid (HB1.out.trans (b2.mono HB1.out.size))
  have HP2 := Lib.hid (HP.out.below b2)
  clear p0 p1 b2 HM HP HB1 HW
  obtain ⟨p0, p1⟩ := HP2.out.cell
  cases hv : vmB m
  · have HF : Hid (bbM m = []) := Lib.hid (by unfold bbM; rw [hv]; rfl)
    gi_wp2
    exact ⟨_, results_tmp rfl _ _ _, .slice none 0 0, rfl, by rw [HF.out]; exact World.ownsRow_nil _ _ _ _, HB2.out⟩
  obtain ⟨d1, d2, d3, d4⟩ := doms_small' hv
  have HF : Hid (bbM m = bbF (List.replicate m.doms.length 0) (solL m.cons m.doms)) := Lib.hid (by unfold bbM; rw [hv]; rfl)
  have HSO := Lib.hid (fun x (hx : x ∈ solL m.cons m.doms) => sol_small (okD_mod hv) hx)
  have HVM := Lib.hid hv
  obtain ⟨n, hn⟩ : ∃ n, n = m.doms.length := ⟨_, rfl⟩
  have HN := Lib.hid hn
  rw [← hn] at p0 d2 d3
  clear hv d1 d4 hn
  obtain ⟨w3, hmk, hown, hgrow⟩ := run_make_full (P := Tryz.prog) w2 w2.heap.size 22 3 i0 (.int .i64 0) 1 Tryz.underlying22 hi hz0 hz1 .i64 .i64 n (by rw [hz2]; omega) (by unfold maxLen; omega) (Nat.le_refl _)
  rw [madeInts] at hown
  have b3 := below_of_grown hgrow
  obtain ⟨W4, hW4⟩ : ∃ W4, w3.alloc (.cells #[.slice (some ⟨w2.heap.size, 0, none⟩) n n] 22) = W4 := ⟨_, rfl⟩
  obtain ⟨W5, hW5⟩ : ∃ W5, W4.alloc (.cells #[.slice a1 m.doms.length c1, .slice a2 m.cons.length c2] 31) = W5 := ⟨_, rfl⟩
  have b4 : Below w3.heap.size w3 W4 := by rw [← hW4]; exact (Below.refl _ _).alloc (Nat.le_refl _) _
  have b5 : Below W4.heap.size W4 W5 := by rw [← hW5]; exact (Below.refl _ _).alloc (Nat.le_refl _) _
  have s4 : W4.heap.size = w3.heap.size + 1 := by rw [← hW4, World.size_alloc]
  have s5 : W5.heap.size = w3.heap.size + 2 := by rw [← hW5, World.size_alloc, s4]
  have v4 : Boxed W4 w3.heap.size 22 (.slice (some ⟨w2.heap.size, 0, none⟩) n n) := by rw [← hW4]; exact World.alloc_heap_new _ _
  have m5 : Blk2 W5 (w3.heap.size + 1) 31 (.slice a1 m.doms.length c1) (.slice a2 m.cons.length c2) := by rw [← hW5, ← s4]; exact Blk2.new _ _ _ _
  have bw3 : Below w.heap.size w w3 := HB2.out.trans (b3.mono HB2.out.size)
  have bw5 : Below w.heap.size w W5 := (bw3.trans (b4.mono bw3.size)).trans (b5.mono (Nat.le_trans bw3.size b4.size))
  have hg3 := (hown.lt w2.heap.size rfl).2
  have HST : Hid (BkSt m w w2.heap.size w3.heap.size n (.slice a1 m.doms.length c1) (.slice a2 m.cons.length c2) (solL m.cons m.doms) (W5.heap.size + 2) (List.replicate n 0) W5) := Lib.hid ⟨bw5, (b5.block _ v4.lt).trans v4, own_mono (own_below (own_below hown b4) b5) HB2.out.size, m5, HT.out.below HT.out.size bw5, by rw [HF.out, HN.out], small_zero _, fun y hy => by rw [HN.out]; exact HSO.out y hy, by omega, ⟨HB2.out.size, hg3⟩⟩
  have k := (HP2.out.below (b3.trans (b4.mono b3.size))).cell
  rw [← hW4] at k
  obtain ⟨k0, k1⟩ := k
  have HW4 := Lib.hid hW4
  have HW5 := Lib.hid hW5
  have HS5 := Lib.hid s5
  have HMK := Lib.hid hmk
  have HG3 := Lib.hid hg3
  clear hown hgrow b3 hW4 hW5 b4 b5 s4 s5 v4 m5 bw3 bw5 hmk hg3
  gi_wp2_with fail
  rw [HMK.out]
  clear p0 p1
  gi_wp2_with (refine ⟨trivial, ?_⟩; gi_at_call 47; refine (callsIn_wide.2 (solutions_any _ _ _ _ _ _ rfl _ _ _ rfl)).mono ?_; rintro e w' ⟨rfl, rfl⟩)
  rw [HW4.out, HW5.out]
  clear k0 k1
  obtain ⟨gt, hgt⟩ : ∃ gt, gt = w2.heap.size := ⟨_, rfl⟩
  obtain ⟨Bt, hBt⟩ : ∃ Bt, Bt = w3.heap.size := ⟨_, rfl⟩
  rw [← hgt, ← hBt] at HST ⊢
  rw [← hBt] at HS5
  have HZG := Lib.hid HST.out.z
  clear hgt hBt HW4 HW5 HP2 HMK HG3
  refine rf_solutions (Bm := Bt + 1) m w HR0.out HVM.out (by omega) rfl rfl
    (fun R g X => ∃ acc, BkSt m w gt Bt n (.slice a1 m.doms.length c1) (.slice a2 m.cons.length c2) R g acc X)
    (fun c X => False) (fun R g X ⟨acc, h⟩ => ⟨h.b, h.mm, h.t⟩) ?hIs ?hIo (fun c X Y row h => h.elim) ⟨_, HST.out⟩
    (fun xv => { tmps := #[.agg #[.slice a1 m.doms.length c1, .slice a2 m.cons.length c2], .pointer (some ⟨w.heap.size, 0, none⟩), .slice none 0 0, .pointer (some ⟨Bt, 0, none⟩), xv, undef, undef, .agg #[.slice a1 m.doms.length c1, .slice a2 m.cons.length c2], .bool true, .bool false, .pointer (some ⟨w.heap.size, 0, none⟩), .slice a1 n c1, .int .i64 n, .slice (some ⟨gt, 0, none⟩) n n, .agg #[.slice a1 m.doms.length c1, .slice a2 m.cons.length c2], .func (.func 72) #[] #[.pointer (some ⟨Bt + 1, 0, none⟩)], xv, undef, undef, undef, undef, undef, undef, undef, undef, undef, undef, undef, undef, undef, undef, undef, undef, undef], defers := [] }) ?hassign ?hbody ?hdone ?hstop
  case hIs =>
    rintro R g g' X Y hg ⟨acc, h⟩ he hgg
    have hs5 := HS5.out
    have hz := h.z
    have hml := (Array.getElem?_eq_some_iff.1 h.mm).1
    have h1 := HT.out.size
    refine ⟨acc, he.below h.b h.b.size (by omega), (he.block _ h.v.lt (by omega)).trans h.v, own_keep' h.o (fun b cur hb hc => he.block b (Array.getElem?_eq_some_iff.1 hc).1 (fun e => ?_)), (he.block _ hml (by omega)).trans h.mm, h.t.keep (he.block 1 h.t.size (by omega)), h.c, h.a, h.r, by omega, h.z⟩
    have hbe : some gt = some b := hb
    injection hbe with hbe
    omega
  case hIo =>
    rintro R g X Y row ⟨acc, h⟩ hgr hr
    have hr' := fun r e => (hr r e).2
    have hs5 := HS5.out
    have hz := h.z
    have h1 := HT.out.size
    refine ⟨acc, h.b.grown hgr h.b.size (fun r e => by have := (hr r e).1; omega), boxed_grown h.v hgr hr', own_keep' h.o (fun b cur hb hc => hgr.block b (Array.getElem?_eq_some_iff.1 hc).1 (fun e => ?_)), (hgr.block _ (Array.getElem?_eq_some_iff.1 h.mm).1 (fun e => ?_)).trans h.mm, h.t.keep (hgr.block 1 h.t.size (fun e => by have := (hr _ e.symm).1; omega)), h.c, h.a, h.r, h.g, h.z⟩
    · have hbe : some gt = some b := hb
      injection hbe with hbe
      have := (hr _ e.symm).1
      omega
    · have := (hr _ e.symm).1
      omega
  case hassign =>
    intro l xv X K hK
    gi_wp2
    exact hK
  case hbody =>
    rintro l R x g X xv hl hr ⟨acc, h⟩ hgw ho hxl
    obtain ⟨hxn, hxs⟩ := h.r x (by simp)
    have hal : acc.length = n := by have := h.o.1; simpa using this
    obtain ⟨gx, cx, ex, hgx, -, hcx, hcx'⟩ := own_form ho (by omega)
    rw [hxn] at ex ho hcx
    subst ex
    have HH := Lib.hid h
    have HX := Lib.hid ho
    have HXS := Lib.hid (And.intro hxn (And.intro hxs hal))
    have HGX := Lib.hid (And.intro hgx hgw)
    clear h ho hxn hxs hal hgx hgw hr hl hxl
    gi_wp2
    gi_loopw [19] (fun i wr => ∃ j : Nat, j ≤ n ∧ i = .int .i64 j ∧ Hid (wr.ownsRow w.heap.size 3 1 (.slice (some ⟨gt, 0, none⟩) n n) n ((zipS acc x j).map (Value.int .i64))) ∧ Hid (OnlyB gt X wr)) (fun i _ => n - (intOf i).toNat)
    case atStart => exact ⟨0, Nat.zero_le _, rfl, Lib.hid (by rw [zipS_zero]; exact HH.out.o), Lib.hid (OnlyB.refl _ _)⟩
    case round =>
      obtain ⟨j, hj, rfl, HZ, HOB⟩ := hrel
      by_cases hlt : j < n
      · have hx := HXS.out
        have ob := HOB.out
        have hz := HZG.out
        have hxw : wr.ownsRow (W5.heap.size + 2) 3 1 (.slice (some ⟨gx, 0, none⟩) n cx) n (x.map (Value.int .i64)) := own_keep' HX.out (fun b cur hb _ => ob.block b (by have := (HX.out.lt b hb).1; have := HS5.out; omega))
        have x0 := own_int_at hxw hlt
        have z0 := own_int_at HZ.out hlt
        rw [zipS_at (by omega) (by omega)] at z0
        have zf := HZ.out.frozenAt j
        have q4 : Boxed wr Bt 22 (.slice (some ⟨gt, 0, none⟩) n n) := (ob.block _ (by omega)).trans HH.out.v
        have hxv := hx.2.1 j (by omega)
        obtain ⟨a, ha⟩ : ∃ a : Nat, x[j]?.getD 0 = (a : Int) := ⟨(x[j]?.getD 0).toNat, by omega⟩
        have ha5 : a ≤ 5 := by omega
        have hdv := HH.out.a j (by omega)
        obtain ⟨d, hd⟩ : ∃ d, d = acc[j]?.getD 0 := ⟨_, rfl⟩
        rw [ha] at x0
        rw [← hd] at z0 hdv
        have HE : Hid (zipS acc x (j + 1) = (zipS acc x j).set j (addB d a)) := Lib.hid (by rw [zipS_step (by omega) (by omega), ← hd, ha])
        obtain ⟨mm, hmm⟩ : ∃ mm, mm = wrap64 (2 ^ a) := ⟨_, rfl⟩
        have HOR := Lib.hid (or_pow (d := d) (a := a) hdv.1 hdv.2 ha5)
        rw [← hmm] at HOR
        have HM := Lib.hid hmm
        have HQ4 := Lib.hid q4
        have HC := Lib.hid (And.intro z0 zf)
        have hst := (HZ.out.stored j (.int .i64 (addB d a))).1
        rw [← List.map_set] at hst
        have HST2 := Lib.hid hst
        have HOB2 := Lib.hid (ob.step j (.int .i64 (addB d a)))
        clear hmm hd ha hxv hdv hst hxw hx ob hz z0 zf q4 HST
        gi_wp2
        refine region_round_x (fun w' => Boxed w' Bt 22 (.slice (some ⟨gt, 0, none⟩) n n) ∧ w'.cell? ⟨gt, j, none⟩ = some (.int .i64 d)) (fun i => i == 8) (by kernel_rfl) (by kernel_rfl) ?_ ?_
        · rintro ⟨a, w', h⟩
          exact h
        have hS : Boxed wr.drew Bt 22 (.slice (some ⟨gt, 0, none⟩) n n) ∧ wr.drew.cell? ⟨gt, j, none⟩ = some (.int .i64 d) := ⟨HQ4.out, HC.out.1⟩
        refine wpAnyX_take (i := 0) (v := .slice (some ⟨gt, 0, none⟩) n n) rfl (by kernel_rfl) (by kernel_rfl) (by kernel_rfl) (by kernel_rfl) (fun _ _ _ h => h) (.inl ⟨rfl, fun w' hw' => exec_load rfl rfl (load_intsB w' _ _ _ _ hw'.1.cell)⟩) hS ?_
        refine wpAnyX_take (i := 1) (v := .int .i64 j) rfl (by kernel_rfl) (by kernel_rfl) (by kernel_rfl) (by kernel_rfl) (fun _ _ _ h => h) (.inl ⟨rfl, fun w' hw' => rfl⟩) hS ?_
        refine wpAnyX_take (i := 2) (v := .pointer (some ⟨gt, j, none⟩)) rfl (by kernel_rfl) (by kernel_rfl) (by kernel_rfl) (by kernel_rfl) (fun _ _ _ h => h) (.inl ⟨rfl, fun w' hw' => exec_index rfl rfl rfl (index0_ints _ _ _ _ _ hlt)⟩) hS ?_
        refine wpAnyX_take (i := 3) (v := .int .i64 d) rfl (by kernel_rfl) (by kernel_rfl) (by kernel_rfl) (by kernel_rfl) (fun _ _ _ h => h) (.inl ⟨rfl, fun w' hw' => exec_load rfl rfl (load_int _ _ _ _ hw'.2)⟩) hS ?_
        refine wpAnyX_take (i := 4) (v := .int .i64 a) rfl (by kernel_rfl) (by kernel_rfl) (by kernel_rfl) (by kernel_rfl) (fun _ _ _ h => h) (.inl ⟨rfl, fun w' hw' => rfl⟩) hS ?_
        change wpAnyX Tryz.prog .any _ _ _ _ 4 _ (bkAct w.heap.size gt Bt n (.slice a1 m.doms.length c1) (.slice a2 m.cons.length c2) (.slice a1 n c1) (.slice (some ⟨gx, 0, none⟩) n cx) (.int .i64 j) (.int .i64 a) (.int .i64 j) (.bool true) (.int .i64 j) (.pointer (some ⟨gx, j, none⟩)) (.int .i64 a) (.slice (some ⟨gt, 0, none⟩) n n) (.int .i64 j) (.pointer (some ⟨gt, j, none⟩)) (.int .i64 d) (.int .i64 a) u29 u30 u31 u32) wr.drew
        refine wpAnyX_take (i := 5) (v := .int .i64 mm) rfl (by kernel_rfl) (by kernel_rfl) (by kernel_rfl) (by kernel_rfl) (fun _ _ _ h => h) (.inl ⟨rfl, fun w' hw' => exec_bin rfl rfl rfl (shl_ints _ _ _ _ _ ha5 HM.out)⟩) hS ?_
        change wpAnyX Tryz.prog .any _ _ _ _ 3 _ (bkAct w.heap.size gt Bt n (.slice a1 m.doms.length c1) (.slice a2 m.cons.length c2) (.slice a1 n c1) (.slice (some ⟨gx, 0, none⟩) n cx) (.int .i64 j) (.int .i64 a) (.int .i64 j) (.bool true) (.int .i64 j) (.pointer (some ⟨gx, j, none⟩)) (.int .i64 a) (.slice (some ⟨gt, 0, none⟩) n n) (.int .i64 j) (.pointer (some ⟨gt, j, none⟩)) (.int .i64 d) (.int .i64 a) (.int .i64 mm) u30 u31 u32) wr.drew
        refine wpAnyX_take (i := 6) (v := .int .i64 (bits .or .i64 d mm)) rfl (by kernel_rfl) (by kernel_rfl) (by kernel_rfl) (by kernel_rfl) (fun _ _ _ h => h) (.inl ⟨rfl, fun w' hw' => exec_bin rfl rfl rfl (or_ints _ _ _ _ _)⟩) hS ?_
        change wpAnyX Tryz.prog .any _ _ _ _ 2 _ (bkAct w.heap.size gt Bt n (.slice a1 m.doms.length c1) (.slice a2 m.cons.length c2) (.slice a1 n c1) (.slice (some ⟨gx, 0, none⟩) n cx) (.int .i64 j) (.int .i64 a) (.int .i64 j) (.bool true) (.int .i64 j) (.pointer (some ⟨gx, j, none⟩)) (.int .i64 a) (.slice (some ⟨gt, 0, none⟩) n n) (.int .i64 j) (.pointer (some ⟨gt, j, none⟩)) (.int .i64 d) (.int .i64 a) (.int .i64 mm) (.int .i64 (bits .or .i64 d mm)) u31 u32) wr.drew
        refine wpAnyX_take (i := 7) (v := .pointer (some ⟨gt, j, none⟩)) rfl (by kernel_rfl) (by kernel_rfl) (by kernel_rfl) (by kernel_rfl) (fun _ _ _ h => h) (.inl ⟨rfl, fun w' hw' => exec_index rfl rfl rfl (index0_ints _ _ _ _ _ hlt)⟩) hS ?_
        change wpAnyX Tryz.prog .any _ _ _ _ 1 _ (bkAct w.heap.size gt Bt n (.slice a1 m.doms.length c1) (.slice a2 m.cons.length c2) (.slice a1 n c1) (.slice (some ⟨gx, 0, none⟩) n cx) (.int .i64 j) (.int .i64 a) (.int .i64 j) (.bool true) (.int .i64 j) (.pointer (some ⟨gx, j, none⟩)) (.int .i64 a) (.slice (some ⟨gt, 0, none⟩) n n) (.int .i64 j) (.pointer (some ⟨gt, j, none⟩)) (.int .i64 d) (.int .i64 a) (.int .i64 mm) (.int .i64 (bits .or .i64 d mm)) (.pointer (some ⟨gt, j, none⟩)) u32) wr.drew
        refine wpAnyX_one (i := 8) (by kernel_rfl) rfl (fun K' hK' => ?_)
        refine step_skip _ (wr.drew.setCell ⟨gt, j, none⟩ (.int .i64 (bits .or .i64 d mm))) rfl (exec_store rfl rfl rfl (store_int _ _ _ _ _ HC.out.1 HC.out.2)) ?_
        refine hK'.out _ _ (fun h => by cases h) ?_
        clear hK' K'
        refine wpAnyX_done (by kernel_rfl) ?_ _
        rw [HOR.out]
        unfold bkAct
        gi_wp2
        refine ⟨⟨j + 1, by omega, by simp, Lib.hid (by rw [HE.out]; exact own_keep' HST2.out (fun b cur hb hc => rfl)), HOB2⟩, by simp [intOf]; omega⟩
      · obtain rfl : n = j := by omega
        have hfin : BkSt m w gt Bt n (.slice a1 m.doms.length c1) (.slice a2 m.cons.length c2) R g (List.zipWith addB acc x) wr := by
          have h := HH.out
          have ob := HOB.out
          have hz := h.z
          have h1 := HT.out.size
          have hx := HXS.out
          refine ⟨⟨ob.os.trans h.b.os, ob.tape.trans h.b.tape, ob.output.trans h.b.output, by rw [ob.size]; exact h.b.size, fun b hb => (ob.block b (by omega)).trans (h.b.block b hb)⟩, (ob.block _ (by omega)).trans h.v, ?_, (ob.block _ (by omega)).trans h.mm, h.t.keep (ob.block 1 (by omega)), h.c, zip_small (by omega) h.a hx.2.1, fun y hy => h.r y (by simp [hy]), h.g, h.z⟩
          rw [← zipS_all (by omega), hx.2.2]
          exact HZ.out
        have HFI := Lib.hid hfin
        clear hfin
        gi_wp2
        have ob := HOB.out
        have hz := HZG.out
        have hs5 := HS5.out
        exact ⟨⟨by rw [ob.size]; exact Nat.le_refl _, fun b o hb h1 h2 => (ob.block b (by omega)).trans h1⟩, ⟨by rw [ob.size]; exact Nat.le_refl _, fun b cur t fr hb _ _ => ob.block b (by omega)⟩, _, HFI.out⟩
  case hdone =>
    rintro D g X hD ⟨acc, h⟩ hK
    have q0 := h.v.cell
    have hc : acc = bbM m := h.c
    have hal : acc.length = n := by have := h.o.1; simpa using this
    have HH := Lib.hid h
    have HCC := Lib.hid (And.intro hc hal)
    have HKD := Lib.hid hK
    have HDD := Lib.hid hD
    clear h hK hD hc hal
    gi_wp2
    refine ⟨by simp, .inl ⟨_, _, rfl, run_takeDeferred HKD.out, ?_⟩⟩
    have hg := fun o' => grownBy_putObj' X D o'
    have h := HH.out
    refine ⟨_, results_tmp rfl _ _ _, .slice (some ⟨gt, 0, none⟩) n n, rfl, ?_, h.b.grown (hg _) h.b.size (fun r e => by cases e; have := HDD.out; have := HS5.out; have := h.z; omega)⟩
    rw [← HCC.out.1, HCC.out.2]
    exact own_keep' h.o (fun b cur hb hc => (hg _).block b (Array.getElem?_eq_some_iff.1 hc).1 (fun e => by
      cases e
      rw [HKD.out] at hc
      cases hc))
  case hstop => exact fun D c X hD h => h.elim
end Go.Proofs.YtnkbcciigdjcnaaGreatDoor
