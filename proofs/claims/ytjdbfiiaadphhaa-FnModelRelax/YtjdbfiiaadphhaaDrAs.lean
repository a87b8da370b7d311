/- The draw of an assignment for a model. -/
import Derived.Test.YtjdbfiiaadphhaaDrM
import Derived.Test.YtjdbfiiaadphhaaSrcT
import Derived.Test.YtjdbfiiaadphhaaLiO
namespace Go.Proofs.Ytjdbfiiaadphhaa
open Go.ChangeShapes Go.WideShapes Go.ChangeAt Go.RowKit Go.Deep Go.Shelf
set_option linter.unusedVariables false
set_option linter.unusedSimpArgs false

theorem vis_lenA {cs : List Con} {n : Nat} : ∀ (k : Nat) (d p : List Int), OkD cs n d → p ∈ visF cs k d → p.length = n
  | 0, d, p, _, h => by simp [visF] at h
  | k + 1, d, p, ho, h => by
    rw [visF] at h
    rcases List.mem_cons.1 h with rfl | h
    · exact (proL_ok ho).1.len
    · obtain ⟨d', hd', hp⟩ := List.mem_flatMap.1 h
      exact vis_lenA k d' p (kid_ok (proL_ok ho).1 hd').1 hp
theorem oneT_lenA {p x : List Int} (h : oneT p = some x) : x.length = p.length := by
  unfold oneT at h
  split at h
  · obtain rfl := Option.some.inj h; simp
  · cases h
theorem slvR_len {m : Mod} (hv : vmB m = true) {L : Nat} {x : List Int} (hx : x ∈ slvR m L) : x.length = m.doms.length := by
  have hx2 := List.mem_of_mem_take hx
  obtain ⟨p, hp, ho⟩ := List.mem_filterMap.1 hx2
  rw [oneT_lenA ho]
  exact vis_lenA _ m.doms p (okD_mod hv) hp

set_option maxRecDepth 100000 in
set_option maxHeartbeats 16000000 in
theorem assignment_any (Q0 : Nat → Bool) (n0 B : Nat) (p : Int) (m : Mod) (a1 a2 : Option Addr) (n1 n2 c1 c2 : Nat) (w : World) (hR : Rd n0 B p w) (hp : 0 ≤ p) (hp2 : p ≤ 100000) (hQB : Q0 B = true) (hn1 : n1 = m.doms.length) (hl1 : 1 ≤ n1) (hl4 : n1 ≤ 4) (h1 : RdInts (av Q0 w) (.slice a1 n1 c1) m.doms) (h2 : RdCons (av Q0 w) (.slice a2 n2 c2) m.cons) (hle : ModLe m 1048576) :
    Calls Try.prog 121 #[.pointer (some ⟨B, 0, none⟩), .agg #[.slice a1 n1 c1, .slice a2 n2 c2]] w (RowDrawn n0 B p 60 (fun xs => xs.length ≤ 5) w) := by
  obtain ⟨i0, hi, hz0, hz1, hz2⟩ := info_parts Try.info3
  have hlt := hR.lt
  obtain ⟨W1, hW1⟩ : ∃ W1, w.alloc (.cells #[.slice a1 n1 c1, .slice a2 n2 c2] 68) = W1 := ⟨_, rfl⟩
  have b1 : Below w.heap.size w W1 := by rw [← hW1]; exact (Below.refl _ _).alloc (Nat.le_refl _) _
  have hbx : Blk2 W1 w.heap.size 68 (.slice a1 n1 c1) (.slice a2 n2 c2) := by rw [← hW1]; exact Blk2.new w _ _ _
  have HM0 := Lib.hid hlt
  have HM1 : Hid (w.heap.size < W1.heap.size ∧ w.heap.size ≠ B) := Lib.hid ⟨hbx.lt, by omega⟩
  have HBX := Lib.hid hbx
  have HR1 := Lib.hid (hR.below (b1.mono (by omega)))
  have HDW := Lib.hid (Dn.of_below b1 (B := B))
  have hi1 : Inc (av Q0 w) (av Q0 W1) := (Fr.of_below b1).inc
  have H1 := Lib.hid (h1.inc hi1)
  have H2 := Lib.hid (h2.inc hi1)
  have HQB := Lib.hid hQB
  have HLE := Lib.hid hle
  have HN1 := Lib.hid hn1
  have hcc1 := (rdInts_cap h1).2
  have hcc2 : n2 ≤ c2 ∧ c2 ≤ 9223372036854775807 := by obtain ⟨_, _, e, q1, q2, _⟩ := id h2; simp at e; obtain ⟨-, rfl, rfl⟩ := e; unfold maxLen at q2; omega
  have HMD : Hid (∀ W, Dn B W1 W → RdModel W (.agg #[.slice a1 n1 c1, .slice a2 n2 c2]) m) := Lib.hid (fun W hd => by
    have hi := (Fr.of_dn (Q := Q0) HQB.out hd).inc
    exact ⟨_, _, rfl, (H1.out.inc hi).inc (av_inc _ _), (H2.out.inc hi).inc (av_inc _ _)⟩)
  have HBXK : Hid (∀ W, Dn B W1 W → W.cell? ⟨w.heap.size, 0, none⟩ = some (.slice a1 n1 c1) ∧ W.cell? ⟨w.heap.size, 1, none⟩ = some (.slice a2 n2 c2)) := Lib.hid (fun W hd => by
    have h : Blk2 W w.heap.size 68 (.slice a1 n1 c1) (.slice a2 n2 c2) := (hd.block w.heap.size HM1.out.1 HM1.out.2).trans HBX.out
    exact h.cell)
  have HW1 := Lib.hid hW1
  obtain ⟨x0, x1⟩ := hbx.cell
  obtain ⟨b, hb⟩ : ∃ b, b = vmB m := ⟨_, rfl⟩
  have HVB := Lib.hid hb
  have HVM : Hid (Calls Try.prog 101 #[.agg #[.slice a1 n1 c1, .slice a2 n2 c2]] W1 (BoolPost b W1)) := Lib.hid (by rw [hb]; exact svm_any m _ W1 (HMD.out W1 (Dn.refl B W1)) hle)
  clear hR hlt hW1 b1 hbx hi1 h1 h2 hQB hle hn1 hb
  go_enter Try.func121, Try.ntmps121
  go_wp2_with (rw [HW1.out])
  refine HVM.out.mono ?_
  rintro e w2 ⟨rfl, b2⟩
  have HR2 := Lib.hid (HR1.out.below (b2.mono (by have := HR1.out.lt; omega)))
  have HX2 := Lib.hid (Dn.of_below b2 (B := B))
  have HD2 := Lib.hid (HDW.out.trans HX2.out)
  clear b2 x0 x1 HW1 HR1
  cases b
  · obtain ⟨x0, x1⟩ := HBXK.out w2 HX2.out
    go_wp2_with fail
    refine (randomRow_some n0 B n1 (p) w2 HR2.out (by omega) (by omega) (by omega)).mono ?_
    rintro e v1 ⟨v5, xs, q5, rfl, ⟨hxl, -⟩, o5, hq5, hq5', r5, d5, gx, cx, rfl⟩
    obtain ⟨nx, hnx⟩ : ∃ nx, nx = xs.length := ⟨_, rfl⟩
    rw [← hnx]
    have HNX := Lib.hid (show xs.length = nx ∧ nx ≤ 4 from ⟨hnx.symm, by omega⟩)
    have hcx : nx ≤ cx ∧ cx ≤ 9223372036854775807 := by
      obtain ⟨a9, c9, e9, h9, h9'⟩ := own_form o5
      simp at e9
      unfold maxLen at h9'
      omega
    have HD5 := Lib.hid (HD2.out.trans d5)
    have HO5 : Hid (v1.ownsRow w.heap.size 3 1 (.slice (some ⟨gx, 0, none⟩) nx cx) nx (xs.map (Value.int .i64))) := Lib.hid (by rw [hnx]; exact own_mono o5 HD2.out.size)
    have HR5 := Lib.hid r5
    have hq6 : 0 ≤ q5 ∧ q5 ≤ p + 30 := by omega
    have HQ6 : Hid (p ≤ q5 ∧ q5 ≤ p + 30) := Lib.hid (by omega)
    clear hxl o5 hq5 hq5' r5 d5 hnx x0 x1
    go_wp2_with fail
    refine (pick_dn n0 B q5 14 v1 HR5.out (by omega) (by omega) (by omega)).mono ?_
    rintro e v2 ⟨x9, rfl, hx0, hx1, r6, d6⟩
    have HD6 := Lib.hid (HD5.out.trans d6)
    have HO6 := Lib.hid (own_dnG HO5.out HM0.out d6)
    have HR6 := Lib.hid r6
    clear r6 d6 HO5 HR5 HD5 hx0 hx1
    cases hx9 : (x9 == 0)
    · go_wp2
      go_ret
      exact ⟨_, xs, q5 + 1, rfl, by have := HNX.out; omega, by rw [HNX.out.1]; exact HO6.out, by have := HQ6.out; omega, by have := HQ6.out; omega, HR6.out, HD6.out⟩
    · obtain ⟨V3, hV3⟩ : ∃ V3, v2.alloc (.cells #[.int .i64 0, .int .i64 6] 3) = V3 := ⟨_, rfl⟩
      have q3 : V3.heap[v2.heap.size]? = some (.cells #[.int .i64 0, .int .i64 6] 3) := by rw [← hV3]; exact World.alloc_heap_new _ _
      have hc3 : ∀ i, i < 2 → V3.cell? ⟨v2.heap.size, i, none⟩ = some (.int .i64 (([0, 6] : List Int)[i]?.getD 0)) := fun i hi => by
        simp only [World.cell?, q3]
        rcases (show i = 0 ∨ i = 1 by omega) with rfl | rfl <;> rfl
      have b3 : Below v2.heap.size v2 V3 := by rw [← hV3]; exact (Below.refl _ _).alloc (Nat.le_refl _) _
      have hRl := HR6.out.lt
      have HR7 := Lib.hid (HR6.out.below (b3.mono (by omega)))
      have HD7 := Lib.hid (HD6.out.trans (Dn.of_below b3))
      have HO7 := Lib.hid (own_below HO6.out b3)
      have HC3 := Lib.hid hc3
      have HV3 := Lib.hid hV3
      have HNE := Lib.hid (show v2.heap.size ≠ B by omega)
      clear hV3 q3 hc3 b3 hRl HO6 HR6 HD6
      go_wp2_with fail
      rw [HV3.out]
      refine (one_dn n0 B v2.heap.size 2 (q5 + 1) (fun i => ([0, 6] : List Int)[i]?.getD 0) V3 HR7.out (by omega) (by omega) (by omega) (by omega) HNE.out HC3.out).mono ?_
      rintro e v4 ⟨i4, hi4, rfl, r8, d8⟩
      obtain ⟨z, hz⟩ : ∃ z, z = ([0, 6] : List Int)[i4]?.getD 0 := ⟨_, rfl⟩
      simp only [← hz]
      have hown := own_dnG HO7.out HM0.out d8
      have hd8 := HD7.out.trans d8
      have HR8 := Lib.hid r8
      have hnl : nx ≤ 4 := HNX.out.2
      have hsz := hd8.size
      clear hz r8 d8 HO7 HR7 HD7 HC3 HV3 HNE
      go_wp2_with (at_builtin; refine wpList_append_own _ rfl _ _ 32 rfl w.heap.size 3 i0 (.int .i64 0) 1 8 Try.underlying32 hi hz0 hz1 hz2 rfl (by decide) _ _ _ rfl (hown.alloc _) ⟨v4.heap.size, 0, none⟩ 1 1 [.int .i64 z] rfl rfl (cell_one_new _ _ _) (by simp [Value.oneCell']) (by unfold maxLen; omega) (by omega) (by simp; omega) ?_; intro v' w6 hown' hgrow _)
      have hge : ∀ q, Value.ownBlock (.slice (some ⟨gx, 0, none⟩) nx cx) = some q → w.heap.size ≤ q := fun q e => (hown.lt q e).1
      have hd9 := (hd8.alloc (.cells #[.int .i64 z] 3)).grown hgrow hge
      have hb9 := ((Below.refl (B + 1) v4).alloc (by have := HM0.out; omega) (.cells #[.int .i64 z] 3)).grown hgrow (by simp; have := HM0.out; omega) (fun q e => by have := hge q e; have := HM0.out; omega)
      have HR9 := Lib.hid (HR8.out.below hb9)
      have HD9 := Lib.hid hd9
      have HO9 := Lib.hid hown'
      clear hown hown' hgrow hd8 hd9 hb9 hge HR8
      go_wp2
      go_ret
      exact ⟨_, xs ++ [z], q5 + 1 + 1, rfl, by have := HNX.out; simp; omega, by rw [List.length_append, List.map_append, HNX.out.1]; exact HO9.out, by have := HQ6.out; omega, by have := HQ6.out; omega, HR9.out, HD9.out⟩
  · go_wp2_with fail
    refine (pick_dn n0 B p 3 w2 HR2.out (by omega) (by omega) (by omega)).mono ?_
    rintro e w3 ⟨x, rfl, hx0, hx1, r3, d3⟩
    have HR3 := Lib.hid r3
    have HX3 := Lib.hid (HX2.out.trans d3)
    have HD3 := Lib.hid (HD2.out.trans d3)
    clear r3 d3 hx1 HR2 HX2 HD2
    by_cases hxp : 0 < x
    · obtain ⟨x0, x1⟩ := HBXK.out w3 HX3.out
      have HSL : Hid (Calls Try.prog 162 #[.agg #[.slice a1 n1 c1, .slice a2 n2 c2], .int .i64 8] w3 (SlvPost m 8 w3)) := Lib.hid (solve_any m _ 8 8 w3 (HMD.out w3 HX3.out) HVB.out.symm rfl (by omega) (by omega))
      go_wp2_with fail
      refine HSL.out.mono ?_
      rintro e w4 ⟨fa, fc, rfl, ho, b4⟩
      obtain ⟨nr, hnr⟩ : ∃ nr, nr = (slvR m 8).length := ⟨_, rfl⟩
      rw [← hnr] at ho ⊢
      have HNR := Lib.hid hnr
      have hfc : nr ≤ fc ∧ fc ≤ 9223372036854775807 := by
        obtain ⟨vals, h8, _⟩ := ho
        obtain ⟨a9, c9, e9, h9, h9'⟩ := own_form h8
        simp at e9
        unfold maxLen at h9'
        rw [← hnr] at e9 h9
        omega
      have HR4 := Lib.hid (HR3.out.below (b4.mono (by have := HR3.out.lt; omega)))
      have HX4 := Lib.hid (HX3.out.trans (Dn.of_below b4))
      have HD4 := Lib.hid (HD3.out.trans (Dn.of_below b4))
      have HS4 := Lib.hid (show w.heap.size ≤ w3.heap.size from HD3.out.size)
      have HO4 := Lib.hid ho
      have hnr26 : nr ≤ 2591 := by rw [hnr]; exact slvR_le HVB.out.symm 8
      clear hnr ho b4 HR3 HX3 HD3 x0 x1
      by_cases hn0 : 0 < nr
      · go_wp2_with fail
        refine (pick_dn n0 B (p + 1) nr w4 HR4.out (by omega) (by omega) (by omega)).mono ?_
        rintro e w5 ⟨y, rfl, hy0, hy1, r5, d5⟩
        obtain ⟨k, rfl⟩ := Int.eq_ofNat_of_zero_le hy0
        have hk : k < nr := by omega
        obtain ⟨vals, hvo, hvr⟩ := HO4.out
        rw [← HNR.out] at hvo
        have hrk : (slvR m 8)[k]? = some ((slvR m 8)[k]'(by have := HNR.out; omega)) := List.getElem?_eq_getElem _
        obtain ⟨row, hrow⟩ : ∃ row, (slvR m 8)[k]? = some row := ⟨_, hrk⟩
        have hrl := slvR_len HVB.out.symm (List.mem_of_getElem? hrow)
        rw [← HN1.out] at hrl
        obtain ⟨u, hu, huo⟩ := hvr k row hrow
        rw [hrl] at huo
        obtain ⟨gu, cu, rfl⟩ := own_some huo (by omega)
        have hBw : B < w3.heap.size := by have := HM0.out; have := HS4.out; omega
        obtain ⟨ga, ca, efa⟩ := own_some hvo (by omega)
        simp at efa
        obtain ⟨rfl, rfl⟩ := efa
        have hl := (own_dnG hvo hBw d5).cellAt k (by omega)
        rw [hu] at hl
        have hcu : RdInts w5 (.slice (some ⟨gu, 0, none⟩) n1 cu) row := by
          have h := own_dnG huo hBw d5
          rw [← hrl] at h ⊢
          exact rdInts_of_own h
        have HR5 := Lib.hid r5
        have HX5 := Lib.hid (HX4.out.trans d5)
        have HD5 := Lib.hid (HD4.out.trans d5)
        have HCU := Lib.hid hcu
        have HROW := Lib.hid hrl
        clear hy0 hy1 r5 d5 hvo hvr hrk hrow hu huo hBw hcu hrl HO4 HR4 HX4 HD4
        go_wp2_with fail
        refine (scopyInts_at gu 0 n1 cu row w5 (by have := HROW.out; omega) HCU.out (by omega)).mono ?_
        rintro e w6 ⟨v6, rfl, o6, b6⟩
        rw [HROW.out] at o6
        obtain ⟨gx, cx, rfl⟩ := own_some o6 (by omega)
        have hcx : n1 ≤ cx ∧ cx ≤ 9223372036854775807 := by
          obtain ⟨a9, c9, e9, h9, h9'⟩ := own_form o6
          simp at e9
          unfold maxLen at h9'
          omega
        have HR6 := Lib.hid (HR5.out.below (b6.mono (by have := HR5.out.lt; omega)))
        have HD6 := Lib.hid (HD5.out.trans (Dn.of_below b6))
        have HO6 := Lib.hid (own_mono o6 HD5.out.size)
        clear o6 b6 hl HR5 HX5 HD5 HCU
        go_wp2_with fail
        refine (pick_dn n0 B (p + 1 + 1) 3 w6 HR6.out (by omega) (by omega) (by omega)).mono ?_
        rintro e w7 ⟨x7, rfl, hx70, hx71, r7, d7⟩
        have HR7 := Lib.hid r7
        have HD7 := Lib.hid (HD6.out.trans d7)
        have HO7 := Lib.hid (own_dnG HO6.out HM0.out d7)
        clear r7 d7 hx70 hx71 HR6 HD6 HO6
        cases hx7 : (x7 == 0)
        · go_wp2
          go_ret
          exact ⟨_, row, p + 1 + 1 + 1, rfl, by have := HROW.out; omega, by rw [HROW.out]; exact HO7.out, by omega, by omega, HR7.out, HD7.out⟩
        · go_wp2_with fail
          refine (pick_dn n0 B (p + 1 + 1 + 1) n1 w7 HR7.out (by omega) (by omega) (by omega)).mono ?_
          rintro e w8 ⟨y8, rfl, hy80, hy81, r8, d8⟩
          obtain ⟨k8, rfl⟩ := Int.eq_ofNat_of_zero_le hy80
          have hk8 : k8 < n1 := by omega
          have HR8 := Lib.hid r8
          have HD8 := Lib.hid (HD7.out.trans d8)
          have HO8 := Lib.hid (own_dnG HO7.out HM0.out d8)
          clear r8 d8 hy80 hy81 HR7 HD7 HO7
          go_wp2_with fail
          refine (pick_dn n0 B (p + 1 + 1 + 1 + 1) 6 w8 HR8.out (by omega) (by omega) (by omega)).mono ?_
          rintro e w9 ⟨y9, rfl, hy90, hy91, r9, d9⟩
          have HO9 := Lib.hid (own_dnG HO8.out HM0.out d9)
          have hc9 := HO9.out.cellAt k8 (by omega)
          rw [List.getElem?_map, List.getElem?_eq_getElem (by have := HROW.out; omega)] at hc9
          simp only [Option.map_some] at hc9
          have hf9 := HO9.out.frozenAt k8
          have hgx := (HO9.out.lt gx rfl).1
          have HDA := Lib.hid (dn_setC (C := gx) hgx (HD8.out.trans d9) k8 (.int .i64 y9))
          have HRA := Lib.hid (r9.below ((Below.refl (B + 1) w9).setCell (p := ⟨gx, k8, none⟩) (by show _ ≤ gx; have := HM0.out; omega) (.int .i64 y9)))
          have HOA : Hid ((w9.setCell ⟨gx, k8, none⟩ (.int .i64 y9)).ownsRow w.heap.size 3 1 (.slice (some ⟨gx, 0, none⟩) n1 cx) n1 ((row.set k8 y9).map (Value.int .i64))) := Lib.hid (by
            have := (HO9.out.stored k8 (.int .i64 y9)).1
            rw [List.map_set]
            exact this)
          clear r9 d9 hy90 hy91 HR8 HD8 HO8 HO9 hgx
          go_wp2
          go_ret
          exact ⟨_, row.set k8 y9, p + 1 + 1 + 1 + 1 + 1, rfl, by show (row.set k8 y9).length ≤ 5; rw [List.length_set]; have := HROW.out; omega, by rw [List.length_set, HROW.out]; exact HOA.out, by omega, by omega, HRA.out, HDA.out⟩
      · obtain rfl : nr = 0 := by omega
        obtain ⟨x0, x1⟩ := HBXK.out w4 HX4.out
        go_wp2_with fail
        refine (randomRow_some n0 B n1 (p + 1) w4 HR4.out (by omega) (by omega) (by omega)).mono ?_
        rintro e v1 ⟨v5, xs, q5, rfl, ⟨hxl, -⟩, o5, hq5, hq5', r5, d5, gx, cx, rfl⟩
        obtain ⟨nx, hnx⟩ : ∃ nx, nx = xs.length := ⟨_, rfl⟩
        rw [← hnx]
        have HNX := Lib.hid (show xs.length = nx ∧ nx ≤ 4 from ⟨hnx.symm, by omega⟩)
        have hcx : nx ≤ cx ∧ cx ≤ 9223372036854775807 := by
          obtain ⟨a9, c9, e9, h9, h9'⟩ := own_form o5
          simp at e9
          unfold maxLen at h9'
          omega
        have HD5 := Lib.hid (HD4.out.trans d5)
        have HO5 : Hid (v1.ownsRow w.heap.size 3 1 (.slice (some ⟨gx, 0, none⟩) nx cx) nx (xs.map (Value.int .i64))) := Lib.hid (by rw [hnx]; exact own_mono o5 HD4.out.size)
        have HR5 := Lib.hid r5
        have hq6 : 0 ≤ q5 ∧ q5 ≤ p + 30 := by omega
        have HQ6 : Hid (p ≤ q5 ∧ q5 ≤ p + 30) := Lib.hid (by omega)
        clear hxl o5 hq5 hq5' r5 d5 hnx x0 x1
        go_wp2_with fail
        refine (pick_dn n0 B q5 14 v1 HR5.out (by omega) (by omega) (by omega)).mono ?_
        rintro e v2 ⟨x9, rfl, hx0, hx1, r6, d6⟩
        have HD6 := Lib.hid (HD5.out.trans d6)
        have HO6 := Lib.hid (own_dnG HO5.out HM0.out d6)
        have HR6 := Lib.hid r6
        clear r6 d6 HO5 HR5 HD5 hx0 hx1
        cases hx9 : (x9 == 0)
        · go_wp2
          go_ret
          exact ⟨_, xs, q5 + 1, rfl, by have := HNX.out; omega, by rw [HNX.out.1]; exact HO6.out, by have := HQ6.out; omega, by have := HQ6.out; omega, HR6.out, HD6.out⟩
        · obtain ⟨V3, hV3⟩ : ∃ V3, v2.alloc (.cells #[.int .i64 0, .int .i64 6] 3) = V3 := ⟨_, rfl⟩
          have q3 : V3.heap[v2.heap.size]? = some (.cells #[.int .i64 0, .int .i64 6] 3) := by rw [← hV3]; exact World.alloc_heap_new _ _
          have hc3 : ∀ i, i < 2 → V3.cell? ⟨v2.heap.size, i, none⟩ = some (.int .i64 (([0, 6] : List Int)[i]?.getD 0)) := fun i hi => by
            simp only [World.cell?, q3]
            rcases (show i = 0 ∨ i = 1 by omega) with rfl | rfl <;> rfl
          have b3 : Below v2.heap.size v2 V3 := by rw [← hV3]; exact (Below.refl _ _).alloc (Nat.le_refl _) _
          have hRl := HR6.out.lt
          have HR7 := Lib.hid (HR6.out.below (b3.mono (by omega)))
          have HD7 := Lib.hid (HD6.out.trans (Dn.of_below b3))
          have HO7 := Lib.hid (own_below HO6.out b3)
          have HC3 := Lib.hid hc3
          have HV3 := Lib.hid hV3
          have HNE := Lib.hid (show v2.heap.size ≠ B by omega)
          clear hV3 q3 hc3 b3 hRl HO6 HR6 HD6
          go_wp2_with fail
          rw [HV3.out]
          refine (one_dn n0 B v2.heap.size 2 (q5 + 1) (fun i => ([0, 6] : List Int)[i]?.getD 0) V3 HR7.out (by omega) (by omega) (by omega) (by omega) HNE.out HC3.out).mono ?_
          rintro e v4 ⟨i4, hi4, rfl, r8, d8⟩
          obtain ⟨z, hz⟩ : ∃ z, z = ([0, 6] : List Int)[i4]?.getD 0 := ⟨_, rfl⟩
          simp only [← hz]
          have hown := own_dnG HO7.out HM0.out d8
          have hd8 := HD7.out.trans d8
          have HR8 := Lib.hid r8
          have hnl : nx ≤ 4 := HNX.out.2
          have hsz := hd8.size
          clear hz r8 d8 HO7 HR7 HD7 HC3 HV3 HNE
          go_wp2_with (at_builtin; refine wpList_append_own _ rfl _ _ 32 rfl w.heap.size 3 i0 (.int .i64 0) 1 8 Try.underlying32 hi hz0 hz1 hz2 rfl (by decide) _ _ _ rfl (hown.alloc _) ⟨v4.heap.size, 0, none⟩ 1 1 [.int .i64 z] rfl rfl (cell_one_new _ _ _) (by simp [Value.oneCell']) (by unfold maxLen; omega) (by omega) (by simp; omega) ?_; intro v' w6 hown' hgrow _)
          have hge : ∀ q, Value.ownBlock (.slice (some ⟨gx, 0, none⟩) nx cx) = some q → w.heap.size ≤ q := fun q e => (hown.lt q e).1
          have hd9 := (hd8.alloc (.cells #[.int .i64 z] 3)).grown hgrow hge
          have hb9 := ((Below.refl (B + 1) v4).alloc (by have := HM0.out; omega) (.cells #[.int .i64 z] 3)).grown hgrow (by simp; have := HM0.out; omega) (fun q e => by have := hge q e; have := HM0.out; omega)
          have HR9 := Lib.hid (HR8.out.below hb9)
          have HD9 := Lib.hid hd9
          have HO9 := Lib.hid hown'
          clear hown hown' hgrow hd8 hd9 hb9 hge HR8
          go_wp2
          go_ret
          exact ⟨_, xs ++ [z], q5 + 1 + 1, rfl, by have := HNX.out; simp; omega, by rw [List.length_append, List.map_append, HNX.out.1]; exact HO9.out, by have := HQ6.out; omega, by have := HQ6.out; omega, HR9.out, HD9.out⟩
    · have hx00 : x = 0 := by omega
      subst hx00
      obtain ⟨x0, x1⟩ := HBXK.out w3 HX3.out
      go_wp2_with fail
      refine (randomRow_some n0 B n1 (p + 1) w3 HR3.out (by omega) (by omega) (by omega)).mono ?_
      rintro e v1 ⟨v5, xs, q5, rfl, ⟨hxl, -⟩, o5, hq5, hq5', r5, d5, gx, cx, rfl⟩
      obtain ⟨nx, hnx⟩ : ∃ nx, nx = xs.length := ⟨_, rfl⟩
      rw [← hnx]
      have HNX := Lib.hid (show xs.length = nx ∧ nx ≤ 4 from ⟨hnx.symm, by omega⟩)
      have hcx : nx ≤ cx ∧ cx ≤ 9223372036854775807 := by
        obtain ⟨a9, c9, e9, h9, h9'⟩ := own_form o5
        simp at e9
        unfold maxLen at h9'
        omega
      have HD5 := Lib.hid (HD3.out.trans d5)
      have HO5 : Hid (v1.ownsRow w.heap.size 3 1 (.slice (some ⟨gx, 0, none⟩) nx cx) nx (xs.map (Value.int .i64))) := Lib.hid (by rw [hnx]; exact own_mono o5 HD3.out.size)
      have HR5 := Lib.hid r5
      have hq6 : 0 ≤ q5 ∧ q5 ≤ p + 30 := by omega
      have HQ6 : Hid (p ≤ q5 ∧ q5 ≤ p + 30) := Lib.hid (by omega)
      clear hxl o5 hq5 hq5' r5 d5 hnx x0 x1
      go_wp2_with fail
      refine (pick_dn n0 B q5 14 v1 HR5.out (by omega) (by omega) (by omega)).mono ?_
      rintro e v2 ⟨x9, rfl, hx0, hx1, r6, d6⟩
      have HD6 := Lib.hid (HD5.out.trans d6)
      have HO6 := Lib.hid (own_dnG HO5.out HM0.out d6)
      have HR6 := Lib.hid r6
      clear r6 d6 HO5 HR5 HD5 hx0 hx1
      cases hx9 : (x9 == 0)
      · go_wp2
        go_ret
        exact ⟨_, xs, q5 + 1, rfl, by have := HNX.out; omega, by rw [HNX.out.1]; exact HO6.out, by have := HQ6.out; omega, by have := HQ6.out; omega, HR6.out, HD6.out⟩
      · obtain ⟨V3, hV3⟩ : ∃ V3, v2.alloc (.cells #[.int .i64 0, .int .i64 6] 3) = V3 := ⟨_, rfl⟩
        have q3 : V3.heap[v2.heap.size]? = some (.cells #[.int .i64 0, .int .i64 6] 3) := by rw [← hV3]; exact World.alloc_heap_new _ _
        have hc3 : ∀ i, i < 2 → V3.cell? ⟨v2.heap.size, i, none⟩ = some (.int .i64 (([0, 6] : List Int)[i]?.getD 0)) := fun i hi => by
          simp only [World.cell?, q3]
          rcases (show i = 0 ∨ i = 1 by omega) with rfl | rfl <;> rfl
        have b3 : Below v2.heap.size v2 V3 := by rw [← hV3]; exact (Below.refl _ _).alloc (Nat.le_refl _) _
        have hRl := HR6.out.lt
        have HR7 := Lib.hid (HR6.out.below (b3.mono (by omega)))
        have HD7 := Lib.hid (HD6.out.trans (Dn.of_below b3))
        have HO7 := Lib.hid (own_below HO6.out b3)
        have HC3 := Lib.hid hc3
        have HV3 := Lib.hid hV3
        have HNE := Lib.hid (show v2.heap.size ≠ B by omega)
        clear hV3 q3 hc3 b3 hRl HO6 HR6 HD6
        go_wp2_with fail
        rw [HV3.out]
        refine (one_dn n0 B v2.heap.size 2 (q5 + 1) (fun i => ([0, 6] : List Int)[i]?.getD 0) V3 HR7.out (by omega) (by omega) (by omega) (by omega) HNE.out HC3.out).mono ?_
        rintro e v4 ⟨i4, hi4, rfl, r8, d8⟩
        obtain ⟨z, hz⟩ : ∃ z, z = ([0, 6] : List Int)[i4]?.getD 0 := ⟨_, rfl⟩
        simp only [← hz]
        have hown := own_dnG HO7.out HM0.out d8
        have hd8 := HD7.out.trans d8
        have HR8 := Lib.hid r8
        have hnl : nx ≤ 4 := HNX.out.2
        have hsz := hd8.size
        clear hz r8 d8 HO7 HR7 HD7 HC3 HV3 HNE
        go_wp2_with (at_builtin; refine wpList_append_own _ rfl _ _ 32 rfl w.heap.size 3 i0 (.int .i64 0) 1 8 Try.underlying32 hi hz0 hz1 hz2 rfl (by decide) _ _ _ rfl (hown.alloc _) ⟨v4.heap.size, 0, none⟩ 1 1 [.int .i64 z] rfl rfl (cell_one_new _ _ _) (by simp [Value.oneCell']) (by unfold maxLen; omega) (by omega) (by simp; omega) ?_; intro v' w6 hown' hgrow _)
        have hge : ∀ q, Value.ownBlock (.slice (some ⟨gx, 0, none⟩) nx cx) = some q → w.heap.size ≤ q := fun q e => (hown.lt q e).1
        have hd9 := (hd8.alloc (.cells #[.int .i64 z] 3)).grown hgrow hge
        have hb9 := ((Below.refl (B + 1) v4).alloc (by have := HM0.out; omega) (.cells #[.int .i64 z] 3)).grown hgrow (by simp; have := HM0.out; omega) (fun q e => by have := hge q e; have := HM0.out; omega)
        have HR9 := Lib.hid (HR8.out.below hb9)
        have HD9 := Lib.hid hd9
        have HO9 := Lib.hid hown'
        clear hown hown' hgrow hd8 hd9 hb9 hge HR8
        go_wp2
        go_ret
        exact ⟨_, xs ++ [z], q5 + 1 + 1, rfl, by have := HNX.out; simp; omega, by rw [List.length_append, List.map_append, HNX.out.1]; exact HO9.out, by have := HQ6.out; omega, by have := HQ6.out; omega, HR9.out, HD9.out⟩
end Go.Proofs.Ytjdbfiiaadphhaa
