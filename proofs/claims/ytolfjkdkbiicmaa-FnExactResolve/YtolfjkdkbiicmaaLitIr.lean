/- The program's Resolve. -/
import Derived.Test.YtolfjkdkbiicmaaLitMg
import Derived.Deep.RegionHeld3
namespace Go.Proofs.Ytolfjkdkbiicmaa
open Go.ChangeShapes Go.WideShapes Go.ChangeAt Go.RowKit Go.Deep Go.Shelf
set_option linter.unusedVariables false
set_option linter.unusedSimpArgs false

set_option maxRecDepth 100000 in
set_option maxHeartbeats 32000000 in
theorem iResolve_any (n : Int) (av bv : Value) (la lb : List Lit) (l : Lit) (w : World) (ha : RdLits w av la) (hb : RdLits w bv lb) :
    Calls Try.prog 62 #[.int .i64 n, av, bv, .agg #[.int .i64 l.var, .int .i64 l.val, .bool l.neg]] w (ResPost (rsL n la lb l) (rsB n la lb l) w) := by
  obtain ⟨aA, ca, ea, _⟩ := id ha
  obtain ⟨bA, cb, eb, _⟩ := id hb
  rw [ea] at ha ⊢
  rw [eb] at hb ⊢
  obtain ⟨ma, hma⟩ : ∃ m, m = la.length := ⟨_, rfl⟩
  obtain ⟨mb, hmb⟩ : ∃ m, m = lb.length := ⟨_, rfl⟩
  rw [← hma] at ha ⊢
  rw [← hmb] at hb ⊢
  obtain ⟨W, hW⟩ : ∃ W, w.alloc (.cells #[.int .i64 l.var, .int .i64 l.val, .bool l.neg] 47) = W := ⟨_, rfl⟩
  have bw : Below w.heap.size w W := by rw [← hW]; exact below1 _ _
  have HQ : Hid (LitCs w.heap.size l W) := Lib.hid (by rw [← hW]; exact (Blk3.new _ _ _ _ _).cell)
  have HA := Lib.hid (ha.below bw)
  have HX := Lib.hid (hb.below bw)
  have HB := Lib.hid bw
  have HW := Lib.hid hW
  have HVA := Lib.hid (iValidClause_any _ la n W HA.out)
  unfold BoolPost at HVA
  unfold ResPost
  clear ha hb ea eb hma hmb hW bw
  cases h1 : vclB la n
  · have HF : Hid (rsL n la lb l = [] ∧ rsB n la lb l = false) := Lib.hid (rs_none (by unfold rsO; rw [h1]; rfl))
    rw [h1] at HVA
    go_enter Try.func62, Try.ntmps62
    go_wp2_with fail
    rw [HW.out]
    refine HVA.out.mono ?_
    rintro e w2 ⟨rfl, b⟩
    have HB2 := Lib.hid (HB.out.trans (b.mono HB.out.size))
    have HA2 := Lib.hid (HA.out.below b)
    have HX2 := Lib.hid (HX.out.below b)
    have HQ_2 := Lib.hid (litCells_below HQ.out b)
    clear b
    go_wp2
    refine bodyPost_ret (results_tmp2 rfl _ _ _) rfl ?_
    refine ⟨.slice none 0 0, ?_, ?_, HB2.out⟩
    · rw [HF.out.2]
      rfl
    · rw [HF.out.1]
      exact ownC_nil _ _
  have HLA := Lib.hid (clB_len (vclB_cl h1))
  cases h2 : vclB lb n
  · have HF : Hid (rsL n la lb l = [] ∧ rsB n la lb l = false) := Lib.hid (rs_none (by unfold rsO; rw [h1, h2]; rfl))
    rw [h1] at HVA
    go_enter Try.func62, Try.ntmps62
    go_wp2_with fail
    rw [HW.out]
    refine HVA.out.mono ?_
    rintro e w2 ⟨rfl, b⟩
    have HB2 := Lib.hid (HB.out.trans (b.mono HB.out.size))
    have HA2 := Lib.hid (HA.out.below b)
    have HX2 := Lib.hid (HX.out.below b)
    have HQ_2 := Lib.hid (litCells_below HQ.out b)
    clear b
    go_wp2_with fail
    refine (iValidClause_any _ lb n w2 HX2.out).mono ?_
    rintro e w3 ⟨rfl, b⟩
    have HB3 := Lib.hid (HB2.out.trans (b.mono HB2.out.size))
    have HA3 := Lib.hid (HA2.out.below b)
    have HX3 := Lib.hid (HX2.out.below b)
    have HQ_3 := Lib.hid (litCells_below HQ_2.out b)
    clear b
    rw [h2]
    obtain ⟨t0, t1, t2⟩ := HQ_3.out
    clear t0 t1 t2
    go_wp2
    refine bodyPost_ret (results_tmp2 rfl _ _ _) rfl ?_
    refine ⟨.slice none 0 0, ?_, ?_, HB3.out⟩
    · rw [HF.out.2]
      rfl
    · rw [HF.out.1]
      exact ownC_nil _ _
  have HLB := Lib.hid (clB_len (vclB_cl h2))
  by_cases hla : l ∈ la
  · by_cases hlb : negL l ∈ lb
    · obtain ⟨q8, hq8⟩ : ∃ q, q = (mrgL (wioL la l) (wioL lb (negL l))).length := ⟨_, rfl⟩
      have HQ8 := Lib.hid hq8
      have HMG := Lib.hid (mgL_mrgL (wioL_asc (clB_asc (vclB_cl h1)) l) (wioL_asc (clB_asc (vclB_cl h2)) (negL l)))
      have HLW : Hid ((wioL la l).length + (wioL lb (negL l)).length ≤ 1000) := Lib.hid (by have := HLA.out; have := HLB.out; have := wioL_len la l; have := wioL_len lb (negL l); omega)
      have HRS : Hid (rsO n la lb l = if q8 ≤ 12 then some (mrgL (wioL la l) (wioL lb (negL l))) else none) := Lib.hid (by unfold rsO; rw [h1, h2, decide_eq_true hla, decide_eq_true hlb, ← hq8]; rfl)
      have h4 := decide_eq_true hla
      have h5 := decide_eq_true hlb
      clear hla hlb hq8
      by_cases h12 : q8 ≤ 12
      · have HF := Lib.hid (rs_some (HRS.out.trans (if_pos h12)))
        rw [h1] at HVA
        go_enter Try.func62, Try.ntmps62
        go_wp2_with fail
        rw [HW.out]
        refine HVA.out.mono ?_
        rintro e w2 ⟨rfl, b⟩
        have HB2 := Lib.hid (HB.out.trans (b.mono HB.out.size))
        have HA2 := Lib.hid (HA.out.below b)
        have HX2 := Lib.hid (HX.out.below b)
        have HQ_2 := Lib.hid (litCells_below HQ.out b)
        clear b
        go_wp2_with fail
        refine (iValidClause_any _ lb n w2 HX2.out).mono ?_
        rintro e w3 ⟨rfl, b⟩
        have HB3 := Lib.hid (HB2.out.trans (b.mono HB2.out.size))
        have HA3 := Lib.hid (HA2.out.below b)
        have HX3 := Lib.hid (HX2.out.below b)
        have HQ_3 := Lib.hid (litCells_below HQ_2.out b)
        clear b
        rw [h2]
        obtain ⟨t0, t1, t2⟩ := HQ_3.out
        go_wp2_with fail
        refine (containsL_any _ la l w3 HA3.out).mono ?_
        rintro e w4 ⟨rfl, b⟩
        have HB4 := Lib.hid (HB3.out.trans (b.mono HB3.out.size))
        have HA4 := Lib.hid (HA3.out.below b)
        have HX4 := Lib.hid (HX3.out.below b)
        have HQ_4 := Lib.hid (litCells_below HQ_3.out b)
        clear b
        rw [h4]
        clear t0 t1 t2
        obtain ⟨t0, t1, t2⟩ := HQ_4.out
        go_wp2_with fail
        refine (negation_any l w4).mono ?_
        rintro e w5 ⟨rfl, b⟩
        have HB5 := Lib.hid (HB4.out.trans (b.mono HB4.out.size))
        have HA5 := Lib.hid (HA4.out.below b)
        have HX5 := Lib.hid (HX4.out.below b)
        have HQ_5 := Lib.hid (litCells_below HQ_4.out b)
        clear b
        clear t0 t1 t2
        go_wp2_with fail
        refine (containsL_any _ lb (negL l) w5 HX5.out).mono ?_
        rintro e w6 ⟨rfl, b⟩
        have HB6 := Lib.hid (HB5.out.trans (b.mono HB5.out.size))
        have HA6 := Lib.hid (HA5.out.below b)
        have HX6 := Lib.hid (HX5.out.below b)
        have HQ_6 := Lib.hid (litCells_below HQ_5.out b)
        clear b
        rw [h5]
        go_wp2_with fail
        obtain ⟨s0, s1, s2⟩ := HQ_6.out
        have HBD := Lib.hid HB6.out.drew
        have HAD := Lib.hid (HA6.out.below (Below.refl _ _).drew)
        have HXD := Lib.hid (HX6.out.below (Below.refl _ _).drew)
        have HS7 := Lib.hid (iwithout_any _ la l w6.drew HAD.out (by have := HLA.out; omega))
        go_region_held3 (fun w' => w'.cell? ⟨w.heap.size, 0, none⟩ = some (.int .i64 l.var) ∧ w'.cell? ⟨w.heap.size, 1, none⟩ = some (.int .i64 l.val) ∧ w'.cell? ⟨w.heap.size, 2, none⟩ = some (.bool l.neg)) (first | exact ⟨s0, s1, s2⟩ | exact ⟨x0, x1, x2⟩ | exact ⟨y0, y1, y2⟩ | exact ⟨z0, z1, z2⟩ | exact ⟨p0, p1, p2⟩) (first | (go_at_call 131; refine (merged_any _ _ (wioL la l) (wioL lb (negL l)) w9 HO7'.out.rd HO9.out.rd (by have := HLW.out; omega)).mono ?_; rintro e w10 ⟨v10, rfl, oc, b⟩; rw [HMG.out, ← HQ8.out] at oc; obtain ⟨a10, c10, e10⟩ := oc.slice; subst e10; have HO10 := Lib.hid (oc.mono HB9.out.size); have HB10 := Lib.hid (HB9.out.trans (b.mono HB9.out.size)); have p0 := (b.cell (World.block_lt_of_cell? w9 _ z0)).trans z0; have p1 := (b.cell (World.block_lt_of_cell? w9 _ z1)).trans z1; have p2 := (b.cell (World.block_lt_of_cell? w9 _ z2)).trans z2; clear b oc) | (go_at_call 132; refine (iwithout_any _ lb (negL l) w8 HX8.out (by have := HLB.out; omega)).mono ?_; rintro e w9 ⟨v9, rfl, oc, b⟩; obtain ⟨a9, n9, c9, e9⟩ := oc.slice3; subst e9; have HO9 := Lib.hid oc; have HO7' := Lib.hid ((HO7.out.below B8.out).below b); have HB9 := Lib.hid (HB8.out.trans (b.mono HB8.out.size)); have z0 := (b.cell (World.block_lt_of_cell? w8 _ y0)).trans y0; have z1 := (b.cell (World.block_lt_of_cell? w8 _ y1)).trans y1; have z2 := (b.cell (World.block_lt_of_cell? w8 _ y2)).trans y2; clear b oc) | (go_at_call 130; refine (negation_any l w7).mono ?_; rintro e w8 ⟨rfl, b⟩; have B8 := Lib.hid b; have HX8 := Lib.hid (HX7.out.below b); have HB8 := Lib.hid (HB7.out.trans (b.mono HB7.out.size)); have y0 := (b.cell (World.block_lt_of_cell? w7 _ x0)).trans x0; have y1 := (b.cell (World.block_lt_of_cell? w7 _ x1)).trans x1; have y2 := (b.cell (World.block_lt_of_cell? w7 _ x2)).trans x2; clear b) | (go_at_call 132; refine HS7.out.mono ?_; rintro e w7 ⟨v7, rfl, oc, b⟩; obtain ⟨a7, n7, c7, e7⟩ := oc.slice3; subst e7; have HO7 := Lib.hid oc; have HX7 := Lib.hid (HXD.out.below b); have HB7 := Lib.hid (HBD.out.trans (b.mono HBD.out.size)); have x0 := (b.cell (World.block_lt_of_cell? w6.drew _ s0)).trans s0; have x1 := (b.cell (World.block_lt_of_cell? w6.drew _ s1)).trans s1; have x2 := (b.cell (World.block_lt_of_cell? w6.drew _ s2)).trans s2; clear b oc))
        all_goals go_wp2
        all_goals refine bodyPost_ret (results_tmp2 rfl _ _ _) rfl ?_
        all_goals refine ⟨.slice a10 q8 c10, by rw [HF.out.2]; rfl, ?_, HB10.out⟩
        all_goals rw [HF.out.1, ← HQ8.out]
        all_goals exact HO10.out
      · have h12' : ¬ ((q8 : Int) ≤ 12) := by omega
        have HF := Lib.hid (rs_none (HRS.out.trans (if_neg h12)))
        rw [h1] at HVA
        go_enter Try.func62, Try.ntmps62
        go_wp2_with fail
        rw [HW.out]
        refine HVA.out.mono ?_
        rintro e w2 ⟨rfl, b⟩
        have HB2 := Lib.hid (HB.out.trans (b.mono HB.out.size))
        have HA2 := Lib.hid (HA.out.below b)
        have HX2 := Lib.hid (HX.out.below b)
        have HQ_2 := Lib.hid (litCells_below HQ.out b)
        clear b
        go_wp2_with fail
        refine (iValidClause_any _ lb n w2 HX2.out).mono ?_
        rintro e w3 ⟨rfl, b⟩
        have HB3 := Lib.hid (HB2.out.trans (b.mono HB2.out.size))
        have HA3 := Lib.hid (HA2.out.below b)
        have HX3 := Lib.hid (HX2.out.below b)
        have HQ_3 := Lib.hid (litCells_below HQ_2.out b)
        clear b
        rw [h2]
        obtain ⟨t0, t1, t2⟩ := HQ_3.out
        go_wp2_with fail
        refine (containsL_any _ la l w3 HA3.out).mono ?_
        rintro e w4 ⟨rfl, b⟩
        have HB4 := Lib.hid (HB3.out.trans (b.mono HB3.out.size))
        have HA4 := Lib.hid (HA3.out.below b)
        have HX4 := Lib.hid (HX3.out.below b)
        have HQ_4 := Lib.hid (litCells_below HQ_3.out b)
        clear b
        rw [h4]
        clear t0 t1 t2
        obtain ⟨t0, t1, t2⟩ := HQ_4.out
        go_wp2_with fail
        refine (negation_any l w4).mono ?_
        rintro e w5 ⟨rfl, b⟩
        have HB5 := Lib.hid (HB4.out.trans (b.mono HB4.out.size))
        have HA5 := Lib.hid (HA4.out.below b)
        have HX5 := Lib.hid (HX4.out.below b)
        have HQ_5 := Lib.hid (litCells_below HQ_4.out b)
        clear b
        clear t0 t1 t2
        go_wp2_with fail
        refine (containsL_any _ lb (negL l) w5 HX5.out).mono ?_
        rintro e w6 ⟨rfl, b⟩
        have HB6 := Lib.hid (HB5.out.trans (b.mono HB5.out.size))
        have HA6 := Lib.hid (HA5.out.below b)
        have HX6 := Lib.hid (HX5.out.below b)
        have HQ_6 := Lib.hid (litCells_below HQ_5.out b)
        clear b
        rw [h5]
        go_wp2_with fail
        obtain ⟨s0, s1, s2⟩ := HQ_6.out
        have HBD := Lib.hid HB6.out.drew
        have HAD := Lib.hid (HA6.out.below (Below.refl _ _).drew)
        have HXD := Lib.hid (HX6.out.below (Below.refl _ _).drew)
        have HS7 := Lib.hid (iwithout_any _ la l w6.drew HAD.out (by have := HLA.out; omega))
        go_region_held3 (fun w' => w'.cell? ⟨w.heap.size, 0, none⟩ = some (.int .i64 l.var) ∧ w'.cell? ⟨w.heap.size, 1, none⟩ = some (.int .i64 l.val) ∧ w'.cell? ⟨w.heap.size, 2, none⟩ = some (.bool l.neg)) (first | exact ⟨s0, s1, s2⟩ | exact ⟨x0, x1, x2⟩ | exact ⟨y0, y1, y2⟩ | exact ⟨z0, z1, z2⟩ | exact ⟨p0, p1, p2⟩) (first | (go_at_call 131; refine (merged_any _ _ (wioL la l) (wioL lb (negL l)) w9 HO7'.out.rd HO9.out.rd (by have := HLW.out; omega)).mono ?_; rintro e w10 ⟨v10, rfl, oc, b⟩; rw [HMG.out, ← HQ8.out] at oc; obtain ⟨a10, c10, e10⟩ := oc.slice; subst e10; have HO10 := Lib.hid (oc.mono HB9.out.size); have HB10 := Lib.hid (HB9.out.trans (b.mono HB9.out.size)); have p0 := (b.cell (World.block_lt_of_cell? w9 _ z0)).trans z0; have p1 := (b.cell (World.block_lt_of_cell? w9 _ z1)).trans z1; have p2 := (b.cell (World.block_lt_of_cell? w9 _ z2)).trans z2; clear b oc) | (go_at_call 132; refine (iwithout_any _ lb (negL l) w8 HX8.out (by have := HLB.out; omega)).mono ?_; rintro e w9 ⟨v9, rfl, oc, b⟩; obtain ⟨a9, n9, c9, e9⟩ := oc.slice3; subst e9; have HO9 := Lib.hid oc; have HO7' := Lib.hid ((HO7.out.below B8.out).below b); have HB9 := Lib.hid (HB8.out.trans (b.mono HB8.out.size)); have z0 := (b.cell (World.block_lt_of_cell? w8 _ y0)).trans y0; have z1 := (b.cell (World.block_lt_of_cell? w8 _ y1)).trans y1; have z2 := (b.cell (World.block_lt_of_cell? w8 _ y2)).trans y2; clear b oc) | (go_at_call 130; refine (negation_any l w7).mono ?_; rintro e w8 ⟨rfl, b⟩; have B8 := Lib.hid b; have HX8 := Lib.hid (HX7.out.below b); have HB8 := Lib.hid (HB7.out.trans (b.mono HB7.out.size)); have y0 := (b.cell (World.block_lt_of_cell? w7 _ x0)).trans x0; have y1 := (b.cell (World.block_lt_of_cell? w7 _ x1)).trans x1; have y2 := (b.cell (World.block_lt_of_cell? w7 _ x2)).trans x2; clear b) | (go_at_call 132; refine HS7.out.mono ?_; rintro e w7 ⟨v7, rfl, oc, b⟩; obtain ⟨a7, n7, c7, e7⟩ := oc.slice3; subst e7; have HO7 := Lib.hid oc; have HX7 := Lib.hid (HXD.out.below b); have HB7 := Lib.hid (HBD.out.trans (b.mono HBD.out.size)); have x0 := (b.cell (World.block_lt_of_cell? w6.drew _ s0)).trans s0; have x1 := (b.cell (World.block_lt_of_cell? w6.drew _ s1)).trans s1; have x2 := (b.cell (World.block_lt_of_cell? w6.drew _ s2)).trans s2; clear b oc))
        all_goals go_wp2
        all_goals refine bodyPost_ret (results_tmp2 rfl _ _ _) rfl ?_
        all_goals refine ⟨.slice none 0 0, by rw [HF.out.2]; rfl, ?_, HB10.out⟩
        all_goals rw [HF.out.1]
        all_goals exact ownC_nil _ _
    · have HF : Hid (rsL n la lb l = [] ∧ rsB n la lb l = false) := Lib.hid (rs_none (by unfold rsO; rw [h1, h2, decide_eq_false hlb]; simp))
      have h4 := decide_eq_true hla
      have h5 := decide_eq_false hlb
      clear hla hlb
      rw [h1] at HVA
      go_enter Try.func62, Try.ntmps62
      go_wp2_with fail
      rw [HW.out]
      refine HVA.out.mono ?_
      rintro e w2 ⟨rfl, b⟩
      have HB2 := Lib.hid (HB.out.trans (b.mono HB.out.size))
      have HA2 := Lib.hid (HA.out.below b)
      have HX2 := Lib.hid (HX.out.below b)
      have HQ_2 := Lib.hid (litCells_below HQ.out b)
      clear b
      go_wp2_with fail
      refine (iValidClause_any _ lb n w2 HX2.out).mono ?_
      rintro e w3 ⟨rfl, b⟩
      have HB3 := Lib.hid (HB2.out.trans (b.mono HB2.out.size))
      have HA3 := Lib.hid (HA2.out.below b)
      have HX3 := Lib.hid (HX2.out.below b)
      have HQ_3 := Lib.hid (litCells_below HQ_2.out b)
      clear b
      rw [h2]
      obtain ⟨t0, t1, t2⟩ := HQ_3.out
      go_wp2_with fail
      refine (containsL_any _ la l w3 HA3.out).mono ?_
      rintro e w4 ⟨rfl, b⟩
      have HB4 := Lib.hid (HB3.out.trans (b.mono HB3.out.size))
      have HA4 := Lib.hid (HA3.out.below b)
      have HX4 := Lib.hid (HX3.out.below b)
      have HQ_4 := Lib.hid (litCells_below HQ_3.out b)
      clear b
      rw [h4]
      clear t0 t1 t2
      obtain ⟨t0, t1, t2⟩ := HQ_4.out
      go_wp2_with fail
      refine (negation_any l w4).mono ?_
      rintro e w5 ⟨rfl, b⟩
      have HB5 := Lib.hid (HB4.out.trans (b.mono HB4.out.size))
      have HA5 := Lib.hid (HA4.out.below b)
      have HX5 := Lib.hid (HX4.out.below b)
      have HQ_5 := Lib.hid (litCells_below HQ_4.out b)
      clear b
      clear t0 t1 t2
      go_wp2_with fail
      refine (containsL_any _ lb (negL l) w5 HX5.out).mono ?_
      rintro e w6 ⟨rfl, b⟩
      have HB6 := Lib.hid (HB5.out.trans (b.mono HB5.out.size))
      have HA6 := Lib.hid (HA5.out.below b)
      have HX6 := Lib.hid (HX5.out.below b)
      have HQ_6 := Lib.hid (litCells_below HQ_5.out b)
      clear b
      rw [h5]
      go_wp2
      refine bodyPost_ret (results_tmp2 rfl _ _ _) rfl ?_
      refine ⟨.slice none 0 0, ?_, ?_, HB6.out⟩
      · rw [HF.out.2]
        rfl
      · rw [HF.out.1]
        exact ownC_nil _ _
  · have HF : Hid (rsL n la lb l = [] ∧ rsB n la lb l = false) := Lib.hid (rs_none (by unfold rsO; rw [h1, h2, decide_eq_false hla]; rfl))
    have h4 := decide_eq_false hla
    clear hla
    rw [h1] at HVA
    go_enter Try.func62, Try.ntmps62
    go_wp2_with fail
    rw [HW.out]
    refine HVA.out.mono ?_
    rintro e w2 ⟨rfl, b⟩
    have HB2 := Lib.hid (HB.out.trans (b.mono HB.out.size))
    have HA2 := Lib.hid (HA.out.below b)
    have HX2 := Lib.hid (HX.out.below b)
    have HQ_2 := Lib.hid (litCells_below HQ.out b)
    clear b
    go_wp2_with fail
    refine (iValidClause_any _ lb n w2 HX2.out).mono ?_
    rintro e w3 ⟨rfl, b⟩
    have HB3 := Lib.hid (HB2.out.trans (b.mono HB2.out.size))
    have HA3 := Lib.hid (HA2.out.below b)
    have HX3 := Lib.hid (HX2.out.below b)
    have HQ_3 := Lib.hid (litCells_below HQ_2.out b)
    clear b
    rw [h2]
    obtain ⟨t0, t1, t2⟩ := HQ_3.out
    go_wp2_with fail
    refine (containsL_any _ la l w3 HA3.out).mono ?_
    rintro e w4 ⟨rfl, b⟩
    have HB4 := Lib.hid (HB3.out.trans (b.mono HB3.out.size))
    have HA4 := Lib.hid (HA3.out.below b)
    have HX4 := Lib.hid (HX3.out.below b)
    have HQ_4 := Lib.hid (litCells_below HQ_3.out b)
    clear b
    rw [h4]
    clear t0 t1 t2
    go_wp2
    refine bodyPost_ret (results_tmp2 rfl _ _ _) rfl ?_
    refine ⟨.slice none 0 0, ?_, ?_, HB4.out⟩
    · rw [HF.out.2]
      rfl
    · rw [HF.out.1]
      exact ownC_nil _ _
end Go.Proofs.Ytolfjkdkbiicmaa
