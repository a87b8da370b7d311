/- Resolve as plain data; the reference's. -/
import Derived.Test.YtolfjkdkbiicmaaLitR
import Derived.Test.YtolfjkdkbiicmaaLitF
import Derived.Deep.RegionHeld3
namespace Go.Proofs.Ytolfjkdkbiicmaa
open Go.ChangeShapes Go.WideShapes Go.ChangeAt Go.RowKit Go.Deep Go.Shelf
set_option linter.unusedVariables false
set_option linter.unusedSimpArgs false

def negL (l : Lit) : Lit := ⟨l.var, l.val, !l.neg⟩
/-- The resolvent. -/
def rsO (n : Int) (a b : List Lit) (l : Lit) : Option (List Lit) :=
  if vclB a n && vclB b n && decide (l ∈ a) && decide (negL l ∈ b) then (if (mrgL (wioL a l) (wioL b (negL l))).length ≤ 12 then some (mrgL (wioL a l) (wioL b (negL l))) else none) else none
def rsL (n : Int) (a b : List Lit) (l : Lit) : List Lit := (rsO n a b l).getD []
def rsB (n : Int) (a b : List Lit) (l : Lit) : Bool := (rsO n a b l).isSome
theorem rsL_le (n : Int) (a b : List Lit) (l : Lit) : (rsL n a b l).length ≤ 1048576 := by
  unfold rsL rsO
  split
  · split
    · rename_i h; simp; omega
    · simp
  · simp
/-- What Resolve leaves. -/
def ResPost (ls : List Lit) (t : Bool) (w : World) (e : Ending) (w' : World) : Prop := ∃ v, e = .returned (.tuple #[v, .bool t]) ∧ OwnC w' w.heap.size v ls.length ls ∧ Below w.heap.size w w'
theorem rs_none {n : Int} {a b : List Lit} {l : Lit} (h : rsO n a b l = none) : rsL n a b l = [] ∧ rsB n a b l = false := by
  unfold rsL rsB
  rw [h]
  exact ⟨rfl, rfl⟩
theorem rs_some {n : Int} {a b : List Lit} {l : Lit} {out : List Lit} (h : rsO n a b l = some out) : rsL n a b l = out ∧ rsB n a b l = true := by
  unfold rsL rsB
  rw [h]
  exact ⟨rfl, rfl⟩
theorem ownC_nil (w : World) (B : Nat) : OwnC w B (.slice none 0 0) ([] : List Lit).length [] := ⟨rfl, World.ownsRow_nil _ _ _ _⟩

set_option maxRecDepth 100000 in
set_option maxHeartbeats 32000000 in
theorem sResolve_any (n : Int) (av bv : Value) (la lb : List Lit) (l : Lit) (w : World) (ha : RdLits w av la) (hb : RdLits w bv lb) :
    Calls Try.prog 59 #[.int .i64 n, av, bv, .agg #[.int .i64 l.var, .int .i64 l.val, .bool l.neg]] w (ResPost (rsL n la lb l) (rsB n la lb l) w) := by
  obtain ⟨aA, ca, ea, _⟩ := id ha
  obtain ⟨bA, cb, eb, _⟩ := id hb
  rw [ea] at ha ⊢
  rw [eb] at hb ⊢
  obtain ⟨ma, hma⟩ : ∃ m, m = la.length := ⟨_, rfl⟩
  obtain ⟨mb, hmb⟩ : ∃ m, m = lb.length := ⟨_, rfl⟩
  rw [← hma] at ha ⊢
  rw [← hmb] at hb ⊢
  obtain ⟨W0, hW0⟩ : ∃ W0, w.alloc (.cells #[.int .i64 l.var, .int .i64 l.val, .bool l.neg] 47) = W0 := ⟨_, rfl⟩
  obtain ⟨W, hW⟩ : ∃ W, W0.alloc (.cells #[.int .i64 l.var, .int .i64 l.val, .bool !l.neg] 47) = W := ⟨_, rfl⟩
  have b0 : Below w.heap.size w W0 := by rw [← hW0]; exact below1 _ _
  have b1 : Below W0.heap.size W0 W := by rw [← hW]; exact below1 _ _
  have hs0 : W0.heap.size = w.heap.size + 1 := by rw [← hW0, World.size_alloc]
  have HQ : Hid (LitCs w.heap.size l W) := Lib.hid (litCells_below (by rw [← hW0]; exact (Blk3.new _ _ _ _ _).cell) b1)
  have HQ2 : Hid (LitCs (w.heap.size + 1) (negL l) W) := Lib.hid (by rw [← hs0, ← hW]; exact (Blk3.new _ _ _ _ _).cell)
  have bw : Below w.heap.size w W := b0.trans (b1.mono b0.size)
  have HA := Lib.hid (ha.below bw)
  have HX := Lib.hid (hb.below bw)
  have HB := Lib.hid bw
  have HW0 := Lib.hid hW0
  have HW := Lib.hid hW
  have HMA := Lib.hid hma
  have HMB := Lib.hid hmb
  have HVA := Lib.hid (sValidClause_any _ la n W HA.out)
  unfold BoolPost at HVA
  unfold ResPost
  clear ha hb ea eb hma hmb hW hW0 b0 b1 bw hs0
  cases h1 : vclB la n
  · have HF : Hid (rsL n la lb l = [] ∧ rsB n la lb l = false) := Lib.hid (rs_none (by unfold rsO; rw [h1]; rfl))
    rw [h1] at HVA
    go_enter Try.func59, Try.ntmps59
    go_wp2_with fail
    rw [HW0.out, HW.out]
    refine HVA.out.mono ?_
    rintro e w2 ⟨rfl, b⟩
    have HB2 := Lib.hid (HB.out.trans (b.mono HB.out.size))
    have HA2 := Lib.hid (HA.out.below b)
    have HX2 := Lib.hid (HX.out.below b)
    have HQ_2 := Lib.hid (litCells_below HQ.out b)
    have HR_2 := Lib.hid (litCells_below HQ2.out b)
    clear b
    go_wp2
    refine bodyPost_ret (results_tmp2 rfl _ _ _) rfl ?_
    refine ⟨.slice none 0 0, ?_, ?_, HB2.out⟩
    · rw [HF.out.2]
      rfl
    · rw [HF.out.1]
      exact ownC_nil _ _
  have HLA := Lib.hid (clB_len (vclB_cl h1))
  cases h2 : vclB lb n
  · have HF : Hid (rsL n la lb l = [] ∧ rsB n la lb l = false) := Lib.hid (rs_none (by unfold rsO; rw [h1, h2]; rfl))
    rw [h1] at HVA
    go_enter Try.func59, Try.ntmps59
    go_wp2_with fail
    rw [HW0.out, HW.out]
    refine HVA.out.mono ?_
    rintro e w2 ⟨rfl, b⟩
    have HB2 := Lib.hid (HB.out.trans (b.mono HB.out.size))
    have HA2 := Lib.hid (HA.out.below b)
    have HX2 := Lib.hid (HX.out.below b)
    have HQ_2 := Lib.hid (litCells_below HQ.out b)
    have HR_2 := Lib.hid (litCells_below HQ2.out b)
    clear b
    go_wp2_with fail
    refine (sValidClause_any _ lb n w2 HX2.out).mono ?_
    rintro e w3 ⟨rfl, b⟩
    have HB3 := Lib.hid (HB2.out.trans (b.mono HB2.out.size))
    have HA3 := Lib.hid (HA2.out.below b)
    have HX3 := Lib.hid (HX2.out.below b)
    have HQ_3 := Lib.hid (litCells_below HQ_2.out b)
    have HR_3 := Lib.hid (litCells_below HR_2.out b)
    clear b
    rw [h2]
    obtain ⟨t0, t1, t2⟩ := HQ_3.out
    clear t0 t1 t2
    go_wp2
    refine bodyPost_ret (results_tmp2 rfl _ _ _) rfl ?_
    refine ⟨.slice none 0 0, ?_, ?_, HB3.out⟩
    · rw [HF.out.2]
      rfl
    · rw [HF.out.1]
      exact ownC_nil _ _
  have HLB := Lib.hid (clB_len (vclB_cl h2))
  obtain ⟨q4, hq4⟩ : ∃ q, q = (wioL la l).length := ⟨_, rfl⟩
  obtain ⟨q5, hq5⟩ : ∃ q, q = (wioL lb (negL l)).length := ⟨_, rfl⟩
  have HE4 : Hid (((q4 : Int) == (ma : Int)) = !decide (l ∈ la)) := Lib.hid (by
    rw [← wioL_same la l, ← hq4, ← HMA.out]
    exact decide_eq_decide.2 (by omega))
  have HE5 : Hid (((q5 : Int) == (mb : Int)) = !decide (negL l ∈ lb)) := Lib.hid (by
    rw [← wioL_same lb (negL l), ← hq5, ← HMB.out]
    exact decide_eq_decide.2 (by omega))
  have HQ4 := Lib.hid hq4
  have HQ5 := Lib.hid hq5
  clear hq4 hq5
  by_cases hla : l ∈ la
  · have h4 : ((q4 : Int) == (ma : Int)) = false := by rw [HE4.out, decide_eq_true hla]; rfl
    by_cases hlb : negL l ∈ lb
    · have h5 : ((q5 : Int) == (mb : Int)) = false := by rw [HE5.out, decide_eq_true hlb]; rfl
      obtain ⟨q8, hq8⟩ : ∃ q, q = (mrgL (wioL la l) (wioL lb (negL l))).length := ⟨_, rfl⟩
      have HQ8 := Lib.hid hq8
      have HASC := Lib.hid (wioL_asc (clB_asc (vclB_cl h1)) l)
      have HLW : Hid ((wioL la l).length ≤ 1000 ∧ (wioL lb (negL l)).length ≤ 1000) := Lib.hid (by have := HLA.out; have := HLB.out; have := wioL_len la l; have := wioL_len lb (negL l); omega)
      have HRS : Hid (rsO n la lb l = if q8 ≤ 12 then some (mrgL (wioL la l) (wioL lb (negL l))) else none) := Lib.hid (by unfold rsO; rw [h1, h2, decide_eq_true hla, decide_eq_true hlb, ← hq8]; rfl)
      clear hla hlb hq8
      by_cases h12 : q8 ≤ 12
      · have HF := Lib.hid (rs_some (HRS.out.trans (if_pos h12)))
        rw [h1] at HVA
        go_enter Try.func59, Try.ntmps59
        go_wp2_with fail
        rw [HW0.out, HW.out]
        refine HVA.out.mono ?_
        rintro e w2 ⟨rfl, b⟩
        have HB2 := Lib.hid (HB.out.trans (b.mono HB.out.size))
        have HA2 := Lib.hid (HA.out.below b)
        have HX2 := Lib.hid (HX.out.below b)
        have HQ_2 := Lib.hid (litCells_below HQ.out b)
        have HR_2 := Lib.hid (litCells_below HQ2.out b)
        clear b
        go_wp2_with fail
        refine (sValidClause_any _ lb n w2 HX2.out).mono ?_
        rintro e w3 ⟨rfl, b⟩
        have HB3 := Lib.hid (HB2.out.trans (b.mono HB2.out.size))
        have HA3 := Lib.hid (HA2.out.below b)
        have HX3 := Lib.hid (HX2.out.below b)
        have HQ_3 := Lib.hid (litCells_below HQ_2.out b)
        have HR_3 := Lib.hid (litCells_below HR_2.out b)
        clear b
        rw [h2]
        obtain ⟨t0, t1, t2⟩ := HQ_3.out
        go_wp2_with fail
        refine (swithout_any _ la l w3 HA3.out (by have := HLA.out; omega)).mono ?_
        rintro e w4 ⟨v4, rfl, own4, b⟩
        obtain ⟨_, g4, c4, ev4, _⟩ := id own4
        rw [← HQ4.out] at ev4
        subst ev4
        have HB4 := Lib.hid (HB3.out.trans (b.mono HB3.out.size))
        have HA4 := Lib.hid (HA3.out.below b)
        have HX4 := Lib.hid (HX3.out.below b)
        have HQ_4 := Lib.hid (litCells_below HQ_3.out b)
        have HR_4 := Lib.hid (litCells_below HR_3.out b)
        clear b own4 t0 t1 t2
        obtain ⟨t0, t1, t2⟩ := HR_4.out
        go_wp2_with fail
        refine (swithout_any _ lb (negL l) w4 HX4.out (by have := HLB.out; omega)).mono ?_
        rintro e w5 ⟨v5, rfl, own5, b⟩
        obtain ⟨_, g5, c5, ev5, _⟩ := id own5
        rw [← HQ5.out] at ev5
        subst ev5
        have HB5 := Lib.hid (HB4.out.trans (b.mono HB4.out.size))
        have HA5 := Lib.hid (HA4.out.below b)
        have HX5 := Lib.hid (HX4.out.below b)
        have HQ_5 := Lib.hid (litCells_below HQ_4.out b)
        have HR_5 := Lib.hid (litCells_below HR_4.out b)
        clear b own5 t0 t1 t2
        go_wp2_with fail
        obtain ⟨s0, s1, s2⟩ := HQ_5.out
        obtain ⟨u0, u1, u2⟩ := HR_5.out
        have HBD := Lib.hid HB5.out.drew
        have HAD := Lib.hid (HA5.out.below (Below.refl _ _).drew)
        have HXD := Lib.hid (HX5.out.below (Below.refl _ _).drew)
        have HS6 := Lib.hid (swithout_any _ la l w5.drew HAD.out (by have := HLA.out; omega))
        go_region_held3 (fun w' => w'.cell? ⟨w.heap.size, 0, none⟩ = some (.int .i64 l.var) ∧ w'.cell? ⟨w.heap.size, 1, none⟩ = some (.int .i64 l.val) ∧ w'.cell? ⟨w.heap.size, 2, none⟩ = some (.bool l.neg) ∧ w'.cell? ⟨w.heap.size + 1, 0, none⟩ = some (.int .i64 (negL l).var) ∧ w'.cell? ⟨w.heap.size + 1, 1, none⟩ = some (.int .i64 (negL l).val) ∧ w'.cell? ⟨w.heap.size + 1, 2, none⟩ = some (.bool (negL l).neg)) (first | exact ⟨s0, s1, s2, u0, u1, u2⟩ | exact ⟨x0, x1, x2, x3, x4, x5⟩ | exact ⟨y0, y1, y2, y3, y4, y5⟩ | exact ⟨z0, z1, z2, z3, z4, z5⟩) (first | (go_at_call 102; refine (smerge_any _ _ (wioL la l) (wioL lb (negL l)) w7 HO6'.out.rd HO7.out.rd (by have := HLW.out; omega) (by have := HLW.out; omega) HASC.out).mono ?_; rintro e w8 ⟨v8, rfl, own8, b⟩; obtain ⟨_, g8, c8, ev8, _⟩ := id own8; rw [← HQ8.out] at ev8; subst ev8; have HO8 := Lib.hid own8; have HB8 := Lib.hid (HB7.out.trans (b.mono HB7.out.size)); have HS8 := Lib.hid HB7.out.size; have z0 := (b.cell (World.block_lt_of_cell? w7 _ y0)).trans y0; have z1 := (b.cell (World.block_lt_of_cell? w7 _ y1)).trans y1; have z2 := (b.cell (World.block_lt_of_cell? w7 _ y2)).trans y2; have z3 := (b.cell (World.block_lt_of_cell? w7 _ y3)).trans y3; have z4 := (b.cell (World.block_lt_of_cell? w7 _ y4)).trans y4; have z5 := (b.cell (World.block_lt_of_cell? w7 _ y5)).trans y5; clear b own8) | (go_at_call 129; refine (swithout_any _ lb (negL l) w6 HX6.out (by have := HLB.out; omega)).mono ?_; rintro e w7 ⟨v7, rfl, own7, b⟩; obtain ⟨g7, n7, c7, ev7⟩ := own7.slice; subst ev7; have HO7 := Lib.hid own7; have HO6' := Lib.hid (HO6.out.below b); have HB7 := Lib.hid (HB6.out.trans (b.mono HB6.out.size)); have y0 := (b.cell (World.block_lt_of_cell? w6 _ x0)).trans x0; have y1 := (b.cell (World.block_lt_of_cell? w6 _ x1)).trans x1; have y2 := (b.cell (World.block_lt_of_cell? w6 _ x2)).trans x2; have y3 := (b.cell (World.block_lt_of_cell? w6 _ x3)).trans x3; have y4 := (b.cell (World.block_lt_of_cell? w6 _ x4)).trans x4; have y5 := (b.cell (World.block_lt_of_cell? w6 _ x5)).trans x5; clear b own7) | (go_at_call 129; refine HS6.out.mono ?_; rintro e w6 ⟨v6, rfl, own6, b⟩; obtain ⟨g6, n6, c6, ev6⟩ := own6.slice; subst ev6; have HO6 := Lib.hid own6; have HB6 := Lib.hid (HBD.out.trans (b.mono HBD.out.size)); have HX6 := Lib.hid (HXD.out.below b); have x0 := (b.cell (World.block_lt_of_cell? w5.drew _ s0)).trans s0; have x1 := (b.cell (World.block_lt_of_cell? w5.drew _ s1)).trans s1; have x2 := (b.cell (World.block_lt_of_cell? w5.drew _ s2)).trans s2; have x3 := (b.cell (World.block_lt_of_cell? w5.drew _ u0)).trans u0; have x4 := (b.cell (World.block_lt_of_cell? w5.drew _ u1)).trans u1; have x5 := (b.cell (World.block_lt_of_cell? w5.drew _ u2)).trans u2; clear b own6))
        all_goals go_wp2
        all_goals refine bodyPost_ret (results_tmp2 rfl _ _ _) rfl ?_
        all_goals refine ⟨.slice (some ⟨g8, 0, none⟩) q8 c8, by rw [HF.out.2]; rfl, ?_, HB8.out⟩
        all_goals rw [HF.out.1, ← HQ8.out]
        all_goals exact ⟨HQ8.out.symm, by rw [HQ8.out] at HO8 ⊢; exact (HO8.out.mono HB7.out.size).1⟩
      · have h12' : ¬ ((q8 : Int) ≤ 12) := by omega
        have HF := Lib.hid (rs_none (HRS.out.trans (if_neg h12)))
        rw [h1] at HVA
        go_enter Try.func59, Try.ntmps59
        go_wp2_with fail
        rw [HW0.out, HW.out]
        refine HVA.out.mono ?_
        rintro e w2 ⟨rfl, b⟩
        have HB2 := Lib.hid (HB.out.trans (b.mono HB.out.size))
        have HA2 := Lib.hid (HA.out.below b)
        have HX2 := Lib.hid (HX.out.below b)
        have HQ_2 := Lib.hid (litCells_below HQ.out b)
        have HR_2 := Lib.hid (litCells_below HQ2.out b)
        clear b
        go_wp2_with fail
        refine (sValidClause_any _ lb n w2 HX2.out).mono ?_
        rintro e w3 ⟨rfl, b⟩
        have HB3 := Lib.hid (HB2.out.trans (b.mono HB2.out.size))
        have HA3 := Lib.hid (HA2.out.below b)
        have HX3 := Lib.hid (HX2.out.below b)
        have HQ_3 := Lib.hid (litCells_below HQ_2.out b)
        have HR_3 := Lib.hid (litCells_below HR_2.out b)
        clear b
        rw [h2]
        obtain ⟨t0, t1, t2⟩ := HQ_3.out
        go_wp2_with fail
        refine (swithout_any _ la l w3 HA3.out (by have := HLA.out; omega)).mono ?_
        rintro e w4 ⟨v4, rfl, own4, b⟩
        obtain ⟨_, g4, c4, ev4, _⟩ := id own4
        rw [← HQ4.out] at ev4
        subst ev4
        have HB4 := Lib.hid (HB3.out.trans (b.mono HB3.out.size))
        have HA4 := Lib.hid (HA3.out.below b)
        have HX4 := Lib.hid (HX3.out.below b)
        have HQ_4 := Lib.hid (litCells_below HQ_3.out b)
        have HR_4 := Lib.hid (litCells_below HR_3.out b)
        clear b own4 t0 t1 t2
        obtain ⟨t0, t1, t2⟩ := HR_4.out
        go_wp2_with fail
        refine (swithout_any _ lb (negL l) w4 HX4.out (by have := HLB.out; omega)).mono ?_
        rintro e w5 ⟨v5, rfl, own5, b⟩
        obtain ⟨_, g5, c5, ev5, _⟩ := id own5
        rw [← HQ5.out] at ev5
        subst ev5
        have HB5 := Lib.hid (HB4.out.trans (b.mono HB4.out.size))
        have HA5 := Lib.hid (HA4.out.below b)
        have HX5 := Lib.hid (HX4.out.below b)
        have HQ_5 := Lib.hid (litCells_below HQ_4.out b)
        have HR_5 := Lib.hid (litCells_below HR_4.out b)
        clear b own5 t0 t1 t2
        go_wp2_with fail
        obtain ⟨s0, s1, s2⟩ := HQ_5.out
        obtain ⟨u0, u1, u2⟩ := HR_5.out
        have HBD := Lib.hid HB5.out.drew
        have HAD := Lib.hid (HA5.out.below (Below.refl _ _).drew)
        have HXD := Lib.hid (HX5.out.below (Below.refl _ _).drew)
        have HS6 := Lib.hid (swithout_any _ la l w5.drew HAD.out (by have := HLA.out; omega))
        go_region_held3 (fun w' => w'.cell? ⟨w.heap.size, 0, none⟩ = some (.int .i64 l.var) ∧ w'.cell? ⟨w.heap.size, 1, none⟩ = some (.int .i64 l.val) ∧ w'.cell? ⟨w.heap.size, 2, none⟩ = some (.bool l.neg) ∧ w'.cell? ⟨w.heap.size + 1, 0, none⟩ = some (.int .i64 (negL l).var) ∧ w'.cell? ⟨w.heap.size + 1, 1, none⟩ = some (.int .i64 (negL l).val) ∧ w'.cell? ⟨w.heap.size + 1, 2, none⟩ = some (.bool (negL l).neg)) (first | exact ⟨s0, s1, s2, u0, u1, u2⟩ | exact ⟨x0, x1, x2, x3, x4, x5⟩ | exact ⟨y0, y1, y2, y3, y4, y5⟩ | exact ⟨z0, z1, z2, z3, z4, z5⟩) (first | (go_at_call 102; refine (smerge_any _ _ (wioL la l) (wioL lb (negL l)) w7 HO6'.out.rd HO7.out.rd (by have := HLW.out; omega) (by have := HLW.out; omega) HASC.out).mono ?_; rintro e w8 ⟨v8, rfl, own8, b⟩; obtain ⟨_, g8, c8, ev8, _⟩ := id own8; rw [← HQ8.out] at ev8; subst ev8; have HO8 := Lib.hid own8; have HB8 := Lib.hid (HB7.out.trans (b.mono HB7.out.size)); have HS8 := Lib.hid HB7.out.size; have z0 := (b.cell (World.block_lt_of_cell? w7 _ y0)).trans y0; have z1 := (b.cell (World.block_lt_of_cell? w7 _ y1)).trans y1; have z2 := (b.cell (World.block_lt_of_cell? w7 _ y2)).trans y2; have z3 := (b.cell (World.block_lt_of_cell? w7 _ y3)).trans y3; have z4 := (b.cell (World.block_lt_of_cell? w7 _ y4)).trans y4; have z5 := (b.cell (World.block_lt_of_cell? w7 _ y5)).trans y5; clear b own8) | (go_at_call 129; refine (swithout_any _ lb (negL l) w6 HX6.out (by have := HLB.out; omega)).mono ?_; rintro e w7 ⟨v7, rfl, own7, b⟩; obtain ⟨g7, n7, c7, ev7⟩ := own7.slice; subst ev7; have HO7 := Lib.hid own7; have HO6' := Lib.hid (HO6.out.below b); have HB7 := Lib.hid (HB6.out.trans (b.mono HB6.out.size)); have y0 := (b.cell (World.block_lt_of_cell? w6 _ x0)).trans x0; have y1 := (b.cell (World.block_lt_of_cell? w6 _ x1)).trans x1; have y2 := (b.cell (World.block_lt_of_cell? w6 _ x2)).trans x2; have y3 := (b.cell (World.block_lt_of_cell? w6 _ x3)).trans x3; have y4 := (b.cell (World.block_lt_of_cell? w6 _ x4)).trans x4; have y5 := (b.cell (World.block_lt_of_cell? w6 _ x5)).trans x5; clear b own7) | (go_at_call 129; refine HS6.out.mono ?_; rintro e w6 ⟨v6, rfl, own6, b⟩; obtain ⟨g6, n6, c6, ev6⟩ := own6.slice; subst ev6; have HO6 := Lib.hid own6; have HB6 := Lib.hid (HBD.out.trans (b.mono HBD.out.size)); have HX6 := Lib.hid (HXD.out.below b); have x0 := (b.cell (World.block_lt_of_cell? w5.drew _ s0)).trans s0; have x1 := (b.cell (World.block_lt_of_cell? w5.drew _ s1)).trans s1; have x2 := (b.cell (World.block_lt_of_cell? w5.drew _ s2)).trans s2; have x3 := (b.cell (World.block_lt_of_cell? w5.drew _ u0)).trans u0; have x4 := (b.cell (World.block_lt_of_cell? w5.drew _ u1)).trans u1; have x5 := (b.cell (World.block_lt_of_cell? w5.drew _ u2)).trans u2; clear b own6))
        all_goals go_wp2
        all_goals refine bodyPost_ret (results_tmp2 rfl _ _ _) rfl ?_
        all_goals refine ⟨.slice none 0 0, by rw [HF.out.2]; rfl, ?_, HB8.out⟩
        all_goals rw [HF.out.1]
        all_goals exact ownC_nil _ _
    · have h5 : ((q5 : Int) == (mb : Int)) = true := by rw [HE5.out, decide_eq_false hlb]; rfl
      have HF : Hid (rsL n la lb l = [] ∧ rsB n la lb l = false) := Lib.hid (rs_none (by unfold rsO; rw [h1, h2, decide_eq_false hlb]; simp))
      clear hla hlb
      rw [h1] at HVA
      go_enter Try.func59, Try.ntmps59
      go_wp2_with fail
      rw [HW0.out, HW.out]
      refine HVA.out.mono ?_
      rintro e w2 ⟨rfl, b⟩
      have HB2 := Lib.hid (HB.out.trans (b.mono HB.out.size))
      have HA2 := Lib.hid (HA.out.below b)
      have HX2 := Lib.hid (HX.out.below b)
      have HQ_2 := Lib.hid (litCells_below HQ.out b)
      have HR_2 := Lib.hid (litCells_below HQ2.out b)
      clear b
      go_wp2_with fail
      refine (sValidClause_any _ lb n w2 HX2.out).mono ?_
      rintro e w3 ⟨rfl, b⟩
      have HB3 := Lib.hid (HB2.out.trans (b.mono HB2.out.size))
      have HA3 := Lib.hid (HA2.out.below b)
      have HX3 := Lib.hid (HX2.out.below b)
      have HQ_3 := Lib.hid (litCells_below HQ_2.out b)
      have HR_3 := Lib.hid (litCells_below HR_2.out b)
      clear b
      rw [h2]
      obtain ⟨t0, t1, t2⟩ := HQ_3.out
      go_wp2_with fail
      refine (swithout_any _ la l w3 HA3.out (by have := HLA.out; omega)).mono ?_
      rintro e w4 ⟨v4, rfl, own4, b⟩
      obtain ⟨_, g4, c4, ev4, _⟩ := id own4
      rw [← HQ4.out] at ev4
      subst ev4
      have HB4 := Lib.hid (HB3.out.trans (b.mono HB3.out.size))
      have HA4 := Lib.hid (HA3.out.below b)
      have HX4 := Lib.hid (HX3.out.below b)
      have HQ_4 := Lib.hid (litCells_below HQ_3.out b)
      have HR_4 := Lib.hid (litCells_below HR_3.out b)
      clear b own4 t0 t1 t2
      obtain ⟨t0, t1, t2⟩ := HR_4.out
      go_wp2_with fail
      refine (swithout_any _ lb (negL l) w4 HX4.out (by have := HLB.out; omega)).mono ?_
      rintro e w5 ⟨v5, rfl, own5, b⟩
      obtain ⟨_, g5, c5, ev5, _⟩ := id own5
      rw [← HQ5.out] at ev5
      subst ev5
      have HB5 := Lib.hid (HB4.out.trans (b.mono HB4.out.size))
      have HA5 := Lib.hid (HA4.out.below b)
      have HX5 := Lib.hid (HX4.out.below b)
      have HQ_5 := Lib.hid (litCells_below HQ_4.out b)
      have HR_5 := Lib.hid (litCells_below HR_4.out b)
      clear b own5 t0 t1 t2
      go_wp2
      refine bodyPost_ret (results_tmp2 rfl _ _ _) rfl ?_
      refine ⟨.slice none 0 0, ?_, ?_, HB5.out⟩
      · rw [HF.out.2]
        rfl
      · rw [HF.out.1]
        exact ownC_nil _ _
  · have h4 : ((q4 : Int) == (ma : Int)) = true := by rw [HE4.out, decide_eq_false hla]; rfl
    have HF : Hid (rsL n la lb l = [] ∧ rsB n la lb l = false) := Lib.hid (rs_none (by unfold rsO; rw [h1, h2, decide_eq_false hla]; rfl))
    clear hla
    rw [h1] at HVA
    go_enter Try.func59, Try.ntmps59
    go_wp2_with fail
    rw [HW0.out, HW.out]
    refine HVA.out.mono ?_
    rintro e w2 ⟨rfl, b⟩
    have HB2 := Lib.hid (HB.out.trans (b.mono HB.out.size))
    have HA2 := Lib.hid (HA.out.below b)
    have HX2 := Lib.hid (HX.out.below b)
    have HQ_2 := Lib.hid (litCells_below HQ.out b)
    have HR_2 := Lib.hid (litCells_below HQ2.out b)
    clear b
    go_wp2_with fail
    refine (sValidClause_any _ lb n w2 HX2.out).mono ?_
    rintro e w3 ⟨rfl, b⟩
    have HB3 := Lib.hid (HB2.out.trans (b.mono HB2.out.size))
    have HA3 := Lib.hid (HA2.out.below b)
    have HX3 := Lib.hid (HX2.out.below b)
    have HQ_3 := Lib.hid (litCells_below HQ_2.out b)
    have HR_3 := Lib.hid (litCells_below HR_2.out b)
    clear b
    rw [h2]
    obtain ⟨t0, t1, t2⟩ := HQ_3.out
    go_wp2_with fail
    refine (swithout_any _ la l w3 HA3.out (by have := HLA.out; omega)).mono ?_
    rintro e w4 ⟨v4, rfl, own4, b⟩
    obtain ⟨_, g4, c4, ev4, _⟩ := id own4
    rw [← HQ4.out] at ev4
    subst ev4
    have HB4 := Lib.hid (HB3.out.trans (b.mono HB3.out.size))
    have HA4 := Lib.hid (HA3.out.below b)
    have HX4 := Lib.hid (HX3.out.below b)
    have HQ_4 := Lib.hid (litCells_below HQ_3.out b)
    have HR_4 := Lib.hid (litCells_below HR_3.out b)
    clear b own4 t0 t1 t2
    obtain ⟨t0, t1, t2⟩ := HR_4.out
    clear t0 t1 t2
    go_wp2
    refine bodyPost_ret (results_tmp2 rfl _ _ _) rfl ?_
    refine ⟨.slice none 0 0, ?_, ?_, HB4.out⟩
    · rw [HF.out.2]
      rfl
    · rw [HF.out.1]
      exact ownC_nil _ _
end Go.Proofs.Ytolfjkdkbiicmaa
