/- The program's propagator of a constraint, as a value. The program's filtering of a row of domains in place. The program's Filter. -/
import Derived.Test.YtipapmmjfoaddaaGreatSu
import Derived.Test.YtipapmmjfoaddaaGreatTup

/-! The program's propagator of a constraint, as a value. -/
namespace Go.Proofs.YtipapmmjfoaddaaGreat
open Go.ChangeShapes Go.WideShapes Go.ChangeAt Go.RowKit Go.Shelf
set_option linter.unusedVariables false
set_option linter.unusedSimpArgs false

theorem accL_sup (c : Con) (ds : List Int) : accL c c.vars.length (tups ds c.vars) = supL c ds := by
  simp [accL, supL, supP]

set_option maxRecDepth 100000 in
set_option maxHeartbeats 4000000 in
theorem propagatorOf_any (c : Con) (cv : Value) (F : Nat) (w : World) (h : RdCon w cv c)
    (ht : ∀ (w : World), RdCon w cv c → Calls Tryz.prog 139 #[cv] w (fun e w' => e = .returned (.func (.func F) #[cv] #[]) ∧ Below w.heap.size w w')) :
    Calls Tryz.prog 92 #[cv] w fun e w' => ∃ vv, e = .returned (.agg #[vv, .func (.func F) #[cv] #[]]) ∧ (∀ w', RdCon w' cv c → RdInts w' vv c.vars) ∧ Below w.heap.size w w' := by
  obtain ⟨a2, a3, a5, c2, c3, c5, rfl, h2, -⟩ := rdCon_slices h
  obtain ⟨W1, hW1⟩ : ∃ W1, w.alloc (.cells #[.int .i64 c.kind, .slice a2 c.vars.length c2, .slice a3 c.args.length c3, .int .i64 c.bound, .slice a5 c.rows.length c5] 110) = W1 := ⟨_, rfl⟩
  have B1 : Below w.heap.size w W1 := by rw [← hW1]; exact (Below.refl _ _).alloc (Nat.le_refl _) _
  have bP : Blk5 W1 w.heap.size 110 (.int .i64 c.kind) (.slice a2 c.vars.length c2) (.slice a3 c.args.length c3) (.int .i64 c.bound) (.slice a5 c.rows.length c5) := by rw [← hW1]; exact Blk5.new w _ _ _ _ _ _
  have s1 : W1.heap.size = w.heap.size + 1 := by rw [← hW1]; simp
  obtain ⟨W2, hW2⟩ : ∃ W2, W1.alloc (.cells #[.slice none 0 0, .nilFunc] 113) = W2 := ⟨_, rfl⟩
  have B2 : Below W1.heap.size W1 W2 := by rw [← hW2]; exact (Below.refl _ _).alloc (Nat.le_refl _) _
  have bQ : W2.heap[w.heap.size + 1]? = some (.cells #[.slice none 0 0, .nilFunc] 113) := by rw [← hW2, ← s1]; exact World.alloc_heap_new _ _
  have B3 : Below w.heap.size w W2.drew := (B1.trans (B2.mono (by omega))).drew
  have bP2 : Blk5 W2 w.heap.size 110 (.int .i64 c.kind) (.slice a2 c.vars.length c2) (.slice a3 c.args.length c3) (.int .i64 c.bound) (.slice a5 c.rows.length c5) := bP.below B2
  obtain ⟨y0, y1, y2, y3, y4⟩ := bP2.cell
  have lt2 : w.heap.size + 1 < W2.heap.size := (Array.getElem?_eq_some_iff.1 bQ).1
  have HC : Hid (Calls Tryz.prog 139 #[.agg #[.int .i64 c.kind, .slice a2 c.vars.length c2, .slice a3 c.args.length c3, .int .i64 c.bound, .slice a5 c.rows.length c5]] W2.drew (fun e X => e = .returned (.func (.func F) #[.agg #[.int .i64 c.kind, .slice a2 c.vars.length c2, .slice a3 c.args.length c3, .int .i64 c.bound, .slice a5 c.rows.length c5]] #[]) ∧ Below w.heap.size w X
      ∧ X.cell? ⟨w.heap.size, 0, none⟩ = some (.int .i64 c.kind) ∧ X.cell? ⟨w.heap.size, 1, none⟩ = some (.slice a2 c.vars.length c2) ∧ X.cell? ⟨w.heap.size, 2, none⟩ = some (.slice a3 c.args.length c3) ∧ X.cell? ⟨w.heap.size, 3, none⟩ = some (.int .i64 c.bound) ∧ X.cell? ⟨w.heap.size, 4, none⟩ = some (.slice a5 c.rows.length c5)
      ∧ X.cell? ⟨w.heap.size + 1, 0, none⟩ = some (.slice none 0 0) ∧ X.cell? ⟨w.heap.size + 1, 1, none⟩ = some .nilFunc ∧ X.frozen? ⟨w.heap.size + 1, 0, none⟩ = false ∧ X.frozen? ⟨w.heap.size + 1, 1, none⟩ = false)) := by
    refine Lib.hid ((ht W2.drew (h.below B3)).mono ?_)
    rintro e X ⟨rfl, bx⟩
    have bq := (bx.block (w.heap.size + 1) lt2).trans bQ
    obtain ⟨k0, k1, k2, k3, k4⟩ := ((show Blk5 X w.heap.size 110 _ _ _ _ _ from (bx.block (w.heap.size) (by show _ < W2.heap.size; omega)).trans bP2)).cell
    exact ⟨rfl, B3.trans (bx.mono (by show _ ≤ W2.heap.size; omega)), k0, k1, k2, k3, k4, by simp [World.cell?, bq], by simp [World.cell?, bq], by simp [World.frozen?, bq], by simp [World.frozen?, bq]⟩
  have HW := Lib.hid hW1
  have HW2 := Lib.hid hW2
  have H2 := Lib.hid h2
  clear hW1 hW2 s1 B1 B2 B3 bP bP2 h h2 ht bQ lt2
  go_enter Tryz.func92, Tryz.ntmps92
  go_wp2
  rw [HW.out, HW2.out]
  go_region_held3 (fun w' => w'.cell? ⟨w.heap.size, 0, none⟩ = some (.int .i64 c.kind) ∧ w'.cell? ⟨w.heap.size, 1, none⟩ = some (.slice a2 c.vars.length c2) ∧ w'.cell? ⟨w.heap.size, 2, none⟩ = some (.slice a3 c.args.length c3) ∧ w'.cell? ⟨w.heap.size, 3, none⟩ = some (.int .i64 c.bound) ∧ w'.cell? ⟨w.heap.size, 4, none⟩ = some (.slice a5 c.rows.length c5)) (first | go_keep | exact ⟨y0, y1, y2, y3, y4⟩ | exact ⟨z0, z1, z2, z3, z4⟩) ((go_at_call 139; refine HC.out.mono ?_; rintro e X3 ⟨rfl, bX, z0, z1, z2, z3, z4, q0, q1, f0, f1⟩))
  go_wp2
  refine bodyPost_ret (v := .agg #[.slice a2 c.vars.length c2, .func (.func F) #[.agg #[.int .i64 c.kind, .slice a2 c.vars.length c2, .slice a3 c.args.length c3, .int .i64 c.bound, .slice a5 c.rows.length c5]] #[]]) (by simp [results, Tryz.results92, go_sem, q0, q1]) rfl ⟨_, rfl, fun w' h => ?_, ?_⟩
  · obtain ⟨b2, b3, b5, d2, d3, d5, e, h2, -⟩ := rdCon_slices h
    simp at e
    rw [e.1.1, e.1.2]
    exact h2
  exact (bX.setCell (by show _ ≤ w.heap.size + 1; omega) _).setCell (by show _ ≤ w.heap.size + 1; omega) _
end Go.Proofs.YtipapmmjfoaddaaGreat

/-! The program's filtering of a row of domains in place. -/
namespace Go.Proofs.YtipapmmjfoaddaaGreat
open Go.ChangeShapes Go.WideShapes Go.ChangeAt Go.RowKit Go.Shelf
set_option linter.unusedVariables false
set_option linter.unusedSimpArgs false

/-- The variables whose domain changes, out of the first k of c. -/
def chL (c : Con) (ds sup : List Int) : Nat → List Int
  | 0 => []
  | k + 1 => if ((putL c ds sup k)[(c.vars[k]?.getD 0).toNat]?.getD 0 != sup[k]?.getD 0) = true then chL c ds sup k ++ [c.vars[k]?.getD 0] else chL c ds sup k
theorem chL_le (c : Con) (ds sup : List Int) (k : Nat) : (chL c ds sup k).length ≤ k := by
  induction k with
  | zero => simp [chL]
  | succ k ih => unfold chL; split
                 · simp; omega
                 · omega
theorem set_same {xs : List Int} {i : Nat} {u : Int} (hi : i < xs.length) (h : xs[i]?.getD 0 = u) : xs.set i u = xs := by
  rw [List.getElem?_eq_getElem hi] at h
  simp at h
  rw [← h]
  exact List.set_getElem_self hi
theorem cell_same {w w' : World} {p : Addr} (h : w'.heap[p.block]? = w.heap[p.block]?) : w'.cell? p = w.cell? p := by simp [World.cell?, h]
theorem below_of_kr {g : Nat} {w w' : World} (h : Below g w w') (k : Kr g w w') (b : Nat) (hb : b ≠ g) (hl : b < w.heap.size) : w'.heap[b]? = w.heap[b]? := by
  by_cases h1 : b < g
  · exact h.block b h1
  · exact k.2 b (by omega) hl

set_option maxRecDepth 100000 in
set_option maxHeartbeats 4000000 in
theorem ifilter_any (c : Con) (cv vv : Value) (F : Nat) (ds : List Int) (g cap : Nat) (w : World) (hF : isTest F) (hread : ∀ w', Below g w w' → RdCon w' cv c ∧ RdInts w' vv c.vars) (hX : XT g cap ds w)
    (h1 : 1 ≤ c.vars.length) (h4 : c.vars.length ≤ 4) (hvs : Small c.vars 0 ((ds.length : Int) - 1)) (hds : Small ds 0 63)
    (hfit : ∀ t : List Int, t.length = c.vars.length → Small t 0 5 → Fit c t)
    (hsat : ∀ (xv : Value) (x : List Int) (w : World), Fit c x → RdCon w cv c → RdInts w xv x → Calls Tryz.prog F #[cv, xv] w (BoolPost (satB c x) w)) :
    Calls Tryz.prog 103 #[.agg #[vv, .func (.func F) #[cv] #[]], .slice (some ⟨g, 0, none⟩) ds.length cap] w fun e w' =>
      ∃ v, e = .returned v ∧ w'.ownsRow w.heap.size 3 1 v (chL c ds (supL c ds) c.vars.length).length ((chL c ds (supL c ds) c.vars.length).map (Value.int .i64)) ∧ XT g cap (filL c ds) w' ∧ Below g w w' ∧ Kr g w w' := by
  obtain ⟨sup, hsup⟩ : ∃ sup, sup = supL c ds := ⟨_, rfl⟩
  obtain ⟨av, cc, ev, -⟩ := id (hread w (Below.refl _ _)).2
  rw [ev] at hread ⊢
  have hlg := hX.lt
  obtain ⟨W1, hW1⟩ : ∃ W1, w.alloc (.cells #[.slice av c.vars.length cc, .func (.func F) #[cv] #[]] 113) = W1 := ⟨_, rfl⟩
  have B1 : Below w.heap.size w W1 := by rw [← hW1]; exact (Below.refl _ _).alloc (Nat.le_refl _) _
  have s1 : W1.heap.size = w.heap.size + 1 := by rw [← hW1]; simp
  have q1 : W1.heap[w.heap.size]? = some (.cells #[.slice av c.vars.length cc, .func (.func F) #[cv] #[]] 113) := by rw [← hW1]; exact World.alloc_heap_new _ _
  have p0 : W1.cell? ⟨w.heap.size, 0, none⟩ = some (.slice av c.vars.length cc) := by simp [World.cell?, q1]
  have p1 : W1.cell? ⟨w.heap.size, 1, none⟩ = some (.func (.func F) #[cv] #[]) := by simp [World.cell?, q1]
  have hX1 := hX.keep (B1.block g hlg)
  obtain ⟨r1, r2⟩ := hread W1 (B1.mono (by omega))
  have HC := Lib.hid (isup_any c cv _ (.slice (some ⟨g, 0, none⟩) ds.length cap) F ds W1 hF r1 r2 hX1.rd h1 h4 hvs hds hfit hsat)
  rw [accL_sup, ← hsup] at HC
  have hle : (chL c ds sup c.vars.length).length ≤ 4 := Nat.le_trans (chL_le _ _ _ _) h4
  have hpl := putL_length c ds sup
  have HF : Hid (filL c ds = putL c ds sup c.vars.length) := Lib.hid (by unfold filL; rw [hsup])
  rw [← hsup]
  obtain ⟨nv, hn⟩ : ∃ nv, nv = c.vars.length := ⟨_, rfl⟩
  obtain ⟨nd, hnd⟩ : ∃ nd, nd = ds.length := ⟨_, rfl⟩
  have hcap := (rdInts_cap hX.rd).2
  have hcc := (rdInts_cap r2).2
  rw [← hn] at HC HF p0 q1 h1 h4 hcc hread r2 hW1 ⊢
  rw [← hnd] at HC hcap ⊢
  have hsl : Hid (sup.length = nv) := Lib.hid (by rw [hsup, hn]; exact (supL_facts c ds).1)
  have HR := Lib.hid hread
  have HN := Lib.hid hn
  have HND := Lib.hid hnd
  have HVS := Lib.hid hvs
  have HX1 := Lib.hid hX1
  have HB1 := Lib.hid B1
  have HQ1 := Lib.hid q1
  have HS1 := Lib.hid s1
  have HW := Lib.hid hW1
  have HLG := Lib.hid hlg
  have HPL := Lib.hid hpl
  obtain ⟨i0, hi, hz0, hz1, hz2⟩ := info_parts Tryz.info3
  clear hread hn hnd hvs hX1 B1 q1 s1 hW1 r1 r2 hX hds hfit hsat hsup ev hlg hpl hle
  go_enter Tryz.func103, Tryz.ntmps103
  go_wp2_with fail
  rw [HW.out]
  refine HC.out.mono ?_
  rintro e W2 ⟨v2, rfl, o2, b2⟩
  obtain ⟨a2, n2, c2, e2⟩ := own_slice o2
  subst e2
  have rs := rdInts_of_own (xs := sup) (by rw [← hsl.out] at o2; simpa using o2)
  obtain ⟨a3, c3, e3, -⟩ := id rs
  injection e3 with e3 e4 e5
  rw [hsl.out] at e4
  subst e4
  have hc2 := (rdInts_cap rs).2
  have HRS := Lib.hid rs
  have HO2 := Lib.hid o2
  have HX2 := Lib.hid (HX1.out.keep (b2.block g (by have := HLG.out; have := HS1.out; omega)))
  have HB2 := Lib.hid (HB1.out.trans (b2.mono HB1.out.size))
  have HQ2 := Lib.hid ((b2.block w.heap.size (by have := HS1.out; omega)).trans HQ1.out)
  have HZ2 := Lib.hid (show w.heap.size + 1 ≤ W2.heap.size by have := b2.size; have := HS1.out; omega)
  have HG1 := Lib.hid (show g < W1.heap.size by have := HLG.out; have := HS1.out; omega)
  clear b2 o2 rs p0 p1 HC HX1 HQ1 HW HB1 HS1 e3 e5
  go_wp2
  go_loopw [5, 13] (fun u i wr => ∃ j : Nat, j ≤ n2 ∧ i = .int .i64 j ∧ Hid (wr.ownsRow W2.heap.size 3 1 u (chL c ds sup j).length ((chL c ds sup j).map (Value.int .i64))) ∧ Hid (XT g cap (putL c ds sup j) wr) ∧ Hid (Below g W2 wr) ∧ Hid (Kr g W2 wr)) (fun _ i _ => n2 - (intOf i).toNat)
  case atStart => exact ⟨0, Nat.zero_le _, rfl, Lib.hid (World.ownsRow_nil _ _ _ _), HX2, Lib.hid (Below.refl _ _), Lib.hid (Kr.refl _ _)⟩
  case round =>
    obtain ⟨j, hj, rfl, HO, HXJ, HBJ, HKJ⟩ := hrel
    by_cases hlt : j < n2
    · have HBW : Hid (Below g w wr) := Lib.hid ((HB2.out.mono (by have := HLG.out; omega)).trans HBJ.out)
      obtain ⟨bv, ov, rfl, k1⟩ := rdInts_at (HR.out wr HBW.out).2 hlt
      obtain ⟨z, hz⟩ : ∃ z : Nat, c.vars[j]?.getD 0 = (z : Int) := ⟨(c.vars[j]?.getD 0).toNat, by have := (HVS.out j (by have := HN.out; omega)).1; omega⟩
      have hzl : z < nd := by have := (HVS.out j (by have := HN.out; omega)).2; have := HND.out; omega
      rw [hz] at k1
      obtain ⟨bs, os, hbs, k2⟩ := rdInts_at HRS.out hlt
      subst hbs
      have hb2 := World.block_lt_of_cell? W2 _ k2
      simp at hb2
      have hbg : bs ≠ g := by
        rcases HO2.out.2 with ⟨e, _⟩ | ⟨g', _, _, e, hg', _⟩
        · cases e
        · injection e with e _ _; injection e with e; injection e with e _ _; have := HG1.out; omega
      have k2 := (cell_same (below_of_kr HBJ.out HKJ.out bs hbg hb2)).trans k2
      obtain ⟨u, hu⟩ : ∃ u, u = sup[j]?.getD 0 := ⟨_, rfl⟩
      rw [← hu] at k2
      have hpz : z < (putL c ds sup j).length := by rw [HPL.out]; have := HND.out; omega
      have k3 := HXJ.out.at hpz
      obtain ⟨d, hd⟩ : ∃ d, d = (putL c ds sup j)[z]?.getD 0 := ⟨_, rfl⟩
      rw [← hd] at k3
      have k4 := HXJ.out.unfrozen z
      have kb := below_of_kr HBJ.out HKJ.out w.heap.size (by have := HLG.out; omega) (by have := HZ2.out; omega)
      have kq := kb.trans HQ2.out
      have p0 : wr.cell? ⟨w.heap.size, 0, none⟩ = some (.slice (some ⟨bv, ov, none⟩) n2 cc) := by simp [World.cell?, kq]
      have HNEW := Lib.hid (HXJ.out.set hpz u)
      have HPU : Hid (putL c ds sup (j + 1) = (putL c ds sup j).set z u) := Lib.hid (by rw [putL, hz, hu]; rfl)
      have hszr := HBJ.out.size
      cases hne : (d != u)
      · have HPS : Hid (putL c ds sup (j + 1) = putL c ds sup j) := Lib.hid (by rw [HPU.out]; exact set_same hpz (by rw [← hd]; simpa using hne))
        have HCS : Hid (chL c ds sup (j + 1) = chL c ds sup j) := Lib.hid (by rw [chL, hz, ← hu, if_neg]; rw [Int.toNat_natCast, ← hd, hne]; simp)
        clear hd hu hz kb kq hpz hbg hb2 hszr
        go_wp2
        go_roundw
        case rel => exact ⟨j + 1, by omega, by go_num, Lib.hid (by rw [HCS.out]; exact HO.out), Lib.hid (by rw [HPS.out]; exact HXJ.out), HBJ, HKJ⟩
        case measure => simp [intOf]; omega
      · have HCS : Hid (chL c ds sup (j + 1) = chL c ds sup j ++ [(z : Int)]) := Lib.hid (by rw [chL, hz, ← hu, if_pos]; rw [Int.toNat_natCast, ← hd, hne])
        have hgr := grown_setCell wr g z (.int .i64 u)
        have hszS := World.size_setCell wr ⟨g, z, none⟩ (.int .i64 u)
        have bS : Below g wr (wr.setCell ⟨g, z, none⟩ (.int .i64 u)) := (Below.refl _ wr).grown hgr (by have := HLG.out; have := HZ2.out; omega) (fun r e => by cases e; exact Nat.le_refl _)
        have kS : Kr g wr (wr.setCell ⟨g, z, none⟩ (.int .i64 u)) := (Kr.refl g wr).grown hgr
        have hown : (wr.setCell ⟨g, z, none⟩ (.int .i64 u)).ownsRow W2.heap.size 3 1 _ (chL c ds sup j).length ((chL c ds sup j).map (Value.int .i64)) := World.ownsRow.kept HO.out hgr (.inr (fun e => by have := (HO.out.lt g e).1; have := HZ2.out; have := HLG.out; omega))
        have hcl := chL_le c ds sup j
        have hc1 := cell_one_new (wr.setCell ⟨g, z, none⟩ (.int .i64 u)) (.int .i64 z) 3
        rw [hszS] at hc1
        have HGR := Lib.hid hgr
        have HBS := Lib.hid (HBJ.out.trans bS)
        have HKS := Lib.hid (HKJ.out.trans kS)
        have HSZ := Lib.hid hszS
        clear hd hu hz kb kq hpz hbg hb2 hgr bS kS hszS
        go_wp2_with (at_builtin; refine wpList_append_own _ rfl _ _ 22 rfl W2.heap.size 3 i0 (.int .i64 0) 1 8 Tryz.underlying22 hi hz0 hz1 hz2 rfl (by decide) _ _ _ rfl (hown.alloc _) ⟨wr.heap.size, 0, none⟩ 1 1 [.int .i64 z] rfl rfl hc1 (by simp [Value.oneCell']) (by unfold maxLen; omega) (by omega) (by simp; omega) ?_; intro v' w6 hown' hgrow _)
        have hs7 : (wr.setCell ⟨g, z, none⟩ (.int .i64 u)).heap.size = wr.heap.size := HSZ.out
        have hq7 : ∀ q, Value.ownBlock u5 = some q → W2.heap.size ≤ q := fun q e => (hown.lt q e).1
        have hb7 : Below g W2 w6 := (HBS.out.alloc (by have := HLG.out; have := HZ2.out; omega) _).grown hgrow (by simp; have := HLG.out; have := HZ2.out; omega) (fun q e => by have := hq7 q e; have := HLG.out; have := HZ2.out; omega)
        have hk7 : Kr g W2 w6 := (HKS.out.alloc _).far hgrow (fun q e => hq7 q e)
        have hx7 : XT g cap ((putL c ds sup j).set z u) w6 := (HNEW.out.keep (Below.heap_alloc _ _ _ (by rw [hs7]; have := HLG.out; have := HZ2.out; omega))).keep (hgrow.block g (by simp; have := HLG.out; have := HZ2.out; omega) (fun e => by have := hq7 g e.symm; have := HLG.out; have := HZ2.out; omega))
        clear hown hc1 hgrow hs7 hq7
        go_wp2
        go_roundw
        case rel => exact ⟨j + 1, by omega, by go_num, Lib.hid (by rw [HCS.out, List.length_append, List.map_append]; exact hown'), Lib.hid (by rw [HPU.out]; exact hx7), Lib.hid hb7, Lib.hid hk7⟩
        case measure => simp [intOf]; omega
    · obtain rfl : j = n2 := by omega
      go_wp2
      go_ret
      exact ⟨_, rfl, own_mono HO.out (by have := HZ2.out; omega), by rw [HF.out]; exact HXJ.out, (HB2.out.mono (by have := HLG.out; omega)).trans HBJ.out, (show Kr g w W2 from ⟨HB2.out.size, fun b _ h => HB2.out.block b h⟩).trans HKJ.out⟩
end Go.Proofs.YtipapmmjfoaddaaGreat

/-! The program's Filter. -/
namespace Go.Proofs.YtipapmmjfoaddaaGreat
open Go.ChangeShapes Go.WideShapes Go.ChangeAt Go.RowKit Go.Shelf
set_option linter.unusedVariables false
set_option linter.unusedSimpArgs false

theorem xt_of_own {w : World} {B : Nat} {v : Value} {xs : List Int} (h : w.ownsRow B 3 1 v xs.length (xs.map (Value.int .i64))) (h1 : 1 ≤ xs.length) : ∃ g cap, v = .slice (some ⟨g, 0, none⟩) xs.length cap ∧ B ≤ g ∧ XT g cap xs w := by
  rcases h.2 with ⟨e, h0⟩ | ⟨g, cap, cur, e, hg, rest⟩
  · omega
  · exact ⟨g, cap, e, hg, by unfold XT; rw [← e]; exact ⟨h.1, .inr ⟨g, cap, cur, e, Nat.le_refl _, rest⟩⟩⟩
theorem own_of_xt {w : World} {B g cap : Nat} {xs : List Int} (h : XT g cap xs w) (hB : B ≤ g) : w.ownsRow B 3 1 (.slice (some ⟨g, 0, none⟩) xs.length cap) xs.length (xs.map (Value.int .i64)) := own_mono h hB

theorem fltL_le (c : Con) (ds : List Int) : (fltL c ds).length ≤ 1048576 := by
  unfold fltL
  split
  · rename_i h
    have := ok_parts h
    unfold filL
    rw [putL_length]
    omega
  · simp
end Go.Proofs.YtipapmmjfoaddaaGreat
