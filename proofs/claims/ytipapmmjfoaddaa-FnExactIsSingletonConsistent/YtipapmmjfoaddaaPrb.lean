/- Probe, both packages. -/
import Derived.Test.YtipapmmjfoaddaaShv
import Derived.Test.YtipapmmjfoaddaaProI
import Derived.Test.YtipapmmjfoaddaaProS
import Derived.Deep.AppendLies
namespace Go.Proofs.Ytipapmmjfoaddaa
open Go.ChangeShapes Go.WideShapes Go.ChangeAt Go.RowKit Go.Shelf
set_option linter.unusedVariables false
set_option linter.unusedSimpArgs false

/-- What Probe answers. -/
def prbM (m : Mod) (v a : Int) : List Int := if vmB m && (wiB v 0 ((m.doms.length : Int) - 1) && wiB a 0 5) then proL m.cons (fixL m.doms v.toNat a.toNat) else []
theorem prbM_le (m : Mod) (v a : Int) : (prbM m v a).length ≤ 1048576 := by
  unfold prbM
  split
  · rename_i hq
    rw [Bool.and_eq_true, Bool.and_eq_true] at hq
    obtain ⟨hv, hx, ha⟩ := hq
    have hxi := wiB_in hx
    have hai := wiB_in ha
    obtain ⟨s1, s2, s3, s4⟩ := doms_small' hv
    have hf := fixL_domN (n := m.doms.length) (d := m.doms) (v := v.toNat) (a := a.toNat) ⟨rfl, s1⟩ (by omega) (by omega)
    rw [(pro_domN (cs := m.cons) ⟨hf.len, hf.small, fun c hc => varsOk_of (okC_mem hv hc).vc⟩).len]
    omega
  · simp
theorem fixL_length (p : List Int) (v a : Nat) : (fixL p v a).length = p.length := by unfold fixL; simp
theorem wrapN1 {n : Nat} (h1 : 1 ≤ n) (h4 : n ≤ 4) : IntKind.i64.wrap ((n : Int) - 1) = (n : Int) - 1 := by
  rcases (show n = 1 ∨ n = 2 ∨ n = 3 ∨ n = 4 by omega) with rfl | rfl | rfl | rfl <;> rfl

set_option maxRecDepth 100000 in
set_option maxHeartbeats 2000000 in
theorem ifixedL_any (dv : Value) (p : List Int) (v a : Nat) (w : World) (h : RdInts w dv p) (hs : Small p 0 63) (hl : p.length ≤ 4) (hv : v < p.length) (ha : a < 6) :
    Calls Try.prog 89 #[dv, .int .i64 v, .int .i64 a] w (IntsPost (fixL p v a) w) := by
  have HC := Lib.hid (icopyInts_any dv p w h (by omega) (by omega))
  have hx := hs v hv
  have HW := Lib.hid (fixB_rng hx.1 hx.2 ha).2.2
  obtain ⟨av, cv, e2, -⟩ := id h
  obtain ⟨n, hn⟩ : ∃ n, n = p.length := ⟨_, rfl⟩
  rw [e2] at HC ⊢
  have HLN : Hid ((fixL p v a).length = n) := Lib.hid (by rw [fixL_length, hn])
  have HFL : Hid (fixL p v a = p.set v (fixB (p[v]?.getD 0) a)) := Lib.hid rfl
  rw [← hn] at HC hl hv ⊢
  have HN := Lib.hid hn
  obtain ⟨x, hxx⟩ : ∃ x, x = p[v]?.getD 0 := ⟨_, rfl⟩
  rw [← hxx] at HW HFL
  have HX := Lib.hid hxx
  obtain ⟨fx, hfx⟩ : ∃ fx, fx = fixB x a := ⟨_, rfl⟩
  rw [← hfx] at HW HFL
  obtain ⟨rl, hrl⟩ : ∃ rl, rl = fixL p v a := ⟨_, rfl⟩
  rw [← hrl] at HLN HFL ⊢
  clear e2 hn h hs hx hxx hfx hrl
  go_enter Try.func89, Try.ntmps89
  go_wp2_with fail
  refine HC.out.mono ?_
  rintro e w2 ⟨v2, rfl, o2, b2⟩
  have hrd := rdInts_of_own o2
  obtain ⟨g, cap, eg, hg, -⟩ := o2.form (by have := HN.out; omega)
  rw [eg] at hrd
  have hcc := (rdInts_cap hrd).2
  rw [← HN.out] at eg o2 hcc
  subst eg
  have hc1 := hcc.1
  have hc2 := hcc.2
  clear hrd hcc
  have q1 : w2.cell? ⟨g, v, none⟩ = some (.int .i64 x) := by
    have := o2.cellAt v (by omega)
    rw [List.getElem?_map, List.getElem?_eq_getElem (by have := HN.out; omega)] at this
    rw [this, HX.out, List.getElem?_eq_getElem (by have := HN.out; omega)]
    rfl
  have f1 := o2.frozenAt v
  have o3 := ((own_below o2 (Below.refl _ w2).drew).stored v (.int .i64 fx)).1
  rw [← List.map_set, ← HFL.out] at o3
  have HO3 := Lib.hid o3
  have HB3 := Lib.hid (show Below w.heap.size w (w2.drew.setCell ⟨g, v, none⟩ (.int .i64 fx)) from b2.drew.setCell (p := ⟨g, v, none⟩) hg _)
  clear o2 o3 b2 hg HC
  go_wp2
  go_region
  all_goals rw [HW.out]
  all_goals go_wp2
  all_goals go_ret
  all_goals exact ⟨_, rfl, by rw [HLN.out]; exact HO3.out, HB3.out⟩

set_option maxRecDepth 100000 in
set_option maxHeartbeats 4000000 in
theorem eprobe_any (cs : List Con) (P : List (Value × Nat × Value)) (pv sv : Value) (B : Nat) (ds : List Int) (v a : Nat) (w : World) (hp : w.ownsRow B 88 2 pv P.length (flatP P)) (hpo : PrOf w cs P) (h6 : cs.length ≤ 6)
    (hok : ∀ c ∈ cs, OkC c ds.length) (hd : RdInts w sv ds) (h1 : 1 ≤ ds.length) (h4 : ds.length ≤ 4) (hs : Small ds 0 63) (hv : v < ds.length) (ha : a < 6) :
    Calls Try.prog 62 #[.agg #[pv], sv, .int .i64 v, .int .i64 a] w (IntsPost (proL cs (fixL ds v a)) w) := by
  obtain ⟨pa, pn, pc, epv⟩ := own_slice hp
  obtain ⟨sa, sc, esv, -⟩ := id hd
  obtain ⟨W1, hW1⟩ : ∃ W1, w.alloc (.cells #[pv] 57) = W1 := ⟨_, rfl⟩
  have B1 : Below w.heap.size w W1 := by rw [← hW1]; exact (Below.refl _ _).alloc (Nat.le_refl _) _
  have q1 : Boxed W1 w.heap.size 57 pv := by rw [← hW1]; exact World.alloc_heap_new _ _
  have hfn : DomN ds.length (fixL ds v a) := fixL_domN ⟨rfl, hs⟩ hv ha
  have HFX := Lib.hid (ifixedL_any sv ds v a W1.drew ((hd.below B1).below (Below.refl _ _).drew) hs h4 hv ha)
  have HPR := Lib.hid (fun (X : World) (xv : Value) (hb : Below w.heap.size w X) (hx : RdInts X xv (fixL ds v a)) => ipropagate_any cs P pv xv B (fixL ds v a) X (own_below hp hb) ⟨hpo.1, fun i c p hc hp => ⟨(hpo.2 i c p hc hp).1, (hpo.2 i c p hc hp).2.below hb⟩⟩ h6 (by rw [hfn.len]; exact hok) hx (by rw [hfn.len]; exact h1) (by rw [hfn.len]; exact h4) hfn.small)
  obtain ⟨fl, hfl⟩ : ∃ fl, fl = fixL ds v a := ⟨_, rfl⟩
  rw [← hfl] at HFX HPR ⊢
  have hpc : pn ≤ pc ∧ pc ≤ 9223372036854775807 := by
    rw [epv] at hp
    rcases hp.2 with ⟨e, h0⟩ | ⟨g, cap, cur, e, _, _, q1, q2, _⟩
    · injection e with _ e1 e2; omega
    · injection e with _ e1 e2; unfold maxLen at q2; omega
  have hsc := (rdInts_cap (by rw [esv] at hd; exact hd)).2
  obtain ⟨n, hn⟩ : ∃ n, n = ds.length := ⟨_, rfl⟩
  rw [← hn] at esv hsc
  subst epv esv
  have HB1 := Lib.hid B1
  have HQ1 := Lib.hid q1
  have HW := Lib.hid hW1
  clear hp hpo h6 hok hd h1 h4 hs hv ha hfn hfl hn B1 q1 hW1
  have p0 := HQ1.out.cell
  go_enter Try.func62, Try.ntmps62
  go_wp2_with fail
  rw [HW.out]
  go_region_held3 (fun w' => w'.cell? ⟨w.heap.size, 0, none⟩ = some (.slice pa pn pc)) (first | go_keep | exact y0 | exact z0 | exact p0) (first
    | (go_at_call 88; refine (HPR.out X _ HBX.out HVX.out).mono ?_; rintro e Y ⟨v', rfl, o', b'⟩; have hy : Boxed Y w.heap.size 57 (.slice pa pn pc) := (b'.block _ HQX.out.lt).trans HQX.out; have y0 := hy.cell; have HOY := Lib.hid o'; have HBY := Lib.hid (HBX.out.trans (b'.mono HBX.out.size)); have HSX := Lib.hid HBX.out.size; clear o' b' hy)
    | (go_at_call 89; refine HFX.out.mono ?_; rintro e X ⟨v2, rfl, o2, b2⟩; have HBX1 : Hid (Below W1.heap.size W1 X) := Lib.hid ((show Below W1.heap.size W1 W1.drew from (Below.refl _ _).drew).trans b2); have HBX := Lib.hid (HB1.out.trans (HBX1.out.mono HB1.out.size)); have HVX := Lib.hid (rdInts_of_own o2); have hx : Boxed X w.heap.size 57 (.slice pa pn pc) := (HBX1.out.block _ HQ1.out.lt).trans HQ1.out; have z0 := hx.cell; have HQX := Lib.hid hx; obtain ⟨ua, un, uc, eu⟩ := own_slice o2; rw [eu] at HVX ⊢; clear o2 b2 hx eu))
  go_wp2
  go_ret
  exact ⟨_, rfl, own_mono HOY.out HSX.out, HBY.out⟩

set_option maxRecDepth 100000 in
set_option maxHeartbeats 4000000 in
theorem sprobe_any (m : Mod) (v dv : Value) (ds : List Int) (x a : Nat) (w : World) (h : RdModel w v m) (hd : RdInts w dv ds) (h1 : 1 ≤ ds.length) (h4 : ds.length ≤ 4) (hs : Small ds 0 63) (hok : ∀ c ∈ m.cons, OkC c ds.length) (hm6 : m.cons.length ≤ 6) (hx : x < ds.length) (ha : a < 6) :
    Calls Try.prog 27 #[v, dv, .int .i64 x, .int .i64 a] w (IntsPost (proL m.cons (fixL ds x a)) w) := by
  obtain ⟨a1, a2, c1, c2, rfl, g1, g2⟩ := rdModel_slices h
  obtain ⟨av, cv, e2, -⟩ := id hd
  obtain ⟨W1, hW1⟩ : ∃ W1, w.alloc (.cells #[.slice a1 m.doms.length c1, .slice a2 m.cons.length c2] 30) = W1 := ⟨_, rfl⟩
  have B1 : Below w.heap.size w W1 := by rw [← hW1]; exact (Below.refl _ _).alloc (Nat.le_refl _) _
  have bP : Blk2 W1 w.heap.size 30 (.slice a1 m.doms.length c1) (.slice a2 m.cons.length c2) := by rw [← hW1]; exact Blk2.new w _ _ _
  have hfn : DomN ds.length (fixL ds x a) := fixL_domN ⟨rfl, hs⟩ hx ha
  have HSF := Lib.hid (fun (Y : World) (xv : Value) (hY : RdModel Y (.agg #[.slice a1 m.doms.length c1, .slice a2 m.cons.length c2]) m) (hq : RdInts Y xv (fixL ds x a)) => sfixpoint_any m _ xv (fixL ds x a) Y hY hq (by rw [hfn.len]; exact h1) (by rw [hfn.len]; exact h4) hfn.small (by rw [hfn.len]; exact hok) hm6)
  have HM := Lib.hid (h.below B1)
  have HD := Lib.hid (hd.below B1)
  have HB1 := Lib.hid B1
  have HW1 := Lib.hid hW1
  have HP := Lib.hid bP
  have hxr := hs x hx
  have HW := Lib.hid (fixB_rng hxr.1 hxr.2 ha).2.2
  obtain ⟨n, hn⟩ : ∃ n, n = ds.length := ⟨_, rfl⟩
  rw [e2] at HD ⊢
  have HLN : Hid ((fixL ds x a).length = n) := Lib.hid (by rw [fixL_length, hn])
  have HFL : Hid (fixL ds x a = ds.set x (fixB (ds[x]?.getD 0) a)) := Lib.hid rfl
  rw [← hn] at HD h1 h4 hx ⊢
  have HN := Lib.hid hn
  have hcd := (rdInts_cap HD.out).2
  obtain ⟨y, hy⟩ : ∃ y, y = ds[x]?.getD 0 := ⟨_, rfl⟩
  rw [← hy] at HW HFL
  have HY := Lib.hid hy
  obtain ⟨fx, hfx⟩ : ∃ fx, fx = fixB y a := ⟨_, rfl⟩
  rw [← hfx] at HW HFL
  obtain ⟨rl, hrl⟩ : ∃ rl, rl = fixL ds x a := ⟨_, rfl⟩
  rw [← hrl] at HLN HFL HSF ⊢
  clear e2 hn h hd hs hxr hy hfx hrl hok hm6 hfn g1 g2 hW1 B1 bP
  obtain ⟨p0, p1⟩ := HP.out.cell
  go_enter Try.func27, Try.ntmps27
  go_wp2_with fail
  rw [HW1.out]
  refine (scopyInts_any _ ds W1 HD.out (by have := HN.out; omega) (by have := HN.out; omega)).mono ?_
  rintro e w2 ⟨v2, rfl, o2, b2⟩
  have hrd := rdInts_of_own o2
  obtain ⟨g, cap, eg, hg, -⟩ := o2.form (by have := HN.out; omega)
  rw [eg] at hrd
  have hcc := (rdInts_cap hrd).2
  rw [← HN.out] at eg o2 hcc
  subst eg
  have hc1 := hcc.1
  have hc2 := hcc.2
  clear hrd hcc
  have q1 : w2.cell? ⟨g, x, none⟩ = some (.int .i64 y) := by
    have := o2.cellAt x (by omega)
    rw [List.getElem?_map, List.getElem?_eq_getElem (by have := HN.out; omega)] at this
    rw [this, HY.out, List.getElem?_eq_getElem (by have := HN.out; omega)]
    rfl
  have f1 := o2.frozenAt x
  have o3 := own_below (o2.stored x (.int .i64 fx)).1 (Below.refl _ (w2.setCell ⟨g, x, none⟩ (.int .i64 fx))).drew
  rw [← List.map_set, ← HFL.out] at o3
  obtain ⟨W3, hW3⟩ : ∃ W3, (w2.setCell ⟨g, x, none⟩ (.int .i64 fx)).drew = W3 := ⟨_, rfl⟩
  have b3 : Below W1.heap.size W1 W3 := by rw [← hW3]; exact (b2.setCell (p := ⟨g, x, none⟩) hg _).drew
  rw [hW3] at o3
  have HV3 : Hid (RdInts W3 (.slice (some ⟨g, 0, none⟩) n cap) rl) := Lib.hid (by
    have hl := HLN.out
    rw [← hl] at o3 ⊢
    exact rdInts_of_own (show W3.ownsRow W1.heap.size 3 1 (.slice (some ⟨g, 0, none⟩) rl.length cap) rl.length (rl.map (Value.int .i64)) from o3))
  have HB3 := Lib.hid (HB1.out.trans (b3.mono HB1.out.size))
  have HM3 := Lib.hid (HM.out.below b3)
  have HP3 := Lib.hid (HP.out.below b3)
  have HW3 := Lib.hid hW3
  clear o2 o3 b2 b3 hg hW3 p0 p1
  obtain ⟨p0, p1⟩ := HP3.out.cell
  go_wp2
  go_region
  all_goals rw [HW.out]
  all_goals rw [HW3.out]
  all_goals go_wp2_with fail
  all_goals refine (HSF.out W3 _ HM3.out HV3.out).mono ?_
  all_goals rintro e w5 ⟨v5, rfl, o5, b5⟩
  all_goals have HO5 := Lib.hid (own_mono o5 HB3.out.size)
  all_goals have HB5 := Lib.hid (HB3.out.trans (b5.mono HB3.out.size))
  all_goals clear o5 b5
  all_goals go_wp2
  all_goals go_ret
  all_goals exact ⟨_, rfl, HO5.out, HB5.out⟩

end Go.Proofs.Ytipapmmjfoaddaa
