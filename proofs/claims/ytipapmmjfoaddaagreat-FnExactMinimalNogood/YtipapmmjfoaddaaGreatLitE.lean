/- The reference's UnitPropagate. -/
import Derived.Test.YtipapmmjfoaddaaGreatLitD
import Derived.Test.YtipapmmjfoaddaaGreatSupS
namespace Go.Proofs.YtipapmmjfoaddaaGreat
open Go.ChangeShapes Go.WideShapes Go.ChangeAt Go.RowKit Go.Deep Go.Shelf
set_option linter.unusedVariables false
set_option linter.unusedSimpArgs false

/-- The activation inside the region of clauseFilter. -/
def cfAct (z0 z1 z2 z3 z4 z5 z6 z7 z8 z9 z10 z11 z12 z13 z14 z15 z16 z17 z18 z19 z20 z21 z22 z23 z24 z25 z26 z27 z28 z29 z30 z31 z32 z33 z34 z35 z36 z37 z38 z39 z40 z41 z42 z43 z44 z45 z46 z47 z48 z49 z50 z51 z52 z53 z54 z55 z56 z57 z58 z59 z60 z61 : Value) : Act := { tmps := #[z0, z1, z2, z3, z4, z5, z6, z7, z8, z9, z10, z11, z12, z13, z14, z15, z16, z17, z18, z19, z20, z21, z22, z23, z24, z25, z26, z27, z28, z29, z30, z31, z32, z33, z34, z35, z36, z37, z38, z39, z40, z41, z42, z43, z44, z45, z46, z47, z48, z49, z50, z51, z52, z53, z54, z55, z56, z57, z58, z59, z60, z61], defers := [] }
set_option maxRecDepth 100000 in
theorem exec_field0 {w : World} {ev : Operand → Value} {o : Oper} {x : Operand} {b q : Nat} (ho : o.op = .fieldAddr 91 x 0) (hx : ev x = .pointer (some ⟨b, q, none⟩)) : (execOp ev o).run Tryz.prog w = .ok (.value (.pointer (some ⟨b, q, none⟩))) w := by
  unfold execOp
  simp only [ho, hx]
  go_simp
theorem and_ints (w : World) (x y : Operand) (d m : Int) : (do eqGuard .and 3 x y (.int .i64 d) (.int .i64 m); binOp .and 3 (.int .i64 d) (.int .i64 m) : Sem Value).run Tryz.prog w = .ok (.int .i64 (bits .and .i64 d m)) w := by
  go_simp
theorem step_callL1 {P : Program} (w : World) {ops : Array Oper} {o : Oper} {a : Act} {K : Act → World → Prop} {Q : Exit → Act → World → Prop} {E : Prop} (hgd : o.guard = none) (F : FuncId) (x0 : Operand) (v0 : Value) (ts : Array TypeId)
    (ho : o.op = .call { callee := .value (.func F), args := #[x0], argTypes := ts }) (h0 : a.eval x0 = v0) (eg : ∀ gs w, (callFunc F gs).run P w = .ok (.enter F gs) w)
    (R : Ending → World → Prop) (h : Calls P F #[v0] w R) (hp : ∀ c w', ¬ R (.panicked c) w') (hou : ∀ w', ¬ R .outgrown w') (hR : ∀ v w', R (.returned v) w' → K (a.put o.dst v) w') :
    if Region.wanted o (yielded ops a.tmps) = true then Oper.wp P o a w K Q else E := by
  have hw : Region.wanted o (yielded ops a.tmps) = true := by simp [Region.wanted, hgd]
  rw [if_pos hw]
  have hrun : (execOp a.eval o).run P w = .ok (.enter F #[v0]) w := by
    have hf : a.eval (.func F) = .func (.func F) #[] #[] := rfl
    simp [execOp, ho, resolve, invoke, eg, Deferred.ofValue, h0, hf]
  unfold Oper.wp
  rw [hrun]
  refine Calls.mono h ?_
  intro e w' hr
  cases e with
  | returned v => exact hR v w' hr
  | panicked c => exact (hp c w' hr).elim
  | outgrown => exact (hou w' hr).elim

/-- The literals that are not false on the domains. -/
def posL (ls : List Lit) (ds : List Int) : List Lit := ls.filter (posB ds)
/-- One step of unit propagation. -/
def upL (ls : List Lit) (ds : List Int) : List Int := match posL ls ds with
  | [] => List.replicate ds.length 0
  | [l] => ds.set l.var.toNat (andI (ds[l.var.toNat]?.getD 0) (domL l))
  | _ => ds
theorem upL_none {ls : List Lit} {ds : List Int} (h : posL ls ds = []) : upL ls ds = List.replicate ds.length 0 := by unfold upL; rw [h]
theorem upL_one {ls : List Lit} {ds : List Int} {l : Lit} (h : posL ls ds = [l]) : upL ls ds = ds.set l.var.toNat (andI (ds[l.var.toNat]?.getD 0) (domL l)) := by unfold upL; rw [h]
theorem upL_two {ls : List Lit} {ds : List Int} (h : 2 ≤ (posL ls ds).length) : upL ls ds = ds := by
  unfold upL
  split
  · rename_i e; rw [e] at h; simp at h
  · rename_i e; rw [e] at h; simp at h
  · rfl
theorem posL_step (ls : List Lit) (ds : List Int) (k : Nat) (l : Lit) (h : ls[k]? = some l) : posL (ls.take (k + 1)) ds = posL (ls.take k) ds ++ (if posB ds l then [l] else []) := by
  unfold posL
  rw [List.take_add_one, h, List.filter_append]
  simp [List.filter_cons]
theorem posL_len (ls : List Lit) (ds : List Int) (k : Nat) : (posL (ls.take k) ds).length ≤ (posL ls ds).length := by
  unfold posL
  have : ls.filter (posB ds) = (ls.take k).filter (posB ds) ++ (ls.drop k).filter (posB ds) := by rw [← List.filter_append, List.take_append_drop]
  rw [this, List.length_append]
  omega
theorem upL_length (ls : List Lit) (ds : List Int) : (upL ls ds).length = ds.length := by
  unfold upL
  split <;> simp
/-- The open literal so far. -/
def openOk (ls : List Lit) (ds : List Int) (k : Nat) (o : Int) : Prop := (o = -1 ∧ posL (ls.take k) ds = []) ∨ ∃ (j : Nat) (l : Lit), o = (j : Int) ∧ j < k ∧ ls[j]? = some l ∧ posL (ls.take k) ds = [l]

theorem cf_cell {w w' : World} {B g n c x : Nat} {xs : List Value} {d : Int} (ho : w.ownsRow B 3 1 (.slice (some ⟨g, 0, none⟩) n c) n xs) (hb : Below w.heap.size w w') (hc : w'.cell? ⟨g, x, none⟩ = some (.int .i64 d)) : w'.frozen? ⟨g, x, none⟩ = false :=
  (own_below ho hb).frozenAt x

set_option maxRecDepth 100000 in
set_option maxHeartbeats 16000000 in
theorem scf_any (v dv : Value) (ls : List Lit) (ds : List Int) (w : World) (h : RdLits w v ls) (hd : RdInts w dv ds) (hvi : VarsIn ls ds.length) (hva : ∀ l ∈ ls, 0 ≤ l.val ∧ l.val ≤ 5) (h1 : 1 ≤ ds.length) (h4 : ds.length ≤ 4) :
    Calls Tryz.prog 115 #[v, dv] w (IntsPost (upL ls ds) w) := by
  unfold IntsPost
  have HC := Lib.hid h
  have HD := Lib.hid hd
  have HVI := Lib.hid hvi
  have HVA := Lib.hid hva
  obtain ⟨a, cap, ev, hl, hm, _⟩ := h
  obtain ⟨ax, cx, ex, -⟩ := hd
  obtain ⟨m, hm'⟩ : ∃ m, m = ls.length := ⟨_, rfl⟩
  obtain ⟨n, hn'⟩ : ∃ n, n = ds.length := ⟨_, rfl⟩
  have HM := Lib.hid hm'
  have HN := Lib.hid hn'
  have HCP := Lib.hid (scopyInts_any dv ds w HD.out h1 (by omega))
  rw [ev] at HC ⊢
  rw [ex] at HD HCP ⊢
  rw [← hm'] at hl HC ⊢
  rw [← hn'] at HD HVI HCP h1 h4 ⊢
  clear hm' ev ex hn' hvi hva
  unfold maxLen at hm
  have hcx := (rdInts_cap HD.out).2
  go_enter Tryz.func115, Tryz.ntmps115
  go_wp2_with fail
  refine HCP.out.mono ?_
  rintro e w1 ⟨vo, rfl, own1, b1⟩
  rw [← HN.out] at own1
  obtain ⟨g, c, evo, hgB, hgl⟩ := own1.form (by omega)
  subst evo
  have HO := Lib.hid own1
  have HB1 := Lib.hid b1
  clear own1 b1 HCP
  go_wp2_with fail
  go_loopw [6, 7] (fun q i wr => ∃ (k : Nat) (o : Int), k ≤ m ∧ i = .int .i64 k ∧ q = .int .i64 o ∧ Hid (openOk ls ds k o) ∧ Hid (Below w1.heap.size w1 wr)) (fun _ i _ => m - (intOf i).toNat)
  case atStart => exact ⟨0, -1, Nat.zero_le _, rfl, rfl, Lib.hid (.inl ⟨rfl, rfl⟩), Lib.hid (Below.refl _ _)⟩
  case round =>
    obtain ⟨k, o, hk, rfl, rfl, HOP, HBW⟩ := hrel
    by_cases hlt : k < m
    · have bw : Below w.heap.size w wr := HB1.out.trans (HBW.out.mono HB1.out.size)
      obtain ⟨b, off, l, rfl, hck, k0, k1, k2⟩ := rdLits_at (HC.out.below bw) hlt
      obtain ⟨hv0, hv1⟩ := HVI.out l (List.mem_of_getElem? hck)
      obtain ⟨ha0, ha1⟩ := HVA.out l (List.mem_of_getElem? hck)
      have HE := Lib.hid (sdomL_any l wr.drew ha0 ha1)
      obtain ⟨dm, hdm⟩ : ∃ dm, dm = domL l := ⟨_, rfl⟩
      rw [← hdm] at HE
      have HST := Lib.hid (posL_step ls ds k l hck)
      have HCK := Lib.hid hck
      have HP : Hid (posB ds l = (andI (ds[l.var.toNat]?.getD 0) dm != 0)) := Lib.hid (by rw [hdm]; rfl)
      obtain ⟨lv, la, ln⟩ := l
      simp only at k0 k1 k2 hv0 hv1 HP HE
      obtain ⟨x, rfl⟩ : ∃ x : Nat, lv = x := ⟨lv.toNat, by omega⟩
      obtain ⟨bx, ox, rfl, q0⟩ := rdInts_at (HD.out.below bw) (show x < n by omega)
      obtain ⟨y, hy⟩ : ∃ y, y = ds[x]?.getD 0 := ⟨_, rfl⟩
      rw [← hy] at q0
      have HP2 : Hid (posB ds ⟨x, la, ln⟩ = (bits .and .i64 y dm != 0)) := Lib.hid (by rw [HP.out, hy]; rfl)
      have HBD := Lib.hid HBW.out.drew
      have hk1 : (0 : Int) ≤ (k : Int) := by omega
      have hk2 : (k : Int) < (m : Int) := by omega
      clear hck hy hdm bw HP
      cases h3 : (bits .and .i64 y dm != 0)
      · rw [h3] at HP2
        have HOP2 : Hid (openOk ls ds (k + 1) o) := Lib.hid (by
          have e := HST.out
          rw [HP2.out, if_neg Bool.false_ne_true, List.append_nil] at e
          rcases HOP.out with ⟨e1, e2⟩ | ⟨j, l, e1, e2, e3, e4⟩
          · exact .inl ⟨e1, e.trans e2⟩
          · exact .inr ⟨j, l, e1, by omega, e3, e.trans e4⟩)
        go_wp2_with fail
        go_region_held3 (fun w' => w'.cell? ⟨b, off + k * 3, none⟩ = some (.int .i64 x) ∧ w'.cell? ⟨b, off + k * 3 + 1, none⟩ = some (.int .i64 la) ∧ w'.cell? ⟨b, off + k * 3 + 2, none⟩ = some (.bool ln) ∧ w'.cell? ⟨bx, ox + x, none⟩ = some (.int .i64 y)) (first | exact ⟨k0, k1, k2, q0⟩ | exact ⟨f0, f1, f2, f3⟩) (first | (go_at_call 114; refine HE.out.mono ?_; rintro e w9 ⟨rfl, b9⟩; have B9 := Lib.hid (HBD.out.trans (b9.mono HBD.out.size)); have f0 := (b9.cell (World.block_lt_of_cell? wr.drew _ k0)).trans k0; have f1 := (b9.cell (World.block_lt_of_cell? wr.drew _ k1)).trans k1; have f2 := (b9.cell (World.block_lt_of_cell? wr.drew _ k2)).trans k2; have f3 := (b9.cell (World.block_lt_of_cell? wr.drew _ q0)).trans q0; clear b9))
        all_goals go_wp2
        all_goals go_roundw
        all_goals first
          | exact ⟨k + 1, o, by omega, by go_num, rfl, HOP2, B9⟩
          | (simp [intOf]; omega)
      · rw [h3] at HP2
        rcases HOP.out with ⟨e1, e2⟩ | ⟨j, l, e1, e2, e3, e4⟩
        · subst e1
          have HOP2 : Hid (openOk ls ds (k + 1) k) := Lib.hid (.inr ⟨k, _, rfl, by omega, HCK.out, by rw [HST.out, e2, HP2.out]; rfl⟩)
          clear e2
          go_wp2_with fail
          go_region_held3 (fun w' => w'.cell? ⟨b, off + k * 3, none⟩ = some (.int .i64 x) ∧ w'.cell? ⟨b, off + k * 3 + 1, none⟩ = some (.int .i64 la) ∧ w'.cell? ⟨b, off + k * 3 + 2, none⟩ = some (.bool ln) ∧ w'.cell? ⟨bx, ox + x, none⟩ = some (.int .i64 y)) (first | exact ⟨k0, k1, k2, q0⟩ | exact ⟨f0, f1, f2, f3⟩) (first | (go_at_call 114; refine HE.out.mono ?_; rintro e w9 ⟨rfl, b9⟩; have B9 := Lib.hid (HBD.out.trans (b9.mono HBD.out.size)); have f0 := (b9.cell (World.block_lt_of_cell? wr.drew _ k0)).trans k0; have f1 := (b9.cell (World.block_lt_of_cell? wr.drew _ k1)).trans k1; have f2 := (b9.cell (World.block_lt_of_cell? wr.drew _ k2)).trans k2; have f3 := (b9.cell (World.block_lt_of_cell? wr.drew _ q0)).trans q0; clear b9))
          all_goals go_wp2
          all_goals go_roundw
          all_goals first
            | exact ⟨k + 1, k, by omega, by go_num, rfl, HOP2, B9⟩
            | (simp [intOf]; omega)
        · subst e1
          have HUP : Hid (upL ls ds = ds) := Lib.hid (upL_two (by
            have e := posL_len ls ds (k + 1)
            rw [HST.out, e4, HP2.out] at e
            exact e))
          clear e2 e3 e4
          go_wp2_with fail
          go_region_held3 (fun w' => w'.cell? ⟨b, off + k * 3, none⟩ = some (.int .i64 x) ∧ w'.cell? ⟨b, off + k * 3 + 1, none⟩ = some (.int .i64 la) ∧ w'.cell? ⟨b, off + k * 3 + 2, none⟩ = some (.bool ln) ∧ w'.cell? ⟨bx, ox + x, none⟩ = some (.int .i64 y)) (first | exact ⟨k0, k1, k2, q0⟩ | exact ⟨f0, f1, f2, f3⟩) (first | (go_at_call 114; refine HE.out.mono ?_; rintro e w9 ⟨rfl, b9⟩; have B9 := Lib.hid (HBD.out.trans (b9.mono HBD.out.size)); have f0 := (b9.cell (World.block_lt_of_cell? wr.drew _ k0)).trans k0; have f1 := (b9.cell (World.block_lt_of_cell? wr.drew _ k1)).trans k1; have f2 := (b9.cell (World.block_lt_of_cell? wr.drew _ k2)).trans k2; have f3 := (b9.cell (World.block_lt_of_cell? wr.drew _ q0)).trans q0; clear b9))
          all_goals go_wp2
          all_goals go_ret
          all_goals exact ⟨_, rfl, by rw [HUP.out, ← HN.out]; exact own_below HO.out B9.out, HB1.out.trans (B9.out.mono HB1.out.size)⟩
    · obtain rfl : k = m := by omega
      have HTK : Hid (ls.take k = ls) := Lib.hid (by rw [HM.out, List.take_length])
      rcases HOP.out with ⟨e1, e2⟩ | ⟨j, l, e1, e2, e3, e4⟩
      · subst e1
        rw [HTK.out] at e2
        have HUP := Lib.hid (upL_none e2)
        clear e2
        obtain ⟨i0, hi, hz0, hz1, hz2⟩ := info_parts Tryz.info3
        go_wp2_with (at_make; refine wpList_make_full _ rfl _ _ 22 rfl wr.heap.size 3 i0 (.int .i64 0) 1 Tryz.underlying22 hi hz0 hz1 .i64 .i64 _ _ n rfl rfl rfl rfl (by rw [hz2]; omega) (by unfold maxLen; omega) (Nat.le_refl _) ?_; intro w2 hown hgrow)
        have hb2 := below_of_grown hgrow
        rw [madeInts] at hown
        have HO2 := Lib.hid hown
        have HB2 := Lib.hid hb2
        clear hown hgrow hb2
        go_wp2
        go_ret
        have bw : Below w.heap.size w wr := HB1.out.trans (HBW.out.mono HB1.out.size)
        exact ⟨_, rfl, by rw [HUP.out, ← HN.out]; simp only [List.length_replicate]; exact own_mono HO2.out bw.size, bw.trans (HB2.out.mono bw.size)⟩
      · subst e1
        rw [HTK.out] at e4
        have HUP := Lib.hid (upL_one e4)
        have bw : Below w.heap.size w wr := HB1.out.trans (HBW.out.mono HB1.out.size)
        have hjm : j < k := e2
        obtain ⟨b, off, l', rfl, hck, k0, k1, k2⟩ := rdLits_at (HC.out.below bw) hjm
        rw [e3] at hck
        obtain rfl := Option.some.inj hck
        obtain ⟨hv0, hv1⟩ := HVI.out l (List.mem_of_getElem? e3)
        obtain ⟨ha0, ha1⟩ := HVA.out l (List.mem_of_getElem? e3)
        have HE := Lib.hid (sdomL_any l wr.drew ha0 ha1)
        obtain ⟨dm, hdm⟩ : ∃ dm, dm = domL l := ⟨_, rfl⟩
        rw [← hdm] at HE HUP
        obtain ⟨lv, la, ln⟩ := l
        simp only at k0 k1 k2 hv0 hv1 HUP HE
        obtain ⟨x, rfl⟩ : ∃ x : Nat, lv = x := ⟨lv.toNat, by omega⟩
        have hxn : x < n := by omega
        simp only [Int.toNat_natCast] at HUP
        obtain ⟨d, hdd⟩ : ∃ d, d = ds[x]?.getD 0 := ⟨_, rfl⟩
        rw [← hdd] at HUP
        have HOW : Hid (wr.drew.ownsRow w.heap.size 3 1 (.slice (some ⟨g, 0, none⟩) n c) n (ds.map (Value.int .i64))) := Lib.hid (own_below HO.out HBW.out.drew)
        have hS : LitAt b (off + j * 3) ⟨x, la, ln⟩ wr.drew ∧ wr.drew.cell? ⟨g, x, none⟩ = some (.int .i64 d) := ⟨⟨k0, k1, k2⟩, by
          have hx : x < ds.length := by rw [← HN.out]; exact hxn
          rw [HOW.out.cellAt x (by omega), List.getElem?_map, List.getElem?_eq_getElem hx, hdd, List.getElem?_eq_getElem hx]
          rfl⟩
        have HBD := Lib.hid bw.drew
        have HGB := Lib.hid hgB
        clear e3 e4 hck k0 k1 k2 hdm hdd bw e2 ha0 ha1 hv0 hv1
        go_wp2_with fail
        refine region_x (fun w' => LitAt b (off + j * 3) ⟨x, la, ln⟩ w' ∧ w'.cell? ⟨g, x, none⟩ = some (.int .i64 d)) (fun i => i == 21) rfl ?_
        change wpAnyX Tryz.prog .any _ _ _ _ 22 _ (cfAct _ _ _ _ _ _ _ _ _ _ _ _ _ _ _ _ _ _ _ _ _ _ _ _ _ _ _ _ _ _ _ _ _ _ _ _ _ _ _ _ _ _ _ _ _ _ _ _ _ _ _ _ _ _ _ _ _ _ _ _ _ _) wr.drew
        refine wpAnyX_take (i := 0) (v := .slice (some ⟨g, 0, none⟩) n c) rfl (by kernel_rfl) (by kernel_rfl) (by kernel_rfl) (by kernel_rfl) (fun _ _ _ h => h) (.inl ⟨rfl, fun w' hw' => rfl⟩) hS ?_
        change wpAnyX Tryz.prog .any _ _ _ _ 21 _ (cfAct _ _ _ _ _ _ _ _ _ _ _ _ _ _ _ _ _ _ _ _ _ _ _ _ _ _ _ _ _ _ _ _ _ _ _ _ _ _ _ _ (.slice (some ⟨g, 0, none⟩) n c) _ _ _ _ _ _ _ _ _ _ _ _ _ _ _ _ _ _ _ _ _) wr.drew
        refine wpAnyX_take (i := 1) (v := .slice (some ⟨b, off, none⟩) k cap) rfl (by kernel_rfl) (by kernel_rfl) (by kernel_rfl) (by kernel_rfl) (fun _ _ _ h => h) (.inl ⟨rfl, fun w' hw' => rfl⟩) hS ?_
        change wpAnyX Tryz.prog .any _ _ _ _ 20 _ (cfAct _ _ _ _ _ _ _ _ _ _ _ _ _ _ _ _ _ _ _ _ _ _ _ _ _ _ _ _ _ _ _ _ _ _ _ _ _ _ _ _ (.slice (some ⟨g, 0, none⟩) n c) (.slice (some ⟨b, off, none⟩) k cap) _ _ _ _ _ _ _ _ _ _ _ _ _ _ _ _ _ _ _ _) wr.drew
        refine wpAnyX_take (i := 2) (v := .int .i64 j) rfl (by kernel_rfl) (by kernel_rfl) (by kernel_rfl) (by kernel_rfl) (fun _ _ _ h => h) (.inl ⟨rfl, fun w' hw' => rfl⟩) hS ?_
        change wpAnyX Tryz.prog .any _ _ _ _ 19 _ (cfAct _ _ _ _ _ _ _ _ _ _ _ _ _ _ _ _ _ _ _ _ _ _ _ _ _ _ _ _ _ _ _ _ _ _ _ _ _ _ _ _ (.slice (some ⟨g, 0, none⟩) n c) (.slice (some ⟨b, off, none⟩) k cap) (.int .i64 j) _ _ _ _ _ _ _ _ _ _ _ _ _ _ _ _ _ _ _) wr.drew
        refine wpAnyX_take (i := 3) (v := .pointer (some ⟨b, off + j * 3, none⟩)) rfl (by kernel_rfl) (by kernel_rfl) (by kernel_rfl) (by kernel_rfl) (fun _ _ _ h => h) (.inl ⟨rfl, fun w' hw' => exec_index rfl rfl rfl (index_lits w' _ _ _ _ _ hjm)⟩) hS ?_
        change wpAnyX Tryz.prog .any _ _ _ _ 18 _ (cfAct _ _ _ _ _ _ _ _ _ _ _ _ _ _ _ _ _ _ _ _ _ _ _ _ _ _ _ _ _ _ _ _ _ _ _ _ _ _ _ _ (.slice (some ⟨g, 0, none⟩) n c) (.slice (some ⟨b, off, none⟩) k cap) (.int .i64 j) (.pointer (some ⟨b, off + j * 3, none⟩)) _ _ _ _ _ _ _ _ _ _ _ _ _ _ _ _ _ _) wr.drew
        refine wpAnyX_take (i := 4) (v := .pointer (some ⟨b, off + j * 3, none⟩)) rfl (by kernel_rfl) (by kernel_rfl) (by kernel_rfl) (by kernel_rfl) (fun _ _ _ h => h) (.inl ⟨rfl, fun w' hw' => exec_field0 rfl rfl⟩) hS ?_
        change wpAnyX Tryz.prog .any _ _ _ _ 17 _ (cfAct _ _ _ _ _ _ _ _ _ _ _ _ _ _ _ _ _ _ _ _ _ _ _ _ _ _ _ _ _ _ _ _ _ _ _ _ _ _ _ _ (.slice (some ⟨g, 0, none⟩) n c) (.slice (some ⟨b, off, none⟩) k cap) (.int .i64 j) (.pointer (some ⟨b, off + j * 3, none⟩)) (.pointer (some ⟨b, off + j * 3, none⟩)) _ _ _ _ _ _ _ _ _ _ _ _ _ _ _ _ _) wr.drew
        refine wpAnyX_take (i := 5) (v := .int .i64 x) rfl (by kernel_rfl) (by kernel_rfl) (by kernel_rfl) (by kernel_rfl) (fun _ _ _ h => h) (.inl ⟨rfl, fun w' hw' => exec_load rfl rfl (load_int w' _ _ _ hw'.1.1)⟩) hS ?_
        change wpAnyX Tryz.prog .any _ _ _ _ 16 _ (cfAct _ _ _ _ _ _ _ _ _ _ _ _ _ _ _ _ _ _ _ _ _ _ _ _ _ _ _ _ _ _ _ _ _ _ _ _ _ _ _ _ (.slice (some ⟨g, 0, none⟩) n c) (.slice (some ⟨b, off, none⟩) k cap) (.int .i64 j) (.pointer (some ⟨b, off + j * 3, none⟩)) (.pointer (some ⟨b, off + j * 3, none⟩)) (.int .i64 x) _ _ _ _ _ _ _ _ _ _ _ _ _ _ _ _) wr.drew
        refine wpAnyX_take (i := 6) (v := .slice (some ⟨g, 0, none⟩) n c) rfl (by kernel_rfl) (by kernel_rfl) (by kernel_rfl) (by kernel_rfl) (fun _ _ _ h => h) (.inl ⟨rfl, fun w' hw' => rfl⟩) hS ?_
        change wpAnyX Tryz.prog .any _ _ _ _ 15 _ (cfAct _ _ _ _ _ _ _ _ _ _ _ _ _ _ _ _ _ _ _ _ _ _ _ _ _ _ _ _ _ _ _ _ _ _ _ _ _ _ _ _ (.slice (some ⟨g, 0, none⟩) n c) (.slice (some ⟨b, off, none⟩) k cap) (.int .i64 j) (.pointer (some ⟨b, off + j * 3, none⟩)) (.pointer (some ⟨b, off + j * 3, none⟩)) (.int .i64 x) (.slice (some ⟨g, 0, none⟩) n c) _ _ _ _ _ _ _ _ _ _ _ _ _ _ _) wr.drew
        refine wpAnyX_take (i := 7) (v := .slice (some ⟨b, off, none⟩) k cap) rfl (by kernel_rfl) (by kernel_rfl) (by kernel_rfl) (by kernel_rfl) (fun _ _ _ h => h) (.inl ⟨rfl, fun w' hw' => rfl⟩) hS ?_
        change wpAnyX Tryz.prog .any _ _ _ _ 14 _ (cfAct _ _ _ _ _ _ _ _ _ _ _ _ _ _ _ _ _ _ _ _ _ _ _ _ _ _ _ _ _ _ _ _ _ _ _ _ _ _ _ _ (.slice (some ⟨g, 0, none⟩) n c) (.slice (some ⟨b, off, none⟩) k cap) (.int .i64 j) (.pointer (some ⟨b, off + j * 3, none⟩)) (.pointer (some ⟨b, off + j * 3, none⟩)) (.int .i64 x) (.slice (some ⟨g, 0, none⟩) n c) (.slice (some ⟨b, off, none⟩) k cap) _ _ _ _ _ _ _ _ _ _ _ _ _ _) wr.drew
        refine wpAnyX_take (i := 8) (v := .int .i64 j) rfl (by kernel_rfl) (by kernel_rfl) (by kernel_rfl) (by kernel_rfl) (fun _ _ _ h => h) (.inl ⟨rfl, fun w' hw' => rfl⟩) hS ?_
        change wpAnyX Tryz.prog .any _ _ _ _ 13 _ (cfAct _ _ _ _ _ _ _ _ _ _ _ _ _ _ _ _ _ _ _ _ _ _ _ _ _ _ _ _ _ _ _ _ _ _ _ _ _ _ _ _ (.slice (some ⟨g, 0, none⟩) n c) (.slice (some ⟨b, off, none⟩) k cap) (.int .i64 j) (.pointer (some ⟨b, off + j * 3, none⟩)) (.pointer (some ⟨b, off + j * 3, none⟩)) (.int .i64 x) (.slice (some ⟨g, 0, none⟩) n c) (.slice (some ⟨b, off, none⟩) k cap) (.int .i64 j) _ _ _ _ _ _ _ _ _ _ _ _ _) wr.drew
        refine wpAnyX_take (i := 9) (v := .pointer (some ⟨b, off + j * 3, none⟩)) rfl (by kernel_rfl) (by kernel_rfl) (by kernel_rfl) (by kernel_rfl) (fun _ _ _ h => h) (.inl ⟨rfl, fun w' hw' => exec_index rfl rfl rfl (index_lits w' _ _ _ _ _ hjm)⟩) hS ?_
        change wpAnyX Tryz.prog .any _ _ _ _ 12 _ (cfAct _ _ _ _ _ _ _ _ _ _ _ _ _ _ _ _ _ _ _ _ _ _ _ _ _ _ _ _ _ _ _ _ _ _ _ _ _ _ _ _ (.slice (some ⟨g, 0, none⟩) n c) (.slice (some ⟨b, off, none⟩) k cap) (.int .i64 j) (.pointer (some ⟨b, off + j * 3, none⟩)) (.pointer (some ⟨b, off + j * 3, none⟩)) (.int .i64 x) (.slice (some ⟨g, 0, none⟩) n c) (.slice (some ⟨b, off, none⟩) k cap) (.int .i64 j) (.pointer (some ⟨b, off + j * 3, none⟩)) _ _ _ _ _ _ _ _ _ _ _ _) wr.drew
        refine wpAnyX_take (i := 10) (v := .pointer (some ⟨b, off + j * 3, none⟩)) rfl (by kernel_rfl) (by kernel_rfl) (by kernel_rfl) (by kernel_rfl) (fun _ _ _ h => h) (.inl ⟨rfl, fun w' hw' => exec_field0 rfl rfl⟩) hS ?_
        change wpAnyX Tryz.prog .any _ _ _ _ 11 _ (cfAct _ _ _ _ _ _ _ _ _ _ _ _ _ _ _ _ _ _ _ _ _ _ _ _ _ _ _ _ _ _ _ _ _ _ _ _ _ _ _ _ (.slice (some ⟨g, 0, none⟩) n c) (.slice (some ⟨b, off, none⟩) k cap) (.int .i64 j) (.pointer (some ⟨b, off + j * 3, none⟩)) (.pointer (some ⟨b, off + j * 3, none⟩)) (.int .i64 x) (.slice (some ⟨g, 0, none⟩) n c) (.slice (some ⟨b, off, none⟩) k cap) (.int .i64 j) (.pointer (some ⟨b, off + j * 3, none⟩)) (.pointer (some ⟨b, off + j * 3, none⟩)) _ _ _ _ _ _ _ _ _ _ _) wr.drew
        refine wpAnyX_take (i := 11) (v := .int .i64 x) rfl (by kernel_rfl) (by kernel_rfl) (by kernel_rfl) (by kernel_rfl) (fun _ _ _ h => h) (.inl ⟨rfl, fun w' hw' => exec_load rfl rfl (load_int w' _ _ _ hw'.1.1)⟩) hS ?_
        change wpAnyX Tryz.prog .any _ _ _ _ 10 _ (cfAct _ _ _ _ _ _ _ _ _ _ _ _ _ _ _ _ _ _ _ _ _ _ _ _ _ _ _ _ _ _ _ _ _ _ _ _ _ _ _ _ (.slice (some ⟨g, 0, none⟩) n c) (.slice (some ⟨b, off, none⟩) k cap) (.int .i64 j) (.pointer (some ⟨b, off + j * 3, none⟩)) (.pointer (some ⟨b, off + j * 3, none⟩)) (.int .i64 x) (.slice (some ⟨g, 0, none⟩) n c) (.slice (some ⟨b, off, none⟩) k cap) (.int .i64 j) (.pointer (some ⟨b, off + j * 3, none⟩)) (.pointer (some ⟨b, off + j * 3, none⟩)) (.int .i64 x) _ _ _ _ _ _ _ _ _ _) wr.drew
        refine wpAnyX_take (i := 12) (v := .pointer (some ⟨g, x, none⟩)) rfl (by kernel_rfl) (by kernel_rfl) (by kernel_rfl) (by kernel_rfl) (fun _ _ _ h => h) (.inl ⟨rfl, fun w' hw' => exec_index rfl rfl rfl (index0_ints w' _ _ _ _ hxn)⟩) hS ?_
        change wpAnyX Tryz.prog .any _ _ _ _ 9 _ (cfAct _ _ _ _ _ _ _ _ _ _ _ _ _ _ _ _ _ _ _ _ _ _ _ _ _ _ _ _ _ _ _ _ _ _ _ _ _ _ _ _ (.slice (some ⟨g, 0, none⟩) n c) (.slice (some ⟨b, off, none⟩) k cap) (.int .i64 j) (.pointer (some ⟨b, off + j * 3, none⟩)) (.pointer (some ⟨b, off + j * 3, none⟩)) (.int .i64 x) (.slice (some ⟨g, 0, none⟩) n c) (.slice (some ⟨b, off, none⟩) k cap) (.int .i64 j) (.pointer (some ⟨b, off + j * 3, none⟩)) (.pointer (some ⟨b, off + j * 3, none⟩)) (.int .i64 x) (.pointer (some ⟨g, x, none⟩)) _ _ _ _ _ _ _ _ _) wr.drew
        refine wpAnyX_take (i := 13) (v := .int .i64 d) rfl (by kernel_rfl) (by kernel_rfl) (by kernel_rfl) (by kernel_rfl) (fun _ _ _ h => h) (.inl ⟨rfl, fun w' hw' => exec_load rfl rfl (load_int w' _ _ _ hw'.2)⟩) hS ?_
        change wpAnyX Tryz.prog .any _ _ _ _ 8 _ (cfAct _ _ _ _ _ _ _ _ _ _ _ _ _ _ _ _ _ _ _ _ _ _ _ _ _ _ _ _ _ _ _ _ _ _ _ _ _ _ _ _ (.slice (some ⟨g, 0, none⟩) n c) (.slice (some ⟨b, off, none⟩) k cap) (.int .i64 j) (.pointer (some ⟨b, off + j * 3, none⟩)) (.pointer (some ⟨b, off + j * 3, none⟩)) (.int .i64 x) (.slice (some ⟨g, 0, none⟩) n c) (.slice (some ⟨b, off, none⟩) k cap) (.int .i64 j) (.pointer (some ⟨b, off + j * 3, none⟩)) (.pointer (some ⟨b, off + j * 3, none⟩)) (.int .i64 x) (.pointer (some ⟨g, x, none⟩)) (.int .i64 d) _ _ _ _ _ _ _ _) wr.drew
        refine wpAnyX_take (i := 14) (v := .slice (some ⟨b, off, none⟩) k cap) rfl (by kernel_rfl) (by kernel_rfl) (by kernel_rfl) (by kernel_rfl) (fun _ _ _ h => h) (.inl ⟨rfl, fun w' hw' => rfl⟩) hS ?_
        change wpAnyX Tryz.prog .any _ _ _ _ 7 _ (cfAct _ _ _ _ _ _ _ _ _ _ _ _ _ _ _ _ _ _ _ _ _ _ _ _ _ _ _ _ _ _ _ _ _ _ _ _ _ _ _ _ (.slice (some ⟨g, 0, none⟩) n c) (.slice (some ⟨b, off, none⟩) k cap) (.int .i64 j) (.pointer (some ⟨b, off + j * 3, none⟩)) (.pointer (some ⟨b, off + j * 3, none⟩)) (.int .i64 x) (.slice (some ⟨g, 0, none⟩) n c) (.slice (some ⟨b, off, none⟩) k cap) (.int .i64 j) (.pointer (some ⟨b, off + j * 3, none⟩)) (.pointer (some ⟨b, off + j * 3, none⟩)) (.int .i64 x) (.pointer (some ⟨g, x, none⟩)) (.int .i64 d) (.slice (some ⟨b, off, none⟩) k cap) _ _ _ _ _ _ _) wr.drew
        refine wpAnyX_take (i := 15) (v := .int .i64 j) rfl (by kernel_rfl) (by kernel_rfl) (by kernel_rfl) (by kernel_rfl) (fun _ _ _ h => h) (.inl ⟨rfl, fun w' hw' => rfl⟩) hS ?_
        change wpAnyX Tryz.prog .any _ _ _ _ 6 _ (cfAct _ _ _ _ _ _ _ _ _ _ _ _ _ _ _ _ _ _ _ _ _ _ _ _ _ _ _ _ _ _ _ _ _ _ _ _ _ _ _ _ (.slice (some ⟨g, 0, none⟩) n c) (.slice (some ⟨b, off, none⟩) k cap) (.int .i64 j) (.pointer (some ⟨b, off + j * 3, none⟩)) (.pointer (some ⟨b, off + j * 3, none⟩)) (.int .i64 x) (.slice (some ⟨g, 0, none⟩) n c) (.slice (some ⟨b, off, none⟩) k cap) (.int .i64 j) (.pointer (some ⟨b, off + j * 3, none⟩)) (.pointer (some ⟨b, off + j * 3, none⟩)) (.int .i64 x) (.pointer (some ⟨g, x, none⟩)) (.int .i64 d) (.slice (some ⟨b, off, none⟩) k cap) (.int .i64 j) _ _ _ _ _ _) wr.drew
        refine wpAnyX_take (i := 16) (v := .pointer (some ⟨b, off + j * 3, none⟩)) rfl (by kernel_rfl) (by kernel_rfl) (by kernel_rfl) (by kernel_rfl) (fun _ _ _ h => h) (.inl ⟨rfl, fun w' hw' => exec_index rfl rfl rfl (index_lits w' _ _ _ _ _ hjm)⟩) hS ?_
        change wpAnyX Tryz.prog .any _ _ _ _ 5 _ (cfAct _ _ _ _ _ _ _ _ _ _ _ _ _ _ _ _ _ _ _ _ _ _ _ _ _ _ _ _ _ _ _ _ _ _ _ _ _ _ _ _ (.slice (some ⟨g, 0, none⟩) n c) (.slice (some ⟨b, off, none⟩) k cap) (.int .i64 j) (.pointer (some ⟨b, off + j * 3, none⟩)) (.pointer (some ⟨b, off + j * 3, none⟩)) (.int .i64 x) (.slice (some ⟨g, 0, none⟩) n c) (.slice (some ⟨b, off, none⟩) k cap) (.int .i64 j) (.pointer (some ⟨b, off + j * 3, none⟩)) (.pointer (some ⟨b, off + j * 3, none⟩)) (.int .i64 x) (.pointer (some ⟨g, x, none⟩)) (.int .i64 d) (.slice (some ⟨b, off, none⟩) k cap) (.int .i64 j) (.pointer (some ⟨b, off + j * 3, none⟩)) _ _ _ _ _) wr.drew
        refine wpAnyX_take (i := 17) (v := .agg #[.int .i64 x, .int .i64 la, .bool ln]) rfl (by kernel_rfl) (by kernel_rfl) (by kernel_rfl) (by kernel_rfl) (fun _ _ _ h => h) (.inl ⟨rfl, fun w' hw' => exec_load rfl rfl (load_litO w' _ _ _ _ _ hw'.1.1 hw'.1.2.1 hw'.1.2.2)⟩) hS ?_
        change wpAnyX Tryz.prog .any _ _ _ _ 4 _ (cfAct _ _ _ _ _ _ _ _ _ _ _ _ _ _ _ _ _ _ _ _ _ _ _ _ _ _ _ _ _ _ _ _ _ _ _ _ _ _ _ _ (.slice (some ⟨g, 0, none⟩) n c) (.slice (some ⟨b, off, none⟩) k cap) (.int .i64 j) (.pointer (some ⟨b, off + j * 3, none⟩)) (.pointer (some ⟨b, off + j * 3, none⟩)) (.int .i64 x) (.slice (some ⟨g, 0, none⟩) n c) (.slice (some ⟨b, off, none⟩) k cap) (.int .i64 j) (.pointer (some ⟨b, off + j * 3, none⟩)) (.pointer (some ⟨b, off + j * 3, none⟩)) (.int .i64 x) (.pointer (some ⟨g, x, none⟩)) (.int .i64 d) (.slice (some ⟨b, off, none⟩) k cap) (.int .i64 j) (.pointer (some ⟨b, off + j * 3, none⟩)) (.agg #[.int .i64 x, .int .i64 la, .bool ln]) _ _ _ _) wr.drew
        refine wpAnyX_one (i := 18) (by kernel_rfl) rfl (fun K' hK' => ?_)
        refine step_callL1 _ rfl 114 _ _ _ rfl rfl (enters_of Tryz.func114 (by kernel_rfl) rfl) _ HE.out (fun c w' h => by cases h.1) (fun w' h => by cases h.1) ?_
        rintro v9 w9 ⟨e9, b9⟩
        obtain rfl : v9 = .int .i64 dm := by injection e9
        have hS9 : LitAt b (off + j * 3) ⟨x, la, ln⟩ w9 ∧ w9.cell? ⟨g, x, none⟩ = some (.int .i64 d) := ⟨litAt_below hS.1 b9, (b9.cell (World.block_lt_of_cell? _ _ hS.2)).trans hS.2⟩
        have HB9 := Lib.hid b9
        clear b9
        refine hK'.out _ _ (fun _ => hS9) ?_
        clear hK' K'
        change wpAnyX Tryz.prog .any _ _ _ _ 3 _ (cfAct _ _ _ _ _ _ _ _ _ _ _ _ _ _ _ _ _ _ _ _ _ _ _ _ _ _ _ _ _ _ _ _ _ _ _ _ _ _ _ _ (.slice (some ⟨g, 0, none⟩) n c) (.slice (some ⟨b, off, none⟩) k cap) (.int .i64 j) (.pointer (some ⟨b, off + j * 3, none⟩)) (.pointer (some ⟨b, off + j * 3, none⟩)) (.int .i64 x) (.slice (some ⟨g, 0, none⟩) n c) (.slice (some ⟨b, off, none⟩) k cap) (.int .i64 j) (.pointer (some ⟨b, off + j * 3, none⟩)) (.pointer (some ⟨b, off + j * 3, none⟩)) (.int .i64 x) (.pointer (some ⟨g, x, none⟩)) (.int .i64 d) (.slice (some ⟨b, off, none⟩) k cap) (.int .i64 j) (.pointer (some ⟨b, off + j * 3, none⟩)) (.agg #[.int .i64 x, .int .i64 la, .bool ln]) (.int .i64 dm) _ _ _) w9
        refine wpAnyX_take (i := 19) (v := .int .i64 (bits .and .i64 d dm)) rfl (by kernel_rfl) (by kernel_rfl) (by kernel_rfl) (by kernel_rfl) (fun _ _ _ h => h) (.inl ⟨rfl, fun w' hw' => exec_bin rfl rfl rfl (and_ints _ _ _ _ _)⟩) hS9 ?_
        change wpAnyX Tryz.prog .any _ _ _ _ 2 _ (cfAct _ _ _ _ _ _ _ _ _ _ _ _ _ _ _ _ _ _ _ _ _ _ _ _ _ _ _ _ _ _ _ _ _ _ _ _ _ _ _ _ (.slice (some ⟨g, 0, none⟩) n c) (.slice (some ⟨b, off, none⟩) k cap) (.int .i64 j) (.pointer (some ⟨b, off + j * 3, none⟩)) (.pointer (some ⟨b, off + j * 3, none⟩)) (.int .i64 x) (.slice (some ⟨g, 0, none⟩) n c) (.slice (some ⟨b, off, none⟩) k cap) (.int .i64 j) (.pointer (some ⟨b, off + j * 3, none⟩)) (.pointer (some ⟨b, off + j * 3, none⟩)) (.int .i64 x) (.pointer (some ⟨g, x, none⟩)) (.int .i64 d) (.slice (some ⟨b, off, none⟩) k cap) (.int .i64 j) (.pointer (some ⟨b, off + j * 3, none⟩)) (.agg #[.int .i64 x, .int .i64 la, .bool ln]) (.int .i64 dm) (.int .i64 (bits .and .i64 d dm)) _ _) w9
        refine wpAnyX_take (i := 20) (v := .pointer (some ⟨g, x, none⟩)) rfl (by kernel_rfl) (by kernel_rfl) (by kernel_rfl) (by kernel_rfl) (fun _ _ _ h => h) (.inl ⟨rfl, fun w' hw' => exec_index rfl rfl rfl (index0_ints w' _ _ _ _ hxn)⟩) hS9 ?_
        change wpAnyX Tryz.prog .any _ _ _ _ 1 _ (cfAct _ _ _ _ _ _ _ _ _ _ _ _ _ _ _ _ _ _ _ _ _ _ _ _ _ _ _ _ _ _ _ _ _ _ _ _ _ _ _ _ (.slice (some ⟨g, 0, none⟩) n c) (.slice (some ⟨b, off, none⟩) k cap) (.int .i64 j) (.pointer (some ⟨b, off + j * 3, none⟩)) (.pointer (some ⟨b, off + j * 3, none⟩)) (.int .i64 x) (.slice (some ⟨g, 0, none⟩) n c) (.slice (some ⟨b, off, none⟩) k cap) (.int .i64 j) (.pointer (some ⟨b, off + j * 3, none⟩)) (.pointer (some ⟨b, off + j * 3, none⟩)) (.int .i64 x) (.pointer (some ⟨g, x, none⟩)) (.int .i64 d) (.slice (some ⟨b, off, none⟩) k cap) (.int .i64 j) (.pointer (some ⟨b, off + j * 3, none⟩)) (.agg #[.int .i64 x, .int .i64 la, .bool ln]) (.int .i64 dm) (.int .i64 (bits .and .i64 d dm)) (.pointer (some ⟨g, x, none⟩)) _) w9
        refine wpAnyX_one (i := 21) (by kernel_rfl) rfl (fun K' hK' => ?_)
        have HC9 := cf_cell HOW.out HB9.out hS9.2
        refine step_skip _ (w9.setCell ⟨g, x, none⟩ (.int .i64 (bits .and .i64 d dm))) rfl (exec_store rfl rfl rfl (store_int _ _ _ _ _ hS9.2 HC9)) ?_
        refine hK'.out _ _ (fun _ => (by rename_i h; cases h)) ?_
        clear hK' K'
        change wpAnyX Tryz.prog .any _ _ _ _ 0 _ (cfAct _ _ _ _ _ _ _ _ _ _ _ _ _ _ _ _ _ _ _ _ _ _ _ _ _ _ _ _ _ _ _ _ _ _ _ _ _ _ _ _ (.slice (some ⟨g, 0, none⟩) n c) (.slice (some ⟨b, off, none⟩) k cap) (.int .i64 j) (.pointer (some ⟨b, off + j * 3, none⟩)) (.pointer (some ⟨b, off + j * 3, none⟩)) (.int .i64 x) (.slice (some ⟨g, 0, none⟩) n c) (.slice (some ⟨b, off, none⟩) k cap) (.int .i64 j) (.pointer (some ⟨b, off + j * 3, none⟩)) (.pointer (some ⟨b, off + j * 3, none⟩)) (.int .i64 x) (.pointer (some ⟨g, x, none⟩)) (.int .i64 d) (.slice (some ⟨b, off, none⟩) k cap) (.int .i64 j) (.pointer (some ⟨b, off + j * 3, none⟩)) (.agg #[.int .i64 x, .int .i64 la, .bool ln]) (.int .i64 dm) (.int .i64 (bits .and .i64 d dm)) (.pointer (some ⟨g, x, none⟩)) _) (w9.setCell ⟨g, x, none⟩ (.int .i64 (bits .and .i64 d dm)))
        refine wpAnyX_done (by kernel_rfl) ?_ _
        unfold cfAct
        have HF9 : Hid ((w9.setCell ⟨g, x, none⟩ (.int .i64 (bits .and .i64 d dm))).ownsRow w.heap.size 3 1 (.slice (some ⟨g, 0, none⟩) n c) (upL ls ds).length ((upL ls ds).map (Value.int .i64))) := Lib.hid (by
          have := ((own_below HOW.out HB9.out).stored x (.int .i64 (bits .and .i64 d dm))).1
          rw [HUP.out, List.length_set, List.map_set, ← HN.out]
          exact this)
        have HB10 : Hid (Below w.heap.size w (w9.setCell ⟨g, x, none⟩ (.int .i64 (bits .and .i64 d dm)))) := Lib.hid ((HBD.out.trans (HB9.out.mono HBD.out.size)).setCell (p := ⟨g, x, none⟩) HGB.out _)
        clear hS hS9 HC9
        go_wp2
        go_ret
        exact ⟨_, rfl, HF9.out, HB10.out⟩
end Go.Proofs.YtipapmmjfoaddaaGreat
