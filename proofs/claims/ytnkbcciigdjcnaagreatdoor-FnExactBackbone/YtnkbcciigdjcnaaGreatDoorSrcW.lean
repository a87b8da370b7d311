/- The program's search: the children of a node. -/
import Derived.Test.YtnkbcciigdjcnaaGreatDoorSrcV
namespace Go.Proofs.YtnkbcciigdjcnaaGreatDoor
open Go.ChangeShapes Go.WideShapes Go.ChangeAt Go.RowKit Go.Shelf
set_option linter.unusedVariables false
set_option linter.unusedSimpArgs false

attribute [local go_sem] Oper.semAt_some

theorem step_call3 {P : Program} (w : World) {ops : Array Oper} {o : Oper} {a : Act} {K : Act → World → Prop} {Q : Exit → Act → World → Prop} {E : Prop} (hgd : o.guard = none) (F : FuncId) (x0 x1 x2 : Operand) (v0 v1 v2 : Value) (ts : Array TypeId)
    (ho : o.op = .call { callee := .value (.func F), args := #[x0, x1, x2], argTypes := ts }) (h0 : a.eval x0 = v0) (h1 : a.eval x1 = v1) (h2 : a.eval x2 = v2) (eg : ∀ gs w, (callFunc F gs).run P w = .ok (.enter F gs) w)
    (R : Ending → World → Prop) (h : Calls P F #[v0, v1, v2] w R) (hp : ∀ c w', ¬ R (.panicked c) w') (hou : ∀ w', ¬ R .outgrown w') (hR : ∀ v w', R (.returned v) w' → K (a.put o.dst v) w') :
    if Region.wanted o (yielded ops a.tmps) = true then Oper.wp P o a w K Q else E := by
  have hw : Region.wanted o (yielded ops a.tmps) = true := by simp [Region.wanted, hgd]
  rw [if_pos hw]
  have hrun : (execOp a.eval o).run P w = .ok (.enter F #[v0, v1, v2]) w := by
    have hf : a.eval (.func F) = .func (.func F) #[] #[] := rfl
    simp [execOp, ho, resolve, invoke, eg, Deferred.ofValue, h0, h1, h2, hf]
  unfold Oper.wp
  rw [hrun]
  refine Calls.mono h ?_
  intro e w' hr
  cases e with
  | returned v => exact hR v w' hr
  | panicked c => exact (hp c w' hr).elim
  | outgrown => exact (hou w' hr).elim

theorem load_rows (w : World) (g : Nat) (a : Option Addr) (n c : Nat) (h : w.cell? ⟨g, 0, none⟩ = some (.slice a n c)) : (loadVar 43 ⟨g, 0, none⟩).run Tryz.prog w = .ok (.slice a n c) w := by
  go_simp
theorem load_intsB (w : World) (g : Nat) (a : Option Addr) (n c : Nat) (h : w.cell? ⟨g, 0, none⟩ = some (.slice a n c)) : (loadVar 22 ⟨g, 0, none⟩).run Tryz.prog w = .ok (.slice a n c) w := by
  go_simp
theorem store_rows (w : World) (g : Nat) (v : Value) (a : Option Addr) (n c : Nat) (h : w.cell? ⟨g, 0, none⟩ = some v) (hf : w.frozen? ⟨g, 0, none⟩ = false) : (Instr.storeAt 43 (.pointer (some ⟨g, 0, none⟩)) (.slice a n c)).run Tryz.prog w = .ok () (w.setCell ⟨g, 0, none⟩ (.slice a n c)) := by
  go_simp
theorem row_block {X : World} {B n : Nat} {e : TypeId} {v : Value} {vals : List Value} {r : Nat} (h : X.ownsRow B e 1 v n vals) (hr : v.ownBlock = some r) : B ≤ r ∧ ∃ cur, X.heap[r]? = some (.cells cur e (0, 0)) := by
  rcases h.2 with ⟨e', _⟩ | ⟨g, cap, cur, e', h3, hg', _⟩
  · rw [e'] at hr; cases hr
  · rw [e'] at hr; cases hr; exact ⟨h3, cur, hg'⟩
theorem ownRows_append {X Y : World} {B : Nat} {cv v' u : Value} {rows : List (List Int)} {vals : List Value} {r : List Int} (hv1 : X.ownsRow B 22 1 cv rows.length vals)
    (hv2 : ∀ (i : Nat) (r : List Int), rows[i]? = some r → ∃ u, vals[i]? = some u ∧ X.ownsRow B 3 1 u r.length (r.map (Value.int .i64))) (hu : X.ownsRow B 3 1 u r.length (r.map (Value.int .i64)))
    (hg : X.grownBy Y cv.ownBlock) (ho : Y.ownsRow B 22 1 v' (rows.length + 1) (vals ++ [u])) : OwnRows Y B v' (rows ++ [r]) := by
  have ints : ∀ {u' : Value} {r : List Int}, X.ownsRow B 3 1 u' r.length (r.map (Value.int .i64)) → Y.ownsRow B 3 1 u' r.length (r.map (Value.int .i64)) := fun hu' => own_keep' hu' (fun b cur _ hb => hg.block b (Array.getElem?_eq_some_iff.1 hb).1 (fun e => by
    obtain ⟨_, cur', hc'⟩ := row_block hv1 e.symm
    rw [hb] at hc'
    injection hc' with hc'
    injection hc' with _ e2 _
    exact type_ne e2))
  have hl : vals.length = rows.length := by have := hv1.1; simpa using this
  exact ownRows_snoc (w := X) (v := cv) (fun i r hi => by obtain ⟨u', e1, e2⟩ := hv2 i r hi; exact ⟨u', e1, ints e2⟩) hl ho (ints hu)
theorem OwnRows.mono {w : World} {B B' : Nat} {v : Value} {rows : List (List Int)} (h : OwnRows w B v rows) (hb : B' ≤ B) : OwnRows w B' v rows := by
  obtain ⟨vals, h1, h2⟩ := h
  exact ⟨vals, own_mono h1 hb, fun i r hr => by obtain ⟨u, h3, h4⟩ := h2 i r hr; exact ⟨u, h3, own_mono h4 hb⟩⟩
/-- The activation inside the loop over the values. -/
def brAct (B : Nat) (dv : Value) (b off v : Nat) (x : Int) (k : Nat) (x16 x17 x18 x19 x20 x21 x22 : Value) : Act := { tmps := #[dv, .pointer (some ⟨B, 0, none⟩), .slice none 0 0, .pointer (some ⟨B + 1, 0, none⟩), .pointer (some ⟨B + 1 + 1, 0, none⟩), .int .i64 k, dv, .int .i64 v, .int .i64 v, .bool false, dv, .int .i64 v, .pointer (some ⟨b, off + v, none⟩), .int .i64 x, .func (.func 125) #[] #[.pointer (some ⟨B + 1 + 1 + 1, 0, none⟩)], .int .i64 k, x16, x17, x18, x19, x20, x21, x22, undef, undef, undef], defers := [] }
/-- What stands while the children are made. -/
structure BrSt (w : World) (B : Nat) (dv : Value) (v : Nat) (x : Int) (rows : List (List Int)) (X : World) : Prop where
  b : Below w.heap.size w X
  d : Boxed X B 22 dv
  v : Boxed X (B + 1) 3 (.int .i64 v)
  c : ∃ cv, Boxed X (B + 1 + 1) 43 cv ∧ OwnRows X (B + 4) cv rows
  s : Boxed X (B + 1 + 1 + 1) 90 (.int .i64 x)
  sz : B + 4 ≤ X.heap.size
theorem OwnRows.grown {X Y : World} {B : Nat} {v : Value} {rows : List (List Int)} {row : Option Nat} (h : OwnRows X B v rows) (hg : X.grownBy Y row) (hr : ∀ r, row = some r → ∃ o : Obj, X.heap[r]? = some o ∧ o.isCells = false) : OwnRows Y B v rows :=
  h.keep (fun b cur t _ hb _ => hg.block b (Array.getElem?_eq_some_iff.1 hb).1 (fun e => by
    obtain ⟨o, ho, hc⟩ := hr b e.symm
    rw [hb] at ho
    cases ho
    cases hc))
theorem BrSt.grown {w : World} {B : Nat} {dv : Value} {v : Nat} {x : Int} {rows : List (List Int)} {X Y : World} {row : Option Nat} (h : BrSt w B dv v x rows X) (hg : X.grownBy Y row) (hr : ∀ r, row = some r → w.heap.size ≤ r ∧ ∃ o : Obj, X.heap[r]? = some o ∧ o.isCells = false) : BrSt w B dv v x rows Y := by
  have hr' := fun r e => (hr r e).2
  obtain ⟨cv, c1, c2⟩ := h.c
  exact ⟨h.b.grown hg h.b.size (fun r e => (hr r e).1), boxed_grown h.d hg hr', boxed_grown h.v hg hr', ⟨cv, boxed_grown c1 hg hr', c2.grown hg hr'⟩, boxed_grown h.s hg hr', Nat.le_trans h.sz hg.size⟩

set_option maxRecDepth 100000 in
set_option maxHeartbeats 8000000 in
theorem branches_any (dv : Value) (p : List Int) (w : World) (h : RdInts w dv p) (hs : Small p 0 63) (h1 : 1 ≤ p.length) (h4 : p.length ≤ 4) :
    Calls Tryz.prog 91 #[dv] w fun e w' => ∃ v, e = .returned v ∧ OwnRows w' w.heap.size v (kids p).reverse ∧ Below w.heap.size w w' := by
  obtain ⟨av, cv, e2, -⟩ := id h
  subst e2
  obtain ⟨n, hn⟩ : ∃ n, n = p.length := ⟨_, rfl⟩
  obtain ⟨W1, hW1⟩ : ∃ W1, w.alloc (.cells #[.slice av p.length cv] 22) = W1 := ⟨_, rfl⟩
  have B1 : Below w.heap.size w W1 := by rw [← hW1]; exact (Below.refl _ _).alloc (Nat.le_refl _) _
  have q1 : Boxed W1 w.heap.size 22 (.slice av p.length cv) := by rw [← hW1]; exact World.alloc_heap_new _ _
  have s1 : W1.heap.size = w.heap.size + 1 := by rw [← hW1, World.size_alloc]
  have HC := Lib.hid (ibrV_any _ p W1 (h.below B1) hs)
  rw [← hn] at h1 h4 h hW1 q1 HC ⊢
  have HN := Lib.hid hn
  have HR := Lib.hid h
  have HS := Lib.hid hs
  have HW := Lib.hid hW1
  have HB1 := Lib.hid B1
  have HQ1 := Lib.hid q1
  have HS1 := Lib.hid s1
  have p0 := q1.cell
  clear hn h hs hW1 B1 q1 s1
  refine (callsIn_wide (n := 10)).1 ?_
  refine callsIn_of_wp_marks Tryz.func91 rfl trivial ?_ rfl
  simp only [Tryz.ntmps91, List.size_toArray, List.length_cons, List.length_nil, Nat.reduceAdd, Nat.reduceSub, Array.replicate_succ, Array.replicate_zero, List.push_toArray, List.append_toArray, List.nil_append, List.cons_append]
  gi_wp2_with fail
  refine ⟨trivial, ?_⟩
  gi_at_call 103
  rw [HW.out]
  refine (callsIn_wide.2 HC.out).mono ?_
  rintro e w' ⟨rfl, rfl⟩
  cases hv : brV p with
  | none =>
    have HBV : Hid (bvI p = -1) := Lib.hid (by unfold bvI; rw [hv])
    have HK : Hid (kids p = []) := Lib.hid (by unfold kids; rw [hv])
    rw [HBV.out]
    gi_wp2
    exact ⟨_, results_tmp rfl _ _ _, _, rfl, by rw [HK.out]; exact ownRows_nil _ _, HB1.out.alloc HB1.out.size _⟩
  | some v =>
    have HBV : Hid (bvI p = (v : Nat)) := Lib.hid (by unfold bvI; rw [hv])
    rw [HBV.out]
    obtain ⟨hvl, hv1, -⟩ := brV_some hv
    have hx := HS.out v hvl
    rw [← HN.out] at hvl
    obtain ⟨b, off, rfl, k3⟩ := rdInts_at HR.out hvl
    obtain ⟨x, hxx⟩ : ∃ x, x = p[v]?.getD 0 := ⟨_, rfl⟩
    rw [← hxx] at hx k3
    have HX := Lib.hid hxx
    have HV := Lib.hid hv
    obtain ⟨W3, hW3⟩ : ∃ W3, (W1.alloc (.cells #[.int .i64 v] 3)).alloc (.cells #[.slice none 0 0] 43) = W3 := ⟨_, rfl⟩
    have b3 : Below W1.heap.size W1 W3 := by rw [← hW3]; exact ((Below.refl _ _).alloc (Nat.le_refl _) _).alloc (by simp) _
    have s3 : W3.heap.size = w.heap.size + 3 := by rw [← hW3]; simp; have := HS1.out; omega
    have d3 : Boxed W3 w.heap.size 22 (.slice (some ⟨b, off, none⟩) n cv) := (b3.block _ (by have := HS1.out; omega)).trans HQ1.out
    have v3 : Boxed W3 W1.heap.size 3 (.int .i64 v) := by rw [← hW3]; exact (Below.heap_alloc _ _ _ (by simp)).trans (World.alloc_heap_new _ _)
    have c3 : Boxed W3 (W1.heap.size + 1) 43 (.slice none 0 0) := by
      have := World.alloc_heap_new (W1.alloc (.cells #[.int .i64 v] 3)) (.cells #[.slice none 0 0] 43)
      rw [World.size_alloc] at this
      rw [← hW3]; exact this
    have bw3 : Below w.heap.size w W3 := HB1.out.trans (b3.mono HB1.out.size)
    have k1 := d3.cell
    have k2 := v3.cell
    have k4 := (bw3.cell (p := ⟨b, off + v, none⟩) (World.block_lt_of_cell? w _ k3)).trans k3
    rw [← hW3] at k1 k2 k4
    have hneg : decide ((v : Int) < 0) = false := by simp
    have HW3 := Lib.hid hW3
    have HD3 := Lib.hid d3
    have HV3 := Lib.hid v3
    have HC3 := Lib.hid c3
    have HBW3 := Lib.hid bw3
    have HS3 := Lib.hid s3
    clear hxx hv hW3 b3 s3 d3 v3 c3 bw3 k3 p0 HC HQ1
    gi_wp2_with (refine ⟨trivial, ?_⟩; gi_at_call 104; refine (values_in _ _ _).mono ?_; rintro e w' ⟨rfl, rfl⟩)
    rw [HW3.out]
    rw [HW3.out] at k1 k2 k4
    rw [HS1.out] at HV3 HC3
    clear k1 k2 k4
    have bs := World.alloc_heap_new W3 (.cells #[.int .i64 x] 90)
    obtain ⟨W4, hW4⟩ : ∃ W4, W3.alloc (.cells #[.int .i64 x] 90) = W4 := ⟨_, rfl⟩
    have b4 : Below W3.heap.size W3 W4 := by rw [← hW4]; exact (Below.refl _ _).alloc (Nat.le_refl _) _
    have hst : BrSt w w.heap.size (.slice (some ⟨b, off, none⟩) n cv) v x ((vL x 0).map fun a => p.set v (2 ^ a.toNat)) W4 := ⟨HBW3.out.trans (b4.mono HBW3.out.size), (b4.block _ HD3.out.lt).trans HD3.out, (b4.block _ HV3.out.lt).trans HV3.out, ⟨_, (b4.block _ HC3.out.lt).trans HC3.out, ownRows_nil _ _⟩, by rw [← HS3.out, ← hW4]; exact bs, by rw [← hW4, World.size_alloc, HS3.out]; exact Nat.le_refl _⟩
    have HST := Lib.hid hst
    have HS4 : Hid (W4.heap.size = w.heap.size + 4) := Lib.hid (by rw [← hW4, World.size_alloc, HS3.out])
    rw [hW4, HS1.out]
    clear hst b4 bs hW4 HD3 HV3 HC3 HBW3 HW3
    obtain ⟨i0, hi, hz0, hz1, hz2⟩ := info_parts Tryz.info22
    refine rf_values (Bs := w.heap.size + 1 + 1 + 1) (d := x) (by omega) rfl hx.1 hx.2 rfl
      (fun k X => BrSt w w.heap.size (.slice (some ⟨b, off, none⟩) n cv) v x ((vL x k).map fun a => p.set v (2 ^ a.toNat)) X)
      (fun c k X => False) ?_ (fun c s X Y row h => h.elim) (fun k X h => h.s.cell) ?_ HST.out
      (fun k => brAct w.heap.size (.slice (some ⟨b, off, none⟩) n cv) b off v x k undef undef undef undef undef undef undef) ?_ ?_ ?_ ?_
    · exact fun k X Y row h hg hr => h.grown hg (fun r e => ⟨by have := (hr r e).1; have := HS4.out; omega, (hr r e).2⟩)
    · intro k X hk hh h
      rw [show vL x (k + 1) = vL x k from by rw [vL, hh]; simp]
      exact h
    · intro l k X K hK
      unfold brAct at hK
      gi_wp2
      exact hK
    · intro l k X hl hr hk hh hB
      obtain ⟨hb, hd, hvb, ⟨cv', hc, hro⟩, hsb, hsz⟩ := hB
      obtain ⟨ca, cc, rfl, hcc1, hcc2⟩ := ownRows_slice hro
      obtain ⟨rows, hrows⟩ : ∃ rows, rows = (vL x k).map fun a => p.set v (2 ^ a.toNat) := ⟨_, rfl⟩
      rw [← hrows] at hc hro hcc1
      have hrl : rows.length ≤ 6 := by rw [hrows, List.length_map]; have := vL_le x k; omega
      have hkid : ((vL x (k + 1)).map fun a => p.set v (2 ^ a.toNat)) = rows ++ [p.set v (2 ^ k)] := by
        rw [vL, hh, hrows]; simp
      have HCF := Lib.hid (ifixed_any (.slice (some ⟨b, off, none⟩) n cv) p v k X.drew ((HR.out.below hb).below (Below.refl _ _).drew) HS.out (by have := HN.out; omega) (by have := HN.out; omega) hk (by rw [← HX.out]; exact hh))
      have HRL := Lib.hid hrl
      have HKID := Lib.hid hkid
      have HHB := Lib.hid hb
      have HHD := Lib.hid hd
      have HHV := Lib.hid hvb
      have HHC := Lib.hid hc
      have HHR := Lib.hid hro
      have HHS := Lib.hid hsb
      have HSZ := Lib.hid hsz
      have HHK := Lib.hid hk
      clear hrows hrl hkid hb hd hvb hc hro hsb hsz hcc1 hcc2 hr hl hh
      gi_wp2_with fail
      refine region_round_x (fun w' => Boxed w' (w.heap.size + 1 + 1) 43 (.slice ca rows.length cc) ∧ Boxed w' w.heap.size 22 (.slice (some ⟨b, off, none⟩) n cv) ∧ Boxed w' (w.heap.size + 1) 3 (.int .i64 v)) (fun j => j == 7) (by kernel_rfl) (by kernel_rfl) ?_ ?_
      · rintro ⟨a, w', h⟩
        exact h
      have hS : Boxed X.drew (w.heap.size + 1 + 1) 43 (.slice ca rows.length cc) ∧ Boxed X.drew w.heap.size 22 (.slice (some ⟨b, off, none⟩) n cv) ∧ Boxed X.drew (w.heap.size + 1) 3 (.int .i64 v) := ⟨HHC.out, HHD.out, HHV.out⟩
      refine wpAnyX_take (i := 0) (v := .slice ca rows.length cc) rfl (by kernel_rfl) (by kernel_rfl) (by kernel_rfl) (by kernel_rfl) (fun _ _ _ h => h) (.inl ⟨rfl, fun w' hw' => exec_load rfl rfl (load_rows w' _ _ _ _ hw'.1.cell)⟩) hS ?_
      refine wpAnyX_take (i := 1) (v := .slice (some ⟨b, off, none⟩) n cv) rfl (by kernel_rfl) (by kernel_rfl) (by kernel_rfl) (by kernel_rfl) (fun _ _ _ h => h) (.inl ⟨rfl, fun w' hw' => exec_load rfl rfl (load_intsB w' _ _ _ _ hw'.2.1.cell)⟩) hS ?_
      refine wpAnyX_take (i := 2) (v := .int .i64 v) rfl (by kernel_rfl) (by kernel_rfl) (by kernel_rfl) (by kernel_rfl) (fun _ _ _ h => h) (.inl ⟨rfl, fun w' hw' => exec_load rfl rfl (load_int w' _ _ _ hw'.2.2.cell)⟩) hS ?_
      refine wpAnyX_take (i := 3) (v := .int .i64 k) rfl (by kernel_rfl) (by kernel_rfl) (by kernel_rfl) (by kernel_rfl) (fun _ _ _ h => h) (.inl ⟨rfl, fun w' hw' => rfl⟩) hS ?_
      change wpAnyX Tryz.prog .any _ _ _ _ 4 _ (brAct w.heap.size (.slice (some ⟨b, off, none⟩) n cv) b off v x k (.slice ca rows.length cc) (.slice (some ⟨b, off, none⟩) n cv) (.int .i64 v) (.int .i64 k) undef undef undef) X.drew
      refine wpAnyX_one (i := 4) (by kernel_rfl) rfl (fun K' hK' => ?_)
      refine step_call3 _ rfl 105 _ _ _ _ _ _ _ rfl rfl rfl rfl (enters_of Tryz.func105 (by kernel_rfl) rfl) _ HCF.out (fun c w' h => by obtain ⟨_, h, _⟩ := h; cases h) (fun w' h => by obtain ⟨_, h, _⟩ := h; cases h) ?_
      rintro vq X2 ⟨v2, e2, o2, b2⟩
      injection e2 with e2
      subst e2
      obtain ⟨ua, un, uc, eu⟩ := own_slice o2
      subst eu
      have b2' : Below X.heap.size X X2 := (show Below X.heap.size X X.drew from (Below.refl _ _).drew).trans b2
      have hS2 : Boxed X2 (w.heap.size + 1 + 1) 43 (.slice ca rows.length cc) ∧ Boxed X2 w.heap.size 22 (.slice (some ⟨b, off, none⟩) n cv) ∧ Boxed X2 (w.heap.size + 1) 3 (.int .i64 v) := ⟨(b2'.block _ HHC.out.lt).trans HHC.out, (b2'.block _ HHD.out.lt).trans HHD.out, (b2'.block _ HHV.out.lt).trans HHV.out⟩
      refine hK'.out _ _ (fun _ => hS2) ?_
      clear hK' K'
      change wpAnyX Tryz.prog .any _ _ _ _ 3 _ (brAct w.heap.size (.slice (some ⟨b, off, none⟩) n cv) b off v x k (.slice ca rows.length cc) (.slice (some ⟨b, off, none⟩) n cv) (.int .i64 v) (.int .i64 k) (.slice ua un uc) undef undef) X2
      refine wpAnyX_one (i := 5) (by kernel_rfl) rfl (fun K' hK' => ?_)
      have HS2 := Lib.hid hS2
      have HB2 := Lib.hid b2'
      have HO2 := Lib.hid o2
      clear hS2 b2' o2 b2 hS
      unfold brAct at hK' ⊢
      simp only [List.getElem_toArray, List.getElem_cons_succ, List.getElem_cons_zero]
      go_wp2
      have hS2 := HS2.out
      have b2' := HB2.out
      have o2 := HO2.out
      have hb := HHB.out
      have hro := HHR.out
      have hsb := HHS.out
      have hsz := HSZ.out
      have hrl := HRL.out
      have hkid := HKID.out
      have b3 : Below X2.heap.size X2 (X2.alloc (.cells #[.slice ua un uc] 22)) := (Below.refl _ _).alloc (Nat.le_refl _) _
      obtain ⟨vals, hv1, hv2⟩ := (hro.below b2').below b3
      have hXs := b2'.size
      have hu3 := own_below (own_mono o2 (show w.heap.size + 4 ≤ X.drew.heap.size from hsz)) b3
      refine hK'.out _ _ (fun _ => ⟨(b3.block _ hS2.1.lt).trans hS2.1, (b3.block _ hS2.2.1.lt).trans hS2.2.1, (b3.block _ hS2.2.2.lt).trans hS2.2.2⟩) ?_
      clear hK' K'
      change wpAnyX Tryz.prog .any _ _ _ _ 2 _ (brAct w.heap.size (.slice (some ⟨b, off, none⟩) n cv) b off v x k (.slice ca rows.length cc) (.slice (some ⟨b, off, none⟩) n cv) (.int .i64 v) (.int .i64 k) (.slice ua un uc) (.slice (some ⟨X2.heap.size, 0, none⟩) 1 1) undef) (X2.alloc (.cells #[.slice ua un uc] 22))
      refine wpAnyX_one (i := 6) (by kernel_rfl) rfl (fun K' hK' => ?_)
      refine step_append_lies _ rfl (.tmp 16) (.tmp 21) 43 rfl (w.heap.size + 4) 22 i0 (.slice none 0 0) 1 24 Tryz.underlying43 hi hz0 hz1 hz2 rfl (by decide) _ _ _ rfl hv1 ⟨X2.heap.size, 0, none⟩ 1 1 [.slice ua un uc] rfl rfl (World.news_of_block (World.alloc_heap_new X2 _)) (by simp [Value.oneCell']) (by decide) (by unfold maxLen; omega) (by omega) (by simp; omega) _ rfl ?_
      intro g cap' w6 hown hgrow hat hlt6
      have hne : ∀ b', b' < w.heap.size + 4 → b' < X2.heap.size → w6.heap[b']? = X2.heap[b']? := fun b' h1 h2 => (hgrow.block b' (by simp; omega) (fun e => by have := (row_block hv1 e.symm).1; omega)).trans (b3.block b' h2)
      have kc : Boxed w6 (w.heap.size + 1 + 1) 43 (.slice ca rows.length cc) := (hne _ (by omega) hS2.1.lt).trans hS2.1
      have kd : Boxed w6 w.heap.size 22 (.slice (some ⟨b, off, none⟩) n cv) := (hne _ (by omega) hS2.2.1.lt).trans hS2.2.1
      have kv : Boxed w6 (w.heap.size + 1) 3 (.int .i64 v) := (hne _ (by omega) hS2.2.2.lt).trans hS2.2.2
      have ks : Boxed w6 (w.heap.size + 1 + 1 + 1) 90 (.int .i64 x) := (hne _ (by omega) (Nat.lt_of_lt_of_le hsb.lt hXs)).trans ((b2'.block _ hsb.lt).trans hsb)
      refine hK'.out _ _ (fun _ => ⟨kc, kd, kv⟩) ?_
      clear hK' K'
      change wpAnyX Tryz.prog .any _ _ _ _ 1 _ (brAct w.heap.size (.slice (some ⟨b, off, none⟩) n cv) b off v x k (.slice ca rows.length cc) (.slice (some ⟨b, off, none⟩) n cv) (.int .i64 v) (.int .i64 k) (.slice ua un uc) (.slice (some ⟨X2.heap.size, 0, none⟩) 1 1) (.slice (some ⟨g, 0, none⟩) (rows.length + 1) cap')) w6
      refine wpAnyX_one (i := 7) (by kernel_rfl) rfl (fun K' hK' => ?_)
      refine step_skip _ (w6.setCell ⟨w.heap.size + 1 + 1, 0, none⟩ (.slice (some ⟨g, 0, none⟩) (rows.length + 1) cap')) rfl (exec_store rfl rfl rfl (store_rows _ _ _ _ _ _ kc.cell kc.frozen)) ?_
      refine hK'.out _ _ (fun h => by cases h) ?_
      clear hK' K'
      refine wpAnyX_done (by kernel_rfl) ?_ _
      have hnew := ownRows_append hv1 hv2 hu3 hgrow hown
      have hset : ∀ b', b' ≠ w.heap.size + 1 + 1 → (w6.setCell ⟨w.heap.size + 1 + 1, 0, none⟩ (.slice (some ⟨g, 0, none⟩) (rows.length + 1) cap')).heap[b']? = w6.heap[b']? := fun b' hb' => Below.heap_setCell _ _ _ _ (by show b' ≠ w.heap.size + 1 + 1; exact hb')
      have hfin : BrSt w w.heap.size (.slice (some ⟨b, off, none⟩) n cv) v x ((vL x (k + 1)).map fun a => p.set v (2 ^ a.toNat)) (w6.setCell ⟨w.heap.size + 1 + 1, 0, none⟩ (.slice (some ⟨g, 0, none⟩) (rows.length + 1) cap')) := by
        rw [hkid]
        refine ⟨(((hb.trans (b2'.mono hb.size)).alloc (by have := hb.size; omega) _).grown hgrow (by simp; have := hb.size; omega) (fun q e => by have := (row_block hv1 e).1; omega)).setCell (by show w.heap.size ≤ w.heap.size + 1 + 1; omega) _, (hset _ (by omega)).trans kd, (hset _ (by omega)).trans kv, ⟨_, kc.set _, hnew.keep (fun b' cur t hb' _ _ => hset b' (by omega))⟩, (hset _ (by omega)).trans ks, ?_⟩
        have := hgrow.size
        simp at this ⊢
        omega
      have hkeep : KeepsFrom W4.heap.size X (w6.setCell ⟨w.heap.size + 1 + 1, 0, none⟩ (.slice (some ⟨g, 0, none⟩) (rows.length + 1) cap')) := by
        refine ⟨by have := hgrow.size; simp at this ⊢; omega, fun b' o hb' h1 h2 => ?_⟩
        have hlt' := (Array.getElem?_eq_some_iff.1 h1).1
        refine (hset b' (by have := HS4.out; omega)).trans ((hgrow.block b' (by simp; omega) (fun e => ?_)).trans ((b3.block b' (by omega)).trans ((b2'.block b' hlt').trans h1)))
        obtain ⟨_, cur', hc'⟩ := row_block hv1 e.symm
        rw [(b3.block b' (by omega)), b2'.block b' hlt', h1] at hc'
        cases hc'
        cases h2
      exact ⟨hkeep, trivial, hfin⟩
    · intro D X hD hB hK
      obtain ⟨hb, hd, hvb, ⟨cv', hc, hro⟩, hsb, hsz⟩ := hB
      have hkk : ((vL x 6).map fun a => p.set v (2 ^ a.toNat)) = kids p := by unfold kids; rw [HV.out]; simp only; rw [← HX.out]
      rw [hkk] at hro
      have hkl : (kids p).length = cntD x := by rw [← hkk, List.length_map]; exact vL_cnt hx.1 hx.2
      have hcs := cnt_six x
      rw [← HX.out] at hv1
      obtain ⟨vals, o1, o2⟩ := hro
      obtain ⟨g, cap, rfl, hg1⟩ : ∃ g cap, cv' = .slice (some ⟨g, 0, none⟩) (kids p).length cap ∧ w.heap.size + 4 ≤ g := by
        rcases o1.2 with ⟨_, h0⟩ | ⟨g, cap, cur, e, h3, _⟩
        · omega
        · exact ⟨g, cap, e, h3⟩
      have hcap : (kids p).length ≤ cap ∧ cap ≤ 9223372036854775807 := by
        rcases o1.2 with ⟨e, _⟩ | ⟨g', c', cur, e, _, _, q1, q2, _⟩
        · cases e
        · injection e with _ _ e; subst e; unfold maxLen at q2; omega
      have hvl' : vals.length = (kids p).length := by have := o1.1; simpa using this
      have HRV := Lib.hid (rev_any g (kids p).length cap (w.heap.size + 4) vals X o1 (by omega) (by omega) (fun j hj => by
        obtain ⟨u, e1, e2⟩ := o2 j (kids p)[j] (List.getElem?_eq_getElem hj)
        obtain ⟨a, m, c, e3⟩ := own_slice e2
        exact ⟨a, m, c, by rw [e1, e3]⟩))
      have HO2 := Lib.hid o2
      have HVL := Lib.hid hvl'
      have HB := Lib.hid hb
      have HBX := Lib.hid hc
      have HG1 := Lib.hid hg1
      have HKD := Lib.hid hK
      have HO1 := Lib.hid o1
      obtain ⟨kl, hkl'⟩ : ∃ kl, kl = (kids p).length := ⟨_, rfl⟩
      have HKL := Lib.hid hkl'
      rw [← hkl'] at HRV HBX hcap hkl HO1
      have c0 := HBX.out.cell
      have HD := Lib.hid hD
      have HCP := Lib.hid hcap
      clear hb hd hvb hc o1 o2 hsb hsz hkk hg1 hK hvl' hkl' hkl hcs hv1 hD hcap HST hx
      gi_wp2_with fail
      refine ⟨trivial, ?_⟩
      gi_at_call 106
      refine (callsIn_wide.2 HRV.out).mono ?_
      rintro e X2 ⟨⟨ve, rfl⟩, o3, g3⟩
      have hg1 := HG1.out
      have hbx := HBX.out
      have c1 : X2.cell? ⟨w.heap.size + 1 + 1, 0, none⟩ = some (.slice (some ⟨g, 0, none⟩) kl cap) := (cell_same (g3.block _ hbx.lt (by simp; omega))).trans c0
      have hD2 : X2.heap[D]? = some (.deferred (some [])) := (g3.block D (Array.getElem?_eq_some_iff.1 HKD.out).1 (by
        intro e
        simp at e
        subst e
        have := HKD.out
        rcases HO1.out.2 with ⟨e', _⟩ | ⟨g', c', cur, e', _, h', _⟩
        · cases e'
        · injection e' with e' _ _
          injection e' with e'
          injection e' with e'
          subst e'
          rw [h'] at this
          cases this)).trans HKD.out
      have HG3 := Lib.hid g3
      have HO3 := Lib.hid o3
      clear g3 o3 c0 hbx hg1
      gi_wp2
      refine ⟨by simp, .inl ⟨_, _, rfl, run_takeDeferred hD2, ?_⟩⟩
      have hfin : ∀ o', OwnRows (X2.putObj D o') w.heap.size (.slice (some ⟨g, 0, none⟩) kl cap) (kids p).reverse ∧ Below w.heap.size w (X2.putObj D o') := fun o' => by
        have hg := grownBy_putObj' X2 D o'
        have hDn : ∀ r, some D = some r → ∃ o : Obj, X2.heap[r]? = some o ∧ o.isCells = false := fun r e => by cases e; exact ⟨_, hD2, rfl⟩
        have hrow : OwnRows X2 w.heap.size (.slice (some ⟨g, 0, none⟩) kl cap) (kids p).reverse := by
          refine OwnRows.mono (B := w.heap.size + 4) ?_ (by omega)
          refine ⟨vals.reverse, by rw [List.length_reverse, ← HKL.out]; exact HO3.out, fun i r hi => ?_⟩
          have hil : i < (kids p).length := by have := (List.getElem?_eq_some_iff.1 hi).1; simpa using this
          rw [List.getElem?_reverse hil] at hi
          obtain ⟨u, e1, e2⟩ := HO2.out _ r hi
          refine ⟨u, by rw [List.getElem?_reverse (by rw [HVL.out]; exact hil), HVL.out]; exact e1, own_keep' e2 (fun b' cur _ hb' => HG3.out.block b' (Array.getElem?_eq_some_iff.1 hb').1 (fun e => ?_))⟩
          cases e
          rcases HO1.out.2 with ⟨e', _⟩ | ⟨g', c', cur', e', _, h', _⟩
          · cases e'
          · injection e' with e' _ _
            injection e' with e'
            injection e' with e'
            subst e'
            rw [h'] at hb'
            injection hb' with hb'
            injection hb' with _ e2 _
            exact type_ne e2.symm
        exact ⟨hrow.grown hg hDn, ((HB.out.grown HG3.out HB.out.size (fun r e => by cases e; have := HG1.out; omega))).grown hg (Nat.le_trans HB.out.size HG3.out.size) (fun r e => by cases e; have := HS4.out; have := HD.out; omega)⟩
      exact ⟨_, results_tmp rfl _ _ _, _, rfl, (hfin _).1, (hfin _).2⟩
    · intro D c k X hD hk h
      exact h.elim
end Go.Proofs.YtnkbcciigdjcnaaGreatDoor
