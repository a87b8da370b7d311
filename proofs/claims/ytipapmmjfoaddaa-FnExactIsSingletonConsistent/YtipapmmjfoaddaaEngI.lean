/- Whether one of the variables is a variable of a propagator. The program's engine: the propagators of the constraints of a model. -/
import Derived.Test.YtipapmmjfoaddaaFi
import Derived.Deep.AppendLies

/-! Whether one of the variables is a variable of a propagator. -/
namespace Go.Proofs.Ytipapmmjfoaddaa
open Go.ChangeShapes Go.WideShapes Go.ChangeAt Go.RowKit Go.Shelf
set_option linter.unusedVariables false
set_option linter.unusedSimpArgs false

/-- One of the numbers xs is one of the variables. -/
def anyB (vars xs : List Int) : Bool := xs.any fun x => decide (x ∈ vars)

set_option maxRecDepth 100000 in
theorem hasAny1_any (x : Int) (B : Nat) (vv fv : Value) (vars : List Int) (w : World) (hb : w.heap[B]? = some (.cells #[vv, fv] 88)) (hv : RdInts w vv vars) :
    Calls Try.prog 133 #[.int .i64 x, .pointer (some ⟨B, 0, none⟩)] w fun e w' => e = .returned (.bool (decide (x ∈ vars))) ∧ w = w' := by
  have HV := Lib.hid hv
  obtain ⟨av, cv, ev, -⟩ := id hv
  rw [ev] at HV hb
  have p0 : w.cell? ⟨B, 0, none⟩ = some (.slice av vars.length cv) := by simp [World.cell?, hb]
  clear hv ev hb
  go_enter Try.func133, Try.ntmps133
  go_wp2_with fail
  refine (slicesContains_any _ vars x w HV.out).mono ?_
  rintro e w' ⟨rfl, rfl⟩
  go_wp2
  go_ret
  exact ⟨rfl, rfl⟩

set_option maxRecDepth 100000 in
set_option maxHeartbeats 1000000 in
theorem hasAnyIx_any (xv : Value) (x : List Int) (B : Nat) (vv fv : Value) (vars : List Int) (w : World) (hx : RdInts w xv x) (hb : w.heap[B]? = some (.cells #[vv, fv] 88)) (hv : RdInts w vv vars) :
    Calls Try.prog 144 #[xv, .func (.func 133) #[] #[.pointer (some ⟨B, 0, none⟩)]] w fun e w' => ∃ r : Int, e = .returned (.int .i64 r) ∧ (0 ≤ r ↔ anyB vars x = true) ∧ w = w' := by
  have HX := Lib.hid hx
  obtain ⟨ax, cx, e2, _⟩ := hx
  rw [e2] at HX ⊢
  obtain ⟨n, hn⟩ : ∃ n, n = x.length := ⟨_, rfl⟩
  rw [← hn] at HX ⊢
  have HN := Lib.hid hn
  have HF := Lib.hid (fun z => hasAny1_any z B vv fv vars w hb hv)
  clear e2 hn hb hv
  have hc2 := (rdInts_cap HX.out).2
  go_enter Try.func144, Try.ntmps144
  go_wp2
  go_loop [8] (fun i => ∃ k : Nat, k ≤ n ∧ i = .int .i64 k ∧ Hid (∀ j, j < k → ¬ x[j]?.getD 0 ∈ vars)) (fun i => n - (intOf i).toNat)
  case atStart => exact ⟨0, Nat.zero_le _, rfl, fun j hj => by omega⟩
  case round =>
    obtain ⟨k, hk, rfl, HE⟩ := hrel
    by_cases hlt : k < n
    · obtain ⟨b1, o1, rfl, q1⟩ := rdInts_at HX.out hlt
      by_cases he : x[k]?.getD 0 ∈ vars
      · have HM : Hid (anyB vars x = true) := Lib.hid (by
          have hk' : k < x.length := by have := HN.out; omega
          unfold anyB
          rw [List.any_eq_true]
          refine ⟨x[k], List.getElem_mem hk', ?_⟩
          rw [List.getElem?_eq_getElem hk'] at he
          simpa using he)
        have HD := Lib.hid (decide_eq_true he)
        clear he
        go_wp2_with (go_at_call 133; refine (HF.out _).mono ?_; rintro e w' ⟨rfl, rfl⟩; rw [HD.out])
        go_ret
        exact ⟨k, rfl, ⟨fun _ => HM.out, fun _ => by omega⟩, rfl⟩
      · have HE2 := Lib.hid he
        have HD := Lib.hid (decide_eq_false he)
        clear he
        go_wp2_with (go_at_call 133; refine (HF.out _).mono ?_; rintro e w' ⟨rfl, rfl⟩; rw [HD.out])
        go_round
        case rel => exact ⟨k + 1, by omega, by go_num, fun j hj => by by_cases e : j = k; (· subst e; exact HE2.out); (· exact HE.out j (by omega))⟩
        case measure => simp [intOf]; omega
    · obtain rfl : k = n := by omega
      have HM : Hid (¬ anyB vars x = true) := Lib.hid (fun hm => by
        unfold anyB at hm
        rw [List.any_eq_true] at hm
        obtain ⟨z, hz, e⟩ := hm
        obtain ⟨j, hj, rfl⟩ := List.mem_iff_getElem.1 hz
        exact HE.out j (by have := HN.out; omega) (by rw [List.getElem?_eq_getElem hj]; simpa using e))
      clear HE
      go_wp2
      go_ret
      exact ⟨-1, rfl, ⟨fun h => by omega, fun h => (HM.out h).elim⟩, rfl⟩

set_option maxRecDepth 100000 in
theorem hasAnyCf_any (xv : Value) (x : List Int) (B : Nat) (vv fv : Value) (vars : List Int) (w : World) (hx : RdInts w xv x) (hb : w.heap[B]? = some (.cells #[vv, fv] 88)) (hv : RdInts w vv vars) :
    Calls Try.prog 132 #[xv, .func (.func 133) #[] #[.pointer (some ⟨B, 0, none⟩)]] w fun e w' => e = .returned (.bool (anyB vars x)) ∧ w = w' := by
  have HC := Lib.hid (hasAnyIx_any xv x B vv fv vars w hx hb hv)
  obtain ⟨ax, cx, e2, _⟩ := hx
  rw [e2] at HC ⊢
  clear e2 hb hv
  go_enter Try.func132, Try.ntmps132
  go_wp2_with fail
  refine HC.out.mono ?_
  rintro e w9 ⟨r, rfl, hr, rfl⟩
  have HR := Lib.hid hr
  clear hr HC
  by_cases h : 0 ≤ r
  · have HM := Lib.hid (HR.out.1 h)
    go_wp2
    go_ret
    exact ⟨ret_bool (by rw [HM.out]), rfl⟩
  · have HM : Hid (anyB vars x = false) := Lib.hid (by cases hq : anyB vars x; (· rfl); (· exact absurd (HR.out.2 hq) h))
    go_wp2
    go_ret
    exact ⟨ret_bool (by rw [HM.out]; simp; omega), rfl⟩

set_option maxRecDepth 100000 in
theorem hasAny_any (xv : Value) (x : List Int) (vv fv : Value) (vars : List Int) (w : World) (hx : RdInts w xv x) (hv : RdInts w vv vars) :
    Calls Try.prog 114 #[.agg #[vv, fv], xv] w (BoolPost (anyB vars x) w) := by
  obtain ⟨ax, cx, e2, _⟩ := id hx
  obtain ⟨av, cv, e3, _⟩ := id hv
  obtain ⟨W1, hW1⟩ : ∃ W1, w.alloc (.cells #[vv, fv] 88) = W1 := ⟨_, rfl⟩
  have B1 : Below w.heap.size w W1 := by rw [← hW1]; exact (Below.refl _ _).alloc (Nat.le_refl _) _
  have q1 : W1.heap[w.heap.size]? = some (.cells #[vv, fv] 88) := by rw [← hW1]; exact World.alloc_heap_new _ _
  have HC := Lib.hid (hasAnyCf_any xv x w.heap.size vv fv vars W1 (hx.below B1) q1 (hv.below B1))
  have HB1 := Lib.hid B1
  have HW := Lib.hid hW1
  rw [e2] at HC ⊢
  rw [e3] at HW ⊢
  clear hx hv e2 e3 hW1 B1 q1
  go_enter Try.func114, Try.ntmps114
  go_wp2_with fail
  rw [HW.out]
  refine HC.out.mono ?_
  rintro e w9 ⟨rfl, rfl⟩
  go_wp2
  go_ret
  exact ⟨rfl, HB1.out⟩
end Go.Proofs.Ytipapmmjfoaddaa

/-! The program's engine: the propagators of the constraints of a model. -/
namespace Go.Proofs.Ytipapmmjfoaddaa
open Go.ChangeShapes Go.WideShapes Go.ChangeAt Go.RowKit Go.Shelf
set_option linter.unusedVariables false
set_option linter.unusedSimpArgs false

theorem step_call1 {P : Program} (w : World) {ops : Array Oper} {o : Oper} {a : Act} {K : Act → World → Prop} {Q : Exit → Act → World → Prop} {E : Prop} (hgd : o.guard = none) (F : FuncId) (x0 : Operand) (v0 : Value) (ts : Array TypeId)
    (ho : o.op = .call { callee := .value (.func F), args := #[x0], argTypes := ts }) (h0 : a.eval x0 = v0) (eg : ∀ gs w, (callFunc F gs).run P w = .ok (.enter F gs) w)
    (R : Ending → World → Prop) (h : Calls P F #[v0] w R) (hp : ∀ c w', ¬ R (.panicked c) w') (hou : ∀ w', ¬ R .outgrown w') (hR : ∀ v w', R (.returned v) w' → K (a.put o.dst v) w') :
    if Region.wanted o (yielded ops a.tmps) = true then Oper.wp P o a w K Q else E := by
  have hw : Region.wanted o (yielded ops a.tmps) = true := by simp [Region.wanted, hgd]
  rw [if_pos hw]
  have hrun : (execOp a.eval o).run P w = .ok (.enter F #[v0]) w := by
    have hf : a.eval (.func F) = .func (.func F) #[] #[] := rfl
    simp [execOp, ho, resolve, invoke, eg, Deferred.ofValue, h0, hf]
  unfold Oper.wp
  rw [hrun]
  refine Calls.mono h ?_
  intro e w' hr
  cases e with
  | returned v => exact hR v w' hr
  | panicked c => exact (hp c w' hr).elim
  | outgrown => exact (hou w' hr).elim
/-- The activation inside the region that adds a propagator. -/
def engAct (z0 z2 z3 z5 z6 z7 z8 z10 z11 x12 x13 x14 x15 x16 x17 x18 x19 : Value) : Act := { tmps := #[z0, undef, z2, z3, undef, z5, z6, z7, z8, .bool true, z10, z11, x12, x13, x14, x15, x16, x17, x18, x19, undef], defers := [] }
theorem load_props (w : World) (g : Nat) (a : Option Addr) (n c : Nat) (h : w.cell? ⟨g, 0, none⟩ = some (.slice a n c)) : (loadVar 55 ⟨g, 0, none⟩).run Try.prog w = .ok (.slice a n c) w := by
  go_simp
theorem store_props (w : World) (g : Nat) (v : Value) (a : Option Addr) (n c : Nat) (h : w.cell? ⟨g, 0, none⟩ = some v) (hf : w.frozen? ⟨g, 0, none⟩ = false) : (Instr.storeAt 55 (.pointer (some ⟨g, 0, none⟩)) (.slice a n c)).run Try.prog w = .ok () (w.setCell ⟨g, 0, none⟩ (.slice a n c)) := by
  go_simp
theorem infoProp : (Try.prog.info? 88).map (fun i => (i.zero, i.size, i.bytes)) = some (some (.agg #[.slice none 0 0, .nilFunc]), 2, 32) := by kernel_rfl
/-- (vv, F, cv): the propagator of c: its variables and its test. -/
structure PrT (c : Con) (p : Value × Nat × Value) : Prop where
  test : isTest p.2.1
  vars : ∀ w', RdCon w' p.2.2 c → RdInts w' p.1 c.vars
  sat : ∀ (xv : Value) (x : List Int) (w : World), Fit c x → RdCon w p.2.2 c → RdInts w xv x → Calls Try.prog p.2.1 #[p.2.2, xv] w (BoolPost (satB c x) w)
/-- The cells of a row of propagators. -/
def flatP : List (Value × Nat × Value) → List Value
  | [] => []
  | p :: P => p.1 :: .func (.func p.2.1) #[p.2.2] #[] :: flatP P
theorem flatP_length : ∀ P, (flatP P).length = P.length * 2
  | [] => rfl
  | p :: P => by simp [flatP, flatP_length P]; omega
theorem flatP_snoc (p : Value × Nat × Value) : ∀ P, flatP (P ++ [p]) = flatP P ++ [p.1, .func (.func p.2.1) #[p.2.2] #[]]
  | [] => rfl
  | q :: P => by simp [flatP, flatP_snoc p P]
theorem flatP_at {p : Value × Nat × Value} : ∀ {P : List (Value × Nat × Value)} {i : Nat}, P[i]? = some p → (flatP P)[i * 2]? = some p.1 ∧ (flatP P)[i * 2 + 1]? = some (.func (.func p.2.1) #[p.2.2] #[])
  | [], i, h => by simp at h
  | q :: P, 0, h => by simp at h; subst h; simp [flatP]
  | q :: P, i + 1, h => by
    have := flatP_at (P := P) (i := i) (by simpa using h)
    rw [show (i + 1) * 2 = i * 2 + 2 from by omega]
    simpa [flatP] using this
/-- The propagators P of the constraints cs, which are read in w. -/
def PrOf (w : World) (cs : List Con) (P : List (Value × Nat × Value)) : Prop := P.length = cs.length ∧ ∀ (i : Nat) (c : Con) (p : Value × Nat × Value), cs[i]? = some c → P[i]? = some p → PrT c p ∧ RdCon w p.2.2 c

set_option maxRecDepth 100000 in
set_option maxHeartbeats 4000000 in
theorem engineOf2_any (v : Value) (cs : List Con) (w0 w : World) (h0 : RdCons w0 v cs) (hb0 : Below w0.heap.size w0 w) (h6 : cs.length ≤ 6) (hk : ∀ c ∈ cs, kindB c = true) :
    Calls Try.prog 32 #[v] w fun e w' => ∃ pv P, e = .returned (.agg #[pv]) ∧ w'.ownsRow w.heap.size 88 2 pv P.length (flatP P) ∧ PrOf w0 cs P ∧ Below w.heap.size w w' := by
  have h : RdCons w v cs := h0.below hb0
  obtain ⟨a, cap, e, -⟩ := id h
  subst e
  have hca := (rdCons_cap h).2
  obtain ⟨i0, hi, hz0, hz1, hz2⟩ := info_parts infoProp
  obtain ⟨n, hn⟩ : ∃ n, n = cs.length := ⟨_, rfl⟩
  obtain ⟨W2, hW2⟩ : ∃ W2, (w.alloc (.cells #[.slice none 0 0] 57)).alloc (.cells #[.slice none 0 0] 57) = W2 := ⟨_, rfl⟩
  have B2 : Below w.heap.size w W2 := by rw [← hW2]; exact ((Below.refl _ _).alloc (Nat.le_refl _) _).alloc (by simp) _
  have s2 : W2.heap.size = w.heap.size + 2 := by rw [← hW2]; simp
  have q1 : Boxed W2 w.heap.size 57 (.slice none 0 0) := by rw [← hW2]; exact (Below.heap_alloc _ _ _ (by simp)).trans (World.alloc_heap_new _ _)
  have q2 : Boxed W2 (w.heap.size + 1) 57 (.slice none 0 0) := by
    have := World.alloc_heap_new (w.alloc (.cells #[.slice none 0 0] 57)) (.cells #[.slice none 0 0] 57)
    rw [World.size_alloc] at this
    rw [← hW2]; exact this
  rw [← hn] at h h0 hca h6 ⊢
  have HN := Lib.hid hn
  have HR := Lib.hid h
  have HR0 := Lib.hid h0
  have HB0 := Lib.hid hb0
  have HW := Lib.hid hW2
  have HB2 := Lib.hid B2
  have HS2 := Lib.hid s2
  have HQ1 := Lib.hid q1
  have HQ2 := Lib.hid q2
  have HK := Lib.hid hk
  clear hn h h0 hb0 hW2 B2 s2 q1 q2 hk
  go_enter Try.func32, Try.ntmps32
  go_wp2
  rw [HW.out]
  go_loopw [8] (fun i wr => ∃ (j : Nat) (pv : Value) (P : List (Value × Nat × Value)), j ≤ n ∧ i = .int .i64 j ∧ Hid (P.length = j) ∧ Hid (∀ (i : Nat) (c : Con) (p : Value × Nat × Value), cs[i]? = some c → P[i]? = some p → PrT c p ∧ RdCon w0 p.2.2 c) ∧ Hid (Boxed wr (w.heap.size + 1) 57 pv) ∧ Hid (wr.ownsRow (w.heap.size + 2) 88 2 pv P.length (flatP P)) ∧ Hid (Boxed wr w.heap.size 57 (.slice none 0 0)) ∧ Hid (Below w.heap.size w wr)) (fun i _ => n - (intOf i).toNat)
  case atStart => exact ⟨0, .slice none 0 0, [], Nat.zero_le _, rfl, Lib.hid rfl, Lib.hid (fun i c p h1 h2 => by simp at h2), HQ2, Lib.hid (World.ownsRow_nil _ _ _ _), HQ1, HB2⟩
  case round =>
    obtain ⟨j, pv, P, hj, rfl, HPL, HPR, HE, HO, HE0, HBE⟩ := hrel
    obtain ⟨pa, pn, pc, epv⟩ := own_slice HO.out
    subst epv
    by_cases hlt : j < n
    · obtain ⟨b, off, c, x2, x3, x5, y2, y3, y5, rfl, hck, t0, t1, t2, t3, t4, hr⟩ := rdCons_at (HR.out.below HBE.out) hlt
      have HCK := Lib.hid hck
      obtain ⟨F, hF, hT, hS⟩ := pick_all c (HK.out c (List.mem_of_getElem? hck))
      obtain ⟨W3, hW3⟩ : ∃ W3, wr.alloc (.cells #[.int .i64 c.kind, .slice x2 c.vars.length y2, .slice x3 c.args.length y3, .int .i64 c.bound, .slice x5 c.rows.length y5] 82) = W3 := ⟨_, rfl⟩
      have B3 : Below wr.heap.size wr W3 := by rw [← hW3]; exact (Below.refl _ _).alloc (Nat.le_refl _) _
      have bC : Blk5 W3 wr.heap.size 82 (.int .i64 c.kind) (.slice x2 c.vars.length y2) (.slice x3 c.args.length y3) (.int .i64 c.bound) (.slice x5 c.rows.length y5) := by rw [← hW3]; exact Blk5.new wr _ _ _ _ _ _
      have bE : Boxed W3 (w.heap.size + 1) 57 (.slice pa pn pc) := (B3.block _ HE.out.lt).trans HE.out
      have HC : Hid (Calls Try.prog 60 #[.agg #[.int .i64 c.kind, .slice x2 c.vars.length y2, .slice x3 c.args.length y3, .int .i64 c.bound, .slice x5 c.rows.length y5]] W3.drew (fun e X => ∃ va vn vc, e = .returned (.agg #[.slice va vn vc, .func (.func F) #[.agg #[.int .i64 c.kind, .slice x2 c.vars.length y2, .slice x3 c.args.length y3, .int .i64 c.bound, .slice x5 c.rows.length y5]] #[]]) ∧ PrT c (.slice va vn vc, F, .agg #[.int .i64 c.kind, .slice x2 c.vars.length y2, .slice x3 c.args.length y3, .int .i64 c.bound, .slice x5 c.rows.length y5]) ∧ Below wr.heap.size wr X ∧ Blk5 X wr.heap.size 82 (.int .i64 c.kind) (.slice x2 c.vars.length y2) (.slice x3 c.args.length y3) (.int .i64 c.bound) (.slice x5 c.rows.length y5) ∧ Boxed X (w.heap.size + 1) 57 (.slice pa pn pc) ∧ X.ownsRow (w.heap.size + 2) 88 2 (.slice pa pn pc) P.length (flatP P))) := by
        refine Lib.hid ((propagatorOf_any c _ F W3.drew ((hr.below B3).below (Below.refl _ _).drew) (fun w h => hT _ w h)).mono ?_)
        rintro e X ⟨vv, rfl, hvv, b'⟩
        have bb : Below W3.heap.size W3 X := (show Below W3.heap.size W3 W3.drew from (Below.refl _ _).drew).trans b'
        have bw : Below wr.heap.size wr X := B3.trans (bb.mono B3.size)
        obtain ⟨a', c', e', -⟩ := hvv _ ((hr.below B3).below (Below.refl _ _).drew)
        subst e'
        exact ⟨_, _, _, rfl, ⟨hF, hvv, fun xv x w f h hx => hS _ xv x w f h hx⟩, bw, bC.below bb, (bb.block _ bE.lt).trans bE, own_below HO.out bw⟩
      have HW3 := Lib.hid hW3
      obtain ⟨y0, y1, y2', y3', y4⟩ := bC.cell
      have y5' := bE.cell
      have HRC := Lib.hid (show RdCon w0 (.agg #[.int .i64 c.kind, .slice x2 c.vars.length y2, .slice x3 c.args.length y3, .int .i64 c.bound, .slice x5 c.rows.length y5]) c by
        obtain ⟨b', off', c', _, _, _, _, _, _, eb, hck', t0', t1', t2', t3', t4', hr'⟩ := rdCons_at HR0.out hlt
        have hlt' := World.block_lt_of_cell? w0 _ t0'
        injection eb with eb
        injection eb with e1 e2
        subst e1 e2
        rw [hck] at hck'
        obtain rfl := Option.some.inj hck'
        have HBX : Below w0.heap.size w0 wr := HB0.out.trans (HBE.out.mono HB0.out.size)
        have k1 := (HBX.cell (p := ⟨b, off + j * 5 + 1, none⟩) hlt').trans t1'
        have k2 := (HBX.cell (p := ⟨b, off + j * 5 + 2, none⟩) hlt').trans t2'
        have k4 := (HBX.cell (p := ⟨b, off + j * 5 + 4, none⟩) hlt').trans t4'
        rw [t1] at k1
        rw [t2] at k2
        rw [t4] at k4
        rw [Option.some.inj k1, Option.some.inj k2, Option.some.inj k4]
        exact hr')
      clear hck hr hW3 B3 bE hF hT hS
      go_wp2
      rw [HW3.out]
      have hpl6 : P.length ≤ 6 := by have := HPL.out; omega
      have hq6 : ∀ q, Value.ownBlock (.slice pa pn pc) = some q → w.heap.size + 2 ≤ q ∧ q < wr.heap.size := fun q e => HO.out.lt q e
      refine wp_region_held_drew (S := fun w' => Blk5 w' wr.heap.size 82 (.int .i64 c.kind) (.slice x2 c.vars.length y2) (.slice x3 c.args.length y3) (.int .i64 c.bound) (.slice x5 c.rows.length y5)) (by kernel_rfl) bC (fun hS => ?_)
      refine wpAnyH_take (i := 0) (v := .pointer (some ⟨w.heap.size + 1, 0, none⟩)) rfl (by kernel_rfl) (by kernel_rfl) (by kernel_rfl) (fun _ _ _ h => h) (.inl ⟨rfl, fun w' hw' => rfl⟩) hS ?_
      refine wpAnyH_take (i := 2) (v := .agg #[.int .i64 c.kind, .slice x2 c.vars.length y2, .slice x3 c.args.length y3, .int .i64 c.bound, .slice x5 c.rows.length y5]) rfl (by kernel_rfl) (by kernel_rfl) (by kernel_rfl) (fun _ _ _ h => h) (.inl ⟨rfl, fun w' hw' => exec_load rfl rfl (run_loadVar_row w' _ _ _ _ _ _ hw' Try.underlying82 rfl (by kernel_rfl))⟩) hS ?_
      change wpAnyH Try.prog .any _ _ _ 6 _ (engAct (.slice (some ⟨b, off, none⟩) n cap) (.pointer (some ⟨w.heap.size, 0, none⟩)) (.pointer (some ⟨w.heap.size + 1, 0, none⟩)) (.pointer (some ⟨wr.heap.size, 0, none⟩)) (.slice (some ⟨b, off, none⟩) n cap) (.int .i64 n) (.int .i64 j) (.pointer (some ⟨b, off + j * 5, none⟩)) (.agg #[.int .i64 c.kind, .slice x2 c.vars.length y2, .slice x3 c.args.length y3, .int .i64 c.bound, .slice x5 c.rows.length y5]) (.pointer (some ⟨w.heap.size + 1, 0, none⟩)) u13 (.agg #[.int .i64 c.kind, .slice x2 c.vars.length y2, .slice x3 c.args.length y3, .int .i64 c.bound, .slice x5 c.rows.length y5]) u15 u16 u17 u18 u19) W3.drew
      refine wpAnyH_ready (rs := [1, 3]) (by kernel_rfl) (by simp) (AllReadyH.cons rfl (fun K' hK' => ?_) (AllReadyH.cons rfl (fun K' hK' => ?_) AllReadyH.nil))
      · refine step_value _ _ rfl (.slice pa pn pc) (exec_load rfl rfl (load_props _ _ _ _ _ y5')) ?_
        refine hK'.out _ _ bC (fun hS => ?_)
        clear hK' K'
        change wpAnyH Try.prog .any _ _ _ 5 _ (engAct (.slice (some ⟨b, off, none⟩) n cap) (.pointer (some ⟨w.heap.size, 0, none⟩)) (.pointer (some ⟨w.heap.size + 1, 0, none⟩)) (.pointer (some ⟨wr.heap.size, 0, none⟩)) (.slice (some ⟨b, off, none⟩) n cap) (.int .i64 n) (.int .i64 j) (.pointer (some ⟨b, off + j * 5, none⟩)) (.agg #[.int .i64 c.kind, .slice x2 c.vars.length y2, .slice x3 c.args.length y3, .int .i64 c.bound, .slice x5 c.rows.length y5]) (.pointer (some ⟨w.heap.size + 1, 0, none⟩)) (.slice pa pn pc) (.agg #[.int .i64 c.kind, .slice x2 c.vars.length y2, .slice x3 c.args.length y3, .int .i64 c.bound, .slice x5 c.rows.length y5]) u15 u16 u17 u18 u19) W3.drew
        refine wpAnyH_ready (rs := [3]) (by kernel_rfl) (by simp) (AllReadyH.cons rfl (fun K' hK' => ?_) AllReadyH.nil)
        refine step_call1 _ rfl 60 _ _ _ rfl rfl (enters_of Try.func60 (by kernel_rfl) rfl) _ HC.out (fun c w' h => by obtain ⟨_, _, _, h, _⟩ := h; cases h) (fun w' h => by obtain ⟨_, _, _, h, _⟩ := h; cases h) ?_
        rintro vq X ⟨va, vn, vc, eq, hpt, bX, k5, kE, kO⟩
        injection eq with eq
        subst eq
        refine hK'.out _ _ k5 (fun hS => ?_)
        clear hK' K'
        have hXs : w.heap.size + 2 ≤ wr.heap.size ∧ wr.heap.size < X.heap.size := ⟨HE.out.lt, k5.lt⟩
        change wpAnyH Try.prog .any _ _ _ 4 _ (engAct (.slice (some ⟨b, off, none⟩) n cap) (.pointer (some ⟨w.heap.size, 0, none⟩)) (.pointer (some ⟨w.heap.size + 1, 0, none⟩)) (.pointer (some ⟨wr.heap.size, 0, none⟩)) (.slice (some ⟨b, off, none⟩) n cap) (.int .i64 n) (.int .i64 j) (.pointer (some ⟨b, off + j * 5, none⟩)) (.agg #[.int .i64 c.kind, .slice x2 c.vars.length y2, .slice x3 c.args.length y3, .int .i64 c.bound, .slice x5 c.rows.length y5]) (.pointer (some ⟨w.heap.size + 1, 0, none⟩)) (.slice pa pn pc) (.agg #[.int .i64 c.kind, .slice x2 c.vars.length y2, .slice x3 c.args.length y3, .int .i64 c.bound, .slice x5 c.rows.length y5]) (.agg #[.slice va vn vc, .func (.func F) #[.agg #[.int .i64 c.kind, .slice x2 c.vars.length y2, .slice x3 c.args.length y3, .int .i64 c.bound, .slice x5 c.rows.length y5]] #[]]) u16 u17 u18 u19) X
        refine wpAnyH_ready (rs := [4]) (by kernel_rfl) (by simp) (AllReadyH.cons rfl (fun K' hK' => ?_) AllReadyH.nil)
        unfold engAct at hK' ⊢
        simp only [List.getElem_toArray, List.getElem_cons_succ, List.getElem_cons_zero]
        go_wp2
        refine hK'.out _ _ (show Blk5 (X.alloc (.cells #[.slice va vn vc, .func (.func F) #[.agg #[.int .i64 c.kind, .slice x2 c.vars.length y2, .slice x3 c.args.length y3, .int .i64 c.bound, .slice x5 c.rows.length y5]] #[]] 88)) wr.heap.size 82 (.int .i64 c.kind) (.slice x2 c.vars.length y2) (.slice x3 c.args.length y3) (.int .i64 c.bound) (.slice x5 c.rows.length y5) from (Below.heap_alloc _ _ _ hXs.2).trans k5) (fun hS => ?_)
        clear hK' K'
        change wpAnyH Try.prog .any _ _ _ 3 _ (engAct (.slice (some ⟨b, off, none⟩) n cap) (.pointer (some ⟨w.heap.size, 0, none⟩)) (.pointer (some ⟨w.heap.size + 1, 0, none⟩)) (.pointer (some ⟨wr.heap.size, 0, none⟩)) (.slice (some ⟨b, off, none⟩) n cap) (.int .i64 n) (.int .i64 j) (.pointer (some ⟨b, off + j * 5, none⟩)) (.agg #[.int .i64 c.kind, .slice x2 c.vars.length y2, .slice x3 c.args.length y3, .int .i64 c.bound, .slice x5 c.rows.length y5]) (.pointer (some ⟨w.heap.size + 1, 0, none⟩)) (.slice pa pn pc) (.agg #[.int .i64 c.kind, .slice x2 c.vars.length y2, .slice x3 c.args.length y3, .int .i64 c.bound, .slice x5 c.rows.length y5]) (.agg #[.slice va vn vc, .func (.func F) #[.agg #[.int .i64 c.kind, .slice x2 c.vars.length y2, .slice x3 c.args.length y3, .int .i64 c.bound, .slice x5 c.rows.length y5]] #[]]) (.slice (some ⟨X.heap.size, 0, none⟩) 1 1) u17 u18 u19) (X.alloc (.cells #[.slice va vn vc, .func (.func F) #[.agg #[.int .i64 c.kind, .slice x2 c.vars.length y2, .slice x3 c.args.length y3, .int .i64 c.bound, .slice x5 c.rows.length y5]] #[]] 88))
        refine wpAnyH_ready (rs := [5]) (by kernel_rfl) (by simp) (AllReadyH.cons rfl (fun K' hK' => ?_) AllReadyH.nil)
        refine step_append_lies _ rfl (.tmp 13) (.tmp 16) 55 rfl (w.heap.size + 2) 88 i0 (.agg #[.slice none 0 0, .nilFunc]) 2 32 Try.underlying55 hi hz0 hz1 hz2 rfl (by decide) _ _ _ rfl (kO.alloc _) ⟨X.heap.size, 0, none⟩ 1 1 [.slice va vn vc, .func (.func F) #[.agg #[.int .i64 c.kind, .slice x2 c.vars.length y2, .slice x3 c.args.length y3, .int .i64 c.bound, .slice x5 c.rows.length y5]] #[]] rfl rfl (World.news_of_block (World.alloc_heap_new X _)) (by simp [Value.oneCell']) (by decide) (by unfold maxLen; omega) (by omega) (by simp; omega) _ rfl ?_
        intro g cap' w6 hown hgrow hat hlt6
        have kE6 : Boxed w6 (w.heap.size + 1) 57 (.slice pa pn pc) := (hgrow.block _ (by simp; omega) (fun e => by have := (hq6 _ e.symm).1; omega)).trans ((Below.heap_alloc _ _ _ (by omega)).trans kE)
        have k56 : Blk5 w6 wr.heap.size 82 (.int .i64 c.kind) (.slice x2 c.vars.length y2) (.slice x3 c.args.length y3) (.int .i64 c.bound) (.slice x5 c.rows.length y5) := (hgrow.block _ (by simp; omega) (fun e => by have := (hq6 _ e.symm).2; omega)).trans ((Below.heap_alloc _ _ _ (by omega)).trans k5)
        refine hK'.out _ _ k56 (fun hS => ?_)
        clear hK' K'
        change wpAnyH Try.prog .any _ _ _ 2 _ (engAct (.slice (some ⟨b, off, none⟩) n cap) (.pointer (some ⟨w.heap.size, 0, none⟩)) (.pointer (some ⟨w.heap.size + 1, 0, none⟩)) (.pointer (some ⟨wr.heap.size, 0, none⟩)) (.slice (some ⟨b, off, none⟩) n cap) (.int .i64 n) (.int .i64 j) (.pointer (some ⟨b, off + j * 5, none⟩)) (.agg #[.int .i64 c.kind, .slice x2 c.vars.length y2, .slice x3 c.args.length y3, .int .i64 c.bound, .slice x5 c.rows.length y5]) (.pointer (some ⟨w.heap.size + 1, 0, none⟩)) (.slice pa pn pc) (.agg #[.int .i64 c.kind, .slice x2 c.vars.length y2, .slice x3 c.args.length y3, .int .i64 c.bound, .slice x5 c.rows.length y5]) (.agg #[.slice va vn vc, .func (.func F) #[.agg #[.int .i64 c.kind, .slice x2 c.vars.length y2, .slice x3 c.args.length y3, .int .i64 c.bound, .slice x5 c.rows.length y5]] #[]]) (.slice (some ⟨X.heap.size, 0, none⟩) 1 1) (.slice (some ⟨g, 0, none⟩) (P.length + 1) cap') u18 u19) w6
        refine wpAnyH_take (i := 6) (v := .pointer (some ⟨w.heap.size + 1, 0, none⟩)) rfl (by kernel_rfl) (by kernel_rfl) (by kernel_rfl) (fun _ _ _ h => h) (.inl ⟨rfl, fun w' hw' => rfl⟩) k56 ?_
        change wpAnyH Try.prog .any _ _ _ 1 _ (engAct (.slice (some ⟨b, off, none⟩) n cap) (.pointer (some ⟨w.heap.size, 0, none⟩)) (.pointer (some ⟨w.heap.size + 1, 0, none⟩)) (.pointer (some ⟨wr.heap.size, 0, none⟩)) (.slice (some ⟨b, off, none⟩) n cap) (.int .i64 n) (.int .i64 j) (.pointer (some ⟨b, off + j * 5, none⟩)) (.agg #[.int .i64 c.kind, .slice x2 c.vars.length y2, .slice x3 c.args.length y3, .int .i64 c.bound, .slice x5 c.rows.length y5]) (.pointer (some ⟨w.heap.size + 1, 0, none⟩)) (.slice pa pn pc) (.agg #[.int .i64 c.kind, .slice x2 c.vars.length y2, .slice x3 c.args.length y3, .int .i64 c.bound, .slice x5 c.rows.length y5]) (.agg #[.slice va vn vc, .func (.func F) #[.agg #[.int .i64 c.kind, .slice x2 c.vars.length y2, .slice x3 c.args.length y3, .int .i64 c.bound, .slice x5 c.rows.length y5]] #[]]) (.slice (some ⟨X.heap.size, 0, none⟩) 1 1) (.slice (some ⟨g, 0, none⟩) (P.length + 1) cap') (.pointer (some ⟨w.heap.size + 1, 0, none⟩)) u19) w6
        refine wpAnyH_ready (rs := [7]) (by kernel_rfl) (by simp) (AllReadyH.cons rfl (fun K' hK' => ?_) AllReadyH.nil)
        refine step_skip _ (w6.setCell ⟨w.heap.size + 1, 0, none⟩ (.slice (some ⟨g, 0, none⟩) (P.length + 1) cap')) rfl (exec_store rfl rfl rfl (store_props _ _ _ _ _ _ kE6.cell kE6.frozen)) ?_
        refine hK'.out _ _ (show Blk5 (w6.setCell ⟨w.heap.size + 1, 0, none⟩ (.slice (some ⟨g, 0, none⟩) (P.length + 1) cap')) wr.heap.size 82 (.int .i64 c.kind) (.slice x2 c.vars.length y2) (.slice x3 c.args.length y3) (.int .i64 c.bound) (.slice x5 c.rows.length y5) from (Below.heap_setCell _ _ _ _ (by show wr.heap.size ≠ w.heap.size + 1; omega)).trans k56) (fun hS => ?_)
        clear hK' K'
        refine wpAnyH_done (by kernel_rfl) ?_ _
        unfold engAct
        have HFIN := Lib.hid (And.intro hpt (And.intro bX (And.intro kE6 (And.intro hown hgrow))))
        clear hpt bX kE6 hown hgrow k5 kE kO hS k56 hat hlt6
        go_wp2
        obtain ⟨hpt, bX, kE6, hown, hgrow⟩ := HFIN.out
        have hne : Value.ownBlock (.slice (some ⟨g, 0, none⟩) (P.length + 1) cap') ≠ some (w.heap.size + 1) := fun e => by have := (hown.lt _ e).1; omega
        have hX2 := bX.size
        have hb6 : Below w.heap.size w w6 := ((HBE.out.trans (bX.mono HBE.out.size)).alloc (by omega) _).grown hgrow (by simp; omega) (fun q e => by have := (hq6 q e).1; omega)
        refine ⟨⟨j + 1, (.slice (some ⟨g, 0, none⟩) (P.length + 1) cap'), P ++ [(.slice va vn vc, F, .agg #[.int .i64 c.kind, .slice x2 c.vars.length y2, .slice x3 c.args.length y3, .int .i64 c.bound, .slice x5 c.rows.length y5])], by omega, by simp, Lib.hid (by rw [List.length_append, HPL.out]; rfl), Lib.hid ?_, Lib.hid (kE6.set _), Lib.hid ?_, Lib.hid ?_, Lib.hid (hb6.setCell (by show w.heap.size ≤ w.heap.size + 1; omega) _)⟩, ?_⟩
        · intro i c' p hc' hp'
          by_cases hi' : i < P.length
          · rw [List.getElem?_append_left hi'] at hp'
            exact HPR.out i c' p hc' hp'
          · have hij : i = j := by have q1 := (List.getElem?_eq_some_iff.1 hp').1; simp at q1; have q2 := HPL.out; omega
            subst hij
            rw [HCK.out] at hc'
            obtain rfl := Option.some.inj hc'
            rw [List.getElem?_append_right (by omega), HPL.out, Nat.sub_self] at hp'
            obtain rfl := Option.some.inj hp'
            exact ⟨hpt, HRC.out⟩
        · rw [flatP_snoc, List.length_append]
          exact World.ownsRow.kept hown (grownBy_setCell' w6 (w.heap.size + 1) _) (.inr hne)
        · exact (Below.heap_setCell _ _ _ _ (by show w.heap.size ≠ w.heap.size + 1; omega)).trans ((hgrow.block _ (by simp; omega) (fun e => by have := (hq6 _ e.symm).1; omega)).trans ((Below.heap_alloc _ _ _ (by omega)).trans ((bX.block _ (by omega)).trans HE0.out)))
        · simp [intOf]
          omega
      · refine step_call1 _ rfl 60 _ _ _ rfl rfl (enters_of Try.func60 (by kernel_rfl) rfl) _ HC.out (fun c w' h => by obtain ⟨_, _, _, h, _⟩ := h; cases h) (fun w' h => by obtain ⟨_, _, _, h, _⟩ := h; cases h) ?_
        rintro vq X ⟨va, vn, vc, eq, hpt, bX, k5, kE, kO⟩
        injection eq with eq
        subst eq
        refine hK'.out _ _ k5 (fun hS => ?_)
        clear hK' K'
        have hXs : w.heap.size + 2 ≤ wr.heap.size ∧ wr.heap.size < X.heap.size := ⟨HE.out.lt, k5.lt⟩
        change wpAnyH Try.prog .any _ _ _ 5 _ (engAct (.slice (some ⟨b, off, none⟩) n cap) (.pointer (some ⟨w.heap.size, 0, none⟩)) (.pointer (some ⟨w.heap.size + 1, 0, none⟩)) (.pointer (some ⟨wr.heap.size, 0, none⟩)) (.slice (some ⟨b, off, none⟩) n cap) (.int .i64 n) (.int .i64 j) (.pointer (some ⟨b, off + j * 5, none⟩)) (.agg #[.int .i64 c.kind, .slice x2 c.vars.length y2, .slice x3 c.args.length y3, .int .i64 c.bound, .slice x5 c.rows.length y5]) (.pointer (some ⟨w.heap.size + 1, 0, none⟩)) u13 (.agg #[.int .i64 c.kind, .slice x2 c.vars.length y2, .slice x3 c.args.length y3, .int .i64 c.bound, .slice x5 c.rows.length y5]) (.agg #[.slice va vn vc, .func (.func F) #[.agg #[.int .i64 c.kind, .slice x2 c.vars.length y2, .slice x3 c.args.length y3, .int .i64 c.bound, .slice x5 c.rows.length y5]] #[]]) u16 u17 u18 u19) X
        refine wpAnyH_ready (rs := [1, 4]) (by kernel_rfl) (by simp) (AllReadyH.cons rfl (fun K' hK' => ?_) (AllReadyH.cons rfl (fun K' hK' => ?_) AllReadyH.nil))
        · refine step_value _ _ rfl (.slice pa pn pc) (exec_load rfl rfl (load_props _ _ _ _ _ kE.cell)) ?_
          refine hK'.out _ _ k5 (fun hS => ?_)
          clear hK' K'
          change wpAnyH Try.prog .any _ _ _ 4 _ (engAct (.slice (some ⟨b, off, none⟩) n cap) (.pointer (some ⟨w.heap.size, 0, none⟩)) (.pointer (some ⟨w.heap.size + 1, 0, none⟩)) (.pointer (some ⟨wr.heap.size, 0, none⟩)) (.slice (some ⟨b, off, none⟩) n cap) (.int .i64 n) (.int .i64 j) (.pointer (some ⟨b, off + j * 5, none⟩)) (.agg #[.int .i64 c.kind, .slice x2 c.vars.length y2, .slice x3 c.args.length y3, .int .i64 c.bound, .slice x5 c.rows.length y5]) (.pointer (some ⟨w.heap.size + 1, 0, none⟩)) (.slice pa pn pc) (.agg #[.int .i64 c.kind, .slice x2 c.vars.length y2, .slice x3 c.args.length y3, .int .i64 c.bound, .slice x5 c.rows.length y5]) (.agg #[.slice va vn vc, .func (.func F) #[.agg #[.int .i64 c.kind, .slice x2 c.vars.length y2, .slice x3 c.args.length y3, .int .i64 c.bound, .slice x5 c.rows.length y5]] #[]]) u16 u17 u18 u19) X
          refine wpAnyH_ready (rs := [4]) (by kernel_rfl) (by simp) (AllReadyH.cons rfl (fun K' hK' => ?_) AllReadyH.nil)
          unfold engAct at hK' ⊢
          simp only [List.getElem_toArray, List.getElem_cons_succ, List.getElem_cons_zero]
          go_wp2
          refine hK'.out _ _ (show Blk5 (X.alloc (.cells #[.slice va vn vc, .func (.func F) #[.agg #[.int .i64 c.kind, .slice x2 c.vars.length y2, .slice x3 c.args.length y3, .int .i64 c.bound, .slice x5 c.rows.length y5]] #[]] 88)) wr.heap.size 82 (.int .i64 c.kind) (.slice x2 c.vars.length y2) (.slice x3 c.args.length y3) (.int .i64 c.bound) (.slice x5 c.rows.length y5) from (Below.heap_alloc _ _ _ hXs.2).trans k5) (fun hS => ?_)
          clear hK' K'
          change wpAnyH Try.prog .any _ _ _ 3 _ (engAct (.slice (some ⟨b, off, none⟩) n cap) (.pointer (some ⟨w.heap.size, 0, none⟩)) (.pointer (some ⟨w.heap.size + 1, 0, none⟩)) (.pointer (some ⟨wr.heap.size, 0, none⟩)) (.slice (some ⟨b, off, none⟩) n cap) (.int .i64 n) (.int .i64 j) (.pointer (some ⟨b, off + j * 5, none⟩)) (.agg #[.int .i64 c.kind, .slice x2 c.vars.length y2, .slice x3 c.args.length y3, .int .i64 c.bound, .slice x5 c.rows.length y5]) (.pointer (some ⟨w.heap.size + 1, 0, none⟩)) (.slice pa pn pc) (.agg #[.int .i64 c.kind, .slice x2 c.vars.length y2, .slice x3 c.args.length y3, .int .i64 c.bound, .slice x5 c.rows.length y5]) (.agg #[.slice va vn vc, .func (.func F) #[.agg #[.int .i64 c.kind, .slice x2 c.vars.length y2, .slice x3 c.args.length y3, .int .i64 c.bound, .slice x5 c.rows.length y5]] #[]]) (.slice (some ⟨X.heap.size, 0, none⟩) 1 1) u17 u18 u19) (X.alloc (.cells #[.slice va vn vc, .func (.func F) #[.agg #[.int .i64 c.kind, .slice x2 c.vars.length y2, .slice x3 c.args.length y3, .int .i64 c.bound, .slice x5 c.rows.length y5]] #[]] 88))
          refine wpAnyH_ready (rs := [5]) (by kernel_rfl) (by simp) (AllReadyH.cons rfl (fun K' hK' => ?_) AllReadyH.nil)
          refine step_append_lies _ rfl (.tmp 13) (.tmp 16) 55 rfl (w.heap.size + 2) 88 i0 (.agg #[.slice none 0 0, .nilFunc]) 2 32 Try.underlying55 hi hz0 hz1 hz2 rfl (by decide) _ _ _ rfl (kO.alloc _) ⟨X.heap.size, 0, none⟩ 1 1 [.slice va vn vc, .func (.func F) #[.agg #[.int .i64 c.kind, .slice x2 c.vars.length y2, .slice x3 c.args.length y3, .int .i64 c.bound, .slice x5 c.rows.length y5]] #[]] rfl rfl (World.news_of_block (World.alloc_heap_new X _)) (by simp [Value.oneCell']) (by decide) (by unfold maxLen; omega) (by omega) (by simp; omega) _ rfl ?_
          intro g cap' w6 hown hgrow hat hlt6
          have kE6 : Boxed w6 (w.heap.size + 1) 57 (.slice pa pn pc) := (hgrow.block _ (by simp; omega) (fun e => by have := (hq6 _ e.symm).1; omega)).trans ((Below.heap_alloc _ _ _ (by omega)).trans kE)
          have k56 : Blk5 w6 wr.heap.size 82 (.int .i64 c.kind) (.slice x2 c.vars.length y2) (.slice x3 c.args.length y3) (.int .i64 c.bound) (.slice x5 c.rows.length y5) := (hgrow.block _ (by simp; omega) (fun e => by have := (hq6 _ e.symm).2; omega)).trans ((Below.heap_alloc _ _ _ (by omega)).trans k5)
          refine hK'.out _ _ k56 (fun hS => ?_)
          clear hK' K'
          change wpAnyH Try.prog .any _ _ _ 2 _ (engAct (.slice (some ⟨b, off, none⟩) n cap) (.pointer (some ⟨w.heap.size, 0, none⟩)) (.pointer (some ⟨w.heap.size + 1, 0, none⟩)) (.pointer (some ⟨wr.heap.size, 0, none⟩)) (.slice (some ⟨b, off, none⟩) n cap) (.int .i64 n) (.int .i64 j) (.pointer (some ⟨b, off + j * 5, none⟩)) (.agg #[.int .i64 c.kind, .slice x2 c.vars.length y2, .slice x3 c.args.length y3, .int .i64 c.bound, .slice x5 c.rows.length y5]) (.pointer (some ⟨w.heap.size + 1, 0, none⟩)) (.slice pa pn pc) (.agg #[.int .i64 c.kind, .slice x2 c.vars.length y2, .slice x3 c.args.length y3, .int .i64 c.bound, .slice x5 c.rows.length y5]) (.agg #[.slice va vn vc, .func (.func F) #[.agg #[.int .i64 c.kind, .slice x2 c.vars.length y2, .slice x3 c.args.length y3, .int .i64 c.bound, .slice x5 c.rows.length y5]] #[]]) (.slice (some ⟨X.heap.size, 0, none⟩) 1 1) (.slice (some ⟨g, 0, none⟩) (P.length + 1) cap') u18 u19) w6
          refine wpAnyH_take (i := 6) (v := .pointer (some ⟨w.heap.size + 1, 0, none⟩)) rfl (by kernel_rfl) (by kernel_rfl) (by kernel_rfl) (fun _ _ _ h => h) (.inl ⟨rfl, fun w' hw' => rfl⟩) k56 ?_
          change wpAnyH Try.prog .any _ _ _ 1 _ (engAct (.slice (some ⟨b, off, none⟩) n cap) (.pointer (some ⟨w.heap.size, 0, none⟩)) (.pointer (some ⟨w.heap.size + 1, 0, none⟩)) (.pointer (some ⟨wr.heap.size, 0, none⟩)) (.slice (some ⟨b, off, none⟩) n cap) (.int .i64 n) (.int .i64 j) (.pointer (some ⟨b, off + j * 5, none⟩)) (.agg #[.int .i64 c.kind, .slice x2 c.vars.length y2, .slice x3 c.args.length y3, .int .i64 c.bound, .slice x5 c.rows.length y5]) (.pointer (some ⟨w.heap.size + 1, 0, none⟩)) (.slice pa pn pc) (.agg #[.int .i64 c.kind, .slice x2 c.vars.length y2, .slice x3 c.args.length y3, .int .i64 c.bound, .slice x5 c.rows.length y5]) (.agg #[.slice va vn vc, .func (.func F) #[.agg #[.int .i64 c.kind, .slice x2 c.vars.length y2, .slice x3 c.args.length y3, .int .i64 c.bound, .slice x5 c.rows.length y5]] #[]]) (.slice (some ⟨X.heap.size, 0, none⟩) 1 1) (.slice (some ⟨g, 0, none⟩) (P.length + 1) cap') (.pointer (some ⟨w.heap.size + 1, 0, none⟩)) u19) w6
          refine wpAnyH_ready (rs := [7]) (by kernel_rfl) (by simp) (AllReadyH.cons rfl (fun K' hK' => ?_) AllReadyH.nil)
          refine step_skip _ (w6.setCell ⟨w.heap.size + 1, 0, none⟩ (.slice (some ⟨g, 0, none⟩) (P.length + 1) cap')) rfl (exec_store rfl rfl rfl (store_props _ _ _ _ _ _ kE6.cell kE6.frozen)) ?_
          refine hK'.out _ _ (show Blk5 (w6.setCell ⟨w.heap.size + 1, 0, none⟩ (.slice (some ⟨g, 0, none⟩) (P.length + 1) cap')) wr.heap.size 82 (.int .i64 c.kind) (.slice x2 c.vars.length y2) (.slice x3 c.args.length y3) (.int .i64 c.bound) (.slice x5 c.rows.length y5) from (Below.heap_setCell _ _ _ _ (by show wr.heap.size ≠ w.heap.size + 1; omega)).trans k56) (fun hS => ?_)
          clear hK' K'
          refine wpAnyH_done (by kernel_rfl) ?_ _
          unfold engAct
          have HFIN := Lib.hid (And.intro hpt (And.intro bX (And.intro kE6 (And.intro hown hgrow))))
          clear hpt bX kE6 hown hgrow k5 kE kO hS k56 hat hlt6
          go_wp2
          obtain ⟨hpt, bX, kE6, hown, hgrow⟩ := HFIN.out
          have hne : Value.ownBlock (.slice (some ⟨g, 0, none⟩) (P.length + 1) cap') ≠ some (w.heap.size + 1) := fun e => by have := (hown.lt _ e).1; omega
          have hX2 := bX.size
          have hb6 : Below w.heap.size w w6 := ((HBE.out.trans (bX.mono HBE.out.size)).alloc (by omega) _).grown hgrow (by simp; omega) (fun q e => by have := (hq6 q e).1; omega)
          refine ⟨⟨j + 1, (.slice (some ⟨g, 0, none⟩) (P.length + 1) cap'), P ++ [(.slice va vn vc, F, .agg #[.int .i64 c.kind, .slice x2 c.vars.length y2, .slice x3 c.args.length y3, .int .i64 c.bound, .slice x5 c.rows.length y5])], by omega, by simp, Lib.hid (by rw [List.length_append, HPL.out]; rfl), Lib.hid ?_, Lib.hid (kE6.set _), Lib.hid ?_, Lib.hid ?_, Lib.hid (hb6.setCell (by show w.heap.size ≤ w.heap.size + 1; omega) _)⟩, ?_⟩
          · intro i c' p hc' hp'
            by_cases hi' : i < P.length
            · rw [List.getElem?_append_left hi'] at hp'
              exact HPR.out i c' p hc' hp'
            · have hij : i = j := by have q1 := (List.getElem?_eq_some_iff.1 hp').1; simp at q1; have q2 := HPL.out; omega
              subst hij
              rw [HCK.out] at hc'
              obtain rfl := Option.some.inj hc'
              rw [List.getElem?_append_right (by omega), HPL.out, Nat.sub_self] at hp'
              obtain rfl := Option.some.inj hp'
              exact ⟨hpt, HRC.out⟩
          · rw [flatP_snoc, List.length_append]
            exact World.ownsRow.kept hown (grownBy_setCell' w6 (w.heap.size + 1) _) (.inr hne)
          · exact (Below.heap_setCell _ _ _ _ (by show w.heap.size ≠ w.heap.size + 1; omega)).trans ((hgrow.block _ (by simp; omega) (fun e => by have := (hq6 _ e.symm).1; omega)).trans ((Below.heap_alloc _ _ _ (by omega)).trans ((bX.block _ (by omega)).trans HE0.out)))
          · simp [intOf]
            omega
        · unfold engAct at hK' ⊢
          simp only [List.getElem_toArray, List.getElem_cons_succ, List.getElem_cons_zero]
          go_wp2
          refine hK'.out _ _ (show Blk5 (X.alloc (.cells #[.slice va vn vc, .func (.func F) #[.agg #[.int .i64 c.kind, .slice x2 c.vars.length y2, .slice x3 c.args.length y3, .int .i64 c.bound, .slice x5 c.rows.length y5]] #[]] 88)) wr.heap.size 82 (.int .i64 c.kind) (.slice x2 c.vars.length y2) (.slice x3 c.args.length y3) (.int .i64 c.bound) (.slice x5 c.rows.length y5) from (Below.heap_alloc _ _ _ hXs.2).trans k5) (fun hS => ?_)
          clear hK' K'
          change wpAnyH Try.prog .any _ _ _ 4 _ (engAct (.slice (some ⟨b, off, none⟩) n cap) (.pointer (some ⟨w.heap.size, 0, none⟩)) (.pointer (some ⟨w.heap.size + 1, 0, none⟩)) (.pointer (some ⟨wr.heap.size, 0, none⟩)) (.slice (some ⟨b, off, none⟩) n cap) (.int .i64 n) (.int .i64 j) (.pointer (some ⟨b, off + j * 5, none⟩)) (.agg #[.int .i64 c.kind, .slice x2 c.vars.length y2, .slice x3 c.args.length y3, .int .i64 c.bound, .slice x5 c.rows.length y5]) (.pointer (some ⟨w.heap.size + 1, 0, none⟩)) u13 (.agg #[.int .i64 c.kind, .slice x2 c.vars.length y2, .slice x3 c.args.length y3, .int .i64 c.bound, .slice x5 c.rows.length y5]) (.agg #[.slice va vn vc, .func (.func F) #[.agg #[.int .i64 c.kind, .slice x2 c.vars.length y2, .slice x3 c.args.length y3, .int .i64 c.bound, .slice x5 c.rows.length y5]] #[]]) (.slice (some ⟨X.heap.size, 0, none⟩) 1 1) u17 u18 u19) (X.alloc (.cells #[.slice va vn vc, .func (.func F) #[.agg #[.int .i64 c.kind, .slice x2 c.vars.length y2, .slice x3 c.args.length y3, .int .i64 c.bound, .slice x5 c.rows.length y5]] #[]] 88))
          refine wpAnyH_ready (rs := [1]) (by kernel_rfl) (by simp) (AllReadyH.cons rfl (fun K' hK' => ?_) AllReadyH.nil)
          refine step_value _ _ rfl (.slice pa pn pc) (exec_load rfl rfl (load_props _ _ _ _ _ ((cell_same (Below.heap_alloc _ _ _ (by show w.heap.size + 1 < X.heap.size; omega))).trans kE.cell))) ?_
          refine hK'.out _ _ hS (fun hS => ?_)
          clear hK' K'
          change wpAnyH Try.prog .any _ _ _ 3 _ (engAct (.slice (some ⟨b, off, none⟩) n cap) (.pointer (some ⟨w.heap.size, 0, none⟩)) (.pointer (some ⟨w.heap.size + 1, 0, none⟩)) (.pointer (some ⟨wr.heap.size, 0, none⟩)) (.slice (some ⟨b, off, none⟩) n cap) (.int .i64 n) (.int .i64 j) (.pointer (some ⟨b, off + j * 5, none⟩)) (.agg #[.int .i64 c.kind, .slice x2 c.vars.length y2, .slice x3 c.args.length y3, .int .i64 c.bound, .slice x5 c.rows.length y5]) (.pointer (some ⟨w.heap.size + 1, 0, none⟩)) (.slice pa pn pc) (.agg #[.int .i64 c.kind, .slice x2 c.vars.length y2, .slice x3 c.args.length y3, .int .i64 c.bound, .slice x5 c.rows.length y5]) (.agg #[.slice va vn vc, .func (.func F) #[.agg #[.int .i64 c.kind, .slice x2 c.vars.length y2, .slice x3 c.args.length y3, .int .i64 c.bound, .slice x5 c.rows.length y5]] #[]]) (.slice (some ⟨X.heap.size, 0, none⟩) 1 1) u17 u18 u19) (X.alloc (.cells #[.slice va vn vc, .func (.func F) #[.agg #[.int .i64 c.kind, .slice x2 c.vars.length y2, .slice x3 c.args.length y3, .int .i64 c.bound, .slice x5 c.rows.length y5]] #[]] 88))
          refine wpAnyH_ready (rs := [5]) (by kernel_rfl) (by simp) (AllReadyH.cons rfl (fun K' hK' => ?_) AllReadyH.nil)
          refine step_append_lies _ rfl (.tmp 13) (.tmp 16) 55 rfl (w.heap.size + 2) 88 i0 (.agg #[.slice none 0 0, .nilFunc]) 2 32 Try.underlying55 hi hz0 hz1 hz2 rfl (by decide) _ _ _ rfl (kO.alloc _) ⟨X.heap.size, 0, none⟩ 1 1 [.slice va vn vc, .func (.func F) #[.agg #[.int .i64 c.kind, .slice x2 c.vars.length y2, .slice x3 c.args.length y3, .int .i64 c.bound, .slice x5 c.rows.length y5]] #[]] rfl rfl (World.news_of_block (World.alloc_heap_new X _)) (by simp [Value.oneCell']) (by decide) (by unfold maxLen; omega) (by omega) (by simp; omega) _ rfl ?_
          intro g cap' w6 hown hgrow hat hlt6
          have kE6 : Boxed w6 (w.heap.size + 1) 57 (.slice pa pn pc) := (hgrow.block _ (by simp; omega) (fun e => by have := (hq6 _ e.symm).1; omega)).trans ((Below.heap_alloc _ _ _ (by omega)).trans kE)
          have k56 : Blk5 w6 wr.heap.size 82 (.int .i64 c.kind) (.slice x2 c.vars.length y2) (.slice x3 c.args.length y3) (.int .i64 c.bound) (.slice x5 c.rows.length y5) := (hgrow.block _ (by simp; omega) (fun e => by have := (hq6 _ e.symm).2; omega)).trans ((Below.heap_alloc _ _ _ (by omega)).trans k5)
          refine hK'.out _ _ k56 (fun hS => ?_)
          clear hK' K'
          change wpAnyH Try.prog .any _ _ _ 2 _ (engAct (.slice (some ⟨b, off, none⟩) n cap) (.pointer (some ⟨w.heap.size, 0, none⟩)) (.pointer (some ⟨w.heap.size + 1, 0, none⟩)) (.pointer (some ⟨wr.heap.size, 0, none⟩)) (.slice (some ⟨b, off, none⟩) n cap) (.int .i64 n) (.int .i64 j) (.pointer (some ⟨b, off + j * 5, none⟩)) (.agg #[.int .i64 c.kind, .slice x2 c.vars.length y2, .slice x3 c.args.length y3, .int .i64 c.bound, .slice x5 c.rows.length y5]) (.pointer (some ⟨w.heap.size + 1, 0, none⟩)) (.slice pa pn pc) (.agg #[.int .i64 c.kind, .slice x2 c.vars.length y2, .slice x3 c.args.length y3, .int .i64 c.bound, .slice x5 c.rows.length y5]) (.agg #[.slice va vn vc, .func (.func F) #[.agg #[.int .i64 c.kind, .slice x2 c.vars.length y2, .slice x3 c.args.length y3, .int .i64 c.bound, .slice x5 c.rows.length y5]] #[]]) (.slice (some ⟨X.heap.size, 0, none⟩) 1 1) (.slice (some ⟨g, 0, none⟩) (P.length + 1) cap') u18 u19) w6
          refine wpAnyH_take (i := 6) (v := .pointer (some ⟨w.heap.size + 1, 0, none⟩)) rfl (by kernel_rfl) (by kernel_rfl) (by kernel_rfl) (fun _ _ _ h => h) (.inl ⟨rfl, fun w' hw' => rfl⟩) k56 ?_
          change wpAnyH Try.prog .any _ _ _ 1 _ (engAct (.slice (some ⟨b, off, none⟩) n cap) (.pointer (some ⟨w.heap.size, 0, none⟩)) (.pointer (some ⟨w.heap.size + 1, 0, none⟩)) (.pointer (some ⟨wr.heap.size, 0, none⟩)) (.slice (some ⟨b, off, none⟩) n cap) (.int .i64 n) (.int .i64 j) (.pointer (some ⟨b, off + j * 5, none⟩)) (.agg #[.int .i64 c.kind, .slice x2 c.vars.length y2, .slice x3 c.args.length y3, .int .i64 c.bound, .slice x5 c.rows.length y5]) (.pointer (some ⟨w.heap.size + 1, 0, none⟩)) (.slice pa pn pc) (.agg #[.int .i64 c.kind, .slice x2 c.vars.length y2, .slice x3 c.args.length y3, .int .i64 c.bound, .slice x5 c.rows.length y5]) (.agg #[.slice va vn vc, .func (.func F) #[.agg #[.int .i64 c.kind, .slice x2 c.vars.length y2, .slice x3 c.args.length y3, .int .i64 c.bound, .slice x5 c.rows.length y5]] #[]]) (.slice (some ⟨X.heap.size, 0, none⟩) 1 1) (.slice (some ⟨g, 0, none⟩) (P.length + 1) cap') (.pointer (some ⟨w.heap.size + 1, 0, none⟩)) u19) w6
          refine wpAnyH_ready (rs := [7]) (by kernel_rfl) (by simp) (AllReadyH.cons rfl (fun K' hK' => ?_) AllReadyH.nil)
          refine step_skip _ (w6.setCell ⟨w.heap.size + 1, 0, none⟩ (.slice (some ⟨g, 0, none⟩) (P.length + 1) cap')) rfl (exec_store rfl rfl rfl (store_props _ _ _ _ _ _ kE6.cell kE6.frozen)) ?_
          refine hK'.out _ _ (show Blk5 (w6.setCell ⟨w.heap.size + 1, 0, none⟩ (.slice (some ⟨g, 0, none⟩) (P.length + 1) cap')) wr.heap.size 82 (.int .i64 c.kind) (.slice x2 c.vars.length y2) (.slice x3 c.args.length y3) (.int .i64 c.bound) (.slice x5 c.rows.length y5) from (Below.heap_setCell _ _ _ _ (by show wr.heap.size ≠ w.heap.size + 1; omega)).trans k56) (fun hS => ?_)
          clear hK' K'
          refine wpAnyH_done (by kernel_rfl) ?_ _
          unfold engAct
          have HFIN := Lib.hid (And.intro hpt (And.intro bX (And.intro kE6 (And.intro hown hgrow))))
          clear hpt bX kE6 hown hgrow k5 kE kO hS k56 hat hlt6
          go_wp2
          obtain ⟨hpt, bX, kE6, hown, hgrow⟩ := HFIN.out
          have hne : Value.ownBlock (.slice (some ⟨g, 0, none⟩) (P.length + 1) cap') ≠ some (w.heap.size + 1) := fun e => by have := (hown.lt _ e).1; omega
          have hX2 := bX.size
          have hb6 : Below w.heap.size w w6 := ((HBE.out.trans (bX.mono HBE.out.size)).alloc (by omega) _).grown hgrow (by simp; omega) (fun q e => by have := (hq6 q e).1; omega)
          refine ⟨⟨j + 1, (.slice (some ⟨g, 0, none⟩) (P.length + 1) cap'), P ++ [(.slice va vn vc, F, .agg #[.int .i64 c.kind, .slice x2 c.vars.length y2, .slice x3 c.args.length y3, .int .i64 c.bound, .slice x5 c.rows.length y5])], by omega, by simp, Lib.hid (by rw [List.length_append, HPL.out]; rfl), Lib.hid ?_, Lib.hid (kE6.set _), Lib.hid ?_, Lib.hid ?_, Lib.hid (hb6.setCell (by show w.heap.size ≤ w.heap.size + 1; omega) _)⟩, ?_⟩
          · intro i c' p hc' hp'
            by_cases hi' : i < P.length
            · rw [List.getElem?_append_left hi'] at hp'
              exact HPR.out i c' p hc' hp'
            · have hij : i = j := by have q1 := (List.getElem?_eq_some_iff.1 hp').1; simp at q1; have q2 := HPL.out; omega
              subst hij
              rw [HCK.out] at hc'
              obtain rfl := Option.some.inj hc'
              rw [List.getElem?_append_right (by omega), HPL.out, Nat.sub_self] at hp'
              obtain rfl := Option.some.inj hp'
              exact ⟨hpt, HRC.out⟩
          · rw [flatP_snoc, List.length_append]
            exact World.ownsRow.kept hown (grownBy_setCell' w6 (w.heap.size + 1) _) (.inr hne)
          · exact (Below.heap_setCell _ _ _ _ (by show w.heap.size ≠ w.heap.size + 1; omega)).trans ((hgrow.block _ (by simp; omega) (fun e => by have := (hq6 _ e.symm).1; omega)).trans ((Below.heap_alloc _ _ _ (by omega)).trans ((bX.block _ (by omega)).trans HE0.out)))
          · simp [intOf]
            omega
    · obtain rfl : j = n := by omega
      have q1 := HE.out.cell
      have q2 := HE0.out.cell
      have q3 := HE0.out.frozen
      go_wp2
      refine bodyPost_ret (v := .agg #[.slice pa pn pc]) (by simp [results, Try.results32, go_sem, q2]) rfl ⟨_, P, rfl, ?_, ⟨by rw [HPL.out, HN.out], HPR.out⟩, HBE.out.setCell (by simp) _⟩
      refine own_mono (World.ownsRow.kept HO.out (grownBy_setCell' wr w.heap.size (.slice pa pn pc)) (.inr (fun e => ?_))) (by omega)
      have := (HO.out.lt _ e).1
      omega
theorem engineOf_any (v : Value) (cs : List Con) (w : World) (h : RdCons w v cs) (h6 : cs.length ≤ 6) (hk : ∀ c ∈ cs, kindB c = true) :
    Calls Try.prog 32 #[v] w fun e w' => ∃ pv P, e = .returned (.agg #[pv]) ∧ w'.ownsRow w.heap.size 88 2 pv P.length (flatP P) ∧ PrOf w cs P ∧ Below w.heap.size w w' := engineOf2_any v cs w w h (Below.refl _ _) h6 hk
end Go.Proofs.Ytipapmmjfoaddaa
