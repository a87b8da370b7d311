/- The energy of tasks: the program's. -/
import Derived.Test.YtelglccegkhfcaaTkv
import Derived.Test.YtelglccegkhfcaaEx
import Derived.Test.YtelglccegkhfcaaOrdX
import Derived.Lib.MinMax
namespace Go.Proofs.Ytelglccegkhfcaa
open Go.ChangeShapes Go.WideShapes Go.ChangeAt Go.RowKit Go.Deep Go.Shelf
set_option linter.unusedVariables false
set_option linter.unusedSimpArgs false

attribute [local go_sem] Oper.semAt_some

/-- The smallest of a and the values of f on L. -/
def minF (f : Int → Int) (a : Int) (L : List Int) : Int := L.foldl (fun m s => min m (f s)) a
theorem minF_snoc (f : Int → Int) (a : Int) (L : List Int) (s : Int) : minF f a (L ++ [s]) = min (minF f a L) (f s) := by
  unfold minF
  rw [List.foldl_append]
  rfl
theorem minF_cons (f : Int → Int) (a : Int) (L : List Int) (s : Int) : minF f a (s :: L) = minF f (min a (f s)) L := rfl
theorem minF_bd {f : Int → Int} {b : Int} (hb : 0 ≤ b) : ∀ {L : List Int} {a : Int}, 0 ≤ a → a ≤ b → (∀ s ∈ L, 0 ≤ f s) → 0 ≤ minF f a L ∧ minF f a L ≤ b
  | [], a, h1, h2, _ => ⟨h1, h2⟩
  | s :: L, a, h1, h2, h3 => by
    rw [minF_cons]
    have := h3 s (List.mem_cons_self ..)
    exact minF_bd hb (by omega) (by omega) (fun u hu => h3 u (List.mem_cons_of_mem _ hu))
theorem mul_min {d a b : Int} (hd : 0 ≤ d) : d * min a b = min (d * a) (d * b) := by
  rcases Int.le_total a b with h | h
  · rw [Int.min_eq_left h, Int.min_eq_left (Int.mul_le_mul_of_nonneg_left h hd)]
  · rw [Int.min_eq_right h, Int.min_eq_right (Int.mul_le_mul_of_nonneg_left h hd)]
theorem minF_mul {f : Int → Int} {d : Int} (hd : 0 ≤ d) : ∀ (L : List Int) (a : Int), minF (fun s => d * f s) (d * a) L = d * minF f a L
  | [], a => rfl
  | s :: L, a => by
    rw [minF_cons, minF_cons, ← mul_min hd, minF_mul hd]
theorem minF_base {f : Int → Int} {L : List Int} {a b : Int} (hL : L ≠ []) (ha : ∀ s ∈ L, f s ≤ a) (hb : ∀ s ∈ L, f s ≤ b) : minF f a L = minF f b L := by
  cases L with
  | nil => exact absurd rfl hL
  | cons s L =>
    rw [minF_cons, minF_cons, Int.min_eq_right (ha s (List.mem_cons_self ..)), Int.min_eq_right (hb s (List.mem_cons_self ..))]

/-- The least energy of the starts below k. -/
def minE (t : Tsk) (lo hi : Int) (k : Nat) : Int := minF (fun s => enP t s lo hi) (t.de * (hi - lo)) (vL t.st k)
theorem minE_no {t : Tsk} {lo hi : Int} {k : Nat} (h : hasB t.st k = false) : minE t lo hi (k + 1) = minE t lo hi k := by
  unfold minE
  simp only [vL]
  rw [h]
  simp
theorem minE_yes {t : Tsk} {lo hi : Int} {k : Nat} (h : hasB t.st k = true) : minE t lo hi (k + 1) = min (minE t lo hi k) (enP t k lo hi) := by
  unfold minE
  simp only [vL]
  rw [h]
  simp [minF_snoc]
/-- What the program's energy is, and the reference's. -/
def enI (t : Tsk) (lo hi : Int) : Int := minF (fun s => enP t s lo hi) (t.de * (hi - lo)) (vL t.st 6)
def leS (t : Tsk) (lo hi : Int) (L : List Int) : Int := minF (fun s => ovl s (s + t.du) lo hi) t.du L
theorem vL_ne_fin : ∀ d : Fin 64, d.val ≠ 0 → vL (d.val : Int) 6 ≠ [] := by decide +kernel
theorem vL_ne {d : Int} (h1 : 1 ≤ d) (h2 : d ≤ 63) : vL d 6 ≠ [] := by
  obtain ⟨n, rfl⟩ := Int.eq_ofNat_of_zero_le (show 0 ≤ d by omega)
  exact vL_ne_fin ⟨n, by omega⟩ (by show n ≠ 0; omega)
theorem enI_eq {t : Tsk} {lo hi : Int} (h : tkB t = true) (h1 : lo ≤ hi) : enI t lo hi = leS t lo hi (vL t.st 6) * t.de := by
  obtain ⟨k1, k2, k3, k4, k5, k6⟩ := tkB_in h
  unfold enI leS enP
  rw [minF_mul k5, Int.mul_comm, minF_base (a := hi - lo) (b := t.du) (vL_ne k1 k2) (fun s _ => ovl_bd2 h1) (fun s _ => by have := ovl_bd (a := s) (b := s + t.du) (c := lo) (d := hi) (by omega); omega)]
theorem enI_bd {t : Tsk} {lo hi : Int} (h : tkB t = true) (h1 : lo ≤ hi) : 0 ≤ enI t lo hi ∧ enI t lo hi ≤ 54 := by
  obtain ⟨k1, k2, k3, k4, k5, k6⟩ := tkB_in h
  rw [enI_eq h h1, Int.mul_comm]
  have h2 := minF_bd (f := fun s => ovl s (s + t.du) lo hi) (b := t.du) (a := t.du) (L := vL t.st 6) (by omega) (by omega) (by omega) (fun s _ => (ovl_bd (by omega)).1)
  have h3 := mul_bd (c := 6) k5 k6 h2.1 (by omega)
  exact ⟨h3.1, h3.2⟩
/-- The energy that the first k tasks need. -/
def reqN (ts : List Tsk) (lo hi : Int) : Nat → Int := sumN fun i => enI (tAt ts i) lo hi
def reqZ (ts : List Tsk) (lo hi : Int) : Int := if tksB ts && (wiB lo 0 hi && !decide (hi > 11)) then reqN ts lo hi ts.length else -1
theorem reqN_bd {ts : List Tsk} {lo hi : Int} (h : tksB ts = true) (h1 : lo ≤ hi) (k : Nat) (hk : k ≤ ts.length) : 0 ≤ reqN ts lo hi k ∧ reqN ts lo hi k ≤ 54 * k := by
  induction k with
  | zero => simp [reqN, sumN]
  | succ k ih =>
    have h2 := ih (by omega)
    obtain ⟨t, ht⟩ : ∃ t, ts[k]? = some t := ⟨_, List.getElem?_eq_getElem (by omega)⟩
    have h3 := enI_bd (lo := lo) (hi := hi) ((tksB_at h).2 k t ht) h1
    have e : reqN ts lo hi (k + 1) = reqN ts lo hi k + enI (tAt ts k) lo hi := rfl
    rw [e, tAt_of ht]
    omega

/-- A block of four cells. -/
def BlkQ (w : World) (b : Nat) (t : TypeId) (u0 u1 u2 u3 : Value) : Prop := w.heap[b]? = some (.cells #[u0, u1, u2, u3] t (0, 0))
section
variable {w w' : World} {b : Nat} {t : TypeId} {u0 u1 u2 u3 : Value}
theorem BlkQ.cell (h : BlkQ w b t u0 u1 u2 u3) : w.cell? ⟨b, 0, none⟩ = some u0 ∧ w.cell? ⟨b, 1, none⟩ = some u1 ∧ w.cell? ⟨b, 2, none⟩ = some u2 ∧ w.cell? ⟨b, 3, none⟩ = some u3 := by
  simp [World.cell?, show w.heap[b]? = _ from h]
theorem BlkQ.lt (h : BlkQ w b t u0 u1 u2 u3) : b < w.heap.size := (Array.getElem?_eq_some_iff.1 h).1
theorem BlkQ.below (h : BlkQ w b t u0 u1 u2 u3) (hb : Below w.heap.size w w') : BlkQ w' b t u0 u1 u2 u3 := (hb.block b h.lt).trans h
theorem BlkQ.new (w : World) (t : TypeId) (u0 u1 u2 u3 : Value) : BlkQ (w.alloc (.cells #[u0, u1, u2, u3] t)) w.heap.size t u0 u1 u2 u3 := World.alloc_heap_new w _
end

set_option maxRecDepth 100000 in
set_option maxHeartbeats 2000000 in
theorem pcompulsory_any (t : Tsk) (s : Int) (w : World) (h1 : 0 ≤ t.du) (h2 : t.du ≤ 1000) (h3 : 0 ≤ s) (h4 : s ≤ 1000) :
    Calls Try.prog 184 #[.agg #[.int .i64 t.st, .int .i64 t.du, .int .i64 t.de, .int .i64 s]] w fun e w' => e = .returned (.tuple #[.int .i64 s, .int .i64 (s + t.du)]) ∧ Below w.heap.size w w' := by
  obtain ⟨W1, hW1⟩ : ∃ W1, w.alloc (.cells #[.int .i64 t.st, .int .i64 t.du, .int .i64 t.de, .int .i64 s] 94) = W1 := ⟨_, rfl⟩
  have B1 : Below w.heap.size w W1 := by rw [← hW1]; exact (Below.refl _ _).alloc (Nat.le_refl _) _
  have bP : BlkQ W1 w.heap.size 94 (.int .i64 t.st) (.int .i64 t.du) (.int .i64 t.de) (.int .i64 s) := by rw [← hW1]; exact BlkQ.new _ _ _ _ _ _
  obtain ⟨p0, p1, p2, p3⟩ := bP.cell
  have HB1 := Lib.hid B1
  have HW := Lib.hid hW1
  obtain ⟨u, hu⟩ : ∃ u, u = t.du := ⟨_, rfl⟩
  rw [← hu] at h1 h2 p1 HW ⊢
  clear bP B1 hW1 hu
  go_enter Try.func184, Try.ntmps184
  go_wp2_with (rw [HW.out])
  go_quiet (fail)
  go_wp2
  go_ret2
  exact ⟨rfl, below_drewN' HB1.out _⟩

set_option maxRecDepth 100000 in
set_option maxHeartbeats 2000000 in
theorem penergy_any (t : Tsk) (s lo hi : Int) (w : World) (h1 : 0 ≤ t.du) (h2 : t.du ≤ 1000) (h3 : 0 ≤ s) (h4 : s ≤ 1000) (h5 : 0 ≤ lo) (h6 : lo ≤ 1000) (h7 : 0 ≤ hi) (h8 : hi ≤ 1000) (h9 : 0 ≤ t.de) (h10 : t.de ≤ 9) :
    Calls Try.prog 167 #[.agg #[.int .i64 t.st, .int .i64 t.du, .int .i64 t.de, .int .i64 s], .int .i64 lo, .int .i64 hi] w fun e w' => e = .returned (.int .i64 (enP t s lo hi)) ∧ Below w.heap.size w w' := by
  obtain ⟨W1, hW1⟩ : ∃ W1, w.alloc (.cells #[.int .i64 t.st, .int .i64 t.du, .int .i64 t.de, .int .i64 s] 94) = W1 := ⟨_, rfl⟩
  have B1 : Below w.heap.size w W1 := by rw [← hW1]; exact (Below.refl _ _).alloc (Nat.le_refl _) _
  have bP : BlkQ W1 w.heap.size 94 (.int .i64 t.st) (.int .i64 t.du) (.int .i64 t.de) (.int .i64 s) := by rw [← hW1]; exact BlkQ.new _ _ _ _ _ _
  obtain ⟨p0, p1, p2, p3⟩ := bP.cell
  have HP := Lib.hid bP
  have HB1 := Lib.hid B1
  have HW := Lib.hid hW1
  have HE := Lib.hid (pcompulsory_any t s W1 h1 h2 h3 h4)
  obtain ⟨o, ho⟩ : ∃ o, o = ovl s (s + t.du) lo hi := ⟨_, rfl⟩
  have hob := ovl_bd (a := s) (b := s + t.du) (c := lo) (d := hi) (by omega)
  rw [← ho] at hob
  have hm := mul_bd (c := 1000) h9 h10 hob.1 (by omega)
  have HF : Hid (enP t s lo hi = t.de * max 0 (min (s + t.du) hi - max s lo)) := Lib.hid rfl
  rw [ho] at hm
  unfold ovl at hm
  clear bP B1 hW1 ho hob
  go_enter Try.func167, Try.ntmps167
  go_wp2_with (first | rw [HW.out] | (go_at_call 184; refine HE.out.mono ?_; rintro e w2 ⟨rfl, b2⟩; obtain ⟨q0, q1, q2, q3⟩ := (HP.out.below b2).cell; have HB2 := Lib.hid (HB1.out.trans (b2.mono HB1.out.size)); clear b2))
  go_ret
  exact ⟨ret_int HF.out.symm, HB2.out⟩
theorem step_call3E {P : Program} (w : World) {ops : Array Oper} {o : Oper} {a : Act} {K : Act → World → Prop} {Q : Exit → Act → World → Prop} {E : Prop} (hgd : o.guard = none) (F : FuncId) (x0 x1 x2 : Operand) (v0 v1 v2 : Value) (ts : Array TypeId)
    (ho : o.op = .call { callee := .value (.func F), args := #[x0, x1, x2], argTypes := ts }) (h0 : a.eval x0 = v0) (h1 : a.eval x1 = v1) (h2 : a.eval x2 = v2) (eg : ∀ gs w, (callFunc F gs).run P w = .ok (.enter F gs) w)
    (R : Ending → World → Prop) (h : Calls P F #[v0, v1, v2] w R) (hp : ∀ c w', ¬ R (.panicked c) w') (hou : ∀ w', ¬ R .outgrown w') (hR : ∀ v w', R (.returned v) w' → K (a.put o.dst v) w') :
    if Region.wanted o (yielded ops a.tmps) = true then Oper.wp P o a w K Q else E := by
  have hw : Region.wanted o (yielded ops a.tmps) = true := by simp [Region.wanted, hgd]
  rw [if_pos hw]
  have hrun : (execOp a.eval o).run P w = .ok (.enter F #[v0, v1, v2]) w := by
    have hf : a.eval (.func F) = .func (.func F) #[] #[] := rfl
    simp [execOp, ho, resolve, invoke, eg, Deferred.ofValue, h0, h1, h2, hf]
  unfold Oper.wp
  rw [hrun]
  refine Calls.mono h ?_
  intro e w' hr
  cases e with
  | returned v => exact hR v w' hr
  | panicked c => exact (hp c w' hr).elim
  | outgrown => exact (hou w' hr).elim
theorem boxed_grownE {X Y : World} {row : Option Nat} {b : Nat} {t : TypeId} {v : Value} (h : Boxed X b t v) (hg : X.grownBy Y row) (hr : ∀ r, row = some r → ∃ o : Obj, X.heap[r]? = some o ∧ o.isCells = false) : Boxed Y b t v :=
  (hg.block b h.lt (fun e => by
    obtain ⟨o, ho, hc⟩ := hr b e.symm
    rw [show X.heap[b]? = _ from h] at ho
    cases ho
    cases hc)).trans h
theorem blkT_grown {X Y : World} {row : Option Nat} {b : Nat} {t : TypeId} {u0 u1 u2 : Value} (h : BlkT X b t u0 u1 u2) (hg : X.grownBy Y row) (hr : ∀ r, row = some r → ∃ o : Obj, X.heap[r]? = some o ∧ o.isCells = false) : BlkT Y b t u0 u1 u2 :=
  (hg.block b h.lt (fun e => by
    obtain ⟨o, ho, hc⟩ := hr b e.symm
    rw [show X.heap[b]? = _ from h] at ho
    cases ho
    cases hc)).trans h
/-- What stands while the starts are gone through. -/
structure EgSt (w : World) (S : Nat) (t : Tsk) (lo hi z : Int) (X : World) : Prop where
  b : Below w.heap.size w X
  tb : BlkT X S 38 (.int .i64 t.st) (.int .i64 t.du) (.int .i64 t.de)
  lb : Boxed X (S + 1) 3 (.int .i64 lo)
  hb : Boxed X (S + 1 + 1) 3 (.int .i64 hi)
  zb : Boxed X (S + 1 + 1 + 1) 3 (.int .i64 z)
  sb : Boxed X (S + 4) 145 (.int .i64 t.st)
  sz : S + 5 ≤ X.heap.size
theorem EgSt.grown {w : World} {S : Nat} {t : Tsk} {lo hi z : Int} {X Y : World} {row : Option Nat} (h : EgSt w S t lo hi z X) (hg : X.grownBy Y row) (hr : ∀ r, row = some r → w.heap.size ≤ r ∧ ∃ o : Obj, X.heap[r]? = some o ∧ o.isCells = false) : EgSt w S t lo hi z Y := by
  have hr' := fun r e => (hr r e).2
  exact ⟨h.b.grown hg h.b.size (fun r e => (hr r e).1), blkT_grown h.tb hg hr', boxed_grownE h.lb hg hr', boxed_grownE h.hb hg hr', boxed_grownE h.zb hg hr', boxed_grownE h.sb hg hr', Nat.le_trans h.sz hg.size⟩
theorem EgSt.below {w : World} {S : Nat} {t : Tsk} {lo hi z : Int} {X Y : World} (h : EgSt w S t lo hi z X) (hb : Below X.heap.size X Y) : EgSt w S t lo hi z Y :=
  ⟨h.b.trans (hb.mono h.b.size), (hb.block _ h.tb.lt).trans h.tb, (hb.block _ h.lb.lt).trans h.lb, (hb.block _ h.hb.lt).trans h.hb, (hb.block _ h.zb.lt).trans h.zb, (hb.block _ h.sb.lt).trans h.sb, Nat.le_trans h.sz hb.size⟩
theorem EgSt.put {w : World} {S : Nat} {t : Tsk} {lo hi z : Int} {X : World} (h : EgSt w S t lo hi z X) (hS : S = w.heap.size) (y : Int) : EgSt w S t lo hi y (X.setCell ⟨S + 1 + 1 + 1, 0, none⟩ (.int .i64 y)) := by
  have hset : ∀ b', b' ≠ S + 1 + 1 + 1 → (X.setCell ⟨S + 1 + 1 + 1, 0, none⟩ (.int .i64 y)).heap[b']? = X.heap[b']? := fun b' hb' => Below.heap_setCell _ _ _ _ (by show b' ≠ S + 1 + 1 + 1; exact hb')
  exact ⟨h.b.setCell (by show w.heap.size ≤ S + 1 + 1 + 1; omega) _, (hset _ (by omega)).trans h.tb, (hset _ (by omega)).trans h.lb, (hset _ (by omega)).trans h.hb, h.zb.set _, (hset _ (by omega)).trans h.sb, by simpa using h.sz⟩
theorem alloc4E (W : World) (o0 o1 o2 o3 : Obj) : let W0 := (((W.alloc o0).alloc o1).alloc o2).alloc o3
    W0.heap.size = W.heap.size + 4 ∧ W0.heap[W.heap.size]? = some o0 ∧ W0.heap[W.heap.size + 1]? = some o1 ∧ W0.heap[W.heap.size + 1 + 1]? = some o2 ∧ W0.heap[W.heap.size + 1 + 1 + 1]? = some o3 := by
  show ((((W.heap.push o0).push o1).push o2).push o3).size = _ ∧ ((((W.heap.push o0).push o1).push o2).push o3)[W.heap.size]? = _ ∧ ((((W.heap.push o0).push o1).push o2).push o3)[W.heap.size + 1]? = _ ∧ ((((W.heap.push o0).push o1).push o2).push o3)[W.heap.size + 1 + 1]? = _ ∧ ((((W.heap.push o0).push o1).push o2).push o3)[W.heap.size + 1 + 1 + 1]? = _
  simp only [Array.getElem?_push, Array.size_push]
  refine ⟨by first | trivial | omega, ?_, ?_, ?_, ?_⟩
  · rw [if_neg (by omega), if_neg (by omega), if_neg (by omega), if_pos trivial]
  · rw [if_neg (by omega), if_neg (by omega), if_pos trivial]
  · rw [if_neg (by omega), if_pos trivial]
  · rw [if_pos trivial]
section
set_option maxRecDepth 100000
theorem load_taskO (w : World) (g : Nat) (x y z : Int) (h0 : w.cell? ⟨g, 0, none⟩ = some (.int .i64 x)) (h1 : w.cell? ⟨g, 1, none⟩ = some (.int .i64 y)) (h2 : w.cell? ⟨g, 2, none⟩ = some (.int .i64 z)) : (loadVar 38 ⟨g, 0, none⟩).run Try.prog w = .ok (.agg #[.int .i64 x, .int .i64 y, .int .i64 z]) w := by
  go_simp
theorem exec_buildP {w : World} {ev : Operand → Value} {o : Oper} {x y : Operand} {a b c d : Int} (ho : o.op = .build 94 #[(0, x), (1, y)]) (hx : ev x = .agg #[.int .i64 a, .int .i64 b, .int .i64 c]) (hy : ev y = .int .i64 d) : (execOp ev o).run Try.prog w = .ok (.value (.agg #[.int .i64 a, .int .i64 b, .int .i64 c, .int .i64 d])) w := by
  unfold execOp
  simp only [ho, Sem.run_bind, Sem.run_pure, Result.andThen_ok, List.map_toArray, List.map_cons, List.map_nil, hx, hy]
  go_simp
theorem exec_minI {w : World} {ev : Operand → Value} {o : Oper} {x y : Operand} {a b : Int} (ho : o.op = .call { callee := .builtin .min, args := #[x, y], argTypes := #[3, 3] }) (hx : ev x = .int .i64 a) (hy : ev y = .int .i64 b) : (execOp ev o).run Try.prog w = .ok (.value (.int .i64 (min a b))) w := by
  unfold execOp
  simp only [ho, resolve, invoke, builtin, Sem.run_bind, Sem.run_pure, Result.andThen_ok, List.map_toArray, List.map_cons, List.map_nil, hx, hy]
  go_simp
end
/-- The activation inside the drawn region. -/
def enX (z0 z1 z2 z3 z4 z5 z6 z7 z8 z9 z10 z11 z12 z13 z14 z15 z16 z17 z18 z19 z20 z21 z22 z23 z24 z25 z26 z27 : Value) : Act := { tmps := #[z0, z1, z2, z3, z4, z5, z6, z7, z8, z9, z10, z11, z12, z13, z14, z15, z16, z17, z18, z19, z20, z21, z22, z23, z24, z25, z26, z27], defers := [] }
/-- The activation inside the loop over the starts. -/
def enAct (S : Nat) (t : Tsk) (lo hi m : Int) (k : Nat) (x19 x20 x21 x22 x23 x24 x25 x26 : Value) : Act := { tmps := #[.agg #[.int .i64 t.st, .int .i64 t.du, .int .i64 t.de], .int .i64 lo, .int .i64 hi, .pointer (some ⟨S, 0, none⟩), .pointer (some ⟨S + 1, 0, none⟩), .pointer (some ⟨S + 1 + 1, 0, none⟩), .int .i64 0, .pointer (some ⟨S + 1 + 1 + 1, 0, none⟩), .int .i64 k, .pointer (some ⟨S, 2, none⟩), .int .i64 t.de, .int .i64 hi, .int .i64 lo, .int .i64 (hi - lo), .int .i64 m, .pointer (some ⟨S, 0, none⟩), .int .i64 t.st, .func (.func 165) #[] #[.pointer (some ⟨S + 4, 0, none⟩)], .int .i64 k, x19, x20, x21, x22, x23, x24, x25, x26, undef], defers := [] }

set_option maxRecDepth 100000 in
set_option maxHeartbeats 8000000 in
theorem tenergy_any (t : Tsk) (lo hi : Int) (w : World) (ht : tkB t = true) (h5 : 0 ≤ lo) (h6 : lo ≤ hi) (h8 : hi ≤ 11) :
    Calls Try.prog 133 #[.agg #[.int .i64 t.st, .int .i64 t.du, .int .i64 t.de], .int .i64 lo, .int .i64 hi] w fun e w' => e = .returned (.int .i64 (enI t lo hi)) ∧ Below w.heap.size w w' := by
  obtain ⟨k1, k2, k3, k4, k5, k6⟩ := tkB_in ht
  have HPE := Lib.hid (fun (k : Nat) (X : World) (hk : k < 6) => penergy_any t k lo hi X (by omega) (by omega) (by omega) (by omega) h5 (by omega) (by omega) (by omega) k5 k6)
  have hmm := mul_bd (c := 11) k5 k6 (show 0 ≤ hi - lo by omega) (by omega)
  obtain ⟨mm, hm⟩ : ∃ mm, mm = t.de * (hi - lo) := ⟨_, rfl⟩
  have HMM := Lib.hid hm
  clear hm
  obtain ⟨W4, hW4⟩ : ∃ W4, (((w.alloc (.cells #[.int .i64 t.st, .int .i64 t.du, .int .i64 t.de] 38)).alloc (.cells #[.int .i64 lo] 3)).alloc (.cells #[.int .i64 hi] 3)).alloc (.cells #[.int .i64 0] 3) = W4 := ⟨_, rfl⟩
  have b4 : Below w.heap.size w W4 := by rw [← hW4]; exact ((((Below.refl _ w).alloc (Nat.le_refl _) _).alloc (by simp) _).alloc (by simp; omega) _).alloc (by simp; omega) _
  have h4s := alloc4E w (.cells #[.int .i64 t.st, .int .i64 t.du, .int .i64 t.de] 38) (.cells #[.int .i64 lo] 3) (.cells #[.int .i64 hi] 3) (.cells #[.int .i64 0] 3)
  simp only [hW4] at h4s
  obtain ⟨s4, e4, d4, v4, z4⟩ := h4s
  have z4 : Boxed W4 (w.heap.size + 1 + 1 + 1) 3 (.int .i64 0) := z4
  obtain ⟨W5, hW5⟩ : ∃ W5, W4.setCell ⟨w.heap.size + 1 + 1 + 1, 0, none⟩ (.int .i64 mm) = W5 := ⟨_, rfl⟩
  have hset : ∀ b', b' ≠ w.heap.size + 1 + 1 + 1 → W5.heap[b']? = W4.heap[b']? := fun b' hb' => by rw [← hW5]; exact Below.heap_setCell _ _ _ _ (by show b' ≠ w.heap.size + 1 + 1 + 1; exact hb')
  have e4 : BlkT W4 w.heap.size 38 (.int .i64 t.st) (.int .i64 t.du) (.int .i64 t.de) := e4
  have d4 : Boxed W4 (w.heap.size + 1) 3 (.int .i64 lo) := d4
  have v4 : Boxed W4 (w.heap.size + 1 + 1) 3 (.int .i64 hi) := v4
  have e5 : BlkT W5 w.heap.size 38 (.int .i64 t.st) (.int .i64 t.du) (.int .i64 t.de) := (hset _ (by omega)).trans e4
  have d5 : Boxed W5 (w.heap.size + 1) 3 (.int .i64 lo) := (hset _ (by omega)).trans d4
  have v5 : Boxed W5 (w.heap.size + 1 + 1) 3 (.int .i64 hi) := (hset _ (by omega)).trans v4
  have z5 : Boxed W5 (w.heap.size + 1 + 1 + 1) 3 (.int .i64 mm) := by rw [← hW5]; exact z4.set _
  have b5 : Below w.heap.size w W5 := by rw [← hW5]; exact b4.setCell (by show w.heap.size ≤ w.heap.size + 1 + 1 + 1; omega) _
  have s5 : W5.heap.size = w.heap.size + 4 := by rw [← hW5, ← s4]; simp
  obtain ⟨c0, c1, c2⟩ := e4.cell
  have c3 := d4.cell
  have c4 := v4.cell
  obtain ⟨y0, y1, y2⟩ := e5.cell
  have f1 := z4.cell
  have f2 := z4.frozen
  have HS5 := Lib.hid s5
  have HE5 := Lib.hid e5
  have HD5 := Lib.hid d5
  have HV5 := Lib.hid v5
  have HZ5 := Lib.hid z5
  have HB5 := Lib.hid b5
  have HW4 := Lib.hid hW4
  have HW5 := Lib.hid hW5
  have HB4 : Hid (W4.heap.size = w.heap.size + 4) := Lib.hid s4
  clear b4 s4 e4 d4 v4 z4 hset e5 d5 v5 z5 b5 s5 hW4 hW5
  refine (callsIn_wide (n := 10)).1 ?_
  refine callsIn_of_wp_marks Try.func133 rfl trivial ?_ rfl
  simp only [Try.ntmps133, List.size_toArray, List.length_cons, List.length_nil, Nat.reduceAdd, Nat.reduceSub, Array.replicate_succ, Array.replicate_zero, List.push_toArray, List.append_toArray, List.nil_append, List.cons_append]
  gi_wp2_with (first | rw [HW4.out] | (refine ⟨trivial, ?_⟩; gi_at_call 132; refine (values_in _ _ _).mono ?_; rintro e w' ⟨rfl, rfl⟩))
  rw [← HMM.out, HW5.out, HB4.out]
  have bs := World.alloc_heap_new W5 (.cells #[.int .i64 t.st] 145)
  obtain ⟨W6, hW6⟩ : ∃ W6, W5.alloc (.cells #[.int .i64 t.st] 145) = W6 := ⟨_, rfl⟩
  have b6 : Below W5.heap.size W5 W6 := by rw [← hW6]; exact (Below.refl _ _).alloc (Nat.le_refl _) _
  have HST : Hid (EgSt w w.heap.size t lo hi (minE t lo hi 0) W6) := Lib.hid (by
    rw [show minE t lo hi 0 = mm from HMM.out.symm]
    exact ⟨HB5.out.trans (b6.mono HB5.out.size), (b6.block _ HE5.out.lt).trans HE5.out, (b6.block _ HD5.out.lt).trans HD5.out, (b6.block _ HV5.out.lt).trans HV5.out, (b6.block _ HZ5.out.lt).trans HZ5.out, by rw [← HS5.out, ← hW6]; exact bs, by rw [← hW6, World.size_alloc, HS5.out]; exact Nat.le_refl _⟩)
  have HS6 : Hid (W6.heap.size = w.heap.size + 5) := Lib.hid (by rw [← hW6, World.size_alloc, HS5.out])
  rw [hW6]
  clear b6 bs hW6 HE5 HD5 HV5 HZ5 HB5 c0 c1 c2 c3 c4 y0 y1 y2 f1 f2 HW4 HW5 HB4
  refine rf_values (Bs := w.heap.size + 4) (d := t.st) (by omega) rfl (by omega) (by omega) rfl
    (fun k X => EgSt w w.heap.size t lo hi (minE t lo hi k) X)
    (fun c k X => False) ?_ (fun c s X Y row h => h.elim) (fun k X h => h.sb.cell) ?_ HST.out
    (fun k => enAct w.heap.size t lo hi mm k undef undef undef undef undef undef undef undef) ?_ ?_ ?_ ?_
  · exact fun k X Y row h hg hr => h.grown hg (fun r e => ⟨by have := (hr r e).1; have := HS6.out; omega, (hr r e).2⟩)
  · intro k X hk hh h
    rw [minE_no hh]
    exact h
  · intro l k X K hK
    unfold enAct at hK
    gi_wp2
    exact hK
  · intro l k X hl hr hk hh hB
    have HI := Lib.hid hB
    have HCI := Lib.hid (HPE.out k X.drew hk)
    have HNX := Lib.hid (minE_yes (lo := lo) (hi := hi) hh).symm
    obtain ⟨z, hz⟩ : ∃ z, z = minE t lo hi k := ⟨_, rfl⟩
    obtain ⟨z2, hz2⟩ : ∃ z2, z2 = minE t lo hi (k + 1) := ⟨_, rfl⟩
    obtain ⟨ez, hez⟩ : ∃ ez, ez = enP t k lo hi := ⟨_, rfl⟩
    rw [← hz] at HI HNX
    rw [← hz2] at HNX
    rw [← hez] at HNX HCI
    have HZ2 := Lib.hid hz2
    clear hz hz2 hez hB hr hl hh
    have hS : EgSt w w.heap.size t lo hi z X.drew := HI.out.below (Below.refl _ X).drew
    unfold enAct
    gi_wp2_with fail
    refine region_round_x (fun w' => EgSt w w.heap.size t lo hi z w') (fun j => j == 8) (by kernel_rfl) (by kernel_rfl) ?_ ?_
    · rintro ⟨a, w', h⟩
      exact h
    change wpAnyX Try.prog .any _ _ _ _ 9 _ (enX _ _ _ _ _ _ _ _ _ _ _ _ _ _ _ _ _ _ _ _ _ _ _ _ _ _ _ _) X.drew
    refine wpAnyX_take (i := 0) (v := .int .i64 z) rfl (by kernel_rfl) (by kernel_rfl) (by kernel_rfl) (by kernel_rfl) (fun _ _ _ h => h) (.inl ⟨rfl, fun w' hw' => exec_load rfl rfl (load_int w' _ _ _ hw'.zb.cell)⟩) hS ?_
    change wpAnyX Try.prog .any _ _ _ _ 8 _ (enX _ _ _ _ _ _ _ _ _ _ _ _ _ _ _ _ _ _ _ (.int .i64 z) _ _ _ _ _ _ _ _) X.drew
    refine wpAnyX_take (i := 1) (v := .agg #[.int .i64 t.st, .int .i64 t.du, .int .i64 t.de]) rfl (by kernel_rfl) (by kernel_rfl) (by kernel_rfl) (by kernel_rfl) (fun _ _ _ h => h) (.inl ⟨rfl, fun w' hw' => exec_load rfl rfl (load_taskO w' _ _ _ _ hw'.tb.cell.1 hw'.tb.cell.2.1 hw'.tb.cell.2.2)⟩) hS ?_
    change wpAnyX Try.prog .any _ _ _ _ 7 _ (enX _ _ _ _ _ _ _ _ _ _ _ _ _ _ _ _ _ _ _ (.int .i64 z) (.agg #[.int .i64 t.st, .int .i64 t.du, .int .i64 t.de]) _ _ _ _ _ _ _) X.drew
    refine wpAnyX_take (i := 2) (v := .int .i64 k) rfl (by kernel_rfl) (by kernel_rfl) (by kernel_rfl) (by kernel_rfl) (fun _ _ _ h => h) (.inl ⟨rfl, fun w' hw' => rfl⟩) hS ?_
    change wpAnyX Try.prog .any _ _ _ _ 6 _ (enX _ _ _ _ _ _ _ _ _ _ _ _ _ _ _ _ _ _ _ (.int .i64 z) (.agg #[.int .i64 t.st, .int .i64 t.du, .int .i64 t.de]) (.int .i64 k) _ _ _ _ _ _) X.drew
    refine wpAnyX_take (i := 3) (v := .agg #[.int .i64 t.st, .int .i64 t.du, .int .i64 t.de, .int .i64 k]) rfl (by kernel_rfl) (by kernel_rfl) (by kernel_rfl) (by kernel_rfl) (fun _ _ _ h => h) (.inl ⟨rfl, fun w' hw' => exec_buildP rfl rfl rfl⟩) hS ?_
    change wpAnyX Try.prog .any _ _ _ _ 5 _ (enX _ _ _ _ _ _ _ _ _ _ _ _ _ _ _ _ _ _ _ (.int .i64 z) (.agg #[.int .i64 t.st, .int .i64 t.du, .int .i64 t.de]) (.int .i64 k) (.agg #[.int .i64 t.st, .int .i64 t.du, .int .i64 t.de, .int .i64 k]) _ _ _ _ _) X.drew
    refine wpAnyX_take (i := 4) (v := .int .i64 lo) rfl (by kernel_rfl) (by kernel_rfl) (by kernel_rfl) (by kernel_rfl) (fun _ _ _ h => h) (.inl ⟨rfl, fun w' hw' => exec_load rfl rfl (load_int w' _ _ _ hw'.lb.cell)⟩) hS ?_
    change wpAnyX Try.prog .any _ _ _ _ 4 _ (enX _ _ _ _ _ _ _ _ _ _ _ _ _ _ _ _ _ _ _ (.int .i64 z) (.agg #[.int .i64 t.st, .int .i64 t.du, .int .i64 t.de]) (.int .i64 k) (.agg #[.int .i64 t.st, .int .i64 t.du, .int .i64 t.de, .int .i64 k]) (.int .i64 lo) _ _ _ _) X.drew
    refine wpAnyX_take (i := 5) (v := .int .i64 hi) rfl (by kernel_rfl) (by kernel_rfl) (by kernel_rfl) (by kernel_rfl) (fun _ _ _ h => h) (.inl ⟨rfl, fun w' hw' => exec_load rfl rfl (load_int w' _ _ _ hw'.hb.cell)⟩) hS ?_
    change wpAnyX Try.prog .any _ _ _ _ 3 _ (enX _ _ _ _ _ _ _ _ _ _ _ _ _ _ _ _ _ _ _ (.int .i64 z) (.agg #[.int .i64 t.st, .int .i64 t.du, .int .i64 t.de]) (.int .i64 k) (.agg #[.int .i64 t.st, .int .i64 t.du, .int .i64 t.de, .int .i64 k]) (.int .i64 lo) (.int .i64 hi) _ _ _) X.drew
    refine wpAnyX_one (i := 6) (by kernel_rfl) rfl (fun K' hK' => ?_)
    refine step_call3E _ rfl 167 _ _ _ _ _ _ _ rfl rfl rfl rfl (enters_of Try.func167 (by kernel_rfl) rfl) _ HCI.out (fun c w' h => by cases h.1) (fun w' h => by cases h.1) ?_
    rintro v9 w9 ⟨e9, b9⟩
    obtain rfl : v9 = .int .i64 ez := by injection e9
    have hS9 : EgSt w w.heap.size t lo hi z w9 := hS.below b9
    have HB9 := Lib.hid b9
    clear b9
    refine hK'.out _ _ (fun _ => hS9) ?_
    clear hK' K'
    change wpAnyX Try.prog .any _ _ _ _ 2 _ (enX _ _ _ _ _ _ _ _ _ _ _ _ _ _ _ _ _ _ _ (.int .i64 z) (.agg #[.int .i64 t.st, .int .i64 t.du, .int .i64 t.de]) (.int .i64 k) (.agg #[.int .i64 t.st, .int .i64 t.du, .int .i64 t.de, .int .i64 k]) (.int .i64 lo) (.int .i64 hi) (.int .i64 ez) _ _) w9
    refine wpAnyX_take (i := 7) (v := .int .i64 z2) rfl (by kernel_rfl) (by kernel_rfl) (by kernel_rfl) (by kernel_rfl) (fun _ _ _ h => h) (.inl ⟨rfl, fun w' hw' => (exec_minI rfl rfl rfl).trans (by rw [HNX.out])⟩) hS9 ?_
    change wpAnyX Try.prog .any _ _ _ _ 1 _ (enX _ _ _ _ _ _ _ _ _ _ _ _ _ _ _ _ _ _ _ (.int .i64 z) (.agg #[.int .i64 t.st, .int .i64 t.du, .int .i64 t.de]) (.int .i64 k) (.agg #[.int .i64 t.st, .int .i64 t.du, .int .i64 t.de, .int .i64 k]) (.int .i64 lo) (.int .i64 hi) (.int .i64 ez) (.int .i64 z2) _) w9
    refine wpAnyX_one (i := 8) (by kernel_rfl) rfl (fun K' hK' => ?_)
    refine step_skip _ (w9.setCell ⟨w.heap.size + 1 + 1 + 1, 0, none⟩ (.int .i64 z2)) rfl (exec_store rfl rfl rfl (store_int _ _ _ _ _ hS9.zb.cell hS9.zb.frozen)) ?_
    refine hK'.out _ _ (fun h => by cases h) ?_
    clear hK' K'
    change wpAnyX Try.prog .any _ _ _ _ 0 _ (enX _ _ _ _ _ _ _ _ _ _ _ _ _ _ _ _ _ _ _ (.int .i64 z) (.agg #[.int .i64 t.st, .int .i64 t.du, .int .i64 t.de]) (.int .i64 k) (.agg #[.int .i64 t.st, .int .i64 t.du, .int .i64 t.de, .int .i64 k]) (.int .i64 lo) (.int .i64 hi) (.int .i64 ez) (.int .i64 z2) _) (w9.setCell ⟨w.heap.size + 1 + 1 + 1, 0, none⟩ (.int .i64 z2))
    refine wpAnyX_done (by kernel_rfl) ?_ _
    unfold enX
    have hset : ∀ b', b' ≠ w.heap.size + 1 + 1 + 1 → (w9.setCell ⟨w.heap.size + 1 + 1 + 1, 0, none⟩ (.int .i64 z2)).heap[b']? = w9.heap[b']? := fun b' hb' => Below.heap_setCell _ _ _ _ (by show b' ≠ w.heap.size + 1 + 1 + 1; exact hb')
    have hfin : EgSt w w.heap.size t lo hi (minE t lo hi (k + 1)) (w9.setCell ⟨w.heap.size + 1 + 1 + 1, 0, none⟩ (.int .i64 z2)) := by
      rw [← HZ2.out]
      exact hS9.put rfl z2
    have hkeep : KeepsFrom W6.heap.size X (w9.setCell ⟨w.heap.size + 1 + 1 + 1, 0, none⟩ (.int .i64 z2)) := by
      refine ⟨by have := HB9.out.size; simpa using this, fun b' o hb' h1 h2 => ?_⟩
      exact (hset b' (by have := HS6.out; omega)).trans ((HB9.out.block b' (Array.getElem?_eq_some_iff.1 h1).1).trans h1)
    exact ⟨hkeep, trivial, hfin⟩
  · intro D X hD hB hK
    have c0 := hB.zb.cell
    have HI := Lib.hid hB
    have HKD := Lib.hid hK
    have HDL := Lib.hid hD
    clear hB hK hD
    gi_wp2
    refine ⟨by simp, .inl ⟨_, _, rfl, run_takeDeferred HKD.out, ?_⟩⟩
    exact ⟨_, results_tmp rfl _ _ _, rfl, HI.out.b.grown (grownBy_putObj' X D _) HI.out.b.size (fun r e => by cases e; have := HS6.out; have := HDL.out; omega)⟩
  · intro D c k X hD hk h
    exact h.elim
end Go.Proofs.Ytelglccegkhfcaa
