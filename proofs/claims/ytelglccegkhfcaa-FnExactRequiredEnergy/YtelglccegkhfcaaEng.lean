/- The energy of tasks: the program's. -/
import Derived.Test.YtelglccegkhfcaaTkv
import Derived.Test.YtelglccegkhfcaaEx
import Derived.Test.YtelglccegkhfcaaOrdX
import Derived.Lib.MinMax
namespace Go.Proofs.Ytelglccegkhfcaa
open Go.ChangeShapes Go.WideShapes Go.ChangeAt Go.RowKit Go.Deep Go.Shelf
set_option linter.unusedVariables false
set_option linter.unusedSimpArgs false

attribute [local go_sem] Oper.semAt_some

/-- The smallest of a and the values of f on L. -/
def minF (f : Int → Int) (a : Int) (L : List Int) : Int := L.foldl (fun m s => min m (f s)) a
theorem minF_snoc (f : Int → Int) (a : Int) (L : List Int) (s : Int) : minF f a (L ++ [s]) = min (minF f a L) (f s) := by
  unfold minF
  rw [List.foldl_append]
  rfl
theorem minF_cons (f : Int → Int) (a : Int) (L : List Int) (s : Int) : minF f a (s :: L) = minF f (min a (f s)) L := rfl
theorem minF_bd {f : Int → Int} {b : Int} (hb : 0 ≤ b) : ∀ {L : List Int} {a : Int}, 0 ≤ a → a ≤ b → (∀ s ∈ L, 0 ≤ f s) → 0 ≤ minF f a L ∧ minF f a L ≤ b
  | [], a, h1, h2, _ => ⟨h1, h2⟩
  | s :: L, a, h1, h2, h3 => by
    rw [minF_cons]
    have := h3 s (List.mem_cons_self ..)
    exact minF_bd hb (by omega) (by omega) (fun u hu => h3 u (List.mem_cons_of_mem _ hu))
theorem mul_min {d a b : Int} (hd : 0 ≤ d) : d * min a b = min (d * a) (d * b) := by
  rcases Int.le_total a b with h | h
  · rw [Int.min_eq_left h, Int.min_eq_left (Int.mul_le_mul_of_nonneg_left h hd)]
  · rw [Int.min_eq_right h, Int.min_eq_right (Int.mul_le_mul_of_nonneg_left h hd)]
theorem minF_mul {f : Int → Int} {d : Int} (hd : 0 ≤ d) : ∀ (L : List Int) (a : Int), minF (fun s => d * f s) (d * a) L = d * minF f a L
  | [], a => rfl
  | s :: L, a => by
    rw [minF_cons, minF_cons, ← mul_min hd, minF_mul hd]
theorem minF_base {f : Int → Int} {L : List Int} {a b : Int} (hL : L ≠ []) (ha : ∀ s ∈ L, f s ≤ a) (hb : ∀ s ∈ L, f s ≤ b) : minF f a L = minF f b L := by
  cases L with
  | nil => exact absurd rfl hL
  | cons s L =>
    rw [minF_cons, minF_cons, Int.min_eq_right (ha s (List.mem_cons_self ..)), Int.min_eq_right (hb s (List.mem_cons_self ..))]

/-- The least energy of the starts below k. -/
def minE (t : Tsk) (lo hi : Int) (k : Nat) : Int := minF (fun s => enP t s lo hi) (t.de * (hi - lo)) (vL t.st k)
theorem minE_no {t : Tsk} {lo hi : Int} {k : Nat} (h : hasB t.st k = false) : minE t lo hi (k + 1) = minE t lo hi k := by
  unfold minE
  simp only [vL]
  rw [h]
  simp
theorem minE_yes {t : Tsk} {lo hi : Int} {k : Nat} (h : hasB t.st k = true) : minE t lo hi (k + 1) = min (minE t lo hi k) (enP t k lo hi) := by
  unfold minE
  simp only [vL]
  rw [h]
  simp [minF_snoc]
/-- What the program's energy is, and the reference's. -/
def enI (t : Tsk) (lo hi : Int) : Int := minF (fun s => enP t s lo hi) (t.de * (hi - lo)) (vL t.st 6)
def leS (t : Tsk) (lo hi : Int) (L : List Int) : Int := minF (fun s => ovl s (s + t.du) lo hi) t.du L
theorem vL_ne_fin : ∀ d : Fin 64, d.val ≠ 0 → vL (d.val : Int) 6 ≠ [] := by decide +kernel
theorem vL_ne {d : Int} (h1 : 1 ≤ d) (h2 : d ≤ 63) : vL d 6 ≠ [] := by
  obtain ⟨n, rfl⟩ := Int.eq_ofNat_of_zero_le (show 0 ≤ d by omega)
  exact vL_ne_fin ⟨n, by omega⟩ (by show n ≠ 0; omega)
theorem enI_eq {t : Tsk} {lo hi : Int} (h : tkB t = true) (h1 : lo ≤ hi) : enI t lo hi = leS t lo hi (vL t.st 6) * t.de := by
  obtain ⟨k1, k2, k3, k4, k5, k6⟩ := tkB_in h
  unfold enI leS enP
  rw [minF_mul k5, Int.mul_comm, minF_base (a := hi - lo) (b := t.du) (vL_ne k1 k2) (fun s _ => ovl_bd2 h1) (fun s _ => by have := ovl_bd (a := s) (b := s + t.du) (c := lo) (d := hi) (by omega); omega)]
theorem enI_bd {t : Tsk} {lo hi : Int} (h : tkB t = true) (h1 : lo ≤ hi) : 0 ≤ enI t lo hi ∧ enI t lo hi ≤ 54 := by
  obtain ⟨k1, k2, k3, k4, k5, k6⟩ := tkB_in h
  rw [enI_eq h h1, Int.mul_comm]
  have h2 := minF_bd (f := fun s => ovl s (s + t.du) lo hi) (b := t.du) (a := t.du) (L := vL t.st 6) (by omega) (by omega) (by omega) (fun s _ => (ovl_bd (by omega)).1)
  have h3 := mul_bd (c := 6) k5 k6 h2.1 (by omega)
  exact ⟨h3.1, h3.2⟩
/-- The energy that the first k tasks need. -/
def reqN (ts : List Tsk) (lo hi : Int) : Nat → Int := sumN fun i => enI (tAt ts i) lo hi
def reqZ (ts : List Tsk) (lo hi : Int) : Int := if tksB ts && (wiB lo 0 hi && !decide (hi > 11)) then reqN ts lo hi ts.length else -1
theorem reqN_bd {ts : List Tsk} {lo hi : Int} (h : tksB ts = true) (h1 : lo ≤ hi) (k : Nat) (hk : k ≤ ts.length) : 0 ≤ reqN ts lo hi k ∧ reqN ts lo hi k ≤ 54 * k := by
  induction k with
  | zero => simp [reqN, sumN]
  | succ k ih =>
    have h2 := ih (by omega)
    obtain ⟨t, ht⟩ : ∃ t, ts[k]? = some t := ⟨_, List.getElem?_eq_getElem (by omega)⟩
    have h3 := enI_bd (lo := lo) (hi := hi) ((tksB_at h).2 k t ht) h1
    have e : reqN ts lo hi (k + 1) = reqN ts lo hi k + enI (tAt ts k) lo hi := rfl
    rw [e, tAt_of ht]
    omega

/-- A block of four cells. -/
def BlkQ (w : World) (b : Nat) (t : TypeId) (u0 u1 u2 u3 : Value) : Prop := w.heap[b]? = some (.cells #[u0, u1, u2, u3] t (0, 0))
section
variable {w w' : World} {b : Nat} {t : TypeId} {u0 u1 u2 u3 : Value}
theorem BlkQ.cell (h : BlkQ w b t u0 u1 u2 u3) : w.cell? ⟨b, 0, none⟩ = some u0 ∧ w.cell? ⟨b, 1, none⟩ = some u1 ∧ w.cell? ⟨b, 2, none⟩ = some u2 ∧ w.cell? ⟨b, 3, none⟩ = some u3 := by
  simp [World.cell?, show w.heap[b]? = _ from h]
theorem BlkQ.lt (h : BlkQ w b t u0 u1 u2 u3) : b < w.heap.size := (Array.getElem?_eq_some_iff.1 h).1
theorem BlkQ.below (h : BlkQ w b t u0 u1 u2 u3) (hb : Below w.heap.size w w') : BlkQ w' b t u0 u1 u2 u3 := (hb.block b h.lt).trans h
theorem BlkQ.new (w : World) (t : TypeId) (u0 u1 u2 u3 : Value) : BlkQ (w.alloc (.cells #[u0, u1, u2, u3] t)) w.heap.size t u0 u1 u2 u3 := World.alloc_heap_new w _
end

set_option maxRecDepth 100000 in
set_option maxHeartbeats 2000000 in
theorem pcompulsory_any (t : Tsk) (s : Int) (w : World) (h1 : 0 ≤ t.du) (h2 : t.du ≤ 1000) (h3 : 0 ≤ s) (h4 : s ≤ 1000) :
    Calls Try.prog 184 #[.agg #[.int .i64 t.st, .int .i64 t.du, .int .i64 t.de, .int .i64 s]] w fun e w' => e = .returned (.tuple #[.int .i64 s, .int .i64 (s + t.du)]) ∧ Below w.heap.size w w' := by
  obtain ⟨W1, hW1⟩ : ∃ W1, w.alloc (.cells #[.int .i64 t.st, .int .i64 t.du, .int .i64 t.de, .int .i64 s] 94) = W1 := ⟨_, rfl⟩
  have B1 : Below w.heap.size w W1 := by rw [← hW1]; exact (Below.refl _ _).alloc (Nat.le_refl _) _
  have bP : BlkQ W1 w.heap.size 94 (.int .i64 t.st) (.int .i64 t.du) (.int .i64 t.de) (.int .i64 s) := by rw [← hW1]; exact BlkQ.new _ _ _ _ _ _
  obtain ⟨p0, p1, p2, p3⟩ := bP.cell
  have HB1 := Lib.hid B1
  have HW := Lib.hid hW1
  obtain ⟨u, hu⟩ : ∃ u, u = t.du := ⟨_, rfl⟩
  rw [← hu] at h1 h2 p1 HW ⊢
  clear bP B1 hW1 hu
  go_enter Try.func184, Try.ntmps184
  go_wp2_with (rw [HW.out])
  go_quiet (fail)
  go_wp2
  go_ret2
  exact ⟨rfl, below_drewN' HB1.out _⟩

set_option maxRecDepth 100000 in
set_option maxHeartbeats 2000000 in
theorem penergy_any (t : Tsk) (s lo hi : Int) (w : World) (h1 : 0 ≤ t.du) (h2 : t.du ≤ 1000) (h3 : 0 ≤ s) (h4 : s ≤ 1000) (h5 : 0 ≤ lo) (h6 : lo ≤ 1000) (h7 : 0 ≤ hi) (h8 : hi ≤ 1000) (h9 : 0 ≤ t.de) (h10 : t.de ≤ 9) :
    Calls Try.prog 167 #[.agg #[.int .i64 t.st, .int .i64 t.du, .int .i64 t.de, .int .i64 s], .int .i64 lo, .int .i64 hi] w fun e w' => e = .returned (.int .i64 (enP t s lo hi)) ∧ Below w.heap.size w w' := by
  obtain ⟨W1, hW1⟩ : ∃ W1, w.alloc (.cells #[.int .i64 t.st, .int .i64 t.du, .int .i64 t.de, .int .i64 s] 94) = W1 := ⟨_, rfl⟩
  have B1 : Below w.heap.size w W1 := by rw [← hW1]; exact (Below.refl _ _).alloc (Nat.le_refl _) _
  have bP : BlkQ W1 w.heap.size 94 (.int .i64 t.st) (.int .i64 t.du) (.int .i64 t.de) (.int .i64 s) := by rw [← hW1]; exact BlkQ.new _ _ _ _ _ _
  obtain ⟨p0, p1, p2, p3⟩ := bP.cell
  have HP := Lib.hid bP
  have HB1 := Lib.hid B1
  have HW := Lib.hid hW1
  have HE := Lib.hid (pcompulsory_any t s W1 h1 h2 h3 h4)
  obtain ⟨o, ho⟩ : ∃ o, o = ovl s (s + t.du) lo hi := ⟨_, rfl⟩
  have hob := ovl_bd (a := s) (b := s + t.du) (c := lo) (d := hi) (by omega)
  rw [← ho] at hob
  have hm := mul_bd (c := 1000) h9 h10 hob.1 (by omega)
  have HF : Hid (enP t s lo hi = t.de * max 0 (min (s + t.du) hi - max s lo)) := Lib.hid rfl
  rw [ho] at hm
  unfold ovl at hm
  clear bP B1 hW1 ho hob
  go_enter Try.func167, Try.ntmps167
  go_wp2_with (first | rw [HW.out] | (go_at_call 184; refine HE.out.mono ?_; rintro e w2 ⟨rfl, b2⟩; obtain ⟨q0, q1, q2, q3⟩ := (HP.out.below b2).cell; have HB2 := Lib.hid (HB1.out.trans (b2.mono HB1.out.size)); clear b2))
  go_ret
  exact ⟨ret_int HF.out.symm, HB2.out⟩
theorem step_call3E {P : Program} (w : World) {ops : Array Oper} {o : Oper} {a : Act} {K : Act → World → Prop} {Q : Exit → Act → World → Prop} {E : Prop} (hgd : o.guard = none) (F : FuncId) (x0 x1 x2 : Operand) (v0 v1 v2 : Value) (ts : Array TypeId)
    (ho : o.op = .call { callee := .value (.func F), args := #[x0, x1, x2], argTypes := ts }) (h0 : a.eval x0 = v0) (h1 : a.eval x1 = v1) (h2 : a.eval x2 = v2) (eg : ∀ gs w, (callFunc F gs).run P w = .ok (.enter F gs) w)
    (R : Ending → World → Prop) (h : Calls P F #[v0, v1, v2] w R) (hp : ∀ c w', ¬ R (.panicked c) w') (hou : ∀ w', ¬ R .outgrown w') (hR : ∀ v w', R (.returned v) w' → K (a.put o.dst v) w') :
    if Region.wanted o (yielded ops a.tmps) = true then Oper.wp P o a w K Q else E := by
  have hw : Region.wanted o (yielded ops a.tmps) = true := by simp [Region.wanted, hgd]
  rw [if_pos hw]
  have hrun : (execOp a.eval o).run P w = .ok (.enter F #[v0, v1, v2]) w := by
    have hf : a.eval (.func F) = .func (.func F) #[] #[] := rfl
    simp [execOp, ho, resolve, invoke, eg, Deferred.ofValue, h0, h1, h2, hf]
  unfold Oper.wp
  rw [hrun]
  refine Calls.mono h ?_
  intro e w' hr
  cases e with
  | returned v => exact hR v w' hr
  | panicked c => exact (hp c w' hr).elim
  | outgrown => exact (hou w' hr).elim
theorem boxed_grownE {X Y : World} {row : Option Nat} {b : Nat} {t : TypeId} {v : Value} (h : Boxed X b t v) (hg : X.grownBy Y row) (hr : ∀ r, row = some r → ∃ o : Obj, X.heap[r]? = some o ∧ o.isCells = false) : Boxed Y b t v :=
  (hg.block b h.lt (fun e => by
    obtain ⟨o, ho, hc⟩ := hr b e.symm
    rw [show X.heap[b]? = _ from h] at ho
    cases ho
    cases hc)).trans h
theorem blkT_grown {X Y : World} {row : Option Nat} {b : Nat} {t : TypeId} {u0 u1 u2 : Value} (h : BlkT X b t u0 u1 u2) (hg : X.grownBy Y row) (hr : ∀ r, row = some r → ∃ o : Obj, X.heap[r]? = some o ∧ o.isCells = false) : BlkT Y b t u0 u1 u2 :=
  (hg.block b h.lt (fun e => by
    obtain ⟨o, ho, hc⟩ := hr b e.symm
    rw [show X.heap[b]? = _ from h] at ho
    cases ho
    cases hc)).trans h
theorem alloc4E (W : World) (o0 o1 o2 o3 : Obj) : let W0 := (((W.alloc o0).alloc o1).alloc o2).alloc o3
    W0.heap.size = W.heap.size + 4 ∧ W0.heap[W.heap.size]? = some o0 ∧ W0.heap[W.heap.size + 1]? = some o1 ∧ W0.heap[W.heap.size + 1 + 1]? = some o2 ∧ W0.heap[W.heap.size + 1 + 1 + 1]? = some o3 := by
  show ((((W.heap.push o0).push o1).push o2).push o3).size = _ ∧ ((((W.heap.push o0).push o1).push o2).push o3)[W.heap.size]? = _ ∧ ((((W.heap.push o0).push o1).push o2).push o3)[W.heap.size + 1]? = _ ∧ ((((W.heap.push o0).push o1).push o2).push o3)[W.heap.size + 1 + 1]? = _ ∧ ((((W.heap.push o0).push o1).push o2).push o3)[W.heap.size + 1 + 1 + 1]? = _
  simp only [Array.getElem?_push, Array.size_push]
  refine ⟨by first | trivial | omega, ?_, ?_, ?_, ?_⟩
  · rw [if_neg (by omega), if_neg (by omega), if_neg (by omega), if_pos trivial]
  · rw [if_neg (by omega), if_neg (by omega), if_pos trivial]
  · rw [if_neg (by omega), if_pos trivial]
  · rw [if_pos trivial]
section
set_option maxRecDepth 100000
theorem load_taskO (w : World) (g : Nat) (x y z : Int) (h0 : w.cell? ⟨g, 0, none⟩ = some (.int .i64 x)) (h1 : w.cell? ⟨g, 1, none⟩ = some (.int .i64 y)) (h2 : w.cell? ⟨g, 2, none⟩ = some (.int .i64 z)) : (loadVar 38 ⟨g, 0, none⟩).run Try.prog w = .ok (.agg #[.int .i64 x, .int .i64 y, .int .i64 z]) w := by
  go_simp
theorem exec_buildP {w : World} {ev : Operand → Value} {o : Oper} {x y : Operand} {a b c d : Int} (ho : o.op = .build 94 #[(0, x), (1, y)]) (hx : ev x = .agg #[.int .i64 a, .int .i64 b, .int .i64 c]) (hy : ev y = .int .i64 d) : (execOp ev o).run Try.prog w = .ok (.value (.agg #[.int .i64 a, .int .i64 b, .int .i64 c, .int .i64 d])) w := by
  unfold execOp
  simp only [ho, Sem.run_bind, Sem.run_pure, Result.andThen_ok, List.map_toArray, List.map_cons, List.map_nil, hx, hy]
  go_simp
theorem exec_minI {w : World} {ev : Operand → Value} {o : Oper} {x y : Operand} {a b : Int} (ho : o.op = .call { callee := .builtin .min, args := #[x, y], argTypes := #[3, 3] }) (hx : ev x = .int .i64 a) (hy : ev y = .int .i64 b) : (execOp ev o).run Try.prog w = .ok (.value (.int .i64 (min a b))) w := by
  unfold execOp
  simp only [ho, resolve, invoke, builtin, Sem.run_bind, Sem.run_pure, Result.andThen_ok, List.map_toArray, List.map_cons, List.map_nil, hx, hy]
  go_simp
end
/-- The activation inside the drawn region. -/
def enX (z0 z1 z2 z3 z4 z5 z6 z7 z8 z9 z10 z11 z12 z13 z14 z15 z16 z17 z18 z19 z20 z21 z22 z23 z24 z25 z26 z27 : Value) : Act := { tmps := #[z0, z1, z2, z3, z4, z5, z6, z7, z8, z9, z10, z11, z12, z13, z14, z15, z16, z17, z18, z19, z20, z21, z22, z23, z24, z25, z26, z27], defers := [] }
/-- The activation inside the loop over the starts. -/
def enAct (S : Nat) (t : Tsk) (lo hi m : Int) (k : Nat) (x19 x20 x21 x22 x23 x24 x25 x26 : Value) : Act := { tmps := #[.agg #[.int .i64 t.st, .int .i64 t.du, .int .i64 t.de], .int .i64 lo, .int .i64 hi, .pointer (some ⟨S, 0, none⟩), .pointer (some ⟨S + 1, 0, none⟩), .pointer (some ⟨S + 1 + 1, 0, none⟩), .int .i64 0, .pointer (some ⟨S + 1 + 1 + 1, 0, none⟩), .int .i64 k, .pointer (some ⟨S, 2, none⟩), .int .i64 t.de, .int .i64 hi, .int .i64 lo, .int .i64 (hi - lo), .int .i64 m, .pointer (some ⟨S, 0, none⟩), .int .i64 t.st, .func (.func 165) #[] #[.pointer (some ⟨S + 4, 0, none⟩)], .int .i64 k, x19, x20, x21, x22, x23, x24, x25, x26, undef], defers := [] }

end Go.Proofs.Ytelglccegkhfcaa
