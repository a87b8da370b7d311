/- Words that an automaton accepts, both packages. -/
import Derived.Test.YtelglccegkhfcaaAtv
import Derived.Test.YtelglccegkhfcaaOrdX
import Derived.Test.YtelglccegkhfcaaEx
namespace Go.Proofs.Ytelglccegkhfcaa
open Go.ChangeShapes Go.WideShapes Go.ChangeAt Go.RowKit Go.Deep Go.Shelf
set_option linter.unusedVariables false
set_option linter.unusedSimpArgs false

/-- A word. -/
def wordB (xs : List Int) : Bool := decide (xs.length ≤ 8) && allB xs 0 5
/-- The state that the word leads to, or -1. -/
def endS (rows : List (List Int)) (xs : List Int) : Int := if ∀ j : Nat, j ≤ xs.length → 0 ≤ runS rows xs j then runS rows xs xs.length else -1
def atcB (a : Aut) (xs : List Int) : Bool := autB a && (wordB xs && decide (endS a.next xs ∈ a.fin))
theorem aut_parts {a : Aut} (h : autB a = true) : (1 ≤ a.next.length ∧ a.next.length ≤ 8) ∧ (∀ j, j < a.next.length → (a.next[j]?.getD []).length = 6 ∧ Small (a.next[j]?.getD []) (-1) (a.next.length - 1)) ∧ Small a.fin 0 (a.next.length - 1) := by
  unfold autB at h
  simp only [Bool.and_eq_true] at h
  obtain ⟨⟨h1, h2⟩, h3, _⟩ := h
  have h2 := wiB_in h2
  refine ⟨by omega, fun j hj => ?_, small_of h3⟩
  unfold rowsB at h1
  rw [List.all_eq_true] at h1
  have h4 := h1 a.next[j] (List.getElem_mem hj)
  rw [Bool.and_eq_true, decide_eq_true_iff] at h4
  rw [List.getElem?_eq_getElem hj]
  exact ⟨by have := h4.1; simp only [Option.getD_some]; omega, small_of h4.2⟩
theorem end_acc {a : Aut} (h : autB a = true) (xs : List Int) : decide (endS a.next xs ∈ a.fin) = (decide (∀ j : Nat, j ≤ xs.length → 0 ≤ runS a.next xs j) && decide (runS a.next xs xs.length ∈ a.fin)) := by
  unfold endS
  by_cases h1 : ∀ j : Nat, j ≤ xs.length → 0 ≤ runS a.next xs j
  · rw [if_pos h1, decide_eq_true h1, Bool.true_and]
  · rw [if_neg h1, decide_eq_false h1, Bool.false_and]
    rw [decide_eq_false_iff_not]
    intro hm
    obtain ⟨j, hj, e⟩ := List.mem_iff_getElem.1 hm
    have := (aut_parts h).2.2 j hj
    rw [List.getElem?_eq_getElem hj, Option.getD_some, e] at this
    omega

set_option maxRecDepth 100000 in
set_option maxHeartbeats 2000000 in
theorem containsInt_any (xv : Value) (x : List Int) (v : Int) (w : World) (hx : RdInts w xv x) :
    Calls Try.prog 139 #[xv, .int .i64 v] w fun e w' => e = .returned (.bool (decide (v ∈ x))) ∧ w = w' := by
  have HX := Lib.hid hx
  obtain ⟨ax, cx, e2, _⟩ := hx
  rw [e2] at HX ⊢
  obtain ⟨n, hn⟩ : ∃ n, n = x.length := ⟨_, rfl⟩
  have HN := Lib.hid hn
  rw [← hn] at HX ⊢
  have hcx := (rdInts_cap HX.out).2
  clear e2 hn
  go_enter Try.func139, Try.ntmps139
  go_wp2
  go_loop [5] (fun i => ∃ k : Nat, k ≤ n ∧ i = .int .i64 k ∧ Hid (∀ j, j < k → x[j]?.getD 0 ≠ v)) (fun i => n - (intOf i).toNat)
  case atStart => exact ⟨0, Nat.zero_le _, rfl, Lib.hid (fun j hj => by omega)⟩
  case round =>
    obtain ⟨k, hk, rfl, HE⟩ := hrel
    by_cases hlt : k < n
    · obtain ⟨b1, o1, rfl, q1⟩ := rdInts_at HX.out hlt
      by_cases he : x[k]?.getD 0 = v
      · have hb : (x[k]?.getD 0 == v) = true := by simp [he]
        have HM : Hid (v ∈ x) := Lib.hid (by have hk' : k < x.length := by have := HN.out; omega
                                             rw [← he, List.getElem?_eq_getElem hk']; exact List.getElem_mem hk')
        clear he
        go_wp2
        go_ret
        exact ⟨ret_bool (decide_eq_true HM.out).symm, rfl⟩
      · have hb : (x[k]?.getD 0 == v) = false := by simp [he]
        have HE2 := Lib.hid he
        clear he
        go_wp2
        go_round
        case rel => exact ⟨k + 1, by omega, by go_num, Lib.hid (fun j hj => by by_cases e : j = k; (· subst e; exact HE2.out); (· exact HE.out j (by omega)))⟩
        case measure => simp [intOf]; omega
    · obtain rfl : k = n := by omega
      have HM : Hid (¬ v ∈ x) := Lib.hid (fun hm => by
        obtain ⟨j, hj, e⟩ := List.mem_iff_getElem.1 hm
        exact HE.out j (by have := HN.out; omega) (by rw [List.getElem?_eq_getElem hj]; exact e))
      clear HE
      go_wp2
      go_ret
      exact ⟨ret_bool (decide_eq_false HM.out).symm, rfl⟩

set_option maxRecDepth 100000 in
set_option maxHeartbeats 2000000 in
theorem isFinal_any (a1 a2 : Option Addr) (m c1 n c2 : Nat) (fin : List Int) (s : Int) (w : World) (h : RdInts w (.slice a2 n c2) fin) :
    Calls Try.prog 103 #[.agg #[.slice a1 m c1, .slice a2 n c2], .int .i64 s] w (BoolPost (decide (s ∈ fin)) w) := by
  unfold BoolPost
  obtain ⟨W1, hW1⟩ : ∃ W1, w.alloc (.cells #[.slice a1 m c1, .slice a2 n c2] 67) = W1 := ⟨_, rfl⟩
  have B1 : Below w.heap.size w W1 := by rw [← hW1]; exact (Below.refl _ _).alloc (Nat.le_refl _) _
  have bP : Blk2 W1 w.heap.size 67 (.slice a1 m c1) (.slice a2 n c2) := by rw [← hW1]; exact Blk2.new w _ _ _
  obtain ⟨p0, p1⟩ := bP.cell
  have HA := Lib.hid (h.below B1)
  have HB1 := Lib.hid B1
  have HW := Lib.hid hW1
  clear h bP B1 hW1
  go_enter Try.func103, Try.ntmps103
  go_wp2_with (first | rw [HW.out] | (go_at_call 139; refine (containsInt_any _ fin s _ HA.out).mono ?_; rintro e w' ⟨rfl, rfl⟩))
  go_ret
  exact ⟨rfl, HB1.out⟩

set_option maxRecDepth 100000 in
set_option maxHeartbeats 4000000 in
theorem runFrom_any (a : Aut) (x : List Int) (a1 a2 : Option Addr) (m c1 n2 c2 : Nat) (xv : Value) (w : World) (h : RdRows w (.slice a1 m c1) a.next) (hx : RdInts w xv x) (ha : autB a = true) (hx8 : x.length ≤ 8) (hv : Small x 0 5) :
    Calls Try.prog 104 #[.agg #[.slice a1 m c1, .slice a2 n2 c2], .int .i64 0, xv] w fun e w' => e = .returned (.int .i64 (endS a.next x)) ∧ Below w.heap.size w w' := by
  obtain ⟨hm, hrow, -⟩ := aut_parts ha
  obtain ⟨ax, cx, ev, -⟩ := id hx
  rw [ev] at hx ⊢
  obtain ⟨W1, hW1⟩ : ∃ W1, w.alloc (.cells #[.slice a1 m c1, .slice a2 n2 c2] 67) = W1 := ⟨_, rfl⟩
  have B1 : Below w.heap.size w W1 := by rw [← hW1]; exact (Below.refl _ _).alloc (Nat.le_refl _) _
  have bP : Blk2 W1 w.heap.size 67 (.slice a1 m c1) (.slice a2 n2 c2) := by rw [← hW1]; exact Blk2.new w _ _ _
  have hme := (rdRows_cap h).1
  have hmc := (rdRows_cap h).2
  have HX := Lib.hid (hx.below B1)
  have HR := Lib.hid (h.below B1)
  have HB1 := Lib.hid B1
  have HW := Lib.hid hW1
  have HP := Lib.hid bP
  have HRB := Lib.hid (runS_bnd hm.1 hrow hv)
  rw [← hme] at hm
  have HM := Lib.hid hme
  obtain ⟨n, hn⟩ : ∃ n, n = x.length := ⟨_, rfl⟩
  have HN := Lib.hid hn
  rw [← hn] at HX hx8 ⊢
  have hcx := (rdInts_cap HX.out).2
  have HRW := Lib.hid hrow
  have HVL := Lib.hid hv
  clear h hx hW1 B1 bP ev hn hme hrow hv ha
  go_enter Try.func104, Try.ntmps104
  go_wp2
  rw [HW.out]
  go_loopw [1, 7] (fun s i wr => ∃ q : Nat, ∃ y : Int, q ≤ n ∧ i = .int .i64 q ∧ s = .int .i64 y ∧ -1 ≤ y ∧ y < m ∧ Hid (runS a.next x q = y) ∧ Hid (∀ j, j < q → 0 ≤ runS a.next x j) ∧ Hid (Below W1.heap.size W1 wr)) (fun _ i _ => n - (intOf i).toNat)
  case atStart => exact ⟨0, 0, Nat.zero_le _, rfl, rfl, by omega, by omega, Lib.hid rfl, Lib.hid (fun j hj => by omega), Lib.hid (Below.refl _ _)⟩
  case round =>
    obtain ⟨q, y, hq, rfl, rfl, hy1, hy2, HG, HE, HQ⟩ := hrel
    obtain ⟨p0, p1⟩ := (HP.out.below HQ.out).cell
    have HBW := Lib.hid (HB1.out.trans (HQ.out.mono HB1.out.size))
    by_cases hlt : q < n
    · by_cases hneg : y < 0
      · have HF : Hid (endS a.next x = y) := Lib.hid (by
          unfold endS
          rw [if_neg (fun h => by have := h q (by have := HN.out; omega); rw [HG.out] at this; omega)]
          omega)
        go_wp2
        go_ret
        exact ⟨ret_int HF.out.symm, HBW.out⟩
      · obtain ⟨st, rfl⟩ : ∃ st : Nat, y = st := ⟨y.toNat, by omega⟩
        have hst : st < m := by omega
        obtain ⟨b1, o1, a1', c1', rfl, q1, r1⟩ := rdRows_at (HR.out.below HQ.out) hst
        obtain ⟨r, hr⟩ : ∃ r, r = a.next[st]?.getD [] := ⟨_, rfl⟩
        have hrl : r.length = 6 := by rw [hr]; exact (HRW.out st (by have := HM.out; omega)).1
        rw [← hr] at q1 r1
        rw [hrl] at q1 r1
        obtain ⟨b2, o2, rfl, q2⟩ := rdInts_at (HX.out.below HQ.out) hlt
        have g3 := HVL.out q (by have := HN.out; omega)
        obtain ⟨z, hz⟩ : ∃ z : Nat, x[q]?.getD 0 = (z : Int) := ⟨(x[q]?.getD 0).toNat, by omega⟩
        rw [hz] at q2 g3
        obtain ⟨b3, o3, rfl, q3⟩ := rdInts_at r1 (i := z) (by omega)
        obtain ⟨u, hu⟩ : ∃ u, u = r[z]?.getD 0 := ⟨_, rfl⟩
        rw [← hu] at q3
        have HY : Hid (runS a.next x (q + 1) = u) := Lib.hid (by rw [runS, HG.out, hz, hu, hr]; rfl)
        have hyb := HRB.out (q + 1) (by have := HN.out; omega) (fun j hj => by
          by_cases e : j = q
          · rw [e, HG.out]; omega
          · exact HE.out j (by omega))
        rw [HY.out, ← HM.out] at hyb
        have hc3 := (rdInts_cap r1).2
        have HQD := Lib.hid (fun k => below_drewN' HQ.out k)
        clear hr hrl hz hu r1
        go_wp2_with fail
        go_quiet (fail)
        go_wp2
        go_roundw
        case rel => exact ⟨q + 1, u, by omega, by go_num, rfl, by omega, by omega, HY, Lib.hid (fun j hj => by by_cases e : j = q; (· rw [e, HG.out]; omega); (· exact HE.out j (by omega))), Lib.hid (HQD.out _)⟩
        case measure => simp [intOf]; omega
    · obtain rfl : q = n := by omega
      have HF : Hid (endS a.next x = y) := Lib.hid (by
        unfold endS
        by_cases h0 : 0 ≤ y
        · rw [if_pos (fun j hj => by
            by_cases e : j = q
            · rw [e, HG.out]; exact h0
            · exact HE.out j (by have := HN.out; omega)), ← HN.out, HG.out]
        · rw [if_neg (fun h => by have := h q (by have := HN.out; omega); rw [HG.out] at this; omega)]
          omega)
      go_wp2
      go_ret
      exact ⟨ret_int HF.out.symm, HBW.out⟩

set_option maxRecDepth 100000 in
theorem validWord_any (xv : Value) (x : List Int) (w : World) (hx : RdInts w xv x) :
    Calls Try.prog 102 #[xv] w fun e w' => e = .returned (.bool (wordB x)) ∧ w = w' := by
  have HX := Lib.hid hx
  obtain ⟨ax, cx, e2, _⟩ := hx
  rw [e2] at HX ⊢
  have HF : Hid (∀ n, n = x.length → wordB x = (decide (n ≤ 8) && allB x 0 5)) := Lib.hid (fun n hn => by unfold wordB; rw [hn])
  obtain ⟨n, hn⟩ : ∃ n, n = x.length := ⟨_, rfl⟩
  rw [HF.out n hn]
  rw [← hn] at HX ⊢
  have hcx := (rdInts_cap HX.out).2
  clear e2 hn HF
  by_cases h : n ≤ 8
  · rw [decide_eq_true h]
    go_enter Try.func102, Try.ntmps102
    go_wp2_with (go_at_call 121; refine (allInRange_any _ x _ _ _ HX.out).mono ?_; rintro e w' ⟨rfl, rfl⟩)
    go_ret
    exact ⟨rfl, rfl⟩
  · rw [decide_eq_false h]
    go_enter Try.func102, Try.ntmps102
    go_wp2
    go_ret
    exact ⟨rfl, rfl⟩
theorem gcall1 {P : Program} (w : World) {ops : Array Oper} {o : Oper} {a : Act} {K : Act → World → Prop} {Q : Exit → Act → World → Prop} {E : Prop} (hw : Region.wanted o (yielded ops a.tmps) = true) (F : FuncId) (x0 : Operand) (v0 : Value) (ts : Array TypeId)
    (ho : o.op = .call { callee := .value (.func F), args := #[x0], argTypes := ts }) (h0 : a.eval x0 = v0) (eg : ∀ gs w, (callFunc F gs).run P w = .ok (.enter F gs) w)
    (R : Ending → World → Prop) (h : Calls P F #[v0] w R) (hp : ∀ c w', ¬ R (.panicked c) w') (hou : ∀ w', ¬ R .outgrown w') (hR : ∀ v w', R (.returned v) w' → K (a.put o.dst v) w') :
    if Region.wanted o (yielded ops a.tmps) = true then Oper.wp P o a w K Q else E := by
  rw [if_pos hw]
  have hrun : (execOp a.eval o).run P w = .ok (.enter F #[v0]) w := by
    have hf : a.eval (.func F) = .func (.func F) #[] #[] := rfl
    simp [execOp, ho, resolve, invoke, eg, Deferred.ofValue, h0, hf]
  unfold Oper.wp
  rw [hrun]
  refine Calls.mono h ?_
  intro e w' hr
  cases e with
  | returned v => exact hR v w' hr
  | panicked c => exact (hp c w' hr).elim
  | outgrown => exact (hou w' hr).elim
theorem gcall2 {P : Program} (w : World) {ops : Array Oper} {o : Oper} {a : Act} {K : Act → World → Prop} {Q : Exit → Act → World → Prop} {E : Prop} (hw : Region.wanted o (yielded ops a.tmps) = true) (F : FuncId) (x0 x1 : Operand) (v0 v1 : Value) (ts : Array TypeId)
    (ho : o.op = .call { callee := .value (.func F), args := #[x0, x1], argTypes := ts }) (h0 : a.eval x0 = v0) (h1 : a.eval x1 = v1) (eg : ∀ gs w, (callFunc F gs).run P w = .ok (.enter F gs) w)
    (R : Ending → World → Prop) (h : Calls P F #[v0, v1] w R) (hp : ∀ c w', ¬ R (.panicked c) w') (hou : ∀ w', ¬ R .outgrown w') (hR : ∀ v w', R (.returned v) w' → K (a.put o.dst v) w') :
    if Region.wanted o (yielded ops a.tmps) = true then Oper.wp P o a w K Q else E := by
  rw [if_pos hw]
  have hrun : (execOp a.eval o).run P w = .ok (.enter F #[v0, v1]) w := by
    have hf : a.eval (.func F) = .func (.func F) #[] #[] := rfl
    simp [execOp, ho, resolve, invoke, eg, Deferred.ofValue, h0, h1, hf]
  unfold Oper.wp
  rw [hrun]
  refine Calls.mono h ?_
  intro e w' hr
  cases e with
  | returned v => exact hR v w' hr
  | panicked c => exact (hp c w' hr).elim
  | outgrown => exact (hou w' hr).elim
theorem gcall3 {P : Program} (w : World) {ops : Array Oper} {o : Oper} {a : Act} {K : Act → World → Prop} {Q : Exit → Act → World → Prop} {E : Prop} (hw : Region.wanted o (yielded ops a.tmps) = true) (F : FuncId) (x0 x1 x2 : Operand) (v0 v1 v2 : Value) (ts : Array TypeId)
    (ho : o.op = .call { callee := .value (.func F), args := #[x0, x1, x2], argTypes := ts }) (h0 : a.eval x0 = v0) (h1 : a.eval x1 = v1) (h2 : a.eval x2 = v2) (eg : ∀ gs w, (callFunc F gs).run P w = .ok (.enter F gs) w)
    (R : Ending → World → Prop) (h : Calls P F #[v0, v1, v2] w R) (hp : ∀ c w', ¬ R (.panicked c) w') (hou : ∀ w', ¬ R .outgrown w') (hR : ∀ v w', R (.returned v) w' → K (a.put o.dst v) w') :
    if Region.wanted o (yielded ops a.tmps) = true then Oper.wp P o a w K Q else E := by
  rw [if_pos hw]
  have hrun : (execOp a.eval o).run P w = .ok (.enter F #[v0, v1, v2]) w := by
    have hf : a.eval (.func F) = .func (.func F) #[] #[] := rfl
    simp [execOp, ho, resolve, invoke, eg, Deferred.ofValue, h0, h1, h2, hf]
  unfold Oper.wp
  rw [hrun]
  refine Calls.mono h ?_
  intro e w' hr
  cases e with
  | returned v => exact hR v w' hr
  | panicked c => exact (hp c w' hr).elim
  | outgrown => exact (hou w' hr).elim
set_option maxRecDepth 100000 in
theorem load_autO (w : World) (g : Nat) (a1 a2 : Option Addr) (n1 n2 c1 c2 : Nat) (h0 : w.cell? ⟨g, 0, none⟩ = some (.slice a1 n1 c1)) (h1 : w.cell? ⟨g, 1, none⟩ = some (.slice a2 n2 c2)) : (loadVar 67 ⟨g, 0, none⟩).run Try.prog w = .ok (.agg #[.slice a1 n1 c1, .slice a2 n2 c2]) w := by
  go_simp
/-- The activation inside the drawn region. -/
def atX (z0 z1 z2 z3 z4 z5 z6 z7 z8 z9 z10 z11 z12 z13 z14 z15 z16 z17 : Value) : Act := { tmps := #[z0, z1, z2, z3, z4, z5, z6, z7, z8, z9, z10, z11, z12, z13, z14, z15, z16, z17], defers := [] }
theorem atc_1 {a : Aut} {xs : List Int} (h : autB a = false) : atcB a xs = false := by unfold atcB; rw [h]; rfl
theorem atc_2 {a : Aut} {xs : List Int} (h : wordB xs = false) : atcB a xs = false := by unfold atcB; rw [h]; simp
theorem atc_3 {a : Aut} {xs : List Int} (h : autB a = true) (h2 : wordB xs = true) : atcB a xs = decide (endS a.next xs ∈ a.fin) := by unfold atcB; rw [h, h2]; rfl
set_option maxRecDepth 100000 in
set_option maxHeartbeats 8000000 in
theorem sAccepts_any (v xv : Value) (a : Aut) (x : List Int) (w : World) (h : RdAut w v a) (hx : RdInts w xv x) :
    Calls Try.prog 52 #[v, xv] w (BoolPost (atcB a x) w) := by
  have HVA := Lib.hid (fun (X : World) (b : Below w.heap.size w X) => svalidAutomaton_any v a X (h.below b))
  have HVW := Lib.hid (fun (X : World) (b : Below w.heap.size w X) => validWord_any xv x X (hx.below b))
  have HRA := Lib.hid (fun (X : World) (b : Below w.heap.size w X) => rdAut_slices (h.below b))
  obtain ⟨a1, a2, c1, c2, rfl, h1, h2⟩ := rdAut_slices h
  have HRF := Lib.hid (fun (X : World) (b : Below w.heap.size w X) (ha : autB a = true) (hw : wordB x = true) => runFrom_any a x a1 a2 a.next.length c1 a.fin.length c2 xv X (h1.below b) (hx.below b) ha (by unfold wordB at hw; rw [Bool.and_eq_true, decide_eq_true_iff] at hw; exact hw.1) (by unfold wordB at hw; rw [Bool.and_eq_true] at hw; exact small_of hw.2))
  have HIF := Lib.hid (fun (X : World) (b : Below w.heap.size w X) => isFinal_any a1 a2 a.next.length c1 a.fin.length c2 a.fin (endS a.next x) X (h2.below b))
  unfold BoolPost at HVA HIF
  unfold BoolPost
  obtain ⟨W1, hW1⟩ : ∃ W1, w.alloc (.cells #[.slice a1 a.next.length c1, .slice a2 a.fin.length c2] 67) = W1 := ⟨_, rfl⟩
  have B1 : Below w.heap.size w W1 := by rw [← hW1]; exact (Below.refl _ _).alloc (Nat.le_refl _) _
  have bP : Blk2 W1 w.heap.size 67 (.slice a1 a.next.length c1) (.slice a2 a.fin.length c2) := by rw [← hW1]; exact Blk2.new w _ _ _
  have HW := Lib.hid hW1
  have HB1 := Lib.hid B1.drew
  have hS : W1.drew.cell? ⟨w.heap.size, 0, none⟩ = some (.slice a1 a.next.length c1) ∧ W1.drew.cell? ⟨w.heap.size, 1, none⟩ = some (.slice a2 a.fin.length c2) := bP.cell
  have HF1 := Lib.hid (atc_1 (a := a) (xs := x))
  have HF2 := Lib.hid (atc_2 (a := a) (xs := x))
  have HF3 := Lib.hid (atc_3 (a := a) (xs := x))
  obtain ⟨ax, cx, ev, -⟩ := id hx
  rw [ev] at HVW HRF ⊢
  obtain ⟨m, hm⟩ : ∃ m, m = a.next.length := ⟨_, rfl⟩
  obtain ⟨n, hn⟩ : ∃ n, n = a.fin.length := ⟨_, rfl⟩
  obtain ⟨nx, hnx⟩ : ∃ nx, nx = x.length := ⟨_, rfl⟩
  rw [← hm, ← hn] at HW hS HVA HIF ⊢
  rw [← hm, ← hn, ← hnx] at HRF
  rw [← hnx] at HVW ⊢
  clear h hx h1 h2 hW1 B1 bP ev hm hn hnx HRA
  cases g0 : autB a
  · have HF := Lib.hid (HF1.out g0)
    rw [g0] at HVA
    rw [HF.out]
    clear HRF g0
    go_enter Try.func52, Try.ntmps52
    go_wp2
    rw [HW.out]
    refine region_x (fun w' => w'.cell? ⟨w.heap.size, 0, none⟩ = some (.slice a1 m c1) ∧ w'.cell? ⟨w.heap.size, 1, none⟩ = some (.slice a2 n c2)) (fun _ => false) (by kernel_rfl) ?_
    change wpAnyX Try.prog .any _ _ _ _ 14 _ (atX _ _ _ _ _ _ _ _ _ _ _ _ _ _ _ _ _ _) W1.drew
    refine wpAnyX_take (i := 0) (v := .agg #[.slice a1 m c1, .slice a2 n c2]) rfl (by kernel_rfl) (by kernel_rfl) (by kernel_rfl) (by kernel_rfl) (fun _ _ _ h => h) (.inl ⟨rfl, fun w' hw' => exec_load rfl rfl (load_autO w' _ _ _ _ _ _ _ hw'.1 hw'.2)⟩) hS ?_
    change wpAnyX Try.prog .any _ _ _ _ 13 _ (atX _ _ _ _ _ (.agg #[.slice a1 m c1, .slice a2 n c2]) _ _ _ _ _ _ _ _ _ _ _ _) W1.drew
    refine wpAnyX_one (i := 1) (by kernel_rfl) rfl (fun K' hK' => ?_)
    refine gcall1 _ rfl 96 _ _  _ rfl  rfl (enters_of Try.func96 (by kernel_rfl) rfl) _ (HVA.out _ HB1.out) (fun c w' h => by cases h.1) (fun w' h => by cases h.1) ?_
    rintro v9 w2 ⟨e9, b9⟩
    obtain rfl : v9 = .bool false := by injection e9
    have hS2 : w2.cell? ⟨w.heap.size, 0, none⟩ = some (.slice a1 m c1) ∧ w2.cell? ⟨w.heap.size, 1, none⟩ = some (.slice a2 n c2) := ⟨(b9.cell (World.block_lt_of_cell? _ _ hS.1)).trans hS.1, (b9.cell (World.block_lt_of_cell? _ _ hS.2)).trans hS.2⟩
    have HB2 := Lib.hid (HB1.out.trans (b9.mono HB1.out.size))
    clear b9 e9
    refine hK'.out _ _ (fun _ => hS2) ?_
    clear hK' K'
    change wpAnyX Try.prog .any _ _ _ _ 12 _ (atX _ _ _ _ _ (.agg #[.slice a1 m c1, .slice a2 n c2]) (.bool false) _ _ _ _ _ _ _ _ _ _ _) w2
    refine wpAnyX_take (i := 2) (v := .bool false) rfl (by kernel_rfl) (by kernel_rfl) (by kernel_rfl) (by kernel_rfl) (fun _ _ _ h => h) (.inl ⟨rfl, fun w' hw' => rfl⟩) hS2 ?_
    change wpAnyX Try.prog .any _ _ _ _ 11 _ (atX _ _ _ _ _ (.agg #[.slice a1 m c1, .slice a2 n c2]) (.bool false) (.bool false) _ _ _ _ _ _ _ _ _ _) w2
    refine wpAnyX_take (i := 3) (v := undef) rfl (by kernel_rfl) (by kernel_rfl) (by kernel_rfl) (by kernel_rfl) (fun _ _ _ h => h) (.inr ⟨rfl, rfl⟩) hS2 ?_
    change wpAnyX Try.prog .any _ _ _ _ 10 _ (atX _ _ _ _ _ (.agg #[.slice a1 m c1, .slice a2 n c2]) (.bool false) (.bool false) (undef) _ _ _ _ _ _ _ _ _) w2
    refine wpAnyX_take (i := 4) (v := undef) rfl (by kernel_rfl) (by kernel_rfl) (by kernel_rfl) (by kernel_rfl) (fun _ _ _ h => h) (.inr ⟨rfl, rfl⟩) hS2 ?_
    change wpAnyX Try.prog .any _ _ _ _ 9 _ (atX _ _ _ _ _ (.agg #[.slice a1 m c1, .slice a2 n c2]) (.bool false) (.bool false) (undef) (undef) _ _ _ _ _ _ _ _) w2
    refine wpAnyX_take (i := 5) (v := .bool false) rfl (by kernel_rfl) (by kernel_rfl) (by kernel_rfl) (by kernel_rfl) (fun _ _ _ h => h) (.inl ⟨rfl, fun w' hw' => rfl⟩) hS2 ?_
    change wpAnyX Try.prog .any _ _ _ _ 8 _ (atX _ _ _ _ _ (.agg #[.slice a1 m c1, .slice a2 n c2]) (.bool false) (.bool false) (undef) (undef) (.bool false) _ _ _ _ _ _ _) w2
    refine wpAnyX_take (i := 6) (v := .bool false) rfl (by kernel_rfl) (by kernel_rfl) (by kernel_rfl) (by kernel_rfl) (fun _ _ _ h => h) (.inl ⟨rfl, fun w' hw' => rfl⟩) hS2 ?_
    change wpAnyX Try.prog .any _ _ _ _ 7 _ (atX _ _ _ _ _ (.agg #[.slice a1 m c1, .slice a2 n c2]) (.bool false) (.bool false) (undef) (undef) (.bool false) (.bool false) _ _ _ _ _ _) w2
    refine wpAnyX_take (i := 7) (v := undef) rfl (by kernel_rfl) (by kernel_rfl) (by kernel_rfl) (by kernel_rfl) (fun _ _ _ h => h) (.inr ⟨rfl, rfl⟩) hS2 ?_
    change wpAnyX Try.prog .any _ _ _ _ 6 _ (atX _ _ _ _ _ (.agg #[.slice a1 m c1, .slice a2 n c2]) (.bool false) (.bool false) (undef) (undef) (.bool false) (.bool false) (undef) _ _ _ _ _) w2
    refine wpAnyX_take (i := 8) (v := undef) rfl (by kernel_rfl) (by kernel_rfl) (by kernel_rfl) (by kernel_rfl) (fun _ _ _ h => h) (.inr ⟨rfl, rfl⟩) hS2 ?_
    change wpAnyX Try.prog .any _ _ _ _ 5 _ (atX _ _ _ _ _ (.agg #[.slice a1 m c1, .slice a2 n c2]) (.bool false) (.bool false) (undef) (undef) (.bool false) (.bool false) (undef) (undef) _ _ _ _) w2
    refine wpAnyX_take (i := 9) (v := undef) rfl (by kernel_rfl) (by kernel_rfl) (by kernel_rfl) (by kernel_rfl) (fun _ _ _ h => h) (.inr ⟨rfl, rfl⟩) hS2 ?_
    change wpAnyX Try.prog .any _ _ _ _ 4 _ (atX _ _ _ _ _ (.agg #[.slice a1 m c1, .slice a2 n c2]) (.bool false) (.bool false) (undef) (undef) (.bool false) (.bool false) (undef) (undef) (undef) _ _ _) w2
    refine wpAnyX_take (i := 10) (v := undef) rfl (by kernel_rfl) (by kernel_rfl) (by kernel_rfl) (by kernel_rfl) (fun _ _ _ h => h) (.inr ⟨rfl, rfl⟩) hS2 ?_
    change wpAnyX Try.prog .any _ _ _ _ 3 _ (atX _ _ _ _ _ (.agg #[.slice a1 m c1, .slice a2 n c2]) (.bool false) (.bool false) (undef) (undef) (.bool false) (.bool false) (undef) (undef) (undef) (undef) _ _) w2
    refine wpAnyX_take (i := 11) (v := undef) rfl (by kernel_rfl) (by kernel_rfl) (by kernel_rfl) (by kernel_rfl) (fun _ _ _ h => h) (.inr ⟨rfl, rfl⟩) hS2 ?_
    change wpAnyX Try.prog .any _ _ _ _ 2 _ (atX _ _ _ _ _ (.agg #[.slice a1 m c1, .slice a2 n c2]) (.bool false) (.bool false) (undef) (undef) (.bool false) (.bool false) (undef) (undef) (undef) (undef) (undef) _) w2
    refine wpAnyX_take (i := 12) (v := .bool false) rfl (by kernel_rfl) (by kernel_rfl) (by kernel_rfl) (by kernel_rfl) (fun _ _ _ h => h) (.inl ⟨rfl, fun w' hw' => rfl⟩) hS2 ?_
    change wpAnyX Try.prog .any _ _ _ _ 1 _ (atX _ _ _ _ _ (.agg #[.slice a1 m c1, .slice a2 n c2]) (.bool false) (.bool false) (undef) (undef) (.bool false) (.bool false) (undef) (undef) (undef) (undef) (undef) (.bool false)) w2
    refine wpAnyX_take (i := 13) (v := .bool false) rfl (by kernel_rfl) (by kernel_rfl) (by kernel_rfl) (by kernel_rfl) (fun _ _ _ h => h) (.inl ⟨rfl, fun w' hw' => rfl⟩) hS2 ?_
    change wpAnyX Try.prog .any _ _ _ _ 0 _ (atX _ _ _ _ (.bool false) (.agg #[.slice a1 m c1, .slice a2 n c2]) (.bool false) (.bool false) (undef) (undef) (.bool false) (.bool false) (undef) (undef) (undef) (undef) (undef) (.bool false)) w2
    refine wpAnyX_done (by kernel_rfl) ?_ _
    unfold atX
    go_wp2
    go_ret
    exact ⟨rfl, HB2.out⟩
  cases g1 : wordB x
  · have HF := Lib.hid (HF2.out g1)
    rw [g0] at HVA
    rw [g1] at HVW
    rw [HF.out]
    clear HRF g0 g1
    go_enter Try.func52, Try.ntmps52
    go_wp2
    rw [HW.out]
    refine region_x (fun w' => w'.cell? ⟨w.heap.size, 0, none⟩ = some (.slice a1 m c1) ∧ w'.cell? ⟨w.heap.size, 1, none⟩ = some (.slice a2 n c2)) (fun _ => false) (by kernel_rfl) ?_
    change wpAnyX Try.prog .any _ _ _ _ 14 _ (atX _ _ _ _ _ _ _ _ _ _ _ _ _ _ _ _ _ _) W1.drew
    refine wpAnyX_take (i := 0) (v := .agg #[.slice a1 m c1, .slice a2 n c2]) rfl (by kernel_rfl) (by kernel_rfl) (by kernel_rfl) (by kernel_rfl) (fun _ _ _ h => h) (.inl ⟨rfl, fun w' hw' => exec_load rfl rfl (load_autO w' _ _ _ _ _ _ _ hw'.1 hw'.2)⟩) hS ?_
    change wpAnyX Try.prog .any _ _ _ _ 13 _ (atX _ _ _ _ _ (.agg #[.slice a1 m c1, .slice a2 n c2]) _ _ _ _ _ _ _ _ _ _ _ _) W1.drew
    refine wpAnyX_one (i := 1) (by kernel_rfl) rfl (fun K' hK' => ?_)
    refine gcall1 _ rfl 96 _ _  _ rfl  rfl (enters_of Try.func96 (by kernel_rfl) rfl) _ (HVA.out _ HB1.out) (fun c w' h => by cases h.1) (fun w' h => by cases h.1) ?_
    rintro v9 w2 ⟨e9, b9⟩
    obtain rfl : v9 = .bool true := by injection e9
    have hS2 : w2.cell? ⟨w.heap.size, 0, none⟩ = some (.slice a1 m c1) ∧ w2.cell? ⟨w.heap.size, 1, none⟩ = some (.slice a2 n c2) := ⟨(b9.cell (World.block_lt_of_cell? _ _ hS.1)).trans hS.1, (b9.cell (World.block_lt_of_cell? _ _ hS.2)).trans hS.2⟩
    have HB2 := Lib.hid (HB1.out.trans (b9.mono HB1.out.size))
    clear b9 e9
    refine hK'.out _ _ (fun _ => hS2) ?_
    clear hK' K'
    change wpAnyX Try.prog .any _ _ _ _ 12 _ (atX _ _ _ _ _ (.agg #[.slice a1 m c1, .slice a2 n c2]) (.bool true) _ _ _ _ _ _ _ _ _ _ _) w2
    refine wpAnyX_take (i := 2) (v := .bool true) rfl (by kernel_rfl) (by kernel_rfl) (by kernel_rfl) (by kernel_rfl) (fun _ _ _ h => h) (.inl ⟨rfl, fun w' hw' => rfl⟩) hS2 ?_
    change wpAnyX Try.prog .any _ _ _ _ 11 _ (atX _ _ _ _ _ (.agg #[.slice a1 m c1, .slice a2 n c2]) (.bool true) (.bool true) _ _ _ _ _ _ _ _ _ _) w2
    refine wpAnyX_take (i := 3) (v := .slice ax nx cx) rfl (by kernel_rfl) (by kernel_rfl) (by kernel_rfl) (by kernel_rfl) (fun _ _ _ h => h) (.inl ⟨rfl, fun w' hw' => rfl⟩) hS2 ?_
    change wpAnyX Try.prog .any _ _ _ _ 10 _ (atX _ _ _ _ _ (.agg #[.slice a1 m c1, .slice a2 n c2]) (.bool true) (.bool true) (.slice ax nx cx) _ _ _ _ _ _ _ _ _) w2
    refine wpAnyX_one (i := 4) (by kernel_rfl) rfl (fun K' hK' => ?_)
    refine gcall1 _ rfl 102 _ _  _ rfl  rfl (enters_of Try.func102 (by kernel_rfl) rfl) _ (HVW.out _ HB2.out) (fun c w' h => by cases h.1) (fun w' h => by cases h.1) ?_
    rintro v9 w9 ⟨e9, rfl⟩
    obtain rfl : v9 = .bool false := by injection e9
    clear e9
    refine hK'.out _ _ (fun _ => hS2) ?_
    clear hK' K'
    change wpAnyX Try.prog .any _ _ _ _ 9 _ (atX _ _ _ _ _ (.agg #[.slice a1 m c1, .slice a2 n c2]) (.bool true) (.bool true) (.slice ax nx cx) (.bool false) _ _ _ _ _ _ _ _) w2
    refine wpAnyX_take (i := 5) (v := .bool false) rfl (by kernel_rfl) (by kernel_rfl) (by kernel_rfl) (by kernel_rfl) (fun _ _ _ h => h) (.inl ⟨rfl, fun w' hw' => rfl⟩) hS2 ?_
    change wpAnyX Try.prog .any _ _ _ _ 8 _ (atX _ _ _ _ _ (.agg #[.slice a1 m c1, .slice a2 n c2]) (.bool true) (.bool true) (.slice ax nx cx) (.bool false) (.bool false) _ _ _ _ _ _ _) w2
    refine wpAnyX_take (i := 6) (v := .bool false) rfl (by kernel_rfl) (by kernel_rfl) (by kernel_rfl) (by kernel_rfl) (fun _ _ _ h => h) (.inl ⟨rfl, fun w' hw' => rfl⟩) hS2 ?_
    change wpAnyX Try.prog .any _ _ _ _ 7 _ (atX _ _ _ _ _ (.agg #[.slice a1 m c1, .slice a2 n c2]) (.bool true) (.bool true) (.slice ax nx cx) (.bool false) (.bool false) (.bool false) _ _ _ _ _ _) w2
    refine wpAnyX_take (i := 7) (v := undef) rfl (by kernel_rfl) (by kernel_rfl) (by kernel_rfl) (by kernel_rfl) (fun _ _ _ h => h) (.inr ⟨rfl, rfl⟩) hS2 ?_
    change wpAnyX Try.prog .any _ _ _ _ 6 _ (atX _ _ _ _ _ (.agg #[.slice a1 m c1, .slice a2 n c2]) (.bool true) (.bool true) (.slice ax nx cx) (.bool false) (.bool false) (.bool false) (undef) _ _ _ _ _) w2
    refine wpAnyX_take (i := 8) (v := undef) rfl (by kernel_rfl) (by kernel_rfl) (by kernel_rfl) (by kernel_rfl) (fun _ _ _ h => h) (.inr ⟨rfl, rfl⟩) hS2 ?_
    change wpAnyX Try.prog .any _ _ _ _ 5 _ (atX _ _ _ _ _ (.agg #[.slice a1 m c1, .slice a2 n c2]) (.bool true) (.bool true) (.slice ax nx cx) (.bool false) (.bool false) (.bool false) (undef) (undef) _ _ _ _) w2
    refine wpAnyX_take (i := 9) (v := undef) rfl (by kernel_rfl) (by kernel_rfl) (by kernel_rfl) (by kernel_rfl) (fun _ _ _ h => h) (.inr ⟨rfl, rfl⟩) hS2 ?_
    change wpAnyX Try.prog .any _ _ _ _ 4 _ (atX _ _ _ _ _ (.agg #[.slice a1 m c1, .slice a2 n c2]) (.bool true) (.bool true) (.slice ax nx cx) (.bool false) (.bool false) (.bool false) (undef) (undef) (undef) _ _ _) w2
    refine wpAnyX_take (i := 10) (v := undef) rfl (by kernel_rfl) (by kernel_rfl) (by kernel_rfl) (by kernel_rfl) (fun _ _ _ h => h) (.inr ⟨rfl, rfl⟩) hS2 ?_
    change wpAnyX Try.prog .any _ _ _ _ 3 _ (atX _ _ _ _ _ (.agg #[.slice a1 m c1, .slice a2 n c2]) (.bool true) (.bool true) (.slice ax nx cx) (.bool false) (.bool false) (.bool false) (undef) (undef) (undef) (undef) _ _) w2
    refine wpAnyX_take (i := 11) (v := undef) rfl (by kernel_rfl) (by kernel_rfl) (by kernel_rfl) (by kernel_rfl) (fun _ _ _ h => h) (.inr ⟨rfl, rfl⟩) hS2 ?_
    change wpAnyX Try.prog .any _ _ _ _ 2 _ (atX _ _ _ _ _ (.agg #[.slice a1 m c1, .slice a2 n c2]) (.bool true) (.bool true) (.slice ax nx cx) (.bool false) (.bool false) (.bool false) (undef) (undef) (undef) (undef) (undef) _) w2
    refine wpAnyX_take (i := 12) (v := .bool false) rfl (by kernel_rfl) (by kernel_rfl) (by kernel_rfl) (by kernel_rfl) (fun _ _ _ h => h) (.inl ⟨rfl, fun w' hw' => rfl⟩) hS2 ?_
    change wpAnyX Try.prog .any _ _ _ _ 1 _ (atX _ _ _ _ _ (.agg #[.slice a1 m c1, .slice a2 n c2]) (.bool true) (.bool true) (.slice ax nx cx) (.bool false) (.bool false) (.bool false) (undef) (undef) (undef) (undef) (undef) (.bool false)) w2
    refine wpAnyX_take (i := 13) (v := .bool false) rfl (by kernel_rfl) (by kernel_rfl) (by kernel_rfl) (by kernel_rfl) (fun _ _ _ h => h) (.inl ⟨rfl, fun w' hw' => rfl⟩) hS2 ?_
    change wpAnyX Try.prog .any _ _ _ _ 0 _ (atX _ _ _ _ (.bool false) (.agg #[.slice a1 m c1, .slice a2 n c2]) (.bool true) (.bool true) (.slice ax nx cx) (.bool false) (.bool false) (.bool false) (undef) (undef) (undef) (undef) (undef) (.bool false)) w2
    refine wpAnyX_done (by kernel_rfl) ?_ _
    unfold atX
    go_wp2
    go_ret
    exact ⟨rfl, HB2.out⟩
  have HF := Lib.hid (HF3.out g0 g1)
  have HRG := Lib.hid (fun (X : World) (b : Below w.heap.size w X) => HRF.out X b g0 g1)
  rw [g0] at HVA
  rw [g1] at HVW
  rw [HF.out]
  obtain ⟨es, hes⟩ : ∃ es, es = endS a.next x := ⟨_, rfl⟩
  rw [← hes] at HRG HIF ⊢
  obtain ⟨ft, hft⟩ : ∃ ft, ft = decide (es ∈ a.fin) := ⟨_, rfl⟩
  rw [← hft] at HIF ⊢
  clear HRF g0 g1 hes hft HF HF1 HF2 HF3
  go_enter Try.func52, Try.ntmps52
  go_wp2
  rw [HW.out]
  refine region_x (fun w' => w'.cell? ⟨w.heap.size, 0, none⟩ = some (.slice a1 m c1) ∧ w'.cell? ⟨w.heap.size, 1, none⟩ = some (.slice a2 n c2)) (fun _ => false) (by kernel_rfl) ?_
  change wpAnyX Try.prog .any _ _ _ _ 14 _ (atX _ _ _ _ _ _ _ _ _ _ _ _ _ _ _ _ _ _) W1.drew
  refine wpAnyX_take (i := 0) (v := .agg #[.slice a1 m c1, .slice a2 n c2]) rfl (by kernel_rfl) (by kernel_rfl) (by kernel_rfl) (by kernel_rfl) (fun _ _ _ h => h) (.inl ⟨rfl, fun w' hw' => exec_load rfl rfl (load_autO w' _ _ _ _ _ _ _ hw'.1 hw'.2)⟩) hS ?_
  change wpAnyX Try.prog .any _ _ _ _ 13 _ (atX _ _ _ _ _ (.agg #[.slice a1 m c1, .slice a2 n c2]) _ _ _ _ _ _ _ _ _ _ _ _) W1.drew
  refine wpAnyX_one (i := 1) (by kernel_rfl) rfl (fun K' hK' => ?_)
  refine gcall1 _ rfl 96 _ _  _ rfl  rfl (enters_of Try.func96 (by kernel_rfl) rfl) _ (HVA.out _ HB1.out) (fun c w' h => by cases h.1) (fun w' h => by cases h.1) ?_
  rintro v9 w2 ⟨e9, b9⟩
  obtain rfl : v9 = .bool true := by injection e9
  have hS2 : w2.cell? ⟨w.heap.size, 0, none⟩ = some (.slice a1 m c1) ∧ w2.cell? ⟨w.heap.size, 1, none⟩ = some (.slice a2 n c2) := ⟨(b9.cell (World.block_lt_of_cell? _ _ hS.1)).trans hS.1, (b9.cell (World.block_lt_of_cell? _ _ hS.2)).trans hS.2⟩
  have HB2 := Lib.hid (HB1.out.trans (b9.mono HB1.out.size))
  clear b9 e9
  refine hK'.out _ _ (fun _ => hS2) ?_
  clear hK' K'
  change wpAnyX Try.prog .any _ _ _ _ 12 _ (atX _ _ _ _ _ (.agg #[.slice a1 m c1, .slice a2 n c2]) (.bool true) _ _ _ _ _ _ _ _ _ _ _) w2
  refine wpAnyX_take (i := 2) (v := .bool true) rfl (by kernel_rfl) (by kernel_rfl) (by kernel_rfl) (by kernel_rfl) (fun _ _ _ h => h) (.inl ⟨rfl, fun w' hw' => rfl⟩) hS2 ?_
  change wpAnyX Try.prog .any _ _ _ _ 11 _ (atX _ _ _ _ _ (.agg #[.slice a1 m c1, .slice a2 n c2]) (.bool true) (.bool true) _ _ _ _ _ _ _ _ _ _) w2
  refine wpAnyX_take (i := 3) (v := .slice ax nx cx) rfl (by kernel_rfl) (by kernel_rfl) (by kernel_rfl) (by kernel_rfl) (fun _ _ _ h => h) (.inl ⟨rfl, fun w' hw' => rfl⟩) hS2 ?_
  change wpAnyX Try.prog .any _ _ _ _ 10 _ (atX _ _ _ _ _ (.agg #[.slice a1 m c1, .slice a2 n c2]) (.bool true) (.bool true) (.slice ax nx cx) _ _ _ _ _ _ _ _ _) w2
  refine wpAnyX_one (i := 4) (by kernel_rfl) rfl (fun K' hK' => ?_)
  refine gcall1 _ rfl 102 _ _  _ rfl  rfl (enters_of Try.func102 (by kernel_rfl) rfl) _ (HVW.out _ HB2.out) (fun c w' h => by cases h.1) (fun w' h => by cases h.1) ?_
  rintro v9 w9 ⟨e9, rfl⟩
  obtain rfl : v9 = .bool true := by injection e9
  clear e9
  refine hK'.out _ _ (fun _ => hS2) ?_
  clear hK' K'
  change wpAnyX Try.prog .any _ _ _ _ 9 _ (atX _ _ _ _ _ (.agg #[.slice a1 m c1, .slice a2 n c2]) (.bool true) (.bool true) (.slice ax nx cx) (.bool true) _ _ _ _ _ _ _ _) w2
  refine wpAnyX_take (i := 5) (v := .bool true) rfl (by kernel_rfl) (by kernel_rfl) (by kernel_rfl) (by kernel_rfl) (fun _ _ _ h => h) (.inl ⟨rfl, fun w' hw' => rfl⟩) hS2 ?_
  change wpAnyX Try.prog .any _ _ _ _ 8 _ (atX _ _ _ _ _ (.agg #[.slice a1 m c1, .slice a2 n c2]) (.bool true) (.bool true) (.slice ax nx cx) (.bool true) (.bool true) _ _ _ _ _ _ _) w2
  refine wpAnyX_take (i := 6) (v := .bool true) rfl (by kernel_rfl) (by kernel_rfl) (by kernel_rfl) (by kernel_rfl) (fun _ _ _ h => h) (.inl ⟨rfl, fun w' hw' => rfl⟩) hS2 ?_
  change wpAnyX Try.prog .any _ _ _ _ 7 _ (atX _ _ _ _ _ (.agg #[.slice a1 m c1, .slice a2 n c2]) (.bool true) (.bool true) (.slice ax nx cx) (.bool true) (.bool true) (.bool true) _ _ _ _ _ _) w2
  refine wpAnyX_take (i := 7) (v := .agg #[.slice a1 m c1, .slice a2 n c2]) rfl (by kernel_rfl) (by kernel_rfl) (by kernel_rfl) (by kernel_rfl) (fun _ _ _ h => h) (.inl ⟨rfl, fun w' hw' => exec_load rfl rfl (load_autO w' _ _ _ _ _ _ _ hw'.1 hw'.2)⟩) hS2 ?_
  change wpAnyX Try.prog .any _ _ _ _ 6 _ (atX _ _ _ _ _ (.agg #[.slice a1 m c1, .slice a2 n c2]) (.bool true) (.bool true) (.slice ax nx cx) (.bool true) (.bool true) (.bool true) (.agg #[.slice a1 m c1, .slice a2 n c2]) _ _ _ _ _) w2
  refine wpAnyX_take (i := 8) (v := .agg #[.slice a1 m c1, .slice a2 n c2]) rfl (by kernel_rfl) (by kernel_rfl) (by kernel_rfl) (by kernel_rfl) (fun _ _ _ h => h) (.inl ⟨rfl, fun w' hw' => exec_load rfl rfl (load_autO w' _ _ _ _ _ _ _ hw'.1 hw'.2)⟩) hS2 ?_
  change wpAnyX Try.prog .any _ _ _ _ 5 _ (atX _ _ _ _ _ (.agg #[.slice a1 m c1, .slice a2 n c2]) (.bool true) (.bool true) (.slice ax nx cx) (.bool true) (.bool true) (.bool true) (.agg #[.slice a1 m c1, .slice a2 n c2]) (.agg #[.slice a1 m c1, .slice a2 n c2]) _ _ _ _) w2
  refine wpAnyX_take (i := 9) (v := .slice ax nx cx) rfl (by kernel_rfl) (by kernel_rfl) (by kernel_rfl) (by kernel_rfl) (fun _ _ _ h => h) (.inl ⟨rfl, fun w' hw' => rfl⟩) hS2 ?_
  change wpAnyX Try.prog .any _ _ _ _ 4 _ (atX _ _ _ _ _ (.agg #[.slice a1 m c1, .slice a2 n c2]) (.bool true) (.bool true) (.slice ax nx cx) (.bool true) (.bool true) (.bool true) (.agg #[.slice a1 m c1, .slice a2 n c2]) (.agg #[.slice a1 m c1, .slice a2 n c2]) (.slice ax nx cx) _ _ _) w2
  refine wpAnyX_one (i := 10) (by kernel_rfl) rfl (fun K' hK' => ?_)
  refine gcall3 _ rfl 104 _ _ _ _ _ _  _ rfl rfl rfl  rfl (enters_of Try.func104 (by kernel_rfl) rfl) _ (HRG.out _ HB2.out) (fun c w' h => by cases h.1) (fun w' h => by cases h.1) ?_
  rintro v9 w4 ⟨e9, b9⟩
  obtain rfl : v9 = .int .i64 es := by injection e9
  have hS4 : w4.cell? ⟨w.heap.size, 0, none⟩ = some (.slice a1 m c1) ∧ w4.cell? ⟨w.heap.size, 1, none⟩ = some (.slice a2 n c2) := ⟨(b9.cell (World.block_lt_of_cell? _ _ hS2.1)).trans hS2.1, (b9.cell (World.block_lt_of_cell? _ _ hS2.2)).trans hS2.2⟩
  have HB4 := Lib.hid (HB2.out.trans (b9.mono HB2.out.size))
  clear b9 e9
  refine hK'.out _ _ (fun _ => hS4) ?_
  clear hK' K'
  change wpAnyX Try.prog .any _ _ _ _ 3 _ (atX _ _ _ _ _ (.agg #[.slice a1 m c1, .slice a2 n c2]) (.bool true) (.bool true) (.slice ax nx cx) (.bool true) (.bool true) (.bool true) (.agg #[.slice a1 m c1, .slice a2 n c2]) (.agg #[.slice a1 m c1, .slice a2 n c2]) (.slice ax nx cx) (.int .i64 es) _ _) w4
  refine wpAnyX_one (i := 11) (by kernel_rfl) rfl (fun K' hK' => ?_)
  refine gcall2 _ rfl 103 _ _ _ _  _ rfl rfl  rfl (enters_of Try.func103 (by kernel_rfl) rfl) _ (HIF.out _ HB4.out) (fun c w' h => by cases h.1) (fun w' h => by cases h.1) ?_
  rintro v9 w5 ⟨e9, b9⟩
  obtain rfl : v9 = .bool ft := by injection e9
  have hS5 : w5.cell? ⟨w.heap.size, 0, none⟩ = some (.slice a1 m c1) ∧ w5.cell? ⟨w.heap.size, 1, none⟩ = some (.slice a2 n c2) := ⟨(b9.cell (World.block_lt_of_cell? _ _ hS4.1)).trans hS4.1, (b9.cell (World.block_lt_of_cell? _ _ hS4.2)).trans hS4.2⟩
  have HB5 := Lib.hid (HB4.out.trans (b9.mono HB4.out.size))
  clear b9 e9
  refine hK'.out _ _ (fun _ => hS5) ?_
  clear hK' K'
  change wpAnyX Try.prog .any _ _ _ _ 2 _ (atX _ _ _ _ _ (.agg #[.slice a1 m c1, .slice a2 n c2]) (.bool true) (.bool true) (.slice ax nx cx) (.bool true) (.bool true) (.bool true) (.agg #[.slice a1 m c1, .slice a2 n c2]) (.agg #[.slice a1 m c1, .slice a2 n c2]) (.slice ax nx cx) (.int .i64 es) (.bool ft) _) w5
  refine wpAnyX_take (i := 12) (v := .bool ft) rfl (by kernel_rfl) (by kernel_rfl) (by kernel_rfl) (by kernel_rfl) (fun _ _ _ h => h) (.inl ⟨rfl, fun w' hw' => rfl⟩) hS5 ?_
  change wpAnyX Try.prog .any _ _ _ _ 1 _ (atX _ _ _ _ _ (.agg #[.slice a1 m c1, .slice a2 n c2]) (.bool true) (.bool true) (.slice ax nx cx) (.bool true) (.bool true) (.bool true) (.agg #[.slice a1 m c1, .slice a2 n c2]) (.agg #[.slice a1 m c1, .slice a2 n c2]) (.slice ax nx cx) (.int .i64 es) (.bool ft) (.bool ft)) w5
  refine wpAnyX_take (i := 13) (v := .bool ft) rfl (by kernel_rfl) (by kernel_rfl) (by kernel_rfl) (by kernel_rfl) (fun _ _ _ h => h) (.inl ⟨rfl, fun w' hw' => rfl⟩) hS5 ?_
  change wpAnyX Try.prog .any _ _ _ _ 0 _ (atX _ _ _ _ (.bool ft) (.agg #[.slice a1 m c1, .slice a2 n c2]) (.bool true) (.bool true) (.slice ax nx cx) (.bool true) (.bool true) (.bool true) (.agg #[.slice a1 m c1, .slice a2 n c2]) (.agg #[.slice a1 m c1, .slice a2 n c2]) (.slice ax nx cx) (.int .i64 es) (.bool ft) (.bool ft)) w5
  refine wpAnyX_done (by kernel_rfl) ?_ _
  unfold atX
  go_wp2
  go_ret
  exact ⟨rfl, HB5.out⟩

set_option maxRecDepth 100000 in
set_option maxHeartbeats 8000000 in
theorem iAccepts_any (v xv : Value) (a : Aut) (x : List Int) (w : World) (h : RdAut w v a) (hx : RdInts w xv x) :
    Calls Try.prog 53 #[v, xv] w (BoolPost (atcB a x) w) := by
  have HVA := Lib.hid (fun (X : World) (b : Below w.heap.size w X) => iValidAutomaton_any v a X (h.below b))
  have HAW := Lib.hid (fun (X : World) (b : Below w.heap.size w X) => allWithin_any xv x 0 5 X (hx.below b))
  obtain ⟨a1, a2, c1, c2, rfl, h1, h2⟩ := rdAut_slices h
  have HRU := Lib.hid (rule_any a a1 a2 c1 c2)
  have HSA := Lib.hid (fun (X : World) (b : Below w.heap.size w X) (ha : autB a = true) (hw : wordB x = true) => isat8 ⟨0, [], a.fin, 0, a.next⟩ (.agg #[.int .i64 0, .slice none 0 0, .slice a2 a.fin.length c2, .int .i64 0, .slice a1 a.next.length c1]) xv x X ⟨_, _, _, rfl, ⟨none, 0, rfl, Nat.le_refl _, by unfold maxLen; omega, .inl rfl⟩, h2.below b, h1.below b⟩ (hx.below b) (aut_parts ha).1 (by unfold wordB at hw; rw [Bool.and_eq_true, decide_eq_true_iff] at hw; exact hw.1) (aut_parts ha).2.1 (by unfold wordB at hw; rw [Bool.and_eq_true] at hw; exact small_of hw.2))
  unfold BoolPost at HVA HSA
  unfold BoolPost
  obtain ⟨W1, hW1⟩ : ∃ W1, w.alloc (.cells #[.slice a1 a.next.length c1, .slice a2 a.fin.length c2] 67) = W1 := ⟨_, rfl⟩
  have B1 : Below w.heap.size w W1 := by rw [← hW1]; exact (Below.refl _ _).alloc (Nat.le_refl _) _
  have bP : Blk2 W1 w.heap.size 67 (.slice a1 a.next.length c1) (.slice a2 a.fin.length c2) := by rw [← hW1]; exact Blk2.new w _ _ _
  have HW := Lib.hid hW1
  have HB1 := Lib.hid B1
  have HP := Lib.hid bP
  obtain ⟨p0, p1⟩ := bP.cell
  have HF1 := Lib.hid (atc_1 (a := a) (xs := x))
  have HF2 := Lib.hid (atc_2 (a := a) (xs := x))
  have HF3 := Lib.hid (fun (h0 : autB a = true) (h1 : wordB x = true) => (atc_3 (a := a) (xs := x) h0 h1).trans (end_acc h0 x))
  have HWB : Hid (wordB x = (decide (x.length ≤ 8) && allB x 0 5)) := Lib.hid rfl
  obtain ⟨ax, cx, ev, hxl, hxm, _⟩ := id hx
  unfold maxLen at hxm
  rw [ev] at HAW HSA ⊢
  obtain ⟨m, hm⟩ : ∃ m, m = a.next.length := ⟨_, rfl⟩
  obtain ⟨n, hn⟩ : ∃ n, n = a.fin.length := ⟨_, rfl⟩
  obtain ⟨nx, hnx⟩ : ∃ nx, nx = x.length := ⟨_, rfl⟩
  rw [← hm, ← hn] at HW HVA HRU HP ⊢
  rw [← hm] at p0
  rw [← hn] at p1
  rw [← hnx] at HWB hxl HAW ⊢
  simp only at HSA
  rw [← hm, ← hn, ← hnx] at HSA
  have HNX := Lib.hid hnx
  clear h hx h1 h2 hW1 B1 bP ev hm hn hnx
  cases g0 : autB a
  · have HF := Lib.hid (HF1.out g0)
    rw [g0] at HVA
    rw [HF.out]
    clear HSA g0
    go_enter Try.func53, Try.ntmps53
    go_wp2_with (first | rw [HW.out] | (go_at_call 50; refine (HVA.out _ HB1.out).mono ?_; rintro e w2 ⟨rfl, b2⟩; have HB2 := Lib.hid (HB1.out.trans (b2.mono HB1.out.size)); clear b2))
    go_ret
    exact ⟨rfl, HB2.out⟩
  by_cases g1 : nx ≤ 8
  rotate_left
  · have HF := Lib.hid (HF2.out (by rw [HWB.out, decide_eq_false g1]; rfl))
    rw [g0] at HVA
    rw [HF.out]
    clear HSA g0
    go_enter Try.func53, Try.ntmps53
    go_wp2_with (first | rw [HW.out] | (go_at_call 50; refine (HVA.out _ HB1.out).mono ?_; rintro e w2 ⟨rfl, b2⟩; have HB2 := Lib.hid (HB1.out.trans (b2.mono HB1.out.size)); clear b2))
    go_ret
    exact ⟨rfl, HB2.out⟩
  cases g2 : allB x 0 5
  · have HF := Lib.hid (HF2.out (by rw [HWB.out, g2, Bool.and_false]))
    rw [g0] at HVA
    rw [g2] at HAW
    rw [HF.out]
    clear HSA g0 g2
    go_enter Try.func53, Try.ntmps53
    go_wp2_with (first | rw [HW.out] | (go_at_call 50; refine (HVA.out _ HB1.out).mono ?_; rintro e w2 ⟨rfl, b2⟩; have HB2 := Lib.hid (HB1.out.trans (b2.mono HB1.out.size)); clear b2) | (go_at_call 105; refine (HAW.out _ HB2.out).mono ?_; rintro e w' ⟨rfl, rfl⟩))
    go_ret
    exact ⟨rfl, HB2.out⟩
  have g3 : wordB x = true := by rw [HWB.out, g2, decide_eq_true g1]; rfl
  have HF : Hid (atcB a x = (decide (∀ j : Nat, j ≤ nx → 0 ≤ runS a.next x j) && decide (runS a.next x nx ∈ a.fin))) := Lib.hid (by rw [HNX.out]; exact HF3.out g0 g3)
  have HSB := Lib.hid (fun (X : World) (b : Below w.heap.size w X) => HSA.out X b g0 g3)
  rw [g0] at HVA
  rw [g2] at HAW
  rw [HF.out]
  obtain ⟨ft, hft⟩ : ∃ ft, ft = (decide (∀ j : Nat, j ≤ nx → 0 ≤ runS a.next x j) && decide (runS a.next x nx ∈ a.fin)) := ⟨_, rfl⟩
  rw [← hft]
  have HSC : Hid (∀ (X : World), Below w.heap.size w X → Calls Try.prog 106 #[.agg #[.int .i64 0, .slice none 0 0, .slice a2 n c2, .int .i64 0, .slice a1 m c1], .slice ax nx cx] X fun e w' => e = .returned (.bool ft) ∧ Below X.heap.size X w') := Lib.hid (by rw [hft]; exact HSB.out)
  clear HSA HSB g0 g2 g3 hft HF HF1 HF2 HF3
  go_enter Try.func53, Try.ntmps53
  go_wp2_with (first | rw [HW.out] | (go_at_call 50; refine (HVA.out _ HB1.out).mono ?_; rintro e w2 ⟨rfl, b2⟩; have HB2 := Lib.hid (HB1.out.trans (b2.mono HB1.out.size)); obtain ⟨p2, p3⟩ := (HP.out.below b2).cell; clear b2) | (go_at_call 105; refine (HAW.out _ HB2.out).mono ?_; rintro e w' ⟨rfl, rfl⟩) | (go_at_call 98; refine (HRU.out _).mono ?_; rintro e w3 ⟨rfl, b3⟩; have HB3 := Lib.hid (HB2.out.trans (b3.mono HB2.out.size)); clear b3) | (go_at_call 106; refine (HSC.out _ HB3.out).mono ?_; rintro e w4 ⟨rfl, b4⟩; have HB4 := Lib.hid (HB3.out.trans (b4.mono HB3.out.size)); clear b4))
  go_ret
  exact ⟨rfl, HB4.out⟩
end Go.Proofs.Ytelglccegkhfcaa
