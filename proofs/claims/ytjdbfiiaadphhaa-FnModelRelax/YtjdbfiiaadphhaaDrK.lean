/- Draws of domains: the reader's block turns, new blocks come; nothing else. The pieces for the draw of a constraint: single operations; the state of the constraint that is made. The loops in the draw of a constraint: what stands while args or rows grow. -/
import Derived.Test.YtjdbfiiaadphhaaDrL
import Derived.Test.YtjdbfiiaadphhaaRng
import Derived.Test.YtjdbfiiaadphhaaDrA
import Derived.Test.YtjdbfiiaadphhaaOrdX

/-! Draws of domains: the reader's block turns, new blocks come; nothing else. -/
namespace Go.Proofs.Ytjdbfiiaadphhaa
open Go.ChangeShapes Go.WideShapes Go.ChangeAt Go.RowKit
set_option linter.unusedVariables false
set_option linter.unusedSimpArgs false

/-- What a draw of a number leaves. -/
def NumDn (n0 B : Nat) (p s : Int) (w : World) (e : Ending) (w' : World) : Prop :=
  ∃ (x p' : Int), e = .returned (.int .i64 x) ∧ p ≤ p' ∧ p' ≤ p + s ∧ Rd n0 B p' w' ∧ Dn B w w'

set_option maxRecDepth 100000 in
set_option maxHeartbeats 2000000 in
theorem randomDomain_dn (n0 B : Nat) (p : Int) (w : World) (hR : Rd n0 B p w) (hp : 0 ≤ p) (hp2 : p ≤ 100000000) :
    Calls Try.prog 127 #[.pointer (some ⟨B, 0, none⟩)] w (NumDn n0 B p 3 w) := by
  go_enter Try.func127, Try.ntmps127
  go_wp2_with fail
  refine (pick_dn n0 B p 4 w hR hp (by omega) (by omega)).mono ?_
  rintro e w1 ⟨x, rfl, hx0, hx1, r1, b1⟩
  by_cases e0 : x = 0
  · subst e0
    go_wp2
    go_ret
    exact ⟨_, _, rfl, by omega, by omega, r1, b1⟩
  have k0 : (x == 0) = false := by simp [e0]
  by_cases e1 : x = 1
  · subst e1
    clear e0
    go_wp2_with fail
    refine (pick_dn n0 B (p + 1) 3 w1 r1 (by omega) (by omega) (by omega)).mono ?_
    rintro e w2 ⟨y, rfl, hy0, hy1, r2, b2⟩
    go_wp2_with fail
    refine (pick_dn n0 B (p + 1 + 1) 4 w2 r2 (by omega) (by omega) (by omega)).mono ?_
    rintro e w3 ⟨z, rfl, hz0, hz1, r3, b3⟩
    go_wp2_with fail
    refine (sRange_any y (2 + z) w3).mono ?_
    rintro e w' ⟨rfl, rfl⟩
    go_wp2
    go_ret
    exact ⟨_, _, rfl, by omega, by omega, r3, (b1.trans b2).trans b3⟩
  have k1 : (x == 1) = false := by simp [e1]
  by_cases e2 : x = 2
  · subst e2
    clear e0 e1
    go_wp2_with fail
    refine (pick_dn n0 B (p + 1) 6 w1 r1 (by omega) (by omega) (by omega)).mono ?_
    rintro e w2 ⟨y, rfl, hy0, hy1, r2, b2⟩
    have hy5 : y ≤ 63 := by omega
    go_wp2
    go_ret
    exact ⟨_, _, rfl, by omega, by omega, r2, b1.trans b2⟩
  have k2 : (x == 2) = false := by simp [e2]
  clear e0 e1 e2
  go_wp2_with fail
  refine (pick_dn n0 B (p + 1) 63 w1 r1 (by omega) (by omega) (by omega)).mono ?_
  rintro e w2 ⟨y, rfl, hy0, hy1, r2, b2⟩
  go_wp2
  go_ret
  exact ⟨_, _, rfl, by omega, by omega, r2, b1.trans b2⟩

end Go.Proofs.Ytjdbfiiaadphhaa

/-! The pieces for the draw of a constraint: single operations; the state of the constraint that is made. -/
namespace Go.Proofs.Ytjdbfiiaadphhaa
open Go.ChangeShapes Go.WideShapes Go.ChangeAt Go.RowKit Go.Shelf
set_option linter.unusedVariables false
set_option linter.unusedSimpArgs false

section
set_option maxRecDepth 100000
theorem k_field2 {w : World} {ev : Operand → Value} {o : Oper} {x : Operand} {b : Nat} (ho : o.op = .fieldAddr 53 x 2) (hx : ev x = .pointer (some ⟨b, 0, none⟩)) : (execOp ev o).run Try.prog w = .ok (.value (.pointer (some ⟨b, 2, none⟩))) w := by
  unfold execOp
  simp only [ho, hx]
  go_simp
theorem k_field4 {w : World} {ev : Operand → Value} {o : Oper} {x : Operand} {b : Nat} (ho : o.op = .fieldAddr 53 x 4) (hx : ev x = .pointer (some ⟨b, 0, none⟩)) : (execOp ev o).run Try.prog w = .ok (.value (.pointer (some ⟨b, 4, none⟩))) w := by
  unfold execOp
  simp only [ho, hx]
  go_simp
theorem k_loadI (w : World) (g o : Nat) (a : Option Addr) (n c : Nat) (h : w.cell? ⟨g, o, none⟩ = some (.slice a n c)) : (loadVar 32 ⟨g, o, none⟩).run Try.prog w = .ok (.slice a n c) w := by
  go_simp
theorem k_loadR (w : World) (g o : Nat) (a : Option Addr) (n c : Nat) (h : w.cell? ⟨g, o, none⟩ = some (.slice a n c)) : (loadVar 44 ⟨g, o, none⟩).run Try.prog w = .ok (.slice a n c) w := by
  go_simp
theorem k_storeI (w : World) (g o : Nat) (a a' : Option Addr) (n c n' c' : Nat) (h : w.cell? ⟨g, o, none⟩ = some (.slice a n c)) (hf : w.frozen? ⟨g, o, none⟩ = false) : (Instr.storeAt 32 (.pointer (some ⟨g, o, none⟩)) (.slice a' n' c')).run Try.prog w = .ok () (w.setCell ⟨g, o, none⟩ (.slice a' n' c')) := by
  go_simp
theorem k_storeR (w : World) (g o : Nat) (a a' : Option Addr) (n c n' c' : Nat) (h : w.cell? ⟨g, o, none⟩ = some (.slice a n c)) (hf : w.frozen? ⟨g, o, none⟩ = false) : (Instr.storeAt 44 (.pointer (some ⟨g, o, none⟩)) (.slice a' n' c')).run Try.prog w = .ok () (w.setCell ⟨g, o, none⟩ (.slice a' n' c')) := by
  go_simp
theorem k_build1 (w : World) (x : Int) : (Instr.buildSlice 32 1 #[(0, .int .i64 x)]).run Try.prog w = .ok (.slice (some ⟨w.heap.size, 0, none⟩) 1 1) (w.alloc (.cells #[.int .i64 x] 3)) := by
  go_simp
theorem k_build1R (w : World) (a : Option Addr) (n c : Nat) : (Instr.buildSlice 44 1 #[(0, .slice a n c)]).run Try.prog w = .ok (.slice (some ⟨w.heap.size, 0, none⟩) 1 1) (w.alloc (.cells #[.slice a n c] 32)) := by
  go_simp
theorem k_build6 (w : World) : (Instr.buildSlice 32 6 #[(0, .int .i64 1), (1, .int .i64 1), (2, .int .i64 (-1)), (3, .int .i64 2), (4, .int .i64 (-3)), (5, .int .i64 0)]).run Try.prog w = .ok (.slice (some ⟨w.heap.size, 0, none⟩) 6 6) (w.alloc (.cells #[.int .i64 1, .int .i64 1, .int .i64 (-1), .int .i64 2, .int .i64 (-3), .int .i64 0] 3)) := by
  go_simp
theorem k_exec1 {P : Program} {w w' : World} {ev : Operand → Value} {o : Oper} {ty : TypeId} {x : Operand} {u r : Value} (ho : o.op = .buildSlice ty 1 #[(0, x)]) (hx : ev x = u) (hl : (Instr.buildSlice ty 1 #[(0, u)]).run P w = .ok r w') : (execOp ev o).run P w = .ok (.value r) w' := by
  unfold execOp
  simp only [ho, hx, List.map_toArray, List.map_cons, List.map_nil, Sem.run_bind, Sem.run_pure, Result.andThen_ok, hl]
theorem k_exec6 {P : Program} {w w' : World} {ev : Operand → Value} {o : Oper} {ty : TypeId} {x0 x1 x2 x3 x4 x5 : Operand} {u0 u1 u2 u3 u4 u5 r : Value} (ho : o.op = .buildSlice ty 6 #[(0, x0), (1, x1), (2, x2), (3, x3), (4, x4), (5, x5)]) (h0 : ev x0 = u0) (h1 : ev x1 = u1) (h2 : ev x2 = u2) (h3 : ev x3 = u3) (h4 : ev x4 = u4) (h5 : ev x5 = u5) (hl : (Instr.buildSlice ty 6 #[(0, u0), (1, u1), (2, u2), (3, u3), (4, u4), (5, u5)]).run P w = .ok r w') : (execOp ev o).run P w = .ok (.value r) w' := by
  unfold execOp
  simp only [ho, h0, h1, h2, h3, h4, h5, List.map_toArray, List.map_cons, List.map_nil, Sem.run_bind, Sem.run_pure, Result.andThen_ok, hl]
end
theorem k_call2 {P : Program} (w : World) {ops : Array Oper} {o : Oper} {a : Act} {K : Act → World → Prop} {Q : Exit → Act → World → Prop} {E : Prop} (hgd : o.guard = none) (F : FuncId) (x0 x1 : Operand) (v0 v1 : Value) (ts : Array TypeId)
    (ho : o.op = .call { callee := .value (.func F), args := #[x0, x1], argTypes := ts }) (h0 : a.eval x0 = v0) (h1 : a.eval x1 = v1) (eg : ∀ gs w, (callFunc F gs).run P w = .ok (.enter F gs) w)
    (R : Ending → World → Prop) (h : Calls P F #[v0, v1] w R) (hp : ∀ c w', ¬ R (.panicked c) w') (hou : ∀ w', ¬ R .outgrown w') (hR : ∀ v w', R (.returned v) w' → K (a.put o.dst v) w') :
    if Region.wanted o (yielded ops a.tmps) = true then Oper.wp P o a w K Q else E := by
  have hw : Region.wanted o (yielded ops a.tmps) = true := by simp [Region.wanted, hgd]
  rw [if_pos hw]
  have hrun : (execOp a.eval o).run P w = .ok (.enter F #[v0, v1]) w := by
    have hf : a.eval (.func F) = .func (.func F) #[] #[] := rfl
    simp [execOp, ho, resolve, invoke, eg, Deferred.ofValue, h0, h1, hf]
  unfold Oper.wp
  rw [hrun]
  refine Calls.mono h ?_
  intro e w' hr
  cases e with
  | returned v => exact hR v w' hr
  | panicked c => exact (hp c w' hr).elim
  | outgrown => exact (hou w' hr).elim
theorem k_appendI {w : World} {ops : Array Oper} {o : Oper} {a : Act} {K : Act → World → Prop} {Q : Exit → Act → World → Prop} {E : Prop} (hgd : o.guard = none) (s x : Operand)
    (ho : o.op = .call { callee := .builtin .append, args := #[s, x], argTypes := #[32, 32] }) (B : Nat) (v : Value) (xs : List Value) (n g : Nat) (z : Int) (hs : a.eval s = v) (hx : a.eval x = .slice (some ⟨g, 0, none⟩) 1 1) (hv : w.ownsRow B 3 1 v n xs) (hg : w.cell? ⟨g, 0, none⟩ = some (.int .i64 z)) (hB : B ≤ w.heap.size) (hn : n ≤ 1048576)
    (h : ∀ v' w', w'.ownsRow B 3 1 v' (n + 1) (xs ++ [.int .i64 z]) → w.grownBy w' v.ownBlock → K (a.put o.dst v') w') : if Region.wanted o (yielded ops a.tmps) = true then Oper.wp Try.prog o a w K Q else E := by
  have hw : Region.wanted o (yielded ops a.tmps) = true := by simp [Region.wanted, hgd]
  rw [if_pos hw]
  obtain ⟨i0, hi, hz0, hz1, hz2⟩ := info_parts Try.info3
  obtain ⟨v', w', hr, h3, h4, _⟩ := run_append_own (P := Try.prog) w B 32 o.type 3 i0 (.int .i64 0) 1 8 Try.underlying32 hi hz0 hz1 hz2 rfl (by decide) v n xs hv ⟨g, 0, none⟩ 1 1 [.int .i64 z] rfl (fun j u hu => by
    cases j with
    | zero => simp at hu; subst hu; simpa [Addr.add] using hg
    | succ j => simp at hu) (by simp [Value.oneCell']) (by unfold maxLen; omega) (by omega) hB
  unfold Oper.wp execOp
  simp only [ho, resolve, invoke, builtin, Sem.run_bind, Sem.run_pure, Result.andThen_ok, List.map_toArray, List.map_cons, List.map_nil, hs, hx, hr]
  exact h v' w' h3 h4
theorem k_appendR {w : World} {ops : Array Oper} {o : Oper} {a : Act} {K : Act → World → Prop} {Q : Exit → Act → World → Prop} {E : Prop} (hgd : o.guard = none) (s x : Operand)
    (ho : o.op = .call { callee := .builtin .append, args := #[s, x], argTypes := #[44, 44] }) (B : Nat) (v : Value) (xs : List Value) (n g : Nat) (za : Option Addr) (zn zc : Nat) (hs : a.eval s = v) (hx : a.eval x = .slice (some ⟨g, 0, none⟩) 1 1) (hv : w.ownsRow B 32 1 v n xs) (hg : w.cell? ⟨g, 0, none⟩ = some (.slice za zn zc)) (hB : B ≤ w.heap.size) (hn : n ≤ 1048576)
    (h : ∀ v' w', w'.ownsRow B 32 1 v' (n + 1) (xs ++ [.slice za zn zc]) → w.grownBy w' v.ownBlock → K (a.put o.dst v') w') : if Region.wanted o (yielded ops a.tmps) = true then Oper.wp Try.prog o a w K Q else E := by
  have hw : Region.wanted o (yielded ops a.tmps) = true := by simp [Region.wanted, hgd]
  rw [if_pos hw]
  obtain ⟨i0, hi, hz0, hz1, hz2⟩ := info_parts Try.info32
  obtain ⟨v', w', hr, h3, h4, _⟩ := run_append_own (P := Try.prog) w B 44 o.type 32 i0 (.slice none 0 0) 1 24 Try.underlying44 hi hz0 hz1 hz2 rfl (by decide) v n xs hv ⟨g, 0, none⟩ 1 1 [.slice za zn zc] rfl (fun j u hu => by
    cases j with
    | zero => simp at hu; subst hu; simpa [Addr.add] using hg
    | succ j => simp at hu) (by simp [Value.oneCell']) (by unfold maxLen; omega) (by omega) hB
  unfold Oper.wp execOp
  simp only [ho, resolve, invoke, builtin, Sem.run_bind, Sem.run_pure, Result.andThen_ok, List.map_toArray, List.map_cons, List.map_nil, hs, hx, hr]
  exact h v' w' h3 h4

/-- Blocks that are shut, and the result's and the constraint's. -/
def qs (Q0 : Nat → Bool) (R C : Nat) (b : Nat) : Bool := Q0 b || b == R || b == C
theorem qs_B {Q0 : Nat → Bool} {B : Nat} (R C : Nat) (h : Q0 B = true) : qs Q0 R C B = true := by simp [qs, h]
theorem qs_R (Q0 : Nat → Bool) (R C : Nat) : qs Q0 R C R = true := by simp [qs]
theorem qs_C (Q0 : Nat → Bool) (R C : Nat) : qs Q0 R C C = true := by simp [qs]
theorem qs_no {Q0 : Nat → Bool} {R C b : Nat} (h1 : Q0 b = false) (h2 : b ≠ R) (h3 : b ≠ C) : qs Q0 R C b = false := by simp [qs, h1, h2, h3]
theorem qs_Q {Q0 : Nat → Bool} {R C b : Nat} (h : qs Q0 R C b = false) : Q0 b = false := by simp [qs] at h; exact h.1.1
/-- Where they lie. -/
structure KP (Q0 : Nat → Bool) (B R C n0 : Nat) (w : World) : Prop where
  hB : B < w.heap.size
  hR : w.heap.size ≤ R
  hC : w.heap.size ≤ C
  hne : R ≠ C
  h0 : n0 ≤ B
  hQB : Q0 B = true
  hQ0 : ∀ b, w.heap.size ≤ b → Q0 b = false
theorem Dn.lowB {B m : Nat} {w V V' : World} (h : Dn B w V) (hb : Below m V V') (hm : w.heap.size ≤ m) : Dn B w V' :=
  ⟨hb.os.trans h.os, hb.tape.trans h.tape, hb.output.trans h.output, Nat.le_trans h.size hb.size, fun k hk hB => (hb.block k (by omega)).trans (h.block k hk hB)⟩
/-- The constraint that is made, in the block C; nothing else but the reader and the result's block R has turned. -/
structure KS (Q0 : Nat → Bool) (n0 B R C : Nat) (w W : World) (q : Int) (c : Con) (u1 u2 u4 : Value) : Prop where
  bc : Blk5 W C 53 (.int .i64 c.kind) u1 u2 (.int .i64 c.bound) u4
  br : Blk5 W R 53 (.int .i64 0) (.slice none 0 0) (.slice none 0 0) (.int .i64 0) (.slice none 0 0)
  r1 : RdInts (av (qs Q0 R C) W) u1 c.vars
  r2 : RdInts (av (qs Q0 R C) W) u2 c.args
  r4 : RdRows (av (qs Q0 R C) W) u4 c.rows
  rd : Rd n0 B q W
  dn : Dn B w W
theorem KS.dnStep {Q0 : Nat → Bool} {n0 B R C : Nat} {w W W' : World} {q q' : Int} {c : Con} {u1 u2 u4 : Value} (k : KP Q0 B R C n0 w) (h : KS Q0 n0 B R C w W q c u1 u2 u4) (hd : Dn B W W') (hr : Rd n0 B q' W') : KS Q0 n0 B R C w W' q' c u1 u2 u4 := by
  have hi := (Fr.of_dn (Q := qs Q0 R C) (qs_B R C k.hQB) hd).inc
  have hCB : C ≠ B := by have := k.hC; have := k.hB; omega
  have hRB : R ≠ B := by have := k.hR; have := k.hB; omega
  exact ⟨(hd.block C h.bc.lt hCB).trans h.bc, (hd.block R h.br.lt hRB).trans h.br, h.r1.inc hi, h.r2.inc hi, h.r4.inc hi, hr, h.dn.trans hd⟩
theorem KS.below {Q0 : Nat → Bool} {n0 B R C : Nat} {w W W' : World} {q : Int} {c : Con} {u1 u2 u4 : Value} (k : KP Q0 B R C n0 w) (h : KS Q0 n0 B R C w W q c u1 u2 u4) (hb : Below W.heap.size W W') : KS Q0 n0 B R C w W' q c u1 u2 u4 :=
  h.dnStep k (Dn.of_below hb) (h.rd.below (hb.mono (by have := h.rd.lt; omega)))
theorem rd_setC {n0 B C : Nat} {q : Int} {w W : World} (hB : B < C) (h : Rd n0 B q W) (j : Nat) (v : Value) : Rd n0 B q (W.setCell ⟨C, j, none⟩ v) := h.below ((Below.refl (B + 1) W).setCell (by show _ ≤ C; omega) _)
theorem dn_setC {B C : Nat} {w W : World} (hC : w.heap.size ≤ C) (h : Dn B w W) (j : Nat) (v : Value) : Dn B w (W.setCell ⟨C, j, none⟩ v) :=
  ⟨h.os, h.tape, h.output, by have := h.size; simpa using this, fun b hb hbB => (Below.heap_setCell _ _ _ _ (by show b ≠ C; omega)).trans (h.block b hb hbB)⟩
theorem fr_setC {Q0 : Nat → Bool} {R C : Nat} {W : World} (j : Nat) (v : Value) : Fr (qs Q0 R C) W (W.setCell ⟨C, j, none⟩ v) := (Fr.refl _ W).setCell (p := ⟨C, j, none⟩) (qs_C Q0 R C) v
theorem fr_setR {Q0 : Nat → Bool} {R C : Nat} {W : World} (j : Nat) (v : Value) : Fr (qs Q0 R C) W (W.setCell ⟨R, j, none⟩ v) := (Fr.refl _ W).setCell (p := ⟨R, j, none⟩) (qs_R Q0 R C) v
section
variable {Q0 : Nat → Bool} {n0 B R C : Nat} {w W : World} {q : Int} {c : Con} {u1 u2 u4 : Value}
theorem KS.bound (k : KP Q0 B R C n0 w) (h : KS Q0 n0 B R C w W q c u1 u2 u4) (z : Int) : KS Q0 n0 B R C w (W.setCell ⟨C, 3, none⟩ (.int .i64 z)) q { c with bound := z } u1 u2 u4 :=
  ⟨h.bc.set 3 _, h.br.other (by show C ≠ R; exact fun e => k.hne e.symm) _, h.r1.inc (fr_setC _ _).inc, h.r2.inc (fr_setC _ _).inc, h.r4.inc (fr_setC _ _).inc, rd_setC (w := w) (by have := k.hC; have := k.hB; omega) h.rd _ _, dn_setC k.hC h.dn _ _⟩
theorem KS.setKind (k : KP Q0 B R C n0 w) (h : KS Q0 n0 B R C w W q c u1 u2 u4) (z : Int) : KS Q0 n0 B R C w (W.setCell ⟨C, 0, none⟩ (.int .i64 z)) q { c with kind := z } u1 u2 u4 :=
  ⟨h.bc.set 0 _, h.br.other (by show C ≠ R; exact fun e => k.hne e.symm) _, h.r1.inc (fr_setC _ _).inc, h.r2.inc (fr_setC _ _).inc, h.r4.inc (fr_setC _ _).inc, rd_setC (w := w) (by have := k.hC; have := k.hB; omega) h.rd _ _, dn_setC k.hC h.dn _ _⟩
theorem KS.setVars (k : KP Q0 B R C n0 w) (h : KS Q0 n0 B R C w W q c u1 u2 u4) {v : Value} {xs : List Int} (hv : RdInts (av (qs Q0 R C) W) v xs) : KS Q0 n0 B R C w (W.setCell ⟨C, 1, none⟩ v) q { c with vars := xs } v u2 u4 :=
  ⟨h.bc.set 1 _, h.br.other (by show C ≠ R; exact fun e => k.hne e.symm) _, hv.inc (fr_setC _ _).inc, h.r2.inc (fr_setC _ _).inc, h.r4.inc (fr_setC _ _).inc, rd_setC (w := w) (by have := k.hC; have := k.hB; omega) h.rd _ _, dn_setC k.hC h.dn _ _⟩
theorem KS.setArgs (k : KP Q0 B R C n0 w) (h : KS Q0 n0 B R C w W q c u1 u2 u4) {v : Value} {xs : List Int} (hv : RdInts (av (qs Q0 R C) W) v xs) : KS Q0 n0 B R C w (W.setCell ⟨C, 2, none⟩ v) q { c with args := xs } u1 v u4 :=
  ⟨h.bc.set 2 _, h.br.other (by show C ≠ R; exact fun e => k.hne e.symm) _, h.r1.inc (fr_setC _ _).inc, hv.inc (fr_setC _ _).inc, h.r4.inc (fr_setC _ _).inc, rd_setC (w := w) (by have := k.hC; have := k.hB; omega) h.rd _ _, dn_setC k.hC h.dn _ _⟩
theorem KS.setRows (k : KP Q0 B R C n0 w) (h : KS Q0 n0 B R C w W q c u1 u2 u4) {v : Value} {xs : List (List Int)} (hv : RdRows (av (qs Q0 R C) W) v xs) : KS Q0 n0 B R C w (W.setCell ⟨C, 4, none⟩ v) q { c with rows := xs } u1 u2 v :=
  ⟨h.bc.set 4 _, h.br.other (by show C ≠ R; exact fun e => k.hne e.symm) _, h.r1.inc (fr_setC _ _).inc, h.r2.inc (fr_setC _ _).inc, hv.inc (fr_setC _ _).inc, rd_setC (w := w) (by have := k.hC; have := k.hB; omega) h.rd _ _, dn_setC k.hC h.dn _ _⟩
end
/-- A slice that is nil, or has a place. -/
def NilOk (v : Value) : Prop := v = .slice none 0 0 ∨ ∃ b o n c, v = .slice (some ⟨b, o, none⟩) n c
theorem nilOk_nil : NilOk (.slice none 0 0) := .inl rfl
theorem nilOk_some (b o n c : Nat) : NilOk (.slice (some ⟨b, o, none⟩) n c) := .inr ⟨b, o, n, c, rfl⟩
theorem nilOk_own {w : World} {B : Nat} {e : TypeId} {sz n : Nat} {v : Value} {xs : List Value} (h : w.ownsRow B e sz v n xs) : NilOk v := by
  rcases h.2 with ⟨rfl, _⟩ | ⟨g, cap, cur, rfl, _⟩
  · exact nilOk_nil
  · exact nilOk_some _ _ _ _
/-- A constraint that was drawn. -/
def ConDn (Q0 : Nat → Bool) (n0 B : Nat) (p s : Int) (M : Nat) (w : World) (e : Ending) (w' : World) : Prop :=
  ∃ (u1 u2 u4 : Value) (c : Con) (p' : Int), e = .returned (.agg #[.int .i64 c.kind, u1, u2, .int .i64 c.bound, u4]) ∧ RdInts (av Q0 w') u1 c.vars ∧ RdInts (av Q0 w') u2 c.args ∧ RdRows (av Q0 w') u4 c.rows ∧ NilOk u2 ∧ 1 ≤ c.vars.length ∧ ConLe c M ∧ p ≤ p' ∧ p' ≤ p + s ∧ Rd n0 B p' w' ∧ Dn B w w'
def putR (W : World) (R : Nat) (v0 v1 v2 v3 v4 : Value) : World := ((((W.setCell ⟨R, 0, none⟩ v0).setCell ⟨R, 1, none⟩ v1).setCell ⟨R, 2, none⟩ v2).setCell ⟨R, 3, none⟩ v3).setCell ⟨R, 4, none⟩ v4
theorem putR_blk {W : World} {R : Nat} {t : TypeId} {z0 z1 z2 z3 z4 : Value} (h : Blk5 W R t z0 z1 z2 z3 z4) (v0 v1 v2 v3 v4 : Value) : Blk5 (putR W R v0 v1 v2 v3 v4) R t v0 v1 v2 v3 v4 := by
  have h0 : Blk5 _ R t v0 z1 z2 z3 z4 := h.set 0 v0
  have h1 : Blk5 _ R t v0 v1 z2 z3 z4 := h0.set 1 v1
  have h2 : Blk5 _ R t v0 v1 v2 z3 z4 := h1.set 2 v2
  have h3 : Blk5 _ R t v0 v1 v2 v3 z4 := h2.set 3 v3
  exact h3.set 4 v4
theorem conDn_fin {Q0 : Nat → Bool} {n0 B R C : Nat} {w W : World} {p q s : Int} {c : Con} {u1 u2 u4 : Value} (k : KP Q0 B R C n0 w) (h : KS Q0 n0 B R C w W q c u1 u2 u4) {M : Nat} (h1 : 1 ≤ c.vars.length) (hc : ConLe c M) (hp : p ≤ q) (hq : q ≤ p + s) (hnil : NilOk u2) :
    ConDn Q0 n0 B p s M w (.returned (.agg #[.int .i64 c.kind, u1, u2, .int .i64 c.bound, u4])) (putR W R (.int .i64 c.kind) u1 u2 (.int .i64 c.bound) u4) := by
  have fr : Fr (qs Q0 R C) W (putR W R (.int .i64 c.kind) u1 u2 (.int .i64 c.bound) u4) := ((((fr_setR _ _).trans (fr_setR _ _)).trans (fr_setR _ _)).trans (fr_setR _ _)).trans (fr_setR _ _)
  have i1 : Inc (av (qs Q0 R C) W) (av Q0 (putR W R (.int .i64 c.kind) u1 u2 (.int .i64 c.bound) u4)) := fun p x hx => by
    have h1 := fr.inc _ _ hx
    obtain ⟨e1, h2⟩ := av_at _ _ h1
    exact av_mk _ _ (qs_Q e1) h2
  have hBR : B < R := by have := k.hB; have := k.hR; omega
  refine ⟨u1, u2, u4, c, q, rfl, h.r1.inc i1, h.r2.inc i1, h.r4.inc i1, hnil, h1, hc, hp, hq, ?_, ?_⟩
  · exact rd_setC (w := w) hBR (rd_setC (w := w) hBR (rd_setC (w := w) hBR (rd_setC (w := w) hBR (rd_setC (w := w) hBR h.rd _ _) _ _) _ _) _ _) _ _
  · exact dn_setC k.hR (dn_setC k.hR (dn_setC k.hR (dn_setC k.hR (dn_setC k.hR h.dn _ _) _ _) _ _) _ _) _ _
end Go.Proofs.Ytjdbfiiaadphhaa

/-! The loops in the draw of a constraint: what stands while args or rows grow. -/
namespace Go.Proofs.Ytjdbfiiaadphhaa
open Go.ChangeShapes Go.WideShapes Go.ChangeAt Go.RowKit Go.Shelf
set_option linter.unusedVariables false
set_option linter.unusedSimpArgs false

theorem rdInts_nil (w : World) : RdInts w (.slice none 0 0) [] := ⟨none, 0, rfl, Nat.le_refl _, by decide, .inl rfl⟩
theorem rdRows_nil (w : World) : RdRows w (.slice none 0 0) [] := ⟨none, 0, rfl, Nat.le_refl _, by decide, .inl rfl⟩
theorem own_nil (w : World) (B : Nat) (e : TypeId) : w.ownsRow B e 1 (.slice none 0 0) 0 [] := ⟨rfl, .inl ⟨rfl, rfl⟩⟩
theorem rowsLe_of {rows : List (List Int)} (h1 : rows.length ≤ 20) (h2 : ∀ r ∈ rows, r.length ≤ 20) : RowsLe rows 20 := by
  refine ⟨h1, fun j hj => ?_⟩
  rw [List.getElem?_eq_getElem hj]
  exact h2 _ (List.getElem_mem hj)
theorem av_new {Q Q' : Nat → Bool} {a w : World} (hb : Below a.heap.size a w) (hQ : ∀ b, b < a.heap.size → Q b = false → Q' b = false) : Inc (av Q a) (av Q' w) := fun p x hx => by
  obtain ⟨e, h1⟩ := av_at Q a hx
  have hl := World.block_lt_of_cell? a _ h1
  exact av_mk Q' w (hQ _ hl e) ((hb.cell hl).trans h1)
/-- While args grow: a is the world at the loop's start. -/
structure LI (Q0 : Nat → Bool) (n0 B R C : Nat) (w a W : World) (q : Int) (c : Con) (u1 u4 : Value) (ua : Option Addr) (m cap : Nat) (xs : List Int) : Prop where
  bc : Blk5 W C 53 (.int .i64 c.kind) u1 (.slice ua m cap) (.int .i64 c.bound) u4
  br : Blk5 W R 53 (.int .i64 0) (.slice none 0 0) (.slice none 0 0) (.int .i64 0) (.slice none 0 0)
  fr : Fr (qs Q0 R C) a W
  own : W.ownsRow a.heap.size 3 1 (.slice ua m cap) m (xs.map (Value.int .i64))
  len : xs.length = m
  rd : Rd n0 B q W
  dn : Dn B w W
theorem LI.start {Q0 : Nat → Bool} {n0 B R C : Nat} {w a : World} {q : Int} {c : Con} {u1 u4 : Value} (h : KS Q0 n0 B R C w a q c u1 (.slice none 0 0) u4) : LI Q0 n0 B R C w a a q c u1 u4 none 0 0 [] :=
  ⟨h.bc, h.br, Fr.refl _ _, own_nil _ _ _, rfl, h.rd, h.dn⟩
theorem LI.ks {Q0 : Nat → Bool} {n0 B R C : Nat} {w a W : World} {q q0 : Int} {c : Con} {u1 u2 u4 : Value} {ua : Option Addr} {m cap : Nat} {xs : List Int} (k : KP Q0 B R C n0 w) (h0 : KS Q0 n0 B R C w a q0 c u1 u2 u4) (h : LI Q0 n0 B R C w a W q c u1 u4 ua m cap xs) :
    KS Q0 n0 B R C w W q { c with args := xs } u1 (.slice ua m cap) u4 := by
  have hQ : ∀ b, a.heap.size ≤ b → qs Q0 R C b = false := fun b hb => qs_no (k.hQ0 _ (by have := h0.dn.size; omega)) (by have := h0.br.lt; omega) (by have := h0.bc.lt; omega)
  refine ⟨h.bc, h.br, h0.r1.inc h.fr.inc, ?_, h0.r4.inc h.fr.inc, h.rd, h.dn⟩
  have := own_av h.own hQ
  rw [← h.len] at this ⊢
  exact rdInts_of_own this
theorem LI.lt {Q0 : Nat → Bool} {n0 B R C : Nat} {w a W : World} {q : Int} {c : Con} {u1 u4 : Value} {ua : Option Addr} {m cap : Nat} {xs : List Int} (h : LI Q0 n0 B R C w a W q c u1 u4 ua m cap xs) : a.heap.size ≤ W.heap.size := h.fr.size
theorem LI.push {Q0 : Nat → Bool} {n0 B R C : Nat} {w a W V2 V4 : World} {q q' q0 z : Int} {c : Con} {u1 u2 u4 : Value} {ua ua' : Option Addr} {m cap m' cap' : Nat} {xs : List Int} (k : KP Q0 B R C n0 w) (h0 : KS Q0 n0 B R C w a q0 c u1 u2 u4) (h : LI Q0 n0 B R C w a W q c u1 u4 ua m cap xs)
    (hd : Dn B W V2) (hr : Rd n0 B q' V2) (hm : m' = m + 1) (hown : V4.ownsRow a.heap.size 3 1 (.slice ua' m' cap') m' (xs.map (Value.int .i64) ++ [.int .i64 z])) (hg : (V2.alloc (.cells #[.int .i64 z] 3)).grownBy V4 (Value.ownBlock (.slice ua m cap))) :
    LI Q0 n0 B R C w a (V4.setCell ⟨C, 2, none⟩ (.slice ua' m' cap')) q' c u1 u4 ua' m' cap' (xs ++ [z]) := by
  subst hm
  have hge : ∀ g, Value.ownBlock (.slice ua m cap) = some g → a.heap.size ≤ g := fun g e => (h.own.lt g e).1
  have hBa := h0.rd.lt
  have hRa := h0.br.lt
  have hCa := h0.bc.lt
  have hs2 : a.heap.size ≤ V2.heap.size := Nat.le_trans h.fr.size hd.size
  have hlow : Below a.heap.size V2 V4 := ((Below.refl a.heap.size V2).alloc hs2 _).grown hg (by simp; omega) hge
  have hC2 : Blk5 V2 C 53 (.int .i64 c.kind) u1 (.slice ua m cap) (.int .i64 c.bound) u4 := (hd.block C h.bc.lt (by have := k.hC; have := k.hB; omega)).trans h.bc
  have hR2 : Blk5 V2 R 53 (.int .i64 0) (.slice none 0 0) (.slice none 0 0) (.int .i64 0) (.slice none 0 0) := (hd.block R h.br.lt (by have := k.hR; have := k.hB; omega)).trans h.br
  have hC4 : Blk5 V4 C 53 (.int .i64 c.kind) u1 (.slice ua m cap) (.int .i64 c.bound) u4 := (hlow.block C hCa).trans hC2
  have hR4 : Blk5 V4 R 53 (.int .i64 0) (.slice none 0 0) (.slice none 0 0) (.int .i64 0) (.slice none 0 0) := (hlow.block R hRa).trans hR2
  have hfr4 : Fr (qs Q0 R C) a V4 := (h.fr.trans (Fr.of_dn (qs_B R C k.hQB) hd)).low hlow
  refine ⟨hC4.set 2 _, hR4.other (by show C ≠ R; exact fun e => k.hne e.symm) _, hfr4.setCell (p := ⟨C, 2, none⟩) (qs_C Q0 R C) _, ?_, by rw [List.length_append, h.len]; rfl, ?_, dn_setC k.hC ((h.dn.trans hd).lowB hlow h0.dn.size) _ _⟩
  · rw [List.map_append]
    exact own_keepB hown (fun b hb => Below.heap_setCell _ _ _ _ (by show b ≠ C; have := (hown.lt b hb).1; omega))
  · exact rd_setC (w := w) (by have := k.hC; have := k.hB; omega) (hr.below (hlow.mono (by omega))) _ _
/-- While rows grow. -/
structure LR (Q0 : Nat → Bool) (n0 B R C : Nat) (w a W : World) (q : Int) (c : Con) (u1 u2 : Value) (ua : Option Addr) (m cap : Nat) (us : List Value) (rows : List (List Int)) : Prop where
  bc : Blk5 W C 53 (.int .i64 c.kind) u1 u2 (.int .i64 c.bound) (.slice ua m cap)
  br : Blk5 W R 53 (.int .i64 0) (.slice none 0 0) (.slice none 0 0) (.int .i64 0) (.slice none 0 0)
  fr : Fr (qs Q0 R C) a W
  own : RowsOwn B a.heap.size W (.slice ua m cap) us rows
  len : us.length = m
  rd : Rd n0 B q W
  dn : Dn B w W
theorem LR.start {Q0 : Nat → Bool} {n0 B R C : Nat} {w a : World} {q : Int} {c : Con} {u1 u2 : Value} (h : KS Q0 n0 B R C w a q c u1 u2 (.slice none 0 0)) : LR Q0 n0 B R C w a a q c u1 u2 none 0 0 [] [] :=
  ⟨h.bc, h.br, Fr.refl _ _, ⟨rfl, own_nil _ _ _, fun i u hu => by simp at hu⟩, rfl, h.rd, h.dn⟩
theorem LR.ks {Q0 : Nat → Bool} {n0 B R C : Nat} {w a W : World} {q q0 : Int} {c : Con} {u1 u2 u4 : Value} {ua : Option Addr} {m cap : Nat} {us : List Value} {rows : List (List Int)} (k : KP Q0 B R C n0 w) (h0 : KS Q0 n0 B R C w a q0 c u1 u2 u4) (h : LR Q0 n0 B R C w a W q c u1 u2 ua m cap us rows) :
    KS Q0 n0 B R C w W q { c with rows := rows } u1 u2 (.slice ua m cap) := by
  have hQ : ∀ b, a.heap.size ≤ b → qs Q0 R C b = false := fun b hb => qs_no (k.hQ0 _ (by have := h0.dn.size; omega)) (by have := h0.br.lt; omega) (by have := h0.bc.lt; omega)
  exact ⟨h.bc, h.br, h0.r1.inc h.fr.inc, h0.r2.inc h.fr.inc, h.own.rd hQ, h.rd, h.dn⟩
theorem LR.push {Q0 : Nat → Bool} {n0 B R C : Nat} {w a W V2 V4 : World} {q q' q0 : Int} {c : Con} {u1 u2 u4 u : Value} {ua ua' : Option Addr} {m cap m' cap' : Nat} {us : List Value} {rows : List (List Int)} {r : List Int} (k : KP Q0 B R C n0 w) (h0 : KS Q0 n0 B R C w a q0 c u1 u2 u4) (h : LR Q0 n0 B R C w a W q c u1 u2 ua m cap us rows)
    (hd : Dn B W V2) (hr : Rd n0 B q' V2) (hu : V2.ownsRow W.heap.size 3 1 u r.length (r.map (Value.int .i64))) (hm : m' = m + 1) (hown : V4.ownsRow a.heap.size 32 1 (.slice ua' m' cap') m' (us ++ [u])) (hg : (V2.alloc (.cells #[u] 32)).grownBy V4 (Value.ownBlock (.slice ua m cap))) :
    LR Q0 n0 B R C w a (V4.setCell ⟨C, 4, none⟩ (.slice ua' m' cap')) q' c u1 u2 ua' m' cap' (us ++ [u]) (rows ++ [r]) := by
  subst hm
  have hge : ∀ g, Value.ownBlock (.slice ua m cap) = some g → a.heap.size ≤ g := fun g e => (h.own.2.1.lt g e).1
  have hBa := h0.rd.lt
  have hRa := h0.br.lt
  have hCa := h0.bc.lt
  have hs2 : a.heap.size ≤ V2.heap.size := Nat.le_trans h.fr.size hd.size
  have hlow : Below a.heap.size V2 V4 := ((Below.refl a.heap.size V2).alloc hs2 _).grown hg (by simp; omega) hge
  have hC2 : Blk5 V2 C 53 (.int .i64 c.kind) u1 u2 (.int .i64 c.bound) (.slice ua m cap) := (hd.block C h.bc.lt (by have := k.hC; have := k.hB; omega)).trans h.bc
  have hR2 : Blk5 V2 R 53 (.int .i64 0) (.slice none 0 0) (.slice none 0 0) (.int .i64 0) (.slice none 0 0) := (hd.block R h.br.lt (by have := k.hR; have := k.hB; omega)).trans h.br
  have hC4 : Blk5 V4 C 53 (.int .i64 c.kind) u1 u2 (.int .i64 c.bound) (.slice ua m cap) := (hlow.block C hCa).trans hC2
  have hR4 : Blk5 V4 R 53 (.int .i64 0) (.slice none 0 0) (.slice none 0 0) (.int .i64 0) (.slice none 0 0) := (hlow.block R hRa).trans hR2
  have hfr4 : Fr (qs Q0 R C) a V4 := (h.fr.trans (Fr.of_dn (qs_B R C k.hQB) hd)).low hlow
  have ho4 : RowsOwn B a.heap.size V4 (.slice ua' (m + 1) cap') (us ++ [u]) (rows ++ [r]) := (h.own.keep hBa hd).snoc (own_mono hu h.fr.size) hg (by rw [h.len]; exact hown)
  refine ⟨hC4.set 4 _, hR4.other (by show C ≠ R; exact fun e => k.hne e.symm) _, hfr4.setCell (p := ⟨C, 4, none⟩) (qs_C Q0 R C) _, ?_, by rw [List.length_append, h.len]; rfl, ?_, dn_setC k.hC ((h.dn.trans hd).lowB hlow h0.dn.size) _ _⟩
  · exact ⟨ho4.1, own_keepB ho4.2.1 (fun b hb => Below.heap_setCell _ _ _ _ (by show b ≠ C; have := (ho4.2.1.lt b hb).1; omega)), fun i v hv => own_keepB (ho4.2.2 i v hv) (fun b hb => Below.heap_setCell _ _ _ _ (by show b ≠ C; have := ((ho4.2.2 i v hv).lt b hb).1; omega))⟩
  · exact rd_setC (w := w) (by have := k.hC; have := k.hB; omega) (hr.below (hlow.mono (by omega))) _ _
end Go.Proofs.Ytjdbfiiaadphhaa
