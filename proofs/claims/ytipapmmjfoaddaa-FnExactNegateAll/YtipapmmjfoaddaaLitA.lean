/- append to a clause, perhaps nil, of the call's own. -/
import Derived.Test.YtipapmmjfoaddaaLitF
namespace Go.Proofs.Ytipapmmjfoaddaa
open Go.ChangeShapes Go.WideShapes Go.ChangeAt Go.RowKit Go.Deep Go.Shelf
set_option linter.unusedVariables false
set_option linter.unusedSimpArgs false

theorem OwnC.slice {w : World} {B : Nat} {v : Value} {m : Nat} {ls : List Lit} (h : OwnC w B v m ls) : ∃ a c, v = .slice a m c := by
  obtain ⟨a, c, e, _⟩ := h.form
  exact ⟨a, c, e⟩
theorem OwnC.slice3 {w : World} {B : Nat} {v : Value} {m : Nat} {ls : List Lit} (h : OwnC w B v m ls) : ∃ a n c, v = .slice a n c := by
  obtain ⟨a, c, e, _⟩ := h.form
  exact ⟨a, m, c, e⟩
set_option maxRecDepth 100000 in
/-- append of a clause to a clause, perhaps nil, of the call's own. -/
theorem run_append_litsC (w : World) (ty : TypeId) (B : Nat) (v y : Value) (xs ys : List Lit) (hv : OwnC w B v xs.length xs) (hy : RdLits w y ys) (hB : B ≤ w.heap.size) (h1 : xs.length ≤ 1048576) (h2 : ys.length ≤ 1048576) :
    ∃ v' w', (Builtin.append_ #[36, 36] ty #[v, y]).run Try.prog w = .ok v' w' ∧ OwnC w' B v' (xs ++ ys).length (xs ++ ys) ∧ w.grownBy w' v.ownBlock := by
  obtain ⟨a, cap, rfl, r1, r2, r3⟩ := hy
  obtain ⟨va, vc, rfl⟩ := hv.slice
  obtain ⟨i0, hi, hz0, hz1, hz2⟩ := info_parts Try.infoLit
  cases a with
  | none =>
    have hys : ys = [] := by
      rcases r3 with h | ⟨b, off, e, _⟩
      · exact List.eq_nil_of_length_eq_zero h
      · cases e
    subst hys
    refine ⟨.slice va xs.length vc, w, ?_, by rw [List.append_nil]; exact hv, ⟨rfl, rfl, rfl, Nat.le_refl _, fun _ _ _ => rfl⟩⟩
    have hle : xs.length ≤ vc := by
      obtain ⟨_, _, e, hle, _⟩ := hv.form
      injection e with _ _ e
      rw [e]
      exact hle
    cases va
    all_goals go_simp
  | some ad =>
    have hnews : ∀ j u, (cellsL ys)[j]? = some u → w.cell? (ad.add j) = some u := by
      rcases r3 with h | ⟨b, off, e, h⟩
      · intro j u hu
        rw [List.eq_nil_of_length_eq_zero h] at hu
        simp [cellsL] at hu
      · cases e
        exact cellsL_reads ys h
    obtain ⟨v', w', hr, h3, h4, h5⟩ := run_append_own (P := Try.prog) w B 36 ty 64 i0 (.agg #[.int .i64 0, .int .i64 0, .bool false]) 3 24 Try.underlying36 hi hz0 hz1 hz2 rfl (by decide) _ xs.length (cellsL xs) hv.2 ad ys.length cap (cellsL ys) (cellsL_length ys) hnews (cellsL_one ys) (by unfold maxLen; omega) (by omega) hB
    rw [← cellsL_append, ← List.length_append] at h3
    exact ⟨v', w', hr, ⟨rfl, h3⟩, h4⟩
theorem wp_append_litsC {w : World} {o : Oper} {a : Act} {K : Act → World → Prop} {Q : Exit → Act → World → Prop} (s x : Operand)
    (ho : o.op = .call { callee := .builtin .append, args := #[s, x], argTypes := #[36, 36] }) (B : Nat) (v y : Value) (xs ys : List Lit) (hs : a.eval s = v) (hx : a.eval x = y) (hv : OwnC w B v xs.length xs) (hy : RdLits w y ys) (hB : B ≤ w.heap.size) (h1 : xs.length ≤ 1048576) (h2 : ys.length ≤ 1048576)
    (h : ∀ v' w', OwnC w' B v' (xs ++ ys).length (xs ++ ys) → w.grownBy w' v.ownBlock → K (a.put o.dst v') w') : o.wp Try.prog a w K Q := by
  obtain ⟨v', w', hr, h3, h4⟩ := run_append_litsC w o.type B v y xs ys hv hy hB h1 h2
  unfold Oper.wp execOp
  simp only [ho, resolve, invoke, builtin, Sem.run_bind, Sem.run_pure, Result.andThen_ok, List.map_toArray, List.map_cons, List.map_nil, hs, hx, hr]
  exact h v' w' h3 h4
theorem wpList_append_litsC {w : World} {ops : Array Oper} {rest : List Oper} {o : Oper} {a : Act} {Q : Exit → Act → World → Prop} (hgd : o.guard = none) (s x : Operand)
    (ho : o.op = .call { callee := .builtin .append, args := #[s, x], argTypes := #[36, 36] }) (B : Nat) (v y : Value) (xs ys : List Lit) (hs : a.eval s = v) (hx : a.eval x = y) (hv : OwnC w B v xs.length xs) (hy : RdLits w y ys) (hB : B ≤ w.heap.size) (h1 : xs.length ≤ 1048576) (h2 : ys.length ≤ 1048576)
    (h : ∀ v' w', OwnC w' B v' (xs ++ ys).length (xs ++ ys) → w.grownBy w' v.ownBlock → wpList Try.prog ops Q rest (a.put o.dst v') w') : wpList Try.prog ops Q (o :: rest) a w :=
  wpList_plain hgd fun _ hK => wp_append_litsC s x ho B v y xs ys hs hx hv hy hB h1 h2 fun v' w' h3 h4 => hK _ _ (h v' w' h3 h4)
theorem step_append_litsC {w : World} {ops : Array Oper} {o : Oper} {a : Act} {K : Act → World → Prop} {Q : Exit → Act → World → Prop} {E : Prop} (hgd : o.guard = none) (s x : Operand)
    (ho : o.op = .call { callee := .builtin .append, args := #[s, x], argTypes := #[36, 36] }) (B : Nat) (v y : Value) (xs ys : List Lit) (hs : a.eval s = v) (hx : a.eval x = y) (hv : OwnC w B v xs.length xs) (hy : RdLits w y ys) (hB : B ≤ w.heap.size) (h1 : xs.length ≤ 1048576) (h2 : ys.length ≤ 1048576)
    (h : ∀ v' w', OwnC w' B v' (xs ++ ys).length (xs ++ ys) → w.grownBy w' v.ownBlock → K (a.put o.dst v') w') : if Region.wanted o (yielded ops a.tmps) = true then Oper.wp Try.prog o a w K Q else E := by
  have hw : Region.wanted o (yielded ops a.tmps) = true := by simp [Region.wanted, hgd]
  rw [if_pos hw]
  exact wp_append_litsC s x ho B v y xs ys hs hx hv hy hB h1 h2 h
end Go.Proofs.Ytipapmmjfoaddaa
