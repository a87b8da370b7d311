/- The reference's sorted union of two clauses. -/
import Derived.Test.YtipapmmjfoaddaaGreatLitQ
namespace Go.Proofs.YtipapmmjfoaddaaGreat
open Go.ChangeShapes Go.WideShapes Go.ChangeAt Go.RowKit Go.Deep Go.Shelf
set_option linter.unusedVariables false
set_option linter.unusedSimpArgs false

/-- The activation inside the regions of mergeClauses. -/
def mcAct (z0 z1 z2 z3 z4 z5 z6 z7 z8 z9 z10 z11 z12 z13 z14 z15 z16 z17 z18 z19 z20 z21 z22 z23 z24 z25 z26 z27 z28 z29 z30 z31 z32 z33 z34 z35 z36 z37 z38 z39 z40 z41 z42 z43 z44 z45 z46 z47 z48 z49 z50 z51 z52 z53 z54 z55 z56 z57 z58 z59 z60 z61 z62 z63 z64 z65 z66 : Value) : Act := { tmps := #[z0, z1, z2, z3, z4, z5, z6, z7, z8, z9, z10, z11, z12, z13, z14, z15, z16, z17, z18, z19, z20, z21, z22, z23, z24, z25, z26, z27, z28, z29, z30, z31, z32, z33, z34, z35, z36, z37, z38, z39, z40, z41, z42, z43, z44, z45, z46, z47, z48, z49, z50, z51, z52, z53, z54, z55, z56, z57, z58, z59, z60, z61, z62, z63, z64, z65, z66], defers := [] }
theorem lss_true (w : World) (x y : Operand) (k n : Nat) (h : k < n) : (do eqGuard .lss 3 x y (.int .i64 k) (.int .i64 n); binOp .lss 3 (.int .i64 k) (.int .i64 n) : Sem Value).run Tryz.prog w = .ok (.bool true) w := by
  have h' : (k : Int) < n := by omega
  go_simp
theorem lss_self (w : World) (x y : Operand) (k : Nat) : (do eqGuard .lss 3 x y (.int .i64 k) (.int .i64 k); binOp .lss 3 (.int .i64 k) (.int .i64 k) : Sem Value).run Tryz.prog w = .ok (.bool false) w := by
  go_simp
set_option maxRecDepth 100000 in
theorem exec_lenL {w : World} {ev : Operand → Value} {o : Oper} {x : Operand} {a : Option Addr} {n c : Nat} (ho : o.op = .call { callee := .builtin .len, args := #[x], argTypes := #[47] }) (hx : ev x = .slice a n c) : (execOp ev o).run Tryz.prog w = .ok (.value (.int .i64 n)) w := by
  unfold execOp
  simp only [ho, resolve, invoke, builtin, Sem.run_bind, Sem.run_pure, Result.andThen_ok, List.map_toArray, List.map_cons, List.map_nil, hx]
  go_simp
set_option maxRecDepth 100000 in
theorem index0_lits (w : World) (b n c j : Nat) (hj : j < n) : (Instr.indexAt 47 (.slice (some ⟨b, 0, none⟩) n c) (.int .i64 j)).run Tryz.prog w = .ok (.pointer (some ⟨b, j * 3, none⟩)) w := by
  go_simp
/-- The literal l lies at o in block B. -/
def LitAt (B o : Nat) (l : Lit) (w : World) : Prop := w.cell? ⟨B, o, none⟩ = some (.int .i64 l.var) ∧ w.cell? ⟨B, o + 1, none⟩ = some (.int .i64 l.val) ∧ w.cell? ⟨B, o + 2, none⟩ = some (.bool l.neg)
theorem litAt_below {B o : Nat} {l : Lit} {w w' : World} (h : LitAt B o l w) (b : Below w.heap.size w w') : LitAt B o l w' :=
  ⟨(b.cell (World.block_lt_of_cell? w _ h.1)).trans h.1, (b.cell (World.block_lt_of_cell? w _ h.2.1)).trans h.2.1, (b.cell (World.block_lt_of_cell? w _ h.2.2)).trans h.2.2⟩

theorem OwnL.slice {w : World} {B : Nat} {v : Value} {ls : List Lit} (h : OwnL w B v ls) : ∃ g n c, v = .slice (some ⟨g, 0, none⟩) n c := by
  obtain ⟨_, g, c, e, _⟩ := h
  exact ⟨g, _, c, e⟩
theorem OwnL.mono {w : World} {B B' : Nat} {v : Value} {ls : List Lit} (h : OwnL w B v ls) (hB : B' ≤ B) : OwnL w B' v ls := by
  obtain ⟨⟨h0, h1⟩, g, c, e, h2, h3, h4, h5⟩ := h
  refine ⟨⟨h0, ?_⟩, g, c, e, h2, h3, by omega, h5⟩
  rcases h1 with h1 | ⟨g', cap, cur, e', t1, rest⟩
  · exact .inl h1
  · exact .inr ⟨g', cap, cur, e', by omega, rest⟩
/-- The place behind which b belongs. -/
def isPos (ls : List Lit) (b : Lit) (k : Nat) : Prop := k ≤ ls.length ∧ (∀ (j : Nat) (l : Lit), j < k → ls[j]? = some l → litLt l b = true) ∧ (∀ l, ls[k]? = some l → litLt l b = false)

theorem insL_le1 : ∀ (ls : List Lit) (b : Lit), (insL ls b).length ≤ ls.length + 1
  | [], b => Nat.le_refl _
  | a :: rest, b => by
    have := insL_le1 rest b
    unfold insL
    split
    · simp only [List.length_cons]; omega
    · split <;> simp only [List.length_cons] <;> omega
theorem mrgL_leA : ∀ (bs out : List Lit), (mrgL out bs).length ≤ out.length + bs.length
  | [], out => Nat.le_refl _
  | b :: bs, out => by
    have h1 := mrgL_leA bs (insL out b)
    have h2 := insL_le1 out b
    show (mrgL (insL out b) bs).length ≤ _
    rw [List.length_cons]
    omega

end Go.Proofs.YtipapmmjfoaddaaGreat
