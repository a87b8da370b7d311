/- Clauses in memory of the call's own, and the single operations on them. -/
import Derived.Test.YtipapmmjfoaddaaGreatLitX
import Derived.Test.YtipapmmjfoaddaaGreatLitP
import Derived.Deep.AppendLies
namespace Go.Proofs.YtipapmmjfoaddaaGreat
open Go.ChangeShapes Go.WideShapes Go.ChangeAt Go.RowKit Go.Deep Go.Shelf
set_option linter.unusedVariables false
set_option linter.unusedSimpArgs false

section
set_option maxRecDepth 100000
theorem index_lits (w : World) (b off n c j : Nat) (hj : j < n) : (Instr.indexAt 47 (.slice (some ⟨b, off, none⟩) n c) (.int .i64 j)).run Tryz.prog w = .ok (.pointer (some ⟨b, off + j * 3, none⟩)) w := by
  go_simp
theorem load_litO (w : World) (g o : Nat) (x y : Int) (z : Bool) (h0 : w.cell? ⟨g, o, none⟩ = some (.int .i64 x)) (h1 : w.cell? ⟨g, o + 1, none⟩ = some (.int .i64 y)) (h2 : w.cell? ⟨g, o + 2, none⟩ = some (.bool z)) : (loadVar 91 ⟨g, o, none⟩).run Tryz.prog w = .ok (.agg #[.int .i64 x, .int .i64 y, .bool z]) w := by
  go_simp
theorem eql_lit (w : World) (x y : Operand) (l k : Lit) : (do eqGuard .eql 91 x y (.agg #[.int .i64 l.var, .int .i64 l.val, .bool l.neg]) (.agg #[.int .i64 k.var, .int .i64 k.val, .bool k.neg]); binOp .eql 91 (.agg #[.int .i64 l.var, .int .i64 l.val, .bool l.neg]) (.agg #[.int .i64 k.var, .int .i64 k.val, .bool k.neg]) : Sem Value).run Tryz.prog w = .ok (.bool (decide (l = k))) w := by
  obtain ⟨a, b, c⟩ := l
  obtain ⟨p, q, r⟩ := k
  go_simp
  by_cases h1 : a = p
  · by_cases h2 : b = q
    · by_cases h3 : c = r <;> simp [h1, h2, h3]
    · simp [h1, h2]
  · simp [h1]
theorem slice_tail (w : World) (g n c k : Nat) (h1 : k ≤ n) (h2 : n ≤ c) (h3 : c ≤ 9223372036854775807) : (Instr.sliceAt 47 (.slice (some ⟨g, 0, none⟩) n c) (some (.int .i64 k)) none none).run Tryz.prog w = .ok (.slice (some (if c = k then ⟨g, 0, none⟩ else ⟨g, k * 3, none⟩)) (n - k) (c - k)) w := by
  by_cases h : c = k
  · rw [if_pos h]
    go_simp
  · rw [if_neg h]
    go_simp
theorem slice_head (w : World) (g n c k : Nat) (h1 : k ≤ n) (h2 : n ≤ c) (h3 : c ≤ 9223372036854775807) : (Instr.sliceAt 47 (.slice (some ⟨g, 0, none⟩) n c) none (some (.int .i64 k)) none).run Tryz.prog w = .ok (.slice (some ⟨g, 0, none⟩) k c) w := by
  have h4 : k ≤ c := by omega
  go_simp
theorem build_one (w : World) (x y : Int) (z : Bool) : (Instr.buildSlice 47 1 #[(0, .agg #[.int .i64 x, .int .i64 y, .bool z])]).run Tryz.prog w = .ok (.slice (some ⟨w.heap.size, 0, none⟩) 1 1) (w.alloc (.cells #[.int .i64 x, .int .i64 y, .bool z] 91)) := by
  go_simp
theorem build_none (w : World) : (Instr.buildSlice 47 0 #[]).run Tryz.prog w = .ok (.slice (some ⟨w.heap.size, 0, none⟩) 0 0) (w.alloc (.cells #[] 91)) := by
  go_simp
end

theorem exec_slice1 {P : Program} {w : World} {ev : Operand → Value} {o : Oper} {ty : TypeId} {x y : Operand} {u v r : Value} (ho : o.op = .slice ty x (some y) none none) (hx : ev x = u) (hy : ev y = v) (hl : (Instr.sliceAt ty u (some v) none none).run P w = .ok r w) : (execOp ev o).run P w = .ok (.value r) w := by
  unfold execOp
  simp only [ho, hx, hy, Option.map_some, Option.map_none, Sem.run_bind, Sem.run_pure, Result.andThen_ok, hl]
theorem exec_build1 {P : Program} {w w' : World} {ev : Operand → Value} {o : Oper} {ty : TypeId} {x : Operand} {u r : Value} (ho : o.op = .buildSlice ty 1 #[(0, x)]) (hx : ev x = u) (hl : (Instr.buildSlice ty 1 #[(0, u)]).run P w = .ok r w') : (execOp ev o).run P w = .ok (.value r) w' := by
  unfold execOp
  simp only [ho, hx, List.map_toArray, List.map_cons, List.map_nil, Sem.run_bind, Sem.run_pure, Result.andThen_ok, hl]

/-- The cells of a list of literals. -/
def cellsL : List Lit → List Value
  | [] => []
  | l :: ls => .int .i64 l.var :: .int .i64 l.val :: .bool l.neg :: cellsL ls
theorem cellsL_length : ∀ ls : List Lit, (cellsL ls).length = ls.length * 3
  | [] => rfl
  | l :: ls => by simp [cellsL, cellsL_length ls]; omega
theorem cellsL_append : ∀ xs ys : List Lit, cellsL (xs ++ ys) = cellsL xs ++ cellsL ys
  | [], ys => rfl
  | x :: xs, ys => by simp [cellsL, cellsL_append xs ys]
theorem cellsL_one : ∀ (ls : List Lit), ∀ u ∈ cellsL ls, u.oneCell' = true
  | [], u, h => by cases h
  | l :: ls, u, h => by
    simp only [cellsL, List.mem_cons] at h
    rcases h with rfl | rfl | rfl | h
    · rfl
    · rfl
    · rfl
    · exact cellsL_one ls u h
theorem cellsL_at : ∀ (ls : List Lit) (i : Nat) (l : Lit), ls[i]? = some l → (cellsL ls)[i * 3]? = some (.int .i64 l.var) ∧ (cellsL ls)[i * 3 + 1]? = some (.int .i64 l.val) ∧ (cellsL ls)[i * 3 + 2]? = some (.bool l.neg)
  | [], i, l, h => by simp at h
  | a :: ls, 0, l, h => by
    simp at h
    subst h
    exact ⟨rfl, rfl, rfl⟩
  | a :: ls, i + 1, l, h => by
    have := cellsL_at ls i l (by simpa using h)
    rw [show (i + 1) * 3 = i * 3 + 1 + 1 + 1 from by omega]
    exact this
/-- What lies at the cells is what reads. -/
theorem cellsL_reads {w : World} {b off : Nat} : ∀ (ls : List Lit), (∀ i l, ls[i]? = some l → w.cell? ⟨b, off + i * 3, none⟩ = some (.int .i64 l.var) ∧ w.cell? ⟨b, off + i * 3 + 1, none⟩ = some (.int .i64 l.val) ∧ w.cell? ⟨b, off + i * 3 + 2, none⟩ = some (.bool l.neg)) →
    ∀ j u, (cellsL ls)[j]? = some u → w.cell? ((⟨b, off, none⟩ : Addr).add j) = some u := by
  intro ls h j u hu
  rw [addr_add]
  have hj : j < ls.length * 3 := by rw [← cellsL_length]; exact (List.getElem?_eq_some_iff.1 hu).1
  obtain ⟨l, hl⟩ : ∃ l, ls[j / 3]? = some l := ⟨_, List.getElem?_eq_getElem (by omega)⟩
  obtain ⟨c0, c1, c2⟩ := cellsL_at ls _ l hl
  obtain ⟨r0, r1, r2⟩ := h _ l hl
  rcases (show j = j / 3 * 3 ∨ j = j / 3 * 3 + 1 ∨ j = j / 3 * 3 + 2 by omega) with e | e | e
  · rw [e] at hu ⊢
    rw [c0] at hu
    rw [← Option.some.inj hu]
    exact r0
  · rw [e] at hu ⊢
    rw [c1] at hu
    rw [← Option.some.inj hu]
    exact r1
  · rw [e] at hu ⊢
    rw [c2] at hu
    rw [← Option.some.inj hu]
    exact r2

/-- A clause in memory of the call's own. -/
def OwnL (w : World) (B : Nat) (v : Value) (ls : List Lit) : Prop := w.ownsRow B 91 3 v ls.length (cellsL ls) ∧ ∃ g c, v = .slice (some ⟨g, 0, none⟩) ls.length c ∧ ls.length ≤ c ∧ c ≤ 9223372036854775807 ∧ B ≤ g ∧ g < w.heap.size
theorem OwnL.cells {w : World} {B g n c : Nat} {ls : List Lit} (h : OwnL w B (.slice (some ⟨g, 0, none⟩) n c) ls) {i : Nat} {l : Lit} (hi : ls[i]? = some l) :
    w.cell? ⟨g, i * 3, none⟩ = some (.int .i64 l.var) ∧ w.cell? ⟨g, i * 3 + 1, none⟩ = some (.int .i64 l.val) ∧ w.cell? ⟨g, i * 3 + 2, none⟩ = some (.bool l.neg) := by
  obtain ⟨h1, g', c', e, _⟩ := h
  simp at e
  obtain ⟨rfl, rfl, rfl⟩ := e
  obtain ⟨t0, t1, t2⟩ := cellsL_at ls i l hi
  have k : ∀ q u, (cellsL ls)[q]? = some u → w.cell? ⟨g, q, none⟩ = some u := fun q u hu => by
    have := h1.cells (g := g) rfl q u hu
    rw [addr_add, Nat.zero_add] at this
    exact this
  exact ⟨k _ _ t0, k _ _ t1, k _ _ t2⟩
theorem OwnL.below {w w' : World} {B : Nat} {v : Value} {ls : List Lit} (h : OwnL w B v ls) (hb : Below w.heap.size w w') : OwnL w' B v ls := by
  obtain ⟨h1, g, c, e, h2, h3, h4, h5⟩ := h
  exact ⟨own_below h1 hb, g, c, e, h2, h3, h4, Nat.lt_of_lt_of_le h5 hb.size⟩
theorem OwnL.rd {w : World} {B : Nat} {v : Value} {ls : List Lit} (h : OwnL w B v ls) : RdLits w v ls := by
  obtain ⟨h1, g, c, rfl, h2, h3, h4, h5⟩ := id h
  refine ⟨_, c, rfl, h2, by unfold maxLen; omega, .inr ⟨g, 0, rfl, fun i l hi => ?_⟩⟩
  rw [Nat.zero_add]
  exact h.cells hi
theorem OwnL.tail {w : World} {B g n c : Nat} {ls : List Lit} (h : OwnL w B (.slice (some ⟨g, 0, none⟩) n c) ls) {k : Nat} (hk : k ≤ n) : RdLits w (.slice (some (if c = k then ⟨g, 0, none⟩ else ⟨g, k * 3, none⟩)) (n - k) (c - k)) (ls.drop k) := by
  obtain ⟨h1, g', c', e, h2, h3, _⟩ := id h
  simp at e
  obtain ⟨rfl, rfl, rfl⟩ := e
  have hl : (ls.drop k).length = ls.length - k := by simp
  refine ⟨_, c - k, by rw [hl], by rw [hl]; omega, by unfold maxLen; omega, ?_⟩
  by_cases e : ls.length = k
  · exact .inl (by rw [hl]; omega)
  · rw [if_neg (by omega)]
    refine .inr ⟨g, k * 3, rfl, fun i l hi => ?_⟩
    rw [List.getElem?_drop] at hi
    have := h.cells hi
    rw [show k * 3 + i * 3 = (k + i) * 3 from by omega]
    exact this
theorem OwnL.head {w : World} {B g n c : Nat} {ls : List Lit} (h : OwnL w B (.slice (some ⟨g, 0, none⟩) n c) ls) {k : Nat} (hk : k ≤ n) : RdLits w (.slice (some ⟨g, 0, none⟩) k c) (ls.take k) := by
  obtain ⟨h1, g', c', e, h2, h3, _⟩ := id h
  simp at e
  obtain ⟨rfl, rfl, rfl⟩ := e
  have hl : (ls.take k).length = k := by simp; omega
  refine ⟨_, c, by rw [hl], by rw [hl]; omega, by unfold maxLen; omega, .inr ⟨g, 0, rfl, fun i l hi => ?_⟩⟩
  have hi' : i < k := by have := (List.getElem?_eq_some_iff.1 hi).1; rw [hl] at this; exact this
  rw [List.getElem?_take_of_lt hi'] at hi
  rw [Nat.zero_add]
  exact h.cells hi
theorem ownL_new (w : World) (B : Nat) (hB : B ≤ w.heap.size) : OwnL (w.alloc (.cells #[] 91)) B (.slice (some ⟨w.heap.size, 0, none⟩) 0 0) [] :=
  ⟨World.ownsRow_made w #[] 0 hB (by unfold maxLen; omega) rfl, _, 0, rfl, Nat.le_refl _, by omega, hB, by simp⟩
theorem ownL_one (w : World) (B : Nat) (hB : B ≤ w.heap.size) (l : Lit) : OwnL (w.alloc (.cells #[.int .i64 l.var, .int .i64 l.val, .bool l.neg] 91)) B (.slice (some ⟨w.heap.size, 0, none⟩) 1 1) [l] :=
  ⟨⟨rfl, .inr ⟨w.heap.size, 1, _, rfl, hB, World.alloc_heap_new w _, Nat.le_refl _, by unfold maxLen; omega, rfl, rfl⟩⟩, _, 1, rfl, Nat.le_refl _, by omega, hB, by simp⟩

set_option maxRecDepth 100000 in
/-- append of a clause to a clause of the call's own. -/
theorem run_append_lits (w : World) (ty : TypeId) (B : Nat) (v y : Value) (xs ys : List Lit) (hv : OwnL w B v xs) (hy : RdLits w y ys) (hB : B ≤ w.heap.size) (h1 : xs.length ≤ 1048576) (h2 : ys.length ≤ 1048576) :
    ∃ v' w', (Builtin.append_ #[47, 47] ty #[v, y]).run Tryz.prog w = .ok v' w' ∧ OwnL w' B v' (xs ++ ys) ∧ w.grownBy w' v.ownBlock := by
  obtain ⟨ho, g, c, rfl, q1, q2, q3, q4⟩ := hv
  obtain ⟨a, cap, rfl, r1, r2, r3⟩ := hy
  obtain ⟨i0, hi, hz0, hz1, hz2⟩ := info_parts Tryz.infoLit
  cases a with
  | none =>
    have hys : ys = [] := by
      rcases r3 with h | ⟨b, off, e, _⟩
      · exact List.eq_nil_of_length_eq_zero h
      · cases e
    subst hys
    refine ⟨.slice (some ⟨g, 0, none⟩) xs.length c, w, ?_, by rw [List.append_nil]; exact ⟨ho, g, c, rfl, q1, q2, q3, q4⟩, ⟨rfl, rfl, rfl, Nat.le_refl _, fun _ _ _ => rfl⟩⟩
    go_simp
  | some ad =>
    have hnews : ∀ j u, (cellsL ys)[j]? = some u → w.cell? (ad.add j) = some u := by
      rcases r3 with h | ⟨b, off, e, h⟩
      · intro j u hu
        rw [List.eq_nil_of_length_eq_zero h] at hu
        simp [cellsL] at hu
      · cases e
        exact cellsL_reads ys h
    obtain ⟨v', w', hr, h3, h4, h5⟩ := run_append_own (P := Tryz.prog) w B 47 ty 91 i0 (.agg #[.int .i64 0, .int .i64 0, .bool false]) 3 24 Tryz.underlying47 hi hz0 hz1 hz2 rfl (by decide) _ xs.length (cellsL xs) ho ad ys.length cap (cellsL ys) (cellsL_length ys) hnews (cellsL_one ys) (by unfold maxLen; omega) (by omega) hB
    rw [← cellsL_append, ← List.length_append] at h3
    refine ⟨v', w', hr, ⟨h3, ?_⟩, h4⟩
    rcases h3.2 with ⟨e, _⟩ | ⟨g', c', cur, e, t1, t2, t3, t4, _⟩
    · have := h5.1 e
      simp at this
    · unfold maxLen at t4
      exact ⟨g', c', e, t3, by omega, t1, (Array.getElem?_eq_some_iff.1 t2).1⟩
theorem wp_append_lits {w : World} {o : Oper} {a : Act} {K : Act → World → Prop} {Q : Exit → Act → World → Prop} (s x : Operand)
    (ho : o.op = .call { callee := .builtin .append, args := #[s, x], argTypes := #[47, 47] }) (B : Nat) (v y : Value) (xs ys : List Lit) (hs : a.eval s = v) (hx : a.eval x = y) (hv : OwnL w B v xs) (hy : RdLits w y ys) (hB : B ≤ w.heap.size) (h1 : xs.length ≤ 1048576) (h2 : ys.length ≤ 1048576)
    (h : ∀ v' w', OwnL w' B v' (xs ++ ys) → w.grownBy w' v.ownBlock → K (a.put o.dst v') w') : o.wp Tryz.prog a w K Q := by
  obtain ⟨v', w', hr, h3, h4⟩ := run_append_lits w o.type B v y xs ys hv hy hB h1 h2
  unfold Oper.wp execOp
  simp only [ho, resolve, invoke, builtin, Sem.run_bind, Sem.run_pure, Result.andThen_ok, List.map_toArray, List.map_cons, List.map_nil, hs, hx, hr]
  exact h v' w' h3 h4
theorem wpList_append_lits {w : World} {ops : Array Oper} {rest : List Oper} {o : Oper} {a : Act} {Q : Exit → Act → World → Prop} (hgd : o.guard = none) (s x : Operand)
    (ho : o.op = .call { callee := .builtin .append, args := #[s, x], argTypes := #[47, 47] }) (B : Nat) (v y : Value) (xs ys : List Lit) (hs : a.eval s = v) (hx : a.eval x = y) (hv : OwnL w B v xs) (hy : RdLits w y ys) (hB : B ≤ w.heap.size) (h1 : xs.length ≤ 1048576) (h2 : ys.length ≤ 1048576)
    (h : ∀ v' w', OwnL w' B v' (xs ++ ys) → w.grownBy w' v.ownBlock → wpList Tryz.prog ops Q rest (a.put o.dst v') w') : wpList Tryz.prog ops Q (o :: rest) a w :=
  wpList_plain hgd fun _ hK => wp_append_lits s x ho B v y xs ys hs hx hv hy hB h1 h2 fun v' w' h3 h4 => hK _ _ (h v' w' h3 h4)
theorem step_append_lits {w : World} {ops : Array Oper} {o : Oper} {a : Act} {K : Act → World → Prop} {Q : Exit → Act → World → Prop} {E : Prop} (hgd : o.guard = none) (s x : Operand)
    (ho : o.op = .call { callee := .builtin .append, args := #[s, x], argTypes := #[47, 47] }) (B : Nat) (v y : Value) (xs ys : List Lit) (hs : a.eval s = v) (hx : a.eval x = y) (hv : OwnL w B v xs) (hy : RdLits w y ys) (hB : B ≤ w.heap.size) (h1 : xs.length ≤ 1048576) (h2 : ys.length ≤ 1048576)
    (h : ∀ v' w', OwnL w' B v' (xs ++ ys) → w.grownBy w' v.ownBlock → K (a.put o.dst v') w') : if Region.wanted o (yielded ops a.tmps) = true then Oper.wp Tryz.prog o a w K Q else E := by
  have hw : Region.wanted o (yielded ops a.tmps) = true := by simp [Region.wanted, hgd]
  rw [if_pos hw]
  exact wp_append_lits s x ho B v y xs ys hs hx hv hy hB h1 h2 h
/-- What leaves a clause of its own. -/
def LitsPost (ls : List Lit) (w : World) (e : Ending) (w' : World) : Prop := ∃ v, e = .returned v ∧ OwnL w' w.heap.size v ls ∧ Below w.heap.size w w'

/-- The place of b found by looking from the front. -/
theorem insL_pos (b : Lit) : ∀ (ls : List Lit) (k : Nat), k ≤ ls.length → (∀ (j : Nat) (l : Lit), j < k → ls[j]? = some l → litLt l b = true) → (∀ l, ls[k]? = some l → litLt l b = false) →
    insL ls b = if ls[k]? = some b then ls else ls.take k ++ b :: ls.drop k
  | [], k, hk, _, _ => by
    obtain rfl : k = 0 := by simpa using hk
    simp [insL]
  | a :: rest, 0, _, _, h2 => by
    have := h2 a rfl
    unfold insL
    rw [if_neg (by rw [this]; exact Bool.false_ne_true)]
    by_cases e : a = b
    · rw [if_pos e, if_pos (by simp [e])]
    · rw [if_neg e, if_neg (by simp [e])]
      rfl
  | a :: rest, k + 1, hk, h1, h2 => by
    have ha := h1 0 a (by omega) rfl
    have ih := insL_pos b rest k (by simpa using hk) (fun j l hj hl => h1 (j + 1) l (by omega) (by simpa using hl)) (fun l hl => h2 l (by simpa using hl))
    unfold insL
    rw [if_pos ha, ih]
    by_cases e : rest[k]? = some b
    · rw [if_pos e, if_pos (by simpa using e)]
    · rw [if_neg e, if_neg (by simpa using e)]
      rfl
theorem mrgL_snoc (out bs : List Lit) (k : Nat) (b : Lit) (h : bs[k]? = some b) : mrgL out (bs.take (k + 1)) = insL (mrgL out (bs.take k)) b := by
  unfold mrgL
  rw [List.take_add_one, h, List.foldl_append]
  rfl
end Go.Proofs.YtipapmmjfoaddaaGreat
