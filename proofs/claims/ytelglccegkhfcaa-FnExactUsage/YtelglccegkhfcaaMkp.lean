/- Makespan, both packages. -/
import Derived.Test.YtelglccegkhfcaaEng
import Derived.Deep.AppendLies
import Derived.BigQuiet
namespace Go.Proofs.Ytelglccegkhfcaa
open Go.ChangeShapes Go.WideShapes Go.ChangeAt Go.RowKit Go.Deep Go.Shelf
set_option linter.unusedVariables false
set_option linter.unusedSimpArgs false

/-- The cells of placed tasks. -/
def cells4 : List (Tsk × Int) → List Value
  | [] => []
  | p :: r => .int .i64 p.1.st :: .int .i64 p.1.du :: .int .i64 p.1.de :: .int .i64 p.2 :: cells4 r
theorem cells4_length : ∀ ps, (cells4 ps).length = ps.length * 4
  | [] => rfl
  | p :: r => by simp only [cells4, List.length_cons, cells4_length r]; omega
theorem cells4_append : ∀ ps qs, cells4 (ps ++ qs) = cells4 ps ++ cells4 qs
  | [], qs => rfl
  | p :: r, qs => by simp only [List.cons_append, cells4, cells4_append r qs]
theorem cells4_at : ∀ (ps : List (Tsk × Int)) (i : Nat) (p : Tsk × Int), ps[i]? = some p → (cells4 ps)[i * 4]? = some (.int .i64 p.1.st) ∧ (cells4 ps)[i * 4 + 1]? = some (.int .i64 p.1.du) ∧ (cells4 ps)[i * 4 + 2]? = some (.int .i64 p.1.de) ∧ (cells4 ps)[i * 4 + 3]? = some (.int .i64 p.2)
  | [], i, p, h => by simp at h
  | q :: r, 0, p, h => by simp at h; subst h; simp [cells4]
  | q :: r, i + 1, p, h => by
    have h2 := cells4_at r i p (by simpa using h)
    have e : ∀ j, (i + 1) * 4 + j = (i * 4 + j) + 4 := fun j => by omega
    have e0 : (i + 1) * 4 = i * 4 + 4 := by omega
    rw [e, e, e, e0]
    simpa [cells4] using h2
/-- The first k tasks with their starts. -/
def plc (ts : List Tsk) (xs : List Int) (k : Nat) : List (Tsk × Int) := (List.range k).map fun i => (tAt ts i, xAt xs i)
theorem plc_length (ts : List Tsk) (xs : List Int) (k : Nat) : (plc ts xs k).length = k := by unfold plc; simp
theorem plc_succ (ts : List Tsk) (xs : List Int) (k : Nat) : plc ts xs (k + 1) = plc ts xs k ++ [(tAt ts k, xAt xs k)] := by
  unfold plc
  rw [List.range_succ, List.map_append]
  rfl
theorem plc_at {ts : List Tsk} {xs : List Int} {n i : Nat} (h : i < n) : (plc ts xs n)[i]? = some (tAt ts i, xAt xs i) := by
  unfold plc
  simp [h]
section
set_option maxRecDepth 100000
theorem Try.infoPl : (Try.prog.info? 94).map (fun i => (i.zero, i.size, i.bytes)) = some (some (.agg #[.int .i64 0, .int .i64 0, .int .i64 0, .int .i64 0]), 4, 32) := by kernel_rfl
theorem exec_buildS {P : Program} {w w' : World} {ev : Operand → Value} {o : Oper} {ty : TypeId} {x : Operand} {u r : Value} (ho : o.op = .buildSlice ty 1 #[(0, x)]) (hx : ev x = u) (hl : (Instr.buildSlice ty 1 #[(0, u)]).run P w = .ok r w') : (execOp ev o).run P w = .ok (.value r) w' := by
  simp [execOp, ho, hx, hl, Result.andThen]
theorem build_onePl (w : World) (a b c d : Int) : (Instr.buildSlice 90 1 #[(0, .agg #[.int .i64 a, .int .i64 b, .int .i64 c, .int .i64 d])]).run Try.prog w = .ok (.slice (some ⟨w.heap.size, 0, none⟩) 1 1) (w.alloc (.cells #[.int .i64 a, .int .i64 b, .int .i64 c, .int .i64 d] 94)) := by
  go_simp
end
theorem cells_one4 (w : World) (t : TypeId) (u0 u1 u2 u3 : Value) (j : Nat) (u : Value) (h : [u0, u1, u2, u3][j]? = some u) : (w.alloc (.cells #[u0, u1, u2, u3] t)).cell? ((⟨w.heap.size, 0, none⟩ : Addr).add j) = some u := by
  rw [addr_add, Nat.zero_add]
  obtain ⟨c0, c1, c2, c3⟩ := (BlkQ.new w t u0 u1 u2 u3).cell
  have hj := (List.getElem?_eq_some_iff.1 h).1
  simp at hj
  rcases (show j = 0 ∨ j = 1 ∨ j = 2 ∨ j = 3 by omega) with rfl | rfl | rfl | rfl <;> simp at h <;> subst h <;> assumption
theorem step_append4 {w : World} {ops : Array Oper} {o : Oper} {a : Act} {K : Act → World → Prop} {Q : Exit → Act → World → Prop} {E : Prop} (hgd : o.guard = none) (s x : Operand)
    (ho : o.op = .call { callee := .builtin .append, args := #[s, x], argTypes := #[90, 90] }) (B : Nat) (v : Value) (xs : List Value) (n g : Nat) (z0 z1 z2 z3 : Int) (hs : a.eval s = v) (hx : a.eval x = .slice (some ⟨g, 0, none⟩) 1 1) (hv : w.ownsRow B 94 4 v n xs)
    (hg : ∀ j u, [Value.int .i64 z0, .int .i64 z1, .int .i64 z2, .int .i64 z3][j]? = some u → w.cell? ((⟨g, 0, none⟩ : Addr).add j) = some u) (hB : B ≤ w.heap.size) (hn : n ≤ 1048576)
    (h : ∀ v' w', w'.ownsRow B 94 4 v' (n + 1) (xs ++ [.int .i64 z0, .int .i64 z1, .int .i64 z2, .int .i64 z3]) → w.grownBy w' v.ownBlock → K (a.put o.dst v') w') : if Region.wanted o (yielded ops a.tmps) = true then Oper.wp Try.prog o a w K Q else E := by
  have hw : Region.wanted o (yielded ops a.tmps) = true := by simp [Region.wanted, hgd]
  rw [if_pos hw]
  obtain ⟨i0, hi, hz0, hz1, hz2⟩ := info_parts Try.infoPl
  obtain ⟨v', w', hr, h3, h4, h5⟩ := run_append_own_at (P := Try.prog) w B 90 o.type 94 i0 _ 4 32 Try.underlying90 hi hz0 hz1 hz2 rfl (by decide) v n xs hv ⟨g, 0, none⟩ 1 1 _ rfl hg (by simp [Value.oneCell']) (by unfold maxLen; omega) (by omega) hB
  unfold Oper.wp execOp
  simp only [ho, resolve, invoke, builtin, Sem.run_bind, Sem.run_pure, Result.andThen_ok, List.map_toArray, List.map_cons, List.map_nil, hs, hx, hr]
  exact h v' w' h3 h4
theorem cell_grownM {w w' : World} {row : Option Nat} (hg : w.grownBy w' row) {p : Addr} {x : Value} (h : w.cell? p = some x) (hne : some p.block ≠ row) : w'.cell? p = some x := by
  have hb := hg.block p.block (World.block_lt_of_cell? w _ h) hne
  unfold World.cell? at h ⊢
  rw [hb]
  exact h
/-- The activation inside the drawn region. -/
def plX (z0 z1 z2 z3 z4 z5 z6 z7 z8 z9 z10 z11 z12 z13 z14 z15 z16 z17 z18 z19 z20 z21 z22 z23 z24 z25 : Value) : Act := { tmps := #[z0, z1, z2, z3, z4, z5, z6, z7, z8, z9, z10, z11, z12, z13, z14, z15, z16, z17, z18, z19, z20, z21, z22, z23, z24, z25], defers := [] }
set_option maxRecDepth 100000 in
set_option maxHeartbeats 8000000 in
theorem placed_any (tv xv : Value) (ts : List Tsk) (xs : List Int) (w : World) (h : RdTsks w tv ts) (hx : RdInts w xv xs) (hl4 : ts.length ≤ 4) (hxl : xs.length = ts.length) :
    Calls Try.prog 70 #[tv, xv] w fun e w' => ∃ v, e = .returned v ∧ w'.ownsRow w.heap.size 94 4 v ts.length (cells4 (plc ts xs ts.length)) ∧ Below w.heap.size w w' := by
  have HC := Lib.hid h
  have HX := Lib.hid hx
  obtain ⟨a, cap, ev, hl, hm, _⟩ := h
  obtain ⟨ax, cx, ex, -⟩ := id hx
  obtain ⟨n, hn⟩ : ∃ n, n = ts.length := ⟨_, rfl⟩
  have HN := Lib.hid hn
  rw [ev] at HC ⊢
  rw [ex, hxl] at HX ⊢
  rw [← hn] at hl HC HX hl4 hxl ⊢
  have HXL := Lib.hid hxl
  unfold maxLen at hm
  have hcx := (rdInts_cap HX.out).2
  clear ev ex hn hxl hx
  go_enter Try.func70, Try.ntmps70
  go_wp2
  go_loopw [5, 10] (fun q i wr => ∃ k : Nat, k ≤ n ∧ i = .int .i64 k ∧ Hid (wr.ownsRow w.heap.size 94 4 q k (cells4 (plc ts xs k))) ∧ Hid (Below w.heap.size w wr)) (fun _ i _ => n - (intOf i).toNat)
  case atStart => exact ⟨0, Nat.zero_le _, rfl, Lib.hid (World.ownsRow_nil w w.heap.size 94 4), Lib.hid (Below.refl _ _)⟩
  case round =>
    obtain ⟨k, hk, rfl, HO, HB⟩ := hrel
    by_cases hlt : k < n
    · obtain ⟨b, off, t, rfl, hck, k0, k1, k2⟩ := rdTsks_at (HC.out.below HB.out) hlt
      have HTK : Hid (tAt ts k = t) := Lib.hid (tAt_of hck)
      obtain ⟨W1, hW1⟩ : ∃ W1, wr.alloc (.cells #[.int .i64 t.st, .int .i64 t.du, .int .i64 t.de] 38) = W1 := ⟨_, rfl⟩
      have hB1 : Below wr.heap.size wr W1 := by rw [← hW1]; exact (Below.refl _ _).alloc (Nat.le_refl _) _
      have bP : BlkT W1 wr.heap.size 38 (.int .i64 t.st) (.int .i64 t.du) (.int .i64 t.de) := by rw [← hW1]; exact BlkT.new _ _ _ _ _
      have HB1 := Lib.hid (HB.out.trans (hB1.mono HB.out.size))
      have HW := Lib.hid hW1
      obtain ⟨b2, o2, rfl, q2⟩ := rdInts_at HX.out hlt
      have HNE : Hid (some wr.heap.size ≠ u5.ownBlock ∧ some b2 ≠ u5.ownBlock) := Lib.hid ⟨fun e => by have := (HO.out.lt _ e.symm).2; omega, fun e => by have := (HO.out.lt _ e.symm).1; have := World.block_lt_of_cell? _ _ q2; simp at this; omega⟩
      have q2 := (HB1.out.cell (World.block_lt_of_cell? _ _ q2)).trans q2
      have HXK : Hid (xAt xs k = xs[k]?.getD 0) := Lib.hid rfl
      obtain ⟨s, hs⟩ : ∃ s, s = xs[k]?.getD 0 := ⟨_, rfl⟩
      rw [← hs] at q2 HXK
      have HO1 := Lib.hid (own_below HO.out (hB1.drew))
      have hS : W1.drew.cell? ⟨wr.heap.size, 0, none⟩ = some (.int .i64 t.st) ∧ W1.drew.cell? ⟨wr.heap.size, 1, none⟩ = some (.int .i64 t.du) ∧ W1.drew.cell? ⟨wr.heap.size, 2, none⟩ = some (.int .i64 t.de) ∧ W1.drew.cell? ⟨b2, o2 + k, none⟩ = some (.int .i64 s) := ⟨bP.cell.1, bP.cell.2.1, bP.cell.2.2, q2⟩
      have HBD := Lib.hid HB1.out.drew
      have HSZ : Hid (w.heap.size ≤ W1.drew.heap.size) := Lib.hid HBD.out.size
      clear hck hB1 bP hW1 hs q2
      go_wp2_with (rw [HW.out])
      clear k0 k1 k2
      refine region_x (fun w' => w'.cell? ⟨wr.heap.size, 0, none⟩ = some (.int .i64 t.st) ∧ w'.cell? ⟨wr.heap.size, 1, none⟩ = some (.int .i64 t.du) ∧ w'.cell? ⟨wr.heap.size, 2, none⟩ = some (.int .i64 t.de) ∧ w'.cell? ⟨b2, o2 + k, none⟩ = some (.int .i64 s)) (fun j => j == 9) (by kernel_rfl) ?_
      change wpAnyX Try.prog .any _ _ _ _ 10 _ (plX _ _ _ _ _ _ _ _ _ _ _ _ _ _ _ _ _ _ _ _ _ _ _ _ _ _) W1.drew
      refine wpAnyX_take (i := 0) (v := u5) rfl (by kernel_rfl) (by kernel_rfl) (by kernel_rfl) (by kernel_rfl) (fun _ _ _ h => h) (.inl ⟨rfl, fun w' hw' => rfl⟩) hS ?_
      change wpAnyX Try.prog .any _ _ _ _ 9 _ (plX _ _ _ _ _ _ _ _ _ _ _ _ _ _ _ (u5) _ _ _ _ _ _ _ _ _ _) W1.drew
      refine wpAnyX_take (i := 1) (v := .agg #[.int .i64 t.st, .int .i64 t.du, .int .i64 t.de]) rfl (by kernel_rfl) (by kernel_rfl) (by kernel_rfl) (by kernel_rfl) (fun _ _ _ h => h) (.inl ⟨rfl, fun w' hw' => exec_load rfl rfl (load_taskO w' _ _ _ _ hw'.1 hw'.2.1 hw'.2.2.1)⟩) hS ?_
      change wpAnyX Try.prog .any _ _ _ _ 8 _ (plX _ _ _ _ _ _ _ _ _ _ _ _ _ _ _ (u5) (.agg #[.int .i64 t.st, .int .i64 t.du, .int .i64 t.de]) _ _ _ _ _ _ _ _ _) W1.drew
      refine wpAnyX_take (i := 2) (v := .slice (some ⟨b2, o2, none⟩) n cx) rfl (by kernel_rfl) (by kernel_rfl) (by kernel_rfl) (by kernel_rfl) (fun _ _ _ h => h) (.inl ⟨rfl, fun w' hw' => rfl⟩) hS ?_
      change wpAnyX Try.prog .any _ _ _ _ 7 _ (plX _ _ _ _ _ _ _ _ _ _ _ _ _ _ _ (u5) (.agg #[.int .i64 t.st, .int .i64 t.du, .int .i64 t.de]) (.slice (some ⟨b2, o2, none⟩) n cx) _ _ _ _ _ _ _ _) W1.drew
      refine wpAnyX_take (i := 3) (v := .int .i64 k) rfl (by kernel_rfl) (by kernel_rfl) (by kernel_rfl) (by kernel_rfl) (fun _ _ _ h => h) (.inl ⟨rfl, fun w' hw' => rfl⟩) hS ?_
      change wpAnyX Try.prog .any _ _ _ _ 6 _ (plX _ _ _ _ _ _ _ _ _ _ _ _ _ _ _ (u5) (.agg #[.int .i64 t.st, .int .i64 t.du, .int .i64 t.de]) (.slice (some ⟨b2, o2, none⟩) n cx) (.int .i64 k) _ _ _ _ _ _ _) W1.drew
      refine wpAnyX_take (i := 4) (v := .pointer (some ⟨b2, o2 + k, none⟩)) rfl (by kernel_rfl) (by kernel_rfl) (by kernel_rfl) (by kernel_rfl) (fun _ _ _ h => h) (.inl ⟨rfl, fun w' hw' => exec_index rfl rfl rfl (index_ints w' _ _ _ _ _ hlt)⟩) hS ?_
      change wpAnyX Try.prog .any _ _ _ _ 5 _ (plX _ _ _ _ _ _ _ _ _ _ _ _ _ _ _ (u5) (.agg #[.int .i64 t.st, .int .i64 t.du, .int .i64 t.de]) (.slice (some ⟨b2, o2, none⟩) n cx) (.int .i64 k) (.pointer (some ⟨b2, o2 + k, none⟩)) _ _ _ _ _ _) W1.drew
      refine wpAnyX_take (i := 5) (v := .int .i64 s) rfl (by kernel_rfl) (by kernel_rfl) (by kernel_rfl) (by kernel_rfl) (fun _ _ _ h => h) (.inl ⟨rfl, fun w' hw' => exec_load rfl rfl (load_int w' _ _ _ hw'.2.2.2)⟩) hS ?_
      change wpAnyX Try.prog .any _ _ _ _ 4 _ (plX _ _ _ _ _ _ _ _ _ _ _ _ _ _ _ (u5) (.agg #[.int .i64 t.st, .int .i64 t.du, .int .i64 t.de]) (.slice (some ⟨b2, o2, none⟩) n cx) (.int .i64 k) (.pointer (some ⟨b2, o2 + k, none⟩)) (.int .i64 s) _ _ _ _ _) W1.drew
      refine wpAnyX_take (i := 6) (v := .agg #[.int .i64 t.st, .int .i64 t.du, .int .i64 t.de, .int .i64 s]) rfl (by kernel_rfl) (by kernel_rfl) (by kernel_rfl) (by kernel_rfl) (fun _ _ _ h => h) (.inl ⟨rfl, fun w' hw' => exec_buildP rfl rfl rfl⟩) hS ?_
      change wpAnyX Try.prog .any _ _ _ _ 3 _ (plX _ _ _ _ _ _ _ _ _ _ _ _ _ _ _ (u5) (.agg #[.int .i64 t.st, .int .i64 t.du, .int .i64 t.de]) (.slice (some ⟨b2, o2, none⟩) n cx) (.int .i64 k) (.pointer (some ⟨b2, o2 + k, none⟩)) (.int .i64 s) (.agg #[.int .i64 t.st, .int .i64 t.du, .int .i64 t.de, .int .i64 s]) _ _ _ _) W1.drew
      refine wpAnyX_one (i := 7) (by kernel_rfl) rfl (fun K' hK' => ?_)
      refine step_value _ (W1.drew.alloc (.cells #[.int .i64 t.st, .int .i64 t.du, .int .i64 t.de, .int .i64 s] 94)) rfl _ (exec_buildS rfl rfl (build_onePl W1.drew _ _ _ _)) ?_
      have hS7 : (W1.drew.alloc (.cells #[.int .i64 t.st, .int .i64 t.du, .int .i64 t.de, .int .i64 s] 94)).cell? ⟨wr.heap.size, 0, none⟩ = some (.int .i64 t.st) ∧ (W1.drew.alloc (.cells #[.int .i64 t.st, .int .i64 t.du, .int .i64 t.de, .int .i64 s] 94)).cell? ⟨wr.heap.size, 1, none⟩ = some (.int .i64 t.du) ∧ (W1.drew.alloc (.cells #[.int .i64 t.st, .int .i64 t.du, .int .i64 t.de, .int .i64 s] 94)).cell? ⟨wr.heap.size, 2, none⟩ = some (.int .i64 t.de) ∧ (W1.drew.alloc (.cells #[.int .i64 t.st, .int .i64 t.du, .int .i64 t.de, .int .i64 s] 94)).cell? ⟨b2, o2 + k, none⟩ = some (.int .i64 s) := ⟨(((belowT1 W1.drew (.cells #[.int .i64 t.st, .int .i64 t.du, .int .i64 t.de, .int .i64 s] 94)).cell (World.block_lt_of_cell? _ _ hS.1)).trans hS.1), (((belowT1 W1.drew (.cells #[.int .i64 t.st, .int .i64 t.du, .int .i64 t.de, .int .i64 s] 94)).cell (World.block_lt_of_cell? _ _ hS.2.1)).trans hS.2.1), (((belowT1 W1.drew (.cells #[.int .i64 t.st, .int .i64 t.du, .int .i64 t.de, .int .i64 s] 94)).cell (World.block_lt_of_cell? _ _ hS.2.2.1)).trans hS.2.2.1), (((belowT1 W1.drew (.cells #[.int .i64 t.st, .int .i64 t.du, .int .i64 t.de, .int .i64 s] 94)).cell (World.block_lt_of_cell? _ _ hS.2.2.2)).trans hS.2.2.2)⟩
      refine hK'.out _ _ (fun _ => hS7) ?_
      clear hK' K'
      change wpAnyX Try.prog .any _ _ _ _ 2 _ (plX _ _ _ _ _ _ _ _ _ _ _ _ _ _ _ (u5) (.agg #[.int .i64 t.st, .int .i64 t.du, .int .i64 t.de]) (.slice (some ⟨b2, o2, none⟩) n cx) (.int .i64 k) (.pointer (some ⟨b2, o2 + k, none⟩)) (.int .i64 s) (.agg #[.int .i64 t.st, .int .i64 t.du, .int .i64 t.de, .int .i64 s]) (.slice (some ⟨W1.drew.heap.size, 0, none⟩) 1 1) _ _ _) (W1.drew.alloc (.cells #[.int .i64 t.st, .int .i64 t.du, .int .i64 t.de, .int .i64 s] 94))
      refine wpAnyX_one (i := 8) (by kernel_rfl) rfl (fun K' hK' => ?_)
      refine step_append4 rfl _ _ rfl w.heap.size u5 (cells4 (plc ts xs k)) k W1.drew.heap.size _ _ _ _ rfl rfl (own_below HO1.out (belowT1 W1.drew (.cells #[.int .i64 t.st, .int .i64 t.du, .int .i64 t.de, .int .i64 s] 94))) (fun j u h => cells_one4 W1.drew _ _ _ _ _ j u h) (by have := HSZ.out; simp; exact Nat.le_succ_of_le this) (by omega) ?_
      intro v8 w8 own8 grow8
      have hS8 : w8.cell? ⟨wr.heap.size, 0, none⟩ = some (.int .i64 t.st) ∧ w8.cell? ⟨wr.heap.size, 1, none⟩ = some (.int .i64 t.du) ∧ w8.cell? ⟨wr.heap.size, 2, none⟩ = some (.int .i64 t.de) ∧ w8.cell? ⟨b2, o2 + k, none⟩ = some (.int .i64 s) := ⟨cell_grownM grow8 hS7.1 HNE.out.1, cell_grownM grow8 hS7.2.1 HNE.out.1, cell_grownM grow8 hS7.2.2.1 HNE.out.1, cell_grownM grow8 hS7.2.2.2 HNE.out.2⟩
      refine hK'.out _ _ (fun _ => hS8) ?_
      clear hK' K'
      change wpAnyX Try.prog .any _ _ _ _ 1 _ (plX _ _ _ _ _ _ _ _ _ _ _ _ _ _ _ (u5) (.agg #[.int .i64 t.st, .int .i64 t.du, .int .i64 t.de]) (.slice (some ⟨b2, o2, none⟩) n cx) (.int .i64 k) (.pointer (some ⟨b2, o2 + k, none⟩)) (.int .i64 s) (.agg #[.int .i64 t.st, .int .i64 t.du, .int .i64 t.de, .int .i64 s]) (.slice (some ⟨W1.drew.heap.size, 0, none⟩) 1 1) (v8) _ _) w8
      refine wpAnyX_one (i := 9) (by kernel_rfl) rfl (fun K' hK' => ?_)
      refine step_value _ w8 rfl _ rfl ?_
      refine hK'.out _ _ (fun h => by cases h) ?_
      clear hK' K'
      change wpAnyX Try.prog .any _ _ _ _ 0 _ (plX _ _ _ _ _ (v8) _ _ _ _ _ _ _ _ _ (u5) (.agg #[.int .i64 t.st, .int .i64 t.du, .int .i64 t.de]) (.slice (some ⟨b2, o2, none⟩) n cx) (.int .i64 k) (.pointer (some ⟨b2, o2 + k, none⟩)) (.int .i64 s) (.agg #[.int .i64 t.st, .int .i64 t.du, .int .i64 t.de, .int .i64 s]) (.slice (some ⟨W1.drew.heap.size, 0, none⟩) 1 1) (v8) _ _) w8
      refine wpAnyX_done (by kernel_rfl) ?_ _
      unfold plX
      have HO9 : Hid (w8.ownsRow w.heap.size 94 4 v8 (k + 1) (cells4 (plc ts xs (k + 1)))) := Lib.hid (by
        rw [plc_succ, cells4_append, HTK.out, HXK.out]
        exact own8)
      have HB9 : Hid (Below w.heap.size w w8) := Lib.hid ((HBD.out.alloc HSZ.out _).grown grow8 (by have := HSZ.out; simp; exact Nat.le_succ_of_le this) (fun r e => (HO1.out.lt r e).1))
      clear own8 grow8
      go_wp2
      go_roundw
      case rel => exact ⟨k + 1, by omega, by go_num, HO9, HB9⟩
      case measure => simp [intOf]; omega
    · obtain rfl : k = n := by omega
      go_wp2
      go_ret
      exact ⟨_, rfl, HO.out, HB.out⟩
end Go.Proofs.Ytelglccegkhfcaa
