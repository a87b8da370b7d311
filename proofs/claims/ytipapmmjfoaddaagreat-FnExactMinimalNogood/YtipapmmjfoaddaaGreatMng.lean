/- MinimalNogood, both packages. -/
import Derived.Test.YtipapmmjfoaddaaGreatRfu
import Derived.Test.YtipapmmjfoaddaaGreatPrC
import Derived.Test.YtipapmmjfoaddaaGreatLitR
import Derived.Test.YtipapmmjfoaddaaGreatLitHe
import Derived.Test.YtipapmmjfoaddaaGreatLitG
import Derived.Deep.RegionHeld3
namespace Go.Proofs.YtipapmmjfoaddaaGreat
open Go.ChangeShapes Go.WideShapes Go.ChangeAt Go.RowKit Go.Deep Go.Shelf
set_option linter.unusedVariables false
set_option linter.unusedSimpArgs false

/-! The program's library: Delete of one literal. -/
def lit0D : Lit := ⟨0, 0, false⟩
theorem zeroCells_litsD (n : Nat) : (Builtin.zeroCells #[.int .i64 0, .int .i64 0, .bool false] n).toList = cellsL (List.replicate n lit0D) := by
  apply List.ext_getElem?
  intro k
  by_cases hk : k < n * 3
  · have h3 : (List.replicate n lit0D)[k / 3]? = some lit0D := by rw [List.getElem?_replicate]; simp; omega
    obtain ⟨c0, c1, c2⟩ := cellsL_at _ _ _ h3
    have hz : (Builtin.zeroCells #[.int .i64 0, .int .i64 0, .bool false] n).toList[k]? = some (#[Value.int .i64 0, Value.int .i64 0, Value.bool false][k % 3]!) := by
      simp [Builtin.zeroCells, hk]
    rw [hz]
    rcases (show k % 3 = 0 ∨ k % 3 = 1 ∨ k % 3 = 2 by omega) with e | e | e
    · rw [e, show k = k / 3 * 3 from by omega, c0]; rfl
    · rw [e, show k = k / 3 * 3 + 1 from by omega, c1]; rfl
    · rw [e, show k = k / 3 * 3 + 2 from by omega, c2]; rfl
  · rw [List.getElem?_eq_none (by simp [Builtin.zeroCells]; omega), List.getElem?_eq_none (by rw [cellsL_length]; simp; omega)]
set_option maxRecDepth 100000 in
theorem zero_litD (w : World) : (zeroValue 91).run Tryz.prog w = .ok (.agg #[.int .i64 0, .int .i64 0, .bool false]) w := by
  go_simp
theorem run_clear_litsD (w : World) (ty : TypeId) (b o n c : Nat) (hn : 0 < n) (hc : ∀ j, j < n * 3 → (w.cell? ⟨b, o + j, none⟩).isSome = true) (hf : ∀ j, j < n * 3 → w.frozen? ⟨b, o + j, none⟩ = false) :
    (Builtin.clear_ #[47] ty #[.slice (some ⟨b, o, none⟩) n c]).run Tryz.prog w = .ok (.tuple #[]) (w.setCells b o (cellsL (List.replicate n lit0D))) := by
  have hst := run_storeCells_cells (P := Tryz.prog) b o (cellsL (List.replicate n lit0D)) 0 w (by rw [cellsL_length]; simpa using hc) (by rw [cellsL_length]; simpa using hf) (cellsL_one _)
  simp only [Nat.add_zero] at hst
  obtain ⟨m, rfl⟩ : ∃ m, n = m + 1 := ⟨n - 1, by omega⟩
  have hzc := zeroCells_litsD (m + 1)
  simp [Builtin.clear_, run_underlying Tryz.underlying47, zero_litD, Value.cells, hzc, hst]
theorem own_setCellsD {B g n c : Nat} {e : TypeId} {sz : Nat} (o0 : Nat) : ∀ (vs : List Value) (o : Nat) (w : World) (xs : List Value), o0 ≤ o → w.ownsRow B e sz (.slice (some ⟨g, 0, none⟩) n c) n xs → ∃ ys, (w.setCells g o vs).ownsRow B e sz (.slice (some ⟨g, 0, none⟩) n c) n ys ∧ ys.take o0 = xs.take o0
  | [], o, w, xs, h0, h => ⟨xs, h, rfl⟩
  | v :: vs, o, w, xs, h0, h => by
    obtain ⟨ys, h1, h2⟩ := own_setCellsD o0 vs (o + 1) (w.setCell ⟨g, o, none⟩ v) (xs.set o v) (by omega) (h.stored o v).1
    refine ⟨ys, h1, ?_⟩
    rw [h2, List.take_set_of_le (by omega)]
theorem own_takeD {w : World} {B g n c k : Nat} {e : TypeId} {sz : Nat} {xs : List Value} (h : w.ownsRow B e sz (.slice (some ⟨g, 0, none⟩) n c) n xs) (hk : k ≤ n) : w.ownsRow B e sz (.slice (some ⟨g, 0, none⟩) k c) k (xs.take (k * sz)) := by
  obtain ⟨h0, h1⟩ := h
  have hks : k * sz ≤ n * sz := Nat.mul_le_mul_right _ hk
  refine ⟨by rw [List.length_take, h0]; omega, ?_⟩
  rcases h1 with ⟨e, _⟩ | ⟨g', cap, cur, ev, t1, t2, t3, t4, t5, t6⟩
  · cases e
  · simp at ev
    obtain ⟨rfl, rfl⟩ := ev
    exact .inr ⟨g, c, cur, rfl, t1, t2, by omega, t4, t5, by rw [← t6, List.take_take]; congr 1; omega⟩
theorem cellsL_takeD : ∀ (ls : List Lit) (k : Nat), (cellsL ls).take (k * 3) = cellsL (ls.take k)
  | [], k => by simp [cellsL]
  | a :: ls, 0 => by simp [cellsL]
  | a :: ls, k + 1 => by
    rw [show (k + 1) * 3 = k * 3 + 1 + 1 + 1 from by omega]
    simp only [cellsL, List.take_succ_cons]
    rw [cellsL_takeD ls k]
theorem own_growD {w : World} {B g k n c : Nat} {e : TypeId} {sz : Nat} {xs : List Value} (h : w.ownsRow B e sz (.slice (some ⟨g, 0, none⟩) k c) k xs) (hk : k ≤ n) (hn : n ≤ c) :
    ∃ ys, w.ownsRow B e sz (.slice (some ⟨g, 0, none⟩) n c) n ys ∧ ys.take (k * sz) = xs := by
  obtain ⟨h0, h1⟩ := h
  rcases h1 with ⟨e, _⟩ | ⟨g', cap, cur, ev, t1, t2, t3, t4, t5, t6⟩
  · cases e
  · simp at ev
    obtain ⟨rfl, rfl⟩ := ev
    have h1 : n * sz ≤ c * sz := Nat.mul_le_mul_right _ hn
    have h2 : k * sz ≤ n * sz := Nat.mul_le_mul_right _ hk
    refine ⟨cur.toList.take (n * sz), ⟨?_, .inr ⟨g, c, cur, rfl, t1, t2, hn, t4, t5, rfl⟩⟩, ?_⟩
    · rw [List.length_take, Array.length_toList, t5]; omega
    · rw [List.take_take, Nat.min_eq_left h2]; exact t6
theorem rdLits_tailD {w : World} {g n c k : Nat} {ls : List Lit} (h : RdLits w (.slice (some ⟨g, 0, none⟩) n c) ls) (hk : k ≤ n) : RdLits w (.slice (some (if c = k then ⟨g, 0, none⟩ else ⟨g, k * 3, none⟩)) (n - k) (c - k)) (ls.drop k) := by
  obtain ⟨a, cap, e, h2, h3, h4⟩ := h
  simp at e
  obtain ⟨rfl, rfl, rfl⟩ := e
  have hl : (ls.drop k).length = ls.length - k := by simp
  refine ⟨_, c - k, by rw [hl], by rw [hl]; omega, by omega, ?_⟩
  by_cases e : ls.length = k
  · exact .inl (by rw [hl]; omega)
  · rw [if_neg (by omega)]
    rcases h4 with h4 | ⟨b, off, e', h4⟩
    · exact .inl (by rw [hl]; omega)
    · simp at e'
      obtain ⟨rfl, rfl⟩ := e'
      refine .inr ⟨g, k * 3, rfl, fun i l hi => ?_⟩
      rw [List.getElem?_drop] at hi
      have := h4 _ l hi
      rw [show 0 + (k + i) * 3 = k * 3 + i * 3 from by omega] at this
      exact this
theorem tail_readsD {w : World} {ad : Addr} {n c : Nat} {ls : List Lit} (h : RdLits w (.slice (some ad) n c) ls) : ∀ j u, (cellsL ls)[j]? = some u → w.cell? (ad.add j) = some u := by
  obtain ⟨a, cap, e, h2, h3, h4⟩ := h
  injection e with e1 e2 e3
  rcases h4 with h4 | ⟨b, off, e', h4⟩
  · intro j u hu
    rw [List.eq_nil_of_length_eq_zero h4] at hu
    simp [cellsL] at hu
  · rw [← e1] at e'
    injection e' with e'
    rw [e']
    exact cellsL_reads ls h4
set_option maxRecDepth 100000 in
theorem slice_toD (w : World) (g n c k : Nat) (h1 : k ≤ n) (h2 : n ≤ c) (h3 : c ≤ 9223372036854775807) : (Instr.sliceAt 47 (.slice (some ⟨g, 0, none⟩) n c) none (some (.int .i64 k)) none).run Tryz.prog w = .ok (.slice (some ⟨g, 0, none⟩) k c) w := by
  have h4 : k ≤ c := by omega
  go_simp
theorem exec_sliceToD {P : Program} {w : World} {ev : Operand → Value} {o : Oper} {ty : TypeId} {x y : Operand} {u v r : Value} (ho : o.op = .slice ty x none (some y) none) (hx : ev x = u) (hy : ev y = v) (hl : (Instr.sliceAt ty u none (some v) none).run P w = .ok r w) : (execOp ev o).run P w = .ok (.value r) w := by
  unfold execOp
  simp only [ho, hx, hy, Option.map_some, Option.map_none, Sem.run_bind, Sem.run_pure, Result.andThen_ok, hl]
/-- The activation inside the drawn region of Delete. -/
def dlAct (z0 z1 z2 z3 z4 z5 z6 z7 z8 z9 z10 z11 z12 z13 z14 z15 z16 z17 z18 z19 z20 z21 z22 z23 z24 z25 z26 z27 z28 z29 z30 z31 z32 : Value) : Act := { tmps := #[z0, z1, z2, z3, z4, z5, z6, z7, z8, z9, z10, z11, z12, z13, z14, z15, z16, z17, z18, z19, z20, z21, z22, z23, z24, z25, z26, z27, z28, z29, z30, z31, z32], defers := [] }

set_option maxRecDepth 100000 in
set_option maxHeartbeats 16000000 in
theorem delete_any (ls : List Lit) (i k n q B c g : Nat) (w : World) (h : OwnC w B (.slice (some ⟨g, 0, none⟩) n c) n ls) (hik : k = i + 1) (hqn : n = q + 1) (hi : i < n) (hB : B ≤ w.heap.size) (hc63 : c ≤ 9223372036854775807) (hnc : n ≤ c) (hn : n ≤ 1000) :
    Calls Tryz.prog 124 #[.slice (some ⟨g, 0, none⟩) n c, .int .i64 i, .int .i64 k] w fun e w' => e = .returned (.slice (some ⟨g, 0, none⟩) q c) ∧ OwnC w' B (.slice (some ⟨g, 0, none⟩) q c) q (ls.take i ++ ls.drop k) ∧ Below B w w' := by
  have HO : Hid (OwnC w.drew B (.slice (some ⟨g, 0, none⟩) n c) n ls) := Lib.hid (h.below (Below.refl _ _).drew)
  have hlen := h.1
  have HSZ : Hid (i + (n - k) = q) := Lib.hid (by omega)
  have HTL : Hid ((ls.take i).length = i) := Lib.hid (by rw [List.length_take]; omega)
  have HDL : Hid ((ls.drop k).length = n - k) := Lib.hid (by rw [List.length_drop]; omega)
  have HTK : Hid (w.drew.ownsRow B 91 3 (.slice (some ⟨g, 0, none⟩) i c) i (cellsL (ls.take i))) := Lib.hid (by
    have := own_takeD HO.out.2 (show i ≤ n by omega)
    rw [cellsL_takeD] at this
    exact this)
  obtain ⟨ta, hta⟩ : ∃ ta : Addr, ta = (if c = k then ⟨g, 0, none⟩ else ⟨g, k * 3, none⟩) := ⟨_, rfl⟩
  have HTR : Hid (RdLits w.drew (.slice (some ta) (n - k) (c - k)) (ls.drop k)) := Lib.hid (by rw [hta]; exact rdLits_tailD (k := k) (OwnC.rdN HO.out) (by omega))
  have HTA := Lib.hid hta
  have HBQ := Lib.hid (show ∀ q, (Value.slice (some ⟨g, 0, none⟩) i c).ownBlock = some q → B ≤ q from fun q e => (HO.out.2.lt q (by simpa [Value.ownBlock] using e)).1)
  obtain ⟨i0, hi0, hz0, hz1, hz2⟩ := info_parts Tryz.infoLit
  have hik1 : i ≤ k := by omega
  have hkn : k ≤ n := by omega
  have hne1 : ¬ n = i := by omega
  have hne2 : ¬ i = k := by omega
  have hne3 : ((i : Int) == (k : Int)) = false := by simp; omega
  have hqn1 : q ≤ n := by omega
  have hqc : q ≤ c := by omega
  have hne4 : ¬ c = q := by omega
  have HQN := Lib.hid hqn
  have HBB := Lib.hid hB
  clear h hlen hik hqn hB hta
  go_enter Tryz.func124, Tryz.ntmps124
  go_wp2_with fail
  refine region_x (fun _ => True) (fun _ => false) rfl ?_
  change wpAnyX Tryz.prog .any _ _ _ _ 8 _ (dlAct _ _ _ _ _ _ _ _ _ _ _ _ _ _ _ _ _ _ _ _ _ _ _ _ _ _ _ _ _ _ _ _ _) w.drew
  refine wpAnyX_take (i := 0) (v := .slice (some ⟨g, 0, none⟩) n c) rfl (by kernel_rfl) (by kernel_rfl) (by kernel_rfl) (by kernel_rfl) (fun _ _ _ h => h) (.inl ⟨rfl, fun w' hw' => rfl⟩) trivial ?_
  change wpAnyX Tryz.prog .any _ _ _ _ 7 _ (dlAct _ _ _ _ _ _ _ _ _ _ _ _ _ _ _ _ _ _ _ _ (.slice (some ⟨g, 0, none⟩) n c) _ _ _ _ _ _ _ _ _ _ _ _) w.drew
  refine wpAnyX_take (i := 1) (v := .int .i64 i) rfl (by kernel_rfl) (by kernel_rfl) (by kernel_rfl) (by kernel_rfl) (fun _ _ _ h => h) (.inl ⟨rfl, fun w' hw' => rfl⟩) trivial ?_
  change wpAnyX Tryz.prog .any _ _ _ _ 6 _ (dlAct _ _ _ _ _ _ _ _ _ _ _ _ _ _ _ _ _ _ _ _ (.slice (some ⟨g, 0, none⟩) n c) (.int .i64 i) _ _ _ _ _ _ _ _ _ _ _) w.drew
  refine wpAnyX_take (i := 2) (v := .slice (some ⟨g, 0, none⟩) i c) rfl (by kernel_rfl) (by kernel_rfl) (by kernel_rfl) (by kernel_rfl) (fun _ _ _ h => h) (.inl ⟨rfl, fun w' hw' => exec_sliceToD rfl rfl rfl (slice_toD w' _ _ _ _ (Nat.le_of_lt hi) hnc hc63)⟩) trivial ?_
  change wpAnyX Tryz.prog .any _ _ _ _ 5 _ (dlAct _ _ _ _ _ _ _ _ _ _ _ _ _ _ _ _ _ _ _ _ (.slice (some ⟨g, 0, none⟩) n c) (.int .i64 i) (.slice (some ⟨g, 0, none⟩) i c) _ _ _ _ _ _ _ _ _ _) w.drew
  refine wpAnyX_take (i := 3) (v := .slice (some ⟨g, 0, none⟩) n c) rfl (by kernel_rfl) (by kernel_rfl) (by kernel_rfl) (by kernel_rfl) (fun _ _ _ h => h) (.inl ⟨rfl, fun w' hw' => rfl⟩) trivial ?_
  change wpAnyX Tryz.prog .any _ _ _ _ 4 _ (dlAct _ _ _ _ _ _ _ _ _ _ _ _ _ _ _ _ _ _ _ _ (.slice (some ⟨g, 0, none⟩) n c) (.int .i64 i) (.slice (some ⟨g, 0, none⟩) i c) (.slice (some ⟨g, 0, none⟩) n c) _ _ _ _ _ _ _ _ _) w.drew
  refine wpAnyX_take (i := 4) (v := .int .i64 k) rfl (by kernel_rfl) (by kernel_rfl) (by kernel_rfl) (by kernel_rfl) (fun _ _ _ h => h) (.inl ⟨rfl, fun w' hw' => rfl⟩) trivial ?_
  change wpAnyX Tryz.prog .any _ _ _ _ 3 _ (dlAct _ _ _ _ _ _ _ _ _ _ _ _ _ _ _ _ _ _ _ _ (.slice (some ⟨g, 0, none⟩) n c) (.int .i64 i) (.slice (some ⟨g, 0, none⟩) i c) (.slice (some ⟨g, 0, none⟩) n c) (.int .i64 k) _ _ _ _ _ _ _ _) w.drew
  refine wpAnyX_take (i := 5) (v := .slice (some ta) (n - k) (c - k)) rfl (by kernel_rfl) (by kernel_rfl) (by kernel_rfl) (by kernel_rfl) (fun _ _ _ h => h) (.inl ⟨rfl, fun w' hw' => exec_slice1 rfl rfl rfl ((slice_tail w' _ _ _ _ hkn hnc hc63).trans (by rw [← HTA.out]))⟩) trivial ?_
  change wpAnyX Tryz.prog .any _ _ _ _ 2 _ (dlAct _ _ _ _ _ _ _ _ _ _ _ _ _ _ _ _ _ _ _ _ (.slice (some ⟨g, 0, none⟩) n c) (.int .i64 i) (.slice (some ⟨g, 0, none⟩) i c) (.slice (some ⟨g, 0, none⟩) n c) (.int .i64 k) (.slice (some ta) (n - k) (c - k)) _ _ _ _ _ _ _) w.drew
  refine wpAnyX_one (i := 6) (by kernel_rfl) rfl (fun K' hK' => ?_)
  refine step_append_fits _ rfl _ _ 47 rfl B 91 i0 3 Tryz.underlying47 hi0 hz1 g i c (cellsL (ls.take i)) rfl HTK.out ta (n - k) (c - k) (cellsL (ls.drop k)) rfl (by rw [cellsL_length, HDL.out]) (tail_readsD HTR.out) (cellsL_one _) (by omega) ?_
  intro w8 own8 grow8
  rw [HSZ.out] at own8 ⊢
  refine hK'.out _ _ (fun _ => trivial) ?_
  clear hK' K'
  change wpAnyX Tryz.prog .any _ _ _ _ 1 _ (dlAct _ _ _ _ _ _ _ _ _ _ _ _ _ _ _ _ _ _ _ _ (.slice (some ⟨g, 0, none⟩) n c) (.int .i64 i) (.slice (some ⟨g, 0, none⟩) i c) (.slice (some ⟨g, 0, none⟩) n c) (.int .i64 k) (.slice (some ta) (n - k) (c - k)) (.slice (some ⟨g, 0, none⟩) q c) _ _ _ _ _ _) w8
  refine wpAnyX_take (i := 7) (v := .slice (some ⟨g, 0, none⟩) q c) rfl (by kernel_rfl) (by kernel_rfl) (by kernel_rfl) (by kernel_rfl) (fun _ _ _ h => h) (.inl ⟨rfl, fun w' hw' => rfl⟩) trivial ?_
  change wpAnyX Tryz.prog .any _ _ _ _ 0 _ (dlAct (.slice (some ⟨g, 0, none⟩) q c) _ _ _ _ _ _ _ _ _ _ _ _ _ _ _ _ _ _ _ (.slice (some ⟨g, 0, none⟩) n c) (.int .i64 i) (.slice (some ⟨g, 0, none⟩) i c) (.slice (some ⟨g, 0, none⟩) n c) (.int .i64 k) (.slice (some ta) (n - k) (c - k)) (.slice (some ⟨g, 0, none⟩) q c) _ _ _ _ _ _) w8
  refine wpAnyX_done (by kernel_rfl) ?_ _
  unfold dlAct
  have B8 : Below B w w8 := ((Below.refl B w).drew).grown grow8 HBB.out HBQ.out
  obtain ⟨ys, hy0, hy1⟩ := own_growD own8 hqn1 hnc
  have hcl := run_clear_litsD w8 0 g (q * 3) (n - q) (c - q) (by have := HQN.out; omega) (fun j hj => by
    rw [hy0.cellAt _ (by omega), List.getElem?_eq_getElem (by rw [hy0.1]; omega)]
    rfl) (fun j hj => hy0.frozenAt _)
  obtain ⟨zs, hz3, hz4⟩ := own_setCellsD (q * 3) (cellsL (List.replicate (n - q) lit0D)) (q * 3) w8 ys (Nat.le_refl _) hy0
  have hgB : B ≤ g := HBQ.out g rfl
  have hbz := below_setCells hgB (cellsL (List.replicate (n - q) lit0D)) (q * 3) w8 B8
  obtain ⟨W9, hW9⟩ : ∃ W9, w8.setCells g (q * 3) (cellsL (List.replicate (n - q) lit0D)) = W9 := ⟨_, rfl⟩
  rw [hW9] at hcl hz3 hbz
  have HFO : Hid (OwnC W9 B (.slice (some ⟨g, 0, none⟩) q c) q (ls.take i ++ ls.drop k)) := Lib.hid (by
    refine ⟨by rw [List.length_append, HTL.out, HDL.out]; exact HSZ.out, ?_⟩
    have := own_takeD hz3 hqn1
    rw [hz4, hy1, ← cellsL_append] at this
    exact this)
  have HFB := Lib.hid hbz
  clear hW9 hy0 hy1 hz3 hz4 hbz B8 own8 grow8
  go_wp2
  go_ret
  exact ⟨rfl, HFO.out, HFB.out⟩

/-! What is left when each literal is dropped in order. -/
def dropAt (ls : List Lit) (i : Nat) : List Lit := ls.take i ++ ls.drop (i + 1)
theorem dropAt_len {ls : List Lit} {i : Nat} (h : i < ls.length) : (dropAt ls i).length = ls.length - 1 := by
  unfold dropAt
  rw [List.length_append, List.length_take, List.length_drop]
  omega
def redL (p : List Lit → Bool) : Nat → List Lit → Nat → List Lit
  | 0, ls, _ => ls
  | f + 1, ls, i => if i < ls.length then (if p (dropAt ls i) = true then redL p f (dropAt ls i) i else redL p f ls (i + 1)) else ls
theorem redL_succ (p : List Lit → Bool) (f : Nat) (ls : List Lit) (i : Nat) : redL p (f + 1) ls i = if i < ls.length then (if p (dropAt ls i) = true then redL p f (dropAt ls i) i else redL p f ls (i + 1)) else ls := rfl
theorem redL_le (p : List Lit → Bool) : ∀ (f : Nat) (ls : List Lit) (i : Nat), (redL p f ls i).length ≤ ls.length
  | 0, ls, _ => Nat.le_refl _
  | f + 1, ls, i => by
    unfold redL
    split
    · rename_i h
      split
      · have := redL_le p f (dropAt ls i) i
        rw [dropAt_len h] at this
        omega
      · exact redL_le p f ls (i + 1)
    · exact Nat.le_refl _
/-- The state of the loop: what is left at i. -/
structure RedSt (p : List Lit → Bool) (ls ks : List Lit) (k n : Nat) : Prop where
  asc : Asc ks
  len : ks.length ≤ 12
  on : LitsOn ks n
  eq : redL p (ks.length - k) ks k = redL p ls.length ls 0
theorem RedSt.start {p : List Lit → Bool} {ls : List Lit} {n : Nat} (h1 : Asc ls) (h2 : ls.length ≤ 12) (h3 : LitsOn ls n) : RedSt p ls ls 0 n := ⟨h1, h2, h3, rfl⟩
theorem mem_dropAt {ls : List Lit} {i : Nat} {l : Lit} (h : l ∈ dropAt ls i) : l ∈ ls := by
  unfold dropAt at h
  rcases List.mem_append.1 h with h | h
  · exact List.mem_of_mem_take h
  · exact List.mem_of_mem_drop h
theorem asc_dropAt {ls : List Lit} {i : Nat} (h : Asc ls) : Asc (dropAt ls i) := by
  have hp : Asc (ls.take i ++ ls.drop i) := by rw [List.take_append_drop]; exact h
  unfold Asc at hp
  rw [List.pairwise_append] at hp
  unfold dropAt Asc
  rw [List.pairwise_append]
  refine ⟨hp.1, ?_, fun a ha b hb => hp.2.2 a ha b ?_⟩
  · rw [← List.drop_drop]
    exact hp.2.1.sublist (List.drop_sublist _ _)
  · rw [← List.drop_drop] at hb
    exact List.mem_of_mem_drop hb
theorem RedSt.yes {p : List Lit → Bool} {ls ks : List Lit} {k n : Nat} (h : RedSt p ls ks k n) (hk : k < ks.length) (hp : p (dropAt ks k) = true) : RedSt p ls (dropAt ks k) k n := by
  refine ⟨asc_dropAt h.asc, by rw [dropAt_len hk]; have := h.len; omega, fun l hl => h.on l (mem_dropAt hl), ?_⟩
  have h1 := h.eq
  obtain ⟨f, hf⟩ : ∃ f, ks.length - k = f + 1 := ⟨ks.length - k - 1, by omega⟩
  rw [hf, redL_succ, if_pos hk, if_pos hp] at h1
  rw [dropAt_len hk, show ks.length - 1 - k = f from by omega]
  exact h1
theorem RedSt.no {p : List Lit → Bool} {ls ks : List Lit} {k n : Nat} (h : RedSt p ls ks k n) (hk : k < ks.length) (hp : p (dropAt ks k) = false) : RedSt p ls ks (k + 1) n := by
  refine ⟨h.asc, h.len, h.on, ?_⟩
  have h1 := h.eq
  obtain ⟨f, hf⟩ : ∃ f, ks.length - k = f + 1 := ⟨ks.length - k - 1, by omega⟩
  rw [hf, redL_succ, if_pos hk, if_neg (by rw [hp]; decide)] at h1
  rw [show ks.length - (k + 1) = f from by omega]
  exact h1
theorem RedSt.fin {p : List Lit → Bool} {ls ks : List Lit} {k n : Nat} (h : RedSt p ls ks k n) (hk : k = ks.length) : ks = redL p ls.length ls 0 := by
  have h1 := h.eq
  rw [hk, Nat.sub_self] at h1
  exact h1
theorem wio_at {ks : List Lit} (h : Asc ks) {i : Nat} {l : Lit} (hi : ks[i]? = some l) : wioL ks l = dropAt ks i := by
  obtain ⟨hlt, he⟩ := List.getElem?_eq_some_iff.1 hi
  have hsplit : ks = ks.take i ++ l :: ks.drop (i + 1) := by
    have := (List.take_append_drop i ks).symm
    rw [List.drop_eq_getElem_cons hlt, he] at this
    exact this
  have hp : Asc (ks.take i ++ l :: ks.drop (i + 1)) := by rw [← hsplit]; exact h
  unfold Asc at hp
  rw [List.pairwise_append] at hp
  obtain ⟨h1, h2, h3⟩ := hp
  have h4 := (List.pairwise_cons.1 h2).1
  have e1 : (ks.take i).filter (fun o => !decide (o = l)) = ks.take i := List.filter_eq_self.2 (fun x hx => by
    have := h3 x hx l (List.mem_cons_self ..)
    simp
    intro e
    rw [e, litLt_irrefl] at this
    cases this)
  have e2 : (ks.drop (i + 1)).filter (fun o => !decide (o = l)) = ks.drop (i + 1) := List.filter_eq_self.2 (fun x hx => by
    have := h4 x hx
    simp
    intro e
    rw [e, litLt_irrefl] at this
    cases this)
  unfold wioL dropAt
  conv => lhs; rw [hsplit]
  rw [List.filter_append, List.filter_cons, e1, e2]
  simp
def sliceLen : Value → Nat
  | .slice _ n _ => n
  | _ => 0
/-- Do the constraints refute it? -/
def refP (m : Mod) (c : List Lit) : Bool := emptyB (clfL m.cons [] (restL m.doms c))
def nogL (m : Mod) (ls : List Lit) : List Lit := if rftB m ls then redL (refP m) ls.length ls 0 else []
theorem rft_parts {m : Mod} {ls : List Lit} (h : rftB m ls = true) : vmB m = true ∧ LitsOn ls m.doms.length ∧ ls.length ≤ 12 ∧ Asc ls := by
  have h1 : cjB m ls = true := by
    unfold rftB at h
    rw [Bool.and_eq_true] at h
    exact h.1
  obtain ⟨a, b, c⟩ := cjB_parts h1
  refine ⟨a, b, c, ?_⟩
  unfold cjB at h1
  rw [Bool.and_eq_true] at h1
  exact clB_asc h1.2
theorem nogL_le (m : Mod) (ls : List Lit) : (nogL m ls).length ≤ 1048576 := by
  unfold nogL
  split
  · rename_i h
    have h1 := redL_le (refP m) ls.length ls 0
    have h2 := (rft_parts h).2.2.1
    omega
  · simp

/-! The reference. -/
set_option maxRecDepth 100000 in
set_option maxHeartbeats 8000000 in
theorem srefuted_any (m : Mod) (v cv lv : Value) (cls : List (List Lit)) (c : List Lit) (w : World) (h : RdModel w v m) (hc : RdClz w cv cls) (hl : RdLits w lv c) (hv : vmB m = true) (hp : ∀ ls ∈ cls, LitsOn ls m.doms.length) (hlo : LitsOn c m.doms.length) :
    Calls Tryz.prog 122 #[v, cv, lv] w (BoolPost (emptyB (clfL m.cons cls (restL m.doms c))) w) := by
  obtain ⟨a1, a2, c1, c2, rfl, g1, g2⟩ := rdModel_slices h
  obtain ⟨la, lc, elv, -⟩ := id hl
  obtain ⟨ca, cc, ecv, -⟩ := id hc
  obtain ⟨W1, hW1⟩ : ∃ W1, w.alloc (.cells #[.slice a1 m.doms.length c1, .slice a2 m.cons.length c2] 30) = W1 := ⟨_, rfl⟩
  have B1 : Below w.heap.size w W1 := by rw [← hW1]; exact (Below.refl _ _).alloc (Nat.le_refl _) _
  have bP : Blk2 W1 w.heap.size 30 (.slice a1 m.doms.length c1) (.slice a2 m.cons.length c2) := by rw [← hW1]; exact Blk2.new w _ _ _
  obtain ⟨s1, s2, s3, s4⟩ := doms_small' hv
  have hrn := restL_domN (n := m.doms.length) ⟨rfl, s1⟩ hlo
  have HAS := Lib.hid (srestrictTo_any (.slice a1 m.doms.length c1) lv m.doms c W1.drew ((g1.below B1).below (Below.refl _ _).drew) ((hl.below B1).below (Below.refl _ _).drew) hlo s1 s3 s2)
  have HRF := Lib.hid (fun (Y : World) (xv : Value) (hb : Below W1.heap.size W1 Y) (hx : RdInts Y xv (restL m.doms c)) => srefute_any m _ cv xv cls (restL m.doms c) Y ((h.below B1).below hb) ((hc.below B1).below hb) hx (by rw [hrn.len]; exact hp) (by rw [hrn.len]; exact s3) (by rw [hrn.len]; exact s2) hrn.small (by rw [hrn.len]; exact fun c hc => okC_mem hv hc) s4)
  have HB1 := Lib.hid B1
  have HW := Lib.hid hW1
  have HP := Lib.hid bP
  obtain ⟨rr, hrr⟩ : ∃ rr, rr = restL m.doms c := ⟨_, rfl⟩
  rw [← hrr] at HAS HRF ⊢
  obtain ⟨eb, heb⟩ : ∃ eb, eb = emptyB (clfL m.cons cls rr) := ⟨_, rfl⟩
  rw [← heb] at HRF ⊢
  subst elv ecv
  clear h hl hc hv hp hlo s1 s2 s3 s4 hrn g1 g2 hW1 B1 bP hrr heb
  obtain ⟨p0, p1⟩ := HP.out.cell
  go_enter Tryz.func122, Tryz.ntmps122
  go_wp2_with fail
  rw [HW.out]
  go_region_held3 (fun w' => w'.cell? ⟨w.heap.size, 0, none⟩ = some (.slice a1 m.doms.length c1) ∧ w'.cell? ⟨w.heap.size, 1, none⟩ = some (.slice a2 m.cons.length c2)) (first | go_keep | exact ⟨y0, y1⟩ | exact ⟨z0, z1⟩ | exact ⟨p0, p1⟩) (first
    | (go_at_call 126; refine (HRF.out X _ HBX.out HVX.out).mono ?_; rintro e Y ⟨rfl, bY⟩; have HBY := Lib.hid (HBX.out.trans (bY.mono HBX.out.size)); obtain ⟨y0, y1⟩ := (HP.out.below HBY.out).cell; clear bY)
    | (go_at_call 68; refine HAS.out.mono ?_; rintro e X ⟨v4, rfl, o4, bX⟩; have HBX : Hid (Below W1.heap.size W1 X) := Lib.hid ((show Below W1.heap.size W1 W1.drew from (Below.refl _ _).drew).trans bX); have HVX := Lib.hid (rdInts_of_own o4); obtain ⟨ta, tc, te, -⟩ := ownForm o4; rw [te] at HVX ⊢; obtain ⟨z0, z1⟩ := (HP.out.below HBX.out).cell; clear o4 bX te))
  go_wp2
  go_ret
  exact ⟨rfl, HB1.out.trans (HBY.out.mono HB1.out.size)⟩

set_option maxRecDepth 100000 in
set_option maxHeartbeats 16000000 in
theorem sreduce_any (m : Mod) (v cv lv : Value) (ls : List Lit) (w : World) (h : RdModel w v m) (hc : RdClz w cv []) (hl : RdLits w lv ls) (hv : vmB m = true) (hlo : LitsOn ls m.doms.length) (hasc : Asc ls) (h12 : ls.length ≤ 12) :
    Calls Tryz.prog 79 #[v, cv, lv] w (LitsPost (redL (refP m) ls.length ls 0) w) := by
  unfold LitsPost
  obtain ⟨a1, a2, c1, c2, rfl, g1, g2⟩ := rdModel_slices h
  obtain ⟨la, lc, elv, -⟩ := id hl
  obtain ⟨ca, cc, ecv, -⟩ := id hc
  obtain ⟨W1, hW1⟩ : ∃ W1, w.alloc (.cells #[.slice a1 m.doms.length c1, .slice a2 m.cons.length c2] 30) = W1 := ⟨_, rfl⟩
  have B1 : Below w.heap.size w W1 := by rw [← hW1]; exact (Below.refl _ _).alloc (Nat.le_refl _) _
  have bP : Blk2 W1 w.heap.size 30 (.slice a1 m.doms.length c1) (.slice a2 m.cons.length c2) := by rw [← hW1]; exact Blk2.new w _ _ _
  have HL1 := Lib.hid (hl.below B1)
  have HRF := Lib.hid (fun (Y : World) (xv : Value) (ks : List Lit) (hb : Below W1.heap.size W1 Y) (hx : RdLits Y xv ks) (ho : LitsOn ks m.doms.length) => srefuted_any m _ cv xv [] ks Y ((h.below B1).below hb) ((hc.below B1).below hb) hx hv (fun ls h => by cases h) ho)
  have HB1 := Lib.hid B1
  have HW := Lib.hid hW1
  have HP := Lib.hid bP
  have HST := Lib.hid (RedSt.start (p := refP m) hasc h12 hlo)
  obtain ⟨r, hr⟩ : ∃ r, r = redL (refP m) ls.length ls 0 := ⟨_, rfl⟩
  rw [← hr]
  have HR := Lib.hid hr
  rw [elv] at HL1 ⊢
  rw [ecv] at HRF ⊢
  have hlc1 := (rdLits_len HL1.out).2.1
  have hlc2 := (rdLits_len HL1.out).2.2
  have HSZ : Hid (W1.heap.size = w.heap.size + 1) := Lib.hid (by rw [← hW1, World.size_alloc])
  have HO0 : Hid (OwnL (W1.alloc (.cells #[] 91)) (w.heap.size + 1) (.slice (some ⟨w.heap.size + 1, 0, none⟩) 0 0) []) := Lib.hid (by have := ownL_new W1 W1.heap.size (Nat.le_refl _); rw [HSZ.out] at this; exact this)
  clear h hc hl hv hlo hasc g1 g2 hW1 B1 bP hr elv ecv
  go_enter Tryz.func79, Tryz.ntmps79
  go_wp2_with (at_builtin; rw [HW.out]; refine wpList_append_lits rfl _ _ rfl (w.heap.size + 1) _ _ [] ls rfl rfl HO0.out (HL1.out.below (below1 _ _)) (by rw [World.size_alloc, HSZ.out]; omega) (by simp) (by omega) ?_; intro v1 w1 own1 grow1)
  have b1 : Below W1.heap.size W1 w1 := (below1 _ _).grown grow1 (by rw [World.size_alloc]; omega) (fun q e => by have h1 : w.heap.size + 1 = q := Option.some.inj e; have := HSZ.out; omega)
  have HO1 : Hid (OwnL w1 W1.heap.size v1 ls) := Lib.hid (by rw [HSZ.out]; exact own1)
  have HBX := Lib.hid b1
  clear own1 grow1 b1 hlc1 hlc2 h12
  go_wp2_with fail
  go_loopw [7, 8] (fun q i wr => ∃ (k : Nat) (ks : List Lit), k ≤ ks.length ∧ i = .int .i64 k ∧ Hid (RedSt (refP m) ls ks k m.doms.length) ∧ Hid (OwnL wr W1.heap.size q ks) ∧ Hid (Below W1.heap.size W1 wr)) (fun q i _ => sliceLen q - (intOf i).toNat)
  case atStart => exact ⟨0, ls, Nat.zero_le _, rfl, HST, HO1, HBX⟩
  case round =>
    obtain ⟨k, ks, hk, rfl, HS, HO, HBW⟩ := hrel
    obtain ⟨_, g, c, evo, hnc, hcm, _⟩ := HO.out
    rw [evo] at HO ⊢
    obtain ⟨n, hn⟩ : ∃ n, n = ks.length := ⟨_, rfl⟩
    rw [← hn] at hk hnc HO ⊢
    have HN := Lib.hid hn
    have hn12 : n ≤ 12 := by have := HS.out.len; omega
    by_cases hlt : k < n
    · obtain ⟨l, hkl⟩ : ∃ l, ks[k]? = some l := ⟨_, List.getElem?_eq_getElem (by omega)⟩
      obtain ⟨k0, k1, k2⟩ := HO.out.cells hkl
      obtain ⟨p0, p1⟩ := (HP.out.below HBW.out).cell
      have HWI : Hid (Calls Tryz.prog 121 #[.slice (some ⟨g, 0, none⟩) n c, .agg #[.int .i64 l.var, .int .i64 l.val, .bool l.neg]] wr (LitsPost (dropAt ks k) wr)) := Lib.hid (by
        rw [← wio_at HS.out.asc hkl]
        exact swithout_any _ ks l wr HO.out.rd (by omega))
      have HDO : Hid (LitsOn (dropAt ks k) m.doms.length) := Lib.hid (fun l hl => HS.out.on l (mem_dropAt hl))
      have HDL : Hid ((dropAt ks k).length = n - 1) := Lib.hid (by rw [dropAt_len (by omega), ← hn])
      have HE := Lib.hid (fun (Y : World) (xv : Value) (hb : Below W1.heap.size W1 Y) (hx : RdLits Y xv (dropAt ks k)) => HRF.out Y xv (dropAt ks k) hb hx HDO.out)
      obtain ⟨pb, hpb⟩ : ∃ pb, pb = refP m (dropAt ks k) := ⟨_, rfl⟩
      have HE2 : Hid (∀ (Y : World) (xv : Value) (hb : Below W1.heap.size W1 Y) (hx : RdLits Y xv (dropAt ks k)), Calls Tryz.prog 122 #[.agg #[.slice a1 m.doms.length c1, .slice a2 m.cons.length c2], .slice ca ([] : List (List Lit)).length cc, xv] Y (BoolPost pb Y)) := Lib.hid (fun Y xv hb hx => by
        rw [hpb]
        exact HE.out Y xv hb hx)
      have HY : Hid (pb = true → RedSt (refP m) ls (dropAt ks k) k m.doms.length) := Lib.hid (fun e => HS.out.yes (by omega) (by rw [← hpb]; exact e))
      have HNO : Hid (pb = false → RedSt (refP m) ls ks (k + 1) m.doms.length) := Lib.hid (fun e => HS.out.no (by omega) (by rw [← hpb]; exact e))
      clear hkl hpb HE hn evo
      go_wp2_with fail
      refine HWI.out.mono ?_
      rintro e w5 ⟨v5, rfl, o5, b5⟩
      have HBY := Lib.hid (HBW.out.trans (b5.mono HBW.out.size))
      have HO5 := Lib.hid (HO.out.below b5)
      have HO6 := Lib.hid (o5.mono HBW.out.size)
      obtain ⟨g5, n5, c5, e5⟩ := o5.slice
      subst e5
      clear b5 o5 p0 p1 k0 k1 k2
      obtain ⟨p0, p1⟩ := (HP.out.below HBY.out).cell
      go_wp2_with fail
      refine (HE2.out w5 _ HBY.out HO6.out.rd).mono ?_
      rintro e w6 ⟨rfl, b6⟩
      have HBZ := Lib.hid (HBY.out.trans (b6.mono HBY.out.size))
      have HO7 := Lib.hid (HO5.out.below b6)
      have HO8 := Lib.hid (HO6.out.below b6)
      have HL5 : Hid (n5 = n - 1) := Lib.hid (by
        obtain ⟨_, _, _, e, _⟩ := HO8.out
        injection e with _ e _
        rw [e, HDL.out])
      clear b6 p0 p1
      cases pb
      · have HS2 := Lib.hid (HNO.out rfl)
        go_wp2
        go_roundw
        all_goals first
          | exact ⟨k + 1, ks, by have := HN.out; omega, by go_num, HS2, HO7, HBZ⟩
          | (simp [intOf, sliceLen]; omega)
      · have HS2 := Lib.hid (HY.out rfl)
        go_wp2
        go_roundw
        all_goals first
          | exact ⟨k, dropAt ks k, by have := HDL.out; omega, rfl, HS2, HO8, HBZ⟩
          | (have := HL5.out; simp [intOf, sliceLen]; omega)
    · obtain rfl : k = n := by omega
      have HF := Lib.hid (HS.out.fin HN.out)
      go_wp2
      go_ret
      refine ⟨_, rfl, ?_, HB1.out.trans (HBW.out.mono HB1.out.size)⟩
      rw [HR.out, ← HF.out]
      exact HO.out.mono HB1.out.size

/-! The program. -/
set_option maxRecDepth 100000 in
set_option maxHeartbeats 16000000 in
theorem reduced_any {w0 : World} {m : Mod} {D : Nat} {pv dv : Value} {P : List (Value × Nat × Value)} {X : World} (h : Chk w0 m.cons m.doms D pv dv (.slice none 0 0) P [] [] X) (v : Value) (ls : List Lit) (hl : RdLits X v ls) (hv : vmB m = true) (hlo : LitsOn ls m.doms.length) (hasc : Asc ls) (h12 : ls.length ≤ 12) :
    Calls Tryz.prog 80 #[v, .func (.func 72) #[.pointer (some ⟨D, 0, none⟩)] #[]] X fun e Y => ∃ u, e = .returned u ∧ OwnC Y X.heap.size u (redL (refP m) ls.length ls 0).length (redL (refP m) ls.length ls 0) ∧ Below X.heap.size X Y := by
  obtain ⟨s1, s2, s3, s4⟩ := doms_small' hv
  have HRF := Lib.hid (fun (Y : World) (xv : Value) (ks : List Lit) (hY : Chk w0 m.cons m.doms D pv dv (.slice none 0 0) P [] [] Y) (hx : RdLits Y xv ks) (ho : LitsOn ks m.doms.length) => refutes_any hY (n := m.doms.length) (fun ls h => by cases h) hx ho ⟨rfl, s1⟩ (fun c hc => okC_mem hv hc) s4 s3 s2)
  have HCL := Lib.hid (clone_any v ls X hl (by omega))
  have HX := Lib.hid h
  have HST := Lib.hid (RedSt.start (p := refP m) hasc h12 hlo)
  obtain ⟨la, lc, elv, -⟩ := id hl
  obtain ⟨nl, hnl⟩ : ∃ nl, nl = ls.length := ⟨_, rfl⟩
  rw [← hnl] at elv HCL
  rw [elv] at HCL ⊢
  obtain ⟨r, hr⟩ : ∃ r, r = redL (refP m) ls.length ls 0 := ⟨_, rfl⟩
  rw [← hr]
  have HR := Lib.hid hr
  have HNL := Lib.hid hnl
  clear h hl hv hlo hasc h12 s1 s2 s3 s4 elv hr hnl
  go_enter Tryz.func80, Tryz.ntmps80
  go_wp2_with fail
  refine HCL.out.mono ?_
  rintro e w1 ⟨v1, rfl, o1, b1⟩
  have HC1 := Lib.hid (HX.out.step b1)
  have HB1 := Lib.hid b1
  have HO1 : Hid (OwnC w1 X.heap.size v1 ls.length ls) := Lib.hid (by rw [← HNL.out]; exact o1)
  obtain ⟨a1, c1, e1, -⟩ := o1.form
  subst e1
  clear o1 b1
  go_wp2_with fail
  go_loopw [5, 6] (fun q i wr => ∃ (k : Nat) (ks : List Lit), k ≤ ks.length ∧ i = .int .i64 k ∧ Hid (RedSt (refP m) ls ks k m.doms.length) ∧ Hid (OwnC wr X.heap.size q ks.length ks) ∧ Hid (Chk w0 m.cons m.doms D pv dv (.slice none 0 0) P [] [] wr) ∧ Hid (Below X.heap.size X wr)) (fun q i _ => sliceLen q - (intOf i).toNat)
  case atStart => exact ⟨0, ls, Nat.zero_le _, rfl, HST, HO1, HC1, HB1⟩
  case round =>
    obtain ⟨k, ks, hk, rfl, HS, HO, HC, HBW⟩ := hrel
    obtain ⟨ua, uc, evo, hu1, hu2, hu3⟩ := HO.out.form
    rw [evo] at HO ⊢
    obtain ⟨n, hn⟩ : ∃ n, n = ks.length := ⟨_, rfl⟩
    rw [← hn] at hk hu1 hu3 HO ⊢
    have HN := Lib.hid hn
    have hn12 : n ≤ 12 := by have := HS.out.len; omega
    by_cases hlt : k < n
    · obtain ⟨g, rfl, hg⟩ := hu3 (by omega)
      obtain ⟨j, hj⟩ : ∃ j, j = k + 1 := ⟨_, rfl⟩
      obtain ⟨q, hq⟩ : ∃ q, n = q + 1 := ⟨n - 1, by omega⟩
      have HK1 : Hid ((k : Int) + 1 = (j : Int)) := Lib.hid (by omega)
      have HJ := Lib.hid hj
      have HQ := Lib.hid hq
      have HCN : Hid (Calls Tryz.prog 123 #[.slice (some ⟨g, 0, none⟩) n uc] wr fun e w' => ∃ v', e = .returned v' ∧ OwnC w' wr.heap.size v' n ks ∧ Below wr.heap.size wr w') := Lib.hid (by
        have := clone_any (.slice (some ⟨g, 0, none⟩) n uc) ks wr (OwnC.rdN HO.out) (by omega)
        rw [← hn] at this
        exact this)
      have HDA : Hid (ks.take k ++ ks.drop j = dropAt ks k) := Lib.hid (by rw [hj]; rfl)
      have HDL : Hid ((dropAt ks k).length = q) := Lib.hid (by rw [dropAt_len (by omega)]; omega)
      have HDO : Hid (LitsOn (dropAt ks k) m.doms.length) := Lib.hid (fun l hl => HS.out.on l (mem_dropAt hl))
      obtain ⟨pb, hpb⟩ : ∃ pb, pb = refP m (dropAt ks k) := ⟨_, rfl⟩
      have HE2 : Hid (∀ (Y : World) (xv : Value), Chk w0 m.cons m.doms D pv dv (.slice none 0 0) P [] [] Y → RdLits Y xv (dropAt ks k) → Calls Tryz.prog 72 #[.pointer (some ⟨D, 0, none⟩), xv] Y fun e Z => e = .returned (.bool pb) ∧ Chk w0 m.cons m.doms D pv dv (.slice none 0 0) P [] [] Z ∧ OffB (ClB []) Y Z) := Lib.hid (fun Y xv hY hx => by
        rw [hpb]
        exact HRF.out Y xv (dropAt ks k) hY hx HDO.out)
      have HY : Hid (pb = true → RedSt (refP m) ls (dropAt ks k) k m.doms.length) := Lib.hid (fun e => HS.out.yes (by omega) (by rw [← hpb]; exact e))
      have HNO : Hid (pb = false → RedSt (refP m) ls ks (k + 1) m.doms.length) := Lib.hid (fun e => HS.out.no (by omega) (by rw [← hpb]; exact e))
      clear hpb hn evo hj hq hu3 hg
      go_wp2_with fail
      refine HCN.out.mono ?_
      rintro e w5 ⟨v5, rfl, o5, b5⟩
      obtain ⟨a5, c5, e5, hd1, hd2, hd3⟩ := o5.form
      obtain ⟨g5, rfl, -⟩ := hd3 (by omega)
      subst e5
      have HB5 := Lib.hid b5
      have HDE := Lib.hid (delete_any ks k j n q wr.heap.size c5 g5 w5 o5 HJ.out HQ.out hlt b5.size hd2 hd1 (by omega))
      clear b5 o5 hd3
      go_wp2_with fail
      rw [HK1.out]
      refine HDE.out.mono ?_
      rintro e w6 ⟨rfl, o6, b6⟩
      have HBX := Lib.hid (HB5.out.trans b6)
      have HC6 := Lib.hid (HC.out.step HBX.out)
      have HO6 := Lib.hid (HO.out.below HBX.out)
      have HB6 := Lib.hid (HBW.out.trans (HBX.out.mono HBW.out.size))
      have HD6 : Hid (OwnC w6 X.heap.size (.slice (some ⟨g5, 0, none⟩) q c5) q (dropAt ks k)) := Lib.hid (by
        rw [← HDA.out]
        exact ⟨o6.1, own_mono o6.2 HBW.out.size⟩)
      clear o6 b6
      go_wp2_with fail
      refine (HE2.out w6 _ HC6.out (OwnC.rdN HD6.out)).mono ?_
      rintro e w7 ⟨rfl, c7, f7⟩
      have b7 : Below w6.heap.size w6 w7 := f7.below (Nat.le_refl _) (fun b hb => by obtain ⟨u, hu, _⟩ := hb; cases hu)
      have HC7 := Lib.hid c7
      have HO7 : Hid (OwnC w7 X.heap.size (.slice (some ⟨g, 0, none⟩) n uc) ks.length ks) := Lib.hid (by rw [← HN.out]; exact HO6.out.below b7)
      have HD7 : Hid (OwnC w7 X.heap.size (.slice (some ⟨g5, 0, none⟩) q c5) (dropAt ks k).length (dropAt ks k)) := Lib.hid (by rw [HDL.out]; exact HD6.out.below b7)
      have HB7 := Lib.hid (HB6.out.trans (b7.mono HB6.out.size))
      clear c7 f7 b7
      cases pb
      · have HS2 := Lib.hid (HNO.out rfl)
        go_wp2
        go_roundw
        all_goals first
          | exact ⟨k + 1, ks, by have := HN.out; omega, by go_num, HS2, HO7, HC7, HB7⟩
          | (simp [intOf, sliceLen]; omega)
      · have HS2 := Lib.hid (HY.out rfl)
        go_wp2
        go_roundw
        all_goals first
          | exact ⟨k, dropAt ks k, by have := HDL.out; have := HQ.out; omega, rfl, HS2, HD7, HC7, HB7⟩
          | (have := HQ.out; simp [intOf, sliceLen]; omega)
    · obtain rfl : k = n := by omega
      have HF := Lib.hid (HS.out.fin HN.out)
      have HO9 : Hid (OwnC wr X.heap.size (.slice ua k uc) r.length r) := Lib.hid (by
        have := HO.out
        rw [HN.out] at this
        rw [HR.out, ← HF.out, HN.out]
        exact this)
      go_wp2
      go_ret
      exact ⟨_, rfl, HO9.out, HBW.out⟩

set_option maxRecDepth 100000 in
set_option maxHeartbeats 8000000 in
theorem iMinimalNogood_any (m : Mod) (v lv : Value) (ls : List Lit) (w : World) (h : RdModel w v m) (hm : ModLe m 1048576) (hl : RdLits w lv ls) :
    Calls Tryz.prog 37 #[v, lv] w (PairC (nogL m ls) (rftB m ls) w) := by
  obtain ⟨a1, a2, c1, c2, rfl, g1, g2⟩ := rdModel_slices h
  obtain ⟨la, lc, elv, -⟩ := id hl
  obtain ⟨W1, hW1⟩ : ∃ W1, w.alloc (.cells #[.slice a1 m.doms.length c1, .slice a2 m.cons.length c2] 30) = W1 := ⟨_, rfl⟩
  have B1 : Below w.heap.size w W1 := by rw [← hW1]; exact (Below.refl _ _).alloc (Nat.le_refl _) _
  have bP : Blk2 W1 w.heap.size 30 (.slice a1 m.doms.length c1) (.slice a2 m.cons.length c2) := by rw [← hW1]; exact Blk2.new w _ _ _
  have HM := Lib.hid (h.below B1)
  have HL := Lib.hid (hl.below B1)
  obtain ⟨nl, hnl⟩ : ∃ nl, nl = ls.length := ⟨_, rfl⟩
  rw [← hnl] at elv
  rw [elv] at HL ⊢
  have HB1 := Lib.hid B1
  have HW := Lib.hid hW1
  have HP := Lib.hid bP
  have HLE := Lib.hid hm
  clear h hl g1 g2 hW1 B1 bP hm elv hnl
  obtain ⟨p0, p1⟩ := HP.out.cell
  go_enter Tryz.func37, Tryz.ntmps37
  go_wp2_with fail
  rw [HW.out]
  refine (iRefutes_any m _ _ ls W1 HM.out HLE.out HL.out).mono ?_
  rintro e w2 ⟨rfl, b2⟩
  have HB2 := Lib.hid (HB1.out.trans (b2.mono HB1.out.size))
  have HM2 := Lib.hid (HM.out.below b2)
  have HL2 := Lib.hid (HL.out.below b2)
  have HP2 := Lib.hid (HP.out.below b2)
  clear p0 p1 b2 HM HL HP HB1 HW
  obtain ⟨p0, p1⟩ := HP2.out.cell
  cases hv : rftB m ls
  · have HF : Hid (nogL m ls = []) := Lib.hid (by unfold nogL; rw [hv]; rfl)
    have HV := Lib.hid hv
    clear hv
    go_wp2
    refine bodyPost_ret (results_tmp2 rfl _ _ _) rfl ?_
    exact pairC_of HF.out HV.out ⟨_, rfl, ⟨rfl, World.ownsRow_nil _ _ _ _⟩, HB2.out⟩
  · have HF : Hid (nogL m ls = redL (refP m) ls.length ls 0) := Lib.hid (by unfold nogL; rw [hv]; rfl)
    have HV := Lib.hid hv
    obtain ⟨hvm, hlo, h12, hasc⟩ := rft_parts hv
    have HCK := Lib.hid (checkerOf_any m _ w2 w2 HM2.out (Below.refl _ _) hvm)
    have HRD := Lib.hid (fun (D : Nat) (pv dv : Value) (P : List (Value × Nat × Value)) (Y : World) (hY : Chk w2 m.cons m.doms D pv dv (.slice none 0 0) P [] [] Y) (hb : Below w2.heap.size w2 Y) => reduced_any hY _ ls (HL2.out.below hb) hvm hlo hasc h12)
    clear hv hvm hlo h12 hasc
    go_wp2_with fail
    refine HCK.out.mono ?_
    rintro e w3 ⟨D, pv, dv, P, rfl, hck, b3⟩
    have HC3 := Lib.hid hck
    have HB3 := Lib.hid b3
    clear hck b3 p0 p1
    go_wp2_with fail
    refine (HRD.out D pv dv P w3 HC3.out HB3.out).mono ?_
    rintro e w4 ⟨u, rfl, o4, b4⟩
    have HS3 := Lib.hid (Nat.le_trans HB2.out.size HB3.out.size)
    have HO4 := Lib.hid (own_mono o4.2 HS3.out)
    have HB4 := Lib.hid ((HB2.out.trans (HB3.out.mono HB2.out.size)).trans (b4.mono HS3.out))
    obtain ⟨a4, c4, e4, -⟩ := o4.form
    subst e4
    clear o4 b4
    go_wp2
    refine bodyPost_ret (results_tmp2 rfl _ _ _) rfl ?_
    exact pairC_of HF.out HV.out ⟨_, rfl, ⟨rfl, HO4.out⟩, HB4.out⟩

/-! The reference's MinimalNogood. -/
set_option maxRecDepth 100000 in
set_option maxHeartbeats 8000000 in
theorem sMinimalNogood_any (m : Mod) (v lv : Value) (ls : List Lit) (w : World) (h : RdModel w v m) (hm : ModLe m 1048576) (hl : RdLits w lv ls) :
    Calls Tryz.prog 36 #[v, lv] w (PairC (nogL m ls) (rftB m ls) w) := by
  obtain ⟨a1, a2, c1, c2, rfl, g1, g2⟩ := rdModel_slices h
  obtain ⟨la, lc, elv, -⟩ := id hl
  obtain ⟨W1, hW1⟩ : ∃ W1, w.alloc (.cells #[.slice a1 m.doms.length c1, .slice a2 m.cons.length c2] 30) = W1 := ⟨_, rfl⟩
  have B1 : Below w.heap.size w W1 := by rw [← hW1]; exact (Below.refl _ _).alloc (Nat.le_refl _) _
  have bP : Blk2 W1 w.heap.size 30 (.slice a1 m.doms.length c1) (.slice a2 m.cons.length c2) := by rw [← hW1]; exact Blk2.new w _ _ _
  have HM := Lib.hid (h.below B1)
  have HL := Lib.hid (hl.below B1)
  obtain ⟨nl, hnl⟩ : ∃ nl, nl = ls.length := ⟨_, rfl⟩
  rw [← hnl] at elv
  rw [elv] at HL ⊢
  have HB1 := Lib.hid B1
  have HW := Lib.hid hW1
  have HP := Lib.hid bP
  have HLE := Lib.hid hm
  clear h hl g1 g2 hW1 B1 bP hm elv hnl
  obtain ⟨p0, p1⟩ := HP.out.cell
  go_enter Tryz.func36, Tryz.ntmps36
  go_wp2_with fail
  rw [HW.out]
  refine (sRefutes_any m _ _ ls W1 HM.out HLE.out HL.out).mono ?_
  rintro e w2 ⟨rfl, b2⟩
  have HB2 := Lib.hid (HB1.out.trans (b2.mono HB1.out.size))
  have HM2 := Lib.hid (HM.out.below b2)
  have HL2 := Lib.hid (HL.out.below b2)
  have HP2 := Lib.hid (HP.out.below b2)
  clear p0 p1 b2 HM HL HP HB1 HW
  obtain ⟨p0, p1⟩ := HP2.out.cell
  cases hv : rftB m ls
  · have HF : Hid (nogL m ls = []) := Lib.hid (by unfold nogL; rw [hv]; rfl)
    have HV := Lib.hid hv
    clear hv
    go_wp2
    refine bodyPost_ret (results_tmp2 rfl _ _ _) rfl ?_
    exact pairC_of HF.out HV.out ⟨_, rfl, ⟨rfl, World.ownsRow_nil _ _ _ _⟩, HB2.out⟩
  · have HF : Hid (nogL m ls = redL (refP m) ls.length ls 0) := Lib.hid (by unfold nogL; rw [hv]; rfl)
    have HV := Lib.hid hv
    obtain ⟨hvm, hlo, h12, hasc⟩ := rft_parts hv
    obtain ⟨W3, hW3⟩ : ∃ W3, w2.alloc (.cells #[] 47) = W3 := ⟨_, rfl⟩
    have b3 : Below w2.heap.size w2 W3 := by rw [← hW3]; exact below1 _ _
    have HRD := Lib.hid (sreduce_any m _ (.slice (some ⟨w2.heap.size, 0, none⟩) 0 0) _ ls W3 (HM2.out.below b3) ⟨_, 0, rfl, Nat.le_refl _, by decide, .inl rfl⟩ (HL2.out.below b3) hvm hlo hasc h12)
    have HW3 := Lib.hid hW3
    have HB3 := Lib.hid (HB2.out.trans (b3.mono HB2.out.size))
    clear hv hvm hlo h12 hasc hW3 b3
    go_wp2_with fail
    rw [HW3.out]
    refine HRD.out.mono ?_
    rintro e w4 ⟨u, rfl, o4, b4⟩
    have HO4 := Lib.hid (o4.mono HB3.out.size)
    have HB4 := Lib.hid (HB3.out.trans (b4.mono HB3.out.size))
    obtain ⟨a4, n4, c4, e4⟩ := o4.slice
    subst e4
    clear o4 b4
    go_wp2
    refine bodyPost_ret (results_tmp2 rfl _ _ _) rfl ?_
    exact pairC_of HF.out HV.out ⟨_, rfl, ⟨rfl, HO4.out.1⟩, HB4.out⟩
end Go.Proofs.YtipapmmjfoaddaaGreat
