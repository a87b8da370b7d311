/- What stands while the program looks for supported values. -/
import Derived.Test.YtkmdkbnphmadpaaTu1
import Derived.Test.YtkmdkbnphmadpaaRfX
import Derived.Test.YtkmdkbnphmadpaaPrI
namespace Go.Proofs.Ytkmdkbnphmadpaa
open Go.ChangeShapes Go.WideShapes Go.ChangeAt Go.RowKit Go.Shelf
set_option linter.unusedVariables false
set_option linter.unusedSimpArgs false

attribute [local go_sem] Oper.semAt_some

theorem or_pow_fin : ∀ n : Fin 64, ∀ k : Fin 6, bits .or .i64 ((n.val : Nat) : Int) (wrap64 (2 ^ k.val)) = addB ((n.val : Nat) : Int) (k.val : Int) := by decide +kernel
theorem or_pow {d : Int} {a : Nat} (h1 : 0 ≤ d) (h2 : d ≤ 63) (h4 : a ≤ 5) : bits .or .i64 d (wrap64 (2 ^ a)) = addB d a := by
  have := or_pow_fin ⟨d.toNat, by omega⟩ ⟨a, by omega⟩
  simp only [Int.toNat_of_nonneg h1] at this
  exact this

theorem XT.at {bx nv : Nat} {p : List Int} {W : World} (h : XT bx nv p W) {i : Nat} (hi : i < p.length) : W.cell? ⟨bx, i, none⟩ = some (.int .i64 (p[i]?.getD 0)) := by
  obtain ⟨b, off, e, q⟩ := rdInts_at h.rd hi
  simp at e
  obtain ⟨rfl, rfl⟩ := e
  simpa using q
theorem XT.unfrozen {bx nv : Nat} {p : List Int} {W : World} (h : XT bx nv p W) (i : Nat) : W.frozen? ⟨bx, i, none⟩ = false := by
  obtain ⟨cur, h1, _⟩ := h.block
  simp [World.frozen?, h1]
theorem XT.set {bx nv : Nat} {p : List Int} {W : World} (h : XT bx nv p W) {i : Nat} (hi : i < p.length) (u : Int) : XT bx nv (p.set i u) (W.setCell ⟨bx, i, none⟩ (.int .i64 u)) := by
  obtain ⟨cur, h1, h2, h3, h4, h5⟩ := h.block
  refine XT.of_block (cur := cur.set! i (.int .i64 u)) ?_ (by simpa using h2) h3 (by simpa using h4) ?_
  · obtain ⟨hlt, hb⟩ := Array.getElem?_eq_some_iff.1 h1
    unfold World.setCell
    simp [hlt, Array.getElem_modify, hb]
  · rw [List.length_set]
    simp only [Array.set!_eq_setIfInBounds, Array.toList_setIfInBounds]
    rw [List.take_set, h5, List.map_set]

/-- The row of the supported values (xs), its box, the propagator's boxes and the iterator's. -/
structure SupSt (w : World) (nv : Nat) (vv fv dv : Value) (xs : List Int) (X : World) : Prop where
  bel : Below w.heap.size w X
  pb : X.heap[w.heap.size]? = some (.cells #[vv, fv] 95)
  row : XT (w.heap.size + 1) nv xs X
  vb : Boxed X (w.heap.size + 2) 22 (.slice (some ⟨w.heap.size + 1, 0, none⟩) nv nv)
  tp : X.heap[w.heap.size + 3]? = some (.cells #[vv, fv] 95)
  td : Boxed X (w.heap.size + 4) 22 dv
theorem SupSt.below {w X Y : World} {nv : Nat} {vv fv dv : Value} {xs : List Int} (h : SupSt w nv vv fv dv xs X) (hb : Below (w.heap.size + 5) X Y) : SupSt w nv vv fv dv xs Y :=
  ⟨h.bel.trans (hb.mono (by omega)), (hb.block _ (by omega)).trans h.pb, h.row.keep (hb.block _ (by omega)), (hb.block _ (by omega)).trans h.vb, (hb.block _ (by omega)).trans h.tp, (hb.block _ (by omega)).trans h.td⟩
theorem SupSt.set {w X : World} {nv : Nat} {vv fv dv : Value} {xs : List Int} (h : SupSt w nv vv fv dv xs X) {i : Nat} (hi : i < xs.length) (u : Int) : SupSt w nv vv fv dv (xs.set i u) (X.setCell ⟨w.heap.size + 1, i, none⟩ (.int .i64 u)) := by
  have hk : ∀ b, b ≠ w.heap.size + 1 → (X.setCell ⟨w.heap.size + 1, i, none⟩ (.int .i64 u)).heap[b]? = X.heap[b]? := fun b hb => Below.heap_setCell _ _ _ _ (by simpa using hb)
  exact ⟨h.bel.setCell (by simp) _, (hk _ (by omega)).trans h.pb, h.row.set hi u, (hk _ (by omega)).trans h.vb, (hk _ (by omega)).trans h.tp, (hk _ (by omega)).trans h.td⟩

theorem enters_test {F : Nat} (h : isTest F) : ∀ gs w, (callFunc F gs).run Try.prog w = .ok (.enter F gs) w := by
  rcases h with rfl | rfl | rfl | rfl | rfl | rfl | rfl | rfl | rfl
  · exact enters_of Try.func140 (by kernel_rfl) rfl
  · exact enters_of Try.func141 (by kernel_rfl) rfl
  · exact enters_of Try.func142 (by kernel_rfl) rfl
  · exact enters_of Try.func143 (by kernel_rfl) rfl
  · exact enters_of Try.func144 (by kernel_rfl) rfl
  · exact enters_of Try.func145 (by kernel_rfl) rfl
  · exact enters_of Try.func146 (by kernel_rfl) rfl
  · exact enters_of Try.func147 (by kernel_rfl) rfl
  · exact enters_of Try.func148 (by kernel_rfl) rfl

set_option maxHeartbeats 1000000 in
theorem tuples_in (n : Nat) (a1 a2 : Option Addr) (n1 n2 c1 c2 : Nat) (fv : Value) (w : World) :
    CallsIn Fence.wide n Try.prog 149 #[.agg #[.slice a1 n1 c1, fv], .slice a2 n2 c2] w fun e w' => e = .returned (.func (.func 156) #[] #[.pointer (some ⟨w.heap.size, 0, none⟩), .pointer (some ⟨w.heap.size + 1, 0, none⟩)]) ∧ w' = (w.alloc (.cells #[.slice a1 n1 c1, fv] 95)).alloc (.cells #[.slice a2 n2 c2] 22) := by
  refine callsIn_of_wp Try.func149 rfl trivial ?_ rfl
  simp only [Try.ntmps149, List.size_toArray, List.length_cons, List.length_nil, Nat.reduceAdd, Nat.reduceSub, Array.replicate_succ, Array.replicate_zero, List.push_toArray, List.append_toArray, List.nil_append, List.cons_append]
  gi_wp2
  go_ret
  exact ⟨rfl, rfl⟩
end Go.Proofs.Ytkmdkbnphmadpaa
