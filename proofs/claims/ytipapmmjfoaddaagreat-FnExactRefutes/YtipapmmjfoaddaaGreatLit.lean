/- Literals and clauses: how they read in memory; the laws' own copies of them and tests of equality. -/
import Derived.Test.YtipapmmjfoaddaaGreatToE
namespace Go.Proofs.YtipapmmjfoaddaaGreat
open Go.ChangeShapes Go.WideShapes Go.ChangeAt Go.RowKit Go.Deep
set_option linter.unusedVariables false
set_option linter.unusedSimpArgs false

/-- A literal as plain data. -/
structure Lit where
  var : Int
  val : Int
  neg : Bool
theorem Lit.ext' {a b : Lit} (h1 : a.var = b.var) (h2 : a.val = b.val) (h3 : a.neg = b.neg) : a = b := by cases a; cases b; simp_all
instance : DecidableEq Lit := fun a b => if h : a.var = b.var ∧ a.val = b.val ∧ a.neg = b.neg then isTrue (Lit.ext' h.1 h.2.1 h.2.2) else isFalse (fun e => h ⟨by rw [e], by rw [e], by rw [e]⟩)

/-- The slice value v reads as a list of literals. -/
def RdLits (w : World) (v : Value) (ls : List Lit) : Prop :=
  ∃ a cap, v = .slice a ls.length cap ∧ ls.length ≤ cap ∧ cap ≤ maxLen ∧ (ls.length = 0 ∨ ∃ b off, a = some ⟨b, off, none⟩ ∧ ∀ i l, ls[i]? = some l →
    w.cell? ⟨b, off + i * 3, none⟩ = some (.int .i64 l.var) ∧ w.cell? ⟨b, off + i * 3 + 1, none⟩ = some (.int .i64 l.val) ∧ w.cell? ⟨b, off + i * 3 + 2, none⟩ = some (.bool l.neg))
theorem RdLits.below {w w' : World} {v : Value} {ls : List Lit} (h : RdLits w v ls) (hb : Below w.heap.size w w') : RdLits w' v ls := by
  obtain ⟨a, cap, e, h1, h2, h3⟩ := h
  refine ⟨a, cap, e, h1, h2, ?_⟩
  rcases h3 with h3 | ⟨b, off, ea, h3⟩
  · exact .inl h3
  · refine .inr ⟨b, off, ea, fun i l hi => ?_⟩
    obtain ⟨e0, e1, e2⟩ := h3 i l hi
    have k : ∀ (p : Addr) (x : Value), w.cell? p = some x → w'.cell? p = some x := fun p x hp => (hb.cell (World.block_lt_of_cell? w _ hp)).trans hp
    exact ⟨k _ _ e0, k _ _ e1, k _ _ e2⟩
theorem rdLits_at {w : World} {a : Option Addr} {n cap : Nat} {ls : List Lit} (h : RdLits w (.slice a n cap) ls) {i : Nat} (hi : i < n) : ∃ (b off : Nat) (l : Lit), a = some ⟨b, off, none⟩ ∧ ls[i]? = some l ∧
    w.cell? ⟨b, off + i * 3, none⟩ = some (.int .i64 l.var) ∧ w.cell? ⟨b, off + i * 3 + 1, none⟩ = some (.int .i64 l.val) ∧ w.cell? ⟨b, off + i * 3 + 2, none⟩ = some (.bool l.neg) := by
  obtain ⟨a', cap', e, h1, h2, h3⟩ := h
  simp at e
  obtain ⟨rfl, rfl, rfl⟩ := e
  rcases h3 with h3 | ⟨b, off, rfl, h3⟩
  · omega
  · exact ⟨b, off, ls[i], rfl, List.getElem?_eq_getElem hi, h3 i _ (List.getElem?_eq_getElem hi)⟩
theorem rdLits_len {w : World} {a : Option Addr} {n cap : Nat} {ls : List Lit} (h : RdLits w (.slice a n cap) ls) : ls.length = n ∧ n ≤ cap ∧ cap ≤ 9223372036854775807 := by
  obtain ⟨a', cap', e, h1, h2, h3⟩ := h
  simp at e
  obtain ⟨rfl, rfl, rfl⟩ := e
  unfold maxLen at h2
  exact ⟨rfl, h1, by omega⟩

section
variable {H : Type} {enc : TypeId × Value → H} {w : World} {base : Nat} {held : Bool}
theorem lit_of_cells {n : Nat} {cs : List Value} {y : DataW H × List MemPlace} (h : DataW.trod enc Tryz.prog w base (fun _ => true) held n 93 cs = some y) :
    ∃ l : Lit, cs = [.int .i64 l.var, .int .i64 l.val, .bool l.neg] := by
  obtain ⟨hl, m, hf⟩ := cells_of_struct Tryz.underlying93 (by kernel_rfl) (by kernel_rfl) h
  obtain ⟨v0, z0, e0, r0⟩ := hf 0 _ rfl
  obtain ⟨v1, z1, e1, r1⟩ := hf 1 _ rfl
  obtain ⟨v2, z2, e2, r2⟩ := hf 2 _ rfl
  obtain ⟨a, q0, _, _⟩ := DataW.trod_int Tryz.underlying3 r0
  obtain ⟨b, q1, _, _⟩ := DataW.trod_int Tryz.underlying3 r1
  obtain ⟨c, q2, _⟩ := DataW.trod_bool Tryz.underlying4 r2
  simp at q0 q1 q2
  subst q0 q1 q2
  refine ⟨⟨a, b, c⟩, ?_⟩
  match cs, hl, e0, e1, e2 with
  | [c0, c1, c2], _, e0, e1, e2 => simp_all
set_option maxRecDepth 100000 in
theorem rdLits_of_trod {n : Nat} {v : Value} {y : DataW H × List MemPlace} (h : DataW.trod enc Tryz.prog w base (fun _ => true) held n 44 [v] = some y) : ∃ ls, RdLits w v ls := by
  have hC : Tryz.prog.cellsOf 93 = 3 := by kernel_rfl
  rcases open_slice Tryz.underlying44 h with ⟨hcs, _⟩ | ⟨a, len, cap, m, k, D, Pl, hcs, hb, hl, hm, hmm, _, hx⟩
  · simp at hcs
    subst hcs
    exact ⟨[], none, 0, rfl, Nat.le_refl _, by simp [maxLen], .inl rfl⟩
  · simp at hcs hmm
    subst hcs hmm
    have each : ∀ r, r < m → ∃ q : Lit, w.cells? base (a.add (r * 3)) 3 = some [.int .i64 q.var, .int .i64 q.val, .bool q.neg] := by
      intro r hr
      obtain ⟨cs', h1, h2⟩ := hx r hr
      obtain ⟨l, e⟩ := lit_of_cells h2
      rw [hC, e] at h1
      exact ⟨l, h1⟩
    have : Inhabited Lit := ⟨⟨0, 0, false⟩⟩
    obtain ⟨f, hf⟩ := choose_lt each
    have hlen : ((List.range len).map f).length = len := by simp
    refine ⟨(List.range len).map f, some a, m, by rw [hlen], by omega, hm, ?_⟩
    by_cases h0 : len = 0
    · exact .inl (by omega)
    · obtain ⟨b, off, spot⟩ := a
      have hc := (World.cells?_some (hf 0 (by omega))).2.2 0 (by omega)
      have hspot : spot = none := by simpa [Addr.add] using World.cell?_spot (hc.trans (List.getElem?_cons_zero ..))
      subst hspot
      refine .inr ⟨b, off, rfl, fun i c hi => ?_⟩
      have hi' : i < len := by have := (List.getElem?_eq_some_iff.1 hi).1; simpa using this
      have ec : f i = c := by simpa [hi'] using hi
      have hat := (World.cells?_some (hf i (by omega))).2.2
      have ad : ∀ j, ((Addr.mk b off none).add (i * 3)).add j = ⟨b, off + i * 3 + j, none⟩ := fun j => by rw [addr_add, addr_add]
      rw [← ec]
      exact ⟨by simpa [ad] using hat 0 (by omega), by simpa [ad] using hat 1 (by omega), by simpa [ad] using hat 2 (by omega)⟩
set_option maxRecDepth 100000 in
theorem rdLitsArg_of_trod {r : Reach} {b0 : Nat} {v : Value} {d : DataW H} {p : List MemPlace} (hv : Value.okWide Tryz.prog w r b0 44 v) (h : DataW.Trod enc Tryz.prog w base (fun _ => true) held 44 v d p) : ∃ ls, RdLits w v ls := by
  obtain ⟨a0, len0, cap0, rfl⟩ := okWide_slice Tryz.underlying44 hv
  obtain ⟨n, hf⟩ := h
  exact rdLits_of_trod (by simpa [Value.cells] using hf)
end

set_option maxRecDepth 100000 in
theorem szLiteralS_any (v : Value) (ls : List Lit) (left : Int) (w : World) (h : RdLits w v ls) (h0 : 0 ≤ left) (h1 : left ≤ 1048576) :
    Calls Tryz.prog 25 #[v, .int .i64 left] w (SzPost left (ls.length ≤ left.toNat) w) := by
  obtain ⟨a, cap, rfl, hl, hm, _⟩ := h
  obtain ⟨n, hn⟩ : ∃ n, n = ls.length := ⟨_, rfl⟩
  rw [← hn] at hl ⊢
  clear hn
  unfold maxLen at hm
  by_cases hneg : left - (n : Int) < 0
  · go_enter Tryz.func25, Tryz.ntmps25
    go_wp2
    go_ret
    exact ⟨-1, rfl, by omega, by omega, fun h => by omega, rfl⟩
  · go_enter Tryz.func25, Tryz.ntmps25
    go_wp2
    go_ret
    exact ⟨left - n, rfl, by omega, by omega, fun _ => by omega, rfl⟩
end Go.Proofs.YtipapmmjfoaddaaGreat
