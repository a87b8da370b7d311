/- Literals and clauses: how they read in memory; the laws' own copies of them and tests of equality. The laws' own copies of literals and clauses, and their tests of equality. Copies of clauses, and their test of equality. ValidClause as plain data; pieces for its walks. -/
import Derived.Test.YtipapmmjfoaddaaGreatToE
import Derived.Deep.RegionHeld3

/-! Literals and clauses: how they read in memory; the laws' own copies of them and tests of equality. -/
namespace Go.Proofs.YtipapmmjfoaddaaGreat
open Go.ChangeShapes Go.WideShapes Go.ChangeAt Go.RowKit Go.Deep
set_option linter.unusedVariables false
set_option linter.unusedSimpArgs false

/-- A literal as plain data. -/
structure Lit where
  var : Int
  val : Int
  neg : Bool
theorem Lit.ext' {a b : Lit} (h1 : a.var = b.var) (h2 : a.val = b.val) (h3 : a.neg = b.neg) : a = b := by cases a; cases b; simp_all
instance : DecidableEq Lit := fun a b => if h : a.var = b.var ∧ a.val = b.val ∧ a.neg = b.neg then isTrue (Lit.ext' h.1 h.2.1 h.2.2) else isFalse (fun e => h ⟨by rw [e], by rw [e], by rw [e]⟩)

/-- The slice value v reads as a list of literals. -/
def RdLits (w : World) (v : Value) (ls : List Lit) : Prop :=
  ∃ a cap, v = .slice a ls.length cap ∧ ls.length ≤ cap ∧ cap ≤ maxLen ∧ (ls.length = 0 ∨ ∃ b off, a = some ⟨b, off, none⟩ ∧ ∀ i l, ls[i]? = some l →
    w.cell? ⟨b, off + i * 3, none⟩ = some (.int .i64 l.var) ∧ w.cell? ⟨b, off + i * 3 + 1, none⟩ = some (.int .i64 l.val) ∧ w.cell? ⟨b, off + i * 3 + 2, none⟩ = some (.bool l.neg))
theorem RdLits.below {w w' : World} {v : Value} {ls : List Lit} (h : RdLits w v ls) (hb : Below w.heap.size w w') : RdLits w' v ls := by
  obtain ⟨a, cap, e, h1, h2, h3⟩ := h
  refine ⟨a, cap, e, h1, h2, ?_⟩
  rcases h3 with h3 | ⟨b, off, ea, h3⟩
  · exact .inl h3
  · refine .inr ⟨b, off, ea, fun i l hi => ?_⟩
    obtain ⟨e0, e1, e2⟩ := h3 i l hi
    have k : ∀ (p : Addr) (x : Value), w.cell? p = some x → w'.cell? p = some x := fun p x hp => (hb.cell (World.block_lt_of_cell? w _ hp)).trans hp
    exact ⟨k _ _ e0, k _ _ e1, k _ _ e2⟩
theorem rdLits_at {w : World} {a : Option Addr} {n cap : Nat} {ls : List Lit} (h : RdLits w (.slice a n cap) ls) {i : Nat} (hi : i < n) : ∃ (b off : Nat) (l : Lit), a = some ⟨b, off, none⟩ ∧ ls[i]? = some l ∧
    w.cell? ⟨b, off + i * 3, none⟩ = some (.int .i64 l.var) ∧ w.cell? ⟨b, off + i * 3 + 1, none⟩ = some (.int .i64 l.val) ∧ w.cell? ⟨b, off + i * 3 + 2, none⟩ = some (.bool l.neg) := by
  obtain ⟨a', cap', e, h1, h2, h3⟩ := h
  simp at e
  obtain ⟨rfl, rfl, rfl⟩ := e
  rcases h3 with h3 | ⟨b, off, rfl, h3⟩
  · omega
  · exact ⟨b, off, ls[i], rfl, List.getElem?_eq_getElem hi, h3 i _ (List.getElem?_eq_getElem hi)⟩
theorem rdLits_len {w : World} {a : Option Addr} {n cap : Nat} {ls : List Lit} (h : RdLits w (.slice a n cap) ls) : ls.length = n ∧ n ≤ cap ∧ cap ≤ 9223372036854775807 := by
  obtain ⟨a', cap', e, h1, h2, h3⟩ := h
  simp at e
  obtain ⟨rfl, rfl, rfl⟩ := e
  unfold maxLen at h2
  exact ⟨rfl, h1, by omega⟩

section
variable {H : Type} {enc : TypeId × Value → H} {w : World} {base : Nat} {held : Bool}
theorem lit_of_cells {n : Nat} {cs : List Value} {y : DataW H × List MemPlace} (h : DataW.trod enc Tryz.prog w base (fun _ => true) held n 93 cs = some y) :
    ∃ l : Lit, cs = [.int .i64 l.var, .int .i64 l.val, .bool l.neg] := by
  obtain ⟨hl, m, hf⟩ := cells_of_struct Tryz.underlying93 (by kernel_rfl) (by kernel_rfl) h
  obtain ⟨v0, z0, e0, r0⟩ := hf 0 _ rfl
  obtain ⟨v1, z1, e1, r1⟩ := hf 1 _ rfl
  obtain ⟨v2, z2, e2, r2⟩ := hf 2 _ rfl
  obtain ⟨a, q0, _, _⟩ := DataW.trod_int Tryz.underlying3 r0
  obtain ⟨b, q1, _, _⟩ := DataW.trod_int Tryz.underlying3 r1
  obtain ⟨c, q2, _⟩ := DataW.trod_bool Tryz.underlying4 r2
  simp at q0 q1 q2
  subst q0 q1 q2
  refine ⟨⟨a, b, c⟩, ?_⟩
  match cs, hl, e0, e1, e2 with
  | [c0, c1, c2], _, e0, e1, e2 => simp_all
set_option maxRecDepth 100000 in
theorem rdLits_of_trod {n : Nat} {v : Value} {y : DataW H × List MemPlace} (h : DataW.trod enc Tryz.prog w base (fun _ => true) held n 44 [v] = some y) : ∃ ls, RdLits w v ls := by
  have hC : Tryz.prog.cellsOf 93 = 3 := by kernel_rfl
  rcases open_slice Tryz.underlying44 h with ⟨hcs, _⟩ | ⟨a, len, cap, m, k, D, Pl, hcs, hb, hl, hm, hmm, _, hx⟩
  · simp at hcs
    subst hcs
    exact ⟨[], none, 0, rfl, Nat.le_refl _, by simp [maxLen], .inl rfl⟩
  · simp at hcs hmm
    subst hcs hmm
    have each : ∀ r, r < m → ∃ q : Lit, w.cells? base (a.add (r * 3)) 3 = some [.int .i64 q.var, .int .i64 q.val, .bool q.neg] := by
      intro r hr
      obtain ⟨cs', h1, h2⟩ := hx r hr
      obtain ⟨l, e⟩ := lit_of_cells h2
      rw [hC, e] at h1
      exact ⟨l, h1⟩
    have : Inhabited Lit := ⟨⟨0, 0, false⟩⟩
    obtain ⟨f, hf⟩ := choose_lt each
    have hlen : ((List.range len).map f).length = len := by simp
    refine ⟨(List.range len).map f, some a, m, by rw [hlen], by omega, hm, ?_⟩
    by_cases h0 : len = 0
    · exact .inl (by omega)
    · obtain ⟨b, off, spot⟩ := a
      have hc := (World.cells?_some (hf 0 (by omega))).2.2 0 (by omega)
      have hspot : spot = none := by simpa [Addr.add] using World.cell?_spot (hc.trans (List.getElem?_cons_zero ..))
      subst hspot
      refine .inr ⟨b, off, rfl, fun i c hi => ?_⟩
      have hi' : i < len := by have := (List.getElem?_eq_some_iff.1 hi).1; simpa using this
      have ec : f i = c := by simpa [hi'] using hi
      have hat := (World.cells?_some (hf i (by omega))).2.2
      have ad : ∀ j, ((Addr.mk b off none).add (i * 3)).add j = ⟨b, off + i * 3 + j, none⟩ := fun j => by rw [addr_add, addr_add]
      rw [← ec]
      exact ⟨by simpa [ad] using hat 0 (by omega), by simpa [ad] using hat 1 (by omega), by simpa [ad] using hat 2 (by omega)⟩
set_option maxRecDepth 100000 in
theorem rdLitsArg_of_trod {r : Reach} {b0 : Nat} {v : Value} {d : DataW H} {p : List MemPlace} (hv : Value.okWide Tryz.prog w r b0 44 v) (h : DataW.Trod enc Tryz.prog w base (fun _ => true) held 44 v d p) : ∃ ls, RdLits w v ls := by
  obtain ⟨a0, len0, cap0, rfl⟩ := okWide_slice Tryz.underlying44 hv
  obtain ⟨n, hf⟩ := h
  exact rdLits_of_trod (by simpa [Value.cells] using hf)
end

set_option maxRecDepth 100000 in
theorem szLiteralS_any (v : Value) (ls : List Lit) (left : Int) (w : World) (h : RdLits w v ls) (h0 : 0 ≤ left) (h1 : left ≤ 1048576) :
    Calls Tryz.prog 25 #[v, .int .i64 left] w (SzPost left (ls.length ≤ left.toNat) w) := by
  obtain ⟨a, cap, rfl, hl, hm, _⟩ := h
  obtain ⟨n, hn⟩ : ∃ n, n = ls.length := ⟨_, rfl⟩
  rw [← hn] at hl ⊢
  clear hn
  unfold maxLen at hm
  by_cases hneg : left - (n : Int) < 0
  · go_enter Tryz.func25, Tryz.ntmps25
    go_wp2
    go_ret
    exact ⟨-1, rfl, by omega, by omega, fun h => by omega, rfl⟩
  · go_enter Tryz.func25, Tryz.ntmps25
    go_wp2
    go_ret
    exact ⟨left - n, rfl, by omega, by omega, fun _ => by omega, rfl⟩
end Go.Proofs.YtipapmmjfoaddaaGreat

/-! The laws' own copies of literals and clauses, and their tests of equality. -/
namespace Go.Proofs.YtipapmmjfoaddaaGreat
open Go.ChangeShapes Go.WideShapes Go.ChangeAt Go.RowKit Go.Deep
set_option linter.unusedVariables false
set_option linter.unusedSimpArgs false

/-- A block of three cells. -/
def Blk3 (w : World) (b : Nat) (t : TypeId) (u0 u1 u2 : Value) : Prop := w.heap[b]? = some (.cells #[u0, u1, u2] t (0, 0))
section
variable {w w' : World} {b : Nat} {t : TypeId} {u0 u1 u2 : Value}
theorem Blk3.cell (h : Blk3 w b t u0 u1 u2) : w.cell? ⟨b, 0, none⟩ = some u0 ∧ w.cell? ⟨b, 1, none⟩ = some u1 ∧ w.cell? ⟨b, 2, none⟩ = some u2 := by
  simp [World.cell?, show w.heap[b]? = _ from h]
theorem Blk3.frozen (h : Blk3 w b t u0 u1 u2) : w.frozen? ⟨b, 0, none⟩ = false ∧ w.frozen? ⟨b, 1, none⟩ = false ∧ w.frozen? ⟨b, 2, none⟩ = false := by
  simp [World.frozen?, show w.heap[b]? = _ from h]
theorem Blk3.lt (h : Blk3 w b t u0 u1 u2) : b < w.heap.size := (Array.getElem?_eq_some_iff.1 h).1
theorem Blk3.below (h : Blk3 w b t u0 u1 u2) (hb : Below w.heap.size w w') : Blk3 w' b t u0 u1 u2 := (hb.block b h.lt).trans h
theorem Blk3.new (w : World) (t : TypeId) (u0 u1 u2 : Value) : Blk3 (w.alloc (.cells #[u0, u1, u2] t)) w.heap.size t u0 u1 u2 := World.alloc_heap_new w _
theorem Blk3.alloc (h : Blk3 w b t u0 u1 u2) (o : Obj) : Blk3 (w.alloc o) b t u0 u1 u2 := (Below.heap_alloc w o b h.lt).trans h
end

/-- A literal as a value. -/
def Lit.v (l : Lit) : Value := .agg #[.int .i64 l.var, .int .i64 l.val, .bool l.neg]

theorem below3 (w : World) (o1 o2 o3 : Obj) : Below w.heap.size w (((w.alloc o1).alloc o2).alloc o3) := (((Below.refl _ _).alloc (Nat.le_refl _) _).alloc (by simp) _).alloc (by simp; omega) _
theorem below2 (w : World) (o1 o2 : Obj) : Below w.heap.size w ((w.alloc o1).alloc o2) := ((Below.refl _ _).alloc (Nat.le_refl _) _).alloc (by simp) _
set_option maxRecDepth 100000 in
set_option maxHeartbeats 2000000 in
theorem toLiteral_any (a b : Int) (c : Bool) (w : World) :
    Calls Tryz.prog 69 #[.agg #[.int .i64 a, .int .i64 b, .bool c]] w fun e w' => e = .returned (.agg #[.int .i64 a, .int .i64 b, .bool c]) ∧ Below w.heap.size w w' := by
  go_enter Tryz.func69, Tryz.ntmps69
  go_wp2
  first
    | (go_ret; exact ⟨rfl, below3 _ _ _ _⟩)
    | refine bodyPost_ret (v := .agg #[.int .i64 a, .int .i64 b, .bool c]) (by simp [results, Tryz.results69, go_sem]) rfl ⟨rfl, below3 _ _ _ _⟩

set_option maxRecDepth 100000 in
set_option maxHeartbeats 2000000 in
theorem eqLiteral_any (l k : Lit) (w : World) :
    Calls Tryz.prog 73 #[.agg #[.int .i64 l.var, .int .i64 l.val, .bool l.neg], .agg #[.int .i64 k.var, .int .i64 k.val, .bool k.neg]] w fun e w' => e = .returned (.bool (decide (l = k))) ∧ Below w.heap.size w w' := by
  obtain ⟨a, b, c⟩ := l
  obtain ⟨x, y, z⟩ := k
  show Calls Tryz.prog 73 #[.agg #[.int .i64 a, .int .i64 b, .bool c], .agg #[.int .i64 x, .int .i64 y, .bool z]] w _
  by_cases h1 : a = x
  · by_cases h2 : b = y
    · by_cases h3 : c = z
      · subst h1 h2 h3
        rw [decide_eq_true rfl]
        have q1 : (a != a) = false := by simp
        have q2 : (b != b) = false := by simp
        have q3 : (c != c) = false := by simp
        go_enter Tryz.func73, Tryz.ntmps73
        go_wp2
        go_ret
        exact ⟨rfl, below2 _ _ _⟩
      · rw [decide_eq_false (fun e => h3 (by injection e))]
        subst h1 h2
        have q1 : (a != a) = false := by simp
        have q2 : (b != b) = false := by simp
        cases c <;> cases z <;> simp at h3
        all_goals go_enter Tryz.func73, Tryz.ntmps73
        all_goals go_wp2
        all_goals go_ret
        all_goals exact ⟨rfl, below2 _ _ _⟩
    · rw [decide_eq_false (fun e => h2 (by injection e))]
      subst h1
      have q1 : (a != a) = false := by simp
      have q2 : (b != y) = true := by simp [h2]
      go_enter Tryz.func73, Tryz.ntmps73
      go_wp2
      go_ret
      exact ⟨rfl, below2 _ _ _⟩
  · rw [decide_eq_false (fun e => h1 (by injection e))]
    have q1 : (a != x) = true := by simp [h1]
    go_enter Tryz.func73, Tryz.ntmps73
    go_wp2
    go_ret
    exact ⟨rfl, below2 _ _ _⟩

/-- The order of literals. -/
def litLt (l k : Lit) : Bool := if l.var = k.var then (if l.val = k.val then !l.neg && k.neg else decide (l.val < k.val)) else decide (l.var < k.var)
set_option maxRecDepth 100000 in
set_option maxHeartbeats 2000000 in
theorem literalLess_any (l k : Lit) (w : World) :
    Calls Tryz.prog 125 #[.agg #[.int .i64 l.var, .int .i64 l.val, .bool l.neg], .agg #[.int .i64 k.var, .int .i64 k.val, .bool k.neg]] w fun e w' => e = .returned (.bool (litLt l k)) ∧ Below w.heap.size w w' := by
  obtain ⟨a, b, c⟩ := l
  obtain ⟨x, y, z⟩ := k
  show Calls Tryz.prog 125 #[.agg #[.int .i64 a, .int .i64 b, .bool c], .agg #[.int .i64 x, .int .i64 y, .bool z]] w _
  by_cases h1 : a = x
  · by_cases h2 : b = y
    · have e : litLt ⟨a, b, c⟩ ⟨x, y, z⟩ = (!c && z) := by simp [litLt, h1, h2]
      rw [e]
      subst h1 h2
      have q1 : (a != a) = false := by simp
      have q2 : (b != b) = false := by simp
      clear e
      cases c
      all_goals go_enter Tryz.func125, Tryz.ntmps125
      all_goals go_wp2
      all_goals go_ret
      all_goals exact ⟨rfl, below2 _ _ _⟩
    · have e : litLt ⟨a, b, c⟩ ⟨x, y, z⟩ = decide (b < y) := by simp [litLt, h1, h2]
      rw [e]
      subst h1
      have q1 : (a != a) = false := by simp
      have q2 : (b != y) = true := by simp [h2]
      clear e
      go_enter Tryz.func125, Tryz.ntmps125
      go_wp2
      go_ret
      exact ⟨rfl, below2 _ _ _⟩
  · have e : litLt ⟨a, b, c⟩ ⟨x, y, z⟩ = decide (a < x) := by simp [litLt, h1]
    rw [e]
    have q1 : (a != x) = true := by simp [h1]
    clear e
    go_enter Tryz.func125, Tryz.ntmps125
    go_wp2
    go_ret
    exact ⟨rfl, below2 _ _ _⟩
def cmpB (a b : Bool) : Int := if a = b then 0 else if b then -1 else 1
set_option maxRecDepth 100000 in
theorem compareBools_any (a b : Bool) (w : World) : Calls Tryz.prog 160 #[.bool a, .bool b] w fun e w' => e = .returned (.int .i64 (cmpB a b)) ∧ w = w' := by
  cases a <;> cases b
  all_goals go_enter Tryz.func160, Tryz.ntmps160
  all_goals go_wp2
  all_goals go_ret
  all_goals exact ⟨rfl, rfl⟩

/-- A literal for n variables. -/
def litOk (l : Lit) (n : Int) : Bool := wiB l.var 0 (n - 1) && wiB l.val 0 5
theorem below1 (w : World) (o1 : Obj) : Below w.heap.size w (w.alloc o1) := (Below.refl _ _).alloc (Nat.le_refl _) _
set_option maxRecDepth 100000 in
theorem isLiteral_any (l : Lit) (n : Int) (w : World) (h1 : 1 ≤ n) (h2 : n ≤ 4) :
    Calls Tryz.prog 128 #[.agg #[.int .i64 l.var, .int .i64 l.val, .bool l.neg], .int .i64 n] w fun e w' => e = .returned (.bool (litOk l n)) ∧ Below w.heap.size w w' := by
  unfold litOk
  cases h3 : wiB l.var 0 (n - 1)
  all_goals go_enter Tryz.func128, Tryz.ntmps128
  all_goals go_wp2_with fail
  all_goals refine (within_any _ _ _ _).mono ?_
  all_goals rintro e w' ⟨rfl, rfl⟩
  all_goals rw [h3]
  · go_wp2
    go_ret
    exact ⟨rfl, below1 _ _⟩
  · go_wp2_with fail
    refine (isValue_any _ _).mono ?_
    rintro e w' ⟨rfl, rfl⟩
    go_wp2
    go_ret
    exact ⟨rfl, below1 _ _⟩
def cmpI (a b : Int) : Int := if a < b then -1 else if a > b then 1 else 0
set_option maxRecDepth 100000 in
theorem cmpInt_any (a b : Int) (w : World) : Calls Tryz.prog 159 #[.int .i64 a, .int .i64 b] w fun e w' => e = .returned (.int .i64 (cmpI a b)) ∧ w = w' := by
  by_cases h1 : a < b
  · rw [show cmpI a b = -1 from if_pos h1]
    go_enter Tryz.func159, Tryz.ntmps159
    go_wp2_with (go_at_call 182; go_in)
    go_ret
    exact ⟨rfl, rfl⟩
  · by_cases h2 : a > b
    · rw [show cmpI a b = 1 by unfold cmpI; rw [if_neg h1, if_pos h2]]
      go_enter Tryz.func159, Tryz.ntmps159
      go_wp2_with (go_at_call 182; go_in)
      go_ret
      exact ⟨rfl, rfl⟩
    · rw [show cmpI a b = 0 by unfold cmpI; rw [if_neg h1, if_neg h2]]
      go_enter Tryz.func159, Tryz.ntmps159
      go_wp2_with (go_at_call 182; go_in)
      go_ret
      exact ⟨rfl, rfl⟩
/-- The first that is not 0. -/
def orI (x y z : Int) : Int := if x ≠ 0 then x else if y ≠ 0 then y else z
set_option maxRecDepth 100000 in
theorem cmpOr_any (g : Nat) (x y z : Int) (w : World) (h0 : w.cell? ⟨g, 0, none⟩ = some (.int .i64 x)) (h1 : w.cell? ⟨g, 1, none⟩ = some (.int .i64 y)) (h2 : w.cell? ⟨g, 2, none⟩ = some (.int .i64 z)) :
    Calls Tryz.prog 158 #[.slice (some ⟨g, 0, none⟩) 3 3] w fun e w' => e = .returned (.int .i64 (orI x y z)) ∧ w = w' := by
  go_enter Tryz.func158, Tryz.ntmps158
  go_wp2
  go_loopw [8] (fun i wr => ∃ k : Nat, k ≤ 3 ∧ i = .int .i64 k ∧ (1 ≤ k → x = 0) ∧ (2 ≤ k → y = 0) ∧ (3 ≤ k → z = 0) ∧ wr = w) (fun i _ => 3 - (intOf i).toNat)
  case atStart => exact ⟨0, by omega, rfl, by omega, by omega, by omega, rfl⟩
  case round =>
    obtain ⟨k, hk, rfl, k1, k2, k3, rfl⟩ := hrel
    rcases (show k = 0 ∨ k = 1 ∨ k = 2 ∨ k = 3 by omega) with rfl | rfl | rfl | rfl
    · by_cases hx : x = 0
      · have q : (x != 0) = false := by simp [hx]
        go_wp2
        go_roundw
        case rel => exact ⟨1, by omega, by go_num, fun _ => hx, by omega, by omega, trivial⟩
        case measure => simp [intOf]
      · have q : (x != 0) = true := by simp [hx]
        go_wp2
        go_ret
        exact ⟨by unfold orI; rw [if_pos hx]; rfl, rfl⟩
    · by_cases hx : y = 0
      · have q : (y != 0) = false := by simp [hx]
        go_wp2
        go_roundw
        case rel => exact ⟨2, by omega, by go_num, fun _ => k1 (by omega), fun _ => hx, by omega, trivial⟩
        case measure => simp [intOf]
      · have q : (y != 0) = true := by simp [hx]
        go_wp2
        go_ret
        exact ⟨by unfold orI; rw [if_neg (by simp [k1 (by omega)]), if_pos hx]; rfl, rfl⟩
    · by_cases hx : z = 0
      · have q : (z != 0) = false := by simp [hx]
        go_wp2
        go_roundw
        case rel => exact ⟨3, by omega, by go_num, fun _ => k1 (by omega), fun _ => k2 (by omega), fun _ => hx, trivial⟩
        case measure => simp [intOf]
      · have q : (z != 0) = true := by simp [hx]
        go_wp2
        go_ret
        exact ⟨by unfold orI; rw [if_neg (by simp [k1 (by omega)]), if_neg (by simp [k2 (by omega)])]; rfl, rfl⟩
    · go_wp2
      go_ret
      exact ⟨by unfold orI; rw [if_neg (by simp [k1 (by omega)]), if_neg (by simp [k2 (by omega)]), k3 (by omega)]; rfl, rfl⟩
/-- The order as a number. -/
def litCmp (l k : Lit) : Int := orI (cmpI l.var k.var) (cmpI l.val k.val) (cmpB l.neg k.neg)
theorem litCmp_lt (l k : Lit) : decide (litCmp l k ≥ 0) = !litLt l k := by
  obtain ⟨a, b, c⟩ := l
  obtain ⟨x, y, z⟩ := k
  unfold litCmp litLt orI cmpI
  simp only
  by_cases h1 : a < x
  · rw [if_pos h1, if_pos (by omega), if_neg (by omega), decide_eq_true h1]; rfl
  · by_cases h2 : a > x
    · rw [if_neg h1, if_pos h2, if_pos (by omega), if_neg (by omega), decide_eq_false h1]; rfl
    · obtain rfl : a = x := by omega
      rw [if_neg h1, if_neg h2, if_neg (by omega), if_pos rfl]
      by_cases h3 : b < y
      · rw [if_pos h3, if_pos (by omega), if_neg (by omega), decide_eq_true h3]; rfl
      · by_cases h4 : b > y
        · rw [if_neg h3, if_pos h4, if_pos (by omega), if_neg (by omega), decide_eq_false h3]; rfl
        · obtain rfl : b = y := by omega
          rw [if_neg h3, if_neg h4, if_neg (by omega), if_pos rfl]
          cases c <;> cases z <;> rfl

set_option maxRecDepth 100000 in
set_option maxHeartbeats 8000000 in
theorem compareLiterals_any (l k : Lit) (w : World) :
    Calls Tryz.prog 129 #[.agg #[.int .i64 l.var, .int .i64 l.val, .bool l.neg], .agg #[.int .i64 k.var, .int .i64 k.val, .bool k.neg]] w fun e w' => e = .returned (.int .i64 (litCmp l k)) ∧ Below w.heap.size w w' := by
  obtain ⟨a, b, c⟩ := l
  obtain ⟨x, y, z⟩ := k
  show Calls Tryz.prog 129 #[.agg #[.int .i64 a, .int .i64 b, .bool c], .agg #[.int .i64 x, .int .i64 y, .bool z]] w _
  have HF : Hid (litCmp ⟨a, b, c⟩ ⟨x, y, z⟩ = orI (cmpI a x) (cmpI b y) (cmpB c z)) := Lib.hid rfl
  obtain ⟨W, hW⟩ : ∃ W, (w.alloc (.cells #[.int .i64 a, .int .i64 b, .bool c] 91)).alloc (.cells #[.int .i64 x, .int .i64 y, .bool z] 91) = W := ⟨_, rfl⟩
  have bel : Below w.heap.size w W := by rw [← hW]; exact below2 _ _ _
  have q0 : Blk3 W w.heap.size 91 (.int .i64 a) (.int .i64 b) (.bool c) := by rw [← hW]; exact (Blk3.new _ _ _ _ _).alloc _
  have q1 : Blk3 W (w.heap.size + 1) 91 (.int .i64 x) (.int .i64 y) (.bool z) := by
    have := Blk3.new (w.alloc (.cells #[.int .i64 a, .int .i64 b, .bool c] 91)) 91 (.int .i64 x) (.int .i64 y) (.bool z)
    rw [World.size_alloc] at this
    rw [← hW]
    exact this
  have HB := Lib.hid bel
  have HW := Lib.hid hW
  obtain ⟨c0, c1, c2⟩ := q0.cell
  obtain ⟨d0, d1, d2⟩ := q1.cell
  have HN := Lib.hid (Blk3.new W 3 (.int .i64 (cmpI a x)) (.int .i64 (cmpI b y)) (.int .i64 (cmpB c z))).cell
  clear q0 q1 bel hW
  go_enter Tryz.func129, Tryz.ntmps129
  go_wp2
  rw [HW.out]
  go_region_held3 (fun w' => w'.cell? ⟨w.heap.size, 0, none⟩ = some (.int .i64 a) ∧ w'.cell? ⟨w.heap.size, 1, none⟩ = some (.int .i64 b) ∧ w'.cell? ⟨w.heap.size, 2, none⟩ = some (.bool c) ∧ w'.cell? ⟨w.heap.size + 1, 0, none⟩ = some (.int .i64 x) ∧ w'.cell? ⟨w.heap.size + 1, 1, none⟩ = some (.int .i64 y) ∧ w'.cell? ⟨w.heap.size + 1, 2, none⟩ = some (.bool z)) (first | exact ⟨c0, c1, c2, d0, d1, d2⟩ | go_keep) (first | (go_at_call 159; refine (cmpInt_any _ _ _).mono ?_; rintro e w' ⟨rfl, rfl⟩) | (go_at_call 160; refine (compareBools_any _ _ _).mono ?_; rintro e w' ⟨rfl, rfl⟩) | (go_at_call 158; refine (cmpOr_any W.heap.size (cmpI a x) (cmpI b y) (cmpB c z) (W.alloc (.cells #[.int .i64 (cmpI a x), .int .i64 (cmpI b y), .int .i64 (cmpB c z)] 3)).drew HN.out.1 HN.out.2.1 HN.out.2.2).mono ?_; rintro e w' ⟨rfl, rfl⟩))
  all_goals go_wp2
  all_goals go_ret
  all_goals exact ⟨by rw [HF.out]; rfl, (HB.out.alloc HB.out.size _).drew⟩
end Go.Proofs.YtipapmmjfoaddaaGreat

/-! Copies of clauses, and their test of equality. -/
namespace Go.Proofs.YtipapmmjfoaddaaGreat
open Go.ChangeShapes Go.WideShapes Go.ChangeAt Go.RowKit Go.Deep
set_option linter.unusedVariables false
set_option linter.unusedSimpArgs false

theorem Tryz.infoLit : (Tryz.prog.info? 91).map (fun i => (i.zero, i.size, i.bytes)) = some (some (.agg #[.int .i64 0, .int .i64 0, .bool false]), 3, 24) := by kernel_rfl
def set3 (vs : List Value) (p : Nat) (u0 u1 u2 : Value) : List Value := ((vs.set p u0).set (p + 1) u1).set (p + 2) u2
theorem set3_other (vs : List Value) (p q : Nat) (u0 u1 u2 : Value) (h : q < p ∨ p + 2 < q) : (set3 vs p u0 u1 u2)[q]? = vs[q]? := by
  unfold set3
  rw [List.getElem?_set_ne (by omega), List.getElem?_set_ne (by omega), List.getElem?_set_ne (by omega)]
theorem set3_at (vs : List Value) (p : Nat) (u0 u1 u2 : Value) (h : p + 2 < vs.length) : (set3 vs p u0 u1 u2)[p]? = some u0 ∧ (set3 vs p u0 u1 u2)[p + 1]? = some u1 ∧ (set3 vs p u0 u1 u2)[p + 2]? = some u2 := by
  unfold set3
  refine ⟨?_, ?_, ?_⟩ <;> simp [List.getElem?_set, List.length_set] <;> omega
theorem set3_length (vs : List Value) (p : Nat) (u0 u1 u2 : Value) : (set3 vs p u0 u1 u2).length = vs.length := by simp [set3]
/-- The first k literals lie in the cells vs. -/
def LitCells (ls : List Lit) (k : Nat) (vs : List Value) : Prop := vs.length = ls.length * 3 ∧ ∀ j l, j < k → ls[j]? = some l → vs[j * 3]? = some (.int .i64 l.var) ∧ vs[j * 3 + 1]? = some (.int .i64 l.val) ∧ vs[j * 3 + 2]? = some (.bool l.neg)
theorem LitCells.step {ls : List Lit} {k : Nat} {vs : List Value} (h : LitCells ls k vs) {l : Lit} (hc : ls[k]? = some l) : LitCells ls (k + 1) (set3 vs (k * 3) (.int .i64 l.var) (.int .i64 l.val) (.bool l.neg)) := by
  obtain ⟨h1, h2⟩ := h
  have hk : k < ls.length := (List.getElem?_eq_some_iff.1 hc).1
  refine ⟨by rw [set3_length]; exact h1, fun j l' hj hc' => ?_⟩
  by_cases e : j = k
  · subst e
    rw [hc] at hc'
    obtain rfl := Option.some.inj hc'
    exact set3_at _ _ _ _ _ (by omega)
  · obtain ⟨t0, t1, t2⟩ := h2 j l' (by omega) hc'
    exact ⟨by rw [set3_other _ _ _ _ _ _ (by omega)]; exact t0, by rw [set3_other _ _ _ _ _ _ (by omega)]; exact t1, by rw [set3_other _ _ _ _ _ _ (by omega)]; exact t2⟩
/-- What toLiteralS leaves: a row of its own. -/
def CopyLits (ls : List Lit) (w : World) (e : Ending) (w' : World) : Prop := e = .returned (.slice (some ⟨w.heap.size, 0, none⟩) ls.length ls.length) ∧ RdLits w' (.slice (some ⟨w.heap.size, 0, none⟩) ls.length ls.length) ls ∧ (∃ vs, w'.ownsRow w.heap.size 91 3 (.slice (some ⟨w.heap.size, 0, none⟩) ls.length ls.length) ls.length vs ∧ LitCells ls ls.length vs) ∧ Below w.heap.size w w'
theorem rdLits_of_cells {w : World} {B g : Nat} {ls : List Lit} {vs : List Value} (h : w.ownsRow B 91 3 (.slice (some ⟨g, 0, none⟩) ls.length ls.length) ls.length vs) (hc : LitCells ls ls.length vs) (hl : ls.length ≤ 1048576) : RdLits w (.slice (some ⟨g, 0, none⟩) ls.length ls.length) ls := by
  refine ⟨some ⟨g, 0, none⟩, ls.length, rfl, Nat.le_refl _, by unfold maxLen; omega, .inr ⟨g, 0, rfl, fun i l hi => ?_⟩⟩
  have hlt : i < ls.length := (List.getElem?_eq_some_iff.1 hi).1
  obtain ⟨t0, t1, t2⟩ := hc.2 i l hlt hi
  have hv : vs.length = ls.length * 3 := hc.1
  have k : ∀ q u, q < ls.length * 3 → vs[q]? = some u → w.cell? ⟨g, 0 + q, none⟩ = some u := fun q u hq hu => by rw [Nat.zero_add, h.cellAt q (by omega)]; exact hu
  exact ⟨k _ _ (by omega) t0, k _ _ (by omega) t1, k _ _ (by omega) t2⟩

set_option maxRecDepth 100000 in
set_option maxHeartbeats 4000000 in
theorem toLiteralS_any (v : Value) (ls : List Lit) (w : World) (h : RdLits w v ls) (hx : ls.length ≤ 1048576) :
    Calls Tryz.prog 27 #[v] w (CopyLits ls w) := by
  have HC := Lib.hid h
  obtain ⟨a, cap, ev, hl, hm, _⟩ := h
  unfold CopyLits
  obtain ⟨n, hn⟩ : ∃ n, n = ls.length := ⟨_, rfl⟩
  have HN := Lib.hid hn
  rw [ev] at HC ⊢
  rw [← hn] at hl hx HC ⊢
  clear hn ev
  unfold maxLen at hm
  obtain ⟨i0, hi, hz0, hz1, hz2⟩ := info_parts Tryz.infoLit
  go_enter Tryz.func27, Tryz.ntmps27
  go_wp2_with (at_make; refine wpList_make_full _ rfl _ _ 47 rfl w.heap.size 91 i0 (.agg #[.int .i64 0, .int .i64 0, .bool false]) 3 Tryz.underlying47 hi hz0 hz1 .i64 .i64 _ _ n rfl rfl rfl rfl (by rw [hz2]; omega) (by unfold maxLen; omega) (Nat.le_refl _) ?_; intro w1 hown hgrow)
  have hb1 := below_of_grown hgrow
  have hsz1 : w.heap.size < w1.heap.size := by
    rcases hown.2 with ⟨e, _⟩ | ⟨g, c, cur, e, _, hg, _⟩
    · simp at e
    · simp at e; obtain ⟨rfl, rfl⟩ := e; exact (Array.getElem?_eq_some_iff.1 hg).1
  obtain ⟨vs0, hvs0⟩ : ∃ vs0, vs0 = (madeCells (Value.cells (.agg #[.int .i64 0, .int .i64 0, .bool false])) (n * 3)).toList := ⟨_, rfl⟩
  rw [← hvs0] at hown
  have HO := Lib.hid hown
  have HV : Hid (LitCells ls 0 vs0) := Lib.hid ⟨by rw [hown.1, HN.out], fun j c hj => by omega⟩
  clear hown hgrow hvs0
  go_wp2_with fail
  go_loopw [4] (fun i wr => ∃ (k : Nat) (vs : List Value), k ≤ n ∧ i = .int .i64 k ∧ Hid (wr.ownsRow w.heap.size 91 3 (.slice (some ⟨w.heap.size, 0, none⟩) n n) n vs) ∧ Hid (LitCells ls k vs) ∧ Below w.heap.size w wr ∧ w.heap.size < wr.heap.size) (fun i _ => n - (intOf i).toNat)
  case atStart => exact ⟨0, _, Nat.zero_le _, rfl, HO, HV, hb1, hsz1⟩
  case round =>
    obtain ⟨k, vs, hk, rfl, HR, HV, hbel, hsz⟩ := hrel
    by_cases hlt : k < n
    · obtain ⟨b, off, l, rfl, hck, k0, k1, k2⟩ := rdLits_at (HC.out.below hbel) hlt
      have HCK := Lib.hid hck
      clear hck
      go_wp2_with fail
      refine (toLiteral_any l.var l.val l.neg wr).mono ?_
      rintro e w2 ⟨rfl, hb2⟩
      have HR2 := Lib.hid (World.ownsRow.kept HR.out (show wr.grownBy w2 none from ⟨hb2.os, hb2.tape, hb2.output, hb2.size, fun q hq _ => hb2.block q hq⟩) (.inr (by simp [Value.ownBlock])))
      have hb3 : Below w.heap.size w w2 := hbel.trans (hb2.mono hbel.size)
      have hs3 : w.heap.size < w2.heap.size := by have := hb2.size; omega
      clear hb2 hbel HR k0 k1 k2
      have hvl : vs.length = n * 3 := HR2.out.1
      have d0 : w2.cell? ⟨w.heap.size, k * 3, none⟩ = some (vs[k * 3]'(by omega)) := by rw [HR2.out.cellAt _ (by omega)]; exact List.getElem?_eq_getElem _
      have d1 : w2.cell? ⟨w.heap.size, k * 3 + 1, none⟩ = some (vs[k * 3 + 1]'(by omega)) := by rw [HR2.out.cellAt _ (by omega)]; exact List.getElem?_eq_getElem _
      have d2 : w2.cell? ⟨w.heap.size, k * 3 + 2, none⟩ = some (vs[k * 3 + 2]'(by omega)) := by rw [HR2.out.cellAt _ (by omega)]; exact List.getElem?_eq_getElem _
      have f0 := HR2.out.frozenAt (k * 3)
      have f1 := HR2.out.frozenAt (k * 3 + 1)
      have f2 := HR2.out.frozenAt (k * 3 + 2)
      go_wp2
      go_roundw
      case rel =>
        refine ⟨k + 1, set3 vs (k * 3) (.int .i64 l.var) (.int .i64 l.val) (.bool l.neg), by omega, by go_num, Lib.hid ?_, Lib.hid (HV.out.step HCK.out), ?_, by simpa using hs3⟩
        · have t0 := (HR2.out.stored (k * 3) (.int .i64 l.var)).1
          have t1 := (t0.stored (k * 3 + 1) (.int .i64 l.val)).1
          exact (t1.stored (k * 3 + 2) (.bool l.neg)).1
        · have hp : ∀ j : Nat, w.heap.size ≤ (⟨w.heap.size, j, none⟩ : Addr).block := fun j => Nat.le_refl _
          exact ((hb3.setCell (hp _) _).setCell (hp _) _).setCell (hp _) _
      case measure => simp [intOf]; omega
    · obtain rfl : k = n := by omega
      have HF : Hid (RdLits wr (.slice (some ⟨w.heap.size, 0, none⟩) k k) ls) := Lib.hid (by
        have := HN.out
        subst this
        exact rdLits_of_cells HR.out HV.out hx)
      go_wp2
      go_ret
      exact ⟨rfl, HF.out, ⟨vs, HR.out, HV.out⟩, hbel⟩

set_option maxRecDepth 100000 in
set_option maxHeartbeats 4000000 in
theorem eqLiteralS_same (v1 v2 : Value) (ls : List Lit) (w : World) (h1 : RdLits w v1 ls) (h2 : RdLits w v2 ls) :
    Calls Tryz.prog 29 #[v1, v2] w (SamePostB w) := by
  have H1 := Lib.hid h1
  have H2 := Lib.hid h2
  obtain ⟨a1, c1, ev1, hl1, hm1, _⟩ := h1
  obtain ⟨a2, c2, ev2, hl2, hm2, _⟩ := h2
  rw [ev1] at H1 ⊢
  rw [ev2] at H2 ⊢
  unfold maxLen at hm1 hm2
  obtain ⟨n, hn⟩ : ∃ n, n = ls.length := ⟨_, rfl⟩
  rw [← hn] at hl1 hl2 H1 H2 ⊢
  clear hn ev1 ev2
  have hne : ((n : Int) != (n : Int)) = false := by simp
  go_enter Tryz.func29, Tryz.ntmps29
  go_wp2
  go_loopw [5] (fun i wr => ∃ k : Nat, k ≤ n ∧ i = .int .i64 k ∧ Below w.heap.size w wr) (fun i _ => n - (intOf i).toNat)
  case atStart => exact ⟨0, Nat.zero_le _, rfl, Below.refl _ _⟩
  case round =>
    obtain ⟨k, hk, rfl, hbel⟩ := hrel
    by_cases hlt : k < n
    · obtain ⟨b1, o1, l, rfl, hck, k0, k1, k2⟩ := rdLits_at (H1.out.below hbel) hlt
      obtain ⟨b2, o2, l', rfl, hck', j0, j1, j2⟩ := rdLits_at (H2.out.below hbel) hlt
      rw [hck] at hck'
      obtain rfl := Option.some.inj hck'
      have HB : Hid (Below w.heap.size w wr.drew) := Lib.hid hbel.drew
      have HE := Lib.hid (eqLiteral_any l l wr.drew)
      rw [decide_eq_true rfl] at HE
      clear hck hck' hbel
      go_wp2_with fail
      go_region_with (go_at_call 73; refine HE.out.mono ?_; rintro e w9 ⟨rfl, b9⟩; have B9 := Lib.hid (HB.out.trans (b9.mono HB.out.size)); clear b9)
      all_goals go_wp2
      all_goals go_roundw
      all_goals first
        | exact ⟨k + 1, by omega, by go_num, B9.out⟩
        | (simp [intOf]; omega)
    · obtain rfl : k = n := by omega
      go_wp2
      go_ret
      exact ⟨rfl, hbel⟩
end Go.Proofs.YtipapmmjfoaddaaGreat

/-! ValidClause as plain data; pieces for its walks. -/
namespace Go.Proofs.YtipapmmjfoaddaaGreat
open Go.ChangeShapes Go.WideShapes Go.ChangeAt Go.RowKit Go.Deep
set_option linter.unusedVariables false
set_option linter.unusedSimpArgs false

/-- The literal at i is one for n variables, and behind the one before it. -/
def stB (ls : List Lit) (n : Int) (i : Nat) : Bool := match ls[i]? with
  | none => true
  | some l => litOk l n && (i == 0 || match ls[i - 1]? with | none => true | some p => litLt p l)
def clB (ls : List Lit) (n : Int) : Bool := decide (ls.length ≤ 12) && (List.range ls.length).all (stB ls n)
def vclB (ls : List Lit) (n : Int) : Bool := wiB n 1 4 && clB ls n
theorem st_zero {ls : List Lit} {n : Int} {l : Lit} (h : ls[0]? = some l) : stB ls n 0 = litOk l n := by simp [stB, h]
theorem st_succ {ls : List Lit} {n : Int} {j : Nat} {l p : Lit} (h : ls[j + 1]? = some l) (hp : ls[j]? = some p) : stB ls n (j + 1) = (litOk l n && litLt p l) := by simp [stB, h, hp]
theorem clB_false {ls : List Lit} {n : Int} {k : Nat} (hk : k < ls.length) (h : stB ls n k = false) : clB ls n = false := by
  unfold clB
  rw [Bool.and_eq_false_iff]
  right
  rw [List.all_eq_false]
  exact ⟨k, List.mem_range.2 hk, by simp [h]⟩
theorem clB_all {ls : List Lit} {n : Int} (h : ∀ k, k < ls.length → stB ls n k = true) : clB ls n = decide (ls.length ≤ 12) := by
  unfold clB
  rw [show (List.range ls.length).all (stB ls n) = true from List.all_eq_true.2 (fun k hk => h k (List.mem_range.1 hk)), Bool.and_true]

theorem wrap_n1 {n : Int} (h1 : 1 ≤ n) (h4 : n ≤ 4) : IntKind.i64.wrap (n - 1) = n - 1 := by
  rcases (show n = 1 ∨ n = 2 ∨ n = 3 ∨ n = 4 by omega) with rfl | rfl | rfl | rfl <;> rfl
theorem inR1 {n : Int} (h1 : 1 ≤ n) (h4 : n ≤ 4) {x : Int} {c : Bool} (h : wiB x 0 (n - 1) = c) (w : World) : Calls Tryz.prog 45 #[.int .i64 x, .int .i64 0, .int .i64 (IntKind.i64.wrap (n - 1))] w fun e w' => e = .returned (.bool c) ∧ w = w' := by
  rw [wrap_n1 h1 h4, ← h]
  exact inRange_any _ _ _ _
theorem inR2 {x : Int} {c : Bool} (h : wiB x 0 5 = c) (w : World) : Calls Tryz.prog 45 #[.int .i64 x, .int .i64 0, .int .i64 5] w fun e w' => e = .returned (.bool c) ∧ w = w' := by
  rw [← h]
  exact inRange_any _ _ _ _

end Go.Proofs.YtipapmmjfoaddaaGreat
