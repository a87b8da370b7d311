/- The laws' marks: numbers written over numbers, in the memory of a copy; nothing else changes. The laws' copies and marks, each kind of argument told alike: what is copied reads the same, lies in new blocks and may be written. -/
import Derived.Test.YtelglccegkhfcaaMod
import Derived.Test.YtelglccegkhfcaaSolA

/-! The laws' marks: numbers written over numbers, in the memory of a copy; nothing else changes. -/
namespace Go.Proofs.Ytelglccegkhfcaa
open Go.ChangeShapes Go.WideShapes Go.ChangeAt Go.RowKit
set_option linter.unusedVariables false
set_option linter.unusedSimpArgs false

/-- Neither a number nor a truth value. -/
def FixedV (x : Value) : Prop := (∀ i : Int, x ≠ .int .i64 i) ∧ ∀ b : Bool, x ≠ .bool b
/-- From w to w' only numbers in blocks lo, .., hi - 1 have changed; there may be more blocks. -/
structure Marked (lo hi : Nat) (w w' : World) : Prop where
  os : w'.os = w.os
  tape : w'.tape = w.tape
  output : w'.output = w.output
  size : w.heap.size ≤ w'.heap.size
  block : ∀ b, b < w.heap.size → (b < lo ∨ hi ≤ b) → w'.heap[b]? = w.heap[b]?
  frozen : ∀ b i, b < w.heap.size → w'.frozen? ⟨b, i, none⟩ = w.frozen? ⟨b, i, none⟩
  cell : ∀ p x, w.cell? p = some x → ∃ y, w'.cell? p = some y ∧ (∀ i : Int, x = .int .i64 i → ∃ j : Int, y = .int .i64 j) ∧ (FixedV x → y = x) ∧ (∀ b : Bool, x = .bool b → ∃ c : Bool, y = .bool c)

theorem Marked.refl (lo hi : Nat) (w : World) : Marked lo hi w w := ⟨rfl, rfl, rfl, Nat.le_refl _, fun _ _ _ => rfl, fun _ _ _ => rfl, fun p x h => ⟨x, h, fun i e => ⟨i, e⟩, fun _ => rfl, fun b e => ⟨b, e⟩⟩⟩
theorem Marked.trans {lo hi : Nat} {a b c : World} (h : Marked lo hi a b) (k : Marked lo hi b c) : Marked lo hi a c := by
  refine ⟨k.os.trans h.os, k.tape.trans h.tape, k.output.trans h.output, Nat.le_trans h.size k.size, fun q hq ho => (k.block q (Nat.lt_of_lt_of_le hq h.size) ho).trans (h.block q hq ho), fun q i hq => (k.frozen q i (Nat.lt_of_lt_of_le hq h.size)).trans (h.frozen q i hq), fun p x hx => ?_⟩
  obtain ⟨y, hy, h1, h2, h3⟩ := h.cell p x hx
  obtain ⟨z, hz, k1, k2, k3⟩ := k.cell p y hy
  refine ⟨z, hz, fun i e => ?_, fun e => ?_, fun b e => ?_⟩
  · obtain ⟨j, ej⟩ := h1 i e; exact k1 j ej
  · have := h2 e; subst this; exact k2 e
  · obtain ⟨j, ej⟩ := h3 b e; exact k3 j ej
theorem Marked.of_below {lo hi : Nat} {w w' : World} (h : Below w.heap.size w w') : Marked lo hi w w' :=
  ⟨h.os, h.tape, h.output, h.size, fun b hb _ => h.block b hb, fun b i hb => frozen_below h hb i, fun p x hx => ⟨x, (h.cell (World.block_lt_of_cell? w _ hx)).trans hx, fun i e => ⟨i, e⟩, fun _ => rfl, fun b e => ⟨b, e⟩⟩⟩
theorem Marked.below {lo hi : Nat} {w w' : World} (h : Marked lo hi w w') {B : Nat} (h1 : B ≤ lo) (h2 : B ≤ w.heap.size) : Below B w w' :=
  ⟨h.os, h.tape, h.output, h.size, fun b hb => h.block b (by omega) (.inl (by omega))⟩
theorem Marked.set {lo hi : Nat} {w : World} {b off : Nat} {x : Int} (hc : w.cell? ⟨b, off, none⟩ = some (.int .i64 x)) (h1 : lo ≤ b) (h2 : b < hi) (y : Int) : Marked lo hi w (w.setCell ⟨b, off, none⟩ (.int .i64 y)) := by
  refine ⟨rfl, rfl, rfl, by simp, fun q _ ho => Below.heap_setCell _ _ _ q (by show q ≠ b; omega), fun q i _ => frozen_set _ _ _ _, fun p z hz => ?_⟩
  by_cases e : (⟨b, off, none⟩ : Addr) = p
  · subst e
    rw [hc] at hz
    obtain rfl := Option.some.inj hz
    exact ⟨.int .i64 y, World.cell?_setCell_same' _ _ _ (by rw [hc]; rfl), fun _ _ => ⟨y, rfl⟩, fun h => absurd rfl (h.1 x), fun b e => by cases e⟩
  · exact ⟨z, by rw [show (w.setCell ⟨b, off, none⟩ (.int .i64 y)).cell? p = w.cell? p from by rw [World.cell?_setCell_other]; exact e]; exact hz, fun i ei => ⟨i, ei⟩, fun _ => rfl, fun b e => ⟨b, e⟩⟩

/-- A slice of n numbers that may be written, in blocks lo, .., hi - 1. -/
def ShI (lo hi : Nat) (w : World) (v : Value) (n : Nat) : Prop :=
  ∃ a c, v = .slice a n c ∧ n ≤ c ∧ c ≤ maxLen ∧ (n = 0 ∨ ∃ b off, a = some ⟨b, off, none⟩ ∧ lo ≤ b ∧ b < hi ∧ ∀ i, i < n → (∃ x : Int, w.cell? ⟨b, off + i, none⟩ = some (.int .i64 x)) ∧ w.frozen? ⟨b, off + i, none⟩ = false)
theorem ShI.marked {lo hi lo' hi' : Nat} {w w' : World} {v : Value} {n : Nat} (h : ShI lo hi w v n) (hm : Marked lo' hi' w w') : ShI lo hi w' v n := by
  obtain ⟨a, c, e, h1, h2, h3⟩ := h
  refine ⟨a, c, e, h1, h2, ?_⟩
  rcases h3 with h3 | ⟨b, off, ea, hb1, hb2, h3⟩
  · exact .inl h3
  · refine .inr ⟨b, off, ea, hb1, hb2, fun i hi => ?_⟩
    obtain ⟨⟨x, hx⟩, hz⟩ := h3 i hi
    obtain ⟨y, hy, k1, _⟩ := hm.cell _ _ hx
    obtain ⟨j, ej⟩ := k1 x rfl
    exact ⟨⟨j, by rw [hy, ej]⟩, (hm.frozen b _ (World.block_lt_of_cell? w _ hx)).trans hz⟩

/-- k, k + 1, .., n of them. -/
def upFrom (k : Int) (n : Nat) : List Int := (List.range n).map fun (i : Nat) => k + (i : Int)
theorem upFrom_length (k : Int) (n : Nat) : (upFrom k n).length = n := by simp [upFrom]
theorem upFrom_at (k : Int) (n i : Nat) (h : i < n) : (upFrom k n)[i]?.getD 0 = k + i := by simp [upFrom, h]

/-- What marking n numbers from k on leaves. -/
def MarkPost (lo hi : Nat) (k : Int) (n : Nat) (v : Value) (w : World) (e : Ending) (w' : World) : Prop := e = .returned (.int .i64 (k + n)) ∧ Marked lo hi w w' ∧ RdInts w' v (upFrom k n)

set_option maxRecDepth 100000 in
set_option maxHeartbeats 1000000 in
theorem markIntS_any (lo hi : Nat) (v : Value) (n : Nat) (k : Int) (w : World) (h : ShI lo hi w v n) (hn : n ≤ 1048576) (h0 : 0 ≤ k) (h1 : k ≤ 4611686018427387904) :
    Calls Try.prog 39 #[v, .int .i64 k] w (MarkPost lo hi k n v w) := by
  have HS := Lib.hid h
  obtain ⟨a, c, rfl, hl, hm, hx⟩ := h
  have HV : Hid (a = none ∨ ∃ b off, a = some ⟨b, off, none⟩ ∨ n = 0) := Lib.hid (by rcases hx with h | ⟨b, off, e, _⟩; (· exact .inr ⟨0, 0, .inr h⟩); (· exact .inr ⟨b, off, .inl e⟩))
  clear hx HV
  have hm' := hm
  unfold maxLen at hm
  go_enter Try.func39, Try.ntmps39
  go_wp2
  go_loopw [1, 5] (fun q i wr => ∃ j : Nat, j ≤ n ∧ i = .int .i64 j ∧ q = .int .i64 (k + j) ∧ Hid (Marked lo hi w wr) ∧ Hid (∀ p, p < j → ∀ b off, a = some ⟨b, off, none⟩ → wr.cell? ⟨b, off + p, none⟩ = some (.int .i64 (k + p)))) (fun _ i _ => n - (intOf i).toNat)
  case atStart => exact ⟨0, Nat.zero_le _, rfl, by simp, Lib.hid (Marked.refl _ _ _), Lib.hid (fun p hp => by omega)⟩
  case round =>
    obtain ⟨j, hj, rfl, rfl, HM, HE⟩ := hrel
    by_cases hlt : j < n
    · obtain ⟨a', c', ea, _, _, hx⟩ := HS.out.marked HM.out
      simp at ea
      obtain ⟨rfl, rfl⟩ := ea
      rcases hx with hx | ⟨b, off, rfl, hb1, hb2, hx⟩
      · omega
      obtain ⟨⟨x, hc⟩, hf⟩ := hx j hlt
      have HM2 := Lib.hid (HM.out.trans (Marked.set hc hb1 hb2 (k + j)))
      have HE2 : Hid (∀ p, p < j + 1 → ∀ b' off', (some ⟨b, off, none⟩ : Option Addr) = some ⟨b', off', none⟩ → (wr.setCell ⟨b, off + j, none⟩ (.int .i64 (k + j))).cell? ⟨b', off' + p, none⟩ = some (.int .i64 (k + p))) := Lib.hid (fun p hp b' off' e => by
        simp at e
        obtain ⟨rfl, rfl⟩ := e
        by_cases ep : p = j
        · subst ep
          exact World.cell?_setCell_same' _ _ _ (by rw [hc]; rfl)
        · have hne : (⟨b, off + j, none⟩ : Addr) ≠ ⟨b, off + p, none⟩ := fun e => by have := congrArg Addr.off e; simp at this; omega
          rw [show (wr.setCell ⟨b, off + j, none⟩ (.int .i64 (k + j))).cell? ⟨b, off + p, none⟩ = wr.cell? ⟨b, off + p, none⟩ from by rw [World.cell?_setCell_other]; exact hne]
          exact HE.out p (by omega) b off rfl)
      clear hx HM HE
      go_wp2
      go_roundw
      case rel => exact ⟨j + 1, by omega, by go_num, by go_num, HM2, HE2⟩
      case measure => simp [intOf]; omega
    · obtain rfl : j = n := by omega
      have HF : Hid (RdInts wr (.slice a j c) (upFrom k j)) := Lib.hid (by
        obtain ⟨a', c', ea, _, _, hx⟩ := HS.out
        simp at ea
        obtain ⟨rfl, rfl⟩ := ea
        refine ⟨a, c, by rw [upFrom_length], by rw [upFrom_length]; exact hl, hm', ?_⟩
        rcases hx with hx | ⟨b, off, rfl, _, _, _⟩
        · exact .inl (by rw [upFrom_length]; exact hx)
        · refine .inr ⟨b, off, rfl, fun i hi => ?_⟩
          rw [upFrom_length] at hi
          rw [upFrom_at k j i hi]
          exact HE.out i hi b off rfl)
      clear HE
      go_wp2
      go_ret
      exact ⟨by simp, HM.out, HF.out⟩

set_option maxRecDepth 100000 in
set_option maxHeartbeats 1000000 in
theorem heldIntS_any (v : Value) (n : Nat) (k : Int) (w : World) (h : RdInts w v (upFrom k n)) (hn : n ≤ 1048576) (h0 : 0 ≤ k) (h1 : k ≤ 4611686018427387904) :
    Calls Try.prog 40 #[v, .int .i64 k] w fun e w' => e = .returned (.int .i64 (k + n)) ∧ w = w' := by
  have HS := Lib.hid h
  obtain ⟨a, c, ev, hl, hm, _⟩ := h
  rw [upFrom_length] at ev hl
  rw [ev] at HS ⊢
  clear ev
  unfold maxLen at hm
  go_enter Try.func40, Try.ntmps40
  go_wp2
  go_loop [1, 5] (fun q i => ∃ j : Nat, j ≤ n ∧ i = .int .i64 j ∧ q = .int .i64 (k + j)) (fun _ i => n - (intOf i).toNat)
  case atStart => exact ⟨0, Nat.zero_le _, rfl, by simp⟩
  case round =>
    obtain ⟨j, hj, rfl, rfl⟩ := hrel
    by_cases hlt : j < n
    · obtain ⟨b, off, ea, hc⟩ : ∃ b off, a = some ⟨b, off, none⟩ ∧ w.cell? ⟨b, off + j, none⟩ = some (.int .i64 (k + j)) := by
        obtain ⟨a', c', e, _, _, hx⟩ := HS.out
        rw [upFrom_length] at hx
        simp at e
        obtain ⟨rfl, _, rfl⟩ := e
        rcases hx with hx | ⟨b, off, ea, hx⟩
        · omega
        · exact ⟨b, off, ea, by rw [hx j hlt, upFrom_at k n j hlt]⟩
      subst ea
      have hne : (k + (j : Int) != k + (j : Int)) = false := by simp
      go_wp2
      go_round
      case rel => exact ⟨j + 1, by omega, by go_num, by go_num⟩
      case measure => simp [intOf]; omega
    · obtain rfl : j = n := by omega
      go_wp2
      go_ret
      exact ⟨by simp, rfl⟩

/-- A slice of at most 2^20 slices of at most 2^20 numbers. -/
def ShR (lo hi : Nat) (w : World) (v : Value) : Prop :=
  ∃ a n c, v = .slice a n c ∧ n ≤ c ∧ c ≤ maxLen ∧ n ≤ 1048576 ∧ (n = 0 ∨ ∃ b off, a = some ⟨b, off, none⟩ ∧ ∀ i, i < n → ∃ u m, w.cell? ⟨b, off + i, none⟩ = some u ∧ ShI lo hi w u m ∧ m ≤ 1048576)
theorem shI_slice {lo hi : Nat} {w : World} {u : Value} {m : Nat} (h : ShI lo hi w u m) : FixedV u := by
  obtain ⟨a, c, rfl, _⟩ := h
  exact ⟨fun i e => (by cases e), fun i e => (by cases e)⟩
theorem ShR.marked {lo hi lo' hi' : Nat} {w w' : World} {v : Value} (h : ShR lo hi w v) (hm : Marked lo' hi' w w') : ShR lo hi w' v := by
  obtain ⟨a, n, c, e, h1, h2, hn, h3⟩ := h
  refine ⟨a, n, c, e, h1, h2, hn, ?_⟩
  rcases h3 with h3 | ⟨b, off, ea, h3⟩
  · exact .inl h3
  · refine .inr ⟨b, off, ea, fun i hi => ?_⟩
    obtain ⟨u, m, hu, hs, hl⟩ := h3 i hi
    obtain ⟨y, hy, _, k2, _⟩ := hm.cell _ _ hu
    have := k2 (shI_slice hs)
    subst this
    exact ⟨_, m, hy, hs.marked hm, hl⟩

/-- What marking leaves: the next number, at most s further. -/
def MarksPost (lo hi : Nat) (k s : Int) (w : World) (e : Ending) (w' : World) : Prop := ∃ k' : Int, e = .returned (.int .i64 k') ∧ k ≤ k' ∧ k' ≤ k + s ∧ Marked lo hi w w'

/-- The cells of a constraint that may be written. -/
def ShCells (lo hi : Nat) (w : World) (b off : Nat) : Prop :=
  ∃ (x y : Int) (u2 u3 u5 : Value) (n2 n3 : Nat), w.cell? ⟨b, off, none⟩ = some (.int .i64 x) ∧ w.cell? ⟨b, off + 1, none⟩ = some u2 ∧ w.cell? ⟨b, off + 2, none⟩ = some u3 ∧ w.cell? ⟨b, off + 3, none⟩ = some (.int .i64 y) ∧ w.cell? ⟨b, off + 4, none⟩ = some u5 ∧
    w.frozen? ⟨b, off, none⟩ = false ∧ w.frozen? ⟨b, off + 3, none⟩ = false ∧ ShI lo hi w u2 n2 ∧ n2 ≤ 1048576 ∧ ShI lo hi w u3 n3 ∧ n3 ≤ 1048576 ∧ ShR lo hi w u5
theorem ShCells.marked {lo hi lo' hi' : Nat} {w w' : World} {b off : Nat} (h : ShCells lo hi w b off) (hm : Marked lo' hi' w w') : ShCells lo hi w' b off := by
  obtain ⟨x, y, u2, u3, u5, n2, n3, c0, c1, c2, c3, c4, f0, f3, s2, l2, s3, l3, s5⟩ := h
  have keep : ∀ {p u}, w.cell? p = some u → FixedV u → w'.cell? p = some u := fun hu hne => by
    obtain ⟨z, hz, _, k2, _⟩ := hm.cell _ _ hu
    rw [hz, k2 hne]
  have num : ∀ {p} {x : Int}, w.cell? p = some (.int .i64 x) → ∃ z : Int, w'.cell? p = some (.int .i64 z) := fun hu => by
    obtain ⟨z, hz, k1, _⟩ := hm.cell _ _ hu
    obtain ⟨j, ej⟩ := k1 _ rfl
    exact ⟨j, by rw [hz, ej]⟩
  obtain ⟨x', c0'⟩ := num c0
  obtain ⟨y', c3'⟩ := num c3
  have hb := World.block_lt_of_cell? w _ c0
  have n5 : FixedV u5 := by obtain ⟨a, n, c, rfl, _⟩ := s5; exact ⟨fun i e => (by cases e), fun i e => (by cases e)⟩
  exact ⟨x', y', u2, u3, u5, n2, n3, c0', keep c1 (shI_slice s2), keep c2 (shI_slice s3), c3', keep c4 n5, (hm.frozen b _ hb).trans f0, (hm.frozen b _ hb).trans f3, s2.marked hm, l2, s3.marked hm, l3, s5.marked hm⟩
/-- A slice of constraints that may be written. -/
def ShCs (lo hi : Nat) (w : World) (v : Value) : Prop :=
  ∃ a n c, v = .slice a n c ∧ n ≤ c ∧ c ≤ maxLen ∧ n ≤ 1048576 ∧ (n = 0 ∨ ∃ b off, a = some ⟨b, off, none⟩ ∧ lo ≤ b ∧ b < hi ∧ ∀ i, i < n → ShCells lo hi w b (off + i * 5))
theorem ShCs.marked {lo hi lo' hi' : Nat} {w w' : World} {v : Value} (h : ShCs lo hi w v) (hm : Marked lo' hi' w w') : ShCs lo hi w' v := by
  obtain ⟨a, n, c, e, h1, h2, hn, h3⟩ := h
  refine ⟨a, n, c, e, h1, h2, hn, ?_⟩
  rcases h3 with h3 | ⟨b, off, ea, hb1, hb2, h3⟩
  · exact .inl h3
  · exact .inr ⟨b, off, ea, hb1, hb2, fun i hi => (h3 i hi).marked hm⟩
theorem shI_form {lo hi : Nat} {w : World} {v : Value} {n : Nat} (h : ShI lo hi w v n) : ∃ a c, v = .slice a n c := by obtain ⟨a, c, e, _⟩ := h; exact ⟨a, c, e⟩
theorem shR_form {lo hi : Nat} {w : World} {v : Value} (h : ShR lo hi w v) : ∃ a n c, v = .slice a n c := by obtain ⟨a, n, c, e, _⟩ := h; exact ⟨a, n, c, e⟩

/-! ### From copies to shapes -/
theorem shI_of {B : Nat} {w : World} {b n : Nat} {xs : List Int} (h : RdInts w (.slice (some ⟨b, 0, none⟩) n n) xs) (hB : B ≤ b) (hf : ∀ k, w.frozen? ⟨b, k, none⟩ = false) : ShI B w.heap.size w (.slice (some ⟨b, 0, none⟩) n n) n := by
  obtain ⟨a, c, e, h1, h2, h3⟩ := h
  simp at e
  obtain ⟨rfl, rfl, rfl⟩ := e
  refine ⟨_, _, rfl, Nat.le_refl _, h2, ?_⟩
  rcases h3 with h3 | ⟨b', off, ea, h3⟩
  · exact .inl h3
  · simp at ea
    obtain ⟨rfl, rfl⟩ := ea
    by_cases h0 : xs.length = 0
    · exact .inl h0
    · exact .inr ⟨b, 0, rfl, hB, World.block_lt_of_cell? w _ (h3 0 (by omega)), fun i hi => ⟨⟨_, h3 i hi⟩, hf _⟩⟩
theorem shI_any {B : Nat} {w : World} {v : Value} {xs : List Int} (h : RdInts w v xs) (hB : ∀ b off n c, v = .slice (some ⟨b, off, none⟩) n c → B ≤ b ∧ ∀ k, w.frozen? ⟨b, k, none⟩ = false) : ShI B w.heap.size w v xs.length := by
  obtain ⟨a, c, e, h1, h2, h3⟩ := h
  refine ⟨a, c, e, h1, h2, ?_⟩
  rcases h3 with h3 | ⟨b, off, ea, h3⟩
  · exact .inl h3
  · by_cases h0 : xs.length = 0
    · exact .inl h0
    · obtain ⟨q1, q2⟩ := hB b off _ _ (by rw [e, ea])
      exact .inr ⟨b, off, ea, q1, World.block_lt_of_cell? w _ (h3 0 (by omega)), fun i hi => ⟨⟨_, h3 i hi⟩, q2 _⟩⟩
theorem shR_of {B : Nat} {w : World} {v : Value} {rows : List (List Int)} (h : RdRows w v rows) (hA : RowsAbove B w v) (hU : RowsUn w v) (hL : RowsLe rows 1048576) : ShR B w.heap.size w v := by
  obtain ⟨a, c, e, h1, h2, h3⟩ := h
  refine ⟨a, _, c, e, h1, h2, hL.1, ?_⟩
  rcases h3 with h3 | ⟨b, off, ea, h3⟩
  · exact .inl h3
  · refine .inr ⟨b, off, ea, fun i hi => ?_⟩
    obtain ⟨u, hu, hr⟩ := h3 i hi
    refine ⟨u, _, hu, shI_any hr (fun b' o' n' c' e' => ?_), hL.2 i hi⟩
    exact ⟨(hA b off _ _ (by rw [e, ea])).2 i u hi hu b' o' n' c' e', (hU b off _ _ (by rw [e, ea]) i u hi hu b' o' n' c' e').2⟩
theorem shCs_of {B : Nat} {w : World} {v : Value} {cs : List Con} (h : ConsIn B w v cs) (hL : ConsLe cs 1048576) : ShCs B w.heap.size w v := by
  obtain ⟨g, e, hB, hm, h⟩ := h
  refine ⟨_, _, _, e, Nat.le_refl _, hm.1, hL.1, ?_⟩
  by_cases h0 : cs.length = 0
  · exact .inl h0
  · have hg : g < w.heap.size := by
      obtain ⟨u2, u3, u5, e0, _⟩ := h 0 _ (List.getElem?_eq_getElem (by omega))
      exact World.block_lt_of_cell? w _ e0
    refine .inr ⟨g, 0, rfl, hB, hg, fun i hi => ?_⟩
    obtain ⟨u2, u3, u5, e0, e1, e2, e3, e4, ⟨x2, x3, x5, ex, r2, r3, r5⟩, hu, ha⟩ := h i _ (List.getElem?_eq_getElem hi)
    have hl := hL.2 i _ (List.getElem?_eq_getElem hi)
    simp at ex
    obtain ⟨rfl, rfl, rfl⟩ := ex
    obtain ⟨kind, bound, s2, m2, c2, s3, m3, c3, s5, m5, c5, ev, l2, l3, l5⟩ := ha
    obtain ⟨kind', bound', t2, k2, d2, t3, k3, d3, t5, k5, d5, ev', g2, f2, g3, f3, g5⟩ := hu
    simp at ev ev'
    obtain ⟨_, rfl, rfl, _, rfl⟩ := ev
    obtain ⟨_, ⟨rfl, rfl, rfl⟩, ⟨rfl, rfl, rfl⟩, _, rfl, rfl, rfl⟩ := ev'
    rw [Nat.zero_add]
    refine ⟨_, _, _, _, _, _, _, e0, e1, e2, e3, e4, hm.2 _, hm.2 _, shI_any r2 (fun b off n c e => ?_), hl.1, shI_any r3 (fun b off n c e => ?_), hl.2.1, shR_of r5 l5 g5 hl.2.2⟩
    · simp at e; obtain ⟨⟨rfl, rfl⟩, _⟩ := e; exact ⟨l2, f2⟩
    · simp at e; obtain ⟨⟨rfl, rfl⟩, _⟩ := e; exact ⟨l3, f3⟩
end Go.Proofs.Ytelglccegkhfcaa

/-! The laws' copies and marks, each kind of argument told alike: what is copied reads the same, lies in new blocks and may be written. -/
namespace Go.Proofs.Ytelglccegkhfcaa
open Go.ChangeShapes Go.WideShapes Go.ChangeAt Go.RowKit
set_option linter.unusedVariables false
set_option linter.unusedSimpArgs false

/-- A slice of numbers that may be written. -/
def ShInts (lo hi : Nat) (w : World) (v : Value) : Prop := ∃ n, ShI lo hi w v n ∧ n ≤ 1048576
theorem ShInts.marked {lo hi lo' hi' : Nat} {w w' : World} {v : Value} (h : ShInts lo hi w v) (hm : Marked lo' hi' w w') : ShInts lo hi w' v := by
  obtain ⟨n, h1, h2⟩ := h; exact ⟨n, h1.marked hm, h2⟩
theorem ShInts.below {lo hi : Nat} {w w' : World} {v : Value} (h : ShInts lo hi w v) (hb : Below w.heap.size w w') : ShInts lo hi w' v := h.marked (Marked.of_below (lo := 0) (hi := 0) hb)
/-- A model that may be written. -/
def ShM (lo hi : Nat) (w : World) (v : Value) : Prop := ∃ u1 u2 n, v = .agg #[u1, u2] ∧ ShI lo hi w u1 n ∧ n ≤ 1048576 ∧ ShCs lo hi w u2
theorem ShM.marked {lo hi lo' hi' : Nat} {w w' : World} {v : Value} (h : ShM lo hi w v) (hm : Marked lo' hi' w w') : ShM lo hi w' v := by
  obtain ⟨u1, u2, n, e, h1, h2, h3⟩ := h; exact ⟨u1, u2, n, e, h1.marked hm, h2, h3.marked hm⟩
theorem ShM.below {lo hi : Nat} {w w' : World} {v : Value} (h : ShM lo hi w v) (hb : Below w.heap.size w w') : ShM lo hi w' v := h.marked (Marked.of_below (lo := 0) (hi := 0) hb)
/-- A constraint that may be written. -/
def ShC (lo hi : Nat) (w : World) (v : Value) : Prop := ∃ (x y : Int) (u2 u3 u5 : Value) (n2 n3 : Nat), v = .agg #[.int .i64 x, u2, u3, .int .i64 y, u5] ∧ ShI lo hi w u2 n2 ∧ n2 ≤ 1048576 ∧ ShI lo hi w u3 n3 ∧ n3 ≤ 1048576 ∧ ShR lo hi w u5
theorem ShC.marked {lo hi lo' hi' : Nat} {w w' : World} {v : Value} (h : ShC lo hi w v) (hm : Marked lo' hi' w w') : ShC lo hi w' v := by
  obtain ⟨x, y, u2, u3, u5, n2, n3, e, s2, l2, s3, l3, s5⟩ := h; exact ⟨x, y, u2, u3, u5, n2, n3, e, s2.marked hm, l2, s3.marked hm, l3, s5.marked hm⟩
theorem ShC.below {lo hi : Nat} {w w' : World} {v : Value} (h : ShC lo hi w v) (hb : Below w.heap.size w w') : ShC lo hi w' v := h.marked (Marked.of_below (lo := 0) (hi := 0) hb)

theorem toIntS_sh (v : Value) (xs : List Int) (w : World) (h : RdInts w v xs) (hx : xs.length ≤ 1048576) :
    Calls Try.prog 36 #[v] w fun e w' => ∃ v', e = .returned v' ∧ RdInts w' v' xs ∧ ShInts w.heap.size w'.heap.size w' v' ∧ Below w.heap.size w w' := by
  refine (toIntS_any v xs w h hx).mono ?_
  rintro e w' ⟨rfl, rx, b, zz, fz⟩
  exact ⟨_, rfl, rx, ⟨_, shI_of rx (Nat.le_refl _) fz, hx⟩, b⟩
theorem shC_of {B : Nat} {w : World} {v : Value} {c : Con} (h : RdCon w v c) (hA : ConAbove B w v) (hU : ConUn w v) (hL : ConLe c 1048576) : ShC B w.heap.size w v := by
  obtain ⟨u2, u3, u5, e, r2, r3, r5⟩ := h
  obtain ⟨kA, bA, s2, n2, c2, s3, n3, c3, s5, n5, c5, eA, q2, q3, q5⟩ := hA
  obtain ⟨kU, bU, t2, m2, d2, t3, m3, d3, t5, m5, d5, eU, z2, f2, z3, f3, g5⟩ := hU
  have e1 := e.symm.trans eA
  have e2 := e.symm.trans eU
  simp at e1 e2
  obtain ⟨rfl, rfl, rfl, rfl, rfl⟩ := e1
  obtain ⟨-, ⟨rfl, rfl, rfl⟩, ⟨rfl, rfl, rfl⟩, -, ⟨rfl, rfl, rfl⟩⟩ := e2
  refine ⟨_, _, _, _, _, _, _, e, shI_any r2 (fun b off n c e => ?_), hL.1, shI_any r3 (fun b off n c e => ?_), hL.2.1, shR_of r5 q5 g5 hL.2.2⟩
  · simp at e
    obtain ⟨⟨rfl, rfl⟩, _⟩ := e
    exact ⟨q2, f2⟩
  · simp at e
    obtain ⟨⟨rfl, rfl⟩, _⟩ := e
    exact ⟨q3, f3⟩
theorem markIntS_sh (lo hi : Nat) (v : Value) (k : Int) (w : World) (h : ShInts lo hi w v) (h0 : 0 ≤ k) (h1 : k ≤ 4000000000000000000) :
    Calls Try.prog 39 #[v, .int .i64 k] w (MarksPost lo hi k 1048576 w) := by
  obtain ⟨n, h, hn⟩ := h
  refine (markIntS_any lo hi v n k w h hn h0 (by omega)).mono ?_
  rintro e w' ⟨rfl, m, -⟩
  exact ⟨_, rfl, by omega, by omega, m⟩
/-- A slice of numbers of a call's own, in blocks from B on, which may be written. -/
def GInts (B : Nat) (w : World) (v : Value) (xs : List Int) : Prop :=
  RdInts w v xs ∧ ∀ b off n c, v = .slice (some ⟨b, off, none⟩) n c → 0 < n → B ≤ b ∧ ∀ i, w.frozen? ⟨b, i, none⟩ = false
theorem gInts_of_own {B : Nat} {w : World} {v : Value} {xs : List Int} (h : w.ownsRow B 3 1 v xs.length (xs.map (Value.int .i64))) : GInts B w v xs := by
  refine ⟨rdInts_of_own h, fun b off n c e hn => ?_⟩
  rcases h.2 with ⟨ev, _⟩ | ⟨g, cap, cur, ev, hB, _⟩
  · rw [ev] at e; cases e
  · rw [ev] at e h
    simp at e
    obtain ⟨⟨rfl, rfl⟩, _⟩ := e
    exact ⟨hB, fun i => h.frozenAt i⟩
theorem GInts.lt {B : Nat} {w : World} {v : Value} {xs : List Int} (h : GInts B w v xs) {b off n c : Nat} (e : v = .slice (some ⟨b, off, none⟩) n c) (hn : 0 < n) : b < w.heap.size := by
  obtain ⟨a, cap, ev, _, _, h3⟩ := h.1
  rw [e] at ev
  simp at ev
  obtain ⟨rfl, rfl, rfl⟩ := ev
  rcases h3 with h3 | ⟨b', o', e', h3⟩
  · omega
  · simp at e'
    obtain ⟨rfl, rfl⟩ := e'
    exact World.block_lt_of_cell? w _ (h3 0 hn)
theorem GInts.below {B : Nat} {w w' : World} {v : Value} {xs : List Int} (h : GInts B w v xs) (hb : Below w.heap.size w w') : GInts B w' v xs :=
  ⟨h.1.below hb, fun b off n c e hn => ⟨(h.2 b off n c e hn).1, fun i => (frozen_below hb (h.lt e hn) i).trans ((h.2 b off n c e hn).2 i)⟩⟩
theorem GInts.marked {B lo hi : Nat} {w w' : World} {v : Value} {xs : List Int} (h : GInts B w v xs) (hm : Marked lo hi w w') (hB : hi ≤ B) : GInts B w' v xs := by
  refine ⟨?_, fun b off n c e hn => ⟨(h.2 b off n c e hn).1, fun i => (hm.frozen b i (h.lt e hn)).trans ((h.2 b off n c e hn).2 i)⟩⟩
  obtain ⟨a, cap, e, h1, h2, h3⟩ := id h.1
  refine ⟨a, cap, e, h1, h2, ?_⟩
  rcases h3 with h3 | ⟨b, off, ea, h3⟩
  · exact .inl h3
  · by_cases h0 : xs.length = 0
    · exact .inl h0
    · refine .inr ⟨b, off, ea, fun i hi' => ?_⟩
      have hb := (h.2 b off _ _ (by rw [e, ea]) (by omega)).1
      have hl := World.block_lt_of_cell? w _ (h3 i hi')
      have := hm.block b hl (.inr (by omega))
      have k := h3 i hi'
      unfold World.cell? at k ⊢
      rw [this]
      exact k
theorem GInts.sh {B : Nat} {w : World} {v : Value} {xs : List Int} (h : GInts B w v xs) : ShI B w.heap.size w v xs.length := by
  obtain ⟨a, c, e, h1, h2, h3⟩ := id h.1
  refine ⟨a, c, e, h1, h2, ?_⟩
  rcases h3 with h3 | ⟨b, off, ea, h3⟩
  · exact .inl h3
  · by_cases h0 : xs.length = 0
    · exact .inl h0
    · obtain ⟨q1, q2⟩ := h.2 b off _ _ (by rw [e, ea]) (by omega)
      exact .inr ⟨b, off, ea, q1, World.block_lt_of_cell? w _ (h3 0 (by omega)), fun i hi => ⟨⟨_, h3 i hi⟩, q2 _⟩⟩
theorem GInts.slice {B : Nat} {w : World} {v : Value} {xs : List Int} (h : GInts B w v xs) : ∃ a c, v = .slice a xs.length c := by
  obtain ⟨a, c, e, _⟩ := h.1; exact ⟨a, c, e⟩
theorem below_marked {B lo hi : Nat} {a w w' : World} (h : Below B a w) (hm : Marked lo hi w w') (h1 : B ≤ lo) (h2 : B ≤ w.heap.size) : Below B a w' := h.trans (hm.below h1 h2)
theorem drewN_below (w : World) (k : Nat) : Below w.heap.size w (w.drewN k) := below_drewN' (Below.refl _ _) k
end Go.Proofs.Ytelglccegkhfcaa
