/- The laws' own copies of arguments: how large they are; toIntS, toIntSS. The laws' own copy of a constraint: szConstraint, toConstraint. The laws' own tests of equality: of slices of integers, of rows, of constraints. -/
import Derived.Test.YtelglccegkhfcaaBa
import Derived.RangeFuncBox

/-! The laws' own copies of arguments: how large they are; toIntS, toIntSS. -/
namespace Go.Proofs.Ytelglccegkhfcaa
open Go.ChangeShapes Go.WideShapes Go.ChangeAt Go.RowKit
set_option linter.unusedVariables false
set_option linter.unusedSimpArgs false

theorem Try.info3 : (Try.prog.info? 3).map (fun i => (i.zero, i.size, i.bytes)) = some (some (.int .i64 0), 1, 8) := by kernel_rfl
theorem Try.info29 : (Try.prog.info? 29).map (fun i => (i.zero, i.size, i.bytes)) = some (some (.slice none 0 0), 1, 24) := by kernel_rfl

/-- What a size test leaves: a number at most left; where it isn't negative, Q holds. -/
def SzPost (left : Int) (Q : Prop) (w : World) (e : Ending) (w' : World) : Prop := ∃ r : Int, e = .returned (.int .i64 r) ∧ -1 ≤ r ∧ r ≤ left ∧ (0 ≤ r → Q) ∧ w = w'

set_option maxRecDepth 100000 in
theorem szIntS_any (v : Value) (xs : List Int) (left : Int) (w : World) (h : RdInts w v xs) (h0 : 0 ≤ left) (h1 : left ≤ 1048576) :
    Calls Try.prog 95 #[v, .int .i64 left] w (SzPost left (xs.length ≤ left.toNat) w) := by
  obtain ⟨a, cap, rfl, hl, hm, _⟩ := h
  obtain ⟨n, hn⟩ : ∃ n, n = xs.length := ⟨_, rfl⟩
  rw [← hn] at hl ⊢
  clear hn
  unfold maxLen at hm
  by_cases hneg : left - (n : Int) < 0
  · go_enter Try.func95, Try.ntmps95
    go_wp2
    go_ret
    exact ⟨-1, rfl, by omega, by omega, fun h => by omega, rfl⟩
  · go_enter Try.func95, Try.ntmps95
    go_wp2
    go_ret
    exact ⟨left - n, rfl, by omega, by omega, fun _ => by omega, rfl⟩

/-- No more than L rows, each of no more than L numbers. -/
def RowsLe (rows : List (List Int)) (L : Nat) : Prop := rows.length ≤ L ∧ ∀ j, j < rows.length → (rows[j]?.getD []).length ≤ L

set_option maxRecDepth 100000 in
set_option maxHeartbeats 1000000 in
theorem szIntSS_any (v : Value) (rows : List (List Int)) (left : Int) (w : World) (h : RdRows w v rows) (h0 : 0 ≤ left) (h1 : left ≤ 1048576) :
    Calls Try.prog 94 #[v, .int .i64 left] w (SzPost left (RowsLe rows left.toNat) w) := by
  obtain ⟨a, cap, rfl, hl, hm, h⟩ := h
  obtain ⟨n, hn⟩ : ∃ n, n = rows.length := ⟨_, rfl⟩
  have HN := Lib.hid hn
  rw [← hn] at hl h ⊢
  clear hn
  unfold maxLen at hm
  by_cases hneg : left - (n : Int) < 0
  · clear h
    go_enter Try.func94, Try.ntmps94
    go_wp2
    go_ret
    exact ⟨-1, rfl, by omega, by omega, fun h => by omega, rfl⟩
  · go_enter Try.func94, Try.ntmps94
    go_wp2
    go_loop [1, 5] (fun q i => ∃ (k : Nat) (l : Int), k ≤ n ∧ i = .int .i64 k ∧ q = .int .i64 l ∧ 0 ≤ l ∧ l ≤ left ∧ Hid (∀ j, j < k → (rows[j]?.getD []).length ≤ left.toNat)) (fun _ i => n - (intOf i).toNat)
    case atStart => exact ⟨0, left - n, Nat.zero_le _, rfl, rfl, by omega, by omega, fun j hj => by omega⟩
    case round =>
      obtain ⟨k, l, hk, rfl, rfl, hl0, hl1, HE⟩ := hrel
      by_cases hlt : k < n
      · rcases h with h | ⟨b, off, rfl, g⟩
        · omega
        obtain ⟨u, q1, hu⟩ := g k hlt
        clear g
        have HU := Lib.hid hu
        obtain ⟨a2, cc2, eu, _, _, _⟩ := hu
        rw [eu] at q1 HU
        clear eu
        go_wp2_with fail
        refine (szIntS_any _ (rows[k]?.getD []) l _ HU.out hl0 (by omega)).mono ?_
        rintro e w' ⟨r, rfl, hr1, hr2, hr3, rfl⟩
        have HR3 := Lib.hid hr3
        clear hr3
        by_cases hr : r < 0
        · go_wp2
          go_ret
          exact ⟨-1, rfl, by omega, by omega, fun h => by omega, rfl⟩
        · go_wp2
          go_round
          case rel => exact ⟨k + 1, r, by omega, by go_num, rfl, by omega, by omega, fun j hj => by by_cases e : j = k; (· subst e; have := HR3.out (by omega); omega); (· exact HE.out j (by omega))⟩
          case measure => simp [intOf]; omega
      · obtain rfl : k = n := by omega
        clear h
        go_wp2
        go_ret
        exact ⟨l, rfl, by omega, by omega, fun _ => ⟨by have := HN.out; omega, fun j hj => HE.out j (by have := HN.out; omega)⟩, rfl⟩

theorem madeInts (n : Nat) : (madeCells (Value.cells (.int .i64 0)) (n * 1)).toList = (List.replicate n 0).map (Value.int .i64) := by
  have := toList_madeCells_one (.int .i64 0) n
  simpa [Value.cells] using this
theorem madeRows (n : Nat) : (madeCells (Value.cells (.slice none 0 0)) (n * 1)).toList = List.replicate n (.slice none 0 0) := by
  have := toList_madeCells_one (.slice none 0 0) n
  simpa [Value.cells] using this

theorem below_of_grown {w w' : World} (h : w.grownBy w' none) : Below w.heap.size w w' := ⟨h.os, h.tape, h.output, h.size, fun k hk => h.block k hk (by simp)⟩

/-- An owned row of integers reads so. -/
theorem rdInts_of_owns {w : World} {B g n cap : Nat} {xs : List Int} (h : w.ownsRow B 3 1 (.slice (some ⟨g, 0, none⟩) n cap) n (xs.map (Value.int .i64))) (hl : xs.length = n) (hc : n ≤ cap) (hm : cap ≤ maxLen) : RdInts w (.slice (some ⟨g, 0, none⟩) n cap) xs := by
  subst hl
  refine ⟨some ⟨g, 0, none⟩, cap, rfl, hc, hm, .inr ⟨g, 0, rfl, fun i hi => ?_⟩⟩
  have := h.cellAt i (by omega)
  rw [Nat.zero_add, this]
  simp [hi]

/-- The first i numbers of xs, then zeros. -/
def fillI (xs : List Int) (i : Nat) : List Int := xs.take i ++ List.replicate (xs.length - i) 0
theorem fillI_step (xs : List Int) (i : Nat) (h : i < xs.length) : (fillI xs i).set i (xs[i]?.getD 0) = fillI xs (i + 1) := by
  unfold fillI
  rw [List.set_append_right _ _ (by rw [List.length_take]; omega), List.length_take, Nat.min_eq_left (by omega), Nat.sub_self]
  obtain ⟨m, hm⟩ : ∃ m, xs.length - i = m + 1 := ⟨xs.length - i - 1, by omega⟩
  rw [hm, show xs.length - (i + 1) = m from by omega, List.replicate_succ, List.set_cons_zero, List.take_succ_eq_append_getElem h, List.append_assoc]
  simp only [List.getElem?_eq_getElem h, Option.getD_some, List.cons_append, List.nil_append]
theorem fillI_length (xs : List Int) (i : Nat) (h : i ≤ xs.length) : (fillI xs i).length = xs.length := by simp [fillI]; omega

/-- What toIntS leaves: a copy in the block that was the heap's end. -/
def CopyPost (xs : List Int) (w : World) (e : Ending) (w' : World) : Prop :=
  e = .returned (.slice (some ⟨w.heap.size, 0, none⟩) xs.length xs.length) ∧ RdInts w' (.slice (some ⟨w.heap.size, 0, none⟩) xs.length xs.length) xs ∧ Below w.heap.size w w' ∧ w.heap.size < w'.heap.size ∧ ∀ i, w'.frozen? ⟨w.heap.size, i, none⟩ = false

set_option maxRecDepth 100000 in
set_option maxHeartbeats 1000000 in
theorem toIntS_any (v : Value) (xs : List Int) (w : World) (h : RdInts w v xs) (hx : xs.length ≤ 1048576) :
    Calls Try.prog 36 #[v] w (CopyPost xs w) := by
  obtain ⟨a, cap, rfl, hl, hm, h⟩ := h
  unfold CopyPost
  obtain ⟨n, hn⟩ : ∃ n, n = xs.length := ⟨_, rfl⟩
  have HN := Lib.hid hn
  rw [← hn] at hl h hx ⊢
  clear hn
  unfold maxLen at hm
  obtain ⟨i0, hi, hz0, hz1, hz2⟩ := info_parts Try.info3
  go_enter Try.func36, Try.ntmps36
  go_wp2_with (at_make; refine wpList_make_full _ rfl _ _ 29 rfl w.heap.size 3 i0 (.int .i64 0) 1 Try.underlying29 hi hz0 hz1 .i64 .i64 _ _ n rfl rfl rfl rfl (by rw [hz2]; omega) (by unfold maxLen; omega) (Nat.le_refl _) ?_; intro w1 hown hgrow)
  rw [madeInts] at hown
  have hb1 := below_of_grown hgrow
  have hsz1 : w.heap.size < w1.heap.size := by
    rcases hown.2 with ⟨e, _⟩ | ⟨g, c, cur, e, _, hg, _⟩
    · simp at e
    · simp at e; obtain ⟨rfl, rfl⟩ := e; exact (Array.getElem?_eq_some_iff.1 hg).1
  have HO : Hid (w1.ownsRow w.heap.size 3 1 (.slice (some ⟨w.heap.size, 0, none⟩) n n) n ((fillI xs 0).map (Value.int .i64))) := Lib.hid (by rw [show fillI xs 0 = List.replicate n 0 from by simp [fillI, HN.out]]; exact hown)
  clear hown hgrow
  go_wp2
  go_loopw [4] (fun i wr => ∃ k : Nat, k ≤ n ∧ i = .int .i64 k ∧ Hid (wr.ownsRow w.heap.size 3 1 (.slice (some ⟨w.heap.size, 0, none⟩) n n) n ((fillI xs k).map (Value.int .i64))) ∧ Below w.heap.size w wr ∧ w.heap.size < wr.heap.size) (fun i _ => n - (intOf i).toNat)
  case atStart => exact ⟨0, Nat.zero_le _, rfl, HO, hb1, hsz1⟩
  case round =>
    obtain ⟨k, hk, rfl, HR, hbel, hsz⟩ := hrel
    by_cases hlt : k < n
    · rcases h with h | ⟨b, off, rfl, g⟩
      · omega
      have q0 := g k hlt
      have q1 := (hbel.cell (p := ⟨b, off + k, none⟩) (World.block_lt_of_cell? w _ q0)).trans q0
      clear g q0
      have hc := HR.out.cellAt k (by omega)
      have hf := HR.out.frozenAt k
      obtain ⟨z, hz⟩ : ∃ z, (fillI xs k)[k]? = some z := ⟨_, List.getElem?_eq_getElem (by rw [fillI_length _ _ (by have := HN.out; omega)]; have := HN.out; omega)⟩
      rw [List.getElem?_map, hz] at hc
      simp only [Option.map_some] at hc
      clear hz
      have HS := Lib.hid (HR.out.stored k (.int .i64 (xs[k]?.getD 0)))
      have HT := Lib.hid (fillI_step xs k (by have := HN.out; omega))
      go_wp2
      go_roundw
      case rel =>
        refine ⟨k + 1, by omega, by go_num, Lib.hid ?_, hbel.setCell (p := ⟨w.heap.size, k, none⟩) (Nat.le_refl _) _, by simpa using hsz⟩
        rw [← HT.out, List.map_set]
        exact HS.out.1
      case measure => simp [intOf]; omega
    · obtain rfl : k = n := by omega
      have e : fillI xs k = xs := by unfold fillI; rw [HN.out]; simp
      have HF := Lib.hid (rdInts_of_owns (xs := xs) (by rw [← e]; exact HR.out) HN.out.symm (Nat.le_refl _) (by unfold maxLen; omega))
      have HZ := Lib.hid (fun i => HR.out.frozenAt i)
      clear h e
      go_wp2
      go_ret
      exact ⟨rfl, HF.out, hbel, hsz, HZ.out⟩

/-- A read survives a store into another block. -/
theorem RdInts.setCell {w : World} {g n c : Nat} {xs : List Int} (h : RdInts w (.slice (some ⟨g, 0, none⟩) n c) xs) {p : Addr} (hp : p.block ≠ g) (u : Value) : RdInts (w.setCell p u) (.slice (some ⟨g, 0, none⟩) n c) xs := by
  obtain ⟨a, cap, e, h1, h2, h3⟩ := h
  refine ⟨a, cap, e, h1, h2, ?_⟩
  rcases h3 with h3 | ⟨b, off, ea, h3⟩
  · exact .inl h3
  · refine .inr ⟨b, off, ea, fun i hi => ?_⟩
    rw [ea] at e
    simp at e
    obtain ⟨⟨rfl, rfl⟩, _, _⟩ := e
    have hne : p ≠ ⟨g, 0 + i, none⟩ := fun e => hp (by rw [e])
    rw [show (w.setCell p u).cell? ⟨g, 0 + i, none⟩ = w.cell? ⟨g, 0 + i, none⟩ from by rw [World.cell?_setCell_other]; exact hne]
    exact h3 i hi

theorem frozen_below {w w' : World} {B b : Nat} (hb : Below B w w') (h : b < B) (i : Nat) : w'.frozen? ⟨b, i, none⟩ = w.frozen? ⟨b, i, none⟩ := by
  unfold World.frozen?
  rw [hb.block _ h]
theorem frozen_set (w : World) (p q : Addr) (u : Value) : (w.setCell p u).frozen? q = w.frozen? q := World.frozen?_setCell ..
/-- The copies of the first k rows, in blocks behind g; the rest nil. -/
def RowCells (rows : List (List Int)) (g k : Nat) (vs : List Value) (w : World) : Prop :=
  vs.length = rows.length ∧ (∀ j, j < k → ∃ b, g < b ∧ vs[j]? = some (.slice (some ⟨b, 0, none⟩) (rows[j]?.getD []).length (rows[j]?.getD []).length) ∧ RdInts w (.slice (some ⟨b, 0, none⟩) (rows[j]?.getD []).length (rows[j]?.getD []).length) (rows[j]?.getD []) ∧ b < w.heap.size ∧ ∀ i, w.frozen? ⟨b, i, none⟩ = false) ∧
  ∀ j, k ≤ j → j < rows.length → vs[j]? = some (.slice none 0 0)

theorem RowCells.below {rows : List (List Int)} {g k : Nat} {vs : List Value} {w w' : World} (h : RowCells rows g k vs w) (hb : Below w.heap.size w w') : RowCells rows g k vs w' := by
  obtain ⟨h1, h2, h3⟩ := h
  refine ⟨h1, fun j hj => ?_, h3⟩
  obtain ⟨b, e1, e2, e3, e4, e5⟩ := h2 j hj
  exact ⟨b, e1, e2, e3.below hb, Nat.lt_of_lt_of_le e4 hb.size, fun i => (frozen_below hb e4 i).trans (e5 i)⟩
theorem RowCells.step {rows : List (List Int)} {g k b : Nat} {vs : List Value} {w : World} (h : RowCells rows g k vs w) (hk : k < rows.length) (hb : g < b) (hr : RdInts w (.slice (some ⟨b, 0, none⟩) (rows[k]?.getD []).length (rows[k]?.getD []).length) (rows[k]?.getD [])) (hbl : b < w.heap.size) (hz : ∀ i, w.frozen? ⟨b, i, none⟩ = false) :
    RowCells rows g (k + 1) (vs.set k (.slice (some ⟨b, 0, none⟩) (rows[k]?.getD []).length (rows[k]?.getD []).length)) (w.setCell ⟨g, k, none⟩ (.slice (some ⟨b, 0, none⟩) (rows[k]?.getD []).length (rows[k]?.getD []).length)) := by
  obtain ⟨h1, h2, h3⟩ := h
  refine ⟨by simp [h1], fun j hj => ?_, fun j hj1 hj2 => ?_⟩
  · by_cases e : j = k
    · subst e
      exact ⟨b, hb, by simp [List.getElem?_set, h1, hk], hr.setCell (p := ⟨g, j, none⟩) (by show g ≠ b; omega) _, by simpa using hbl, fun i => (frozen_set _ _ _ _).trans (hz i)⟩
    · obtain ⟨b', e1, e2, e3, e4, e5⟩ := h2 j (by omega)
      exact ⟨b', e1, by rw [List.getElem?_set_ne (Ne.symm e)]; exact e2, e3.setCell (p := ⟨g, k, none⟩) (by show g ≠ b'; omega) _, by simpa using e4, fun i => (frozen_set _ _ _ _).trans (e5 i)⟩
  · rw [List.getElem?_set_ne (by omega)]
    exact h3 j (by omega) hj2

/-- The rows and their list lie in blocks from B on. -/
def RowsAbove (B : Nat) (w : World) (v : Value) : Prop :=
  ∀ b off n c, v = .slice (some ⟨b, off, none⟩) n c → B ≤ b ∧ ∀ i u, i < n → w.cell? ⟨b, off + i, none⟩ = some u → ∀ b' o' n' c', u = .slice (some ⟨b', o', none⟩) n' c' → B ≤ b'

/-- The rows' memory may be written. -/
def RowsUn (w : World) (v : Value) : Prop :=
  ∀ b off n c, v = .slice (some ⟨b, off, none⟩) n c → ∀ i u, i < n → w.cell? ⟨b, off + i, none⟩ = some u → ∀ b' o' n' c', u = .slice (some ⟨b', o', none⟩) n' c' → b' < w.heap.size ∧ ∀ k, w.frozen? ⟨b', k, none⟩ = false

theorem RdInts.setCellG {w : World} {v : Value} {xs : List Int} (h : RdInts w v xs) {p : Addr} (hp : ∀ b off n c, v = .slice (some ⟨b, off, none⟩) n c → p.block ≠ b) (u : Value) : RdInts (w.setCell p u) v xs := by
  obtain ⟨a, cap, e, h1, h2, h3⟩ := h
  refine ⟨a, cap, e, h1, h2, ?_⟩
  rcases h3 with h3 | ⟨b, off, ea, h3⟩
  · exact .inl h3
  · refine .inr ⟨b, off, ea, fun i hi => ?_⟩
    have hne : p ≠ ⟨b, off + i, none⟩ := fun e' => hp b off _ _ (by rw [e, ea]) (by rw [e'])
    rw [show (w.setCell p u).cell? ⟨b, off + i, none⟩ = w.cell? ⟨b, off + i, none⟩ from by rw [World.cell?_setCell_other]; exact hne]
    exact h3 i hi
theorem cell_other {w : World} {p q : Addr} (h : p.block ≠ q.block) (u : Value) : (w.setCell p u).cell? q = w.cell? q := by rw [World.cell?_setCell_other]; exact fun e => h (by rw [e])
theorem RdRows.setCell {w : World} {v : Value} {rows : List (List Int)} {B : Nat} (h : RdRows w v rows) (hA : RowsAbove B w v) {p : Addr} (hp : p.block < B) (u : Value) : RdRows (w.setCell p u) v rows ∧ RowsAbove B (w.setCell p u) v := by
  obtain ⟨a, cap, e, h1, h2, h3⟩ := h
  refine ⟨⟨a, cap, e, h1, h2, ?_⟩, ?_⟩
  · rcases h3 with h3 | ⟨b, off, ea, h3⟩
    · exact .inl h3
    · refine .inr ⟨b, off, ea, fun i hi => ?_⟩
      obtain ⟨x, hx, hr⟩ := h3 i hi
      obtain ⟨g1, g2⟩ := hA b off _ _ (by rw [e, ea])
      refine ⟨x, by rw [cell_other (by show p.block ≠ b; omega)]; exact hx, hr.setCellG (fun b' o' n' c' e' => ?_) u⟩
      have := g2 i x hi hx b' o' n' c' e'
      omega
  · intro b off n c ev
    obtain ⟨g1, g2⟩ := hA b off n c ev
    refine ⟨g1, fun i x hi hx => g2 i x hi ?_⟩
    rw [cell_other (by show p.block ≠ b; omega)] at hx
    exact hx

theorem RowsUn.setCell {B : Nat} {w : World} {v : Value} (h : RowsUn w v) (hA : RowsAbove B w v) {p : Addr} (hp : p.block < B) (u : Value) : RowsUn (w.setCell p u) v := by
  intro b off n c ev i x hi hx b' o' n' c' e'
  obtain ⟨g1, g2⟩ := hA b off n c ev
  rw [cell_other (by show p.block ≠ b; omega)] at hx
  obtain ⟨q1, q2⟩ := h b off n c ev i x hi hx b' o' n' c' e'
  exact ⟨by simpa using q1, fun k => (frozen_set _ _ _ _).trans (q2 k)⟩
theorem RowsUn.below {w w' : World} {v : Value} {rows : List (List Int)} (h : RowsUn w v) (hr : RdRows w v rows) (hb : Below w.heap.size w w') : RowsUn w' v := by
  intro b off n c ev i x hi hx b' o' n' c' e'
  obtain ⟨a, cap, e2, _, _, h3⟩ := hr
  rw [ev] at e2
  simp at e2
  obtain ⟨rfl, rfl, rfl⟩ := e2
  rcases h3 with h3 | ⟨b2, off2, e3, h3⟩
  · omega
  · simp at e3
    obtain ⟨rfl, rfl⟩ := e3
    obtain ⟨y, hy, _⟩ := h3 i hi
    rw [(hb.cell (World.block_lt_of_cell? w _ hy))] at hx
    obtain ⟨q1, q2⟩ := h b off _ c ev i x hi hx b' o' n' c' e'
    exact ⟨Nat.lt_of_lt_of_le q1 hb.size, fun k => (frozen_below hb q1 k).trans (q2 k)⟩

/-- What toIntSS leaves. -/
def CopyRowsPost (rows : List (List Int)) (w : World) (e : Ending) (w' : World) : Prop :=
  e = .returned (.slice (some ⟨w.heap.size, 0, none⟩) rows.length rows.length) ∧ RdRows w' (.slice (some ⟨w.heap.size, 0, none⟩) rows.length rows.length) rows ∧ Below w.heap.size w w' ∧ w.heap.size < w'.heap.size ∧ RowsAbove w.heap.size w' (.slice (some ⟨w.heap.size, 0, none⟩) rows.length rows.length) ∧ RowsUn w' (.slice (some ⟨w.heap.size, 0, none⟩) rows.length rows.length)

set_option maxRecDepth 100000 in
set_option maxHeartbeats 1000000 in
theorem toIntSS_any (v : Value) (rows : List (List Int)) (w : World) (h : RdRows w v rows) (hx : RowsLe rows 1048576) :
    Calls Try.prog 97 #[v] w (CopyRowsPost rows w) := by
  obtain ⟨a, cap, rfl, hl, hm, h⟩ := h
  unfold CopyRowsPost
  obtain ⟨hx1, hx2⟩ := hx
  obtain ⟨n, hn⟩ : ∃ n, n = rows.length := ⟨_, rfl⟩
  have HN := Lib.hid hn
  have HX := Lib.hid hx2
  rw [← hn] at hl h hx1 ⊢
  clear hn hx2
  unfold maxLen at hm
  obtain ⟨i0, hi, hz0, hz1, hz2⟩ := info_parts Try.info29
  go_enter Try.func97, Try.ntmps97
  go_wp2_with (at_make; refine wpList_make_full _ rfl _ _ 62 rfl w.heap.size 29 i0 (.slice none 0 0) 1 Try.underlying62 hi hz0 hz1 .i64 .i64 _ _ n rfl rfl rfl rfl (by rw [hz2]; omega) (by unfold maxLen; omega) (Nat.le_refl _) ?_; intro w1 hown hgrow)
  rw [madeRows] at hown
  have hb1 := below_of_grown hgrow
  have hsz1 : w.heap.size < w1.heap.size := by
    rcases hown.2 with ⟨e, _⟩ | ⟨g, c, cur, e, _, hg, _⟩
    · simp at e
    · simp at e; obtain ⟨rfl, rfl⟩ := e; exact (Array.getElem?_eq_some_iff.1 hg).1
  have HO := Lib.hid hown
  have HC : Hid (RowCells rows w.heap.size 0 (List.replicate n (.slice none 0 0)) w1) := Lib.hid ⟨by simp [HN.out], fun j hj => by omega, fun j _ hj => by rw [List.getElem?_replicate]; simp [HN.out, hj]⟩
  clear hown hgrow
  go_wp2_with fail
  go_loopw [4] (fun i wr => ∃ (k : Nat) (vs : List Value), k ≤ n ∧ i = .int .i64 k ∧ Hid (wr.ownsRow w.heap.size 29 1 (.slice (some ⟨w.heap.size, 0, none⟩) n n) n vs) ∧ Hid (RowCells rows w.heap.size k vs wr) ∧ Below w.heap.size w wr ∧ w.heap.size < wr.heap.size) (fun i _ => n - (intOf i).toNat)
  case atStart => exact ⟨0, _, Nat.zero_le _, rfl, HO, HC, hb1, hsz1⟩
  case round =>
    obtain ⟨k, vs, hk, rfl, HR, HV, hbel, hsz⟩ := hrel
    by_cases hlt : k < n
    · rcases h with h | ⟨b, off, rfl, g⟩
      · omega
      obtain ⟨u, q0, hu⟩ := g k hlt
      have q1 := (hbel.cell (p := ⟨b, off + k, none⟩) (World.block_lt_of_cell? w _ q0)).trans q0
      have HU := Lib.hid (hu.below hbel)
      clear g q0
      obtain ⟨a2, cc2, eu, _, _, _⟩ := hu
      rw [eu] at q1 HU
      clear eu
      go_wp2_with fail
      refine (toIntS_any _ (rows[k]?.getD []) wr HU.out (HX.out k (by have := HN.out; omega))).mono ?_
      rintro e w2 ⟨rfl, hrd, hb2, hs2, hf2⟩
      have hkl : k < vs.length := by have := HV.out.1; have := HN.out; omega
      have HR2 := Lib.hid (World.ownsRow.kept HR.out (show wr.grownBy w2 none from ⟨hb2.os, hb2.tape, hb2.output, hb2.size, fun q hq _ => hb2.block q hq⟩) (.inr (by simp [Value.ownBlock])))
      have hc := HR2.out.cellAt k (by omega)
      have hf := HR2.out.frozenAt k
      rw [HV.out.2.2 k (Nat.le_refl _) (by have := HN.out; omega)] at hc
      have HS := Lib.hid (HR2.out.stored k (.slice (some ⟨wr.heap.size, 0, none⟩) (rows[k]?.getD []).length (rows[k]?.getD []).length))
      have HT := Lib.hid (RowCells.step (HV.out.below hb2) (by have := HN.out; omega) hsz hrd hs2 hf2)
      have hb3 : Below w.heap.size w w2 := hbel.trans (hb2.mono hbel.size)
      have hs3 : w.heap.size < w2.heap.size := by omega
      clear hrd hb2 hkl hf2
      go_wp2
      go_roundw
      case rel => exact ⟨k + 1, _, by omega, by go_num, Lib.hid HS.out.1, HT, hb3.setCell (p := ⟨w.heap.size, k, none⟩) (Nat.le_refl _) _, by simpa using hs3⟩
      case measure => simp [intOf]; omega
    · obtain rfl : k = n := by omega
      have HF : Hid (RdRows wr (.slice (some ⟨w.heap.size, 0, none⟩) k k) rows) := Lib.hid (by
        have hn := HN.out
        refine ⟨some ⟨w.heap.size, 0, none⟩, k, by rw [hn], by omega, by unfold maxLen; omega, .inr ⟨w.heap.size, 0, rfl, fun i hi => ?_⟩⟩
        obtain ⟨b, _, e2, e3, _⟩ := HV.out.2.1 i (by omega)
        refine ⟨_, ?_, e3⟩
        rw [Nat.zero_add, HR.out.cellAt i (by omega)]
        exact e2)
      have HA : Hid (RowsAbove w.heap.size wr (.slice (some ⟨w.heap.size, 0, none⟩) k k)) := Lib.hid (by
        intro b off n' c ev
        simp at ev
        obtain ⟨⟨rfl, rfl⟩, rfl, rfl⟩ := ev
        refine ⟨Nat.le_refl _, fun i u hi hu b' o' n' c' eu => ?_⟩
        obtain ⟨b2, h2, e2, _⟩ := HV.out.2.1 i hi
        rw [Nat.zero_add, HR.out.cellAt i (by omega), e2] at hu
        rw [← Option.some.inj hu] at eu
        simp at eu
        omega)
      have HU : Hid (RowsUn wr (.slice (some ⟨w.heap.size, 0, none⟩) k k)) := Lib.hid (by
        intro b off n' c ev
        simp at ev
        obtain ⟨⟨rfl, rfl⟩, rfl, rfl⟩ := ev
        intro i u hi hu b' o' n' c' eu
        obtain ⟨b2, h2, e2, _, e4, e5⟩ := HV.out.2.1 i hi
        rw [Nat.zero_add, HR.out.cellAt i (by omega), e2] at hu
        rw [← Option.some.inj hu] at eu
        simp at eu
        obtain ⟨⟨rfl, rfl⟩, _⟩ := eu
        exact ⟨e4, e5⟩)
      clear h
      go_wp2
      go_ret
      exact ⟨rfl, HF.out, hbel, hsz, HA.out, HU.out⟩
end Go.Proofs.Ytelglccegkhfcaa

/-! The laws' own copy of a constraint: szConstraint, toConstraint. -/
namespace Go.Proofs.Ytelglccegkhfcaa
open Go.ChangeShapes Go.WideShapes Go.ChangeAt Go.RowKit
set_option linter.unusedVariables false
set_option linter.unusedSimpArgs false

/-- A block of five cells. -/
def Blk5 (w : World) (b : Nat) (t : TypeId) (u0 u1 u2 u3 u4 : Value) : Prop := w.heap[b]? = some (.cells #[u0, u1, u2, u3, u4] t (0, 0))
section
variable {w w' : World} {b : Nat} {t : TypeId} {u0 u1 u2 u3 u4 : Value}
theorem Blk5.cell (h : Blk5 w b t u0 u1 u2 u3 u4) : w.cell? ⟨b, 0, none⟩ = some u0 ∧ w.cell? ⟨b, 1, none⟩ = some u1 ∧ w.cell? ⟨b, 2, none⟩ = some u2 ∧ w.cell? ⟨b, 3, none⟩ = some u3 ∧ w.cell? ⟨b, 4, none⟩ = some u4 := by
  simp [World.cell?, show w.heap[b]? = _ from h]
theorem Blk5.frozen (h : Blk5 w b t u0 u1 u2 u3 u4) : w.frozen? ⟨b, 0, none⟩ = false ∧ w.frozen? ⟨b, 1, none⟩ = false ∧ w.frozen? ⟨b, 2, none⟩ = false ∧ w.frozen? ⟨b, 3, none⟩ = false ∧ w.frozen? ⟨b, 4, none⟩ = false := by
  simp [World.frozen?, show w.heap[b]? = _ from h]
theorem Blk5.lt (h : Blk5 w b t u0 u1 u2 u3 u4) : b < w.heap.size := (Array.getElem?_eq_some_iff.1 h).1
theorem Blk5.below (h : Blk5 w b t u0 u1 u2 u3 u4) (hb : Below w.heap.size w w') : Blk5 w' b t u0 u1 u2 u3 u4 := (hb.block b h.lt).trans h
theorem Blk5.other (h : Blk5 w b t u0 u1 u2 u3 u4) {p : Addr} (hp : p.block ≠ b) (u : Value) : Blk5 (w.setCell p u) b t u0 u1 u2 u3 u4 := (Below.heap_setCell w p u b (Ne.symm hp)).trans h
theorem Blk5.set (h : Blk5 w b t u0 u1 u2 u3 u4) (j : Nat) (u : Value) : (w.setCell ⟨b, j, none⟩ u).heap[b]? = some (.cells (#[u0, u1, u2, u3, u4].setIfInBounds j u) t (0, 0)) := by
  obtain ⟨hlt, hk⟩ := Array.getElem?_eq_some_iff.1 h
  show (w.heap.modify b _)[b]? = _
  rw [Array.getElem?_eq_getElem (by rw [Array.size_modify]; exact hlt), Array.getElem_modify_self, hk]
  rfl
theorem Blk5.new (w : World) (t : TypeId) (u0 u1 u2 u3 u4 : Value) : Blk5 (w.alloc (.cells #[u0, u1, u2, u3, u4] t)) w.heap.size t u0 u1 u2 u3 u4 := World.alloc_heap_new w _
theorem Blk5.alloc (h : Blk5 w b t u0 u1 u2 u3 u4) (o : Obj) : Blk5 (w.alloc o) b t u0 u1 u2 u3 u4 := (Below.heap_alloc w o b h.lt).trans h
end

/-- What the size test gives. -/
def ConLe (c : Con) (L : Nat) : Prop := c.vars.length ≤ L ∧ c.args.length ≤ L ∧ RowsLe c.rows L
def SzPostB (left : Int) (Q : Prop) (w : World) (e : Ending) (w' : World) : Prop := ∃ r : Int, e = .returned (.int .i64 r) ∧ -1 ≤ r ∧ r ≤ left ∧ (0 ≤ r → Q) ∧ Below w.heap.size w w'

theorem RowsLe.mono {rows : List (List Int)} {a b : Nat} (h : RowsLe rows a) (hab : a ≤ b) : RowsLe rows b := ⟨Nat.le_trans h.1 hab, fun j hj => Nat.le_trans (h.2 j hj) hab⟩

theorem rdCon_slices {w : World} {v : Value} {c : Con} (h : RdCon w v c) : ∃ a2 a3 a5 c2 c3 c5, v = .agg #[.int .i64 c.kind, .slice a2 c.vars.length c2, .slice a3 c.args.length c3, .int .i64 c.bound, .slice a5 c.rows.length c5] ∧
    RdInts w (.slice a2 c.vars.length c2) c.vars ∧ RdInts w (.slice a3 c.args.length c3) c.args ∧ RdRows w (.slice a5 c.rows.length c5) c.rows := by
  obtain ⟨u2, u3, u5, rfl, h2, h3, h5⟩ := h
  have g2 := h2; have g3 := h3; have g5 := h5
  obtain ⟨a2, c2, rfl, _⟩ := g2
  obtain ⟨a3, c3, rfl, _⟩ := g3
  obtain ⟨a5, c5, rfl, _⟩ := g5
  exact ⟨a2, a3, a5, c2, c3, c5, rfl, h2, h3, h5⟩

/-- A constraint whose memory lies in blocks from B on. -/
def ConAbove (B : Nat) (w : World) (v : Value) : Prop :=
  ∃ (kind bound : Int) (s2 n2 c2 s3 n3 c3 s5 n5 c5 : Nat), v = .agg #[.int .i64 kind, .slice (some ⟨s2, 0, none⟩) n2 c2, .slice (some ⟨s3, 0, none⟩) n3 c3, .int .i64 bound, .slice (some ⟨s5, 0, none⟩) n5 c5] ∧ B ≤ s2 ∧ B ≤ s3 ∧ RowsAbove B w (.slice (some ⟨s5, 0, none⟩) n5 c5)
theorem RowsAbove.mono {B B' : Nat} {w : World} {v : Value} (h : RowsAbove B w v) (hb : B' ≤ B) : RowsAbove B' w v := fun b off n c e =>
  ⟨Nat.le_trans hb (h b off n c e).1, fun i u hi hu b' o' n' c' eu => Nat.le_trans hb ((h b off n c e).2 i u hi hu b' o' n' c' eu)⟩
/-- A constraint whose memory may be written. -/
def ConUn (w : World) (v : Value) : Prop :=
  ∃ (kind bound : Int) (s2 n2 c2 s3 n3 c3 s5 n5 c5 : Nat), v = .agg #[.int .i64 kind, .slice (some ⟨s2, 0, none⟩) n2 c2, .slice (some ⟨s3, 0, none⟩) n3 c3, .int .i64 bound, .slice (some ⟨s5, 0, none⟩) n5 c5] ∧
    s2 < w.heap.size ∧ (∀ k, w.frozen? ⟨s2, k, none⟩ = false) ∧ s3 < w.heap.size ∧ (∀ k, w.frozen? ⟨s3, k, none⟩ = false) ∧ RowsUn w (.slice (some ⟨s5, 0, none⟩) n5 c5)
/-- What toConstraint leaves. -/
def CopyConFull (c : Con) (w : World) (e : Ending) (w' : World) : Prop := ∃ v, e = .returned v ∧ RdCon w' v c ∧ Below w.heap.size w w' ∧ ConAbove w.heap.size w' v ∧ ConUn w' v
def CopyConPost (c : Con) (w : World) (e : Ending) (w' : World) : Prop := ∃ v, e = .returned v ∧ RdCon w' v c ∧ Below w.heap.size w w'

end Go.Proofs.Ytelglccegkhfcaa

/-! The laws' own tests of equality: of slices of integers, of rows, of constraints. -/
namespace Go.Proofs.Ytelglccegkhfcaa
open Go.ChangeShapes Go.WideShapes Go.ChangeAt Go.RowKit
set_option linter.unusedVariables false
set_option linter.unusedSimpArgs false

theorem getD_ext {xs ys : List Int} (hl : xs.length = ys.length) (h : ∀ j, j < xs.length → xs[j]?.getD 0 = ys[j]?.getD 0) : xs = ys := by
  apply List.ext_getElem hl
  intro i h1 h2
  have := h i h1
  simpa [h1, h2] using this

/-- What eqIntS leaves. -/
def EqPost (xs ys : List Int) (w : World) (e : Ending) (w' : World) : Prop := e = .returned (.bool (decide (xs = ys))) ∧ ∃ k, w' = w.drewN k

set_option maxRecDepth 100000 in
set_option maxHeartbeats 1000000 in
theorem eqIntS_any (v1 v2 : Value) (xs ys : List Int) (w : World) (h1 : RdInts w v1 xs) (h2 : RdInts w v2 ys) :
    Calls Try.prog 37 #[v1, v2] w (EqPost xs ys w) := by
  obtain ⟨a1, c1, rfl, hl1, hm1, h1⟩ := h1
  obtain ⟨a2, c2, rfl, hl2, hm2, h2⟩ := h2
  unfold maxLen at hm1 hm2
  by_cases hl : xs.length = ys.length
  · have hne : ((xs.length : Int) != (ys.length : Int)) = false := by simp [hl]
    by_cases h0 : xs.length = 0
    · have hx : xs = [] := List.eq_nil_of_length_eq_zero h0
      have hy : ys = [] := List.eq_nil_of_length_eq_zero (by omega)
      subst hx hy
      clear h1 h2
      go_enter Try.func37, Try.ntmps37
      go_wp2
      go_loop [5] (fun i => i = .int .i64 0) (fun _ => 0)
      case atStart => rfl
      case round =>
        subst hrel
        go_wp2
        go_ret
        exact ⟨rfl, 0, rfl⟩
    · rcases h1 with h1 | ⟨b1, o1, rfl, g1⟩
      · omega
      rcases h2 with h2 | ⟨b2, o2, rfl, g2⟩
      · omega
      have HL := Lib.hid hl
      rw [← hl] at g2 hne ⊢
      obtain ⟨n, hn⟩ : ∃ n, n = xs.length := ⟨_, rfl⟩
      rw [← hn] at g1 g2 hne hl1 h0 ⊢
      have HN := Lib.hid hn
      clear hl hn
      go_enter Try.func37, Try.ntmps37
      go_wp2
      go_loopw [5] (fun i wr => ∃ k nq : Nat, k ≤ n ∧ i = .int .i64 k ∧ Hid (∀ j, j < k → xs[j]?.getD 0 = ys[j]?.getD 0) ∧ wr = w.drewN nq) (fun i _ => n - (intOf i).toNat)
      case atStart => exact ⟨0, 0, Nat.zero_le _, rfl, fun j hj => by omega, rfl⟩
      case round =>
        obtain ⟨k, nq, hk, rfl, HE, rfl⟩ := hrel
        by_cases hlt : k < n
        · have q1 := g1 k hlt
          have q2 := g2 k hlt
          clear g1 g2
          by_cases he : xs[k]?.getD 0 = ys[k]?.getD 0
          · have hb : (xs[k]?.getD 0 != ys[k]?.getD 0) = false := by simp [he]
            have HX := Lib.hid he
            clear he
            go_wp2_with fail
            go_quiet (fail)
            go_wp2
            go_roundw
            case rel => exact ⟨k + 1, _, by omega, by go_num, fun j hj => by by_cases e : j = k; (· subst e; exact HX.out); (· exact HE.out j (by omega)), rfl⟩
            case measure => simp [intOf]; omega
          · have hb : (xs[k]?.getD 0 != ys[k]?.getD 0) = true := by simp [he]
            go_wp2_with fail
            go_quiet (fail)
            go_wp2
            go_ret
            refine ⟨ret_bool (decide_eq_false (fun e => he (by rw [e]))).symm, ?_⟩
            rw [World.drewN_drewN]
            exact ⟨_, rfl⟩
        · obtain rfl : k = n := by omega
          have hfin : decide (xs = ys) = true := by rw [decide_eq_true_iff]; exact getD_ext HL.out (fun j hj => HE.out j (by have := HN.out; omega))
          have HF := Lib.hid hfin
          clear hfin g1 g2
          go_wp2
          go_ret
          exact ⟨ret_bool HF.out.symm, _, rfl⟩
  · have hne : ((xs.length : Int) != (ys.length : Int)) = true := by simp; omega
    clear h1 h2
    go_enter Try.func37, Try.ntmps37
    go_wp2
    go_ret
    exact ⟨ret_bool (decide_eq_false (fun e => hl (by rw [e]))).symm, 0, rfl⟩


/-- What a test of equality that answers yes leaves. -/
def SamePost (w : World) (e : Ending) (w' : World) : Prop := e = .returned (.bool true) ∧ ∃ k, w' = w.drewN k

theorem eqIntS_same (v1 v2 : Value) (xs : List Int) (w : World) (h1 : RdInts w v1 xs) (h2 : RdInts w v2 xs) : Calls Try.prog 37 #[v1, v2] w (SamePost w) :=
  (eqIntS_any v1 v2 xs xs w h1 h2).mono fun e w' ⟨he, hw⟩ => ⟨by rw [he, decide_eq_true rfl], hw⟩

theorem RdInts.drewN' {w : World} {v : Value} {xs : List Int} (h : RdInts w v xs) (k : Nat) : RdInts (w.drewN k) v xs := h
theorem RdRows.drewN' {w : World} {v : Value} {xs : List (List Int)} (h : RdRows w v xs) (k : Nat) : RdRows (w.drewN k) v xs := h

set_option maxRecDepth 100000 in
set_option maxHeartbeats 2000000 in
theorem eqIntSS_same (v1 v2 : Value) (rows : List (List Int)) (w : World) (h1 : RdRows w v1 rows) (h2 : RdRows w v2 rows) :
    Calls Try.prog 101 #[v1, v2] w (SamePost w) := by
  obtain ⟨a1, c1, rfl, hl1, hm1, h1⟩ := h1
  obtain ⟨a2, c2, rfl, hl2, hm2, h2⟩ := h2
  unfold maxLen at hm1 hm2
  obtain ⟨n, hn⟩ : ∃ n, n = rows.length := ⟨_, rfl⟩
  have HN := Lib.hid hn
  rw [← hn] at hl1 hl2 h1 h2 ⊢
  clear hn
  have hne : ((n : Int) != (n : Int)) = false := by simp
  go_enter Try.func101, Try.ntmps101
  go_wp2
  go_loopw [5] (fun i wr => ∃ k nq : Nat, k ≤ n ∧ i = .int .i64 k ∧ wr = w.drewN nq) (fun i _ => n - (intOf i).toNat)
  case atStart => exact ⟨0, 0, Nat.zero_le _, rfl, rfl⟩
  case round =>
    obtain ⟨k, nq, hk, rfl, hwr⟩ := hrel
    have HW := Lib.hid hwr
    by_cases hlt : k < n
    · rcases h1 with h1 | ⟨b1, o1, rfl, g1⟩
      · omega
      rcases h2 with h2 | ⟨b2, o2, rfl, g2⟩
      · omega
      obtain ⟨u1, q1, r1⟩ := g1 k hlt
      obtain ⟨u2, q2, r2⟩ := g2 k hlt
      have R1 : Hid (RdInts wr u1 (rows[k]?.getD [])) := Lib.hid (by rw [hwr]; exact r1)
      have R2 : Hid (RdInts wr u2 (rows[k]?.getD [])) := Lib.hid (by rw [hwr]; exact r2)
      have q1' : wr.cell? ⟨b1, o1 + k, none⟩ = some u1 := by rw [hwr]; exact q1
      have q2' : wr.cell? ⟨b2, o2 + k, none⟩ = some u2 := by rw [hwr]; exact q2
      clear g1 g2 q1 q2 hwr
      obtain ⟨x1, y1, e1, _⟩ := r1
      obtain ⟨x2, y2, e2, _⟩ := r2
      rw [e1] at q1' R1
      rw [e2] at q2' R2
      clear e1 e2
      go_wp2_with fail
      go_quiet ((go_at_call 37; exact Calls.quiet_of (eqIntS_same _ _ (rows[k]?.getD []) _ (R1.out.drewN' _) (R2.out.drewN' _))))
      go_wp2
      go_roundw
      case rel => exact ⟨k + 1, _, by omega, by go_num, by rw [HW.out, World.drewN_drewN]⟩
      case measure => simp [intOf]; omega
    · obtain rfl : k = n := by omega
      clear h1 h2 hwr
      go_wp2
      go_ret
      exact ⟨rfl, _, HW.out⟩

/-- What eqConstraint leaves at two copies of one constraint. -/
def SamePostB (w : World) (e : Ending) (w' : World) : Prop := e = .returned (.bool true) ∧ Below w.heap.size w w'
theorem below_drewN' {B : Nat} {a w : World} (h : Below B a w) (k : Nat) : Below B a (w.drewN k) := ⟨h.os, h.tape, h.output, h.size, h.block⟩

end Go.Proofs.Ytelglccegkhfcaa
