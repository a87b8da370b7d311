/- The laws' own copies of arguments: how large they are; toIntS, toIntSS. -/
import Derived.Test.YtkmdkbnphmadpaaVcB
import Derived.RangeFuncBox
namespace Go.Proofs.Ytkmdkbnphmadpaa
open Go.ChangeShapes Go.WideShapes Go.ChangeAt Go.RowKit
set_option linter.unusedVariables false
set_option linter.unusedSimpArgs false

theorem Try.info3 : (Try.prog.info? 3).map (fun i => (i.zero, i.size, i.bytes)) = some (some (.int .i64 0), 1, 8) := by kernel_rfl
theorem Try.info22 : (Try.prog.info? 22).map (fun i => (i.zero, i.size, i.bytes)) = some (some (.slice none 0 0), 1, 24) := by kernel_rfl

/-- What a size test leaves: a number at most left; where it isn't negative, Q holds. -/
def SzPost (left : Int) (Q : Prop) (w : World) (e : Ending) (w' : World) : Prop := ∃ r : Int, e = .returned (.int .i64 r) ∧ -1 ≤ r ∧ r ≤ left ∧ (0 ≤ r → Q) ∧ w = w'

set_option maxRecDepth 100000 in
theorem szIntS_any (v : Value) (xs : List Int) (left : Int) (w : World) (h : RdInts w v xs) (h0 : 0 ≤ left) (h1 : left ≤ 1048576) :
    Calls Try.prog 55 #[v, .int .i64 left] w (SzPost left (xs.length ≤ left.toNat) w) := by
  obtain ⟨a, cap, rfl, hl, hm, _⟩ := h
  obtain ⟨n, hn⟩ : ∃ n, n = xs.length := ⟨_, rfl⟩
  rw [← hn] at hl ⊢
  clear hn
  unfold maxLen at hm
  by_cases hneg : left - (n : Int) < 0
  · go_enter Try.func55, Try.ntmps55
    go_wp2
    go_ret
    exact ⟨-1, rfl, by omega, by omega, fun h => by omega, rfl⟩
  · go_enter Try.func55, Try.ntmps55
    go_wp2
    go_ret
    exact ⟨left - n, rfl, by omega, by omega, fun _ => by omega, rfl⟩

/-- No more than L rows, each of no more than L numbers. -/
def RowsLe (rows : List (List Int)) (L : Nat) : Prop := rows.length ≤ L ∧ ∀ j, j < rows.length → (rows[j]?.getD []).length ≤ L

set_option maxRecDepth 100000 in
set_option maxHeartbeats 1000000 in
theorem szIntSS_any (v : Value) (rows : List (List Int)) (left : Int) (w : World) (h : RdRows w v rows) (h0 : 0 ≤ left) (h1 : left ≤ 1048576) :
    Calls Try.prog 56 #[v, .int .i64 left] w (SzPost left (RowsLe rows left.toNat) w) := by
  obtain ⟨a, cap, rfl, hl, hm, h⟩ := h
  obtain ⟨n, hn⟩ : ∃ n, n = rows.length := ⟨_, rfl⟩
  have HN := Lib.hid hn
  rw [← hn] at hl h ⊢
  clear hn
  unfold maxLen at hm
  by_cases hneg : left - (n : Int) < 0
  · clear h
    go_enter Try.func56, Try.ntmps56
    go_wp2
    go_ret
    exact ⟨-1, rfl, by omega, by omega, fun h => by omega, rfl⟩
  · go_enter Try.func56, Try.ntmps56
    go_wp2
    go_loop [1, 5] (fun q i => ∃ (k : Nat) (l : Int), k ≤ n ∧ i = .int .i64 k ∧ q = .int .i64 l ∧ 0 ≤ l ∧ l ≤ left ∧ Hid (∀ j, j < k → (rows[j]?.getD []).length ≤ left.toNat)) (fun _ i => n - (intOf i).toNat)
    case atStart => exact ⟨0, left - n, Nat.zero_le _, rfl, rfl, by omega, by omega, fun j hj => by omega⟩
    case round =>
      obtain ⟨k, l, hk, rfl, rfl, hl0, hl1, HE⟩ := hrel
      by_cases hlt : k < n
      · rcases h with h | ⟨b, off, rfl, g⟩
        · omega
        obtain ⟨u, q1, hu⟩ := g k hlt
        clear g
        have HU := Lib.hid hu
        obtain ⟨a2, cc2, eu, _, _, _⟩ := hu
        rw [eu] at q1 HU
        clear eu
        go_wp2_with fail
        refine (szIntS_any _ (rows[k]?.getD []) l _ HU.out hl0 (by omega)).mono ?_
        rintro e w' ⟨r, rfl, hr1, hr2, hr3, rfl⟩
        have HR3 := Lib.hid hr3
        clear hr3
        by_cases hr : r < 0
        · go_wp2
          go_ret
          exact ⟨-1, rfl, by omega, by omega, fun h => by omega, rfl⟩
        · go_wp2
          go_round
          case rel => exact ⟨k + 1, r, by omega, by go_num, rfl, by omega, by omega, fun j hj => by by_cases e : j = k; (· subst e; have := HR3.out (by omega); omega); (· exact HE.out j (by omega))⟩
          case measure => simp [intOf]; omega
      · obtain rfl : k = n := by omega
        clear h
        go_wp2
        go_ret
        exact ⟨l, rfl, by omega, by omega, fun _ => ⟨by have := HN.out; omega, fun j hj => HE.out j (by have := HN.out; omega)⟩, rfl⟩

theorem madeInts (n : Nat) : (madeCells (Value.cells (.int .i64 0)) (n * 1)).toList = (List.replicate n 0).map (Value.int .i64) := by
  have := toList_madeCells_one (.int .i64 0) n
  simpa [Value.cells] using this
theorem madeRows (n : Nat) : (madeCells (Value.cells (.slice none 0 0)) (n * 1)).toList = List.replicate n (.slice none 0 0) := by
  have := toList_madeCells_one (.slice none 0 0) n
  simpa [Value.cells] using this

theorem below_of_grown {w w' : World} (h : w.grownBy w' none) : Below w.heap.size w w' := ⟨h.os, h.tape, h.output, h.size, fun k hk => h.block k hk (by simp)⟩

/-- An owned row of integers reads so. -/
theorem rdInts_of_owns {w : World} {B g n cap : Nat} {xs : List Int} (h : w.ownsRow B 3 1 (.slice (some ⟨g, 0, none⟩) n cap) n (xs.map (Value.int .i64))) (hl : xs.length = n) (hc : n ≤ cap) (hm : cap ≤ maxLen) : RdInts w (.slice (some ⟨g, 0, none⟩) n cap) xs := by
  subst hl
  refine ⟨some ⟨g, 0, none⟩, cap, rfl, hc, hm, .inr ⟨g, 0, rfl, fun i hi => ?_⟩⟩
  have := h.cellAt i (by omega)
  rw [Nat.zero_add, this]
  simp [hi]

/-- The first i numbers of xs, then zeros. -/
def fillI (xs : List Int) (i : Nat) : List Int := xs.take i ++ List.replicate (xs.length - i) 0
theorem fillI_step (xs : List Int) (i : Nat) (h : i < xs.length) : (fillI xs i).set i (xs[i]?.getD 0) = fillI xs (i + 1) := by
  unfold fillI
  rw [List.set_append_right _ _ (by rw [List.length_take]; omega), List.length_take, Nat.min_eq_left (by omega), Nat.sub_self]
  obtain ⟨m, hm⟩ : ∃ m, xs.length - i = m + 1 := ⟨xs.length - i - 1, by omega⟩
  rw [hm, show xs.length - (i + 1) = m from by omega, List.replicate_succ, List.set_cons_zero, List.take_succ_eq_append_getElem h, List.append_assoc]
  simp only [List.getElem?_eq_getElem h, Option.getD_some, List.cons_append, List.nil_append]
theorem fillI_length (xs : List Int) (i : Nat) (h : i ≤ xs.length) : (fillI xs i).length = xs.length := by simp [fillI]; omega

/-- What toIntS leaves: a copy in the block that was the heap's end. -/
def CopyPost (xs : List Int) (w : World) (e : Ending) (w' : World) : Prop :=
  e = .returned (.slice (some ⟨w.heap.size, 0, none⟩) xs.length xs.length) ∧ RdInts w' (.slice (some ⟨w.heap.size, 0, none⟩) xs.length xs.length) xs ∧ Below w.heap.size w w' ∧ w.heap.size < w'.heap.size ∧ ∀ i, w'.frozen? ⟨w.heap.size, i, none⟩ = false

set_option maxRecDepth 100000 in
set_option maxHeartbeats 1000000 in
theorem toIntS_any (v : Value) (xs : List Int) (w : World) (h : RdInts w v xs) (hx : xs.length ≤ 1048576) :
    Calls Try.prog 26 #[v] w (CopyPost xs w) := by
  obtain ⟨a, cap, rfl, hl, hm, h⟩ := h
  unfold CopyPost
  obtain ⟨n, hn⟩ : ∃ n, n = xs.length := ⟨_, rfl⟩
  have HN := Lib.hid hn
  rw [← hn] at hl h hx ⊢
  clear hn
  unfold maxLen at hm
  obtain ⟨i0, hi, hz0, hz1, hz2⟩ := info_parts Try.info3
  go_enter Try.func26, Try.ntmps26
  go_wp2_with (at_make; refine wpList_make_full _ rfl _ _ 22 rfl w.heap.size 3 i0 (.int .i64 0) 1 Try.underlying22 hi hz0 hz1 .i64 .i64 _ _ n rfl rfl rfl rfl (by rw [hz2]; omega) (by unfold maxLen; omega) (Nat.le_refl _) ?_; intro w1 hown hgrow)
  rw [madeInts] at hown
  have hb1 := below_of_grown hgrow
  have hsz1 : w.heap.size < w1.heap.size := by
    rcases hown.2 with ⟨e, _⟩ | ⟨g, c, cur, e, _, hg, _⟩
    · simp at e
    · simp at e; obtain ⟨rfl, rfl⟩ := e; exact (Array.getElem?_eq_some_iff.1 hg).1
  have HO : Hid (w1.ownsRow w.heap.size 3 1 (.slice (some ⟨w.heap.size, 0, none⟩) n n) n ((fillI xs 0).map (Value.int .i64))) := Lib.hid (by rw [show fillI xs 0 = List.replicate n 0 from by simp [fillI, HN.out]]; exact hown)
  clear hown hgrow
  go_wp2
  go_loopw [4] (fun i wr => ∃ k : Nat, k ≤ n ∧ i = .int .i64 k ∧ Hid (wr.ownsRow w.heap.size 3 1 (.slice (some ⟨w.heap.size, 0, none⟩) n n) n ((fillI xs k).map (Value.int .i64))) ∧ Below w.heap.size w wr ∧ w.heap.size < wr.heap.size) (fun i _ => n - (intOf i).toNat)
  case atStart => exact ⟨0, Nat.zero_le _, rfl, HO, hb1, hsz1⟩
  case round =>
    obtain ⟨k, hk, rfl, HR, hbel, hsz⟩ := hrel
    by_cases hlt : k < n
    · rcases h with h | ⟨b, off, rfl, g⟩
      · omega
      have q0 := g k hlt
      have q1 := (hbel.cell (p := ⟨b, off + k, none⟩) (World.block_lt_of_cell? w _ q0)).trans q0
      clear g q0
      have hc := HR.out.cellAt k (by omega)
      have hf := HR.out.frozenAt k
      obtain ⟨z, hz⟩ : ∃ z, (fillI xs k)[k]? = some z := ⟨_, List.getElem?_eq_getElem (by rw [fillI_length _ _ (by have := HN.out; omega)]; have := HN.out; omega)⟩
      rw [List.getElem?_map, hz] at hc
      simp only [Option.map_some] at hc
      clear hz
      have HS := Lib.hid (HR.out.stored k (.int .i64 (xs[k]?.getD 0)))
      have HT := Lib.hid (fillI_step xs k (by have := HN.out; omega))
      go_wp2
      go_roundw
      case rel =>
        refine ⟨k + 1, by omega, by go_num, Lib.hid ?_, hbel.setCell (p := ⟨w.heap.size, k, none⟩) (Nat.le_refl _) _, by simpa using hsz⟩
        rw [← HT.out, List.map_set]
        exact HS.out.1
      case measure => simp [intOf]; omega
    · obtain rfl : k = n := by omega
      have e : fillI xs k = xs := by unfold fillI; rw [HN.out]; simp
      have HF := Lib.hid (rdInts_of_owns (xs := xs) (by rw [← e]; exact HR.out) HN.out.symm (Nat.le_refl _) (by unfold maxLen; omega))
      have HZ := Lib.hid (fun i => HR.out.frozenAt i)
      clear h e
      go_wp2
      go_ret
      exact ⟨rfl, HF.out, hbel, hsz, HZ.out⟩

/-- A read survives a store into another block. -/
theorem RdInts.setCell {w : World} {g n c : Nat} {xs : List Int} (h : RdInts w (.slice (some ⟨g, 0, none⟩) n c) xs) {p : Addr} (hp : p.block ≠ g) (u : Value) : RdInts (w.setCell p u) (.slice (some ⟨g, 0, none⟩) n c) xs := by
  obtain ⟨a, cap, e, h1, h2, h3⟩ := h
  refine ⟨a, cap, e, h1, h2, ?_⟩
  rcases h3 with h3 | ⟨b, off, ea, h3⟩
  · exact .inl h3
  · refine .inr ⟨b, off, ea, fun i hi => ?_⟩
    rw [ea] at e
    simp at e
    obtain ⟨⟨rfl, rfl⟩, _, _⟩ := e
    have hne : p ≠ ⟨g, 0 + i, none⟩ := fun e => hp (by rw [e])
    rw [show (w.setCell p u).cell? ⟨g, 0 + i, none⟩ = w.cell? ⟨g, 0 + i, none⟩ from by rw [World.cell?_setCell_other]; exact hne]
    exact h3 i hi

theorem frozen_below {w w' : World} {B b : Nat} (hb : Below B w w') (h : b < B) (i : Nat) : w'.frozen? ⟨b, i, none⟩ = w.frozen? ⟨b, i, none⟩ := by
  unfold World.frozen?
  rw [hb.block _ h]
theorem frozen_set (w : World) (p q : Addr) (u : Value) : (w.setCell p u).frozen? q = w.frozen? q := World.frozen?_setCell ..
/-- The copies of the first k rows, in blocks behind g; the rest nil. -/
def RowCells (rows : List (List Int)) (g k : Nat) (vs : List Value) (w : World) : Prop :=
  vs.length = rows.length ∧ (∀ j, j < k → ∃ b, g < b ∧ vs[j]? = some (.slice (some ⟨b, 0, none⟩) (rows[j]?.getD []).length (rows[j]?.getD []).length) ∧ RdInts w (.slice (some ⟨b, 0, none⟩) (rows[j]?.getD []).length (rows[j]?.getD []).length) (rows[j]?.getD []) ∧ b < w.heap.size ∧ ∀ i, w.frozen? ⟨b, i, none⟩ = false) ∧
  ∀ j, k ≤ j → j < rows.length → vs[j]? = some (.slice none 0 0)

theorem RowCells.below {rows : List (List Int)} {g k : Nat} {vs : List Value} {w w' : World} (h : RowCells rows g k vs w) (hb : Below w.heap.size w w') : RowCells rows g k vs w' := by
  obtain ⟨h1, h2, h3⟩ := h
  refine ⟨h1, fun j hj => ?_, h3⟩
  obtain ⟨b, e1, e2, e3, e4, e5⟩ := h2 j hj
  exact ⟨b, e1, e2, e3.below hb, Nat.lt_of_lt_of_le e4 hb.size, fun i => (frozen_below hb e4 i).trans (e5 i)⟩
theorem RowCells.step {rows : List (List Int)} {g k b : Nat} {vs : List Value} {w : World} (h : RowCells rows g k vs w) (hk : k < rows.length) (hb : g < b) (hr : RdInts w (.slice (some ⟨b, 0, none⟩) (rows[k]?.getD []).length (rows[k]?.getD []).length) (rows[k]?.getD [])) (hbl : b < w.heap.size) (hz : ∀ i, w.frozen? ⟨b, i, none⟩ = false) :
    RowCells rows g (k + 1) (vs.set k (.slice (some ⟨b, 0, none⟩) (rows[k]?.getD []).length (rows[k]?.getD []).length)) (w.setCell ⟨g, k, none⟩ (.slice (some ⟨b, 0, none⟩) (rows[k]?.getD []).length (rows[k]?.getD []).length)) := by
  obtain ⟨h1, h2, h3⟩ := h
  refine ⟨by simp [h1], fun j hj => ?_, fun j hj1 hj2 => ?_⟩
  · by_cases e : j = k
    · subst e
      exact ⟨b, hb, by simp [List.getElem?_set, h1, hk], hr.setCell (p := ⟨g, j, none⟩) (by show g ≠ b; omega) _, by simpa using hbl, fun i => (frozen_set _ _ _ _).trans (hz i)⟩
    · obtain ⟨b', e1, e2, e3, e4, e5⟩ := h2 j (by omega)
      exact ⟨b', e1, by rw [List.getElem?_set_ne (Ne.symm e)]; exact e2, e3.setCell (p := ⟨g, k, none⟩) (by show g ≠ b'; omega) _, by simpa using e4, fun i => (frozen_set _ _ _ _).trans (e5 i)⟩
  · rw [List.getElem?_set_ne (by omega)]
    exact h3 j (by omega) hj2

/-- The rows and their list lie in blocks from B on. -/
def RowsAbove (B : Nat) (w : World) (v : Value) : Prop :=
  ∀ b off n c, v = .slice (some ⟨b, off, none⟩) n c → B ≤ b ∧ ∀ i u, i < n → w.cell? ⟨b, off + i, none⟩ = some u → ∀ b' o' n' c', u = .slice (some ⟨b', o', none⟩) n' c' → B ≤ b'

/-- The rows' memory may be written. -/
def RowsUn (w : World) (v : Value) : Prop :=
  ∀ b off n c, v = .slice (some ⟨b, off, none⟩) n c → ∀ i u, i < n → w.cell? ⟨b, off + i, none⟩ = some u → ∀ b' o' n' c', u = .slice (some ⟨b', o', none⟩) n' c' → b' < w.heap.size ∧ ∀ k, w.frozen? ⟨b', k, none⟩ = false

theorem RdInts.setCellG {w : World} {v : Value} {xs : List Int} (h : RdInts w v xs) {p : Addr} (hp : ∀ b off n c, v = .slice (some ⟨b, off, none⟩) n c → p.block ≠ b) (u : Value) : RdInts (w.setCell p u) v xs := by
  obtain ⟨a, cap, e, h1, h2, h3⟩ := h
  refine ⟨a, cap, e, h1, h2, ?_⟩
  rcases h3 with h3 | ⟨b, off, ea, h3⟩
  · exact .inl h3
  · refine .inr ⟨b, off, ea, fun i hi => ?_⟩
    have hne : p ≠ ⟨b, off + i, none⟩ := fun e' => hp b off _ _ (by rw [e, ea]) (by rw [e'])
    rw [show (w.setCell p u).cell? ⟨b, off + i, none⟩ = w.cell? ⟨b, off + i, none⟩ from by rw [World.cell?_setCell_other]; exact hne]
    exact h3 i hi
theorem cell_other {w : World} {p q : Addr} (h : p.block ≠ q.block) (u : Value) : (w.setCell p u).cell? q = w.cell? q := by rw [World.cell?_setCell_other]; exact fun e => h (by rw [e])
theorem RdRows.setCell {w : World} {v : Value} {rows : List (List Int)} {B : Nat} (h : RdRows w v rows) (hA : RowsAbove B w v) {p : Addr} (hp : p.block < B) (u : Value) : RdRows (w.setCell p u) v rows ∧ RowsAbove B (w.setCell p u) v := by
  obtain ⟨a, cap, e, h1, h2, h3⟩ := h
  refine ⟨⟨a, cap, e, h1, h2, ?_⟩, ?_⟩
  · rcases h3 with h3 | ⟨b, off, ea, h3⟩
    · exact .inl h3
    · refine .inr ⟨b, off, ea, fun i hi => ?_⟩
      obtain ⟨x, hx, hr⟩ := h3 i hi
      obtain ⟨g1, g2⟩ := hA b off _ _ (by rw [e, ea])
      refine ⟨x, by rw [cell_other (by show p.block ≠ b; omega)]; exact hx, hr.setCellG (fun b' o' n' c' e' => ?_) u⟩
      have := g2 i x hi hx b' o' n' c' e'
      omega
  · intro b off n c ev
    obtain ⟨g1, g2⟩ := hA b off n c ev
    refine ⟨g1, fun i x hi hx => g2 i x hi ?_⟩
    rw [cell_other (by show p.block ≠ b; omega)] at hx
    exact hx

theorem RowsUn.setCell {B : Nat} {w : World} {v : Value} (h : RowsUn w v) (hA : RowsAbove B w v) {p : Addr} (hp : p.block < B) (u : Value) : RowsUn (w.setCell p u) v := by
  intro b off n c ev i x hi hx b' o' n' c' e'
  obtain ⟨g1, g2⟩ := hA b off n c ev
  rw [cell_other (by show p.block ≠ b; omega)] at hx
  obtain ⟨q1, q2⟩ := h b off n c ev i x hi hx b' o' n' c' e'
  exact ⟨by simpa using q1, fun k => (frozen_set _ _ _ _).trans (q2 k)⟩
theorem RowsUn.below {w w' : World} {v : Value} {rows : List (List Int)} (h : RowsUn w v) (hr : RdRows w v rows) (hb : Below w.heap.size w w') : RowsUn w' v := by
  intro b off n c ev i x hi hx b' o' n' c' e'
  obtain ⟨a, cap, e2, _, _, h3⟩ := hr
  rw [ev] at e2
  simp at e2
  obtain ⟨rfl, rfl, rfl⟩ := e2
  rcases h3 with h3 | ⟨b2, off2, e3, h3⟩
  · omega
  · simp at e3
    obtain ⟨rfl, rfl⟩ := e3
    obtain ⟨y, hy, _⟩ := h3 i hi
    rw [(hb.cell (World.block_lt_of_cell? w _ hy))] at hx
    obtain ⟨q1, q2⟩ := h b off _ c ev i x hi hx b' o' n' c' e'
    exact ⟨Nat.lt_of_lt_of_le q1 hb.size, fun k => (frozen_below hb q1 k).trans (q2 k)⟩

/-- What toIntSS leaves. -/
def CopyRowsPost (rows : List (List Int)) (w : World) (e : Ending) (w' : World) : Prop :=
  e = .returned (.slice (some ⟨w.heap.size, 0, none⟩) rows.length rows.length) ∧ RdRows w' (.slice (some ⟨w.heap.size, 0, none⟩) rows.length rows.length) rows ∧ Below w.heap.size w w' ∧ w.heap.size < w'.heap.size ∧ RowsAbove w.heap.size w' (.slice (some ⟨w.heap.size, 0, none⟩) rows.length rows.length) ∧ RowsUn w' (.slice (some ⟨w.heap.size, 0, none⟩) rows.length rows.length)

set_option maxRecDepth 100000 in
set_option maxHeartbeats 1000000 in
theorem toIntSS_any (v : Value) (rows : List (List Int)) (w : World) (h : RdRows w v rows) (hx : RowsLe rows 1048576) :
    Calls Try.prog 59 #[v] w (CopyRowsPost rows w) := by
  obtain ⟨a, cap, rfl, hl, hm, h⟩ := h
  unfold CopyRowsPost
  obtain ⟨hx1, hx2⟩ := hx
  obtain ⟨n, hn⟩ : ∃ n, n = rows.length := ⟨_, rfl⟩
  have HN := Lib.hid hn
  have HX := Lib.hid hx2
  rw [← hn] at hl h hx1 ⊢
  clear hn hx2
  unfold maxLen at hm
  obtain ⟨i0, hi, hz0, hz1, hz2⟩ := info_parts Try.info22
  go_enter Try.func59, Try.ntmps59
  go_wp2_with (at_make; refine wpList_make_full _ rfl _ _ 23 rfl w.heap.size 22 i0 (.slice none 0 0) 1 Try.underlying23 hi hz0 hz1 .i64 .i64 _ _ n rfl rfl rfl rfl (by rw [hz2]; omega) (by unfold maxLen; omega) (Nat.le_refl _) ?_; intro w1 hown hgrow)
  rw [madeRows] at hown
  have hb1 := below_of_grown hgrow
  have hsz1 : w.heap.size < w1.heap.size := by
    rcases hown.2 with ⟨e, _⟩ | ⟨g, c, cur, e, _, hg, _⟩
    · simp at e
    · simp at e; obtain ⟨rfl, rfl⟩ := e; exact (Array.getElem?_eq_some_iff.1 hg).1
  have HO := Lib.hid hown
  have HC : Hid (RowCells rows w.heap.size 0 (List.replicate n (.slice none 0 0)) w1) := Lib.hid ⟨by simp [HN.out], fun j hj => by omega, fun j _ hj => by rw [List.getElem?_replicate]; simp [HN.out, hj]⟩
  clear hown hgrow
  go_wp2_with fail
  go_loopw [4] (fun i wr => ∃ (k : Nat) (vs : List Value), k ≤ n ∧ i = .int .i64 k ∧ Hid (wr.ownsRow w.heap.size 22 1 (.slice (some ⟨w.heap.size, 0, none⟩) n n) n vs) ∧ Hid (RowCells rows w.heap.size k vs wr) ∧ Below w.heap.size w wr ∧ w.heap.size < wr.heap.size) (fun i _ => n - (intOf i).toNat)
  case atStart => exact ⟨0, _, Nat.zero_le _, rfl, HO, HC, hb1, hsz1⟩
  case round =>
    obtain ⟨k, vs, hk, rfl, HR, HV, hbel, hsz⟩ := hrel
    by_cases hlt : k < n
    · rcases h with h | ⟨b, off, rfl, g⟩
      · omega
      obtain ⟨u, q0, hu⟩ := g k hlt
      have q1 := (hbel.cell (p := ⟨b, off + k, none⟩) (World.block_lt_of_cell? w _ q0)).trans q0
      have HU := Lib.hid (hu.below hbel)
      clear g q0
      obtain ⟨a2, cc2, eu, _, _, _⟩ := hu
      rw [eu] at q1 HU
      clear eu
      go_wp2_with fail
      refine (toIntS_any _ (rows[k]?.getD []) wr HU.out (HX.out k (by have := HN.out; omega))).mono ?_
      rintro e w2 ⟨rfl, hrd, hb2, hs2, hf2⟩
      have hkl : k < vs.length := by have := HV.out.1; have := HN.out; omega
      have HR2 := Lib.hid (World.ownsRow.kept HR.out (show wr.grownBy w2 none from ⟨hb2.os, hb2.tape, hb2.output, hb2.size, fun q hq _ => hb2.block q hq⟩) (.inr (by simp [Value.ownBlock])))
      have hc := HR2.out.cellAt k (by omega)
      have hf := HR2.out.frozenAt k
      rw [HV.out.2.2 k (Nat.le_refl _) (by have := HN.out; omega)] at hc
      have HS := Lib.hid (HR2.out.stored k (.slice (some ⟨wr.heap.size, 0, none⟩) (rows[k]?.getD []).length (rows[k]?.getD []).length))
      have HT := Lib.hid (RowCells.step (HV.out.below hb2) (by have := HN.out; omega) hsz hrd hs2 hf2)
      have hb3 : Below w.heap.size w w2 := hbel.trans (hb2.mono hbel.size)
      have hs3 : w.heap.size < w2.heap.size := by omega
      clear hrd hb2 hkl hf2
      go_wp2
      go_roundw
      case rel => exact ⟨k + 1, _, by omega, by go_num, Lib.hid HS.out.1, HT, hb3.setCell (p := ⟨w.heap.size, k, none⟩) (Nat.le_refl _) _, by simpa using hs3⟩
      case measure => simp [intOf]; omega
    · obtain rfl : k = n := by omega
      have HF : Hid (RdRows wr (.slice (some ⟨w.heap.size, 0, none⟩) k k) rows) := Lib.hid (by
        have hn := HN.out
        refine ⟨some ⟨w.heap.size, 0, none⟩, k, by rw [hn], by omega, by unfold maxLen; omega, .inr ⟨w.heap.size, 0, rfl, fun i hi => ?_⟩⟩
        obtain ⟨b, _, e2, e3, _⟩ := HV.out.2.1 i (by omega)
        refine ⟨_, ?_, e3⟩
        rw [Nat.zero_add, HR.out.cellAt i (by omega)]
        exact e2)
      have HA : Hid (RowsAbove w.heap.size wr (.slice (some ⟨w.heap.size, 0, none⟩) k k)) := Lib.hid (by
        intro b off n' c ev
        simp at ev
        obtain ⟨⟨rfl, rfl⟩, rfl, rfl⟩ := ev
        refine ⟨Nat.le_refl _, fun i u hi hu b' o' n' c' eu => ?_⟩
        obtain ⟨b2, h2, e2, _⟩ := HV.out.2.1 i hi
        rw [Nat.zero_add, HR.out.cellAt i (by omega), e2] at hu
        rw [← Option.some.inj hu] at eu
        simp at eu
        omega)
      have HU : Hid (RowsUn wr (.slice (some ⟨w.heap.size, 0, none⟩) k k)) := Lib.hid (by
        intro b off n' c ev
        simp at ev
        obtain ⟨⟨rfl, rfl⟩, rfl, rfl⟩ := ev
        intro i u hi hu b' o' n' c' eu
        obtain ⟨b2, h2, e2, _, e4, e5⟩ := HV.out.2.1 i hi
        rw [Nat.zero_add, HR.out.cellAt i (by omega), e2] at hu
        rw [← Option.some.inj hu] at eu
        simp at eu
        obtain ⟨⟨rfl, rfl⟩, _⟩ := eu
        exact ⟨e4, e5⟩)
      clear h
      go_wp2
      go_ret
      exact ⟨rfl, HF.out, hbel, hsz, HA.out, HU.out⟩
end Go.Proofs.Ytkmdkbnphmadpaa
