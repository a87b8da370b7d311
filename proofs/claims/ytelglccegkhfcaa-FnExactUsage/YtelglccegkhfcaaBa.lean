/- How slices of integers, slices of such slices, and constraints read in memory; what a read keeps through later steps. Ranges and distinctness of lists, in both packages. Distinct indices; rows of numbers in a range: in both packages. spec.validConstraint: what it returns for each kind of constraint; one walk for each way through its tests. -/
import Derived.Test.YtelglccegkhfcaaDom
import Derived.Laws.AppendOwn
import Derived.Laws.OwnMore
import Derived.Deep.Matrix
import Derived.Deep.Fields
import Derived.Deep.Slices
import Derived.Lib.SmallJoins
import Derived.ChangeOld
import Derived.OwnWalk

/-! How slices of integers, slices of such slices, and constraints read in memory; what a read keeps through later steps. -/
namespace Go.Proofs.Ytelglccegkhfcaa
open Go.ChangeShapes Go.WideShapes Go.ChangeAt Go.RowKit Go.Deep
set_option linter.unusedVariables false
set_option linter.unusedSimpArgs false

theorem ret_bool {a b : Bool} (h : a = b) : Ending.returned (.bool a) = .returned (.bool b) := by rw [h]
theorem ret_int {k : IntKind} {a b : Int} (h : a = b) : Ending.returned (.int k a) = .returned (.int k b) := by rw [h]

/-- A constraint as plain data. -/
structure Con where
  kind : Int
  vars : List Int
  args : List Int
  bound : Int
  rows : List (List Int)

/-- The slice value v reads as xs. -/
def RdInts (w : World) (v : Value) (xs : List Int) : Prop :=
  ∃ a cap, v = .slice a xs.length cap ∧ xs.length ≤ cap ∧ cap ≤ maxLen ∧ (xs.length = 0 ∨ ∃ b off, a = some ⟨b, off, none⟩ ∧ ∀ i, i < xs.length → w.cell? ⟨b, off + i, none⟩ = some (.int .i64 (xs[i]?.getD 0)))
/-- The slice value v reads as a list of rows. -/
def RdRows (w : World) (v : Value) (rows : List (List Int)) : Prop :=
  ∃ a cap, v = .slice a rows.length cap ∧ rows.length ≤ cap ∧ cap ≤ maxLen ∧ (rows.length = 0 ∨ ∃ b off, a = some ⟨b, off, none⟩ ∧ ∀ i, i < rows.length → ∃ u, w.cell? ⟨b, off + i, none⟩ = some u ∧ RdInts w u (rows[i]?.getD []))
/-- The five cells of a constraint. -/
def RdCells (w : World) (c : Con) (u1 u2 u3 u4 u5 : Value) : Prop :=
  u1 = .int .i64 c.kind ∧ RdInts w u2 c.vars ∧ RdInts w u3 c.args ∧ u4 = .int .i64 c.bound ∧ RdRows w u5 c.rows
/-- The value v is the constraint c. -/
def RdCon (w : World) (v : Value) (c : Con) : Prop :=
  ∃ u2 u3 u5, v = .agg #[.int .i64 c.kind, u2, u3, .int .i64 c.bound, u5] ∧ RdInts w u2 c.vars ∧ RdInts w u3 c.args ∧ RdRows w u5 c.rows
/-- The slice value v reads as a list of constraints. -/
def RdCons (w : World) (v : Value) (cs : List Con) : Prop :=
  ∃ a cap, v = .slice a cs.length cap ∧ cs.length ≤ cap ∧ cap ≤ maxLen ∧ (cs.length = 0 ∨ ∃ b off, a = some ⟨b, off, none⟩ ∧ ∀ i c, cs[i]? = some c →
    ∃ u2 u3 u5, w.cell? ⟨b, off + 5 * i, none⟩ = some (.int .i64 c.kind) ∧ w.cell? ⟨b, off + 5 * i + 1, none⟩ = some u2 ∧ w.cell? ⟨b, off + 5 * i + 2, none⟩ = some u3 ∧
      w.cell? ⟨b, off + 5 * i + 3, none⟩ = some (.int .i64 c.bound) ∧ w.cell? ⟨b, off + 5 * i + 4, none⟩ = some u5 ∧ RdInts w u2 c.vars ∧ RdInts w u3 c.args ∧ RdRows w u5 c.rows)

theorem addr_add (b off i : Nat) : (Addr.mk b off none).add i = ⟨b, off + i, none⟩ := by unfold Addr.add; split <;> simp_all

theorem RdInts.below {w w' : World} {v : Value} {xs : List Int} (h : RdInts w v xs) (hb : Below w.heap.size w w') : RdInts w' v xs := by
  obtain ⟨a, cap, e, h1, h2, h3⟩ := h
  refine ⟨a, cap, e, h1, h2, ?_⟩
  rcases h3 with h3 | ⟨b, off, ea, h3⟩
  · exact .inl h3
  · exact .inr ⟨b, off, ea, fun i hi => (hb.cell (World.block_lt_of_cell? w _ (h3 i hi))).trans (h3 i hi)⟩
theorem RdRows.below {w w' : World} {v : Value} {xs : List (List Int)} (h : RdRows w v xs) (hb : Below w.heap.size w w') : RdRows w' v xs := by
  obtain ⟨a, cap, e, h1, h2, h3⟩ := h
  refine ⟨a, cap, e, h1, h2, ?_⟩
  rcases h3 with h3 | ⟨b, off, ea, h3⟩
  · exact .inl h3
  · refine .inr ⟨b, off, ea, fun i hi => ?_⟩
    obtain ⟨u, hu, hr⟩ := h3 i hi
    exact ⟨u, (hb.cell (World.block_lt_of_cell? w _ hu)).trans hu, hr.below hb⟩
theorem RdCon.below {w w' : World} {v : Value} {c : Con} (h : RdCon w v c) (hb : Below w.heap.size w w') : RdCon w' v c := by
  obtain ⟨u2, u3, u5, e, h2, h3, h5⟩ := h
  exact ⟨u2, u3, u5, e, h2.below hb, h3.below hb, h5.below hb⟩
theorem RdCons.below {w w' : World} {v : Value} {cs : List Con} (h : RdCons w v cs) (hb : Below w.heap.size w w') : RdCons w' v cs := by
  obtain ⟨a, cap, e, h1, h2, h3⟩ := h
  refine ⟨a, cap, e, h1, h2, ?_⟩
  rcases h3 with h3 | ⟨b, off, ea, h3⟩
  · exact .inl h3
  · refine .inr ⟨b, off, ea, fun i c hi => ?_⟩
    obtain ⟨u2, u3, u5, e0, e1, e2, e3, e4, r2, r3, r5⟩ := h3 i c hi
    have k : ∀ (p : Addr) (x : Value), w.cell? p = some x → w'.cell? p = some x := fun p x hp => (hb.cell (World.block_lt_of_cell? w _ hp)).trans hp
    exact ⟨u2, u3, u5, k _ _ e0, k _ _ e1, k _ _ e2, k _ _ e3, k _ _ e4, r2.below hb, r3.below hb, r5.below hb⟩

/-! ### From the reader's datum to these words -/
section
variable {H : Type} {enc : TypeId × Value → H} {w : World} {base : Nat} {held : Bool}
theorem rdInts_of_trod {n : Nat} {v : Value} {y : DataW H × List MemPlace} (h : DataW.trod enc Try.prog w base (fun _ => true) held n 29 [v] = some y) : ∃ xs, RdInts w v xs := by
  rcases open_ints Try.underlying29 Try.underlying3 (by kernel_rfl) h with ⟨hcs, _⟩ | ⟨x, l, c, zs, hcs, _, hl, hm, hz, _, hcell, hwz⟩
  · simp at hcs
    subst hcs
    exact ⟨[], none, 0, rfl, Nat.le_refl _, by simp [maxLen], .inl rfl⟩
  · simp at hcs
    subst hcs
    simp at hz
    have hlen : (zs.take l).length = l := by rw [List.length_take]; omega
    refine ⟨zs.take l, some x, c, by rw [hlen], by omega, hm, ?_⟩
    by_cases h0 : l = 0
    · exact .inl (by omega)
    · obtain ⟨b, off, spot⟩ := x
      have hc := hcell 0 (by omega)
      have hspot : spot = none := by simpa [Addr.add] using World.cell?_spot hc
      subst hspot
      refine .inr ⟨b, off, rfl, fun i hi => ?_⟩
      have := hcell i (by omega)
      rw [show (Addr.add ⟨b, off, none⟩ i) = ⟨b, off + i, none⟩ from by unfold Addr.add; split <;> simp_all] at this
      rw [this, List.getElem?_take_of_lt (by omega)]
      simp [List.getD]
theorem rdRows_of_trod {n : Nat} {v : Value} {y : DataW H × List MemPlace} (h : DataW.trod enc Try.prog w base (fun _ => true) held n 62 [v] = some y) : ∃ xs, RdRows w v xs := by
  rcases open_slice1 Try.underlying62 (by kernel_rfl) h with ⟨hcs, _⟩ | ⟨a, len, cap, m, k, V, D, Pl, hcs, hb, hl, hm, hmm, _, hx⟩
  · simp at hcs
    subst hcs
    exact ⟨[], none, 0, rfl, Nat.le_refl _, by simp [maxLen], .inl rfl⟩
  · simp at hcs hmm
    subst hcs hmm
    have each : ∀ r, r < m → ∃ xs, RdInts w (V r) xs := fun r hr => rdInts_of_trod (hx r hr).2
    obtain ⟨f, hf⟩ := choose_lt each
    have hlen : ((List.range len).map f).length = len := by simp
    refine ⟨(List.range len).map f, some a, m, by rw [hlen], by omega, hm, ?_⟩
    by_cases h0 : len = 0
    · exact .inl (by omega)
    · obtain ⟨b, off, spot⟩ := a
      have hc := (hx 0 (by omega)).1
      have hspot : spot = none := by simpa [Addr.add] using World.cell?_spot hc
      subst hspot
      refine .inr ⟨b, off, rfl, fun i hi => ?_⟩
      have hi' : i < len := by omega
      have := (hx i (by omega)).1
      rw [show (Addr.add ⟨b, off, none⟩ i) = ⟨b, off + i, none⟩ from by unfold Addr.add; split <;> simp_all] at this
      exact ⟨V i, this, by simpa [hi'] using hf i (by omega)⟩

/-- The cells of a struct whose fields take one cell each, field by field. -/
theorem cells_of_struct {P : Program} {n : Nat} {t : TypeId} {fs : Array Field} {cs : List Value} {y : DataW H × List MemPlace} {sp : Nat → Bool} (ht : P.underlying t = some (.struct fs)) (hone : oneCellFields P fs = true) (hC : P.cellsOf t = fs.size)
    (h : DataW.trod enc P w base sp held n t cs = some y) :
    cs.length = fs.size ∧ ∃ m, ∀ (j : Nat) (f : Field), fs[j]? = some f → ∃ v z, cs[j]? = some v ∧ DataW.trod enc P w base sp held m f.type [v] = some z := by
  obtain ⟨xs, m, _, _, hl, hx, hf⟩ := DataW.trod_struct ht h
  rw [hC] at hl
  refine ⟨hl, m, fun j f hj => ?_⟩
  have hjl : j < fs.size := (Array.getElem?_eq_some_iff.1 hj).1
  obtain ⟨ho, hk⟩ := hone_of hone j f hj
  have h1 := hf j f hj
  have hd : (cs.drop j).take 1 = [cs[j]'(by omega)] := by rw [List.drop_eq_getElem_cons (by omega)]; rfl
  rw [ho, hk, hd, List.getElem?_eq_getElem (by omega)] at h1
  exact ⟨_, _, List.getElem?_eq_getElem (by omega), h1⟩

end
end Go.Proofs.Ytelglccegkhfcaa

/-! Ranges and distinctness of lists, in both packages. -/
namespace Go.Proofs.Ytelglccegkhfcaa
open Go.ChangeShapes Go.WideShapes Go.ChangeAt Go.RowKit
set_option linter.unusedVariables false
set_option linter.unusedSimpArgs false

/-- Every number is between lo and hi. -/
def allB (xs : List Int) (lo hi : Int) : Bool := xs.all fun v => wiB v lo hi
theorem allB_true {xs : List Int} {lo hi : Int} (h : ∀ j, j < xs.length → wiB (xs[j]?.getD 0) lo hi = true) : allB xs lo hi = true := by
  unfold allB
  rw [List.all_eq_true]
  intro x hx
  obtain ⟨j, hj, rfl⟩ := List.mem_iff_getElem.1 hx
  simpa [hj] using h j hj
theorem allB_false {xs : List Int} {lo hi : Int} {j : Nat} (hj : j < xs.length) (h : wiB (xs[j]?.getD 0) lo hi = false) : allB xs lo hi = false := by
  unfold allB
  rw [List.all_eq_false]
  refine ⟨xs[j], List.getElem_mem hj, ?_⟩
  simpa [hj] using h
theorem allB_at {xs : List Int} {lo hi : Int} (h : allB xs lo hi = true) {j : Nat} (hj : j < xs.length) : lo ≤ xs[j]?.getD 0 ∧ xs[j]?.getD 0 ≤ hi := by
  unfold allB at h
  rw [List.all_eq_true] at h
  have := wiB_in (h xs[j] (List.getElem_mem hj))
  simpa [hj] using this

set_option maxRecDepth 100000 in
set_option maxHeartbeats 1000000 in
theorem allInRange_any (v : Value) (xs : List Int) (lo hi : Int) (w : World) (h : RdInts w v xs) :
    Calls Try.prog 121 #[v, .int .i64 lo, .int .i64 hi] w fun e w' => e = .returned (.bool (allB xs lo hi)) ∧ w = w' := by
  obtain ⟨a, cap, rfl, hl, hm, h⟩ := h
  obtain ⟨n, hn⟩ : ∃ n, n = xs.length := ⟨_, rfl⟩
  have HN := Lib.hid hn
  rw [← hn] at hl h ⊢
  clear hn
  unfold maxLen at hm
  go_enter Try.func121, Try.ntmps121
  go_wp2
  go_loop [7] (fun i => ∃ k : Nat, k ≤ n ∧ i = .int .i64 k ∧ Hid (∀ j, j < k → wiB (xs[j]?.getD 0) lo hi = true)) (fun i => n - (intOf i).toNat)
  case atStart => exact ⟨0, Nat.zero_le _, rfl, fun j hj => by omega⟩
  case round =>
    obtain ⟨k, hk, rfl, HE⟩ := hrel
    by_cases hlt : k < n
    · rcases h with h | ⟨b, off, rfl, g⟩
      · omega
      have q1 := g k hlt
      clear g
      cases hw : wiB (xs[k]?.getD 0) lo hi
      · have HF := Lib.hid (allB_false (by have := HN.out; omega) hw)
        go_wp2_with (go_at_call 91; refine (inRange_any _ _ _ _).mono ?_; rintro e w' ⟨rfl, rfl⟩)
        go_ret
        exact ⟨ret_bool HF.out.symm, rfl⟩
      · have HX := Lib.hid hw
        go_wp2_with (go_at_call 91; refine (inRange_any _ _ _ _).mono ?_; rintro e w' ⟨rfl, rfl⟩)
        go_round
        case rel => exact ⟨k + 1, by omega, by go_num, fun j hj => by by_cases e : j = k; (· subst e; exact HX.out); (· exact HE.out j (by omega))⟩
        case measure => simp [intOf]; omega
    · obtain rfl : k = n := by omega
      have HF := Lib.hid (allB_true (xs := xs) (lo := lo) (hi := hi) (fun j hj => HE.out j (by have := HN.out; omega)))
      clear h
      go_wp2
      go_ret
      exact ⟨ret_bool HF.out.symm, rfl⟩

set_option maxRecDepth 100000 in
set_option maxHeartbeats 1000000 in
theorem allWithin_any (v : Value) (xs : List Int) (lo hi : Int) (w : World) (h : RdInts w v xs) :
    Calls Try.prog 105 #[v, .int .i64 lo, .int .i64 hi] w fun e w' => e = .returned (.bool (allB xs lo hi)) ∧ w = w' := by
  obtain ⟨a, cap, rfl, hl, hm, h⟩ := h
  obtain ⟨n, hn⟩ : ∃ n, n = xs.length := ⟨_, rfl⟩
  have HN := Lib.hid hn
  rw [← hn] at hl h ⊢
  clear hn
  unfold maxLen at hm
  go_enter Try.func105, Try.ntmps105
  go_wp2
  go_loop [11] (fun i => ∃ k : Nat, k ≤ n ∧ i = .int .i64 k ∧ Hid (∀ j, j < k → wiB (xs[j]?.getD 0) lo hi = true)) (fun i => n - (intOf i).toNat)
  case atStart => exact ⟨0, Nat.zero_le _, rfl, fun j hj => by omega⟩
  case round =>
    obtain ⟨k, hk, rfl, HE⟩ := hrel
    by_cases hlt : k < n
    · rcases h with h | ⟨b, off, rfl, g⟩
      · omega
      have q1 := g k hlt
      clear g
      cases hw : wiB (xs[k]?.getD 0) lo hi
      · have HF := Lib.hid (allB_false (by have := HN.out; omega) hw)
        go_wp2_with (go_at_call 81; refine (within_any _ _ _ _).mono ?_; rintro e w' ⟨rfl, rfl⟩)
        go_ret
        exact ⟨ret_bool HF.out.symm, rfl⟩
      · have HX := Lib.hid hw
        go_wp2_with (go_at_call 81; refine (within_any _ _ _ _).mono ?_; rintro e w' ⟨rfl, rfl⟩)
        go_round
        case rel => exact ⟨k + 1, by omega, by go_num, fun j hj => by by_cases e : j = k; (· subst e; exact HX.out); (· exact HE.out j (by omega))⟩
        case measure => simp [intOf]; omega
    · obtain rfl : k = n := by omega
      have HF := Lib.hid (allB_true (xs := xs) (lo := lo) (hi := hi) (fun j hj => HE.out j (by have := HN.out; omega)))
      clear h
      go_wp2
      go_ret
      exact ⟨ret_bool HF.out.symm, rfl⟩

/-- No number occurs twice. -/
def dstB (xs : List Int) : Bool := decide (∀ i, i < xs.length → ∀ k, k < i → xs[i]?.getD 0 ≠ xs[k]?.getD 0)

/-- What distinct leaves. -/
def DstPost (xs : List Int) (w : World) (e : Ending) (w' : World) : Prop := e = .returned (.bool (dstB xs)) ∧ ∃ k, w' = w.drewN k

end Go.Proofs.Ytelglccegkhfcaa

/-! Distinct indices; rows of numbers in a range: in both packages. -/
namespace Go.Proofs.Ytelglccegkhfcaa
open Go.ChangeShapes Go.WideShapes Go.ChangeAt Go.RowKit
set_option linter.unusedVariables false
set_option linter.unusedSimpArgs false

theorem Try.info4 : (Try.prog.info? 4).map (fun i => (i.zero, i.size, i.bytes)) = some (some (.bool false), 1, 1) := by kernel_rfl

/-- What areDistinctIndices leaves. -/
def IdxPost (xs : List Int) (n : Nat) (w : World) (e : Ending) (w' : World) : Prop := e = .returned (.bool (allB xs 0 (n - 1) && dstB xs)) ∧ Below w.heap.size w w'

/-- The marks of the first k numbers. -/
def Seen (xs : List Int) (n k : Nat) (bs : List Bool) : Prop :=
  bs.length = n ∧ (∀ j, j < k → wiB (xs[j]?.getD 0) 0 (n - 1) = true) ∧ (∀ i, i < k → ∀ j, j < i → xs[i]?.getD 0 ≠ xs[j]?.getD 0) ∧ ∀ t : Nat, t < n → (bs[t]?.getD false = true ↔ ∃ j, j < k ∧ xs[j]?.getD 0 = (t : Int))

theorem seen_start (xs : List Int) (n : Nat) : Seen xs n 0 (List.replicate n false) := by
  refine ⟨by simp, fun j hj => by omega, fun i hi => by omega, fun t ht => ?_⟩
  simp [ht]

theorem seen_step {xs : List Int} {n k t : Nat} {bs : List Bool} (h : Seen xs n k bs) (ht : t < n) (hx : xs[k]?.getD 0 = (t : Int)) (hb : bs[t]?.getD false = false) : Seen xs n (k + 1) (bs.set t true) := by
  obtain ⟨h1, h2, h3, h4⟩ := h
  refine ⟨by simp [h1], fun j hj => ?_, fun i hi j hj => ?_, fun s hs => ?_⟩
  · by_cases e : j = k
    · subst e; rw [hx]; exact wiB_true (by omega) (by omega)
    · exact h2 j (by omega)
  · by_cases e : i = k
    · subst e
      intro e2
      have := (h4 t ht).2 ⟨j, hj, by rw [← e2]; exact hx⟩
      rw [hb] at this
      cases this
    · exact h3 i (by omega) j hj
  · by_cases e : s = t
    · subst e
      have : (bs.set s true)[s]?.getD false = true := by simp [List.getElem?_set, h1, hs]
      rw [this]
      exact ⟨fun _ => ⟨k, by omega, hx⟩, fun _ => rfl⟩
    · have : (bs.set t true)[s]?.getD false = bs[s]?.getD false := by rw [List.getElem?_set]; simp [Ne.symm e]
      rw [this, h4 s hs]
      constructor
      · rintro ⟨j, hj, e2⟩; exact ⟨j, by omega, e2⟩
      · rintro ⟨j, hj, e2⟩
        refine ⟨j, ?_, e2⟩
        by_cases e3 : j = k
        · subst e3; rw [hx] at e2; omega
        · omega

theorem dst_of_seen {xs : List Int} {n : Nat} {bs : List Bool} (h : Seen xs n xs.length bs) : (allB xs 0 (n - 1) && dstB xs) = true := by
  rw [allB_true h.2.1]
  simp only [Bool.true_and]
  exact decide_eq_true h.2.2.1
theorem dst_of_range {xs : List Int} {n k : Nat} (hk : k < xs.length) (h : wiB (xs[k]?.getD 0) 0 (n - 1) = false) : (allB xs 0 (n - 1) && dstB xs) = false := by rw [allB_false hk h]; rfl
theorem dst_of_twice {xs : List Int} {n k t : Nat} {bs : List Bool} (hk : k < xs.length) (h : Seen xs n k bs) (ht : t < n) (hx : xs[k]?.getD 0 = (t : Int)) (hb : bs[t]?.getD false = true) : (allB xs 0 (n - 1) && dstB xs) = false := by
  obtain ⟨j, hj, e⟩ := (h.2.2.2 t ht).1 hb
  rw [show dstB xs = false from decide_eq_false (fun d => d k hk j hj (by rw [hx, e]))]
  simp

theorem madeBools (n : Nat) : (madeCells (Value.cells (.bool false)) (n * 1)).toList = (List.replicate n false).map Value.bool := by
  have := toList_madeCells_one (.bool false) n
  simpa [Value.cells] using this

set_option maxRecDepth 100000 in
set_option maxHeartbeats 1000000 in
theorem areDistinct_any (v : Value) (xs : List Int) (n : Nat) (w : World) (h : RdInts w v xs) (hn8 : n ≤ 8) :
    Calls Try.prog 137 #[v, .int .i64 n] w (IdxPost xs n w) := by
  obtain ⟨a, cap, rfl, hl, hm, h⟩ := h
  obtain ⟨m, hmm⟩ : ∃ m, m = xs.length := ⟨_, rfl⟩
  have HN := Lib.hid hmm
  rw [← hmm] at hl h ⊢
  clear hmm
  unfold maxLen at hm
  obtain ⟨i0, hi, hz0, hz1, hz2⟩ := info_parts Try.info4
  go_enter Try.func137, Try.ntmps137
  go_wp2_with (at_make; refine wpList_make_full _ rfl _ _ 121 rfl w.heap.size 4 i0 (.bool false) 1 Try.underlying121 hi hz0 hz1 .i64 .i64 _ _ n rfl rfl rfl rfl (by rw [hz2]; omega) (by unfold maxLen; omega) (Nat.le_refl _) ?_; intro w1 hown hgrow)
  rw [madeBools] at hown
  have hb1 : Below w.heap.size w w1 := ⟨hgrow.os, hgrow.tape, hgrow.output, hgrow.size, fun k hk => hgrow.block k hk (by simp)⟩
  have HO := Lib.hid hown
  clear hown hgrow
  go_wp2
  go_loopw [12] (fun i wr => ∃ (k : Nat) (bs : List Bool), k ≤ m ∧ i = .int .i64 k ∧ Hid (wr.ownsRow w.heap.size 4 1 (.slice (some ⟨w.heap.size, 0, none⟩) n n) n (bs.map Value.bool)) ∧ Hid (Seen xs n k bs) ∧ Below w.heap.size w wr) (fun i _ => m - (intOf i).toNat)
  case atStart => exact ⟨0, _, Nat.zero_le _, rfl, HO, seen_start xs n, hb1⟩
  case round =>
    obtain ⟨k, bs, hk, rfl, HR, HS, hbel⟩ := hrel
    by_cases hlt : k < m
    · rcases h with h | ⟨b, off, rfl, g⟩
      · omega
      have q0 := g k hlt
      have q1 := (hbel.cell (p := ⟨b, off + k, none⟩) (World.block_lt_of_cell? w _ q0)).trans q0
      clear g q0
      cases hw : wiB (xs[k]?.getD 0) 0 (n - 1)
      · have HF := Lib.hid (dst_of_range (n := n) (by have := HN.out; omega) hw)
        go_wp2_with (go_at_call 81; refine (within_any _ _ _ _).mono ?_; rintro e w' ⟨rfl, rfl⟩)
        go_ret
        exact ⟨ret_bool HF.out.symm, hbel⟩
      · have hin := wiB_in hw
        obtain ⟨t, ht⟩ := Int.eq_ofNat_of_zero_le hin.1
        have htn : t < n := by omega
        rw [ht] at hw q1
        have hlen := HS.out.1
        have hc := HR.out.cellAt t (by omega)
        have hf := HR.out.frozenAt t
        obtain ⟨bt, hbt⟩ : ∃ bt, bs[t]? = some bt := ⟨_, List.getElem?_eq_getElem (by omega)⟩
        rw [List.getElem?_map, hbt] at hc
        have HB := Lib.hid (show bs[t]?.getD false = bt from by rw [hbt]; rfl)
        have HT := Lib.hid ht
        clear ht hin hlen hbt
        simp only [Option.map_some] at hc
        cases bt
        · have HS2 := Lib.hid (seen_step HS.out htn HT.out HB.out)
          have HR2 := Lib.hid (HR.out.stored t (.bool true))
          go_wp2_with (go_at_call 81; refine (within_any _ _ _ _).mono ?_; rintro e w' ⟨rfl, rfl⟩)
          go_roundw
          case rel =>
            refine ⟨k + 1, bs.set t true, by omega, by go_num, Lib.hid ?_, HS2, hbel.setCell (p := ⟨w.heap.size, t, none⟩) (Nat.le_refl _) _⟩
            rw [List.map_set]
            exact HR2.out.1
          case measure => simp [intOf]; omega
        · have HF := Lib.hid (dst_of_twice (by have := HN.out; omega) HS.out htn HT.out HB.out)
          go_wp2_with (go_at_call 81; refine (within_any _ _ _ _).mono ?_; rintro e w' ⟨rfl, rfl⟩)
          go_ret
          exact ⟨ret_bool HF.out.symm, hbel⟩
    · obtain rfl : k = m := by omega
      have HF := Lib.hid (dst_of_seen (xs := xs) (n := n) (bs := bs) (by rw [← HN.out]; exact HS.out))
      clear h
      go_wp2
      go_ret
      exact ⟨ret_bool HF.out.symm, hbel⟩

/-- Rows of length n with numbers between lo and hi. -/
def rowsB (rows : List (List Int)) (n lo hi : Int) : Bool := rows.all fun r => decide ((r.length : Int) = n) && allB r lo hi
theorem rowsB_true {rows : List (List Int)} {n lo hi : Int} (h : ∀ j, j < rows.length → ((rows[j]?.getD []).length : Int) = n ∧ allB (rows[j]?.getD []) lo hi = true) : rowsB rows n lo hi = true := by
  unfold rowsB
  rw [List.all_eq_true]
  intro x hx
  obtain ⟨j, hj, rfl⟩ := List.mem_iff_getElem.1 hx
  have := h j hj
  simp [hj] at this
  simp [this]
theorem rowsB_false {rows : List (List Int)} {n lo hi : Int} {j : Nat} (hj : j < rows.length) (h : ((rows[j]?.getD []).length : Int) ≠ n ∨ allB (rows[j]?.getD []) lo hi = false) : rowsB rows n lo hi = false := by
  unfold rowsB
  rw [List.all_eq_false]
  refine ⟨rows[j], List.getElem_mem hj, ?_⟩
  simp [hj] at h
  rcases h with h | h <;> simp [h]

set_option maxRecDepth 100000 in
set_option maxHeartbeats 1000000 in
theorem validRows_any (v : Value) (rows : List (List Int)) (n lo hi : Int) (w : World) (h : RdRows w v rows) :
    Calls Try.prog 135 #[v, .int .i64 n, .int .i64 lo, .int .i64 hi] w fun e w' => e = .returned (.bool (rowsB rows n lo hi && wiB rows.length 1 8)) ∧ w = w' := by
  obtain ⟨a, cap, rfl, hl, hm, h⟩ := h
  obtain ⟨m, hmm⟩ : ∃ m, m = rows.length := ⟨_, rfl⟩
  have HN := Lib.hid hmm
  rw [← hmm] at hl h ⊢
  clear hmm
  unfold maxLen at hm
  go_enter Try.func135, Try.ntmps135
  go_wp2
  go_loop [9] (fun i => ∃ k : Nat, k ≤ m ∧ i = .int .i64 k ∧ Hid (∀ j, j < k → ((rows[j]?.getD []).length : Int) = n ∧ allB (rows[j]?.getD []) lo hi = true)) (fun i => m - (intOf i).toNat)
  case atStart => exact ⟨0, Nat.zero_le _, rfl, fun j hj => by omega⟩
  case round =>
    obtain ⟨k, hk, rfl, HE⟩ := hrel
    by_cases hlt : k < m
    · rcases h with h | ⟨b, off, rfl, g⟩
      · omega
      obtain ⟨u, q1, hu⟩ := g k hlt
      clear g
      have hu0 := hu
      obtain ⟨a2, c2, eu, hl2, hm2, _⟩ := hu
      rw [eu] at q1 hu0
      clear eu
      have HU := Lib.hid hu0
      clear hu0
      unfold maxLen at hm2
      obtain ⟨r, hr⟩ : ∃ r, r = rows[k]?.getD [] := ⟨_, rfl⟩
      have HR := Lib.hid hr
      rw [← hr] at q1 HU hl2
      clear hr
      by_cases he : (r.length : Int) = n
      · have hb : ((r.length : Int) != n) = false := by simp [he]
        have HL := Lib.hid he
        clear he
        cases hw : allB r lo hi
        · have HF := Lib.hid (show (rowsB rows n lo hi && wiB m 1 8) = false from by rw [rowsB_false (j := k) (by have := HN.out; omega) (.inr (by rw [← HR.out]; exact hw))]; rfl)
          go_wp2_with (go_at_call 121; refine (allInRange_any _ r _ _ _ HU.out).mono ?_; rintro e w' ⟨rfl, rfl⟩)
          go_ret
          exact ⟨ret_bool HF.out.symm, rfl⟩
        · have HW := Lib.hid hw
          go_wp2_with (go_at_call 121; refine (allInRange_any _ r _ _ _ HU.out).mono ?_; rintro e w' ⟨rfl, rfl⟩)
          go_round
          case rel => exact ⟨k + 1, by omega, by go_num, fun j hj => by by_cases e : j = k; (· subst e; rw [← HR.out]; exact ⟨HL.out, HW.out⟩); (· exact HE.out j (by omega))⟩
          case measure => simp [intOf]; omega
      · have hb : ((r.length : Int) != n) = true := by simp [he]
        have HF := Lib.hid (show (rowsB rows n lo hi && wiB m 1 8) = false from by rw [rowsB_false (j := k) (by have := HN.out; omega) (.inl (by rw [← HR.out]; exact he))]; rfl)
        clear he
        go_wp2
        go_ret
        exact ⟨ret_bool HF.out.symm, rfl⟩
    · obtain rfl : k = m := by omega
      have HF := Lib.hid (rowsB_true (rows := rows) (n := n) (lo := lo) (hi := hi) (fun j hj => HE.out j (by have := HN.out; omega)))
      clear h
      go_wp2_with (go_at_call 91; refine (inRange_any _ _ _ _).mono ?_; rintro e w' ⟨rfl, rfl⟩)
      go_ret
      exact ⟨ret_bool (by rw [HF.out]; rfl), rfl⟩

set_option maxRecDepth 100000 in
set_option maxHeartbeats 1000000 in
theorem listsWithin_any (v : Value) (rows : List (List Int)) (n lo hi : Int) (w : World) (h : RdRows w v rows) :
    Calls Try.prog 168 #[v, .int .i64 n, .int .i64 lo, .int .i64 hi] w fun e w' => e = .returned (.bool (rowsB rows n lo hi)) ∧ w = w' := by
  obtain ⟨a, cap, rfl, hl, hm, h⟩ := h
  obtain ⟨m, hmm⟩ : ∃ m, m = rows.length := ⟨_, rfl⟩
  have HN := Lib.hid hmm
  rw [← hmm] at hl h ⊢
  clear hmm
  unfold maxLen at hm
  go_enter Try.func168, Try.ntmps168
  go_wp2
  go_loop [13] (fun i => ∃ k : Nat, k ≤ m ∧ i = .int .i64 k ∧ Hid (∀ j, j < k → ((rows[j]?.getD []).length : Int) = n ∧ allB (rows[j]?.getD []) lo hi = true)) (fun i => m - (intOf i).toNat)
  case atStart => exact ⟨0, Nat.zero_le _, rfl, fun j hj => by omega⟩
  case round =>
    obtain ⟨k, hk, rfl, HE⟩ := hrel
    by_cases hlt : k < m
    · rcases h with h | ⟨b, off, rfl, g⟩
      · omega
      obtain ⟨u, q1, hu⟩ := g k hlt
      clear g
      have hu0 := hu
      obtain ⟨a2, c2, eu, hl2, hm2, _⟩ := hu
      rw [eu] at q1 hu0
      clear eu
      have HU := Lib.hid hu0
      clear hu0
      unfold maxLen at hm2
      obtain ⟨r, hr⟩ : ∃ r, r = rows[k]?.getD [] := ⟨_, rfl⟩
      have HR := Lib.hid hr
      rw [← hr] at q1 HU hl2
      clear hr
      by_cases he : (r.length : Int) = n
      · have hb : ((r.length : Int) != n) = false := by simp [he]
        have HL := Lib.hid he
        clear he
        cases hw : allB r lo hi
        · have HF := Lib.hid (show rowsB rows n lo hi = false from rowsB_false (j := k) (by have := HN.out; omega) (.inr (by rw [← HR.out]; exact hw)))
          go_wp2_with (go_at_call 105; refine (allWithin_any _ r _ _ _ HU.out).mono ?_; rintro e w' ⟨rfl, rfl⟩)
          go_ret
          exact ⟨ret_bool HF.out.symm, rfl⟩
        · have HW := Lib.hid hw
          go_wp2_with (go_at_call 105; refine (allWithin_any _ r _ _ _ HU.out).mono ?_; rintro e w' ⟨rfl, rfl⟩)
          go_round
          case rel => exact ⟨k + 1, by omega, by go_num, fun j hj => by by_cases e : j = k; (· subst e; rw [← HR.out]; exact ⟨HL.out, HW.out⟩); (· exact HE.out j (by omega))⟩
          case measure => simp [intOf]; omega
      · have hb : ((r.length : Int) != n) = true := by simp [he]
        have HF := Lib.hid (show rowsB rows n lo hi = false from rowsB_false (j := k) (by have := HN.out; omega) (.inl (by rw [← HR.out]; exact he)))
        clear he
        go_wp2
        go_ret
        exact ⟨ret_bool HF.out.symm, rfl⟩
    · obtain rfl : k = m := by omega
      have HF := Lib.hid (rowsB_true (rows := rows) (n := n) (lo := lo) (hi := hi) (fun j hj => HE.out j (by have := HN.out; omega)))
      clear h
      go_wp2
      go_ret
      exact ⟨ret_bool HF.out.symm, rfl⟩

set_option maxRecDepth 100000 in
set_option maxHeartbeats 1000000 in
theorem rowsWithin_any (v : Value) (rows : List (List Int)) (n lo hi : Int) (w : World) (h : RdRows w v rows) :
    Calls Try.prog 136 #[v, .int .i64 n, .int .i64 lo, .int .i64 hi] w fun e w' => e = .returned (.bool (rowsB rows n lo hi && wiB rows.length 1 8)) ∧ w = w' := by
  have HL := Lib.hid (listsWithin_any v rows n lo hi w h)
  obtain ⟨a, cap, rfl, hl, hm, h⟩ := h
  obtain ⟨m, hmm⟩ : ∃ m, m = rows.length := ⟨_, rfl⟩
  have HN := Lib.hid hmm
  rw [← hmm] at hl HL ⊢
  clear hmm h
  unfold maxLen at hm
  cases hwl : wiB m 1 8
  · go_enter Try.func136, Try.ntmps136
    go_wp2_with (go_at_call 81; refine (within_any _ _ _ _).mono ?_; rintro e w' ⟨rfl, rfl⟩)
    go_ret
    exact ⟨ret_bool (by simp), rfl⟩
  · rw [Bool.and_true]
    go_enter Try.func136, Try.ntmps136
    go_wp2_with (first | (go_at_call 81; refine (within_any _ _ _ _).mono ?_; rintro e w' ⟨rfl, rfl⟩) | (go_at_call 168; refine HL.out.mono ?_; rintro e w' ⟨rfl, rfl⟩))
    go_ret
    exact ⟨ret_bool rfl, rfl⟩
end Go.Proofs.Ytelglccegkhfcaa

/-! spec.validConstraint: what it returns for each kind of constraint; one walk for each way through its tests. -/
namespace Go.Proofs.Ytelglccegkhfcaa
open Go.ChangeShapes Go.WideShapes Go.ChangeAt Go.RowKit
set_option linter.unusedVariables false
set_option linter.unusedSimpArgs false

theorem RdInts.drewN {w : World} {v : Value} {xs : List Int} (h : RdInts w v xs) (k : Nat) : RdInts (w.drewN k) v xs := h
theorem RdRows.drewN {w : World} {v : Value} {xs : List (List Int)} (h : RdRows w v xs) (k : Nat) : RdRows (w.drewN k) v xs := h
theorem below_drewN {B : Nat} {a w : World} (h : Below B a w) (k : Nat) : Below B a (w.drewN k) := ⟨h.os, h.tape, h.output, h.size, h.block⟩
theorem validRows_at (a : Option Addr) (nr cap : Nat) (rows : List (List Int)) (n lo hi : Int) (w : World) (h : RdRows w (.slice a nr cap) rows) :
    Calls Try.prog 135 #[.slice a nr cap, .int .i64 n, .int .i64 lo, .int .i64 hi] w fun e w' => e = .returned (.bool (rowsB rows n lo hi && wiB nr 1 8)) ∧ w = w' := by
  obtain rfl : nr = rows.length := by obtain ⟨_, _, e, _⟩ := h; simp at e; exact e.2.1
  exact validRows_any _ rows n lo hi w h
/-- A test's answer, and nothing that was there has changed. -/
def BoolPost (b : Bool) (w : World) (e : Ending) (w' : World) : Prop := e = .returned (.bool b) ∧ Below w.heap.size w w'
end Go.Proofs.Ytelglccegkhfcaa
