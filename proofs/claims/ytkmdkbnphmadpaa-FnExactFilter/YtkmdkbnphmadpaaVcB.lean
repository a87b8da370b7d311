/- Distinct indices; rows of numbers in a range: in both packages. -/
import Derived.Test.YtkmdkbnphmadpaaVcA
namespace Go.Proofs.Ytkmdkbnphmadpaa
open Go.ChangeShapes Go.WideShapes Go.ChangeAt Go.RowKit
set_option linter.unusedVariables false
set_option linter.unusedSimpArgs false

theorem Try.info4 : (Try.prog.info? 4).map (fun i => (i.zero, i.size, i.bytes)) = some (some (.bool false), 1, 1) := by kernel_rfl

/-- What areDistinctIndices leaves. -/
def IdxPost (xs : List Int) (n : Nat) (w : World) (e : Ending) (w' : World) : Prop := e = .returned (.bool (allB xs 0 (n - 1) && dstB xs)) ∧ Below w.heap.size w w'

/-- The marks of the first k numbers. -/
def Seen (xs : List Int) (n k : Nat) (bs : List Bool) : Prop :=
  bs.length = n ∧ (∀ j, j < k → wiB (xs[j]?.getD 0) 0 (n - 1) = true) ∧ (∀ i, i < k → ∀ j, j < i → xs[i]?.getD 0 ≠ xs[j]?.getD 0) ∧ ∀ t : Nat, t < n → (bs[t]?.getD false = true ↔ ∃ j, j < k ∧ xs[j]?.getD 0 = (t : Int))

theorem seen_start (xs : List Int) (n : Nat) : Seen xs n 0 (List.replicate n false) := by
  refine ⟨by simp, fun j hj => by omega, fun i hi => by omega, fun t ht => ?_⟩
  simp [ht]

theorem seen_step {xs : List Int} {n k t : Nat} {bs : List Bool} (h : Seen xs n k bs) (ht : t < n) (hx : xs[k]?.getD 0 = (t : Int)) (hb : bs[t]?.getD false = false) : Seen xs n (k + 1) (bs.set t true) := by
  obtain ⟨h1, h2, h3, h4⟩ := h
  refine ⟨by simp [h1], fun j hj => ?_, fun i hi j hj => ?_, fun s hs => ?_⟩
  · by_cases e : j = k
    · subst e; rw [hx]; exact wiB_true (by omega) (by omega)
    · exact h2 j (by omega)
  · by_cases e : i = k
    · subst e
      intro e2
      have := (h4 t ht).2 ⟨j, hj, by rw [← e2]; exact hx⟩
      rw [hb] at this
      cases this
    · exact h3 i (by omega) j hj
  · by_cases e : s = t
    · subst e
      have : (bs.set s true)[s]?.getD false = true := by simp [List.getElem?_set, h1, hs]
      rw [this]
      exact ⟨fun _ => ⟨k, by omega, hx⟩, fun _ => rfl⟩
    · have : (bs.set t true)[s]?.getD false = bs[s]?.getD false := by rw [List.getElem?_set]; simp [Ne.symm e]
      rw [this, h4 s hs]
      constructor
      · rintro ⟨j, hj, e2⟩; exact ⟨j, by omega, e2⟩
      · rintro ⟨j, hj, e2⟩
        refine ⟨j, ?_, e2⟩
        by_cases e3 : j = k
        · subst e3; rw [hx] at e2; omega
        · omega

theorem dst_of_seen {xs : List Int} {n : Nat} {bs : List Bool} (h : Seen xs n xs.length bs) : (allB xs 0 (n - 1) && dstB xs) = true := by
  rw [allB_true h.2.1]
  simp only [Bool.true_and]
  exact decide_eq_true h.2.2.1
theorem dst_of_range {xs : List Int} {n k : Nat} (hk : k < xs.length) (h : wiB (xs[k]?.getD 0) 0 (n - 1) = false) : (allB xs 0 (n - 1) && dstB xs) = false := by rw [allB_false hk h]; rfl
theorem dst_of_twice {xs : List Int} {n k t : Nat} {bs : List Bool} (hk : k < xs.length) (h : Seen xs n k bs) (ht : t < n) (hx : xs[k]?.getD 0 = (t : Int)) (hb : bs[t]?.getD false = true) : (allB xs 0 (n - 1) && dstB xs) = false := by
  obtain ⟨j, hj, e⟩ := (h.2.2.2 t ht).1 hb
  rw [show dstB xs = false from decide_eq_false (fun d => d k hk j hj (by rw [hx, e]))]
  simp

theorem madeBools (n : Nat) : (madeCells (Value.cells (.bool false)) (n * 1)).toList = (List.replicate n false).map Value.bool := by
  have := toList_madeCells_one (.bool false) n
  simpa [Value.cells] using this

set_option maxRecDepth 100000 in
set_option maxHeartbeats 1000000 in
theorem areDistinct_any (v : Value) (xs : List Int) (n : Nat) (w : World) (h : RdInts w v xs) (hn8 : n ≤ 8) :
    Calls Try.prog 61 #[v, .int .i64 n] w (IdxPost xs n w) := by
  obtain ⟨a, cap, rfl, hl, hm, h⟩ := h
  obtain ⟨m, hmm⟩ : ∃ m, m = xs.length := ⟨_, rfl⟩
  have HN := Lib.hid hmm
  rw [← hmm] at hl h ⊢
  clear hmm
  unfold maxLen at hm
  obtain ⟨i0, hi, hz0, hz1, hz2⟩ := info_parts Try.info4
  go_enter Try.func61, Try.ntmps61
  go_wp2_with (at_make; refine wpList_make_full _ rfl _ _ 115 rfl w.heap.size 4 i0 (.bool false) 1 Try.underlying115 hi hz0 hz1 .i64 .i64 _ _ n rfl rfl rfl rfl (by rw [hz2]; omega) (by unfold maxLen; omega) (Nat.le_refl _) ?_; intro w1 hown hgrow)
  rw [madeBools] at hown
  have hb1 : Below w.heap.size w w1 := ⟨hgrow.os, hgrow.tape, hgrow.output, hgrow.size, fun k hk => hgrow.block k hk (by simp)⟩
  have HO := Lib.hid hown
  clear hown hgrow
  go_wp2
  go_loopw [12] (fun i wr => ∃ (k : Nat) (bs : List Bool), k ≤ m ∧ i = .int .i64 k ∧ Hid (wr.ownsRow w.heap.size 4 1 (.slice (some ⟨w.heap.size, 0, none⟩) n n) n (bs.map Value.bool)) ∧ Hid (Seen xs n k bs) ∧ Below w.heap.size w wr) (fun i _ => m - (intOf i).toNat)
  case atStart => exact ⟨0, _, Nat.zero_le _, rfl, HO, seen_start xs n, hb1⟩
  case round =>
    obtain ⟨k, bs, hk, rfl, HR, HS, hbel⟩ := hrel
    by_cases hlt : k < m
    · rcases h with h | ⟨b, off, rfl, g⟩
      · omega
      have q0 := g k hlt
      have q1 := (hbel.cell (p := ⟨b, off + k, none⟩) (World.block_lt_of_cell? w _ q0)).trans q0
      clear g q0
      cases hw : wiB (xs[k]?.getD 0) 0 (n - 1)
      · have HF := Lib.hid (dst_of_range (n := n) (by have := HN.out; omega) hw)
        go_wp2_with (go_at_call 60; refine (within_any _ _ _ _).mono ?_; rintro e w' ⟨rfl, rfl⟩)
        go_ret
        exact ⟨ret_bool HF.out.symm, hbel⟩
      · have hin := wiB_in hw
        obtain ⟨t, ht⟩ := Int.eq_ofNat_of_zero_le hin.1
        have htn : t < n := by omega
        rw [ht] at hw q1
        have hlen := HS.out.1
        have hc := HR.out.cellAt t (by omega)
        have hf := HR.out.frozenAt t
        obtain ⟨bt, hbt⟩ : ∃ bt, bs[t]? = some bt := ⟨_, List.getElem?_eq_getElem (by omega)⟩
        rw [List.getElem?_map, hbt] at hc
        have HB := Lib.hid (show bs[t]?.getD false = bt from by rw [hbt]; rfl)
        have HT := Lib.hid ht
        clear ht hin hlen hbt
        simp only [Option.map_some] at hc
        cases bt
        · have HS2 := Lib.hid (seen_step HS.out htn HT.out HB.out)
          have HR2 := Lib.hid (HR.out.stored t (.bool true))
          go_wp2_with (go_at_call 60; refine (within_any _ _ _ _).mono ?_; rintro e w' ⟨rfl, rfl⟩)
          go_roundw
          case rel =>
            refine ⟨k + 1, bs.set t true, by omega, by go_num, Lib.hid ?_, HS2, hbel.setCell (p := ⟨w.heap.size, t, none⟩) (Nat.le_refl _) _⟩
            rw [List.map_set]
            exact HR2.out.1
          case measure => simp [intOf]; omega
        · have HF := Lib.hid (dst_of_twice (by have := HN.out; omega) HS.out htn HT.out HB.out)
          go_wp2_with (go_at_call 60; refine (within_any _ _ _ _).mono ?_; rintro e w' ⟨rfl, rfl⟩)
          go_ret
          exact ⟨ret_bool HF.out.symm, hbel⟩
    · obtain rfl : k = m := by omega
      have HF := Lib.hid (dst_of_seen (xs := xs) (n := n) (bs := bs) (by rw [← HN.out]; exact HS.out))
      clear h
      go_wp2
      go_ret
      exact ⟨ret_bool HF.out.symm, hbel⟩

/-- Rows of length n with numbers between lo and hi. -/
def rowsB (rows : List (List Int)) (n lo hi : Int) : Bool := rows.all fun r => decide ((r.length : Int) = n) && allB r lo hi
theorem rowsB_true {rows : List (List Int)} {n lo hi : Int} (h : ∀ j, j < rows.length → ((rows[j]?.getD []).length : Int) = n ∧ allB (rows[j]?.getD []) lo hi = true) : rowsB rows n lo hi = true := by
  unfold rowsB
  rw [List.all_eq_true]
  intro x hx
  obtain ⟨j, hj, rfl⟩ := List.mem_iff_getElem.1 hx
  have := h j hj
  simp [hj] at this
  simp [this]
theorem rowsB_false {rows : List (List Int)} {n lo hi : Int} {j : Nat} (hj : j < rows.length) (h : ((rows[j]?.getD []).length : Int) ≠ n ∨ allB (rows[j]?.getD []) lo hi = false) : rowsB rows n lo hi = false := by
  unfold rowsB
  rw [List.all_eq_false]
  refine ⟨rows[j], List.getElem_mem hj, ?_⟩
  simp [hj] at h
  rcases h with h | h <;> simp [h]

set_option maxRecDepth 100000 in
set_option maxHeartbeats 1000000 in
theorem validRows_any (v : Value) (rows : List (List Int)) (n lo hi : Int) (w : World) (h : RdRows w v rows) :
    Calls Try.prog 113 #[v, .int .i64 n, .int .i64 lo, .int .i64 hi] w fun e w' => e = .returned (.bool (rowsB rows n lo hi && wiB rows.length 1 8)) ∧ w = w' := by
  obtain ⟨a, cap, rfl, hl, hm, h⟩ := h
  obtain ⟨m, hmm⟩ : ∃ m, m = rows.length := ⟨_, rfl⟩
  have HN := Lib.hid hmm
  rw [← hmm] at hl h ⊢
  clear hmm
  unfold maxLen at hm
  go_enter Try.func113, Try.ntmps113
  go_wp2
  go_loop [9] (fun i => ∃ k : Nat, k ≤ m ∧ i = .int .i64 k ∧ Hid (∀ j, j < k → ((rows[j]?.getD []).length : Int) = n ∧ allB (rows[j]?.getD []) lo hi = true)) (fun i => m - (intOf i).toNat)
  case atStart => exact ⟨0, Nat.zero_le _, rfl, fun j hj => by omega⟩
  case round =>
    obtain ⟨k, hk, rfl, HE⟩ := hrel
    by_cases hlt : k < m
    · rcases h with h | ⟨b, off, rfl, g⟩
      · omega
      obtain ⟨u, q1, hu⟩ := g k hlt
      clear g
      have hu0 := hu
      obtain ⟨a2, c2, eu, hl2, hm2, _⟩ := hu
      rw [eu] at q1 hu0
      clear eu
      have HU := Lib.hid hu0
      clear hu0
      unfold maxLen at hm2
      obtain ⟨r, hr⟩ : ∃ r, r = rows[k]?.getD [] := ⟨_, rfl⟩
      have HR := Lib.hid hr
      rw [← hr] at q1 HU hl2
      clear hr
      by_cases he : (r.length : Int) = n
      · have hb : ((r.length : Int) != n) = false := by simp [he]
        have HL := Lib.hid he
        clear he
        cases hw : allB r lo hi
        · have HF := Lib.hid (show (rowsB rows n lo hi && wiB m 1 8) = false from by rw [rowsB_false (j := k) (by have := HN.out; omega) (.inr (by rw [← HR.out]; exact hw))]; rfl)
          go_wp2_with (go_at_call 89; refine (allInRange_any _ r _ _ _ HU.out).mono ?_; rintro e w' ⟨rfl, rfl⟩)
          go_ret
          exact ⟨ret_bool HF.out.symm, rfl⟩
        · have HW := Lib.hid hw
          go_wp2_with (go_at_call 89; refine (allInRange_any _ r _ _ _ HU.out).mono ?_; rintro e w' ⟨rfl, rfl⟩)
          go_round
          case rel => exact ⟨k + 1, by omega, by go_num, fun j hj => by by_cases e : j = k; (· subst e; rw [← HR.out]; exact ⟨HL.out, HW.out⟩); (· exact HE.out j (by omega))⟩
          case measure => simp [intOf]; omega
      · have hb : ((r.length : Int) != n) = true := by simp [he]
        have HF := Lib.hid (show (rowsB rows n lo hi && wiB m 1 8) = false from by rw [rowsB_false (j := k) (by have := HN.out; omega) (.inl (by rw [← HR.out]; exact he))]; rfl)
        clear he
        go_wp2
        go_ret
        exact ⟨ret_bool HF.out.symm, rfl⟩
    · obtain rfl : k = m := by omega
      have HF := Lib.hid (rowsB_true (rows := rows) (n := n) (lo := lo) (hi := hi) (fun j hj => HE.out j (by have := HN.out; omega)))
      clear h
      go_wp2_with (go_at_call 57; refine (inRange_any _ _ _ _).mono ?_; rintro e w' ⟨rfl, rfl⟩)
      go_ret
      exact ⟨ret_bool (by rw [HF.out]; rfl), rfl⟩

set_option maxRecDepth 100000 in
set_option maxHeartbeats 1000000 in
theorem rowsWithin_any (v : Value) (rows : List (List Int)) (n lo hi : Int) (w : World) (h : RdRows w v rows) :
    Calls Try.prog 184 #[v, .int .i64 n, .int .i64 lo, .int .i64 hi] w fun e w' => e = .returned (.bool (rowsB rows n lo hi && wiB rows.length 1 8)) ∧ w = w' := by
  obtain ⟨a, cap, rfl, hl, hm, h⟩ := h
  obtain ⟨m, hmm⟩ : ∃ m, m = rows.length := ⟨_, rfl⟩
  have HN := Lib.hid hmm
  rw [← hmm] at hl h ⊢
  clear hmm
  unfold maxLen at hm
  cases hwl : wiB m 1 8
  · go_enter Try.func184, Try.ntmps184
    go_wp2_with (go_at_call 60; refine (within_any _ _ _ _).mono ?_; rintro e w' ⟨rfl, rfl⟩)
    go_ret
    exact ⟨ret_bool (by simp), rfl⟩
  · rw [Bool.and_true]
    go_enter Try.func184, Try.ntmps184
    go_wp2_with (go_at_call 60; refine (within_any _ _ _ _).mono ?_; rintro e w' ⟨rfl, rfl⟩)
    go_loop [17] (fun i => ∃ k : Nat, k ≤ m ∧ i = .int .i64 k ∧ Hid (∀ j, j < k → ((rows[j]?.getD []).length : Int) = n ∧ allB (rows[j]?.getD []) lo hi = true)) (fun i => m - (intOf i).toNat)
    case atStart => exact ⟨0, Nat.zero_le _, rfl, fun j hj => by omega⟩
    case round =>
      obtain ⟨k, hk, rfl, HE⟩ := hrel
      by_cases hlt : k < m
      · rcases h with h | ⟨b, off, rfl, g⟩
        · omega
        obtain ⟨u, q1, hu⟩ := g k hlt
        clear g
        have hu0 := hu
        obtain ⟨a2, c2, eu, hl2, hm2, _⟩ := hu
        rw [eu] at q1 hu0
        clear eu
        have HU := Lib.hid hu0
        clear hu0
        unfold maxLen at hm2
        obtain ⟨r, hr⟩ : ∃ r, r = rows[k]?.getD [] := ⟨_, rfl⟩
        have HR := Lib.hid hr
        rw [← hr] at q1 HU hl2
        clear hr
        by_cases he : (r.length : Int) = n
        · have hb : ((r.length : Int) != n) = false := by simp [he]
          have HL := Lib.hid he
          clear he
          cases hw : allB r lo hi
          · have HF := Lib.hid (show rowsB rows n lo hi = false from rowsB_false (j := k) (by have := HN.out; omega) (.inr (by rw [← HR.out]; exact hw)))
            go_wp2_with (go_at_call 115; refine (allWithin_any _ r _ _ _ HU.out).mono ?_; rintro e w' ⟨rfl, rfl⟩)
            go_ret
            exact ⟨ret_bool HF.out.symm, rfl⟩
          · have HW := Lib.hid hw
            go_wp2_with (go_at_call 115; refine (allWithin_any _ r _ _ _ HU.out).mono ?_; rintro e w' ⟨rfl, rfl⟩)
            go_round
            case rel => exact ⟨k + 1, by omega, by go_num, fun j hj => by by_cases e : j = k; (· subst e; rw [← HR.out]; exact ⟨HL.out, HW.out⟩); (· exact HE.out j (by omega))⟩
            case measure => simp [intOf]; omega
        · have hb : ((r.length : Int) != n) = true := by simp [he]
          have HF := Lib.hid (show rowsB rows n lo hi = false from rowsB_false (j := k) (by have := HN.out; omega) (.inl (by rw [← HR.out]; exact he)))
          clear he
          go_wp2
          go_ret
          exact ⟨ret_bool HF.out.symm, rfl⟩
      · obtain rfl : k = m := by omega
        have HF := Lib.hid (rowsB_true (rows := rows) (n := n) (lo := lo) (hi := hi) (fun j hj => HE.out j (by have := HN.out; omega)))
        clear h
        go_wp2
        go_ret
        exact ⟨ret_bool HF.out.symm, rfl⟩
end Go.Proofs.Ytkmdkbnphmadpaa
