/- The program's worklist: a queue of numbers, a slice that is cut at its head and grown at its end. The program's iterator over the items of a worklist. -/
import Derived.Test.YtipapmmjfoaddaaEngI
import Derived.ArgAppend
import Derived.RegionTactic

/-! The program's worklist: a queue of numbers, a slice that is cut at its head and grown at its end. -/
namespace Go.Proofs.Ytipapmmjfoaddaa
open Go.ChangeShapes Go.WideShapes Go.ChangeAt Go.RowKit Go.Shelf
set_option linter.unusedVariables false
set_option linter.unusedSimpArgs false

/-- A slice of numbers whose block meets Bk. -/
def QRow (Bk : Nat → Prop) (w : World) (v : Value) (xs : List Int) : Prop :=
  (v = .slice none 0 0 ∧ xs = []) ∨ ∃ (b off cap : Nat) (cur : Array Value), v = .slice (some ⟨b, off, none⟩) xs.length cap ∧ Bk b ∧ w.heap[b]? = some (.cells cur 3 (0, 0)) ∧ xs.length ≤ cap ∧ off + cap ≤ cur.size ∧ cur.size ≤ maxLen ∧ ∀ i, i < xs.length → cur[off + i]? = some (.int .i64 (xs[i]?.getD 0))
theorem QRow.slice {Bk : Nat → Prop} {w : World} {v : Value} {xs : List Int} (h : QRow Bk w v xs) : ∃ a c, v = .slice a xs.length c ∧ xs.length ≤ c ∧ c ≤ 9223372036854775807 := by
  rcases h with ⟨e, rfl⟩ | ⟨b, off, cap, cur, e, _, _, h1, h2, h3, _⟩
  · exact ⟨_, _, e, by simp, by omega⟩
  · unfold maxLen at h3
    exact ⟨_, _, e, h1, by omega⟩
theorem QRow.rd {Bk : Nat → Prop} {w : World} {v : Value} {xs : List Int} (h : QRow Bk w v xs) : RdInts w v xs := by
  rcases h with ⟨rfl, rfl⟩ | ⟨b, off, cap, cur, rfl, _, hb, h1, h2, h3, h4⟩
  · exact ⟨none, 0, rfl, by simp, by unfold maxLen; omega, .inl rfl⟩
  · refine ⟨_, _, rfl, h1, by omega, .inr ⟨b, off, rfl, fun i hi => ?_⟩⟩
    simp only [World.cell?, hb]
    exact h4 i hi
theorem QRow.keep {Bk : Nat → Prop} {w w' : World} {v : Value} {xs : List Int} (h : QRow Bk w v xs) (hk : ∀ b, Bk b → b < w.heap.size → w'.heap[b]? = w.heap[b]?) : QRow Bk w' v xs := by
  rcases h with h | ⟨b, off, cap, cur, e, h0, hb, h1⟩
  · exact .inl h
  · exact .inr ⟨b, off, cap, cur, e, h0, (hk b h0 (Array.getElem?_eq_some_iff.1 hb).1).trans hb, h1⟩
theorem QRow.imp {Bk Bk' : Nat → Prop} {w : World} {v : Value} {xs : List Int} (h : QRow Bk w v xs) (hi : ∀ b, Bk b → b < w.heap.size → Bk' b) : QRow Bk' w v xs := by
  rcases h with h | ⟨b, off, cap, cur, e, h0, hb, h1⟩
  · exact .inl h
  · exact .inr ⟨b, off, cap, cur, e, hi b h0 (Array.getElem?_eq_some_iff.1 hb).1, hb, h1⟩
theorem QRow.tail {Bk : Nat → Prop} {w : World} {v : Value} {x : Int} {xs : List Int} (h : QRow Bk w v (x :: xs)) :
    ∃ b off cap, v = .slice (some ⟨b, off, none⟩) (xs.length + 1) (cap + 1) ∧ xs.length ≤ cap ∧ cap + 1 ≤ 9223372036854775807 ∧ w.cell? ⟨b, off, none⟩ = some (.int .i64 x) ∧ QRow Bk w (.slice (some (if cap = 0 then ⟨b, off, none⟩ else ⟨b, off + 1, none⟩)) xs.length cap) xs := by
  rcases h with ⟨_, h⟩ | ⟨b, off, cap, cur, e, h0, hb, h1, h2, h3, h4⟩
  · cases h
  · simp at h1 e
    obtain ⟨cap, rfl⟩ : ∃ c, cap = c + 1 := ⟨cap - 1, by omega⟩
    refine ⟨b, off, cap, e, by omega, by unfold maxLen at h3; omega, ?_, ?_⟩
    · simp only [World.cell?, hb]
      simpa using h4 0 (by simp)
    · by_cases hc : cap = 0
      · rw [if_pos hc]
        have hx : xs = [] := List.eq_nil_of_length_eq_zero (by omega)
        exact .inr ⟨b, off, cap, cur, rfl, h0, hb, by omega, by omega, h3, fun i hi => by rw [hx] at hi; simp at hi⟩
      · rw [if_neg hc]
        refine .inr ⟨b, off + 1, cap, cur, rfl, h0, hb, by omega, by omega, h3, fun i hi => ?_⟩
        have := h4 (i + 1) (by simp; omega)
        rw [show off + 1 + i = off + (i + 1) from by omega, this]
        simp
theorem qrow_of_own {Bk : Nat → Prop} {w : World} {B : Nat} {v : Value} {xs : List Int} (h : w.ownsRow B 3 1 v xs.length (xs.map (Value.int .i64))) (hB : ∀ b, B ≤ b → Bk b) : QRow Bk w v xs := by
  rcases h.2 with ⟨e, h0⟩ | ⟨g, cap, cur, e, hg, hc, h1, h2, h3, h4⟩
  · exact .inl ⟨e, List.eq_nil_of_length_eq_zero h0⟩
  · refine .inr ⟨g, 0, cap, cur, e, hB g hg, hc, h1, by omega, by omega, fun i hi => ?_⟩
    have e1 : (cur.toList.take (xs.length * 1))[i]? = (xs.map (Value.int .i64))[i]? := by rw [h4]
    rw [List.getElem?_take_of_lt (by omega), List.getElem?_map, List.getElem?_eq_getElem hi] at e1
    rw [Nat.zero_add, List.getElem?_eq_getElem hi]
    simpa using e1

/-- A block that does not meet Bk, or holds no numbers. -/
def Far (Bk : Nat → Prop) (w : World) (b : Nat) : Prop := ¬ Bk b ∨ ∀ cur, w.heap[b]? ≠ some (.cells cur 3 (0, 0))
/-- From w to w' only the block B and blocks of numbers that meet Bk have changed; there may be more. -/
structure Dq (B : Nat) (Bk : Nat → Prop) (w w' : World) : Prop where
  os : w'.os = w.os
  tape : w'.tape = w.tape
  output : w'.output = w.output
  size : w.heap.size ≤ w'.heap.size
  block : ∀ b, b < w.heap.size → b ≠ B → Far Bk w b → w'.heap[b]? = w.heap[b]?
theorem Dq.refl (B : Nat) (Bk : Nat → Prop) (w : World) : Dq B Bk w w := ⟨rfl, rfl, rfl, Nat.le_refl _, fun _ _ _ _ => rfl⟩
theorem Dq.trans {B : Nat} {Bk : Nat → Prop} {a b c : World} (h : Dq B Bk a b) (k : Dq B Bk b c) : Dq B Bk a c := ⟨k.os.trans h.os, k.tape.trans h.tape, k.output.trans h.output, Nat.le_trans h.size k.size, fun q h1 h2 h3 => (k.block q (by have := h.size; omega) h2 (h3.imp id (fun hn cur e => hn cur ((h.block q h1 h2 h3).symm.trans e)))).trans (h.block q h1 h2 h3)⟩
theorem Dq.of_below {B : Nat} {Bk : Nat → Prop} {w w' : World} (h : Below w.heap.size w w') : Dq B Bk w w' := ⟨h.os, h.tape, h.output, h.size, fun b hb _ _ => h.block b hb⟩
theorem Dq.below {B L : Nat} {Bk : Nat → Prop} {w w' : World} (h : Dq B Bk w w') (h1 : L ≤ B) (h2 : ∀ b, Bk b → L ≤ b) (h3 : L ≤ w.heap.size) : Below L w w' := ⟨h.os, h.tape, h.output, h.size, fun b hb => h.block b (by omega) (by omega) (.inl (fun hk => by have := h2 b hk; omega))⟩

/-- append onto such a slice. -/
theorem run_append_q {Bk : Nat → Prop} (w : World) (v : Value) (xs : List Int) (x : Int) (ad : Addr) (c : Nat) (ty : TypeId) (h : QRow Bk w v xs) (hB : ∀ b, w.heap.size ≤ b → Bk b) (hc : w.cell? ad = some (.int .i64 x)) (hs : ad.spot = none) (hl : xs.length ≤ 1000000) :
    ∃ a n c' w', (Builtin.append_ #[22, 22] ty #[v, .slice (some ad) 1 c]).run Try.prog w = .ok (.slice a n c') w' ∧ QRow Bk w' (.slice a n c') (xs ++ [x]) ∧ w.heap.size ≤ w'.heap.size ∧ w'.os = w.os ∧ w'.tape = w.tape ∧ w'.output = w.output ∧ ∀ b, b < w.heap.size → Far Bk w b → w'.heap[b]? = w.heap[b]? := by
  obtain ⟨i0, hi, hz0, hz1, hz2⟩ := info_parts Try.info3
  have hnews : ∀ j u, [Value.int .i64 x][j]? = some u → w.cell? (ad.add j) = some u := fun j u hu => by
    cases j with
    | zero =>
      simp at hu
      subst hu
      have : ad.add 0 = ad := by cases ad; simp at hs; subst hs; simp [Addr.add]
      rw [this]; exact hc
    | succ j => simp at hu
  have fin : ∀ v' w', w'.ownsRow w.heap.size 3 1 v' (xs.length + 1) ((xs.map (Value.int .i64)) ++ [.int .i64 x]) → w.grownBy w' none → ∃ a n c', v' = .slice a n c' ∧ QRow Bk w' (.slice a n c') (xs ++ [x]) ∧ w.heap.size ≤ w'.heap.size ∧ w'.os = w.os ∧ w'.tape = w.tape ∧ w'.output = w.output ∧ ∀ b, b < w.heap.size → Far Bk w b → w'.heap[b]? = w.heap[b]? := fun v' w' ho hg => by
    obtain ⟨a, n, c', e⟩ := own_slice ho
    subst e
    exact ⟨a, n, c', rfl, qrow_of_own (by rw [List.length_append, List.map_append]; exact ho) hB, hg.size, hg.os, hg.tape, hg.output, fun b hb _ => hg.block b hb (by simp)⟩
  rcases h with ⟨rfl, rfl⟩ | ⟨b, off, cap, cur, rfl, h0, hb, h1, h2, h3, h4⟩
  · obtain ⟨v', w', hrun, r1, r2, _⟩ := run_append_own (P := Try.prog) w w.heap.size 22 ty 3 i0 (.int .i64 0) 1 8 Try.underlying22 hi hz0 hz1 hz2 rfl (by decide) (.slice none 0 0) 0 [] (World.ownsRow_nil _ _ _ _) ad 1 c [.int .i64 x] rfl hnews (by simp [Value.oneCell']) (by unfold maxLen; omega) (by omega) (Nat.le_refl _)
    obtain ⟨a, n, c', e, q⟩ := fin v' w' (by simpa using r1) (by simpa [Value.ownBlock] using r2)
    subst e
    exact ⟨a, n, c', w', hrun, q⟩
  · have hbl := (Array.getElem?_eq_some_iff.1 hb).1
    by_cases hr : xs.length + 1 ≤ cap
    · have hsp : (w.cell? ⟨b, off + xs.length, none⟩).isSome = true := by
        simp only [World.cell?, hb]
        rw [Array.getElem?_eq_getElem (by omega)]
        rfl
      have hfz : w.frozen? ⟨b, off + xs.length, none⟩ = false := by simp [World.frozen?, hb]
      have hrun := run_append_room_cells (P := Try.prog) w 22 ty 3 i0 Try.underlying22 hi b off xs.length cap ad 1 c [.int .i64 x] (by rw [hz1]; rfl) hnews (by simp [Value.oneCell']) hr (fun j hj => by simp at hj; subst hj; rw [hz1]; simpa using hsp) (fun j hj => by simp at hj; subst hj; rw [hz1]; simpa using hfz)
      rw [hz1, Nat.mul_one] at hrun
      simp only [World.setCells] at hrun
      have hset : (w.setCell ⟨b, off + xs.length, none⟩ (.int .i64 x)).heap[b]? = some (.cells (cur.set! (off + xs.length) (.int .i64 x)) 3 (0, 0)) := by
        obtain ⟨hlt, hb'⟩ := Array.getElem?_eq_some_iff.1 hb
        unfold World.setCell
        simp [hlt, Array.getElem_modify, hb']
      refine ⟨_, _, _, _, hrun, .inr ⟨b, off, cap, cur.set! (off + xs.length) (.int .i64 x), by simp, h0, hset, by simpa using hr, by simpa using h2, by simpa using h3, fun i hi => ?_⟩, by simp, rfl, rfl, rfl, fun q hq hn => Below.heap_setCell _ _ _ _ (by show q ≠ b; intro e; subst e; rcases hn with hn | hn; (· exact hn h0); (· exact hn _ hb))⟩
      simp at hi
      by_cases e : i = xs.length
      · subst e
        rw [Array.set!_eq_setIfInBounds, Array.getElem?_setIfInBounds_self_of_lt (by omega)]
        simp
      · rw [Array.set!_eq_setIfInBounds, Array.getElem?_setIfInBounds_ne (by omega), h4 i (by omega), List.getElem?_append_left (by omega)]
    · obtain ⟨v', w', hrun, r1, r2⟩ := run_append_arg_grows (P := Try.prog) w 22 ty 3 i0 (.int .i64 0) 1 8 Try.underlying22 hi hz0 hz1 hz2 rfl (by decide) ⟨b, off, none⟩ xs.length cap (xs.map (Value.int .i64)) (by simp) (fun j u hu => by
          have hj : j < xs.length := by have := (List.getElem?_eq_some_iff.1 hu).1; simpa using this
          rw [addr_add]
          simp only [World.cell?, hb]
          rw [h4 j hj]
          rw [List.getElem?_map, List.getElem?_eq_getElem hj] at hu
          rw [List.getElem?_eq_getElem hj]
          simpa using hu) ad 1 c [.int .i64 x] rfl hnews (by omega) (by unfold maxLen; omega) (by omega)
      obtain ⟨a, n, c', e, q⟩ := fin v' w' r1 r2
      subst e
      exact ⟨a, n, c', w', hrun, q⟩
/-- A number put into the queue. -/
def addW (xs : List Int) (x : Int) : List Int := if x ∈ xs then xs else xs ++ [x]
theorem addW_le (xs : List Int) (x : Int) : (addW xs x).length ≤ xs.length + 1 := by unfold addW; split <;> simp

/-- append onto such a slice, at the list of a plain region's operations. -/
theorem wpList_append_q {Bk : Nat → Prop} {w : World} {ops : Array Oper} {rest : List Oper} {o : Oper} {a : Act} {Q : Exit → Act → World → Prop} (hgd : o.guard = none) (s x : Operand)
    (ho : o.op = .call { callee := .builtin .append, args := #[s, x], argTypes := #[22, 22] }) (v : Value) (xs : List Int) (z : Int) (ad : Addr) (c : Nat) (hs : a.eval s = v) (hx : a.eval x = .slice (some ad) 1 c)
    (h : QRow Bk w v xs) (hB : ∀ b, w.heap.size ≤ b → Bk b) (hc : w.cell? ad = some (.int .i64 z)) (hsp : ad.spot = none) (hl : xs.length ≤ 1000000)
    (hK : ∀ a' n c' w', QRow Bk w' (.slice a' n c') (xs ++ [z]) → Dq w'.heap.size Bk w w' → wpList Try.prog ops Q rest (a.put o.dst (.slice a' n c')) w') : wpList Try.prog ops Q (o :: rest) a w := by
  refine wpList_plain hgd fun K hK' => ?_
  obtain ⟨a', n, c', w', hrun, q, q1, q2, q3, q4, q5⟩ := run_append_q w v xs z ad c o.type h hB hc hsp hl
  unfold Oper.wp execOp
  simp only [ho, resolve, invoke, builtin, Sem.run_bind, Sem.run_pure, Result.andThen_ok, List.map_toArray, List.map_cons, List.map_nil, hs, hx, hrun]
  exact hK' _ _ (hK a' n c' w' q ⟨q2, q3, q4, q1, fun b hb _ hn => q5 b hb hn⟩)

set_option maxRecDepth 100000 in
set_option maxHeartbeats 2000000 in
theorem wadd_any (Bk : Nat → Prop) (Bq : Nat) (x : Int) (xs : List Int) (v : Value) (w : World) (hb : Boxed w Bq 138 v) (h : QRow Bk w v xs) (hB : ∀ b, w.heap.size ≤ b → Bk b) (hq : ¬ Bk Bq) (hl : xs.length ≤ 1000) :
    Calls Try.prog 111 #[.pointer (some ⟨Bq, 0, none⟩), .int .i64 x] w fun e w' => (∃ u, e = .returned u) ∧ ∃ v', Boxed w' Bq 138 v' ∧ QRow Bk w' v' (addW xs x) ∧ Dq Bq Bk w w' := by
  obtain ⟨va, vc, ev, hv1, hv2⟩ := h.slice
  subst ev
  have p0 := hb.cell
  have HB := Lib.hid hb
  have HQ := Lib.hid h
  have HBB := Lib.hid hB
  have HNQ := Lib.hid hq
  clear hb h hB hq
  go_enter Try.func111, Try.ntmps111
  go_wp2_with fail
  refine (slicesContains_any _ xs x w HQ.out.rd).mono ?_
  rintro e w' ⟨rfl, rfl⟩
  by_cases hm : x ∈ xs
  · rw [decide_eq_true hm]
    have HA : Hid (addW xs x = xs) := Lib.hid (by unfold addW; rw [if_pos hm])
    clear hm
    go_wp2
    go_end0
    exact ⟨⟨_, rfl⟩, _, HB.out, by rw [HA.out]; exact HQ.out, Dq.refl _ _ _⟩
  · rw [decide_eq_false hm]
    have HA : Hid (addW xs x = xs ++ [x]) := Lib.hid (by unfold addW; rw [if_neg hm])
    have hq1 : QRow Bk (w.alloc (.cells #[.int .i64 x] 3)) (.slice va xs.length vc) xs := HQ.out.keep (fun b _ hb => Below.heap_alloc _ _ _ hb)
    have hc1 : (w.alloc (.cells #[.int .i64 x] 3)).cell? ⟨w.heap.size, 0, none⟩ = some (.int .i64 x) := by
      unfold World.cell?
      rw [World.alloc_heap_new]
      rfl
    have hB1 : ∀ b, (w.alloc (.cells #[.int .i64 x] 3)).heap.size ≤ b → Bk b := fun b hb => HBB.out b (by simp at hb; omega)
    clear hm
    go_wp2_with (at_builtin; refine wpList_append_q (Bk := Bk) rfl _ _ rfl _ xs x ⟨w.heap.size, 0, none⟩ _ rfl rfl hq1 hB1 hc1 rfl (by omega) ?_; intro a' n' c' w6 hq6 hd6; have kb6 : Boxed w6 Bq 138 (.slice va xs.length vc) := (hd6.block Bq (by have := HB.out.lt; simp; omega) (by have := HB.out.lt; have := hd6.size; simp at this; omega) (.inl HNQ.out)).trans ((Below.heap_alloc _ _ _ HB.out.lt).trans HB.out); have c6 := kb6.cell; have f6 := kb6.frozen)
    go_end0
    have hs6 := hd6.size
    have hlt := HB.out.lt
    simp at hs6
    refine ⟨⟨_, rfl⟩, _, kb6.set _, ?_, ⟨hd6.os, hd6.tape, hd6.output, by simp; omega, fun b h1 h2 h3 => ?_⟩⟩
    · rw [HA.out]
      exact hq6.keep (fun b hb _ => Below.heap_setCell _ _ _ _ (by show b ≠ Bq; intro e; subst e; exact HNQ.out hb))
    · exact (Below.heap_setCell _ _ _ _ (by show b ≠ Bq; exact h2)).trans ((hd6.block b (by simp; omega) (by omega) (h3.imp id (fun hn cur e => hn cur ((Below.heap_alloc _ _ _ h1).symm.trans e)))).trans (Below.heap_alloc _ _ _ h1))
end Go.Proofs.Ytipapmmjfoaddaa

/-! The program's iterator over the items of a worklist. -/
namespace Go.Proofs.Ytipapmmjfoaddaa
open Go.ChangeShapes Go.WideShapes Go.ChangeAt Go.RowKit Go.Shelf
set_option linter.unusedVariables false
set_option linter.unusedSimpArgs false

attribute [local go_sem] Oper.semAt_some

set_option maxRecDepth 100000 in
set_option maxHeartbeats 4000000 in
theorem items1_any {τ : Type} (l Bt Bq : Nat) (Bk : Nat → Prop) (J : τ → List Int → World → Prop) (Jp : τ → Int → List Int → World → Prop) (Jx : World → Prop) (nx : τ → Int → List Int → τ × List Int) (m : World → Nat)
    (hJ : ∀ t q X, J t q X → Boxed X Bt 153 (.pointer (some ⟨Bq, 0, none⟩)) ∧ q.length ≤ 1000 ∧ ∃ v, Boxed X Bq 138 v ∧ QRow Bk X v q)
    (hpop : ∀ t i q X v', J t (i :: q) X → QRow Bk X v' q → Jp t i q (X.setCell ⟨Bq, 0, none⟩ v').drew)
    (hY : ∀ t i q X, Jp t i q X → YieldAt Fence.wide 7 Try.prog l #[.int .i64 i] X fun e X' => (e = .returned (.bool true) ∧ J (nx t i q).1 (nx t i q).2 X') ∨ (e = .returned (.bool false) ∧ Jx X'))
    (hm : ∀ t i q X X', J t (i :: q) X → J (nx t i q).1 (nx t i q).2 X' → m X' < m X) (t0 : τ) (q0 : List Int) (W : World) (h0 : J t0 q0 W) :
    CallsIn Fence.wide 8 Try.prog 130 #[.func (.yield l) #[] #[], .pointer (some ⟨Bt, 0, none⟩)] W fun e W' => (∃ v, e = .returned v) ∧ ((∃ t, J t [] W') ∨ Jx W') := by
  have HJ := Lib.hid hJ
  have HP := Lib.hid hpop
  have HY := Lib.hid hY
  have HMM := Lib.hid hm
  clear hJ hpop hY hm
  refine callsIn_of_wp Try.func130 rfl trivial ?_ rfl
  simp only [Try.ntmps130, List.size_toArray, List.length_cons, List.length_nil, Nat.reduceAdd, Nat.reduceSub, Array.replicate_succ, Array.replicate_zero, List.push_toArray, List.append_toArray, List.nil_append, List.cons_append]
  gi_wp2
  gi_loopw [3] (fun _ wr => ∃ t q, Hid (J t q wr)) (fun _ wr => m wr)
  case atStart => exact ⟨t0, q0, Lib.hid h0⟩
  case round =>
    obtain ⟨t, q, HJQ⟩ := hrel
    obtain ⟨b1, hq, v, b2, hr⟩ := HJ.out t q _ HJQ.out
    have p1 := b1.cell
    have p2 := b2.cell
    have f2 := b2.frozen
    cases q with
    | nil =>
      obtain ⟨va, vc, rfl, hv1, hv2⟩ := hr.slice
      clear hr b1 b2
      gi_wp2
      go_end0
      exact ⟨⟨_, rfl⟩, .inl ⟨t, HJQ.out⟩⟩
    | cons i q =>
      obtain ⟨b, off, cap, rfl, hc1, hc2, hc3, hr'⟩ := hr.tail
      have HPP := Lib.hid (HP.out t i q _ _ HJQ.out hr')
      have hpos : (0 : Int) < ((q.length + 1 : Nat) : Int) := by omega
      have hq' : q.length ≤ 999 := by simp at hq; omega
      clear hr hr' b1 b2 hq
      by_cases hc0 : cap = 0
      · subst hc0
        rw [if_pos rfl] at HPP
        have hq0 : q = [] := List.eq_nil_of_length_eq_zero (by omega)
        subst hq0
        clear hq' hpos hc1 hc2
        simp only [List.length_nil, Nat.zero_add] at HPP p2
        gi_wp2
        refine wpIn_wide.2 ?_
        go_region_with (fail)
        all_goals
          obtain ⟨X, hX⟩ : ∃ X, (wr.setCell ⟨Bq, 0, none⟩ (.slice (some ⟨b, off, none⟩) 0 0)).drew = X := ⟨_, rfl⟩
          rw [hX] at HPP ⊢
          obtain ⟨fn, tmps, asg, bdy, hy, hR⟩ := HY.out t i [] X HPP.out
          clear hX p1 p2 f2 hc3
          gi_wp2
          refine hR.mono ?_
          rintro e W3 (⟨rfl, hJ3⟩ | ⟨rfl, hJx3⟩)
          · gi_wp2
            go_roundw
            case rel => exact ⟨_, _, Lib.hid hJ3⟩
            case measure => exact HMM.out t i [] _ _ HJQ.out hJ3
          · gi_wp2
            refine bodyPost_ret (results_none rfl _ _ _) rfl ?_
            exact ⟨⟨_, rfl⟩, .inr hJx3⟩
      · rw [if_neg hc0] at HPP
        gi_wp2
        refine wpIn_wide.2 ?_
        go_region_with (fail)
        all_goals
          obtain ⟨X, hX⟩ : ∃ X, (wr.setCell ⟨Bq, 0, none⟩ (.slice (some ⟨b, off + 1, none⟩) q.length cap)).drew = X := ⟨_, rfl⟩
          rw [hX] at HPP ⊢
          obtain ⟨fn, tmps, asg, bdy, hy, hR⟩ := HY.out t i q X HPP.out
          clear hX p1 p2 f2 hc3
          gi_wp2
          refine hR.mono ?_
          rintro e W3 (⟨rfl, hJ3⟩ | ⟨rfl, hJx3⟩)
          · gi_wp2
            go_roundw
            case rel => exact ⟨_, _, Lib.hid hJ3⟩
            case measure => exact HMM.out t i q _ _ HJQ.out hJ3
          · gi_wp2
            refine bodyPost_ret (results_none rfl _ _ _) rfl ?_
            exact ⟨⟨_, rfl⟩, .inr hJx3⟩
end Go.Proofs.Ytipapmmjfoaddaa
