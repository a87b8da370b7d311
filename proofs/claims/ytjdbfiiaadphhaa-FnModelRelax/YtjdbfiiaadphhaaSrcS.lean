/- The reference's search. -/
import Derived.Test.YtjdbfiiaadphhaaProS
import Derived.Test.YtjdbfiiaadphhaaSrcP
import Derived.BigQuiet
namespace Go.Proofs.Ytjdbfiiaadphhaa
open Go.ChangeShapes Go.WideShapes Go.ChangeAt Go.RowKit
set_option linter.unusedVariables false
set_option linter.unusedSimpArgs false

theorem vL_le (d : Int) (k : Nat) : (vL d k).length ≤ k := by
  induction k with
  | zero => simp [vL]
  | succ k ih => simp only [vL, List.length_append]; split <;> simp <;> omega

set_option maxRecDepth 100000 in
set_option maxHeartbeats 1000000 in
theorem svals_any (d : Int) (w : World) (h1 : 0 ≤ d) (h2 : d ≤ 63) :
    Calls Try.prog 202 #[.int .i64 d] w (IntsPost (vL d 6) w) := by
  obtain ⟨i0, hi, hz0, hz1, hz2⟩ := info_parts Try.info3
  go_enter Try.func202, Try.ntmps202
  go_wp2
  go_loopw [3, 4] (fun v i wr => ∃ k : Nat, k ≤ 6 ∧ i = .int .i64 k ∧ wr.ownsRow w.heap.size 3 1 v (vL d k).length ((vL d k).map (Value.int .i64)) ∧ Below w.heap.size w wr) (fun _ i _ => 6 - (intOf i).toNat)
  case atStart =>
    exact ⟨0, by omega, rfl, ownsRow_made w 3, (Below.refl _ _).alloc (Nat.le_refl _) _⟩
  case round =>
    obtain ⟨k, hk, rfl, hown, hbel⟩ := hrel
    have hle := vL_le d k
    have hsz := hbel.size
    by_cases hlt : k < 6
    · cases hh : hasB d k
      · have HS := Lib.hid (show vL d (k + 1) = vL d k ++ if hasB d k then [(k : Int)] else [] from rfl)
        rw [hh] at HS
        go_wp2_with (go_at_call 137; refine (shas_any _ _ _ h1 h2).mono ?_; rintro e w' ⟨rfl, rfl⟩)
        go_roundw
        case rel => exact ⟨k + 1, by omega, by go_num, by rw [HS.out]; simpa using hown, hbel⟩
        case measure => simp [intOf]; omega
      · have HS := Lib.hid (show vL d (k + 1) = vL d k ++ if hasB d k then [(k : Int)] else [] from rfl)
        rw [hh] at HS
        go_wp2_with (first
          | (go_at_call 137; refine (shas_any _ _ _ h1 h2).mono ?_; rintro e w' ⟨rfl, rfl⟩)
          | (at_builtin; refine wpList_append_own _ rfl _ _ 32 rfl w.heap.size 3 i0 (.int .i64 0) 1 8 Try.underlying32 hi hz0 hz1 hz2 rfl (by decide) _ _ _ rfl (hown.alloc _) ⟨wr.heap.size, 0, none⟩ 1 1 [.int .i64 k] rfl rfl (cell_one_new _ _ _) (by simp [Value.oneCell']) (by unfold maxLen; omega) (by omega) (by simp; omega) ?_; intro v' w1 hown' hgrow _))
        have hb1 : Below w.heap.size w w1 := ((hbel.alloc (by omega) _).grown hgrow (by simp; omega) (fun j e => (hown.lt j e).1))
        go_wp2
        go_roundw
        case rel => exact ⟨k + 1, by omega, by go_num, by rw [HS.out]; simpa using hown', hb1⟩
        case measure => simp [intOf]; omega
    · obtain rfl : k = 6 := by omega
      go_wp2
      go_ret
      exact ⟨_, rfl, hown, hbel⟩

/-- A list of rows of the call's own. -/
def OwnRows (w : World) (B : Nat) (v : Value) (rows : List (List Int)) : Prop :=
  ∃ vals : List Value, w.ownsRow B 32 1 v rows.length vals ∧ ∀ (i : Nat) (r : List Int), rows[i]? = some r → ∃ u, vals[i]? = some u ∧ w.ownsRow B 3 1 u r.length (r.map (Value.int .i64))
/-- Only the block F and arrays of rows have changed. -/
structure FKeep (F : Nat) (W W' : World) : Prop where
  os : W'.os = W.os
  tape : W'.tape = W.tape
  output : W'.output = W.output
  size : W.heap.size ≤ W'.heap.size
  block : ∀ b, b < W.heap.size → b ≠ F → (∀ cur fr, W.heap[b]? ≠ some (.cells cur 32 fr)) → W'.heap[b]? = W.heap[b]?
theorem FKeep.refl (F : Nat) (W : World) : FKeep F W W := ⟨rfl, rfl, rfl, Nat.le_refl _, fun _ _ _ _ => rfl⟩
theorem FKeep.trans {F : Nat} {A B C : World} (h : FKeep F A B) (k : FKeep F B C) : FKeep F A C :=
  ⟨k.os.trans h.os, k.tape.trans h.tape, k.output.trans h.output, Nat.le_trans h.size k.size, fun b hb hn ht => by
    have e := h.block b hb hn ht
    exact (k.block b (Nat.lt_of_lt_of_le hb h.size) hn (fun cur fr => by rw [e]; exact ht cur fr)).trans e⟩
theorem FKeep.of_below {F : Nat} {A B : World} (h : Below A.heap.size A B) : FKeep F A B := ⟨h.os, h.tape, h.output, h.size, fun b hb _ _ => h.block b hb⟩
theorem FKeep.set {F : Nat} {W : World} {j : Nat} (u : Value) : FKeep F W (W.setCell ⟨F, j, none⟩ u) := ⟨rfl, rfl, rfl, by simp, fun b _ hn _ => Below.heap_setCell _ _ _ _ (by show b ≠ F; exact hn)⟩
theorem own_keep' {w w' : World} {B : Nat} {e : TypeId} {sz n : Nat} {v : Value} {xs : List Value} (h : w.ownsRow B e sz v n xs) (hk : ∀ b cur, v.ownBlock = some b → w.heap[b]? = some (.cells cur e (0, 0)) → w'.heap[b]? = w.heap[b]?) : w'.ownsRow B e sz v n xs := by
  refine ⟨h.1, ?_⟩
  rcases h.2 with h2 | ⟨g, cap, cur, e, h3, hg, rest⟩
  · exact .inl h2
  · exact .inr ⟨g, cap, cur, e, h3, (hk g cur (by rw [e]; rfl) hg).trans hg, rest⟩
theorem type_ne : (3 : TypeId) ≠ 32 := by decide
/-- An owned row of numbers stays. -/
theorem FKeep.own {F : Nat} {W W' : World} {B n : Nat} {v : Value} {xs : List Value} (h : FKeep F W W') (ho : W.ownsRow B 3 1 v n xs) (hF : ∀ cur fr, W.heap[F]? ≠ some (.cells cur 3 fr)) : W'.ownsRow B 3 1 v n xs :=
  own_keep' ho (fun b cur _ hb => h.block b (Array.getElem?_eq_some_iff.1 hb).1 (fun e => hF cur _ (by rw [← e]; exact hb)) (fun cur' fr e => by rw [hb] at e; injection e with e; injection e with _ e2 _; exact type_ne e2))
theorem OwnRows.below {w w' : World} {B : Nat} {v : Value} {rows : List (List Int)} (h : OwnRows w B v rows) (hb : Below w.heap.size w w') : OwnRows w' B v rows := by
  obtain ⟨vals, h1, h2⟩ := h
  refine ⟨vals, own_below h1 hb, fun i r hr => ?_⟩
  obtain ⟨u, h3, h4⟩ := h2 i r hr
  exact ⟨u, h3, own_below h4 hb⟩
theorem OwnRows.keep {w w' : World} {B : Nat} {v : Value} {rows : List (List Int)} (h : OwnRows w B v rows) (hk : ∀ b cur t, B ≤ b → w.heap[b]? = some (.cells cur t (0, 0)) → (t = 3 ∨ t = 32) → w'.heap[b]? = w.heap[b]?) : OwnRows w' B v rows := by
  obtain ⟨vals, h1, h2⟩ := h
  refine ⟨vals, own_keep' h1 (fun b cur hb hc => hk b cur _ (h1.lt b hb).1 hc (.inr rfl)), fun i r hr => ?_⟩
  obtain ⟨u, h3, h4⟩ := h2 i r hr
  exact ⟨u, h3, own_keep' h4 (fun b cur hb hc => hk b cur _ (h4.lt b hb).1 hc (.inl rfl))⟩
theorem ownRows_nil (w : World) (B : Nat) : OwnRows w B (.slice none 0 0) [] := ⟨[], World.ownsRow_nil _ _ _ _, fun i r h => by simp at h⟩
theorem ownRows_snoc {w w' : World} {B : Nat} {v v' u : Value} {rows : List (List Int)} {vals : List Value} {r : List Int} (h2 : ∀ (i : Nat) (r : List Int), rows[i]? = some r → ∃ u, vals[i]? = some u ∧ w'.ownsRow B 3 1 u r.length (r.map (Value.int .i64)))
    (hl : vals.length = rows.length) (h : w'.ownsRow B 32 1 v' (rows.length + 1) (vals ++ [u])) (hu : w'.ownsRow B 3 1 u r.length (r.map (Value.int .i64))) : OwnRows w' B v' (rows ++ [r]) := by
  refine ⟨vals ++ [u], by simpa using h, fun i r' hr => ?_⟩
  by_cases hi : i < rows.length
  · rw [List.getElem?_append_left hi] at hr
    obtain ⟨u', h3, h4⟩ := h2 i r' hr
    exact ⟨u', by rw [List.getElem?_append_left (by omega)]; exact h3, h4⟩
  · have hil : i < rows.length + 1 := by have := (List.getElem?_eq_some_iff.1 hr).1; simpa using this
    have hi' : i = rows.length := by omega
    subst hi'
    rw [List.getElem?_append_right (Nat.le_refl _)] at hr
    simp at hr
    subst hr
    exact ⟨u, by rw [List.getElem?_append_right (by omega)]; simp [hl], hu⟩
theorem ownRows_slice {w : World} {B : Nat} {v : Value} {rows : List (List Int)} (h : OwnRows w B v rows) : ∃ a c, v = .slice a rows.length c ∧ rows.length ≤ c ∧ c ≤ 9223372036854775807 := by
  obtain ⟨vals, h1, _⟩ := h
  rcases h1.2 with ⟨e, h0⟩ | ⟨g, cap, cur, e, _, _, q1, q2, _⟩
  · exact ⟨none, 0, by rw [h0]; exact e, by omega, by omega⟩
  · unfold maxLen at q2; exact ⟨_, cap, e, q1, by omega⟩

/-- The finder at block F: the model as it reads in w0, the limit, the nodes so far and the rows found. -/
structure FSt (w0 : World) (F : Nat) (nd nc : Nat) (a1 a2 : Option Addr) (c1 c2 L : Nat) (s : List (List Int) × Nat) (W : World) : Prop where
  b : Below w0.heap.size w0 W
  lt : w0.heap.size ≤ F
  f : ∃ fv, W.heap[F]? = some (.cells #[.slice a1 nd c1, .slice a2 nc c2, .int .i64 L, .int .i64 s.2, fv] 196 (0, 0)) ∧ OwnRows W w0.heap.size fv s.1
section
variable {w0 : World} {F nd nc : Nat} {a1 a2 : Option Addr} {c1 c2 L : Nat} {s : List (List Int) × Nat} {W W' : World}
theorem FSt.below (h : FSt w0 F nd nc a1 a2 c1 c2 L s W) (hb : Below W.heap.size W W') : FSt w0 F nd nc a1 a2 c1 c2 L s W' := by
  obtain ⟨fv, h1, h2⟩ := h.f
  exact ⟨h.b.trans (hb.mono h.b.size), h.lt, fv, (hb.block F (Array.getElem?_eq_some_iff.1 h1).1).trans h1, h2.below hb⟩
theorem FSt.notInt (h : FSt w0 F nd nc a1 a2 c1 c2 L s W) : ∀ cur fr, W.heap[F]? ≠ some (.cells cur 3 fr) := by
  obtain ⟨fv, h1, h2⟩ := h.f
  intro cur fr e
  rw [h1] at e
  injection e with e
  injection e with _ e2 _
  exact absurd e2 (by decide)
theorem FSt.nodes (h : FSt w0 F nd nc a1 a2 c1 c2 L s W) (k : Nat) : FSt w0 F nd nc a1 a2 c1 c2 L (s.1, k) (W.setCell ⟨F, 3, none⟩ (.int .i64 k)) := by
  obtain ⟨fv, h1, h2⟩ := h.f
  refine ⟨h.b.setCell (p := ⟨F, 3, none⟩) h.lt _, h.lt, fv, ?_, h2.keep (fun b cur t _ hb ht => Below.heap_setCell _ _ _ _ (by
    show b ≠ F
    rintro rfl
    rw [h1] at hb
    injection hb with hb
    injection hb with _ e2 _
    rcases ht with ht | ht
    · exact absurd (e2.trans ht) (by decide)
    · exact absurd (e2.trans ht) (by decide)))⟩
  obtain ⟨hlt, hk⟩ := Array.getElem?_eq_some_iff.1 h1
  show (W.heap.modify F _)[F]? = _
  rw [Array.getElem?_eq_getElem (by rw [Array.size_modify]; exact hlt), Array.getElem_modify_self, hk]
  rfl
theorem FSt.cell (h : FSt w0 F nd nc a1 a2 c1 c2 L s W) : ∃ fa fc, W.cell? ⟨F, 0, none⟩ = some (.slice a1 nd c1) ∧ W.cell? ⟨F, 1, none⟩ = some (.slice a2 nc c2) ∧ W.cell? ⟨F, 2, none⟩ = some (.int .i64 L) ∧ W.cell? ⟨F, 3, none⟩ = some (.int .i64 s.2) ∧
    W.cell? ⟨F, 4, none⟩ = some (.slice fa s.1.length fc) ∧ OwnRows W w0.heap.size (.slice fa s.1.length fc) s.1 ∧ s.1.length ≤ fc ∧ fc ≤ 9223372036854775807 ∧ (∀ j, W.frozen? ⟨F, j, none⟩ = false) := by
  obtain ⟨fv, h1, h2⟩ := h.f
  obtain ⟨a, c, rfl, hc1, hc2⟩ := ownRows_slice h2
  refine ⟨a, c, by simp [World.cell?, h1], by simp [World.cell?, h1], by simp [World.cell?, h1], by simp [World.cell?, h1], by simp [World.cell?, h1], h2, hc1, hc2, fun j => by simp [World.frozen?, h1]⟩
theorem FSt.foundCell {vals : List Value} {fv : Value} {W2 : World} (h : FSt w0 F nd nc a1 a2 c1 c2 L s W) (hc : W.cell? ⟨F, 4, none⟩ = some fv) (hr : W.ownsRow w0.heap.size 32 1 fv s.1.length vals)
    (hg : W.grownBy W2 fv.ownBlock) : W2.cell? ⟨F, 4, none⟩ = some fv ∧ W2.frozen? ⟨F, 4, none⟩ = false := by
  obtain ⟨fv', h1, h2⟩ := h.f
  have hF : W2.heap[F]? = W.heap[F]? := hg.block F (Array.getElem?_eq_some_iff.1 h1).1 (fun e => by
    rcases hr.2 with ⟨e', _⟩ | ⟨g, cap, cur, e', h3, hg', _⟩
    · rw [e'] at e; cases e
    · rw [e'] at e
      cases e
      rw [h1] at hg'
      injection hg' with hg'
      injection hg' with _ e2 _
      exact absurd e2 (by decide))
  refine ⟨by rw [← hc]; simp only [World.cell?, hF], ?_⟩
  simp [World.frozen?, hF, h1]
theorem FSt.found {vals : List Value} {fv u v' : Value} {x : List Int} {W2 : World} (h : FSt w0 F nd nc a1 a2 c1 c2 L s W) (hc : W.cell? ⟨F, 4, none⟩ = some fv) (hr : W.ownsRow w0.heap.size 32 1 fv s.1.length vals)
    (hrows : ∀ (i : Nat) (r : List Int), s.1[i]? = some r → ∃ u, vals[i]? = some u ∧ W.ownsRow w0.heap.size 3 1 u r.length (r.map (Value.int .i64))) (hu : W.ownsRow w0.heap.size 3 1 u x.length (x.map (Value.int .i64)))
    (hg : W.grownBy W2 fv.ownBlock) (ho : W2.ownsRow w0.heap.size 32 1 v' (s.1.length + 1) (vals ++ [u])) :
    FSt w0 F nd nc a1 a2 c1 c2 L (s.1 ++ [x], s.2) (W2.setCell ⟨F, 4, none⟩ v') ∧ FKeep F W (W2.setCell ⟨F, 4, none⟩ v') := by
  obtain ⟨fv', h1, h2⟩ := h.f
  have row : ∀ b, fv.ownBlock = some b → w0.heap.size ≤ b ∧ ∃ cur, W.heap[b]? = some (.cells cur 32 (0, 0)) := fun b hb => by
    rcases hr.2 with ⟨e, _⟩ | ⟨g, cap, cur, e, h3, hg', _⟩
    · rw [e] at hb; cases hb
    · rw [e] at hb; cases hb; exact ⟨h3, cur, hg'⟩
  have same : ∀ (b : Nat) (cur : Array Value) (t : TypeId) (fr : Nat × Nat), W.heap[b]? = some (Obj.cells cur t fr) → t ≠ 32 → W2.heap[b]? = W.heap[b]? := fun b cur t fr hb ht => hg.block b (Array.getElem?_eq_some_iff.1 hb).1 (fun e => by
    obtain ⟨_, cur', hc'⟩ := row b e.symm
    rw [hb] at hc'
    injection hc' with hc'
    injection hc' with _ e2 _
    exact ht e2)
  have hF2 : W2.heap[F]? = _ := (same F _ _ _ h1 (by decide)).trans h1
  have intF : ∀ (b : Nat) (cur : Array Value) (t : TypeId), W2.heap[b]? = some (Obj.cells cur t (0, 0)) → (t = 3 ∨ t = 32) → (W2.setCell ⟨F, 4, none⟩ v').heap[b]? = W2.heap[b]? := fun b cur t hb ht => Below.heap_setCell _ _ _ _ (by
    show b ≠ F
    rintro rfl
    rw [hF2] at hb
    injection hb with hb
    injection hb with _ e2 _
    rcases ht with ht | ht
    · exact absurd (e2.trans ht) (by decide)
    · exact absurd (e2.trans ht) (by decide))
  have ints : ∀ {u' : Value} {r : List Int}, W.ownsRow w0.heap.size 3 1 u' r.length (r.map (Value.int .i64)) → W2.ownsRow w0.heap.size 3 1 u' r.length (r.map (Value.int .i64)) := fun hu' => own_keep' hu' (fun b cur _ hb => same b _ _ _ hb type_ne)
  refine ⟨⟨(h.b.grown hg h.b.size (fun r e => (row r e).1)).setCell (p := ⟨F, 4, none⟩) h.lt _, h.lt, v', ?_, ?_⟩, ?_⟩
  · obtain ⟨hlt, hk⟩ := Array.getElem?_eq_some_iff.1 hF2
    show (W2.heap.modify F _)[F]? = _
    rw [Array.getElem?_eq_getElem (by rw [Array.size_modify]; exact hlt), Array.getElem_modify_self, hk]
    rfl
  · have hl : vals.length = s.1.length := by have := hr.1; simpa using this
    have := ownRows_snoc (w := W) (v := fv) (rows := s.1) (r := x) (fun i r hi => by obtain ⟨u', e1, e2⟩ := hrows i r hi; exact ⟨u', e1, ints e2⟩) hl ho (ints hu)
    exact this.keep (fun b cur t _ hb ht => intF b cur t hb ht)
  · refine ⟨hg.os, hg.tape, hg.output, by simpa using hg.size, fun b hb hn ht => ?_⟩
    refine (Below.heap_setCell _ _ _ _ (by show b ≠ F; exact hn)).trans (hg.block b hb (fun e => ?_))
    obtain ⟨_, cur', hc'⟩ := row b e.symm
    exact ht cur' _ hc'
end

theorem own_int_at {w : World} {B g n cap : Nat} {xs : List Int} (h : w.ownsRow B 3 1 (.slice (some ⟨g, 0, none⟩) n cap) n (xs.map (Value.int .i64))) {j : Nat} (hj : j < n) : w.cell? ⟨g, j, none⟩ = some (.int .i64 (xs[j]?.getD 0)) := by
  have hl : xs.length = n := by have := h.1; simpa using this
  rw [h.cellAt j (by omega)]
  simp [hl, hj]
theorem own_formS {w : World} {B : Nat} {v : Value} {xs : List Int} (h : w.ownsRow B 3 1 v xs.length (xs.map (Value.int .i64))) (h1 : 1 ≤ xs.length) : ∃ g cap, v = .slice (some ⟨g, 0, none⟩) xs.length cap ∧ B ≤ g ∧ g < w.heap.size ∧ xs.length ≤ cap ∧ cap ≤ 9223372036854775807 := by
  rcases h.2 with ⟨_, h0⟩ | ⟨g, cap, cur, e, h3, hg, q1, q2, _⟩
  · omega
  · unfold maxLen at q2; exact ⟨g, cap, e, h3, (Array.getElem?_eq_some_iff.1 hg).1, q1, by omega⟩

/-- One child more, where the limit isn't reached. -/
def stpK (cs : List Con) (L k : Nat) (s : List (List Int) × Nat) (d' : List Int) : List (List Int) × Nat := if s.1.length < L then brF cs L k d' s else s
theorem brF_none {cs : List Con} {L k : Nat} {d : List Int} {s : List (List Int) × Nat} (h : oneT (proL cs d) = none) : brF cs L (k + 1) d s = (kids (proL cs d)).foldl (stpK cs L k) (s.1, s.2 + 1) := by rw [brF, h]; rfl
theorem brF_some {cs : List Con} {L k : Nat} {d x : List Int} {s : List (List Int) × Nat} (h : oneT (proL cs d) = some x) : brF cs L (k + 1) d s = (s.1 ++ [x], s.2 + 1) := by rw [brF, h]
theorem stpK_stop {cs : List Con} {L k : Nat} : ∀ (ks : List (List Int)) (s : List (List Int) × Nat), ¬ s.1.length < L → ks.foldl (stpK cs L k) s = s
  | [], s, _ => rfl
  | d' :: ks, s, h => by rw [List.foldl_cons, show stpK cs L k s d' = s from if_neg h]; exact stpK_stop ks s h
theorem foldl_take_succ {α β : Type} (f : β → α → β) (b : β) : ∀ (l : List α) (j : Nat) (x : α), l[j]? = some x → (l.take (j + 1)).foldl f b = f ((l.take j).foldl f b) x := by
  intro l j x h
  rw [List.take_add_one, h, List.foldl_append]
  rfl
theorem foldl_split {α β : Type} (f : β → α → β) (b : β) (l : List α) (j : Nat) : l.foldl f b = (l.drop j).foldl f ((l.take j).foldl f b) := by
  rw [← List.foldl_append, List.take_append_drop]
theorem stpK_two {cs : List Con} {L k : Nat} {s : List (List Int) × Nat} {d' : List Int} : (stpK cs L k s d').2 ≤ s.2 + (visF cs k d').length := by
  unfold stpK
  split
  · rename_i h
    rw [brF_eq cs L k d' s h]
    have := cutV_le (visF cs k d') (L - s.1.length)
    simp only
    omega
  · omega
theorem pow_wrap_fin : ∀ a : Fin 6, wrap64 (2 ^ a.val) = 2 ^ a.val := by decide +kernel
theorem empty_none {cs : List Con} {n : Nat} {d : List Int} (h : OkD cs n d) (h1 : 1 ≤ n) (he : emptyB (proL cs d) = true) : oneT (proL cs d) = none ∧ kids (proL cs d) = [] := by
  rcases proL_res h with ⟨_, _, ne, _⟩ | ⟨e, _⟩
  · rw [he] at ne; cases ne
  · rw [e]
    obtain ⟨k, rfl⟩ : ∃ k, n = k + 1 := ⟨n - 1, by omega⟩
    have h0 : cntD 0 = 0 := by decide +kernel
    refine ⟨?_, ?_⟩
    · unfold oneT
      rw [if_neg]
      simp [List.replicate_succ, h0]
    · unfold kids brV
      rw [show (List.replicate (k + 1) (0 : Int)).findIdx? (fun d => decide (1 < cntD d)) = none from by
        rw [List.findIdx?_eq_none_iff]
        intro x hx
        rw [(List.mem_replicate.1 hx).2, h0]
        rfl]
theorem cnt_pos_fin : ∀ d : Fin 64, d.val ≠ 0 → 1 ≤ cntD (d.val : Int) := by decide +kernel
theorem cnt_pos {d : Int} (h1 : 0 ≤ d) (h2 : d ≤ 63) (h : d ≠ 0) : 1 ≤ cntD d := by
  have := cnt_pos_fin ⟨d.toNat, by omega⟩ (by simp; omega)
  simpa only [Int.toNat_of_nonneg h1] using this
theorem not_empty_atS {p : List Int} (h : emptyB p = false) {j : Nat} (hj : j < p.length) : p[j]?.getD 0 ≠ 0 := by
  intro e
  have : emptyB p = true := by
    unfold emptyB
    rw [decide_eq_true_iff, ← e, List.getElem?_eq_getElem hj]
    exact List.getElem_mem hj
  rw [h] at this
  cases this
/-- The first variable with more than one value, found from the left. -/
theorem brV_of {p : List Int} {j : Nat} (hj : j < p.length) (h1 : ∀ q, q < j → cntD (p[q]?.getD 0) = 1) (h2 : 1 < cntD (p[j]?.getD 0)) : brV p = some j := by
  unfold brV
  rw [List.findIdx?_eq_some_iff_getElem]
  refine ⟨hj, ?_, fun q hq => ?_⟩
  · rw [List.getElem?_eq_getElem hj] at h2; simpa using h2
  · have := h1 q hq
    rw [List.getElem?_eq_getElem (by omega)] at this
    simp only [Option.getD_some] at this
    simp [this]
theorem oneT_of {p : List Int} (h1 : ∀ q, q < p.length → cntD (p[q]?.getD 0) = 1) : oneT p = some (p.map fun d => (vL d 6).headD 0) := by
  unfold oneT
  rw [if_pos]
  rw [List.all_eq_true]
  intro x hx
  obtain ⟨q, hq, rfl⟩ := List.mem_iff_getElem.1 hx
  have := h1 q hq
  rw [List.getElem?_eq_getElem hq] at this
  simpa using this
end Go.Proofs.Ytjdbfiiaadphhaa
