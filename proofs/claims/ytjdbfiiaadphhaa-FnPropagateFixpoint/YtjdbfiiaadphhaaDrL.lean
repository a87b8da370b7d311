/- Draws of lists: the reader's block turns, new blocks come; nothing else. -/
import Derived.Test.YtjdbfiiaadphhaaDr0
import Derived.Test.YtjdbfiiaadphhaaSolA
namespace Go.Proofs.Ytjdbfiiaadphhaa
open Go.ChangeShapes Go.WideShapes Go.ChangeAt Go.RowKit
set_option linter.unusedVariables false
set_option linter.unusedSimpArgs false

/-- Of the blocks that were there, only B may have turned. -/
structure Dn (B : Nat) (w w' : World) : Prop where
  os : w'.os = w.os
  tape : w'.tape = w.tape
  output : w'.output = w.output
  size : w.heap.size ≤ w'.heap.size
  block : ∀ k, k < w.heap.size → k ≠ B → w'.heap[k]? = w.heap[k]?
theorem Dn.refl (B : Nat) (w : World) : Dn B w w := ⟨rfl, rfl, rfl, Nat.le_refl _, fun _ _ _ => rfl⟩
theorem Dn.trans {B : Nat} {a b c : World} (h : Dn B a b) (k : Dn B b c) : Dn B a c :=
  ⟨k.os.trans h.os, k.tape.trans h.tape, k.output.trans h.output, Nat.le_trans h.size k.size, fun i hi hB => (k.block i (Nat.lt_of_lt_of_le hi h.size) hB).trans (h.block i hi hB)⟩
theorem Dn.of_below {B : Nat} {w w' : World} (h : Below w.heap.size w w') : Dn B w w' := ⟨h.os, h.tape, h.output, h.size, fun k hk _ => h.block k hk⟩
theorem Dn.below {n0 B : Nat} {w w' : World} (h : Dn B w w') (h1 : n0 ≤ B) (h2 : n0 ≤ w.heap.size) : Below n0 w w' := ⟨h.os, h.tape, h.output, h.size, fun k hk => h.block k (by omega) (by omega)⟩
/-- A step that turns a row in a block from the start's end on. -/
theorem Dn.grown {B : Nat} {a w w' : World} {row : Option Nat} (h : Dn B a w) (hg : w.grownBy w' row) (hr : ∀ k, row = some k → a.heap.size ≤ k) : Dn B a w' := by
  have hb : Below a.heap.size w w' := (Below.refl _ w).grown hg h.size hr
  exact ⟨hb.os.trans h.os, hb.tape.trans h.tape, hb.output.trans h.output, Nat.le_trans h.size hb.size, fun k hk hB => (hb.block k hk).trans (h.block k hk hB)⟩
theorem Dn.alloc {B : Nat} {a w : World} (h : Dn B a w) (o : Obj) : Dn B a (w.alloc o) := h.trans (Dn.of_below ((Below.refl _ w).alloc (Nat.le_refl _) o))
theorem dn_picked {B : Nat} {w : World} (v : Value) (k : Nat) : Dn B w ((w.setCell ⟨B, 1, none⟩ v).drewN k) := by
  have h1 : Dn B w (w.setCell ⟨B, 1, none⟩ v) := by
    have hb : Below 0 w (w.setCell ⟨B, 1, none⟩ v) := (Below.refl 0 w).setCell (p := ⟨B, 1, none⟩) (Nat.zero_le _) v
    exact ⟨hb.os, hb.tape, hb.output, hb.size, fun j _ hj => Below.heap_setCell w _ v j (by simpa using hj)⟩
  exact h1.trans (Dn.of_below (below_drewN' (Below.refl _ _) k))
theorem Rd.below {n0 B : Nat} {p : Int} {w w' : World} (h : Rd n0 B p w) (hb : Below (B + 1) w w') : Rd n0 B p w' := by
  obtain ⟨hB, hc, hz, a, len, cap, hs, hl, h⟩ := h
  refine ⟨hB, (hb.cell (by simp)).trans hc, (hb.frozen (by simp)).trans hz, a, len, cap, (hb.cell (by simp)).trans hs, hl, ?_⟩
  rcases h with h | ⟨b, off, f, e, hb0, hf, hbb⟩
  · exact .inl h
  · exact .inr ⟨b, off, f, e, hb0, hf, fun i hi => (hb.cell (by simp; omega)).trans (hbb i hi)⟩
theorem Rd.lt {n0 B : Nat} {p : Int} {w : World} (h : Rd n0 B p w) : B < w.heap.size := World.block_lt_of_cell? w _ h.2.1
theorem own_dn {B base : Nat} {w w' : World} {e : TypeId} {v : Value} {n : Nat} {xs : List Value} (h : w.ownsRow base e 1 v n xs) (hB : B < base) (hd : Dn B w w') : w'.ownsRow base e 1 v n xs := by
  refine ⟨h.1, ?_⟩
  rcases h.2 with h | ⟨g, cap, cur, e1, h1, h2, h3⟩
  · exact .inl h
  · exact .inr ⟨g, cap, cur, e1, h1, (hd.block g (Array.getElem?_eq_some_iff.1 h2).1 (by omega)).trans h2, h3⟩

theorem pick_dn (n0 B : Nat) (p n : Int) (w : World) (hR : Rd n0 B p w) (hp : 0 ≤ p) (hp2 : p ≤ 1000000000) (hn2 : n ≤ 1000000) :
    Calls Try.prog 125 #[.pointer (some ⟨B, 0, none⟩), .int .i64 n] w fun e w' => ∃ x : Int, e = .returned (.int .i64 x) ∧ 0 ≤ x ∧ (x < n ∨ x = 0) ∧ Rd n0 B (p + 1) w' ∧ Dn B w w' := by
  refine (rpick_any n0 B p n w hR hp hp2 hn2).mono ?_
  rintro e w' ⟨x, k, rfl, h0, h1, rfl⟩
  exact ⟨x, rfl, h0, h1, hR.picked k, dn_picked _ k⟩

set_option maxRecDepth 100000 in
set_option maxHeartbeats 2000000 in
theorem one_dn (n0 B L m : Nat) (p : Int) (f : Nat → Int) (w : World) (hR : Rd n0 B p w) (hp : 0 ≤ p) (hp2 : p ≤ 100000000) (hm : 0 < m) (hm2 : m ≤ 1000) (hL : L ≠ B) (hc : ∀ i, i < m → w.cell? ⟨L, i, none⟩ = some (.int .i64 (f i))) :
    Calls Try.prog 153 #[.pointer (some ⟨B, 0, none⟩), .slice (some ⟨L, 0, none⟩) m m] w fun e w' => ∃ i, i < m ∧ e = .returned (.int .i64 (f i)) ∧ Rd n0 B (p + 1) w' ∧ Dn B w w' := by
  have HC := Lib.hid hc
  clear hc
  go_enter Try.func153, Try.ntmps153
  go_wp2_with fail
  refine (rpick_any n0 B p m w hR hp (by omega) (by omega)).mono ?_
  rintro e w1 ⟨x, k, rfl, hx0, hx1, hw1⟩
  obtain ⟨i, rfl⟩ := Int.eq_ofNat_of_zero_le hx0
  have hi : i < m := by omega
  have hci : w1.cell? ⟨L, i, none⟩ = some (.int .i64 (f i)) := by
    rw [hw1, World.cell?_drewN, cell_set_ne _ _ _ _ (by intro h; have := congrArg Addr.block h; simp at this; exact hL this.symm)]
    exact HC.out i hi
  have r1 : Rd n0 B (p + 1) w1 := by rw [hw1]; exact hR.picked k
  have b1 : Dn B w w1 := by rw [hw1]; exact dn_picked _ k
  clear hw1 hx0 hx1
  go_wp2
  go_ret
  exact ⟨i, hi, rfl, r1, b1⟩

/-- A list that was drawn. -/
def RowDrawn (n0 B : Nat) (p s : Int) (P : List Int → Prop) (w : World) (e : Ending) (w' : World) : Prop :=
  ∃ (v : Value) (xs : List Int) (p' : Int), e = .returned v ∧ P xs ∧ w'.ownsRow w.heap.size 3 1 v xs.length (xs.map (Value.int .i64)) ∧ p ≤ p' ∧ p' ≤ p + s ∧ Rd n0 B p' w' ∧ Dn B w w'

/-- A list that was drawn, and whose place is no nil. -/
def RowDrawnS (n0 B : Nat) (p s : Int) (P : List Int → Prop) (w : World) (e : Ending) (w' : World) : Prop :=
  ∃ (v : Value) (xs : List Int) (p' : Int), e = .returned v ∧ P xs ∧ w'.ownsRow w.heap.size 3 1 v xs.length (xs.map (Value.int .i64)) ∧ p ≤ p' ∧ p' ≤ p + s ∧ Rd n0 B p' w' ∧ Dn B w w' ∧ ∃ g c, v = .slice (some ⟨g, 0, none⟩) xs.length c
theorem own_some {w : World} {B : Nat} {e : TypeId} {sz n : Nat} {v : Value} {xs : List Value} (h : w.ownsRow B e sz v n xs) (hn : n ≠ 0) : ∃ g c, v = .slice (some ⟨g, 0, none⟩) n c := by
  rcases h.2 with h2 | ⟨g, cap, cur, e, _⟩
  · exact absurd h2.2 hn
  · exact ⟨g, cap, e⟩

set_option maxRecDepth 100000 in
set_option maxHeartbeats 4000000 in
theorem randomRow_some (n0 B k : Nat) (p : Int) (w : World) (hR : Rd n0 B p w) (hp : 0 ≤ p) (hp2 : p ≤ 10000000) (hk : k ≤ 1000) :
    Calls Try.prog 163 #[.pointer (some ⟨B, 0, none⟩), .int .i64 k] w (RowDrawnS n0 B p k (fun xs => xs.length = k ∧ ∀ x ∈ xs, 0 ≤ x ∧ x ≤ 5) w) := by
  obtain ⟨i0, hi, hz0, hz1, hz2⟩ := info_parts Try.info3
  have hlt := hR.lt
  have HR0 := Lib.hid (hR.below ((Below.refl _ w).alloc (by omega) (.cells #[] 3)))
  have HO0 := Lib.hid (ownsRow_made w 3)
  have HD0 := Lib.hid ((Dn.refl B w).alloc (.cells #[] 3))
  have HLT := Lib.hid hlt
  clear hR hlt
  go_enter Try.func163, Try.ntmps163
  go_wp2
  go_loopw [5, 6] (fun o i wr => ∃ (j : Nat) (xs : List Int), j ≤ k ∧ i = .int .i64 j ∧ Hid (xs.length = j ∧ ∀ x ∈ xs, 0 ≤ x ∧ x ≤ 5) ∧ Hid (wr.ownsRow w.heap.size 3 1 o xs.length (xs.map (Value.int .i64))) ∧ Hid (Rd n0 B (p + j) wr) ∧ Hid (Dn B w wr) ∧ Hid (∃ g c, o = .slice (some ⟨g, 0, none⟩) xs.length c)) (fun _ i _ => k - (intOf i).toNat)
  case atStart => exact ⟨0, [], Nat.zero_le _, rfl, Lib.hid ⟨rfl, fun x hx => by cases hx⟩, Lib.hid HO0.out, Lib.hid (by simpa using HR0.out), HD0, Lib.hid ⟨_, _, rfl⟩⟩
  case round =>
    obtain ⟨j, xs, hj, rfl, HXL, HO, HR, HD, HSM⟩ := hrel
    by_cases hjk : j < k
    · go_wp2_with fail
      refine (pick_dn n0 B (p + j) 6 wr HR.out (by omega) (by omega) (by omega)).mono ?_
      rintro e w1 ⟨x, rfl, hx0, hx1, r1, d1⟩
      have hown := own_dn HO.out HLT.out d1
      have hd1 := HD.out.trans d1
      have HR1 := Lib.hid r1
      have HX1 := Lib.hid HXL.out
      have HX5 : Hid (0 ≤ x ∧ x ≤ 5) := Lib.hid ⟨hx0, by omega⟩
      have hxl : xs.length ≤ 1000 := by have := HXL.out.1; omega
      have hsz := hd1.size
      clear hx0 hx1 r1 d1 HO HR HD HR0 HO0 HD0 HSM
      go_wp2_with (at_builtin; refine wpList_append_own _ rfl _ _ 32 rfl w.heap.size 3 i0 (.int .i64 0) 1 8 Try.underlying32 hi hz0 hz1 hz2 rfl (by decide) _ _ _ rfl (hown.alloc _) ⟨w1.heap.size, 0, none⟩ 1 1 [.int .i64 x] rfl rfl (cell_one_new _ _ _) (by simp [Value.oneCell']) (by unfold maxLen; omega) (by omega) (by simp; omega) ?_; intro v' w6 hown' hgrow _)
      have hge : ∀ q, Value.ownBlock _ = some q → w.heap.size ≤ q := fun q e => (hown.lt q e).1
      have hd6 := (hd1.alloc _).grown hgrow hge
      have hb6 := ((Below.refl (B + 1) w1).alloc (by have := HLT.out; omega) _).grown hgrow (by simp; have := HLT.out; omega) (fun q e => by have := hge q e; have := HLT.out; omega)
      have HR6 := Lib.hid (HR1.out.below hb6)
      have HD6 := Lib.hid hd6
      have HO6 := Lib.hid hown'
      clear hown hown' hgrow hd1 hd6 hb6 hge HR1
      go_wp2
      go_roundw
      case rel => exact ⟨j + 1, xs ++ [x], by omega, by go_num, Lib.hid ⟨by simp [HX1.out.1], fun z hz => by rcases List.mem_append.1 hz with hz | hz; (· exact HX1.out.2 z hz); (· rw [List.mem_singleton] at hz; subst hz; exact HX5.out)⟩, Lib.hid (by rw [List.length_append, List.map_append]; exact HO6.out), Lib.hid (by have := HR6.out; rw [Int.add_assoc] at this; exact this), HD6, Lib.hid (by rw [List.length_append]; exact own_some HO6.out (by simp))⟩
      case measure => simp [intOf]; omega
    · obtain rfl : j = k := by omega
      go_wp2
      go_ret
      exact ⟨_, xs, _, rfl, HXL.out, HO.out, by omega, by omega, HR.out, HD.out, HSM.out⟩
theorem randomRow_any (n0 B k : Nat) (p : Int) (w : World) (hR : Rd n0 B p w) (hp : 0 ≤ p) (hp2 : p ≤ 10000000) (hk : k ≤ 1000) :
    Calls Try.prog 163 #[.pointer (some ⟨B, 0, none⟩), .int .i64 k] w (RowDrawn n0 B p k (fun xs => xs.length = k ∧ ∀ x ∈ xs, 0 ≤ x ∧ x ≤ 5) w) := by
  refine (randomRow_some n0 B k p w hR hp hp2 hk).mono ?_
  rintro e w' ⟨v, xs, p', h1, h2, h3, h4, h5, h6, h7, _⟩
  exact ⟨v, xs, p', h1, h2, h3, h4, h5, h6, h7⟩
end Go.Proofs.Ytjdbfiiaadphhaa
