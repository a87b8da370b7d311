/- Draws of numbers: some number; the reader goes on; nothing else that was there changes. Draws of lists: the reader's block turns, new blocks come; nothing else. Worlds without one block: what is read beside the reader. Frames: the blocks of a set may turn, new blocks come; nothing else. -/
import Derived.Test.YtjdbfiiaadphhaaPick
import Derived.Test.YtjdbfiiaadphhaaSolA

/-! Draws of numbers: some number; the reader goes on; nothing else that was there changes. -/
namespace Go.Proofs.Ytjdbfiiaadphhaa
open Go.ChangeShapes Go.WideShapes Go.ChangeAt Go.RowKit
set_option linter.unusedVariables false
set_option linter.unusedSimpArgs false

/-- What a draw of a number leaves: the reader has gone on by at most s picks. -/
def NumDrawn (n0 B : Nat) (p s : Int) (w : World) (e : Ending) (w' : World) : Prop :=
  ∃ (x p' : Int), e = .returned (.int .i64 x) ∧ p ≤ p' ∧ p' ≤ p + s ∧ Rd n0 B p' w' ∧ Below n0 w w'

theorem pick_num (n0 B : Nat) (p n : Int) (w : World) (hR : Rd n0 B p w) (hp : 0 ≤ p) (hp2 : p ≤ 1000000000) (hn2 : n ≤ 1000000) :
    Calls Try.prog 125 #[.pointer (some ⟨B, 0, none⟩), .int .i64 n] w fun e w' => ∃ x : Int, e = .returned (.int .i64 x) ∧ 0 ≤ x ∧ (x < n ∨ x = 0) ∧ Rd n0 B (p + 1) w' ∧ Below n0 w w' := by
  refine (rpick_any n0 B p n w hR hp hp2 hn2).mono ?_
  rintro e w' ⟨x, k, rfl, h0, h1, rfl⟩
  exact ⟨x, rfl, h0, h1, hR.picked k, below_picked hR.1 k⟩

theorem Rd.alloc {n0 B : Nat} {p : Int} {w : World} (h : Rd n0 B p w) (hn : n0 ≤ w.heap.size) (o : Obj) : Rd n0 B p (w.alloc o) := by
  obtain ⟨hB, hc, hz, a, len, cap, hs, hl, h⟩ := h
  have k : ∀ (q : Addr) (x : Value), w.cell? q = some x → (w.alloc o).cell? q = some x := fun q x hq => (cell_alloc_ne _ _ _ (Nat.ne_of_lt (World.block_lt_of_cell? w _ hq))).trans hq
  have hlt := World.block_lt_of_cell? w _ hc
  refine ⟨hB, k _ _ hc, ?_, a, len, cap, k _ _ hs, hl, ?_⟩
  · have := World.frozen?_alloc_past (w := w) o B 1 hlt
    rw [this]; exact hz
  · rcases h with h | ⟨b, off, f, e, hb0, hf, hb⟩
    · exact .inl h
    · exact .inr ⟨b, off, f, e, hb0, hf, fun i hi => k _ _ (hb i hi)⟩

set_option maxRecDepth 100000 in
set_option maxHeartbeats 2000000 in
theorem one_any (n0 B L m : Nat) (p : Int) (f : Nat → Int) (w : World) (hR : Rd n0 B p w) (hp : 0 ≤ p) (hp2 : p ≤ 100000000) (hm : 0 < m) (hm2 : m ≤ 1000) (hL : L ≠ B) (hc : ∀ i, i < m → w.cell? ⟨L, i, none⟩ = some (.int .i64 (f i))) :
    Calls Try.prog 153 #[.pointer (some ⟨B, 0, none⟩), .slice (some ⟨L, 0, none⟩) m m] w (NumDrawn n0 B p 1 w) := by
  have HC := Lib.hid hc
  clear hc
  go_enter Try.func153, Try.ntmps153
  go_wp2_with fail
  refine (rpick_any n0 B p m w hR hp (by omega) (by omega)).mono ?_
  rintro e w1 ⟨x, k, rfl, hx0, hx1, hw1⟩
  obtain ⟨i, rfl⟩ := Int.eq_ofNat_of_zero_le hx0
  have hi : i < m := by omega
  have hci : w1.cell? ⟨L, i, none⟩ = some (.int .i64 (f i)) := by
    rw [hw1, World.cell?_drewN, cell_set_ne _ _ _ _ (by intro h; have := congrArg Addr.block h; simp at this; exact hL this.symm)]
    exact HC.out i hi
  have r1 : Rd n0 B (p + 1) w1 := by rw [hw1]; exact hR.picked k
  have b1 : Below n0 w w1 := by rw [hw1]; exact below_picked hR.1 k
  clear hw1 hx0 hx1
  go_wp2
  go_ret
  exact ⟨_, _, rfl, by omega, by omega, r1, b1⟩

end Go.Proofs.Ytjdbfiiaadphhaa

/-! Draws of lists: the reader's block turns, new blocks come; nothing else. -/
namespace Go.Proofs.Ytjdbfiiaadphhaa
open Go.ChangeShapes Go.WideShapes Go.ChangeAt Go.RowKit
set_option linter.unusedVariables false
set_option linter.unusedSimpArgs false

/-- Of the blocks that were there, only B may have turned. -/
structure Dn (B : Nat) (w w' : World) : Prop where
  os : w'.os = w.os
  tape : w'.tape = w.tape
  output : w'.output = w.output
  size : w.heap.size ≤ w'.heap.size
  block : ∀ k, k < w.heap.size → k ≠ B → w'.heap[k]? = w.heap[k]?
theorem Dn.refl (B : Nat) (w : World) : Dn B w w := ⟨rfl, rfl, rfl, Nat.le_refl _, fun _ _ _ => rfl⟩
theorem Dn.trans {B : Nat} {a b c : World} (h : Dn B a b) (k : Dn B b c) : Dn B a c :=
  ⟨k.os.trans h.os, k.tape.trans h.tape, k.output.trans h.output, Nat.le_trans h.size k.size, fun i hi hB => (k.block i (Nat.lt_of_lt_of_le hi h.size) hB).trans (h.block i hi hB)⟩
theorem Dn.of_below {B : Nat} {w w' : World} (h : Below w.heap.size w w') : Dn B w w' := ⟨h.os, h.tape, h.output, h.size, fun k hk _ => h.block k hk⟩
theorem Dn.below {n0 B : Nat} {w w' : World} (h : Dn B w w') (h1 : n0 ≤ B) (h2 : n0 ≤ w.heap.size) : Below n0 w w' := ⟨h.os, h.tape, h.output, h.size, fun k hk => h.block k (by omega) (by omega)⟩
/-- A step that turns a row in a block from the start's end on. -/
theorem Dn.grown {B : Nat} {a w w' : World} {row : Option Nat} (h : Dn B a w) (hg : w.grownBy w' row) (hr : ∀ k, row = some k → a.heap.size ≤ k) : Dn B a w' := by
  have hb : Below a.heap.size w w' := (Below.refl _ w).grown hg h.size hr
  exact ⟨hb.os.trans h.os, hb.tape.trans h.tape, hb.output.trans h.output, Nat.le_trans h.size hb.size, fun k hk hB => (hb.block k hk).trans (h.block k hk hB)⟩
theorem Dn.alloc {B : Nat} {a w : World} (h : Dn B a w) (o : Obj) : Dn B a (w.alloc o) := h.trans (Dn.of_below ((Below.refl _ w).alloc (Nat.le_refl _) o))
theorem dn_picked {B : Nat} {w : World} (v : Value) (k : Nat) : Dn B w ((w.setCell ⟨B, 1, none⟩ v).drewN k) := by
  have h1 : Dn B w (w.setCell ⟨B, 1, none⟩ v) := by
    have hb : Below 0 w (w.setCell ⟨B, 1, none⟩ v) := (Below.refl 0 w).setCell (p := ⟨B, 1, none⟩) (Nat.zero_le _) v
    exact ⟨hb.os, hb.tape, hb.output, hb.size, fun j _ hj => Below.heap_setCell w _ v j (by simpa using hj)⟩
  exact h1.trans (Dn.of_below (below_drewN' (Below.refl _ _) k))
theorem Rd.below {n0 B : Nat} {p : Int} {w w' : World} (h : Rd n0 B p w) (hb : Below (B + 1) w w') : Rd n0 B p w' := by
  obtain ⟨hB, hc, hz, a, len, cap, hs, hl, h⟩ := h
  refine ⟨hB, (hb.cell (by simp)).trans hc, (hb.frozen (by simp)).trans hz, a, len, cap, (hb.cell (by simp)).trans hs, hl, ?_⟩
  rcases h with h | ⟨b, off, f, e, hb0, hf, hbb⟩
  · exact .inl h
  · exact .inr ⟨b, off, f, e, hb0, hf, fun i hi => (hb.cell (by simp; omega)).trans (hbb i hi)⟩
theorem Rd.lt {n0 B : Nat} {p : Int} {w : World} (h : Rd n0 B p w) : B < w.heap.size := World.block_lt_of_cell? w _ h.2.1
theorem own_dn {B base : Nat} {w w' : World} {e : TypeId} {v : Value} {n : Nat} {xs : List Value} (h : w.ownsRow base e 1 v n xs) (hB : B < base) (hd : Dn B w w') : w'.ownsRow base e 1 v n xs := by
  refine ⟨h.1, ?_⟩
  rcases h.2 with h | ⟨g, cap, cur, e1, h1, h2, h3⟩
  · exact .inl h
  · exact .inr ⟨g, cap, cur, e1, h1, (hd.block g (Array.getElem?_eq_some_iff.1 h2).1 (by omega)).trans h2, h3⟩

theorem pick_dn (n0 B : Nat) (p n : Int) (w : World) (hR : Rd n0 B p w) (hp : 0 ≤ p) (hp2 : p ≤ 1000000000) (hn2 : n ≤ 1000000) :
    Calls Try.prog 125 #[.pointer (some ⟨B, 0, none⟩), .int .i64 n] w fun e w' => ∃ x : Int, e = .returned (.int .i64 x) ∧ 0 ≤ x ∧ (x < n ∨ x = 0) ∧ Rd n0 B (p + 1) w' ∧ Dn B w w' := by
  refine (rpick_any n0 B p n w hR hp hp2 hn2).mono ?_
  rintro e w' ⟨x, k, rfl, h0, h1, rfl⟩
  exact ⟨x, rfl, h0, h1, hR.picked k, dn_picked _ k⟩

set_option maxRecDepth 100000 in
set_option maxHeartbeats 2000000 in
theorem one_dn (n0 B L m : Nat) (p : Int) (f : Nat → Int) (w : World) (hR : Rd n0 B p w) (hp : 0 ≤ p) (hp2 : p ≤ 100000000) (hm : 0 < m) (hm2 : m ≤ 1000) (hL : L ≠ B) (hc : ∀ i, i < m → w.cell? ⟨L, i, none⟩ = some (.int .i64 (f i))) :
    Calls Try.prog 153 #[.pointer (some ⟨B, 0, none⟩), .slice (some ⟨L, 0, none⟩) m m] w fun e w' => ∃ i, i < m ∧ e = .returned (.int .i64 (f i)) ∧ Rd n0 B (p + 1) w' ∧ Dn B w w' := by
  have HC := Lib.hid hc
  clear hc
  go_enter Try.func153, Try.ntmps153
  go_wp2_with fail
  refine (rpick_any n0 B p m w hR hp (by omega) (by omega)).mono ?_
  rintro e w1 ⟨x, k, rfl, hx0, hx1, hw1⟩
  obtain ⟨i, rfl⟩ := Int.eq_ofNat_of_zero_le hx0
  have hi : i < m := by omega
  have hci : w1.cell? ⟨L, i, none⟩ = some (.int .i64 (f i)) := by
    rw [hw1, World.cell?_drewN, cell_set_ne _ _ _ _ (by intro h; have := congrArg Addr.block h; simp at this; exact hL this.symm)]
    exact HC.out i hi
  have r1 : Rd n0 B (p + 1) w1 := by rw [hw1]; exact hR.picked k
  have b1 : Dn B w w1 := by rw [hw1]; exact dn_picked _ k
  clear hw1 hx0 hx1
  go_wp2
  go_ret
  exact ⟨i, hi, rfl, r1, b1⟩

/-- A list that was drawn. -/
def RowDrawn (n0 B : Nat) (p s : Int) (P : List Int → Prop) (w : World) (e : Ending) (w' : World) : Prop :=
  ∃ (v : Value) (xs : List Int) (p' : Int), e = .returned v ∧ P xs ∧ w'.ownsRow w.heap.size 3 1 v xs.length (xs.map (Value.int .i64)) ∧ p ≤ p' ∧ p' ≤ p + s ∧ Rd n0 B p' w' ∧ Dn B w w'

/-- A list that was drawn, and whose place is no nil. -/
def RowDrawnS (n0 B : Nat) (p s : Int) (P : List Int → Prop) (w : World) (e : Ending) (w' : World) : Prop :=
  ∃ (v : Value) (xs : List Int) (p' : Int), e = .returned v ∧ P xs ∧ w'.ownsRow w.heap.size 3 1 v xs.length (xs.map (Value.int .i64)) ∧ p ≤ p' ∧ p' ≤ p + s ∧ Rd n0 B p' w' ∧ Dn B w w' ∧ ∃ g c, v = .slice (some ⟨g, 0, none⟩) xs.length c
theorem own_some {w : World} {B : Nat} {e : TypeId} {sz n : Nat} {v : Value} {xs : List Value} (h : w.ownsRow B e sz v n xs) (hn : n ≠ 0) : ∃ g c, v = .slice (some ⟨g, 0, none⟩) n c := by
  rcases h.2 with h2 | ⟨g, cap, cur, e, _⟩
  · exact absurd h2.2 hn
  · exact ⟨g, cap, e⟩

set_option maxRecDepth 100000 in
set_option maxHeartbeats 4000000 in
theorem randomRow_some (n0 B k : Nat) (p : Int) (w : World) (hR : Rd n0 B p w) (hp : 0 ≤ p) (hp2 : p ≤ 10000000) (hk : k ≤ 1000) :
    Calls Try.prog 163 #[.pointer (some ⟨B, 0, none⟩), .int .i64 k] w (RowDrawnS n0 B p k (fun xs => xs.length = k ∧ ∀ x ∈ xs, 0 ≤ x ∧ x ≤ 5) w) := by
  obtain ⟨i0, hi, hz0, hz1, hz2⟩ := info_parts Try.info3
  have hlt := hR.lt
  have HR0 := Lib.hid (hR.below ((Below.refl _ w).alloc (by omega) (.cells #[] 3)))
  have HO0 := Lib.hid (ownsRow_made w 3)
  have HD0 := Lib.hid ((Dn.refl B w).alloc (.cells #[] 3))
  have HLT := Lib.hid hlt
  clear hR hlt
  go_enter Try.func163, Try.ntmps163
  go_wp2
  go_loopw [5, 6] (fun o i wr => ∃ (j : Nat) (xs : List Int), j ≤ k ∧ i = .int .i64 j ∧ Hid (xs.length = j ∧ ∀ x ∈ xs, 0 ≤ x ∧ x ≤ 5) ∧ Hid (wr.ownsRow w.heap.size 3 1 o xs.length (xs.map (Value.int .i64))) ∧ Hid (Rd n0 B (p + j) wr) ∧ Hid (Dn B w wr) ∧ Hid (∃ g c, o = .slice (some ⟨g, 0, none⟩) xs.length c)) (fun _ i _ => k - (intOf i).toNat)
  case atStart => exact ⟨0, [], Nat.zero_le _, rfl, Lib.hid ⟨rfl, fun x hx => by cases hx⟩, Lib.hid HO0.out, Lib.hid (by simpa using HR0.out), HD0, Lib.hid ⟨_, _, rfl⟩⟩
  case round =>
    obtain ⟨j, xs, hj, rfl, HXL, HO, HR, HD, HSM⟩ := hrel
    by_cases hjk : j < k
    · go_wp2_with fail
      refine (pick_dn n0 B (p + j) 6 wr HR.out (by omega) (by omega) (by omega)).mono ?_
      rintro e w1 ⟨x, rfl, hx0, hx1, r1, d1⟩
      have hown := own_dn HO.out HLT.out d1
      have hd1 := HD.out.trans d1
      have HR1 := Lib.hid r1
      have HX1 := Lib.hid HXL.out
      have HX5 : Hid (0 ≤ x ∧ x ≤ 5) := Lib.hid ⟨hx0, by omega⟩
      have hxl : xs.length ≤ 1000 := by have := HXL.out.1; omega
      have hsz := hd1.size
      clear hx0 hx1 r1 d1 HO HR HD HR0 HO0 HD0 HSM
      go_wp2_with (at_builtin; refine wpList_append_own _ rfl _ _ 32 rfl w.heap.size 3 i0 (.int .i64 0) 1 8 Try.underlying32 hi hz0 hz1 hz2 rfl (by decide) _ _ _ rfl (hown.alloc _) ⟨w1.heap.size, 0, none⟩ 1 1 [.int .i64 x] rfl rfl (cell_one_new _ _ _) (by simp [Value.oneCell']) (by unfold maxLen; omega) (by omega) (by simp; omega) ?_; intro v' w6 hown' hgrow _)
      have hge : ∀ q, Value.ownBlock _ = some q → w.heap.size ≤ q := fun q e => (hown.lt q e).1
      have hd6 := (hd1.alloc _).grown hgrow hge
      have hb6 := ((Below.refl (B + 1) w1).alloc (by have := HLT.out; omega) _).grown hgrow (by simp; have := HLT.out; omega) (fun q e => by have := hge q e; have := HLT.out; omega)
      have HR6 := Lib.hid (HR1.out.below hb6)
      have HD6 := Lib.hid hd6
      have HO6 := Lib.hid hown'
      clear hown hown' hgrow hd1 hd6 hb6 hge HR1
      go_wp2
      go_roundw
      case rel => exact ⟨j + 1, xs ++ [x], by omega, by go_num, Lib.hid ⟨by simp [HX1.out.1], fun z hz => by rcases List.mem_append.1 hz with hz | hz; (· exact HX1.out.2 z hz); (· rw [List.mem_singleton] at hz; subst hz; exact HX5.out)⟩, Lib.hid (by rw [List.length_append, List.map_append]; exact HO6.out), Lib.hid (by have := HR6.out; rw [Int.add_assoc] at this; exact this), HD6, Lib.hid (by rw [List.length_append]; exact own_some HO6.out (by simp))⟩
      case measure => simp [intOf]; omega
    · obtain rfl : j = k := by omega
      go_wp2
      go_ret
      exact ⟨_, xs, _, rfl, HXL.out, HO.out, by omega, by omega, HR.out, HD.out, HSM.out⟩
theorem randomRow_any (n0 B k : Nat) (p : Int) (w : World) (hR : Rd n0 B p w) (hp : 0 ≤ p) (hp2 : p ≤ 10000000) (hk : k ≤ 1000) :
    Calls Try.prog 163 #[.pointer (some ⟨B, 0, none⟩), .int .i64 k] w (RowDrawn n0 B p k (fun xs => xs.length = k ∧ ∀ x ∈ xs, 0 ≤ x ∧ x ≤ 5) w) := by
  refine (randomRow_some n0 B k p w hR hp hp2 hk).mono ?_
  rintro e w' ⟨v, xs, p', h1, h2, h3, h4, h5, h6, h7, _⟩
  exact ⟨v, xs, p', h1, h2, h3, h4, h5, h6, h7⟩
end Go.Proofs.Ytjdbfiiaadphhaa

/-! Worlds without one block: what is read beside the reader. -/
namespace Go.Proofs.Ytjdbfiiaadphhaa
open Go.ChangeShapes Go.WideShapes Go.ChangeAt Go.RowKit
set_option linter.unusedVariables false
set_option linter.unusedSimpArgs false

/-- What is read in w is read in w'. -/
def Inc (w w' : World) : Prop := ∀ (p : Addr) (x : Value), w.cell? p = some x → w'.cell? p = some x
theorem Inc.of_below {w w' : World} (h : Below w.heap.size w w') : Inc w w' := fun p x hp => (h.cell (World.block_lt_of_cell? w _ hp)).trans hp
theorem RdInts.inc {w w' : World} {v : Value} {xs : List Int} (h : RdInts w v xs) (hb : Inc w w') : RdInts w' v xs := by
  obtain ⟨a, cap, e, h1, h2, h3⟩ := h
  refine ⟨a, cap, e, h1, h2, ?_⟩
  rcases h3 with h3 | ⟨b, off, ea, h3⟩
  · exact .inl h3
  · exact .inr ⟨b, off, ea, fun i hi => hb _ _ (h3 i hi)⟩
theorem RdRows.inc {w w' : World} {v : Value} {xs : List (List Int)} (h : RdRows w v xs) (hb : Inc w w') : RdRows w' v xs := by
  obtain ⟨a, cap, e, h1, h2, h3⟩ := h
  refine ⟨a, cap, e, h1, h2, ?_⟩
  rcases h3 with h3 | ⟨b, off, ea, h3⟩
  · exact .inl h3
  · refine .inr ⟨b, off, ea, fun i hi => ?_⟩
    obtain ⟨u, hu, hr⟩ := h3 i hi
    exact ⟨u, hb _ _ hu, hr.inc hb⟩
theorem RdCon.inc {w w' : World} {v : Value} {c : Con} (h : RdCon w v c) (hb : Inc w w') : RdCon w' v c := by
  obtain ⟨u2, u3, u5, e, h2, h3, h5⟩ := h
  exact ⟨u2, u3, u5, e, h2.inc hb, h3.inc hb, h5.inc hb⟩
theorem RdCons.inc {w w' : World} {v : Value} {cs : List Con} (h : RdCons w v cs) (hb : Inc w w') : RdCons w' v cs := by
  obtain ⟨a, cap, e, h1, h2, h3⟩ := h
  refine ⟨a, cap, e, h1, h2, ?_⟩
  rcases h3 with h3 | ⟨b, off, ea, h3⟩
  · exact .inl h3
  · refine .inr ⟨b, off, ea, fun i c hi => ?_⟩
    obtain ⟨u2, u3, u5, e0, e1, e2, e3, e4, r2, r3, r5⟩ := h3 i c hi
    exact ⟨u2, u3, u5, hb _ _ e0, hb _ _ e1, hb _ _ e2, hb _ _ e3, hb _ _ e4, r2.inc hb, r3.inc hb, r5.inc hb⟩
/-- The world without block B: what is read in it does not lie there. -/
def wo (B : Nat) (w : World) : World := { w with heap := w.heap.setIfInBounds B (.cells #[] 0) }
theorem wo_ne (B : Nat) (w : World) {k : Nat} (h : k ≠ B) : (wo B w).heap[k]? = w.heap[k]? := by
  show (w.heap.setIfInBounds B _)[k]? = _
  rw [Array.getElem?_setIfInBounds_ne (Ne.symm h)]
theorem wo_size (B : Nat) (w : World) : (wo B w).heap.size = w.heap.size := by
  show (w.heap.setIfInBounds B _).size = _
  rw [Array.size_setIfInBounds]
theorem wo_at (B : Nat) (w : World) {p : Addr} {x : Value} (h : (wo B w).cell? p = some x) : p.block ≠ B ∧ w.cell? p = some x := by
  have hb := World.block_lt_of_cell? _ _ h
  rw [wo_size] at hb
  by_cases e : p.block = B
  · exfalso
    unfold World.cell? at h
    rw [show (wo B w).heap[p.block]? = some (.cells #[] 0) from by show (w.heap.setIfInBounds B _)[p.block]? = _; rw [e, Array.getElem?_setIfInBounds_self_of_lt (by omega)]] at h
    simp at h
  · refine ⟨e, ?_⟩
    unfold World.cell? at h ⊢
    rw [wo_ne B w e] at h
    exact h
theorem wo_mk (B : Nat) (w : World) {p : Addr} {x : Value} (e : p.block ≠ B) (h : w.cell? p = some x) : (wo B w).cell? p = some x := by
  unfold World.cell? at h ⊢
  rw [wo_ne B w e]
  exact h
theorem wo_inc (B : Nat) (w : World) : Inc (wo B w) w := fun p x h => (wo_at B w h).2
theorem wo_cell_same {w w' : World} {p : Addr} (h : w'.heap[p.block]? = w.heap[p.block]?) : w'.cell? p = w.cell? p := by
  unfold World.cell?
  rw [h]
theorem wo_below {B : Nat} {w w' : World} (h : Below w.heap.size w w') : Inc (wo B w) (wo B w') := fun p x hp => by
  obtain ⟨e, h1⟩ := wo_at B w hp
  exact wo_mk B w' e ((h.cell (World.block_lt_of_cell? w _ h1)).trans h1)
theorem wo_keep {B : Nat} {w w' : World} (h : ∀ k, k < w.heap.size → k ≠ B → w'.heap[k]? = w.heap[k]?) : Inc (wo B w) (wo B w') := fun p x hp => by
  obtain ⟨e, h1⟩ := wo_at B w hp
  exact wo_mk B w' e ((wo_cell_same (h _ (World.block_lt_of_cell? w _ h1) e)).trans h1)
theorem own_wo {B base : Nat} {w : World} {e : TypeId} {sz n : Nat} {v : Value} {xs : List Value} (h : w.ownsRow base e sz v n xs) (hB : B < base) : (wo B w).ownsRow base e sz v n xs := by
  refine ⟨h.1, ?_⟩
  rcases h.2 with h2 | ⟨g, cap, cur, e, h3, hg, rest⟩
  · exact .inl h2
  · exact .inr ⟨g, cap, cur, e, h3, (wo_ne B w (by omega)).trans hg, rest⟩
theorem own_form {w : World} {B : Nat} {e : TypeId} {sz n : Nat} {v : Value} {xs : List Value} (h : w.ownsRow B e sz v n xs) : ∃ a c, v = .slice a n c ∧ n ≤ c ∧ c ≤ maxLen := by
  rcases h.2 with ⟨e, h0⟩ | ⟨g, cap, cur, e, _, _, h3, h4, _⟩
  · exact ⟨none, 0, by rw [e, h0], by omega, by decide⟩
  · exact ⟨_, cap, e, h3, h4⟩
theorem own_at {w : World} {B g n c : Nat} {e : TypeId} {sz : Nat} {xs : List Value} (h : w.ownsRow B e sz (.slice (some ⟨g, 0, none⟩) n c) n xs) : B ≤ g ∧ g < w.heap.size := by
  rcases h.2 with ⟨e, _⟩ | ⟨g', cap, cur, e, hB, hg, _⟩
  · cases e
  · simp at e; obtain ⟨rfl, rfl⟩ := e; exact ⟨hB, (Array.getElem?_eq_some_iff.1 hg).1⟩
end Go.Proofs.Ytjdbfiiaadphhaa

/-! Frames: the blocks of a set may turn, new blocks come; nothing else. -/
namespace Go.Proofs.Ytjdbfiiaadphhaa
open Go.ChangeShapes Go.WideShapes Go.ChangeAt Go.RowKit
set_option linter.unusedVariables false
set_option linter.unusedSimpArgs false

/-- The world without the blocks of Q. -/
def av (Q : Nat → Bool) (w : World) : World := { w with heap := w.heap.mapIdx (fun i o => if Q i then .cells #[] 0 else o) }
theorem av_heap (Q : Nat → Bool) (w : World) (k : Nat) : (av Q w).heap[k]? = (w.heap[k]?).map (fun o => if Q k then .cells #[] 0 else o) := by
  show (w.heap.mapIdx _)[k]? = _
  rw [Array.getElem?_mapIdx]
theorem av_ne (Q : Nat → Bool) (w : World) {k : Nat} (h : Q k = false) : (av Q w).heap[k]? = w.heap[k]? := by
  rw [av_heap, h]
  simp
theorem av_at (Q : Nat → Bool) (w : World) {p : Addr} {x : Value} (h : (av Q w).cell? p = some x) : Q p.block = false ∧ w.cell? p = some x := by
  cases e : Q p.block
  · refine ⟨rfl, ?_⟩
    unfold World.cell? at h ⊢
    rw [av_ne Q w e] at h
    exact h
  · exfalso
    unfold World.cell? at h
    rw [av_heap, e] at h
    cases hw : w.heap[p.block]? with
    | none => rw [hw] at h; simp at h
    | some o => rw [hw] at h; simp at h
theorem av_mk (Q : Nat → Bool) (w : World) {p : Addr} {x : Value} (e : Q p.block = false) (h : w.cell? p = some x) : (av Q w).cell? p = some x := by
  unfold World.cell? at h ⊢
  rw [av_ne Q w e]
  exact h
theorem av_inc (Q : Nat → Bool) (w : World) : Inc (av Q w) w := fun p x h => (av_at Q w h).2
theorem av_wo (Q : Nat → Bool) (B : Nat) (hB : Q B = true) (w : World) : Inc (av Q w) (wo B w) := fun p x h => by
  obtain ⟨e, h1⟩ := av_at Q w h
  exact wo_mk B w (by intro e2; rw [e2, hB] at e; cases e) h1
theorem wo_av (Q : Nat → Bool) (B : Nat) (w : World) (hQ : ∀ k, k < w.heap.size → Q k = true → k = B) : Inc (wo B w) (av Q w) := fun p x h => by
  obtain ⟨e, h1⟩ := wo_at B w h
  refine av_mk Q w ?_ h1
  cases hq : Q p.block
  · rfl
  · exact absurd (hQ _ (World.block_lt_of_cell? w _ h1) hq) e
/-- Of the blocks of a, only those of Q may have turned. -/
structure Fr (Q : Nat → Bool) (a w : World) : Prop where
  os : w.os = a.os
  tape : w.tape = a.tape
  output : w.output = a.output
  size : a.heap.size ≤ w.heap.size
  block : ∀ k, k < a.heap.size → Q k = false → w.heap[k]? = a.heap[k]?
theorem Fr.refl (Q : Nat → Bool) (a : World) : Fr Q a a := ⟨rfl, rfl, rfl, Nat.le_refl _, fun _ _ _ => rfl⟩
theorem Fr.trans {Q : Nat → Bool} {a b c : World} (h : Fr Q a b) (k : Fr Q b c) : Fr Q a c :=
  ⟨k.os.trans h.os, k.tape.trans h.tape, k.output.trans h.output, Nat.le_trans h.size k.size, fun i hi hq => (k.block i (Nat.lt_of_lt_of_le hi h.size) hq).trans (h.block i hi hq)⟩
theorem Fr.of_below {Q : Nat → Bool} {a w : World} (h : Below a.heap.size a w) : Fr Q a w := ⟨h.os, h.tape, h.output, h.size, fun k hk _ => h.block k hk⟩
theorem Fr.low {Q : Nat → Bool} {a w w' : World} (h : Fr Q a w) (hb : Below a.heap.size w w') : Fr Q a w' :=
  ⟨hb.os.trans h.os, hb.tape.trans h.tape, hb.output.trans h.output, Nat.le_trans h.size hb.size, fun k hk hq => (hb.block k hk).trans (h.block k hk hq)⟩
theorem Fr.alloc {Q : Nat → Bool} {a w : World} (h : Fr Q a w) (o : Obj) : Fr Q a (w.alloc o) := h.low ((Below.refl _ _).alloc h.size o)
theorem Fr.grown {Q : Nat → Bool} {a w w' : World} {row : Option Nat} (h : Fr Q a w) (hg : w.grownBy w' row) (hr : ∀ k, row = some k → a.heap.size ≤ k) : Fr Q a w' :=
  h.low ((Below.refl _ w).grown hg h.size hr)
theorem Fr.setCell {Q : Nat → Bool} {a w : World} (h : Fr Q a w) {p : Addr} (hp : Q p.block = true) (v : Value) : Fr Q a (w.setCell p v) := by
  have hb : Below 0 w (w.setCell p v) := (Below.refl 0 w).setCell (p := p) (Nat.zero_le _) v
  exact ⟨hb.os.trans h.os, hb.tape.trans h.tape, hb.output.trans h.output, Nat.le_trans h.size hb.size, fun j hj hq => (Below.heap_setCell w _ v j (by intro e; rw [← e] at hp; rw [hp] at hq; cases hq)).trans (h.block j hj hq)⟩
theorem Fr.inc {Q : Nat → Bool} {a w : World} (h : Fr Q a w) : Inc (av Q a) (av Q w) := fun p x hp => by
  obtain ⟨e, h1⟩ := av_at Q a hp
  exact av_mk Q w e ((wo_cell_same (h.block _ (World.block_lt_of_cell? a _ h1) e)).trans h1)
theorem own_av {Q : Nat → Bool} {base : Nat} {w : World} {e : TypeId} {sz n : Nat} {v : Value} {xs : List Value} (h : w.ownsRow base e sz v n xs) (hQ : ∀ k, base ≤ k → Q k = false) : (av Q w).ownsRow base e sz v n xs := by
  refine ⟨h.1, ?_⟩
  rcases h.2 with h2 | ⟨g, cap, cur, e, h3, hg, rest⟩
  · exact .inl h2
  · exact .inr ⟨g, cap, cur, e, h3, (av_ne Q w (hQ g h3)).trans hg, rest⟩
theorem Fr.of_dn {Q : Nat → Bool} {B : Nat} {a w : World} (hQ : Q B = true) (h : Dn B a w) : Fr Q a w :=
  ⟨h.os, h.tape, h.output, h.size, fun k hk hq => h.block k hk (by intro e; rw [e, hQ] at hq; cases hq)⟩
theorem Dn.of_fr {Q : Nat → Bool} {B : Nat} {a w : World} (h : Fr Q a w) (hQ : ∀ k, k < a.heap.size → Q k = true → k = B) : Dn B a w :=
  ⟨h.os, h.tape, h.output, h.size, fun k hk hB => h.block k hk (by cases e : Q k; (· rfl); (· exact absurd (hQ k hk e) hB))⟩
theorem own_keepB {w w' : World} {B : Nat} {e : TypeId} {sz n : Nat} {v : Value} {xs : List Value} (h : w.ownsRow B e sz v n xs) (hk : ∀ b, v.ownBlock = some b → w'.heap[b]? = w.heap[b]?) : w'.ownsRow B e sz v n xs := by
  refine ⟨h.1, ?_⟩
  rcases h.2 with h2 | ⟨g, cap, cur, e, h3, hg, rest⟩
  · exact .inl h2
  · exact .inr ⟨g, cap, cur, e, h3, (hk g (by rw [e]; rfl)).trans hg, rest⟩

end Go.Proofs.Ytjdbfiiaadphhaa
