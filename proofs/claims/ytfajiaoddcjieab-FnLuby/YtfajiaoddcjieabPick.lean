/- The verifier's own reader: newReader and pick. A pick returns some number below n and moves the reader's position on; nothing else changes. -/
import Derived.Test.YtfajiaoddcjieabDom
import Derived.IntWalk
import Derived.Laws.BitsAllLaws
namespace Go.Proofs.Ytfajiaoddcjieab
open Go.ChangeShapes Go.WideShapes Go.ChangeAt Go.RowKit
set_option linter.unusedVariables false
set_option linter.unusedSimpArgs false

theorem cell_alloc_ne (w : World) (o : Obj) (a : Addr) (h : a.block ≠ w.heap.size) : (w.alloc o).cell? a = w.cell? a := by rw [World.cell?_alloc_old]; exact h
theorem cell_set_ne (w : World) (a b : Addr) (v : Value) (h : a ≠ b) : (w.setCell a v).cell? b = w.cell? b := by rw [World.cell?_setCell_other]; exact h

/-- A reader at block B: its bytes lie in a block below n0, its position is p. -/
def Rd (n0 B : Nat) (p : Int) (W : World) : Prop :=
  n0 ≤ B ∧ W.cell? ⟨B, 1, none⟩ = some (.int .i64 p) ∧ W.frozen? ⟨B, 1, none⟩ = false ∧
  ∃ (a : Option Addr) (len cap : Nat), W.cell? ⟨B, 0, none⟩ = some (.slice a len cap) ∧ len ≤ 2000 ∧
    (len = 0 ∨ ∃ (b off : Nat) (f : Nat → Int), a = some ⟨b, off, none⟩ ∧ b < n0 ∧ (∀ i, 0 ≤ f i ∧ f i ≤ 255) ∧ ∀ i, i < len → W.cell? ⟨b, off + i, none⟩ = some (.int .u8 (f i)))

/-- What a pick below n leaves. -/
def Picked (B : Nat) (p n : Int) (w : World) (e : Ending) (w' : World) : Prop :=
  ∃ (x : Int) (k : Nat), e = .returned (.int .i64 x) ∧ 0 ≤ x ∧ (x < n ∨ x = 0) ∧ w' = (w.setCell ⟨B, 1, none⟩ (.int .i64 (p + 1))).drewN k

theorem i64_xor_nonneg (a b : Int) (h1 : 0 ≤ a) (h2 : a < 4611686018427387904) (h3 : 0 ≤ b) (h4 : b < 4611686018427387904) : 0 ≤ bits .xor .i64 a b := by
  obtain ⟨A, rfl⟩ := Int.eq_ofNat_of_zero_le h1
  obtain ⟨B, rfl⟩ := Int.eq_ofNat_of_zero_le h3
  have hx : A ^^^ B < 2 ^ 62 := Nat.xor_lt_two_pow (by omega) (by omega)
  have e : bits .xor .i64 (A : Int) (B : Int) = IntKind.i64.wrap ((BitVec.ofInt 64 (A : Int) ^^^ BitVec.ofInt 64 (B : Int)).toNat : Int) := rfl
  rw [e, BitVec.toNat_xor, ofInt_u64 A (by omega), ofInt_u64 B (by omega)]
  simp [IntKind.wrap, IntKind.bits, IntKind.signed]
  omega

theorem mix_nonneg (x : Int) (h1 : 0 ≤ x) (h2 : x < 4611686018427387904) : 0 ≤ bits .xor .i64 (wrap64 x) (wrap64 ((wrap64 x).tdiv 64)) := by
  have e1 : wrap64 x = x := IntWalk.wrap64_in x (by omega)
  rw [e1, Int.tdiv_eq_ediv_of_nonneg h1, IntWalk.wrap64_in _ (by omega)]
  exact i64_xor_nonneg x (x / 64) h1 h2 (by omega) (by omega)

theorem mixed_nonneg (a b q l : Int) (h1 : 0 ≤ a ∧ a ≤ 255) (h2 : 0 ≤ b ∧ b ≤ 255) (h3 : 0 ≤ q) (h4 : q ≤ 1000000000) (h5 : 0 < l) :
    0 ≤ a * 131 + b * 1117 + q * 29 + wrap64 (wrap64 (q / l) * 53) ∧ a * 131 + b * 1117 + q * 29 + wrap64 (wrap64 (q / l) * 53) < 4611686018427387904 := by
  have g1 : 0 ≤ q / l := Int.ediv_nonneg h3 (by omega)
  have g2 : q / l ≤ q := Int.ediv_le_self _ h3
  rw [IntWalk.wrap64_in (q / l) (by omega), IntWalk.wrap64_in _ (by omega)]
  omega

set_option maxRecDepth 100000 in
set_option maxHeartbeats 1000000 in
theorem pick_some (B len cap b off : Nat) (f : Nat → Int) (p n : Int) (w : World) (hB : b < B) (hl : len ≤ 2000) (h0 : 0 < len) (hp : 0 ≤ p) (hp2 : p ≤ 1000000000) (hn : 1 ≤ n) (hn2 : n ≤ 1000000)
    (hge : (len : Int) ≤ p)
    (hf : ∀ i, 0 ≤ f i ∧ f i ≤ 255)
    (hb : ∀ i, i < len → w.cell? ⟨b, off + i, none⟩ = some (.int .u8 (f i)))
    (hs : w.cell? ⟨B, 0, none⟩ = some (.slice (some ⟨b, off, none⟩) len cap)) (hc : w.cell? ⟨B, 1, none⟩ = some (.int .i64 p)) (hz : w.frozen? ⟨B, 1, none⟩ = false) :
    Calls Try.prog 13 #[.pointer (some ⟨B, 0, none⟩), .int .i64 n] w (Picked B p n w) := by
  have hd1 : decide (n < 1) = false := by simp; omega
  have hd2 : ((len : Int) == 0) = false := by simp; omega
  obtain ⟨q, rfl⟩ := Int.eq_ofNat_of_zero_le hp
  have hd3 : decide (q < len) = false := by simp; omega
  have hd4 : decide ((q : Int) < (len : Int)) = false := by simp; omega
  obtain ⟨i1, hi1, e1⟩ : ∃ i1, i1 < len ∧ (q : Int).tmod (len : Int) = ((i1 : Nat) : Int) := ⟨q % len, Nat.mod_lt _ h0, by rw [← Int.ofNat_tmod]⟩
  obtain ⟨i2, hi2, e2⟩ : ∃ i2, i2 < len ∧ ((q : Int) * 7 + 3).tmod (len : Int) = ((i2 : Nat) : Int) := ⟨(q * 7 + 3) % len, Nat.mod_lt _ h0, by rw [show (q : Int) * 7 + 3 = ((q * 7 + 3 : Nat) : Int) from by omega, ← Int.ofNat_tmod]⟩
  have c1 := hb i1 hi1
  have c2 := hb i2 hi2
  have f1 := hf i1
  have f2 := hf i2
  go_enter Try.func13, Try.ntmps13
  go_wp2
  go_quiet (fail)
  go_wp2
  go_ret
  have hm := mixed_nonneg (f i1) (f i2) q len f1 f2 (by omega) hp2 (by omega)
  have hx := mix_nonneg _ hm.1 hm.2
  refine ⟨_, nq, rfl, ?_, ?_, rfl⟩
  · exact Int.tmod_nonneg _ hx
  · exact .inl (Int.tmod_lt_of_pos _ (by omega))

set_option maxRecDepth 100000 in
set_option maxHeartbeats 1000000 in
theorem pick_first (B len cap b off : Nat) (f : Nat → Int) (q : Nat) (n : Int) (w : World) (hB : b < B) (hl : len ≤ 2000) (hn : 1 ≤ n) (hn2 : n ≤ 1000000)
    (hlt : q < len)
    (hf : ∀ i, 0 ≤ f i ∧ f i ≤ 255)
    (hb : ∀ i, i < len → w.cell? ⟨b, off + i, none⟩ = some (.int .u8 (f i)))
    (hs : w.cell? ⟨B, 0, none⟩ = some (.slice (some ⟨b, off, none⟩) len cap)) (hc : w.cell? ⟨B, 1, none⟩ = some (.int .i64 q)) (hz : w.frozen? ⟨B, 1, none⟩ = false) :
    Calls Try.prog 13 #[.pointer (some ⟨B, 0, none⟩), .int .i64 n] w (Picked B q n w) := by
  have hd1 : decide (n < 1) = false := by simp; omega
  have hd2 : ((len : Int) == 0) = false := by simp; omega
  have hd3 : decide (q < len) = true := by simp; omega
  have c1 := hb q hlt
  have f1 := hf q
  clear hb hf
  go_enter Try.func13, Try.ntmps13
  go_wp2
  go_ret
  refine ⟨_, 0, rfl, ?_, ?_, rfl⟩
  · exact Int.emod_nonneg _ (by omega)
  · exact .inl (Int.emod_lt_of_pos _ (by omega))

set_option maxRecDepth 100000 in
set_option maxHeartbeats 1000000 in
theorem pick_empty (B cap : Nat) (a : Option Addr) (p n : Int) (w : World) (hp : 0 ≤ p) (hp2 : p ≤ 1000000000) (hn : 1 ≤ n)
    (hs : w.cell? ⟨B, 0, none⟩ = some (.slice a 0 cap)) (hc : w.cell? ⟨B, 1, none⟩ = some (.int .i64 p)) (hz : w.frozen? ⟨B, 1, none⟩ = false) :
    Calls Try.prog 13 #[.pointer (some ⟨B, 0, none⟩), .int .i64 n] w (Picked B p n w) := by
  have hd1 : decide (n < 1) = false := by simp; omega
  go_enter Try.func13, Try.ntmps13
  go_wp2
  go_ret
  exact ⟨_, 0, rfl, Int.le_refl _, .inr rfl, rfl⟩

set_option maxRecDepth 100000 in
set_option maxHeartbeats 1000000 in
theorem pick_none (B len cap : Nat) (a : Option Addr) (p n : Int) (w : World) (hp : 0 ≤ p) (hp2 : p ≤ 1000000000) (hn : n < 1)
    (hs : w.cell? ⟨B, 0, none⟩ = some (.slice a len cap)) (hc : w.cell? ⟨B, 1, none⟩ = some (.int .i64 p)) (hz : w.frozen? ⟨B, 1, none⟩ = false) :
    Calls Try.prog 13 #[.pointer (some ⟨B, 0, none⟩), .int .i64 n] w (Picked B p n w) := by
  have hd1 : decide (n < 1) = true := by simp; omega
  go_enter Try.func13, Try.ntmps13
  go_wp2
  go_ret
  exact ⟨_, 0, rfl, Int.le_refl _, .inr rfl, rfl⟩

/-- A pick of whatever bound. -/
theorem rpick_any (n0 B : Nat) (p n : Int) (w : World) (hR : Rd n0 B p w) (hp : 0 ≤ p) (hp2 : p ≤ 1000000000) (hn2 : n ≤ 1000000) :
    Calls Try.prog 13 #[.pointer (some ⟨B, 0, none⟩), .int .i64 n] w (Picked B p n w) := by
  obtain ⟨hB, hc, hz, a, len, cap, hs, hl, h⟩ := hR
  by_cases hn : n < 1
  · exact pick_none B len cap a p n w hp hp2 hn hs hc hz
  · rcases h with rfl | ⟨b, off, f, rfl, hb0, hf, hb⟩
    · exact pick_empty B cap a p n w hp hp2 (by omega) hs hc hz
    · by_cases h0 : len = 0
      · subst h0
        exact pick_empty B cap _ p n w hp hp2 (by omega) hs hc hz
      · by_cases hlt : p < len
        · obtain ⟨q, rfl⟩ := Int.eq_ofNat_of_zero_le hp
          exact pick_first B len cap b off f q n w (by omega) hl (by omega) hn2 (by omega) hf hb hs hc hz
        · exact pick_some B len cap b off f p n w (by omega) hl (by omega) hp hp2 (by omega) hn2 (by omega) hf hb hs hc hz

theorem Rd.drewN {n0 B : Nat} {p : Int} {w : World} (h : Rd n0 B p w) (k : Nat) : Rd n0 B p (w.drewN k) := by
  obtain ⟨hB, hc, hz, a, len, cap, hs, hl, h⟩ := h
  refine ⟨hB, by simpa using hc, by simpa using hz, a, len, cap, by simpa using hs, hl, ?_⟩
  rcases h with h | ⟨b, off, f, e, hb0, hf, hb⟩
  · exact .inl h
  · exact .inr ⟨b, off, f, e, hb0, hf, fun i hi => by simpa using hb i hi⟩

/-- The bytes that came in. -/
def CodeOk (n0 : Nat) (w : World) (a : Option Addr) (len cap : Nat) : Prop :=
  len ≤ cap ∧ cap ≤ maxLen ∧ (len = 0 ∨ ∃ (b off : Nat) (f : Nat → Int), a = some ⟨b, off, none⟩ ∧ b < n0 ∧ (∀ i, 0 ≤ f i ∧ f i ≤ 255) ∧ ∀ i, i < len → w.cell? ⟨b, off + i, none⟩ = some (.int .u8 (f i)))

theorem codeOk_of (w : World) (a : Option Addr) (len cap : Nat) (zs : List Int)
    (h : (a = none ∧ len = 0 ∧ cap = 0 ∧ zs = []) ∨
      ∃ x, a = some x ∧ len ≤ cap ∧ cap ≤ maxLen ∧ zs.length = cap ∧ (∀ i, i < zs.length → w.cell? (x.add i) = some (.int .u8 (zs.getD i 0))) ∧ ∀ n ∈ zs, (Lit.int .u8 n).wf = true) :
    CodeOk w.heap.size w a len cap := by
  rcases h with ⟨rfl, rfl, rfl, rfl⟩ | ⟨x, rfl, hl, hm, hz, hcell, hwz⟩
  · exact ⟨Nat.le_refl _, by decide, .inl rfl⟩
  · refine ⟨hl, hm, ?_⟩
    by_cases h0 : len = 0
    · exact .inl h0
    · obtain ⟨b, off, spot⟩ := x
      have hc := hcell 0 (by omega)
      have hspot : spot = none := by simpa [Addr.add] using World.cell?_spot hc
      subst hspot
      have hb := World.block_lt_of_cell? w _ hc
      refine .inr ⟨b, off, fun i => zs.getD i 0, rfl, hb, fun i => ?_, fun i hi => ?_⟩
      rotate_left
      · have := hcell i (by omega)
        rw [show (Addr.add ⟨b, off, none⟩ i) = ⟨b, off + i, none⟩ from by unfold Addr.add; split <;> simp_all] at this
        exact this
      by_cases hi : i < zs.length
      · have := hwz (zs.getD i 0) (by simp [hi])
        simpa [Lit.wf, IntKind.min, IntKind.max, IntKind.signed, IntKind.bits] using this
      · have e : zs.getD i 0 = 0 := by simp; rw [List.getElem?_eq_none (by omega)]; rfl
        show 0 ≤ zs.getD i 0 ∧ zs.getD i 0 ≤ 255
        rw [e]; omega

set_option maxRecDepth 100000 in
set_option maxHeartbeats 1000000 in
theorem newReader_any (n0 : Nat) (a : Option Addr) (len cap : Nat) (w : World) (hn : n0 ≤ w.heap.size) (h : CodeOk n0 w a len cap) :
    Calls Try.prog 12 #[.slice a len cap] w fun e w' => e = .returned (.pointer (some ⟨w.heap.size, 0, none⟩)) ∧ Rd n0 w.heap.size 0 w' ∧ Below w.heap.size w w' ∧ w'.heap.size = w.heap.size + 1 := by
  obtain ⟨hl, hm, h⟩ := h
  unfold maxLen at hm
  by_cases h2 : 2000 < len
  · rcases h with h | ⟨b, off, f, rfl, hb0, hf, hb⟩
    · omega
    · have h3 : (2000 : Int) < (len : Int) := by omega
      have h4 : 2000 ≤ cap := by omega
      have HB := Lib.hid hb
      have HF := Lib.hid hf
      clear hb hf
      go_enter Try.func12, Try.ntmps12
      go_wp2
      go_ret
      refine ⟨rfl, ⟨hn, by simp, by simp, some ⟨b, off, none⟩, 2000, cap, by simp, by omega, .inr ⟨b, off, f, rfl, hb0, HF.out, fun i hi => ?_⟩⟩, (Below.refl _ _).alloc (Nat.le_refl _) _, by simp⟩
      rw [cell_alloc_ne _ _ _ (show b ≠ w.heap.size from by omega)]
      exact HB.out i (by omega)
  · have h3 : ¬ (2000 : Int) < (len : Int) := by omega
    have H := Lib.hid h
    clear h
    go_enter Try.func12, Try.ntmps12
    go_wp2
    go_ret
    refine ⟨rfl, ⟨hn, by simp, by simp, a, len, cap, by simp, by omega, ?_⟩, (Below.refl _ _).alloc (Nat.le_refl _) _, by simp⟩
    rcases H.out with h | ⟨b, off, f, rfl, hb0, hf, hb⟩
    · exact .inl h
    · refine .inr ⟨b, off, f, rfl, hb0, hf, fun i hi => ?_⟩
      rw [cell_alloc_ne _ _ _ (show b ≠ w.heap.size from by omega)]
      exact hb i hi

/-- The reader behind a pick. -/
theorem Rd.picked {n0 B : Nat} {p v : Int} {w : World} (h : Rd n0 B p w) (k : Nat) : Rd n0 B v ((w.setCell ⟨B, 1, none⟩ (.int .i64 v)).drewN k) := by
  refine Rd.drewN ?_ k
  obtain ⟨hB, hc, hz, a, len, cap, hs, hl, h⟩ := h
  refine ⟨hB, World.cell?_setCell_same' _ _ _ (by rw [hc]; rfl), by rw [World.frozen?_setCell]; exact hz, a, len, cap, ?_, hl, ?_⟩
  · rw [cell_set_ne _ _ _ _ (by simp)]; exact hs
  · rcases h with h | ⟨b, off, f, e, hb0, hf, hb⟩
    · exact .inl h
    · refine .inr ⟨b, off, f, e, hb0, hf, fun i hi => ?_⟩
      rw [cell_set_ne _ _ _ _ (by intro h; have := congrArg Addr.block h; simp at this; omega)]; exact hb i hi
theorem below_picked {n0 B : Nat} {v : Value} {w : World} (h : n0 ≤ B) (k : Nat) : Below n0 w ((w.setCell ⟨B, 1, none⟩ v).drewN k) := by
  have h1 : Below n0 w (w.setCell ⟨B, 1, none⟩ v) := (Below.refl _ _).setCell (p := ⟨B, 1, none⟩) h _
  induction k with
  | zero => exact h1
  | succ k ih => exact ih.drew
end Go.Proofs.Ytfajiaoddcjieab
