/- The laws' copies and marks of clauses. The laws' marks on clauses. -/
import Derived.Test.YtipapmmjfoaddaaGreatLit
import Derived.Test.YtipapmmjfoaddaaGreatMkC

/-! The laws' copies and marks of clauses. -/
namespace Go.Proofs.YtipapmmjfoaddaaGreat
open Go.ChangeShapes Go.WideShapes Go.ChangeAt Go.RowKit Go.Deep
set_option linter.unusedVariables false
set_option linter.unusedSimpArgs false

theorem Marked.setBool {lo hi : Nat} {w : World} {b off : Nat} {x : Bool} (hc : w.cell? ⟨b, off, none⟩ = some (.bool x)) (h1 : lo ≤ b) (h2 : b < hi) (y : Bool) : Marked lo hi w (w.setCell ⟨b, off, none⟩ (.bool y)) := by
  refine ⟨rfl, rfl, rfl, by simp, fun q _ ho => Below.heap_setCell _ _ _ q (by show q ≠ b; omega), fun q i _ => frozen_set _ _ _ _, fun p z hz => ?_⟩
  by_cases e : (⟨b, off, none⟩ : Addr) = p
  · subst e
    rw [hc] at hz
    obtain rfl := Option.some.inj hz
    exact ⟨.bool y, World.cell?_setCell_same' _ _ _ (by rw [hc]; rfl), fun i e => (by cases e), fun h => absurd rfl (h.2 x), fun _ _ => ⟨y, rfl⟩⟩
  · exact ⟨z, by rw [show (w.setCell ⟨b, off, none⟩ (.bool y)).cell? p = w.cell? p from by rw [World.cell?_setCell_other]; exact e]; exact hz, fun i ei => ⟨i, ei⟩, fun _ => rfl, fun b e => ⟨b, e⟩⟩

/-- A slice of n literals that may be written, in blocks lo, .., hi - 1. -/
def ShL (lo hi : Nat) (w : World) (v : Value) (n : Nat) : Prop :=
  ∃ a c, v = .slice a n c ∧ n ≤ c ∧ c ≤ maxLen ∧ (n = 0 ∨ ∃ b off, a = some ⟨b, off, none⟩ ∧ lo ≤ b ∧ b < hi ∧ ∀ i, i < n → ∃ (x y : Int) (z : Bool), w.cell? ⟨b, off + i * 3, none⟩ = some (.int .i64 x) ∧ w.cell? ⟨b, off + i * 3 + 1, none⟩ = some (.int .i64 y) ∧ w.cell? ⟨b, off + i * 3 + 2, none⟩ = some (.bool z) ∧ w.frozen? ⟨b, off + i * 3, none⟩ = false ∧ w.frozen? ⟨b, off + i * 3 + 1, none⟩ = false ∧ w.frozen? ⟨b, off + i * 3 + 2, none⟩ = false)
theorem ShL.marked {lo hi lo' hi' : Nat} {w w' : World} {v : Value} {n : Nat} (h : ShL lo hi w v n) (hm : Marked lo' hi' w w') : ShL lo hi w' v n := by
  obtain ⟨a, c, e, h1, h2, h3⟩ := h
  refine ⟨a, c, e, h1, h2, ?_⟩
  rcases h3 with h3 | ⟨b, off, ea, hb1, hb2, h3⟩
  · exact .inl h3
  · refine .inr ⟨b, off, ea, hb1, hb2, fun i hi => ?_⟩
    obtain ⟨x, y, z, c0, c1, c2, f0, f1, f2⟩ := h3 i hi
    have num : ∀ {p} {x : Int}, w.cell? p = some (.int .i64 x) → ∃ z : Int, w'.cell? p = some (.int .i64 z) := fun hu => by
      obtain ⟨z, hz, k1, _⟩ := hm.cell _ _ hu
      obtain ⟨j, ej⟩ := k1 _ rfl
      exact ⟨j, by rw [hz, ej]⟩
    obtain ⟨x', c0'⟩ := num c0
    obtain ⟨y', c1'⟩ := num c1
    obtain ⟨u, hu, _, _, k3⟩ := hm.cell _ _ c2
    obtain ⟨z', ez⟩ := k3 _ rfl
    have hb := World.block_lt_of_cell? w _ c0
    exact ⟨x', y', z', c0', c1', by rw [hu, ez], (hm.frozen b _ hb).trans f0, (hm.frozen b _ hb).trans f1, (hm.frozen b _ hb).trans f2⟩
def ShLits (lo hi : Nat) (w : World) (v : Value) : Prop := ∃ n, ShL lo hi w v n ∧ n ≤ 1048576
theorem ShLits.marked {lo hi lo' hi' : Nat} {w w' : World} {v : Value} (h : ShLits lo hi w v) (hm : Marked lo' hi' w w') : ShLits lo hi w' v := by
  obtain ⟨n, h1, h2⟩ := h
  exact ⟨n, h1.marked hm, h2⟩
theorem ShLits.below {lo hi : Nat} {w w' : World} {v : Value} (h : ShLits lo hi w v) (hb : Below w.heap.size w w') : ShLits lo hi w' v := h.marked (Marked.of_below (lo := 0) (hi := 0) hb)

theorem toLiteralS_sh (v : Value) (ls : List Lit) (w : World) (h : RdLits w v ls) (hx : ls.length ≤ 1048576) :
    Calls Tryz.prog 27 #[v] w fun e w' => ∃ v', e = .returned v' ∧ RdLits w' v' ls ∧ ShLits w.heap.size w'.heap.size w' v' ∧ Below w.heap.size w w' := by
  refine (toLiteralS_any v ls w h hx).mono ?_
  rintro e w' ⟨rfl, rx, ⟨vs, ho, hc⟩, b⟩
  refine ⟨_, rfl, rx, ⟨ls.length, ⟨_, _, rfl, Nat.le_refl _, by unfold maxLen; omega, ?_⟩, hx⟩, b⟩
  by_cases h0 : ls.length = 0
  · exact .inl h0
  · refine .inr ⟨_, _, rfl, Nat.le_refl _, ?_, fun i hi => ?_⟩
    · rcases ho.2 with ⟨e, _⟩ | ⟨g, c, cur, e, _, hg, _⟩
      · simp at e
      · simp at e; obtain ⟨rfl, rfl⟩ := e; exact (Array.getElem?_eq_some_iff.1 hg).1
    · obtain ⟨l, hl⟩ : ∃ l, ls[i]? = some l := ⟨_, List.getElem?_eq_getElem hi⟩
      obtain ⟨a', c', e, _, _, h3⟩ := rx
      simp at e
      obtain ⟨rfl, rfl⟩ := e
      rcases h3 with h3 | ⟨b', off', ea, h3⟩
      · omega
      · simp at ea
        obtain ⟨rfl, rfl⟩ := ea
        obtain ⟨t0, t1, t2⟩ := h3 i l hl
        exact ⟨_, _, _, t0, t1, t2, ho.frozenAt _, ho.frozenAt _, ho.frozenAt _⟩
end Go.Proofs.YtipapmmjfoaddaaGreat

/-! The laws' marks on clauses. -/
namespace Go.Proofs.YtipapmmjfoaddaaGreat
open Go.ChangeShapes Go.WideShapes Go.ChangeAt Go.RowKit Go.Deep
set_option linter.unusedVariables false
set_option linter.unusedSimpArgs false

set_option maxRecDepth 100000 in
set_option maxHeartbeats 4000000 in
theorem markLiteralS_sh (lo hi : Nat) (v : Value) (k : Int) (w : World) (h : ShLits lo hi w v) (h0 : 0 ≤ k) (hk : k ≤ 2000000000000000000) :
    Calls Tryz.prog 38 #[v, .int .i64 k] w (MarksPost lo hi k 3145728 w) := by
  obtain ⟨n, hs, hn⟩ := h
  have HS := Lib.hid hs
  obtain ⟨a, c, rfl, hl, hm, hx⟩ := hs
  clear hx
  unfold maxLen at hm
  unfold MarksPost
  go_enter Tryz.func38, Tryz.ntmps38
  go_wp2
  go_loopw [1, 5] (fun q i wr => ∃ j : Nat, j ≤ n ∧ i = .int .i64 j ∧ q = .int .i64 (k + 3 * j) ∧ Hid (Marked lo hi w wr)) (fun _ i _ => n - (intOf i).toNat)
  case atStart => exact ⟨0, Nat.zero_le _, rfl, by simp, Lib.hid (Marked.refl _ _ _)⟩
  case round =>
    obtain ⟨j, hj, rfl, rfl, HM⟩ := hrel
    by_cases hlt : j < n
    · obtain ⟨a', c', ea, _, _, hx⟩ := HS.out.marked HM.out
      simp at ea
      obtain ⟨rfl, rfl⟩ := ea
      rcases hx with hx | ⟨b, off, rfl, hb1, hb2, hx⟩
      · omega
      obtain ⟨x, y, z, c0, c1, c2, f0, f1, f2⟩ := hx j hlt
      have m1 := Marked.set c0 hb1 hb2 (k + 3 * j)
      have c1' : (wr.setCell ⟨b, off + j * 3, none⟩ (.int .i64 (k + 3 * j))).cell? ⟨b, off + j * 3 + 1, none⟩ = some (.int .i64 y) := by
        rw [World.cell?_setCell_other]
        · exact c1
        · intro e; have := congrArg Addr.off e; simp at this
      have m2 := m1.trans (Marked.set c1' hb1 hb2 (k + 3 * j + 1))
      have c2' : ((wr.setCell ⟨b, off + j * 3, none⟩ (.int .i64 (k + 3 * j))).setCell ⟨b, off + j * 3 + 1, none⟩ (.int .i64 (k + 3 * j + 1))).cell? ⟨b, off + j * 3 + 2, none⟩ = some (.bool z) := by
        rw [World.cell?_setCell_other, World.cell?_setCell_other]
        · exact c2
        · intro e; have := congrArg Addr.off e; simp at this
        · intro e; have := congrArg Addr.off e; simp at this
      have HM3 := Lib.hid (fun (t : Bool) => HM.out.trans (m2.trans (Marked.setBool c2' hb1 hb2 t)))
      clear hx HM m1 m2 c1' c2'
      go_wp2
      go_roundw
      case rel => exact ⟨j + 1, by omega, by go_num, by go_num, Lib.hid (HM3.out _)⟩
      case measure => simp [intOf]; omega
    · obtain rfl : j = n := by omega
      go_wp2
      go_ret
      exact ⟨k + 3 * j, rfl, by omega, by omega, HM.out⟩
end Go.Proofs.YtipapmmjfoaddaaGreat
