/- The laws' marks on a clause, told exactly; what is held. -/
import Derived.Test.YtipapmmjfoaddaaGreatLitM
import Derived.Test.YtipapmmjfoaddaaGreatLitF
import Derived.Test.YtipapmmjfoaddaaGreatMkC
namespace Go.Proofs.YtipapmmjfoaddaaGreat
open Go.ChangeShapes Go.WideShapes Go.ChangeAt Go.RowKit Go.Deep
set_option linter.unusedVariables false
set_option linter.unusedSimpArgs false

/-- The literal that the law writes at k. -/
def mkLit (k : Int) : Lit := ⟨k, k + 1, ((k + 1 + 1) % 3 == 0)⟩
/-- n of them. -/
def litsFrom (k : Int) (n : Nat) : List Lit := (List.range n).map fun (i : Nat) => mkLit (k + 3 * i)
theorem litsFrom_length (k : Int) (n : Nat) : (litsFrom k n).length = n := by simp [litsFrom]
theorem litsFrom_at (k : Int) (n i : Nat) (h : i < n) : (litsFrom k n)[i]? = some (mkLit (k + 3 * i)) := by simp [litsFrom, h]

set_option maxRecDepth 100000 in
set_option maxHeartbeats 4000000 in
theorem heldLiteralS_any (v : Value) (n : Nat) (k : Int) (w : World) (h : RdLits w v (litsFrom k n)) (hn : n ≤ 1048576) (h0 : 0 ≤ k) (hk : k ≤ 1000000000000000000) :
    Calls Tryz.prog 39 #[v, .int .i64 k] w fun e w' => e = .returned (.int .i64 (k + 3 * n)) ∧ w = w' := by
  have HR := Lib.hid h
  obtain ⟨a, c, ev, hl, hm, _⟩ := h
  rw [ev] at HR ⊢
  rw [litsFrom_length] at hl HR ⊢
  clear ev
  unfold maxLen at hm
  go_enter Tryz.func39, Tryz.ntmps39
  go_wp2
  go_loop [1, 5] (fun q i => ∃ j : Nat, j ≤ n ∧ i = .int .i64 j ∧ q = .int .i64 (k + 3 * j)) (fun _ i => n - (intOf i).toNat)
  case atStart => exact ⟨0, Nat.zero_le _, rfl, by simp⟩
  case round =>
    obtain ⟨j, hj, rfl, rfl⟩ := hrel
    by_cases hlt : j < n
    · obtain ⟨b, off, l, rfl, hck, k0, k1, k2⟩ := rdLits_at HR.out hlt
      rw [litsFrom_at k n j hlt] at hck
      obtain rfl := Option.some.inj hck
      simp only [mkLit] at k0 k1 k2
      have e0 : ((k + 3 * (j : Int)) != (k + 3 * (j : Int))) = false := by simp
      have e1 : ((k + 3 * (j : Int) + 1) != (k + 3 * (j : Int) + 1)) = false := by simp
      have e2 : (!(((k + 3 * (j : Int) + 1 + 1) % 3 == 0) == ((k + 3 * (j : Int) + 1 + 1) % 3 == 0))) = false := by simp
      clear hck
      go_wp2
      go_round
      case rel => exact ⟨j + 1, by omega, by go_num, by go_num⟩
      case measure => simp [intOf]; omega
    · obtain rfl : j = n := by omega
      go_wp2
      go_ret
      exact ⟨rfl, rfl⟩

/-- What marking n literals from k on leaves. -/
def MarkLPost (lo hi : Nat) (k : Int) (n : Nat) (v : Value) (w : World) (e : Ending) (w' : World) : Prop := e = .returned (.int .i64 (k + 3 * n)) ∧ Marked lo hi w w' ∧ RdLits w' v (litsFrom k n)
/-- The first j literals are marked. -/
def mkAt (w : World) (a : Option Addr) (k : Int) (j : Nat) : Prop := ∀ p, p < j → ∀ b off, a = some ⟨b, off, none⟩ → w.cell? ⟨b, off + p * 3, none⟩ = some (.int .i64 (k + 3 * p)) ∧ w.cell? ⟨b, off + p * 3 + 1, none⟩ = some (.int .i64 (k + 3 * p + 1)) ∧ w.cell? ⟨b, off + p * 3 + 2, none⟩ = some (.bool ((k + 3 * p + 1 + 1) % 3 == 0))
theorem cell_set3 {w : World} {b p q : Nat} {u v x z : Value} (h : w.cell? ⟨b, q, none⟩ = some z) (hq : q < p ∨ p + 2 < q) : (((w.setCell ⟨b, p, none⟩ u).setCell ⟨b, p + 1, none⟩ v).setCell ⟨b, p + 2, none⟩ x).cell? ⟨b, q, none⟩ = some z := by
  rw [World.cell?_setCell_other, World.cell?_setCell_other, World.cell?_setCell_other]
  · exact h
  all_goals intro e; have := congrArg Addr.off e; simp at this; omega
set_option maxRecDepth 100000 in
set_option maxHeartbeats 4000000 in
theorem markLiteralS_any (lo hi : Nat) (v : Value) (n : Nat) (k : Int) (w : World) (h : ShL lo hi w v n) (hn : n ≤ 1048576) (h0 : 0 ≤ k) (hk : k ≤ 1000000000000000000) :
    Calls Tryz.prog 38 #[v, .int .i64 k] w (MarkLPost lo hi k n v w) := by
  have HS := Lib.hid h
  obtain ⟨a, c, rfl, hl, hm, hx⟩ := h
  have hm' := hm
  clear hx
  unfold maxLen at hm
  unfold MarkLPost
  go_enter Tryz.func38, Tryz.ntmps38
  go_wp2
  go_loopw [1, 5] (fun q i wr => ∃ j : Nat, j ≤ n ∧ i = .int .i64 j ∧ q = .int .i64 (k + 3 * j) ∧ Hid (Marked lo hi w wr) ∧ Hid (mkAt wr a k j)) (fun _ i _ => n - (intOf i).toNat)
  case atStart => exact ⟨0, Nat.zero_le _, rfl, by simp, Lib.hid (Marked.refl _ _ _), Lib.hid (fun p hp => by omega)⟩
  case round =>
    obtain ⟨j, hj, rfl, rfl, HM, HK⟩ := hrel
    by_cases hlt : j < n
    · obtain ⟨a', c', ea, _, _, hx⟩ := HS.out.marked HM.out
      simp at ea
      obtain ⟨rfl, rfl⟩ := ea
      rcases hx with hx | ⟨b, off, rfl, hb1, hb2, hx⟩
      · omega
      obtain ⟨x, y, z, c0, c1, c2, f0, f1, f2⟩ := hx j hlt
      have m1 := Marked.set c0 hb1 hb2 (k + 3 * j)
      have c1' : (wr.setCell ⟨b, off + j * 3, none⟩ (.int .i64 (k + 3 * j))).cell? ⟨b, off + j * 3 + 1, none⟩ = some (.int .i64 y) := by
        rw [World.cell?_setCell_other]
        · exact c1
        · intro e; have := congrArg Addr.off e; simp at this
      have m2 := m1.trans (Marked.set c1' hb1 hb2 (k + 3 * j + 1))
      have c2' : ((wr.setCell ⟨b, off + j * 3, none⟩ (.int .i64 (k + 3 * j))).setCell ⟨b, off + j * 3 + 1, none⟩ (.int .i64 (k + 3 * j + 1))).cell? ⟨b, off + j * 3 + 2, none⟩ = some (.bool z) := by
        rw [World.cell?_setCell_other, World.cell?_setCell_other]
        · exact c2
        · intro e; have := congrArg Addr.off e; simp at this
        · intro e; have := congrArg Addr.off e; simp at this
      have HM3 := Lib.hid (HM.out.trans (m2.trans (Marked.setBool c2' hb1 hb2 ((k + 3 * j + 1 + 1) % 3 == 0))))
      have HK3 : Hid (mkAt (((wr.setCell ⟨b, off + j * 3, none⟩ (.int .i64 (k + 3 * j))).setCell ⟨b, off + j * 3 + 1, none⟩ (.int .i64 (k + 3 * j + 1))).setCell ⟨b, off + j * 3 + 2, none⟩ (.bool ((k + 3 * j + 1 + 1) % 3 == 0))) (some ⟨b, off, none⟩) k (j + 1)) := Lib.hid (fun p hp b' off' e => by
        simp at e
        obtain ⟨rfl, rfl⟩ := e
        by_cases ep : p = j
        · subst ep
          refine ⟨?_, ?_, World.cell?_setCell_same' _ _ _ (by rw [c2']; rfl)⟩
          · rw [World.cell?_setCell_other, World.cell?_setCell_other]
            · exact World.cell?_setCell_same' _ _ _ (by rw [c0]; rfl)
            all_goals intro e; have := congrArg Addr.off e; simp at this
          · rw [World.cell?_setCell_other]
            · exact World.cell?_setCell_same' _ _ _ (by rw [c1']; rfl)
            · intro e; have := congrArg Addr.off e; simp at this
        · obtain ⟨t0, t1, t2⟩ := HK.out p (by omega) b off rfl
          exact ⟨cell_set3 t0 (by omega), cell_set3 t1 (by omega), cell_set3 t2 (by omega)⟩)
      clear hx HM m1 m2 c1' c2' HK
      go_wp2
      go_roundw
      case rel => exact ⟨j + 1, by omega, by go_num, by go_num, HM3, HK3⟩
      case measure => simp [intOf]; omega
    · obtain rfl : j = n := by omega
      have HF : Hid (RdLits wr (.slice a j c) (litsFrom k j)) := Lib.hid (by
        obtain ⟨a', c', ea, _, _, hx⟩ := HS.out
        simp at ea
        obtain ⟨rfl, rfl⟩ := ea
        refine ⟨a, c, by rw [litsFrom_length], by rw [litsFrom_length]; exact hl, hm', ?_⟩
        rcases hx with hx | ⟨b, off, rfl, _, _, _⟩
        · exact .inl (by rw [litsFrom_length]; exact hx)
        · refine .inr ⟨b, off, rfl, fun i l hi => ?_⟩
          have hij : i < j := by have := (List.getElem?_eq_some_iff.1 hi).1; rw [litsFrom_length] at this; exact this
          rw [litsFrom_at k j i hij] at hi
          obtain rfl := Option.some.inj hi
          exact HK.out i hij b off rfl)
      go_wp2
      go_ret
      exact ⟨rfl, HM.out, HF.out⟩

/-! A result that is a clause. -/
theorem OwnC.rdN {w : World} {B : Nat} {v : Value} {m : Nat} {ls : List Lit} (h : OwnC w B v m ls) : RdLits w v ls := by
  obtain ⟨a, c, ev, h1, h2, h3⟩ := h.form
  subst ev
  have hm := h.1
  subst hm
  refine ⟨a, c, rfl, h1, by unfold maxLen; omega, ?_⟩
  by_cases h0 : ls.length = 0
  · exact .inl h0
  · obtain ⟨g, rfl, _⟩ := h3 (by omega)
    refine .inr ⟨g, 0, rfl, fun i l hi => ?_⟩
    rw [Nat.zero_add]
    exact h.cells hi
/-- A clause of a call's own, which may be written. -/
def GLits (B : Nat) (w : World) (v : Value) (ls : List Lit) : Prop :=
  RdLits w v ls ∧ ∀ b off n c, v = .slice (some ⟨b, off, none⟩) n c → 0 < n → B ≤ b ∧ ∀ i, w.frozen? ⟨b, i, none⟩ = false
theorem gLits_of_own {B : Nat} {w : World} {v : Value} {ls : List Lit} (h : OwnC w B v ls.length ls) : GLits B w v ls := by
  refine ⟨h.rdN, fun b off n c e hn => ?_⟩
  rcases h.2.2 with ⟨ev, _⟩ | ⟨g, cap, cur, ev, hB, hg, _⟩
  · rw [ev] at e; cases e
  · rw [ev] at e
    simp at e
    obtain ⟨⟨rfl, rfl⟩, _⟩ := e
    exact ⟨hB, fun i => by simp [World.frozen?, hg]⟩
theorem GLits.lt {B : Nat} {w : World} {v : Value} {ls : List Lit} (h : GLits B w v ls) {b off n c : Nat} (e : v = .slice (some ⟨b, off, none⟩) n c) (hn : 0 < n) : b < w.heap.size := by
  obtain ⟨a, cap, ev, _, _, h3⟩ := h.1
  rw [e] at ev
  simp at ev
  obtain ⟨rfl, rfl, rfl⟩ := ev
  rcases h3 with h3 | ⟨b', o', e', h3⟩
  · omega
  · simp at e'
    obtain ⟨rfl, rfl⟩ := e'
    exact World.block_lt_of_cell? w _ (h3 0 _ (List.getElem?_eq_getElem hn)).1
theorem GLits.below {B : Nat} {w w' : World} {v : Value} {ls : List Lit} (h : GLits B w v ls) (hb : Below w.heap.size w w') : GLits B w' v ls :=
  ⟨h.1.below hb, fun b off n c e hn => ⟨(h.2 b off n c e hn).1, fun i => (frozen_below hb (h.lt e hn) i).trans ((h.2 b off n c e hn).2 i)⟩⟩
theorem GLits.marked {B lo hi : Nat} {w w' : World} {v : Value} {ls : List Lit} (h : GLits B w v ls) (hm : Marked lo hi w w') (hB : hi ≤ B) : GLits B w' v ls := by
  refine ⟨?_, fun b off n c e hn => ⟨(h.2 b off n c e hn).1, fun i => (hm.frozen b i (h.lt e hn)).trans ((h.2 b off n c e hn).2 i)⟩⟩
  obtain ⟨a, cap, e, h1, h2, h3⟩ := id h.1
  refine ⟨a, cap, e, h1, h2, ?_⟩
  rcases h3 with h3 | ⟨b, off, ea, h3⟩
  · exact .inl h3
  · by_cases h0 : ls.length = 0
    · exact .inl h0
    · refine .inr ⟨b, off, ea, fun i l hi' => ?_⟩
      have hb := (h.2 b off _ _ (by rw [e, ea]) (by omega)).1
      obtain ⟨k0, k1, k2⟩ := h3 i l hi'
      have hl := World.block_lt_of_cell? w _ k0
      have := hm.block b hl (.inr (by omega))
      have key : ∀ o x, w.cell? ⟨b, o, none⟩ = some x → w'.cell? ⟨b, o, none⟩ = some x := fun o x k => by
        unfold World.cell? at k ⊢
        rw [this]
        exact k
      exact ⟨key _ _ k0, key _ _ k1, key _ _ k2⟩
theorem GLits.sh {B : Nat} {w : World} {v : Value} {ls : List Lit} (h : GLits B w v ls) : ShL B w.heap.size w v ls.length := by
  obtain ⟨a, c, e, h1, h2, h3⟩ := id h.1
  refine ⟨a, c, e, h1, h2, ?_⟩
  rcases h3 with h3 | ⟨b, off, ea, h3⟩
  · exact .inl h3
  · by_cases h0 : ls.length = 0
    · exact .inl h0
    · obtain ⟨q1, q2⟩ := h.2 b off _ _ (by rw [e, ea]) (by omega)
      refine .inr ⟨b, off, ea, q1, World.block_lt_of_cell? w _ (h3 0 _ (List.getElem?_eq_getElem (by omega))).1, fun i hi => ?_⟩
      obtain ⟨k0, k1, k2⟩ := h3 i _ (List.getElem?_eq_getElem hi)
      exact ⟨_, _, _, k0, k1, k2, q2 _, q2 _, q2 _⟩
theorem GLits.slice {B : Nat} {w : World} {v : Value} {ls : List Lit} (h : GLits B w v ls) : ∃ a c, v = .slice a ls.length c := by
  obtain ⟨a, c, e, _⟩ := h.1; exact ⟨a, c, e⟩
/-- A call that answers a clause of its own and a truth value. -/
def PairC (ys : List Lit) (t : Bool) (w : World) (e : Ending) (w' : World) : Prop := ∃ v, e = .returned (.tuple #[v, .bool t]) ∧ OwnC w' w.heap.size v ys.length ys ∧ Below w.heap.size w w'
theorem pairC_of {ys zs : List Lit} {s t : Bool} {w w' : World} {e : Ending} (h1 : ys = zs) (h2 : s = t) (h : PairC zs t w e w') : PairC ys s w e w' := by rw [h1, h2]; exact h
end Go.Proofs.YtipapmmjfoaddaaGreat
