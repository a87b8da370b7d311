/- NegateAll, both packages. -/
import Derived.Test.YtipapmmjfoaddaaLitG
import Derived.Test.YtipapmmjfoaddaaLitHe
import Derived.Test.YtipapmmjfoaddaaNgs
import Derived.Test.YtipapmmjfoaddaaOrdX
import Derived.Test.YtipapmmjfoaddaaLitX
import Derived.Test.YtipapmmjfoaddaaLitW
import Derived.Test.YtipapmmjfoaddaaMkC
namespace Go.Proofs.Ytipapmmjfoaddaa
open Go.ChangeShapes Go.WideShapes Go.ChangeAt Go.RowKit Go.Deep Go.Shelf
set_option linter.unusedVariables false
set_option linter.unusedSimpArgs false

theorem OwnC.rdN {w : World} {B : Nat} {v : Value} {m : Nat} {ls : List Lit} (h : OwnC w B v m ls) : RdLits w v ls := by
  obtain ⟨a, c, ev, h1, h2, h3⟩ := h.form
  subst ev
  have hm := h.1
  subst hm
  refine ⟨a, c, rfl, h1, by unfold maxLen; omega, ?_⟩
  by_cases h0 : ls.length = 0
  · exact .inl h0
  · obtain ⟨g, rfl, _⟩ := h3 (by omega)
    refine .inr ⟨g, 0, rfl, fun i l hi => ?_⟩
    rw [Nat.zero_add]
    exact h.cells hi
/-- A clause of a call's own, which may be written. -/
def GLits (B : Nat) (w : World) (v : Value) (ls : List Lit) : Prop :=
  RdLits w v ls ∧ ∀ b off n c, v = .slice (some ⟨b, off, none⟩) n c → 0 < n → B ≤ b ∧ ∀ i, w.frozen? ⟨b, i, none⟩ = false
theorem gLits_of_own {B : Nat} {w : World} {v : Value} {ls : List Lit} (h : OwnC w B v ls.length ls) : GLits B w v ls := by
  refine ⟨h.rdN, fun b off n c e hn => ?_⟩
  rcases h.2.2 with ⟨ev, _⟩ | ⟨g, cap, cur, ev, hB, hg, _⟩
  · rw [ev] at e; cases e
  · rw [ev] at e
    simp at e
    obtain ⟨⟨rfl, rfl⟩, _⟩ := e
    exact ⟨hB, fun i => by simp [World.frozen?, hg]⟩
theorem GLits.lt {B : Nat} {w : World} {v : Value} {ls : List Lit} (h : GLits B w v ls) {b off n c : Nat} (e : v = .slice (some ⟨b, off, none⟩) n c) (hn : 0 < n) : b < w.heap.size := by
  obtain ⟨a, cap, ev, _, _, h3⟩ := h.1
  rw [e] at ev
  simp at ev
  obtain ⟨rfl, rfl, rfl⟩ := ev
  rcases h3 with h3 | ⟨b', o', e', h3⟩
  · omega
  · simp at e'
    obtain ⟨rfl, rfl⟩ := e'
    exact World.block_lt_of_cell? w _ (h3 0 _ (List.getElem?_eq_getElem hn)).1
theorem GLits.below {B : Nat} {w w' : World} {v : Value} {ls : List Lit} (h : GLits B w v ls) (hb : Below w.heap.size w w') : GLits B w' v ls :=
  ⟨h.1.below hb, fun b off n c e hn => ⟨(h.2 b off n c e hn).1, fun i => (frozen_below hb (h.lt e hn) i).trans ((h.2 b off n c e hn).2 i)⟩⟩
theorem GLits.marked {B lo hi : Nat} {w w' : World} {v : Value} {ls : List Lit} (h : GLits B w v ls) (hm : Marked lo hi w w') (hB : hi ≤ B) : GLits B w' v ls := by
  refine ⟨?_, fun b off n c e hn => ⟨(h.2 b off n c e hn).1, fun i => (hm.frozen b i (h.lt e hn)).trans ((h.2 b off n c e hn).2 i)⟩⟩
  obtain ⟨a, cap, e, h1, h2, h3⟩ := id h.1
  refine ⟨a, cap, e, h1, h2, ?_⟩
  rcases h3 with h3 | ⟨b, off, ea, h3⟩
  · exact .inl h3
  · by_cases h0 : ls.length = 0
    · exact .inl h0
    · refine .inr ⟨b, off, ea, fun i l hi' => ?_⟩
      have hb := (h.2 b off _ _ (by rw [e, ea]) (by omega)).1
      obtain ⟨k0, k1, k2⟩ := h3 i l hi'
      have hl := World.block_lt_of_cell? w _ k0
      have := hm.block b hl (.inr (by omega))
      have key : ∀ o x, w.cell? ⟨b, o, none⟩ = some x → w'.cell? ⟨b, o, none⟩ = some x := fun o x k => by
        unfold World.cell? at k ⊢
        rw [this]
        exact k
      exact ⟨key _ _ k0, key _ _ k1, key _ _ k2⟩
theorem GLits.sh {B : Nat} {w : World} {v : Value} {ls : List Lit} (h : GLits B w v ls) : ShL B w.heap.size w v ls.length := by
  obtain ⟨a, c, e, h1, h2, h3⟩ := id h.1
  refine ⟨a, c, e, h1, h2, ?_⟩
  rcases h3 with h3 | ⟨b, off, ea, h3⟩
  · exact .inl h3
  · by_cases h0 : ls.length = 0
    · exact .inl h0
    · obtain ⟨q1, q2⟩ := h.2 b off _ _ (by rw [e, ea]) (by omega)
      refine .inr ⟨b, off, ea, q1, World.block_lt_of_cell? w _ (h3 0 _ (List.getElem?_eq_getElem (by omega))).1, fun i hi => ?_⟩
      obtain ⟨k0, k1, k2⟩ := h3 i _ (List.getElem?_eq_getElem hi)
      exact ⟨_, _, _, k0, k1, k2, q2 _, q2 _, q2 _⟩
theorem GLits.slice {B : Nat} {w : World} {v : Value} {ls : List Lit} (h : GLits B w v ls) : ∃ a c, v = .slice a ls.length c := by
  obtain ⟨a, c, e, _⟩ := h.1; exact ⟨a, c, e⟩

/-! The one sorted list of the negations. -/
theorem asc_uniqueN : ∀ (a b : List Lit), Asc a → Asc b → (∀ z, z ∈ a ↔ z ∈ b) → a = b
  | [], [], _, _, _ => rfl
  | [], y :: b, _, _, h => by have := (h y).2 (List.mem_cons_self ..); cases this
  | x :: a, [], _, _, h => by have := (h x).1 (List.mem_cons_self ..); cases this
  | x :: a, y :: b, ha, hb, h => by
    have pa := List.pairwise_cons.1 ha
    have pb := List.pairwise_cons.1 hb
    have hxy : x = y := by
      rcases List.mem_cons.1 ((h x).1 (List.mem_cons_self ..)) with e | e
      · exact e
      · rcases List.mem_cons.1 ((h y).2 (List.mem_cons_self ..)) with f | f
        · exact f.symm
        · have := litLt_trans (pb.1 x e) (pa.1 y f)
          rw [litLt_irrefl] at this
          cases this
    subst hxy
    rw [asc_uniqueN a b pa.2 pb.2 (fun z => ?_)]
    constructor
    · intro hz
      rcases List.mem_cons.1 ((h z).1 (List.mem_cons_of_mem _ hz)) with e | e
      · have := pa.1 z hz
        rw [e, litLt_irrefl] at this
        cases this
      · exact e
    · intro hz
      rcases List.mem_cons.1 ((h z).2 (List.mem_cons_of_mem _ hz)) with e | e
      · have := pb.1 z hz
        rw [e, litLt_irrefl] at this
        cases this
      · exact e
/-- The clause of the negations, in order. -/
def ngaL (ls : List Lit) : List Lit := mrgL [] (ls.map ngL)
/-- What NegateAll answers. -/
def nagL (n : Int) (ls : List Lit) : List Lit := if vclB ls n then ngaL ls else []
theorem ngL_inj {a b : Lit} (h : ngL a = ngL b) : a = b := by
  obtain ⟨a1, a2, a3⟩ := a
  obtain ⟨b1, b2, b3⟩ := b
  unfold ngL at h
  injection h with h1 h2 h3
  simp only at h1 h2 h3
  subst h1 h2
  cases a3 <;> cases b3 <;> simp at h3 ⊢
theorem asc_of_srt {cs : List Lit} (h : SrtTo cs cs.length) (hd : cs.Pairwise (fun a b => a ≠ b)) : Asc cs :=
  List.pairwise_iff_getElem.2 (fun i j hi hj hij => by
    have h1 := h i j cs[i] cs[j] hij hj (List.getElem?_eq_getElem hi) (List.getElem?_eq_getElem hj)
    rcases litLt_total _ _ h1 with e | e
    · exact ((List.pairwise_iff_getElem.1 hd) i j hi hj hij e.symm).elim
    · exact e)
theorem ng_sorted {ls cs : List Lit} (hls : Asc ls) (hp : cs.Perm (ls.map ngL)) (hs : SrtTo cs ls.length) : cs = ngaL ls := by
  have hn : (ls.map ngL).Pairwise (fun a b => a ≠ b) := by
    rw [List.pairwise_map]
    exact hls.imp (fun {a b} h e => by
      rw [ngL_inj e, litLt_irrefl] at h
      cases h)
  have hd : cs.Pairwise (fun a b => a ≠ b) := hp.symm.pairwise hn (fun h e => h e.symm)
  have hlen : cs.length = ls.length := by rw [hp.length_eq, List.length_map]
  refine asc_uniqueN _ _ (asc_of_srt (by rw [hlen]; exact hs) hd) (asc_mrgL _ _ List.Pairwise.nil) (fun z => ?_)
  unfold ngaL
  rw [mem_mrgL, hp.mem_iff]
  simp
theorem ngaL_le (ls : List Lit) : (ngaL ls).length ≤ ls.length := by
  have := mrgL_leA (ls.map ngL) []
  unfold ngaL
  simp at this
  exact this
theorem nagL_le (n : Int) (ls : List Lit) : (nagL n ls).length ≤ 1048576 := by
  unfold nagL
  split
  · rename_i h
    have h1 := ngaL_le ls
    have h2 : ls.length ≤ 12 := by
      unfold vclB clB at h
      simp at h
      exact h.2.1
    omega
  · simp
def PairC (ys : List Lit) (t : Bool) (w : World) (e : Ending) (w' : World) : Prop := ∃ v, e = .returned (.tuple #[v, .bool t]) ∧ OwnC w' w.heap.size v ys.length ys ∧ Below w.heap.size w w'
theorem pairC_of {ys zs : List Lit} {s t : Bool} {w w' : World} {e : Ending} (h1 : ys = zs) (h2 : s = t) (h : PairC zs t w e w') : PairC ys s w e w' := by rw [h1, h2]; exact h
theorem vcl_parts {ls : List Lit} {n : Int} (h : vclB ls n = true) : ls.length ≤ 12 ∧ Asc ls := by
  have h1 : clB ls n = true := by
    unfold vclB at h
    simp at h
    exact h.2
  refine ⟨?_, clB_asc h1⟩
  unfold clB at h1
  simp at h1
  exact h1.1

section
set_option maxRecDepth 100000
theorem exec_fieldL1 {w : World} {ev : Operand → Value} {o : Oper} {x : Operand} {b q : Nat} (ho : o.op = .fieldAddr 64 x 1) (hx : ev x = .pointer (some ⟨b, q, none⟩)) : (execOp ev o).run Try.prog w = .ok (.value (.pointer (some ⟨b, q + 1, none⟩))) w := by
  unfold execOp
  simp only [ho, hx]
  go_simp
theorem exec_fieldL2 {w : World} {ev : Operand → Value} {o : Oper} {x : Operand} {b q : Nat} (ho : o.op = .fieldAddr 64 x 2) (hx : ev x = .pointer (some ⟨b, q, none⟩)) : (execOp ev o).run Try.prog w = .ok (.value (.pointer (some ⟨b, q + 2, none⟩))) w := by
  unfold execOp
  simp only [ho, hx]
  go_simp
theorem exec_notN {w : World} {ev : Operand → Value} {o : Oper} {x : Operand} {b : Bool} (ho : o.op = .unOp .not 4 x) (hx : ev x = .bool b) : (execOp ev o).run Try.prog w = .ok (.value (.bool (!b))) w := by
  unfold execOp
  simp only [ho, hx]
  go_simp
theorem exec_buildL {w : World} {ev : Operand → Value} {o : Oper} {x0 x1 x2 : Operand} {k b : Int} {z : Bool} (ho : o.op = .build 64 #[(0, x0), (1, x1), (2, x2)]) (h0 : ev x0 = .int .i64 k) (h1 : ev x1 = .int .i64 b) (h2 : ev x2 = .bool z) : (execOp ev o).run Try.prog w = .ok (.value (.agg #[.int .i64 k, .int .i64 b, .bool z])) w := by
  unfold execOp
  simp only [ho, List.map_toArray, List.map_cons, List.map_nil, h0, h1, h2]
  go_simp
theorem load_boolN (w : World) (g j : Nat) (z : Bool) (hc : w.cell? ⟨g, j, none⟩ = some (.bool z)) : (loadVar 4 ⟨g, j, none⟩).run Try.prog w = .ok (.bool z) w := by
  go_simp
end
/-- The activation inside the drawn region of negateAll. -/
def ngAct (z0 z1 z2 z3 z4 z5 z6 z7 z8 z9 z10 z11 z12 z13 z14 z15 z16 z17 z18 z19 z20 z21 z22 z23 z24 z25 z26 z27 z28 z29 z30 z31 z32 : Value) : Act := { tmps := #[z0, z1, z2, z3, z4, z5, z6, z7, z8, z9, z10, z11, z12, z13, z14, z15, z16, z17, z18, z19, z20, z21, z22, z23, z24, z25, z26, z27, z28, z29, z30, z31, z32], defers := [] }

set_option maxRecDepth 100000 in
set_option maxHeartbeats 16000000 in
theorem snegateAll_any (v : Value) (ls : List Lit) (w : World) (h : RdLits w v ls) (h12 : ls.length ≤ 12) :
    Calls Try.prog 37 #[v] w (LitsPost (ngaL ls) w) := by
  unfold LitsPost
  have HL := Lib.hid h
  obtain ⟨a, cap, ev, -⟩ := id h
  obtain ⟨m, hm⟩ : ∃ m, m = ls.length := ⟨_, rfl⟩
  rw [ev] at HL ⊢
  have hlc := rdLits_len HL.out
  rw [← hm] at HL hlc h12 ⊢
  have HM := Lib.hid hm
  have hlc1 := hlc.2.1
  have hlc2 := hlc.2.2
  clear ev h hm hlc
  obtain ⟨W1, hW1⟩ : ∃ W1, w.alloc (.cells #[] 64) = W1 := ⟨_, rfl⟩
  have HB1 : Hid (Below w.heap.size w W1) := Lib.hid (by rw [← hW1]; exact below1 _ _)
  have HO1 : Hid (OwnL W1 w.heap.size (.slice (some ⟨w.heap.size, 0, none⟩) 0 0) (mrgL [] ((ls.map ngL).take 0))) := Lib.hid (by rw [← hW1]; exact ownL_new w _ (Nat.le_refl _))
  have HW1 := Lib.hid hW1
  clear hW1
  go_enter Try.func37, Try.ntmps37
  go_wp2
  rw [HW1.out]
  go_loopw [3, 4] (fun q i wr => ∃ k : Nat, k ≤ m ∧ i = .int .i64 k ∧ Hid (OwnL wr w.heap.size q (mrgL [] ((ls.map ngL).take k))) ∧ Hid (Below w.heap.size w wr)) (fun _ i _ => m - (intOf i).toNat)
  case atStart => exact ⟨0, Nat.zero_le _, rfl, HO1, HB1⟩
  case round =>
    obtain ⟨k, hk, rfl, HO, HB⟩ := hrel
    by_cases hlt : k < m
    · obtain ⟨b, off, l, rfl, hck, c0, c1, c2⟩ := rdLits_at (HL.out.below HB.out) hlt
      have hckn : (ls.map ngL)[k]? = some (ngL l) := by rw [List.getElem?_map, hck]; rfl
      obtain ⟨p, hp⟩ : ∃ p, p = mrgL [] ((ls.map ngL).take k) := ⟨_, rfl⟩
      rw [← hp] at HO
      have HNX : Hid (mrgL [] ((ls.map ngL).take (k + 1)) = mrgL p [ngL l]) := Lib.hid (by rw [mrgL_snoc _ _ _ _ hckn, ← hp]; rfl)
      have hpl : p.length ≤ 12 := by
        have := mrgL_leA ((ls.map ngL).take k) []
        rw [← hp] at this
        simp at this
        omega
      obtain ⟨g, n, c, evo⟩ := HO.out.slice
      subst evo
      obtain ⟨x, y, z⟩ := l
      simp only at c0 c1 c2
      have hS : LitAt b (off + k * 3) ⟨x, y, z⟩ wr.drew := ⟨c0, c1, c2⟩
      have HOW : Hid (OwnL wr.drew w.heap.size (.slice (some ⟨g, 0, none⟩) n c) p) := Lib.hid (HO.out.below (Below.refl _ _).drew)
      have HBD : Hid (Below w.heap.size w wr.drew) := Lib.hid HB.out.drew
      have HE := Lib.hid (smerge_gen (.slice (some ⟨g, 0, none⟩) n c) (.slice (some ⟨wr.drew.heap.size, 0, none⟩) 1 1) p [⟨x, y, !z⟩] (wr.drew.alloc (.cells #[.int .i64 x, .int .i64 y, .bool (!z)] 64)) (HOW.out.below (below1 _ _)).rd (rdLits_one wr.drew ⟨x, y, !z⟩) (by omega) (by simp))
      clear hck hckn hp c0 c1 c2 hpl
      go_wp2_with fail
      refine region_x (fun w' => LitAt b (off + k * 3) ⟨x, y, z⟩ w') (fun _ => false) rfl ?_
      change wpAnyX Try.prog .any _ _ _ _ 21 _ (ngAct _ _ _ _ _ _ _ _ _ _ _ _ _ _ _ _ _ _ _ _ _ _ _ _ _ _ _ _ _ _ _ _ _) wr.drew
      refine wpAnyX_take (i := 0) (v := .slice (some ⟨g, 0, none⟩) n c) rfl (by kernel_rfl) (by kernel_rfl) (by kernel_rfl) (by kernel_rfl) (fun _ _ _ h => h) (.inl ⟨rfl, fun w' hw' => rfl⟩) hS ?_
      change wpAnyX Try.prog .any _ _ _ _ 20 _ (ngAct _ _ _ _ _ _ _ _ _ _ _ _ (.slice (some ⟨g, 0, none⟩) n c) _ _ _ _ _ _ _ _ _ _ _ _ _ _ _ _ _ _ _ _) wr.drew
      refine wpAnyX_take (i := 1) (v := .slice (some ⟨b, off, none⟩) m cap) rfl (by kernel_rfl) (by kernel_rfl) (by kernel_rfl) (by kernel_rfl) (fun _ _ _ h => h) (.inl ⟨rfl, fun w' hw' => rfl⟩) hS ?_
      change wpAnyX Try.prog .any _ _ _ _ 19 _ (ngAct _ _ _ _ _ _ _ _ _ _ _ _ (.slice (some ⟨g, 0, none⟩) n c) (.slice (some ⟨b, off, none⟩) m cap) _ _ _ _ _ _ _ _ _ _ _ _ _ _ _ _ _ _ _) wr.drew
      refine wpAnyX_take (i := 2) (v := .int .i64 k) rfl (by kernel_rfl) (by kernel_rfl) (by kernel_rfl) (by kernel_rfl) (fun _ _ _ h => h) (.inl ⟨rfl, fun w' hw' => rfl⟩) hS ?_
      change wpAnyX Try.prog .any _ _ _ _ 18 _ (ngAct _ _ _ _ _ _ _ _ _ _ _ _ (.slice (some ⟨g, 0, none⟩) n c) (.slice (some ⟨b, off, none⟩) m cap) (.int .i64 k) _ _ _ _ _ _ _ _ _ _ _ _ _ _ _ _ _ _) wr.drew
      refine wpAnyX_take (i := 3) (v := .pointer (some ⟨b, off + k * 3, none⟩)) rfl (by kernel_rfl) (by kernel_rfl) (by kernel_rfl) (by kernel_rfl) (fun _ _ _ h => h) (.inl ⟨rfl, fun w' hw' => exec_index rfl rfl rfl (index_lits w' _ _ _ _ _ hlt)⟩) hS ?_
      change wpAnyX Try.prog .any _ _ _ _ 17 _ (ngAct _ _ _ _ _ _ _ _ _ _ _ _ (.slice (some ⟨g, 0, none⟩) n c) (.slice (some ⟨b, off, none⟩) m cap) (.int .i64 k) (.pointer (some ⟨b, off + k * 3, none⟩)) _ _ _ _ _ _ _ _ _ _ _ _ _ _ _ _ _) wr.drew
      refine wpAnyX_take (i := 4) (v := .pointer (some ⟨b, off + k * 3, none⟩)) rfl (by kernel_rfl) (by kernel_rfl) (by kernel_rfl) (by kernel_rfl) (fun _ _ _ h => h) (.inl ⟨rfl, fun w' hw' => exec_field0 rfl rfl⟩) hS ?_
      change wpAnyX Try.prog .any _ _ _ _ 16 _ (ngAct _ _ _ _ _ _ _ _ _ _ _ _ (.slice (some ⟨g, 0, none⟩) n c) (.slice (some ⟨b, off, none⟩) m cap) (.int .i64 k) (.pointer (some ⟨b, off + k * 3, none⟩)) (.pointer (some ⟨b, off + k * 3, none⟩)) _ _ _ _ _ _ _ _ _ _ _ _ _ _ _ _) wr.drew
      refine wpAnyX_take (i := 5) (v := .int .i64 x) rfl (by kernel_rfl) (by kernel_rfl) (by kernel_rfl) (by kernel_rfl) (fun _ _ _ h => h) (.inl ⟨rfl, fun w' hw' => exec_load rfl rfl (load_int w' _ _ _ hw'.1)⟩) hS ?_
      change wpAnyX Try.prog .any _ _ _ _ 15 _ (ngAct _ _ _ _ _ _ _ _ _ _ _ _ (.slice (some ⟨g, 0, none⟩) n c) (.slice (some ⟨b, off, none⟩) m cap) (.int .i64 k) (.pointer (some ⟨b, off + k * 3, none⟩)) (.pointer (some ⟨b, off + k * 3, none⟩)) (.int .i64 x) _ _ _ _ _ _ _ _ _ _ _ _ _ _ _) wr.drew
      refine wpAnyX_take (i := 6) (v := .slice (some ⟨b, off, none⟩) m cap) rfl (by kernel_rfl) (by kernel_rfl) (by kernel_rfl) (by kernel_rfl) (fun _ _ _ h => h) (.inl ⟨rfl, fun w' hw' => rfl⟩) hS ?_
      change wpAnyX Try.prog .any _ _ _ _ 14 _ (ngAct _ _ _ _ _ _ _ _ _ _ _ _ (.slice (some ⟨g, 0, none⟩) n c) (.slice (some ⟨b, off, none⟩) m cap) (.int .i64 k) (.pointer (some ⟨b, off + k * 3, none⟩)) (.pointer (some ⟨b, off + k * 3, none⟩)) (.int .i64 x) (.slice (some ⟨b, off, none⟩) m cap) _ _ _ _ _ _ _ _ _ _ _ _ _ _) wr.drew
      refine wpAnyX_take (i := 7) (v := .int .i64 k) rfl (by kernel_rfl) (by kernel_rfl) (by kernel_rfl) (by kernel_rfl) (fun _ _ _ h => h) (.inl ⟨rfl, fun w' hw' => rfl⟩) hS ?_
      change wpAnyX Try.prog .any _ _ _ _ 13 _ (ngAct _ _ _ _ _ _ _ _ _ _ _ _ (.slice (some ⟨g, 0, none⟩) n c) (.slice (some ⟨b, off, none⟩) m cap) (.int .i64 k) (.pointer (some ⟨b, off + k * 3, none⟩)) (.pointer (some ⟨b, off + k * 3, none⟩)) (.int .i64 x) (.slice (some ⟨b, off, none⟩) m cap) (.int .i64 k) _ _ _ _ _ _ _ _ _ _ _ _ _) wr.drew
      refine wpAnyX_take (i := 8) (v := .pointer (some ⟨b, off + k * 3, none⟩)) rfl (by kernel_rfl) (by kernel_rfl) (by kernel_rfl) (by kernel_rfl) (fun _ _ _ h => h) (.inl ⟨rfl, fun w' hw' => exec_index rfl rfl rfl (index_lits w' _ _ _ _ _ hlt)⟩) hS ?_
      change wpAnyX Try.prog .any _ _ _ _ 12 _ (ngAct _ _ _ _ _ _ _ _ _ _ _ _ (.slice (some ⟨g, 0, none⟩) n c) (.slice (some ⟨b, off, none⟩) m cap) (.int .i64 k) (.pointer (some ⟨b, off + k * 3, none⟩)) (.pointer (some ⟨b, off + k * 3, none⟩)) (.int .i64 x) (.slice (some ⟨b, off, none⟩) m cap) (.int .i64 k) (.pointer (some ⟨b, off + k * 3, none⟩)) _ _ _ _ _ _ _ _ _ _ _ _) wr.drew
      refine wpAnyX_take (i := 9) (v := .pointer (some ⟨b, off + k * 3 + 1, none⟩)) rfl (by kernel_rfl) (by kernel_rfl) (by kernel_rfl) (by kernel_rfl) (fun _ _ _ h => h) (.inl ⟨rfl, fun w' hw' => exec_fieldL1 rfl rfl⟩) hS ?_
      change wpAnyX Try.prog .any _ _ _ _ 11 _ (ngAct _ _ _ _ _ _ _ _ _ _ _ _ (.slice (some ⟨g, 0, none⟩) n c) (.slice (some ⟨b, off, none⟩) m cap) (.int .i64 k) (.pointer (some ⟨b, off + k * 3, none⟩)) (.pointer (some ⟨b, off + k * 3, none⟩)) (.int .i64 x) (.slice (some ⟨b, off, none⟩) m cap) (.int .i64 k) (.pointer (some ⟨b, off + k * 3, none⟩)) (.pointer (some ⟨b, off + k * 3 + 1, none⟩)) _ _ _ _ _ _ _ _ _ _ _) wr.drew
      refine wpAnyX_take (i := 10) (v := .int .i64 y) rfl (by kernel_rfl) (by kernel_rfl) (by kernel_rfl) (by kernel_rfl) (fun _ _ _ h => h) (.inl ⟨rfl, fun w' hw' => exec_load rfl rfl (load_int w' _ _ _ hw'.2.1)⟩) hS ?_
      change wpAnyX Try.prog .any _ _ _ _ 10 _ (ngAct _ _ _ _ _ _ _ _ _ _ _ _ (.slice (some ⟨g, 0, none⟩) n c) (.slice (some ⟨b, off, none⟩) m cap) (.int .i64 k) (.pointer (some ⟨b, off + k * 3, none⟩)) (.pointer (some ⟨b, off + k * 3, none⟩)) (.int .i64 x) (.slice (some ⟨b, off, none⟩) m cap) (.int .i64 k) (.pointer (some ⟨b, off + k * 3, none⟩)) (.pointer (some ⟨b, off + k * 3 + 1, none⟩)) (.int .i64 y) _ _ _ _ _ _ _ _ _ _) wr.drew
      refine wpAnyX_take (i := 11) (v := .slice (some ⟨b, off, none⟩) m cap) rfl (by kernel_rfl) (by kernel_rfl) (by kernel_rfl) (by kernel_rfl) (fun _ _ _ h => h) (.inl ⟨rfl, fun w' hw' => rfl⟩) hS ?_
      change wpAnyX Try.prog .any _ _ _ _ 9 _ (ngAct _ _ _ _ _ _ _ _ _ _ _ _ (.slice (some ⟨g, 0, none⟩) n c) (.slice (some ⟨b, off, none⟩) m cap) (.int .i64 k) (.pointer (some ⟨b, off + k * 3, none⟩)) (.pointer (some ⟨b, off + k * 3, none⟩)) (.int .i64 x) (.slice (some ⟨b, off, none⟩) m cap) (.int .i64 k) (.pointer (some ⟨b, off + k * 3, none⟩)) (.pointer (some ⟨b, off + k * 3 + 1, none⟩)) (.int .i64 y) (.slice (some ⟨b, off, none⟩) m cap) _ _ _ _ _ _ _ _ _) wr.drew
      refine wpAnyX_take (i := 12) (v := .int .i64 k) rfl (by kernel_rfl) (by kernel_rfl) (by kernel_rfl) (by kernel_rfl) (fun _ _ _ h => h) (.inl ⟨rfl, fun w' hw' => rfl⟩) hS ?_
      change wpAnyX Try.prog .any _ _ _ _ 8 _ (ngAct _ _ _ _ _ _ _ _ _ _ _ _ (.slice (some ⟨g, 0, none⟩) n c) (.slice (some ⟨b, off, none⟩) m cap) (.int .i64 k) (.pointer (some ⟨b, off + k * 3, none⟩)) (.pointer (some ⟨b, off + k * 3, none⟩)) (.int .i64 x) (.slice (some ⟨b, off, none⟩) m cap) (.int .i64 k) (.pointer (some ⟨b, off + k * 3, none⟩)) (.pointer (some ⟨b, off + k * 3 + 1, none⟩)) (.int .i64 y) (.slice (some ⟨b, off, none⟩) m cap) (.int .i64 k) _ _ _ _ _ _ _ _) wr.drew
      refine wpAnyX_take (i := 13) (v := .pointer (some ⟨b, off + k * 3, none⟩)) rfl (by kernel_rfl) (by kernel_rfl) (by kernel_rfl) (by kernel_rfl) (fun _ _ _ h => h) (.inl ⟨rfl, fun w' hw' => exec_index rfl rfl rfl (index_lits w' _ _ _ _ _ hlt)⟩) hS ?_
      change wpAnyX Try.prog .any _ _ _ _ 7 _ (ngAct _ _ _ _ _ _ _ _ _ _ _ _ (.slice (some ⟨g, 0, none⟩) n c) (.slice (some ⟨b, off, none⟩) m cap) (.int .i64 k) (.pointer (some ⟨b, off + k * 3, none⟩)) (.pointer (some ⟨b, off + k * 3, none⟩)) (.int .i64 x) (.slice (some ⟨b, off, none⟩) m cap) (.int .i64 k) (.pointer (some ⟨b, off + k * 3, none⟩)) (.pointer (some ⟨b, off + k * 3 + 1, none⟩)) (.int .i64 y) (.slice (some ⟨b, off, none⟩) m cap) (.int .i64 k) (.pointer (some ⟨b, off + k * 3, none⟩)) _ _ _ _ _ _ _) wr.drew
      refine wpAnyX_take (i := 14) (v := .pointer (some ⟨b, off + k * 3 + 2, none⟩)) rfl (by kernel_rfl) (by kernel_rfl) (by kernel_rfl) (by kernel_rfl) (fun _ _ _ h => h) (.inl ⟨rfl, fun w' hw' => exec_fieldL2 rfl rfl⟩) hS ?_
      change wpAnyX Try.prog .any _ _ _ _ 6 _ (ngAct _ _ _ _ _ _ _ _ _ _ _ _ (.slice (some ⟨g, 0, none⟩) n c) (.slice (some ⟨b, off, none⟩) m cap) (.int .i64 k) (.pointer (some ⟨b, off + k * 3, none⟩)) (.pointer (some ⟨b, off + k * 3, none⟩)) (.int .i64 x) (.slice (some ⟨b, off, none⟩) m cap) (.int .i64 k) (.pointer (some ⟨b, off + k * 3, none⟩)) (.pointer (some ⟨b, off + k * 3 + 1, none⟩)) (.int .i64 y) (.slice (some ⟨b, off, none⟩) m cap) (.int .i64 k) (.pointer (some ⟨b, off + k * 3, none⟩)) (.pointer (some ⟨b, off + k * 3 + 2, none⟩)) _ _ _ _ _ _) wr.drew
      refine wpAnyX_take (i := 15) (v := .bool z) rfl (by kernel_rfl) (by kernel_rfl) (by kernel_rfl) (by kernel_rfl) (fun _ _ _ h => h) (.inl ⟨rfl, fun w' hw' => exec_load rfl rfl (load_boolN w' _ _ _ hw'.2.2)⟩) hS ?_
      change wpAnyX Try.prog .any _ _ _ _ 5 _ (ngAct _ _ _ _ _ _ _ _ _ _ _ _ (.slice (some ⟨g, 0, none⟩) n c) (.slice (some ⟨b, off, none⟩) m cap) (.int .i64 k) (.pointer (some ⟨b, off + k * 3, none⟩)) (.pointer (some ⟨b, off + k * 3, none⟩)) (.int .i64 x) (.slice (some ⟨b, off, none⟩) m cap) (.int .i64 k) (.pointer (some ⟨b, off + k * 3, none⟩)) (.pointer (some ⟨b, off + k * 3 + 1, none⟩)) (.int .i64 y) (.slice (some ⟨b, off, none⟩) m cap) (.int .i64 k) (.pointer (some ⟨b, off + k * 3, none⟩)) (.pointer (some ⟨b, off + k * 3 + 2, none⟩)) (.bool z) _ _ _ _ _) wr.drew
      refine wpAnyX_take (i := 16) (v := .bool (!z)) rfl (by kernel_rfl) (by kernel_rfl) (by kernel_rfl) (by kernel_rfl) (fun _ _ _ h => h) (.inl ⟨rfl, fun w' hw' => exec_notN rfl rfl⟩) hS ?_
      change wpAnyX Try.prog .any _ _ _ _ 4 _ (ngAct _ _ _ _ _ _ _ _ _ _ _ _ (.slice (some ⟨g, 0, none⟩) n c) (.slice (some ⟨b, off, none⟩) m cap) (.int .i64 k) (.pointer (some ⟨b, off + k * 3, none⟩)) (.pointer (some ⟨b, off + k * 3, none⟩)) (.int .i64 x) (.slice (some ⟨b, off, none⟩) m cap) (.int .i64 k) (.pointer (some ⟨b, off + k * 3, none⟩)) (.pointer (some ⟨b, off + k * 3 + 1, none⟩)) (.int .i64 y) (.slice (some ⟨b, off, none⟩) m cap) (.int .i64 k) (.pointer (some ⟨b, off + k * 3, none⟩)) (.pointer (some ⟨b, off + k * 3 + 2, none⟩)) (.bool z) (.bool (!z)) _ _ _ _) wr.drew
      refine wpAnyX_take (i := 17) (v := .agg #[.int .i64 x, .int .i64 y, .bool (!z)]) rfl (by kernel_rfl) (by kernel_rfl) (by kernel_rfl) (by kernel_rfl) (fun _ _ _ h => h) (.inl ⟨rfl, fun w' hw' => exec_buildL rfl rfl rfl rfl⟩) hS ?_
      change wpAnyX Try.prog .any _ _ _ _ 3 _ (ngAct _ _ _ _ _ _ _ _ _ _ _ _ (.slice (some ⟨g, 0, none⟩) n c) (.slice (some ⟨b, off, none⟩) m cap) (.int .i64 k) (.pointer (some ⟨b, off + k * 3, none⟩)) (.pointer (some ⟨b, off + k * 3, none⟩)) (.int .i64 x) (.slice (some ⟨b, off, none⟩) m cap) (.int .i64 k) (.pointer (some ⟨b, off + k * 3, none⟩)) (.pointer (some ⟨b, off + k * 3 + 1, none⟩)) (.int .i64 y) (.slice (some ⟨b, off, none⟩) m cap) (.int .i64 k) (.pointer (some ⟨b, off + k * 3, none⟩)) (.pointer (some ⟨b, off + k * 3 + 2, none⟩)) (.bool z) (.bool (!z)) (.agg #[.int .i64 x, .int .i64 y, .bool (!z)]) _ _ _) wr.drew
      refine wpAnyX_one (i := 18) (by kernel_rfl) rfl (fun K' hK' => ?_)
      refine step_value _ (wr.drew.alloc (.cells #[.int .i64 x, .int .i64 y, .bool (!z)] 64)) rfl _ (exec_build1 rfl rfl (build_one wr.drew _ _ _)) ?_
      refine hK'.out _ _ (fun _ => (litAt_below hS (below1 _ _))) ?_
      clear hK' K'
      change wpAnyX Try.prog .any _ _ _ _ 2 _ (ngAct _ _ _ _ _ _ _ _ _ _ _ _ (.slice (some ⟨g, 0, none⟩) n c) (.slice (some ⟨b, off, none⟩) m cap) (.int .i64 k) (.pointer (some ⟨b, off + k * 3, none⟩)) (.pointer (some ⟨b, off + k * 3, none⟩)) (.int .i64 x) (.slice (some ⟨b, off, none⟩) m cap) (.int .i64 k) (.pointer (some ⟨b, off + k * 3, none⟩)) (.pointer (some ⟨b, off + k * 3 + 1, none⟩)) (.int .i64 y) (.slice (some ⟨b, off, none⟩) m cap) (.int .i64 k) (.pointer (some ⟨b, off + k * 3, none⟩)) (.pointer (some ⟨b, off + k * 3 + 2, none⟩)) (.bool z) (.bool (!z)) (.agg #[.int .i64 x, .int .i64 y, .bool (!z)]) (.slice (some ⟨wr.drew.heap.size, 0, none⟩) 1 1) _ _) (wr.drew.alloc (.cells #[.int .i64 x, .int .i64 y, .bool (!z)] 64))
      refine wpAnyX_one (i := 19) (by kernel_rfl) rfl (fun K' hK' => ?_)
      refine step_callL2 _ rfl 65 _ _ _ _ _ rfl rfl rfl (enters_of Try.func65 (by kernel_rfl) rfl) _ HE.out (fun c w' h => by obtain ⟨_, h, _⟩ := h; cases h) (fun w' h => by obtain ⟨_, h, _⟩ := h; cases h) ?_
      rintro v9 w9 ⟨u9, e9, own9, b9⟩
      obtain rfl : v9 = u9 := by injection e9
      obtain ⟨g9, n9, c9, ev9⟩ := own9.slice
      subst ev9
      have B9 : Below wr.drew.heap.size wr.drew w9 := (below1 _ _).trans (b9.mono (below1 _ _).size)
      have hS9 := litAt_below hS B9
      clear b9
      refine hK'.out _ _ (fun _ => hS9) ?_
      clear hK' K'
      change wpAnyX Try.prog .any _ _ _ _ 1 _ (ngAct _ _ _ _ _ _ _ _ _ _ _ _ (.slice (some ⟨g, 0, none⟩) n c) (.slice (some ⟨b, off, none⟩) m cap) (.int .i64 k) (.pointer (some ⟨b, off + k * 3, none⟩)) (.pointer (some ⟨b, off + k * 3, none⟩)) (.int .i64 x) (.slice (some ⟨b, off, none⟩) m cap) (.int .i64 k) (.pointer (some ⟨b, off + k * 3, none⟩)) (.pointer (some ⟨b, off + k * 3 + 1, none⟩)) (.int .i64 y) (.slice (some ⟨b, off, none⟩) m cap) (.int .i64 k) (.pointer (some ⟨b, off + k * 3, none⟩)) (.pointer (some ⟨b, off + k * 3 + 2, none⟩)) (.bool z) (.bool (!z)) (.agg #[.int .i64 x, .int .i64 y, .bool (!z)]) (.slice (some ⟨wr.drew.heap.size, 0, none⟩) 1 1) (.slice (some ⟨g9, 0, none⟩) n9 c9) _) w9
      refine wpAnyX_take (i := 20) (v := .slice (some ⟨g9, 0, none⟩) n9 c9) rfl (by kernel_rfl) (by kernel_rfl) (by kernel_rfl) (by kernel_rfl) (fun _ _ _ h => h) (.inl ⟨rfl, fun w' hw' => rfl⟩) hS9 ?_
      change wpAnyX Try.prog .any _ _ _ _ 0 _ (ngAct _ _ _ (.slice (some ⟨g9, 0, none⟩) n9 c9) _ _ _ _ _ _ _ _ (.slice (some ⟨g, 0, none⟩) n c) (.slice (some ⟨b, off, none⟩) m cap) (.int .i64 k) (.pointer (some ⟨b, off + k * 3, none⟩)) (.pointer (some ⟨b, off + k * 3, none⟩)) (.int .i64 x) (.slice (some ⟨b, off, none⟩) m cap) (.int .i64 k) (.pointer (some ⟨b, off + k * 3, none⟩)) (.pointer (some ⟨b, off + k * 3 + 1, none⟩)) (.int .i64 y) (.slice (some ⟨b, off, none⟩) m cap) (.int .i64 k) (.pointer (some ⟨b, off + k * 3, none⟩)) (.pointer (some ⟨b, off + k * 3 + 2, none⟩)) (.bool z) (.bool (!z)) (.agg #[.int .i64 x, .int .i64 y, .bool (!z)]) (.slice (some ⟨wr.drew.heap.size, 0, none⟩) 1 1) (.slice (some ⟨g9, 0, none⟩) n9 c9) _) w9
      refine wpAnyX_done (by kernel_rfl) ?_ _
      unfold ngAct
      have HF9 : Hid (OwnL w9 w.heap.size (.slice (some ⟨g9, 0, none⟩) n9 c9) (mrgL [] ((ls.map ngL).take (k + 1)))) := Lib.hid (by rw [HNX.out]; exact own9.mono (Nat.le_trans HBD.out.size (below1 wr.drew _).size))
      have HB10 : Hid (Below w.heap.size w w9) := Lib.hid (HBD.out.trans (B9.mono HBD.out.size))
      clear hS hS9 own9 B9
      go_wp2
      go_roundw
      all_goals first
        | exact ⟨k + 1, by omega, by go_num, HF9, HB10⟩
        | (simp [intOf]; omega)
    · obtain rfl : k = m := by omega
      have HF : Hid (mrgL [] ((ls.map ngL).take k) = ngaL ls) := Lib.hid (by unfold ngaL; rw [HM.out, ← List.length_map (f := ngL), List.take_length])
      rw [HF.out] at HO
      obtain ⟨g, n, c, evo⟩ := HO.out.slice
      subst evo
      go_wp2
      go_ret
      exact ⟨_, rfl, HO.out, HB.out⟩

set_option maxRecDepth 100000 in
set_option maxHeartbeats 8000000 in
theorem sNegateAll_any (n : Int) (v : Value) (ls : List Lit) (w : World) (h : RdLits w v ls) :
    Calls Try.prog 12 #[.int .i64 n, v] w (PairC (nagL n ls) (vclB ls n) w) := by
  have HL := Lib.hid h
  obtain ⟨a, cap, ev, -⟩ := id h
  obtain ⟨m, hm⟩ : ∃ m, m = ls.length := ⟨_, rfl⟩
  rw [ev] at HL ⊢
  rw [← hm] at HL ⊢
  clear ev h hm
  go_enter Try.func12, Try.ntmps12
  go_wp2_with fail
  refine (sValidClause_any _ ls n w HL.out).mono ?_
  rintro e w2 ⟨rfl, b2⟩
  have HB2 := Lib.hid b2
  have HL2 := Lib.hid (HL.out.below b2)
  clear b2
  cases hv : vclB ls n
  · have HF : Hid (nagL n ls = []) := Lib.hid (by unfold nagL; rw [hv]; rfl)
    have HV := Lib.hid hv
    clear hv
    go_wp2
    refine bodyPost_ret (results_tmp2 rfl _ _ _) rfl ?_
    exact pairC_of HF.out HV.out ⟨_, rfl, ⟨rfl, World.ownsRow_nil _ _ _ _⟩, HB2.out⟩
  · have HF : Hid (nagL n ls = ngaL ls) := Lib.hid (by unfold nagL; rw [hv]; rfl)
    have HV := Lib.hid hv
    have HN := Lib.hid (snegateAll_any _ ls w2 HL2.out (vcl_parts hv).1)
    clear hv
    go_wp2_with fail
    refine HN.out.mono ?_
    rintro e w3 ⟨v3, rfl, o3, b3⟩
    have HO3 := Lib.hid o3
    have HB3 := Lib.hid (HB2.out.trans (b3.mono HB2.out.size))
    obtain ⟨g, q, c, ev3⟩ := o3.slice
    subst ev3
    clear o3 b3
    go_wp2
    refine bodyPost_ret (results_tmp2 rfl _ _ _) rfl ?_
    exact pairC_of HF.out HV.out ⟨_, rfl, ⟨rfl, (HO3.out.mono HB2.out.size).1⟩, HB3.out⟩

set_option maxRecDepth 100000 in
set_option maxHeartbeats 8000000 in
theorem iNegateAll_any (n : Int) (v : Value) (ls : List Lit) (w : World) (h : RdLits w v ls) :
    Calls Try.prog 14 #[.int .i64 n, v] w (PairC (nagL n ls) (vclB ls n) w) := by
  have HL := Lib.hid h
  obtain ⟨a, cap, ev, -⟩ := id h
  obtain ⟨m, hm⟩ : ∃ m, m = ls.length := ⟨_, rfl⟩
  rw [ev] at HL ⊢
  rw [← hm] at HL ⊢
  clear ev h hm
  go_enter Try.func14, Try.ntmps14
  go_wp2_with fail
  refine (iValidClause_any _ ls n w HL.out).mono ?_
  rintro e w2 ⟨rfl, b2⟩
  have HB2 := Lib.hid b2
  have HL2 := Lib.hid (HL.out.below b2)
  clear b2
  cases hv : vclB ls n
  · have HF : Hid (nagL n ls = []) := Lib.hid (by unfold nagL; rw [hv]; rfl)
    have HV := Lib.hid hv
    clear hv
    go_wp2
    refine bodyPost_ret (results_tmp2 rfl _ _ _) rfl ?_
    exact pairC_of HF.out HV.out ⟨_, rfl, ⟨rfl, World.ownsRow_nil _ _ _ _⟩, HB2.out⟩
  · have HF : Hid (nagL n ls = ngaL ls) := Lib.hid (by unfold nagL; rw [hv]; rfl)
    have HV := Lib.hid hv
    have HN := Lib.hid (negations_any _ ls w2 HL2.out (vcl_parts hv).1)
    have HA := Lib.hid (vcl_parts hv).2
    clear hv
    go_wp2_with fail
    refine HN.out.mono ?_
    rintro e w3 ⟨v3, cs, rfl, p3, s3, o3, b3⟩
    have HC := Lib.hid (ng_sorted HA.out p3 s3)
    have HO3 : Hid (OwnC w3 w2.heap.size v3 (ngaL ls).length (ngaL ls)) := Lib.hid (by
      rw [← HC.out]
      have := o3.1
      rw [← this] at o3
      exact o3)
    have HB3 := Lib.hid (HB2.out.trans (b3.mono HB2.out.size))
    obtain ⟨g, q, c, ev3⟩ := HO3.out.slice3
    subst ev3
    clear o3 b3 p3 s3
    go_wp2
    refine bodyPost_ret (results_tmp2 rfl _ _ _) rfl ?_
    exact pairC_of HF.out HV.out ⟨_, rfl, ⟨rfl, own_mono HO3.out.2 HB2.out.size⟩, HB3.out⟩
end Go.Proofs.Ytipapmmjfoaddaa
