/- UnitPropagate: the reference's, and the program's watched clause. -/
import Derived.Test.YtipapmmjfoaddaaGreatLitE
import Derived.Test.YtipapmmjfoaddaaGreatOrdX
import Derived.Lib.SliceRun
namespace Go.Proofs.YtipapmmjfoaddaaGreat
open Go.ChangeShapes Go.WideShapes Go.ChangeAt Go.RowKit Go.Deep Go.Shelf
set_option linter.unusedVariables false
set_option linter.unusedSimpArgs false

/-- UnitPropagate as plain data. -/
def uprL (ls : List Lit) (ds : List Int) : List Int := if (wiB ds.length 1 4 && allB ds 0 63) && clB ls ds.length then upL ls ds else []
theorem uprL_le (ls : List Lit) (ds : List Int) : (uprL ls ds).length ≤ 1048576 := by
  unfold uprL
  split
  · rename_i h
    rw [Bool.and_eq_true, Bool.and_eq_true] at h
    have := wiB_in h.1.1
    rw [upL_length]
    omega
  · exact Nat.zero_le _

/-- A clause, perhaps nil, in memory of the call's own. -/
def OwnC (w : World) (B : Nat) (v : Value) (m : Nat) (ls : List Lit) : Prop := ls.length = m ∧ w.ownsRow B 91 3 v m (cellsL ls)
set_option maxRecDepth 100000 in
set_option maxHeartbeats 4000000 in
theorem clone_any (v : Value) (ls : List Lit) (w : World) (h : RdLits w v ls) (hx : ls.length ≤ 1000) :
    Calls Tryz.prog 123 #[v] w fun e w' => ∃ v', e = .returned v' ∧ OwnC w' w.heap.size v' ls.length ls ∧ Below w.heap.size w w' := by
  have HC := Lib.hid h
  obtain ⟨a, cap, ev, hl, hm, h3⟩ := h
  rw [ev] at HC ⊢
  clear ev
  unfold maxLen at hm
  cases a with
  | none =>
    have hls : ls = [] := by
      rcases h3 with h | ⟨b, off, e, _⟩
      · exact List.eq_nil_of_length_eq_zero h
      · cases e
    subst hls
    have hq : ∀ w, (binOp .eql 47 (.slice none 0 cap) (.slice none 0 0)).run Tryz.prog w = .ok (.bool true) w := fun w => Lib.run_eql_slice_nil w _ _ _ _ _ _ _ Tryz.underlying47
    go_enter Tryz.func123, Tryz.ntmps123
    go_wp2
    go_ret
    exact ⟨_, rfl, ⟨rfl, World.ownsRow_nil _ _ _ _⟩, Below.refl _ _⟩
  | some ad =>
    clear h3
    have hq : ∀ w, (binOp .eql 47 (.slice (some ad) ls.length cap) (.slice none 0 0)).run Tryz.prog w = .ok (.bool false) w := fun w => Lib.run_eql_slice_nil w _ _ _ _ _ _ _ Tryz.underlying47
    go_enter Tryz.func123, Tryz.ntmps123
    go_wp2_with (at_builtin; refine wpList_append_lits rfl _ _ rfl w.heap.size _ _ [] ls rfl rfl (ownL_new w w.heap.size (Nat.le_refl _)) (HC.out.below (below1 _ _)) (by simp) (by simp) (by omega) ?_; intro v1 w1 own1 grow1; obtain ⟨g1, n1, c1, ev1⟩ := own1.slice; subst ev1)
    have b1 : Below w.heap.size w w1 := (below1 _ _).grown grow1 (by simp) (fun q e => Nat.le_of_eq (Option.some.inj e))
    have HO := Lib.hid own1.1
    have HB := Lib.hid b1
    clear own1 grow1 b1
    go_wp2
    go_ret
    exact ⟨_, rfl, ⟨rfl, HO.out⟩, HB.out⟩
/-- What is watched so far: k literals looked at, t of them watched, the clause now cs. -/
def watOk (ls : List Lit) (ds : List Int) (k t : Nat) (cs : List Lit) : Prop :=
  (∀ j, k ≤ j → cs[j]? = ls[j]?) ∧ ((t = 0 ∧ posL (ls.take k) ds = []) ∨ (∃ l, t = 1 ∧ 1 ≤ k ∧ posL (ls.take k) ds = [l] ∧ cs[0]? = some l) ∨ (t = 2 ∧ 2 ≤ k ∧ 2 ≤ (posL (ls.take k) ds).length))
theorem watOk.no {ls : List Lit} {ds : List Int} {k t : Nat} {cs : List Lit} (h : watOk ls ds k t cs) {l : Lit} (hl : ls[k]? = some l) (hp : posB ds l = false) : watOk ls ds (k + 1) t cs := by
  have e := posL_step ls ds k l hl
  rw [hp, if_neg Bool.false_ne_true, List.append_nil] at e
  refine ⟨fun j hj => h.1 j (by omega), ?_⟩
  rw [e]
  rcases h.2 with ⟨e1, e2⟩ | ⟨q, e1, e2, e3, e4⟩ | ⟨e1, e2, e3⟩
  · exact .inl ⟨e1, e2⟩
  · exact .inr (.inl ⟨q, e1, by omega, e3, e4⟩)
  · exact .inr (.inr ⟨e1, by omega, e3⟩)
theorem watOk.yes {ls : List Lit} {ds : List Int} {k t : Nat} {cs : List Lit} (h : watOk ls ds k t cs) {l o : Lit} (hl : ls[k]? = some l) (hp : posB ds l = true) (ht : t < 2) (hk : k < cs.length) : t ≤ k ∧ watOk ls ds (k + 1) (t + 1) ((cs.set k o).set t l) := by
  have e := posL_step ls ds k l hl
  rw [hp, if_pos rfl] at e
  have htk : t ≤ k := by
    rcases h.2 with ⟨e1, _⟩ | ⟨q, e1, e2, _⟩ | ⟨e1, _⟩ <;> omega
  refine ⟨htk, fun j hj => ?_, ?_⟩
  · rw [List.getElem?_set_ne (by omega), List.getElem?_set_ne (by omega)]
    exact h.1 j (by omega)
  · rw [e]
    rcases h.2 with ⟨e1, e2⟩ | ⟨q, e1, e2, e3, e4⟩ | ⟨e1, e2, e3⟩
    · subst e1
      refine .inr (.inl ⟨l, rfl, by omega, by rw [e2]; rfl, ?_⟩)
      rw [List.getElem?_set_self (by simp; omega)]
    · subst e1
      exact .inr (.inr ⟨rfl, by omega, by rw [e3]; exact Nat.le_refl _⟩)
    · omega
theorem watOk.start (ls : List Lit) (ds : List Int) : watOk ls ds 0 0 ls := ⟨fun _ _ => rfl, .inl ⟨rfl, rfl⟩⟩
theorem cellsL_set : ∀ (cs : List Lit) (k : Nat) (l : Lit), cellsL (cs.set k l) = (((cellsL cs).set (k * 3) (.int .i64 l.var)).set (k * 3 + 1) (.int .i64 l.val)).set (k * 3 + 2) (.bool l.neg)
  | [], k, l => by simp [cellsL]
  | a :: cs, 0, l => rfl
  | a :: cs, k + 1, l => by
    rw [List.set_cons_succ]
    simp only [cellsL]
    rw [cellsL_set cs k l, show (k + 1) * 3 = k * 3 + 1 + 1 + 1 from by omega]
    rfl
theorem OwnC.cells {w : World} {B g m c : Nat} {ls : List Lit} (h : OwnC w B (.slice (some ⟨g, 0, none⟩) m c) m ls) {i : Nat} {l : Lit} (hi : ls[i]? = some l) : LitAt g (i * 3) l w := by
  obtain ⟨t0, t1, t2⟩ := cellsL_at ls i l hi
  have k : ∀ q u, (cellsL ls)[q]? = some u → w.cell? ⟨g, q, none⟩ = some u := fun q u hu => by
    have := h.2.cells (g := g) rfl q u hu
    rw [addr_add, Nat.zero_add] at this
    exact this
  exact ⟨k _ _ t0, k _ _ t1, k _ _ t2⟩
theorem OwnC.frozen {w : World} {B g m c : Nat} {ls : List Lit} (h : OwnC w B (.slice (some ⟨g, 0, none⟩) m c) m ls) (i : Nat) : w.frozen? ⟨g, i, none⟩ = false := h.2.frozenAt i
/-- The world behind the store of a literal. -/
def setLit (w : World) (g p : Nat) (l : Lit) : World := ((w.setCell ⟨g, p, none⟩ (.int .i64 l.var)).setCell ⟨g, p + 1, none⟩ (.int .i64 l.val)).setCell ⟨g, p + 2, none⟩ (.bool l.neg)
theorem OwnC.set {w : World} {B g m c : Nat} {ls : List Lit} (h : OwnC w B (.slice (some ⟨g, 0, none⟩) m c) m ls) (k : Nat) (l : Lit) : OwnC (setLit w g (k * 3) l) B (.slice (some ⟨g, 0, none⟩) m c) m (ls.set k l) := by
  refine ⟨by rw [List.length_set]; exact h.1, ?_⟩
  rw [cellsL_set]
  have t0 := (h.2.stored (k * 3) (.int .i64 l.var)).1
  have t1 := (t0.stored (k * 3 + 1) (.int .i64 l.val)).1
  exact (t1.stored (k * 3 + 2) (.bool l.neg)).1
theorem setLit_below {B : Nat} {w0 w : World} (h : Below B w0 w) {g : Nat} (hg : B ≤ g) (p : Nat) (l : Lit) : Below B w0 (setLit w g p l) :=
  ((h.setCell (p := ⟨g, p, none⟩) hg _).setCell (p := ⟨g, p + 1, none⟩) hg _).setCell (p := ⟨g, p + 2, none⟩) hg _
theorem OwnC.below {w w' : World} {B : Nat} {v : Value} {m : Nat} {ls : List Lit} (h : OwnC w B v m ls) (hb : Below w.heap.size w w') : OwnC w' B v m ls := ⟨h.1, own_below h.2 hb⟩
theorem OwnC.form {w : World} {B : Nat} {v : Value} {m : Nat} {ls : List Lit} (h : OwnC w B v m ls) : ∃ a c, v = .slice a m c ∧ m ≤ c ∧ c ≤ 9223372036854775807 ∧ (0 < m → ∃ g, a = some ⟨g, 0, none⟩ ∧ B ≤ g) := by
  rcases h.2.2 with ⟨e, h0⟩ | ⟨g, cap, cur, e, hB, _, q1, q2, _⟩
  · exact ⟨none, 0, by rw [h0]; exact e, by omega, by omega, fun h => by omega⟩
  · unfold maxLen at q2
    exact ⟨_, cap, e, q1, by omega, fun _ => ⟨g, rfl, hB⟩⟩
section
set_option maxRecDepth 100000
theorem index_wat (w : World) (b n c j : Nat) (hj : j < n) : (Instr.indexAt 158 (.slice (some ⟨b, 0, none⟩) n c) (.int .i64 j)).run Tryz.prog w = .ok (.pointer (some ⟨b, j * 3, none⟩)) w := by
  go_simp
theorem store_lit (w : World) (g p : Nat) (l k : Lit) (h : LitAt g p k w) (f0 : w.frozen? ⟨g, p, none⟩ = false) (f1 : w.frozen? ⟨g, p + 1, none⟩ = false) (f2 : w.frozen? ⟨g, p + 2, none⟩ = false) : (Instr.storeAt 91 (.pointer (some ⟨g, p, none⟩)) (.agg #[.int .i64 l.var, .int .i64 l.val, .bool l.neg])).run Tryz.prog w = .ok () (setLit w g p l) := by
  obtain ⟨h0, h1, h2⟩ := h
  unfold setLit
  go_simp
end

/-- The activation inside the region that swaps. -/
def waAct (z0 z1 z2 z3 z4 z5 z6 z7 z8 z9 z10 z11 z12 z13 z14 z15 z16 z17 z18 z19 z20 z21 z22 z23 z24 z25 z26 z27 z28 z29 z30 z31 z32 z33 z34 z35 z36 z37 z38 z39 : Value) : Act := { tmps := #[z0, z1, z2, z3, z4, z5, z6, z7, z8, z9, z10, z11, z12, z13, z14, z15, z16, z17, z18, z19, z20, z21, z22, z23, z24, z25, z26, z27, z28, z29, z30, z31, z32, z33, z34, z35, z36, z37, z38, z39], defers := [] }
/-- Outside of the blocks S, the world Y is as X was. -/
structure OffB (S : Nat → Prop) (X Y : World) : Prop where
  os : Y.os = X.os
  tape : Y.tape = X.tape
  output : Y.output = X.output
  size : X.heap.size ≤ Y.heap.size
  block : ∀ b, b < X.heap.size → ¬ S b → Y.heap[b]? = X.heap[b]?
theorem OffB.refl (S : Nat → Prop) (X : World) : OffB S X X := ⟨rfl, rfl, rfl, Nat.le_refl _, fun _ _ _ => rfl⟩
theorem OffB.trans {S : Nat → Prop} {X Y Z : World} (h : OffB S X Y) (k : OffB S Y Z) : OffB S X Z :=
  ⟨k.os.trans h.os, k.tape.trans h.tape, k.output.trans h.output, Nat.le_trans h.size k.size, fun b hb hs => (k.block b (Nat.lt_of_lt_of_le hb h.size) hs).trans (h.block b hb hs)⟩
theorem OffB.imp {S T : Nat → Prop} {X Y : World} (h : OffB S X Y) (hi : ∀ b, b < X.heap.size → S b → T b) : OffB T X Y := ⟨h.os, h.tape, h.output, h.size, fun b hb hs => h.block b hb (fun k => hs (hi b hb k))⟩
theorem OffB.of_below {S : Nat → Prop} {X Y : World} (h : Below X.heap.size X Y) : OffB S X Y := ⟨h.os, h.tape, h.output, h.size, fun b hb _ => h.block b hb⟩
theorem OffB.step {S : Nat → Prop} {X Y Z : World} (h : OffB S X Y) (hb : Below Y.heap.size Y Z) : OffB S X Z := h.trans (OffB.of_below hb)
theorem OffB.set {S : Nat → Prop} {X Y : World} (h : OffB S X Y) {g p : Nat} (u : Value) (hg : S g) : OffB S X (Y.setCell ⟨g, p, none⟩ u) :=
  h.trans ⟨rfl, rfl, rfl, by simp, fun b _ hs => Below.heap_setCell _ _ _ _ (by show b ≠ g; exact fun e => hs (e ▸ hg))⟩
theorem OffB.sets {S : Nat → Prop} {X : World} {g : Nat} (hg : S g) : ∀ (vs : List Value) (o : Nat) (Y : World), OffB S X Y → OffB S X (Y.setCells g o vs)
  | [], _, _, h => h
  | v :: vs, o, Y, h => OffB.sets hg vs (o + 1) _ (h.set v hg)
theorem OffB.below {S : Nat → Prop} {X Y : World} (h : OffB S X Y) {B : Nat} (hB : B ≤ X.heap.size) (hs : ∀ b, S b → B ≤ b) : Below B X Y :=
  ⟨h.os, h.tape, h.output, h.size, fun b hb => h.block b (Nat.lt_of_lt_of_le hb hB) (fun k => by have := hs b k; omega)⟩
/-- A row of the call's own stays where its block does. -/
theorem ownKeep {w w' : World} {B : Nat} {e : TypeId} {sz n : Nat} {v : Value} {xs : List Value} (h : w.ownsRow B e sz v n xs) (hk : ∀ b, v.ownBlock = some b → w'.heap[b]? = w.heap[b]?) : w'.ownsRow B e sz v n xs := by
  refine ⟨h.1, ?_⟩
  rcases h.2 with h2 | ⟨g, cap, cur, e, h3, hg, rest⟩
  · exact .inl h2
  · exact .inr ⟨g, cap, cur, e, h3, (hk g (by rw [e]; rfl)).trans hg, rest⟩
theorem ownBlk {w : World} {B : Nat} {e : TypeId} {sz n : Nat} {v : Value} {xs : List Value} (h : w.ownsRow B e sz v n xs) {b : Nat} (hb : v.ownBlock = some b) : B ≤ b ∧ b < w.heap.size ∧ ∃ cur, w.heap[b]? = some (.cells cur e (0, 0)) := by
  rcases h.2 with ⟨e', _⟩ | ⟨g, cap, cur, e', h3, hg, _⟩
  · rw [e'] at hb; cases hb
  · rw [e'] at hb
    injection hb with hb
    subst hb
    exact ⟨h3, (Array.getElem?_eq_some_iff.1 hg).1, cur, hg⟩
/-- Rows of different types lie apart. -/
theorem ownApart {w : World} {B B' : Nat} {e e' : TypeId} {sz sz' n n' : Nat} {v v' : Value} {xs xs' : List Value} (h : w.ownsRow B e sz v n xs) (h' : w.ownsRow B' e' sz' v' n' xs') (hne : e ≠ e') {b : Nat} (hb : v.ownBlock = some b) : v'.ownBlock ≠ some b := by
  intro hb'
  obtain ⟨_, _, cur, h1⟩ := ownBlk h hb
  obtain ⟨_, _, cur', h2⟩ := ownBlk h' hb'
  rw [h1] at h2
  cases h2
  exact hne rfl
theorem OwnC.keep {w w' : World} {B : Nat} {v : Value} {m : Nat} {ls : List Lit} (h : OwnC w B v m ls) (hk : ∀ b, v.ownBlock = some b → w'.heap[b]? = w.heap[b]?) : OwnC w' B v m ls := ⟨h.1, ownKeep h.2 hk⟩
theorem swapPerm {cs : List Lit} {k t : Nat} {l o : Lit} (hk : cs[k]? = some l) (ht : cs[t]? = some o) : ((cs.set k o).set t l).Perm cs := by
  obtain ⟨h1, e1⟩ := List.getElem?_eq_some_iff.1 hk
  obtain ⟨h2, e2⟩ := List.getElem?_eq_some_iff.1 ht
  have := List.set_set_perm h1 h2
  rw [e1, e2] at this
  exact this
/-- G outlives what a call makes, and stores into v's own block. -/
def GKeep (G : World → Prop) (v : Value) : Prop := (∀ X Y, G X → Below X.heap.size X Y → G Y) ∧ (∀ X g p u, G X → v.ownBlock = some g → G (X.setCell ⟨g, p, none⟩ u))
theorem GKeep.lit {G : World → Prop} {m c g : Nat} (h : GKeep G (.slice (some ⟨g, 0, none⟩) m c)) {X : World} (hX : G X) (p : Nat) (l : Lit) : G (setLit X g p l) :=
  h.2 _ g _ _ (h.2 _ g _ _ (h.2 _ g _ _ hX rfl) rfl) rfl
/-- What watch leaves. -/
def WatPost (ls : List Lit) (ds : List Int) (G : World → Prop) (B : Nat) (v : Value) (m : Nat) (e : Ending) (w' : World) : Prop := ∃ (t : Nat) (cs : List Lit), e = .returned (.int .i64 t) ∧ OwnC w' B v m cs ∧ cs.Perm ls ∧ G w' ∧ ((t = 0 ∧ posL ls ds = []) ∨ (∃ l, t = 1 ∧ posL ls ds = [l] ∧ cs[0]? = some l) ∨ (t = 2 ∧ 2 ≤ (posL ls ds).length))
set_option maxRecDepth 100000 in
set_option maxHeartbeats 16000000 in
theorem watch_any (v dv : Value) (ls : List Lit) (ds : List Int) (m B : Nat) (G : World → Prop) (w : World) (h : OwnC w B v m ls) (hG : GKeep G v) (hd : ∀ X, G X → RdInts X dv ds) (hb : G w) (hvi : VarsIn ls ds.length) (hva : ∀ l ∈ ls, 0 ≤ l.val ∧ l.val ≤ 5) :
    Calls Tryz.prog 193 #[v, dv] w (WatPost ls ds G B v m) := by
  have HO := Lib.hid h
  have HD := Lib.hid hd
  have HVI := Lib.hid hvi
  have HVA := Lib.hid hva
  have HB := Lib.hid hb
  have HG := Lib.hid hG
  obtain ⟨a, c, ev, hmc, hcm, hform⟩ := h.form
  have HM := Lib.hid h.1
  obtain ⟨ax, cx, ex, -⟩ := hd w hb
  rw [ev] at HO HG ⊢
  rw [ex] at HD ⊢
  clear h ev ex hb hvi hva hd hG
  unfold WatPost
  go_enter Tryz.func193, Tryz.ntmps193
  go_wp2
  go_loopw [5, 6] (fun q i wr => ∃ (k t : Nat) (cs : List Lit), k ≤ m ∧ t ≤ 2 ∧ i = .int .i64 k ∧ q = .int .i64 t ∧ Hid (watOk ls ds k t cs) ∧ Hid (OwnC wr B (.slice a m c) m cs) ∧ Hid (cs.Perm ls) ∧ Hid (G wr)) (fun _ i _ => m - (intOf i).toNat)
  case atStart => exact ⟨0, 0, ls, Nat.zero_le _, by omega, rfl, rfl, Lib.hid (watOk.start ls ds), HO, Lib.hid (List.Perm.refl _), HB⟩
  case round =>
    obtain ⟨k, t, cs, hk, ht, rfl, rfl, HWO, HOC, HPM, HBW⟩ := hrel
    by_cases hlt : k < m
    · by_cases ht2 : t < 2
      · obtain ⟨g, rfl, hgB⟩ := hform (by omega)
        obtain ⟨l, hck⟩ : ∃ l, ls[k]? = some l := ⟨_, List.getElem?_eq_getElem (by rw [HM.out]; exact hlt)⟩
        have hcs : cs[k]? = some l := by rw [HWO.out.1 k (Nat.le_refl _)]; exact hck
        obtain ⟨k0, k1, k2⟩ := HOC.out.cells hcs
        obtain ⟨hv0, hv1⟩ := HVI.out l (List.mem_of_getElem? hck)
        obtain ⟨ha0, ha1⟩ := HVA.out l (List.mem_of_getElem? hck)
        have HE := Lib.hid (isPossible_any l ds _ wr (HD.out _ HBW.out) ha0 ha1 hv0 hv1)
        have HCK := Lib.hid hck
        have HCS := Lib.hid hcs
        clear hck hcs hv0 hv1 ha0 ha1
        cases h3 : posB ds l
        · rw [h3] at HE
          have HWO2 := Lib.hid (HWO.out.no HCK.out h3)
          clear h3
          go_wp2_with fail
          refine HE.out.mono ?_
          rintro e w9 ⟨rfl, b9⟩
          have HOC9 := Lib.hid (HOC.out.below b9)
          have HBW9 := Lib.hid (HG.out.1 _ _ HBW.out b9)
          clear b9 k0 k1 k2
          go_wp2
          go_roundw
          all_goals first
            | exact ⟨k + 1, t, cs, by omega, ht, by go_num, rfl, HWO2, HOC9, HPM, HBW9⟩
            | (simp [intOf]; omega)
        · rw [h3] at HE
          obtain ⟨o, hco⟩ : ∃ o, cs[t]? = some o := ⟨_, List.getElem?_eq_getElem (by rw [HOC.out.1]; have := (HWO.out.yes (o := l) HCK.out h3 ht2 (by rw [HOC.out.1]; exact hlt)).1; omega)⟩
          obtain ⟨htk, hwo2⟩ := HWO.out.yes (o := o) HCK.out h3 ht2 (by rw [HOC.out.1]; exact hlt)
          have HWO2 := Lib.hid hwo2
          have HCO := Lib.hid hco
          have htm : t < m := by omega
          clear h3 hwo2 hco
          go_wp2_with fail
          refine HE.out.mono ?_
          rintro e w9 ⟨rfl, b9⟩
          have HOC9 := Lib.hid (HOC.out.below b9)
          have HBW9 := Lib.hid (HG.out.1 _ _ HBW.out b9)
          clear b9 k0 k1 k2
          go_wp2_with fail
          have HOD := Lib.hid (HOC9.out.below (Below.refl _ _).drew)
          have hS : LitAt g (t * 3) o w9.drew ∧ LitAt g (k * 3) l w9.drew := ⟨HOD.out.cells HCO.out, HOD.out.cells HCS.out⟩
          have HOD2 := Lib.hid (HOD.out.set k o)
          obtain ⟨o2, ho2⟩ : ∃ o2, (cs.set k o)[t]? = some o2 := ⟨_, List.getElem?_eq_getElem (by rw [List.length_set, HOC.out.1]; exact htm)⟩
          have HO2 := Lib.hid ho2
          have HOD3 := Lib.hid (HOD2.out.set t l)
          have HPM2 : Hid (((cs.set k o).set t l).Perm ls) := Lib.hid ((swapPerm HCS.out HCO.out).trans HPM.out)
          have HB3 := Lib.hid (HG.out.lit (HG.out.lit (HG.out.1 _ _ HBW9.out (Below.refl _ _).drew) (k * 3) o) (t * 3) l)
          clear ho2
          refine region_z (fun w' => LitAt g (t * 3) o w' ∧ LitAt g (k * 3) l w') (fun i => i == 13 || i == 15) rfl ?_
          change wpAnyZ Tryz.prog .any _ _ _ _ 16 _ (waAct _ _ _ _ _ _ _ _ _ _ _ _ _ _ _ _ _ _ _ _ _ _ _ _ _ _ _ _ _ _ _ _ _ _ _ _ _ _ _ _) w9.drew
          refine wpAnyZ_takeW (i := 0) (v := .slice (some ⟨g, 0, none⟩) m c) rfl (by kernel_rfl) (by kernel_rfl) (by kernel_rfl) (fun _ _ _ h => h) (.inl ⟨rfl, fun w' hw' => rfl⟩) ?_
          change wpAnyZ Tryz.prog .any _ _ _ _ 15 _ (waAct _ _ _ _ _ _ _ _ _ _ _ _ _ _ _ _ _ _ _ _ _ _ _ (.slice (some ⟨g, 0, none⟩) m c) _ _ _ _ _ _ _ _ _ _ _ _ _ _ _ _) w9.drew
          refine wpAnyZ_takeW (i := 1) (v := .int .i64 k) rfl (by kernel_rfl) (by kernel_rfl) (by kernel_rfl) (fun _ _ _ h => h) (.inl ⟨rfl, fun w' hw' => rfl⟩) ?_
          change wpAnyZ Tryz.prog .any _ _ _ _ 14 _ (waAct _ _ _ _ _ _ _ _ _ _ _ _ _ _ _ _ _ _ _ _ _ _ _ (.slice (some ⟨g, 0, none⟩) m c) (.int .i64 k) _ _ _ _ _ _ _ _ _ _ _ _ _ _ _) w9.drew
          refine wpAnyZ_takeW (i := 2) (v := .slice (some ⟨g, 0, none⟩) m c) rfl (by kernel_rfl) (by kernel_rfl) (by kernel_rfl) (fun _ _ _ h => h) (.inl ⟨rfl, fun w' hw' => rfl⟩) ?_
          change wpAnyZ Tryz.prog .any _ _ _ _ 13 _ (waAct _ _ _ _ _ _ _ _ _ _ _ _ _ _ _ _ _ _ _ _ _ _ _ (.slice (some ⟨g, 0, none⟩) m c) (.int .i64 k) (.slice (some ⟨g, 0, none⟩) m c) _ _ _ _ _ _ _ _ _ _ _ _ _ _) w9.drew
          refine wpAnyZ_takeW (i := 3) (v := .int .i64 t) rfl (by kernel_rfl) (by kernel_rfl) (by kernel_rfl) (fun _ _ _ h => h) (.inl ⟨rfl, fun w' hw' => rfl⟩) ?_
          change wpAnyZ Tryz.prog .any _ _ _ _ 12 _ (waAct _ _ _ _ _ _ _ _ _ _ _ _ _ _ _ _ _ _ _ _ _ _ _ (.slice (some ⟨g, 0, none⟩) m c) (.int .i64 k) (.slice (some ⟨g, 0, none⟩) m c) (.int .i64 t) _ _ _ _ _ _ _ _ _ _ _ _ _) w9.drew
          refine wpAnyZ_takeW (i := 4) (v := .slice (some ⟨g, 0, none⟩) m c) rfl (by kernel_rfl) (by kernel_rfl) (by kernel_rfl) (fun _ _ _ h => h) (.inl ⟨rfl, fun w' hw' => rfl⟩) ?_
          change wpAnyZ Tryz.prog .any _ _ _ _ 11 _ (waAct _ _ _ _ _ _ _ _ _ _ _ _ _ _ _ _ _ _ _ _ _ _ _ (.slice (some ⟨g, 0, none⟩) m c) (.int .i64 k) (.slice (some ⟨g, 0, none⟩) m c) (.int .i64 t) (.slice (some ⟨g, 0, none⟩) m c) _ _ _ _ _ _ _ _ _ _ _ _) w9.drew
          refine wpAnyZ_takeW (i := 5) (v := .int .i64 t) rfl (by kernel_rfl) (by kernel_rfl) (by kernel_rfl) (fun _ _ _ h => h) (.inl ⟨rfl, fun w' hw' => rfl⟩) ?_
          change wpAnyZ Tryz.prog .any _ _ _ _ 10 _ (waAct _ _ _ _ _ _ _ _ _ _ _ _ _ _ _ _ _ _ _ _ _ _ _ (.slice (some ⟨g, 0, none⟩) m c) (.int .i64 k) (.slice (some ⟨g, 0, none⟩) m c) (.int .i64 t) (.slice (some ⟨g, 0, none⟩) m c) (.int .i64 t) _ _ _ _ _ _ _ _ _ _ _) w9.drew
          refine wpAnyZ_takeW (i := 6) (v := .pointer (some ⟨g, t * 3, none⟩)) rfl (by kernel_rfl) (by kernel_rfl) (by kernel_rfl) (fun _ _ _ h => h) (.inl ⟨rfl, fun w' hw' => exec_index rfl rfl rfl (index_wat w' _ _ _ _ htm)⟩) ?_
          change wpAnyZ Tryz.prog .any _ _ _ _ 9 _ (waAct _ _ _ _ _ _ _ _ _ _ _ _ _ _ _ _ _ _ _ _ _ _ _ (.slice (some ⟨g, 0, none⟩) m c) (.int .i64 k) (.slice (some ⟨g, 0, none⟩) m c) (.int .i64 t) (.slice (some ⟨g, 0, none⟩) m c) (.int .i64 t) (.pointer (some ⟨g, t * 3, none⟩)) _ _ _ _ _ _ _ _ _ _) w9.drew
          refine wpAnyZ_take (i := 7) (v := .agg #[.int .i64 o.var, .int .i64 o.val, .bool o.neg]) rfl (by kernel_rfl) (by kernel_rfl) (by kernel_rfl) (by kernel_rfl) (fun _ _ _ h => h) (.inl ⟨rfl, fun w' hw' => exec_load rfl rfl (load_litO w' _ _ _ _ _ hw'.1.1 hw'.1.2.1 hw'.1.2.2)⟩) hS ?_
          change wpAnyZ Tryz.prog .any _ _ _ _ 8 _ (waAct _ _ _ _ _ _ _ _ _ _ _ _ _ _ _ _ _ _ _ _ _ _ _ (.slice (some ⟨g, 0, none⟩) m c) (.int .i64 k) (.slice (some ⟨g, 0, none⟩) m c) (.int .i64 t) (.slice (some ⟨g, 0, none⟩) m c) (.int .i64 t) (.pointer (some ⟨g, t * 3, none⟩)) (.agg #[.int .i64 o.var, .int .i64 o.val, .bool o.neg]) _ _ _ _ _ _ _ _ _) w9.drew
          refine wpAnyZ_takeW (i := 8) (v := .slice (some ⟨g, 0, none⟩) m c) rfl (by kernel_rfl) (by kernel_rfl) (by kernel_rfl) (fun _ _ _ h => h) (.inl ⟨rfl, fun w' hw' => rfl⟩) ?_
          change wpAnyZ Tryz.prog .any _ _ _ _ 7 _ (waAct _ _ _ _ _ _ _ _ _ _ _ _ _ _ _ _ _ _ _ _ _ _ _ (.slice (some ⟨g, 0, none⟩) m c) (.int .i64 k) (.slice (some ⟨g, 0, none⟩) m c) (.int .i64 t) (.slice (some ⟨g, 0, none⟩) m c) (.int .i64 t) (.pointer (some ⟨g, t * 3, none⟩)) (.agg #[.int .i64 o.var, .int .i64 o.val, .bool o.neg]) (.slice (some ⟨g, 0, none⟩) m c) _ _ _ _ _ _ _ _) w9.drew
          refine wpAnyZ_takeW (i := 9) (v := .int .i64 k) rfl (by kernel_rfl) (by kernel_rfl) (by kernel_rfl) (fun _ _ _ h => h) (.inl ⟨rfl, fun w' hw' => rfl⟩) ?_
          change wpAnyZ Tryz.prog .any _ _ _ _ 6 _ (waAct _ _ _ _ _ _ _ _ _ _ _ _ _ _ _ _ _ _ _ _ _ _ _ (.slice (some ⟨g, 0, none⟩) m c) (.int .i64 k) (.slice (some ⟨g, 0, none⟩) m c) (.int .i64 t) (.slice (some ⟨g, 0, none⟩) m c) (.int .i64 t) (.pointer (some ⟨g, t * 3, none⟩)) (.agg #[.int .i64 o.var, .int .i64 o.val, .bool o.neg]) (.slice (some ⟨g, 0, none⟩) m c) (.int .i64 k) _ _ _ _ _ _ _) w9.drew
          refine wpAnyZ_takeW (i := 10) (v := .pointer (some ⟨g, k * 3, none⟩)) rfl (by kernel_rfl) (by kernel_rfl) (by kernel_rfl) (fun _ _ _ h => h) (.inl ⟨rfl, fun w' hw' => exec_index rfl rfl rfl (index_wat w' _ _ _ _ hlt)⟩) ?_
          change wpAnyZ Tryz.prog .any _ _ _ _ 5 _ (waAct _ _ _ _ _ _ _ _ _ _ _ _ _ _ _ _ _ _ _ _ _ _ _ (.slice (some ⟨g, 0, none⟩) m c) (.int .i64 k) (.slice (some ⟨g, 0, none⟩) m c) (.int .i64 t) (.slice (some ⟨g, 0, none⟩) m c) (.int .i64 t) (.pointer (some ⟨g, t * 3, none⟩)) (.agg #[.int .i64 o.var, .int .i64 o.val, .bool o.neg]) (.slice (some ⟨g, 0, none⟩) m c) (.int .i64 k) (.pointer (some ⟨g, k * 3, none⟩)) _ _ _ _ _ _) w9.drew
          refine wpAnyZ_take (i := 11) (v := .agg #[.int .i64 l.var, .int .i64 l.val, .bool l.neg]) rfl (by kernel_rfl) (by kernel_rfl) (by kernel_rfl) (by kernel_rfl) (fun _ _ _ h => h) (.inl ⟨rfl, fun w' hw' => exec_load rfl rfl (load_litO w' _ _ _ _ _ hw'.2.1 hw'.2.2.1 hw'.2.2.2)⟩) hS ?_
          change wpAnyZ Tryz.prog .any _ _ _ _ 4 _ (waAct _ _ _ _ _ _ _ _ _ _ _ _ _ _ _ _ _ _ _ _ _ _ _ (.slice (some ⟨g, 0, none⟩) m c) (.int .i64 k) (.slice (some ⟨g, 0, none⟩) m c) (.int .i64 t) (.slice (some ⟨g, 0, none⟩) m c) (.int .i64 t) (.pointer (some ⟨g, t * 3, none⟩)) (.agg #[.int .i64 o.var, .int .i64 o.val, .bool o.neg]) (.slice (some ⟨g, 0, none⟩) m c) (.int .i64 k) (.pointer (some ⟨g, k * 3, none⟩)) (.agg #[.int .i64 l.var, .int .i64 l.val, .bool l.neg]) _ _ _ _ _) w9.drew
          refine wpAnyZ_takeW (i := 12) (v := .pointer (some ⟨g, k * 3, none⟩)) rfl (by kernel_rfl) (by kernel_rfl) (by kernel_rfl) (fun _ _ _ h => h) (.inl ⟨rfl, fun w' hw' => exec_index rfl rfl rfl (index_wat w' _ _ _ _ hlt)⟩) ?_
          change wpAnyZ Tryz.prog .any _ _ _ _ 3 _ (waAct _ _ _ _ _ _ _ _ _ _ _ _ _ _ _ _ _ _ _ _ _ _ _ (.slice (some ⟨g, 0, none⟩) m c) (.int .i64 k) (.slice (some ⟨g, 0, none⟩) m c) (.int .i64 t) (.slice (some ⟨g, 0, none⟩) m c) (.int .i64 t) (.pointer (some ⟨g, t * 3, none⟩)) (.agg #[.int .i64 o.var, .int .i64 o.val, .bool o.neg]) (.slice (some ⟨g, 0, none⟩) m c) (.int .i64 k) (.pointer (some ⟨g, k * 3, none⟩)) (.agg #[.int .i64 l.var, .int .i64 l.val, .bool l.neg]) (.pointer (some ⟨g, k * 3, none⟩)) _ _ _ _) w9.drew
          refine wpAnyZ_one (i := 13) (by kernel_rfl) rfl (fun K' hK' => ?_)
          refine step_skip _ (setLit w9.drew g (k * 3) o) rfl (exec_store rfl rfl rfl (store_lit _ _ _ o l hS.2 (HOD.out.frozen _) (HOD.out.frozen _) (HOD.out.frozen _))) ?_
          refine hK'.out _ _ (fun h => by cases h) ?_
          clear hK' K'
          change wpAnyZ Tryz.prog .any _ _ _ _ 2 _ (waAct _ _ _ _ _ _ _ _ _ _ _ _ _ _ _ _ _ _ _ _ _ _ _ (.slice (some ⟨g, 0, none⟩) m c) (.int .i64 k) (.slice (some ⟨g, 0, none⟩) m c) (.int .i64 t) (.slice (some ⟨g, 0, none⟩) m c) (.int .i64 t) (.pointer (some ⟨g, t * 3, none⟩)) (.agg #[.int .i64 o.var, .int .i64 o.val, .bool o.neg]) (.slice (some ⟨g, 0, none⟩) m c) (.int .i64 k) (.pointer (some ⟨g, k * 3, none⟩)) (.agg #[.int .i64 l.var, .int .i64 l.val, .bool l.neg]) (.pointer (some ⟨g, k * 3, none⟩)) _ _ _ _) (setLit w9.drew g (k * 3) o)
          refine wpAnyZ_takeW (i := 14) (v := .pointer (some ⟨g, t * 3, none⟩)) rfl (by kernel_rfl) (by kernel_rfl) (by kernel_rfl) (fun _ _ _ h => h) (.inl ⟨rfl, fun w' hw' => exec_index rfl rfl rfl (index_wat w' _ _ _ _ htm)⟩) ?_
          change wpAnyZ Tryz.prog .any _ _ _ _ 1 _ (waAct _ _ _ _ _ _ _ _ _ _ _ _ _ _ _ _ _ _ _ _ _ _ _ (.slice (some ⟨g, 0, none⟩) m c) (.int .i64 k) (.slice (some ⟨g, 0, none⟩) m c) (.int .i64 t) (.slice (some ⟨g, 0, none⟩) m c) (.int .i64 t) (.pointer (some ⟨g, t * 3, none⟩)) (.agg #[.int .i64 o.var, .int .i64 o.val, .bool o.neg]) (.slice (some ⟨g, 0, none⟩) m c) (.int .i64 k) (.pointer (some ⟨g, k * 3, none⟩)) (.agg #[.int .i64 l.var, .int .i64 l.val, .bool l.neg]) (.pointer (some ⟨g, k * 3, none⟩)) (.pointer (some ⟨g, t * 3, none⟩)) _ _ _) (setLit w9.drew g (k * 3) o)
          refine wpAnyZ_one (i := 15) (by kernel_rfl) rfl (fun K' hK' => ?_)
          refine step_skip _ (setLit (setLit w9.drew g (k * 3) o) g (t * 3) l) rfl (exec_store rfl rfl rfl (store_lit _ _ _ l o2 (HOD2.out.cells HO2.out) (HOD2.out.frozen _) (HOD2.out.frozen _) (HOD2.out.frozen _))) ?_
          refine hK'.out _ _ (fun h => by cases h) ?_
          clear hK' K'
          change wpAnyZ Tryz.prog .any _ _ _ _ 0 _ (waAct _ _ _ _ _ _ _ _ _ _ _ _ _ _ _ _ _ _ _ _ _ _ _ (.slice (some ⟨g, 0, none⟩) m c) (.int .i64 k) (.slice (some ⟨g, 0, none⟩) m c) (.int .i64 t) (.slice (some ⟨g, 0, none⟩) m c) (.int .i64 t) (.pointer (some ⟨g, t * 3, none⟩)) (.agg #[.int .i64 o.var, .int .i64 o.val, .bool o.neg]) (.slice (some ⟨g, 0, none⟩) m c) (.int .i64 k) (.pointer (some ⟨g, k * 3, none⟩)) (.agg #[.int .i64 l.var, .int .i64 l.val, .bool l.neg]) (.pointer (some ⟨g, k * 3, none⟩)) (.pointer (some ⟨g, t * 3, none⟩)) _ _ _) (setLit (setLit w9.drew g (k * 3) o) g (t * 3) l)
          refine wpAnyZ_done (by kernel_rfl) ?_ _
          unfold waAct
          go_wp2
          go_roundw
          all_goals first
            | exact ⟨k + 1, t + 1, (cs.set k o).set t l, by omega, by omega, by go_num, by go_num, HWO2, HOD3, HPM2, HB3⟩
            | (simp [intOf]; omega)
      · obtain rfl : t = 2 := by omega
        have HFI : Hid (2 ≤ (posL ls ds).length) := Lib.hid (by
          rcases HWO.out.2 with ⟨e1, _⟩ | ⟨q, e1, _⟩ | ⟨_, _, e3⟩
          · omega
          · omega
          · exact Nat.le_trans e3 (posL_len ls ds k))
        go_wp2
        go_ret
        exact ⟨2, cs, rfl, HOC.out, HPM.out, HBW.out, .inr (.inr ⟨rfl, HFI.out⟩)⟩
    · obtain rfl : k = m := by omega
      have HTK : Hid (ls.take k = ls) := Lib.hid (by rw [← HM.out, List.take_length])
      have HFI : Hid ((t = 0 ∧ posL ls ds = []) ∨ (∃ l, t = 1 ∧ posL ls ds = [l] ∧ cs[0]? = some l) ∨ (t = 2 ∧ 2 ≤ (posL ls ds).length)) := Lib.hid (by
        have := HWO.out.2
        rw [HTK.out] at this
        rcases this with h | ⟨q, e1, _, e3, e4⟩ | ⟨e1, _, e3⟩
        · exact .inl h
        · exact .inr (.inl ⟨q, e1, e3, e4⟩)
        · exact .inr (.inr ⟨e1, e3⟩))
      go_wp2
      go_ret
      exact ⟨t, cs, rfl, HOC.out, HPM.out, HBW.out, HFI.out⟩
end Go.Proofs.YtipapmmjfoaddaaGreat
