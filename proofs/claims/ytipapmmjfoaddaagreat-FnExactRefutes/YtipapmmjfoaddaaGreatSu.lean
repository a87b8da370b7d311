/- The program's iterator over the tuples of a propagator. What stands while the program looks for supported values. The program's supported values of a constraint. -/
import Derived.Test.YtipapmmjfoaddaaGreatEx
import Derived.Test.YtipapmmjfoaddaaGreatSupS
import Derived.Test.YtipapmmjfoaddaaGreatRf

/-! The program's iterator over the tuples of a propagator. -/
namespace Go.Proofs.YtipapmmjfoaddaaGreat
open Go.ChangeShapes Go.WideShapes Go.ChangeAt Go.RowKit Go.Shelf
set_option linter.unusedVariables false
set_option linter.unusedSimpArgs false

set_option maxRecDepth 100000 in
set_option maxHeartbeats 4000000 in
theorem tuples1_any (l Bp Bd nv : Nat) (vv fv dv : Value) (ds vars : List Int) (hn : vars.length = nv) (hn4 : nv ≤ 4) (hds : Small ds 0 63) (hvr : Small vars 0 ((ds.length : Int) - 1)) (W : World)
    (J : List (List Int) → World → Prop) (Jx : World → Prop) (hJ : ∀ T X Y, J T X → Below W.heap.size X Y → J T Y) (hJx : ∀ X Y, Jx X → Below W.heap.size X Y → Jx Y)
    (hJr : ∀ T X, J T X → RdInts X vv vars ∧ RdInts X dv ds) (hJk : ∀ T X, J T X → X.heap[Bp]? = some (.cells #[vv, fv] 113) ∧ Boxed X Bd 22 dv) (hJxk : ∀ X, Jx X → X.heap[Bp]? = some (.cells #[vv, fv] 113) ∧ Boxed X Bd 22 dv)
    (hY : ∀ T t W1, J T W1 → XT W.heap.size nv t W1 → t.length = nv → Small t 0 5 → YieldAt Fence.wide 5 Tryz.prog l #[.slice (some ⟨W.heap.size, 0, none⟩) nv nv] W1 fun e W' => (e = .returned (.bool true) ∧ J (T ++ [t]) W' ∧ Kq W.heap.size W1 W') ∨ (e = .returned (.bool false) ∧ Jx W' ∧ Kq W.heap.size W1 W'))
    (h0 : J [] W) :
    Calls Tryz.prog 187 #[.func (.yield l) #[] #[], .pointer (some ⟨Bp, 0, none⟩), .pointer (some ⟨Bd, 0, none⟩)] W fun e W' => (∃ v, e = .returned v) ∧ (J (tups ds vars) W' ∨ Jx W') := by
  obtain ⟨r1, r2⟩ := hJr _ _ h0
  obtain ⟨av, cv, ev, -⟩ := id r1
  obtain ⟨ad, cd, ed, -⟩ := id r2
  have hcv := (rdInts_cap (ev ▸ r1)).2
  obtain ⟨i0, hi, hz0, hz1, hz2⟩ := info_parts Tryz.info3
  obtain ⟨wA, hA, oA, gA⟩ := run_make_own (P := Tryz.prog) W.drew W.heap.size 22 3 i0 (.int .i64 0) 1 Tryz.underlying22 hi hz0 hz1 .i64 .i64 nv (by rw [hz2]; omega) (by unfold maxLen; omega) (Nat.le_refl _)
  have bA : Below W.heap.size W wA := (show Below W.heap.size W W.drew from (Below.refl _ _).drew).trans (below_of_grown gA)
  have hcall := ext_all l W.heap.size nv vv fv dv ds vars hn hn4 hds hvr J Jx hJ hJx hJr hY vars [] rfl (Nat.zero_le _) (fun j hj => by simp at hj) [] wA (hJ _ _ _ h0 bA) oA
  have hcall2 : Calls Tryz.prog 188 #[.agg #[vv, fv], dv, .slice (some ⟨W.heap.size, 0, none⟩) 0 nv, .func (.yield l) #[] #[]] wA fun e X' => ∃ b : Bool, e = .returned (.bool b) ∧ (J (tups ds vars) X' ∨ Jx X') ∧ X'.cell? ⟨Bp, 0, none⟩ = some vv ∧ X'.cell? ⟨Bp, 1, none⟩ = some fv ∧ X'.cell? ⟨Bd, 0, none⟩ = some dv := by
    refine hcall.mono ?_
    rintro e X' (⟨rfl, h1, _⟩ | ⟨rfl, h1, _⟩)
    · obtain ⟨k1, k2⟩ := hJk _ _ h1
      exact ⟨true, rfl, .inl (by simpa using h1), by simp [World.cell?, k1], by simp [World.cell?, k1], k2.cell⟩
    · obtain ⟨k1, k2⟩ := hJxk _ h1
      exact ⟨false, rfl, .inr h1, by simp [World.cell?, k1], by simp [World.cell?, k1], k2.cell⟩
  obtain ⟨k1, k2⟩ := hJk _ _ h0
  obtain ⟨k3, k4⟩ := hJk _ _ (hJ _ _ _ h0 bA)
  have p0 : W.cell? ⟨Bp, 0, none⟩ = some vv := by simp [World.cell?, k1]
  have p1 : W.cell? ⟨Bp, 1, none⟩ = some fv := by simp [World.cell?, k1]
  have pd := k2.cell
  have y0 : wA.cell? ⟨Bp, 0, none⟩ = some vv := by simp [World.cell?, k3]
  have y1 : wA.cell? ⟨Bp, 1, none⟩ = some fv := by simp [World.cell?, k3]
  have yd := k4.cell
  obtain ⟨g, hg⟩ : ∃ g, g = W.heap.size := ⟨_, rfl⟩
  have hA2 : (Instr.makeSlice 22 (.int .i64 0) (.int .i64 (nv : Int))).run Tryz.prog W.drew = .ok (.slice (some ⟨g, 0, none⟩) 0 nv) wA := by rw [hg]; exact hA
  rw [← hg] at hcall2
  rw [ev, ed] at hcall2
  rw [ev] at p0 y0
  rw [ed] at pd yd
  rw [hn] at p0 y0 hcall2 hcv
  have HC := Lib.hid hcall2
  clear hcall hcall2 hJ hJx hJr hJk hJxk hY h0 r1 r2 ev ed hn hA oA gA bA hi hz0 hz1 hz2 hg k1 k2 k3 k4 hds hvr
  go_enter Tryz.func187, Tryz.ntmps187
  go_wp2
  go_region_held3 (fun w' => w'.cell? ⟨Bp, 0, none⟩ = some (.slice av nv cv) ∧ w'.cell? ⟨Bp, 1, none⟩ = some fv ∧ w'.cell? ⟨Bd, 0, none⟩ = some (.slice ad ds.length cd)) (first | go_keep | exact ⟨y0, y1, yd⟩ | exact ⟨z0, z1, zd⟩) ((go_at_call 188; refine HC.out.mono ?_; rintro e X3 ⟨b, rfl, hor, z0, z1, zd⟩))
  go_end0
  exact ⟨⟨_, rfl⟩, hor⟩
end Go.Proofs.YtipapmmjfoaddaaGreat

/-! What stands while the program looks for supported values. -/
namespace Go.Proofs.YtipapmmjfoaddaaGreat
open Go.ChangeShapes Go.WideShapes Go.ChangeAt Go.RowKit Go.Shelf
set_option linter.unusedVariables false
set_option linter.unusedSimpArgs false

attribute [local go_sem] Oper.semAt_some

theorem or_pow_fin : ∀ n : Fin 64, ∀ k : Fin 6, bits .or .i64 ((n.val : Nat) : Int) (wrap64 (2 ^ k.val)) = addB ((n.val : Nat) : Int) (k.val : Int) := by decide +kernel
theorem or_pow {d : Int} {a : Nat} (h1 : 0 ≤ d) (h2 : d ≤ 63) (h4 : a ≤ 5) : bits .or .i64 d (wrap64 (2 ^ a)) = addB d a := by
  have := or_pow_fin ⟨d.toNat, by omega⟩ ⟨a, by omega⟩
  simp only [Int.toNat_of_nonneg h1] at this
  exact this

theorem XT.at {bx nv : Nat} {p : List Int} {W : World} (h : XT bx nv p W) {i : Nat} (hi : i < p.length) : W.cell? ⟨bx, i, none⟩ = some (.int .i64 (p[i]?.getD 0)) := by
  obtain ⟨b, off, e, q⟩ := rdInts_at h.rd hi
  simp at e
  obtain ⟨rfl, rfl⟩ := e
  simpa using q
theorem XT.unfrozen {bx nv : Nat} {p : List Int} {W : World} (h : XT bx nv p W) (i : Nat) : W.frozen? ⟨bx, i, none⟩ = false := by
  obtain ⟨cur, h1, _⟩ := h.block
  simp [World.frozen?, h1]
theorem XT.set {bx nv : Nat} {p : List Int} {W : World} (h : XT bx nv p W) {i : Nat} (hi : i < p.length) (u : Int) : XT bx nv (p.set i u) (W.setCell ⟨bx, i, none⟩ (.int .i64 u)) := by
  obtain ⟨cur, h1, h2, h3, h4, h5⟩ := h.block
  refine XT.of_block (cur := cur.set! i (.int .i64 u)) ?_ (by simpa using h2) h3 (by simpa using h4) ?_
  · obtain ⟨hlt, hb⟩ := Array.getElem?_eq_some_iff.1 h1
    unfold World.setCell
    simp [hlt, Array.getElem_modify, hb]
  · rw [List.length_set]
    simp only [Array.set!_eq_setIfInBounds, Array.toList_setIfInBounds]
    rw [List.take_set, h5, List.map_set]

/-- The row of the supported values (xs), its box, the propagator's boxes and the iterator's. -/
structure SupSt (w : World) (nv : Nat) (vv fv dv : Value) (xs : List Int) (X : World) : Prop where
  bel : Below w.heap.size w X
  pb : X.heap[w.heap.size]? = some (.cells #[vv, fv] 113)
  row : XT (w.heap.size + 1) nv xs X
  vb : Boxed X (w.heap.size + 2) 22 (.slice (some ⟨w.heap.size + 1, 0, none⟩) nv nv)
  tp : X.heap[w.heap.size + 3]? = some (.cells #[vv, fv] 113)
  td : Boxed X (w.heap.size + 4) 22 dv
theorem SupSt.below {w X Y : World} {nv : Nat} {vv fv dv : Value} {xs : List Int} (h : SupSt w nv vv fv dv xs X) (hb : Below (w.heap.size + 5) X Y) : SupSt w nv vv fv dv xs Y :=
  ⟨h.bel.trans (hb.mono (by omega)), (hb.block _ (by omega)).trans h.pb, h.row.keep (hb.block _ (by omega)), (hb.block _ (by omega)).trans h.vb, (hb.block _ (by omega)).trans h.tp, (hb.block _ (by omega)).trans h.td⟩
theorem SupSt.set {w X : World} {nv : Nat} {vv fv dv : Value} {xs : List Int} (h : SupSt w nv vv fv dv xs X) {i : Nat} (hi : i < xs.length) (u : Int) : SupSt w nv vv fv dv (xs.set i u) (X.setCell ⟨w.heap.size + 1, i, none⟩ (.int .i64 u)) := by
  have hk : ∀ b, b ≠ w.heap.size + 1 → (X.setCell ⟨w.heap.size + 1, i, none⟩ (.int .i64 u)).heap[b]? = X.heap[b]? := fun b hb => Below.heap_setCell _ _ _ _ (by simpa using hb)
  exact ⟨h.bel.setCell (by simp) _, (hk _ (by omega)).trans h.pb, h.row.set hi u, (hk _ (by omega)).trans h.vb, (hk _ (by omega)).trans h.tp, (hk _ (by omega)).trans h.td⟩

theorem enters_test {F : Nat} (h : isTest F) : ∀ gs w, (callFunc F gs).run Tryz.prog w = .ok (.enter F gs) w := by
  rcases h with rfl | rfl | rfl | rfl | rfl | rfl | rfl | rfl | rfl
  · exact enters_of Tryz.func163 (by kernel_rfl) rfl
  · exact enters_of Tryz.func164 (by kernel_rfl) rfl
  · exact enters_of Tryz.func165 (by kernel_rfl) rfl
  · exact enters_of Tryz.func166 (by kernel_rfl) rfl
  · exact enters_of Tryz.func167 (by kernel_rfl) rfl
  · exact enters_of Tryz.func168 (by kernel_rfl) rfl
  · exact enters_of Tryz.func169 (by kernel_rfl) rfl
  · exact enters_of Tryz.func170 (by kernel_rfl) rfl
  · exact enters_of Tryz.func171 (by kernel_rfl) rfl

set_option maxHeartbeats 1000000 in
theorem tuples_in (n : Nat) (a1 a2 : Option Addr) (n1 n2 c1 c2 : Nat) (fv : Value) (w : World) :
    CallsIn Fence.wide n Tryz.prog 177 #[.agg #[.slice a1 n1 c1, fv], .slice a2 n2 c2] w fun e w' => e = .returned (.func (.func 187) #[] #[.pointer (some ⟨w.heap.size, 0, none⟩), .pointer (some ⟨w.heap.size + 1, 0, none⟩)]) ∧ w' = (w.alloc (.cells #[.slice a1 n1 c1, fv] 113)).alloc (.cells #[.slice a2 n2 c2] 22) := by
  refine callsIn_of_wp Tryz.func177 rfl trivial ?_ rfl
  simp only [Tryz.ntmps177, List.size_toArray, List.length_cons, List.length_nil, Nat.reduceAdd, Nat.reduceSub, Array.replicate_succ, Array.replicate_zero, List.push_toArray, List.append_toArray, List.nil_append, List.cons_append]
  gi_wp2
  go_ret
  exact ⟨rfl, rfl⟩
end Go.Proofs.YtipapmmjfoaddaaGreat

/-! The program's supported values of a constraint. -/
namespace Go.Proofs.YtipapmmjfoaddaaGreat
open Go.ChangeShapes Go.WideShapes Go.ChangeAt Go.RowKit Go.Shelf
set_option linter.unusedVariables false
set_option linter.unusedSimpArgs false

attribute [local go_sem] Oper.semAt_some

/-- The supported values that the tuples T give. -/
def accL (c : Con) (nv : Nat) (T : List (List Int)) : List Int := T.foldl (supStep c) (List.replicate nv 0)
theorem accL_snoc (c : Con) (nv : Nat) (T : List (List Int)) (t : List Int) : accL c nv (T ++ [t]) = supStep c (accL c nv T) t := by simp [accL]

theorem Kq.trans {bx : Nat} {A B C : World} (h : Kq bx A B) (k : Kq bx B C) : Kq bx A C := ⟨Nat.le_trans h.1 k.1, fun b h1 h2 => (k.2 b h1 (by have := h.1; omega)).trans (h.2 b h1 h2)⟩
theorem Kq.refl (bx : Nat) (W : World) : Kq bx W W := ⟨Nat.le_refl _, fun _ _ _ => rfl⟩
theorem Kq.of_below {bx : Nat} {W W' : World} (h : Below W.heap.size W W') : Kq bx W W' := ⟨h.size, fun b _ h2 => h.block b h2⟩
theorem KeepsFrom.of_below {B : Nat} {W W' : World} (h : Below W.heap.size W W') : KeepsFrom B W W' := ⟨h.size, fun k o _ h1 _ => (h.block k (Array.getElem?_eq_some_iff.1 h1).1).trans h1⟩

/-- The activation inside the region that marks one value. -/
def supAct (h : Nat) (av ad : Option Addr) (nv cc nd cd F : Nat) (cv : Value) (j a : Nat) (u30 u31 u33 u34 u35 u36 : Value) : Act := { tmps := #[.agg #[.slice av nv cc, .func (.func F) #[cv] #[]], .slice ad nd cd, .pointer (some ⟨h, 0, none⟩), undef, .slice none 0 0, .pointer (some ⟨h + 2, 0, none⟩), .slice (some ⟨h + 7, 0, none⟩) nv nv, .int .i64 j, .int .i64 a, .pointer (some ⟨h, 0, none⟩), .slice av nv cc, .int .i64 nv, .slice (some ⟨h + 1, 0, none⟩) nv nv, .agg #[.slice av nv cc, .func (.func F) #[cv] #[]], .slice ad nd cd,
            .func (.func 187) #[] #[.pointer (some ⟨h + 3, 0, none⟩), .pointer (some ⟨h + 3 + 1, 0, none⟩)], .slice (some ⟨h + 7, 0, none⟩) nv nv, .pointer (some ⟨h, 1, none⟩), .func (.func F) #[cv] #[], .slice (some ⟨h + 7, 0, none⟩) nv nv, .bool true, .slice (some ⟨h + 7, 0, none⟩) nv nv, .int .i64 nv, .int .i64 j, .bool true, .int .i64 j, .pointer (some ⟨h + 7, j, none⟩), .int .i64 a, .slice (some ⟨h + 1, 0, none⟩) nv nv, .int .i64 j, u30, u31, .int .i64 a, u33, u34, u35, u36, undef], defers := [] }

set_option maxRecDepth 100000 in
set_option maxHeartbeats 4000000 in
theorem isup_any (c : Con) (cv vv dv : Value) (F : Nat) (ds : List Int) (w : World) (hF : isTest F) (hcv : RdCon w cv c) (hvv : RdInts w vv c.vars) (hdv : RdInts w dv ds)
    (h1 : 1 ≤ c.vars.length) (h4 : c.vars.length ≤ 4) (hvs : Small c.vars 0 ((ds.length : Int) - 1)) (hds : Small ds 0 63)
    (hfit : ∀ t : List Int, t.length = c.vars.length → Small t 0 5 → Fit c t)
    (hsat : ∀ (xv : Value) (x : List Int) (w : World), Fit c x → RdCon w cv c → RdInts w xv x → Calls Tryz.prog F #[cv, xv] w (BoolPost (satB c x) w)) :
    Calls Tryz.prog 148 #[.agg #[vv, .func (.func F) #[cv] #[]], dv] w fun e w' => ∃ v, e = .returned v ∧ w'.ownsRow w.heap.size 3 1 v c.vars.length ((accL c c.vars.length (tups ds c.vars)).map (Value.int .i64)) ∧ Below w.heap.size w w' := by
  obtain ⟨av, cc, ev, -⟩ := id hvv
  obtain ⟨ad, cd, ed, -⟩ := id hdv
  rw [ed] at hdv ⊢
  rw [ev] at hvv ⊢
  obtain ⟨nv, hn⟩ : ∃ nv, nv = c.vars.length := ⟨_, rfl⟩
  obtain ⟨nd, hnd⟩ : ∃ nd, nd = ds.length := ⟨_, rfl⟩
  rw [← hn] at hvv h1 h4 ⊢
  rw [← hnd] at hdv ⊢
  have hca := (rdInts_cap hvv).2
  obtain ⟨i0, hi, hz0, hz1, hz2⟩ := info_parts Tryz.info3
  obtain ⟨W1, hW1⟩ : ∃ W1, w.alloc (.cells #[.slice av nv cc, .func (.func F) #[cv] #[]] 113) = W1 := ⟨_, rfl⟩
  have B1 : Below w.heap.size w W1 := by rw [← hW1]; exact (Below.refl _ _).alloc (Nat.le_refl _) _
  have s1 : W1.heap.size = w.heap.size + 1 := by rw [← hW1]; simp
  have q1 : W1.heap[w.heap.size]? = some (.cells #[.slice av nv cc, .func (.func F) #[cv] #[]] 113) := by rw [← hW1]; exact World.alloc_heap_new _ _
  have p0 : W1.cell? ⟨w.heap.size, 0, none⟩ = some (.slice av nv cc) := by simp [World.cell?, q1]
  have p1 : W1.cell? ⟨w.heap.size, 1, none⟩ = some (.func (.func F) #[cv] #[]) := by simp [World.cell?, q1]
  obtain ⟨wA, hA, oA, gA⟩ := run_make_full (P := Tryz.prog) W1 W1.heap.size 22 3 i0 (.int .i64 0) 1 Tryz.underlying22 hi hz0 hz1 .i64 .i64 nv (by rw [hz2]; omega) (by unfold maxLen; omega) (Nat.le_refl _)
  rw [madeInts] at oA
  have hA2 : (Instr.makeSlice 22 (.int .i64 (nv : Int)) (.int .i64 (nv : Int))).run Tryz.prog W1 = .ok (.slice (some ⟨w.heap.size + 1, 0, none⟩) nv nv) wA := by rw [← s1]; exact hA
  have bA : Below W1.heap.size W1 wA := below_of_grown gA
  have y0 : wA.cell? ⟨w.heap.size, 0, none⟩ = some (.slice av nv cc) := (bA.cell (by simp; omega)).trans p0
  have y1 : wA.cell? ⟨w.heap.size, 1, none⟩ = some (.func (.func F) #[cv] #[]) := (bA.cell (by simp; omega)).trans p1
  have hm := run_make (P := Tryz.prog) W1 22 3 i0 (.int .i64 0) Tryz.underlying22 hi hz0 .i64 .i64 (nv : Int) (nv : Int) (by omega) (Int.le_refl _) (by rw [hz2]; omega) (by omega)
  have sA : wA.heap.size = w.heap.size + 2 := by
    rw [hm] at hA
    injection hA with _ e2
    rw [← e2, World.size_alloc, s1]
  obtain ⟨wB, hWB⟩ : ∃ wB, wA.alloc (.cells #[.slice (some ⟨w.heap.size + 1, 0, none⟩) nv nv] 22) = wB := ⟨_, rfl⟩
  have sB : wB.heap.size = w.heap.size + 3 := by rw [← hWB, World.size_alloc, sA]
  have bB : Below wA.heap.size wA wB := by rw [← hWB]; exact (Below.refl _ _).alloc (Nat.le_refl _) _
  have vB : Boxed wB (w.heap.size + 2) 22 (.slice (some ⟨w.heap.size + 1, 0, none⟩) nv nv) := by
    have := Boxed.new wA 22 (.slice (some ⟨w.heap.size + 1, 0, none⟩) nv nv)
    rw [sA] at this; rw [← hWB]; exact this
  have z0 : wB.cell? ⟨w.heap.size, 0, none⟩ = some (.slice av nv cc) := (bB.cell (by simp; omega)).trans y0
  have z1 : wB.cell? ⟨w.heap.size, 1, none⟩ = some (.func (.func F) #[cv] #[]) := (bB.cell (by simp; omega)).trans y1
  have oA' : wA.ownsRow (w.heap.size + 1) 3 1 (.slice (some ⟨w.heap.size + 1, 0, none⟩) nv nv) nv ((List.replicate nv 0).map (Value.int .i64)) := by rw [← s1]; exact oA
  have hrow : XT (w.heap.size + 1) nv (List.replicate nv 0) wA := by unfold XT; rw [List.length_replicate]; exact oA'
  have bAll : Below w.heap.size w wB := B1.trans ((bA.mono B1.size).trans (bB.mono (by omega)))
  have hR : SupSt w nv (.slice av nv cc) (.func (.func F) #[cv] #[]) (.slice ad nd cd) (List.replicate nv 0) ((wB.alloc (.cells #[.slice av nv cc, .func (.func F) #[cv] #[]] 113)).alloc (.cells #[.slice ad nd cd] 22)) := by
    have b1 : Below wB.heap.size wB ((wB.alloc (.cells #[.slice av nv cc, .func (.func F) #[cv] #[]] 113)).alloc (.cells #[.slice ad nd cd] 22)) := ((Below.refl _ _).alloc (Nat.le_refl _) _).alloc (by simp) _
    have n1 := World.alloc_heap_new wB (.cells #[.slice av nv cc, .func (.func F) #[cv] #[]] 113)
    have n2 := World.alloc_heap_new (wB.alloc (.cells #[.slice av nv cc, .func (.func F) #[cv] #[]] 113)) (.cells #[.slice ad nd cd] 22)
    rw [World.size_alloc] at n2
    rw [sB] at n1 n2 b1
    refine ⟨bAll.trans (b1.mono (by omega)), (b1.block _ (by omega)).trans ((bB.block _ (by omega)).trans ((bA.block _ (by omega)).trans q1)), (hrow.keep (bB.block _ (by omega))).keep (b1.block _ (by omega)), (b1.block _ (by omega)).trans vB, ?_, n2⟩
    exact (Below.heap_alloc _ _ _ (by rw [World.size_alloc, sB]; omega)).trans n1
  have HR := Lib.hid hR
  clear hR bAll hrow oA' vB bB hm
  have HN := Lib.hid hn
  have HND := Lib.hid hnd
  have HS1 := Lib.hid s1
  have HQ1 := Lib.hid q1
  have HOA := Lib.hid oA
  have HB1 := Lib.hid B1
  have HBA := Lib.hid bA
  have HGA := Lib.hid gA
  have HLA := Lib.hid (own_lt oA)
  have HFI := Lib.hid hfit
  have HSA := Lib.hid hsat
  have HVS := Lib.hid hvs
  have HDS := Lib.hid hds
  have HCV := Lib.hid hcv
  have HVV := Lib.hid hvv
  have HDV := Lib.hid hdv
  clear hn hnd ev ed s1 q1 oA B1 bA gA hA hi hz0 hz1 hz2 hfit hsat hvs hds hcv hvv hdv
  refine (callsIn_wide (n := 8)).1 ?_
  refine callsIn_of_wp_marks Tryz.func148 rfl trivial ?_ rfl
  simp only [Tryz.ntmps148, List.size_toArray, List.length_cons, List.length_nil, Nat.reduceAdd, Nat.reduceSub, Array.replicate_succ, Array.replicate_zero, List.push_toArray, List.append_toArray, List.nil_append, List.cons_append]
  gi_wp2_with (refine ⟨trivial, ?_⟩; gi_at_call 177; refine (tuples_in _ _ _ _ _ _ _ _ _).mono ?_; rintro e w' ⟨rfl, rfl⟩)
  obtain ⟨R, hRR⟩ : ∃ R, (wB.alloc (.cells #[.slice av nv cc, .func (.func F) #[cv] #[]] 113)).alloc (.cells #[.slice ad nd cd] 22) = R := ⟨_, rfl⟩
  have sR : R.heap.size = w.heap.size + 5 := by rw [← hRR, World.size_alloc, World.size_alloc, sB]
  rw [hRR] at HR ⊢
  clear hRR hW1 p0 p1 y0 y1 z0 z1 hWB sA sB HQ1 HS1 HOA HB1 HBA HGA HLA hA2
  have HSR := Lib.hid sR
  have hF' := enters_test hF
  refine rf_outer2 (σ := List (List Int)) (At := fun s s' vs W => ∃ t, s' = s ++ [t] ∧ vs = #[Value.slice (some ⟨w.heap.size + 7, 0, none⟩) nv nv] ∧ XT (w.heap.size + 7) nv t W ∧ t.length = nv ∧ Small t 0 5)
    (Kp := fun A B => Kq (w.heap.size + 7) A B) (S := fun s => s = tups ds c.vars) (Sp := fun _ => False)
    rfl (by omega) rfl trivial (enters_of Tryz.func187 (by kernel_rfl) rfl) (fun h k => h.trans k) ?hKb (fun s s' vs W h => by obtain ⟨t, _, rfl, _⟩ := h; rfl)
    (fun T X => SupSt w nv (.slice av nv cc) (.func (.func F) #[cv] #[]) (.slice ad nd cd) (accL c nv T) X ∧ (accL c nv T).length = nv ∧ Small (accL c nv T) 0 63) (fun _ _ _ => False)
    (fun s s' vs a' W => ∃ t, s' = s ++ [t] ∧ XT (w.heap.size + 7) nv t W ∧ t.length = nv ∧ Small t 0 5 ∧ a' = { tmps := #[.agg #[.slice av nv cc, .func (.func F) #[cv] #[]], .slice ad nd cd, .pointer (some ⟨w.heap.size, 0, none⟩), undef, .slice none 0 0, .pointer (some ⟨w.heap.size + 2, 0, none⟩), .slice (some ⟨w.heap.size + 7, 0, none⟩) nv nv, undef, undef, .pointer (some ⟨w.heap.size, 0, none⟩), .slice av nv cc, .int .i64 nv, .slice (some ⟨w.heap.size + 1, 0, none⟩) nv nv, .agg #[.slice av nv cc, .func (.func F) #[cv] #[]], .slice ad nd cd,
      .func (.func 187) #[] #[.pointer (some ⟨w.heap.size + 3, 0, none⟩), .pointer (some ⟨w.heap.size + 3 + 1, 0, none⟩)], .slice (some ⟨w.heap.size + 7, 0, none⟩) nv nv, undef, undef, undef, undef, undef, undef, undef, undef, undef, undef, undef, undef, undef, undef, undef, undef, undef, undef, undef, undef, undef], defers := [] })
    ?hI (fun c s X Y row h _ _ => h) ?hAx [] ⟨HR.out, by simp [accL], fun j hj => by simp [accL] at hj; simp [accL, hj]⟩ ?hseq ?hassign ?hbody ?hdone (fun D c s W _ h _ _ => h.elim)
  case hKb =>
    intro X l o o' h1 h2 h3 h4
    have hg := grownBy_putObj' X l o'
    exact ⟨hg.size, fun b hb1 hb2 => hg.block b hb2 (by simp; omega)⟩
  case hI =>
    rintro T X Y row ⟨h, h2⟩ hg hr
    exact ⟨h.below ((Below.refl _ X).grown hg (by have := h.td.lt; omega) (fun r e => by have := (hr r e).1; omega)), h2⟩
  case hAx =>
    rintro s s' vs a' u X Y row ⟨t, h1, h2, h3⟩ hg hr
    refine ⟨t, h1, h2.keep (hg.block _ h2.lt ?_), h3⟩
    intro e
    obtain ⟨_, o, ho, hc⟩ := hr _ e.symm
    obtain ⟨cur, hb, _⟩ := h2.block
    rw [hb] at ho
    cases ho
    cases hc
  case hseq =>
    intro Rec RecX X1 hRec hRecX hB1 hs1 hI1 hR1 hY
    have e7 : X1.heap.size = w.heap.size + 7 := by omega
    refine callsIn_wide.2 ((tuples1_any (R.heap.size + 1) (w.heap.size + 3) (w.heap.size + 3 + 1) nv (.slice av nv cc) (.func (.func F) #[cv] #[]) (.slice ad nd cd) ds c.vars HN.out.symm h4 HDS.out HVS.out X1 (fun T X => (SupSt w nv (.slice av nv cc) (.func (.func F) #[cv] #[]) (.slice ad nd cd) (accL c nv T) X ∧ (accL c nv T).length = nv ∧ Small (accL c nv T) 0 63) ∧ Rec X) (fun _ => False) ?_ (fun _ _ h _ => h) ?_ ?_ (fun _ h => h.elim) ?_ ⟨hI1, hR1⟩).mono ?_)
    · rintro T X Y ⟨⟨h, h2⟩, hr⟩ b
      exact ⟨⟨h.below (b.mono (by omega)), h2⟩, hRec X Y hr (fun b' h1 h2 => b.block b' (by omega))⟩
    · rintro T X ⟨⟨h, _⟩, _⟩
      exact ⟨HVV.out.below h.bel, HDV.out.below h.bel⟩
    · rintro T X ⟨⟨h, _⟩, _⟩
      exact ⟨h.tp, h.td⟩
    · rintro T t Y h hx hl hs
      rw [e7] at hx ⊢
      obtain ⟨f0, tm, asg, bo, hr, hR⟩ := yieldAt_wide (m' := 5) (hY T (T ++ [t]) _ Y h ⟨t, rfl, rfl, hx, hl, hs⟩)
      refine ⟨f0, tm, asg, bo, hr, hR.mono ?_⟩
      rintro e Y' (⟨rfl, h1, h2⟩ | ⟨_, _, h1, _⟩)
      · exact .inl ⟨rfl, h1, h2⟩
      · exact h1.elim
    · rintro e Y ⟨hv, (h | h)⟩
      · exact ⟨hv, .inl ⟨_, rfl, h⟩⟩
      · exact h.elim
  case hassign =>
    rintro l' s s' vs X K hi ⟨t, rfl, rfl, hx, hl, hs⟩ hK
    have hK2 := hK _ X (KeepsFrom.refl _ _) (Kq.refl _ _) hi ⟨t, rfl, hx, hl, hs, rfl⟩
    gi_wp2
    exact hK2
  case hbody =>
    rintro l' s s' vs a' X hl' ⟨r, hr⟩ ⟨hi, hal, has⟩ ⟨t, rfl, hx, hl, hs, rfl⟩
    have q1 : X.cell? ⟨w.heap.size, 1, none⟩ = some (.func (.func F) #[cv] #[]) := by simp [World.cell?, hi.pb]
    have hcal := HSA.out (.slice (some ⟨w.heap.size + 7, 0, none⟩) nv nv) t X (HFI.out t (by rw [hl, HN.out]) hs) (HCV.out.below hi.bel) (by rw [← hl]; exact hl ▸ hx.rd)
    have hstep : ∀ acc', acc' = supStep c (accL c nv s) t → (accL c nv (s ++ [t])) = acc' ∧ acc'.length = nv ∧ Small acc' 0 63 := by
      rintro _ rfl
      exact ⟨accL_snoc _ _ _ _, by rw [supStep_length (by omega)]; exact hal, supStep_small (by omega) has hs⟩
    have hle : l' = w.heap.size + 6 := by omega
    gi_wp2_with fail
    refine ⟨trivial, (CallsIn.inRound _ (callsIn_wide.2 hcal)).mono ?_⟩
    rintro e X2 ⟨rfl, b2⟩
    have hi2 := hi.below (b2.mono (by have := hi.td.lt; omega))
    have hx2 := hx.keep (b2.block _ hx.lt)
    obtain ⟨acc, hacc⟩ : ∃ acc, acc = accL c nv s := ⟨_, rfl⟩
    rw [← hacc] at hi2 hal has hstep
    cases hsat : satB c t
    · have hst := hstep acc (by simp [supStep, hsat])
      have key : SupSt w nv (.slice av nv cc) (.func (.func F) #[cv] #[]) (.slice ad nd cd) (accL c nv (s ++ [t])) X2 ∧ (accL c nv (s ++ [t])).length = nv ∧ Small (accL c nv (s ++ [t])) 0 63 := by rw [hst.1]; exact ⟨hi2, hst.2⟩
      gi_wp2
      exact ⟨KeepsFrom.of_below b2, Kq.of_below b2, key⟩
    · have hst := hstep (List.zipWith addB acc t) (by simp [supStep, hsat])
      have HST := Lib.hid hst
      have HX2 := Lib.hid hx2
      have HI2 := Lib.hid hi2
      have HHL := Lib.hid hl
      have HHS := Lib.hid hs
      have HAL := Lib.hid hal
      have HAS := Lib.hid has
      have HK2 := Lib.hid b2
      clear hst hstep hx2 hi2 hl hs hal has b2 hacc hcal hi hx q1 hr
      gi_wp2
      gi_loopw [23] (fun i wr => ∃ j : Nat, j ≤ nv ∧ i = .int .i64 j ∧ Hid (SupSt w nv (.slice av nv cc) (.func (.func F) #[cv] #[]) (.slice ad nd cd) (zipS acc t j) wr) ∧ Hid (XT (w.heap.size + 7) nv t wr) ∧ Hid (Kq (w.heap.size + 7) X2 wr) ∧ Hid (KeepsFrom (w.heap.size + 5) X2 wr)) (fun i _ => nv - (intOf i).toNat)
      case atStart => exact ⟨0, Nat.zero_le _, rfl, Lib.hid (by rw [zipS_zero]; exact HI2.out), HX2, Lib.hid (Kq.refl _ _), Lib.hid (KeepsFrom.refl _ _)⟩
      case round =>
        obtain ⟨j, hj, rfl, HSJ, HXJ, HKJ, HFJ⟩ := hrel
        by_cases hlt : j < nv
        · have htl : j < t.length := by have := HHL.out; omega
          have hal : j < acc.length := by have := HAL.out; omega
          have q1 := HXJ.out.at htl
          have hzl : (zipS acc t j).length = acc.length := zipS_length (by have := HHL.out; have := HAL.out; omega) (by omega)
          have q2 := HSJ.out.row.at (i := j) (by omega)
          rw [zipS_at (by have := HHL.out; have := HAL.out; omega) hal] at q2
          obtain ⟨a, ha⟩ : ∃ a : Nat, t[j]?.getD 0 = (a : Int) := ⟨(t[j]?.getD 0).toNat, by have := (HHS.out j htl).1; omega⟩
          have ha5 : a ≤ 5 := by have := (HHS.out j htl).2; omega
          obtain ⟨d, hd⟩ : ∃ d, d = acc[j]?.getD 0 := ⟨_, rfl⟩
          have hd1 : 0 ≤ d := by rw [hd]; exact (HAS.out j hal).1
          have hd2 : d ≤ 63 := by rw [hd]; exact (HAS.out j hal).2
          rw [ha] at q1
          rw [← hd] at q2
          have q3 := HSJ.out.row.unfrozen j
          have q4 := HSJ.out.vb
          have HNEW := Lib.hid (HSJ.out.set (i := j) (by omega) (addB d a))
          have HZ : Hid (zipS acc t (j + 1) = (zipS acc t j).set j (addB d a)) := Lib.hid (by rw [zipS_step (by have := HHL.out; have := HAL.out; omega) hal, ha, ← hd])
          obtain ⟨m, hm⟩ : ∃ m, m = wrap64 (2 ^ a) := ⟨_, rfl⟩
          have HOR := Lib.hid (or_pow (d := d) (a := a) hd1 hd2 ha5)
          rw [← hm] at HOR
          have HM := Lib.hid hm
          clear hm
          clear hzl ha hd htl hal
          gi_wp2
          refine region_round (fun w' => Boxed w' (w.heap.size + 2) 22 (.slice (some ⟨w.heap.size + 1, 0, none⟩) nv nv)) (by kernel_rfl) (by kernel_rfl) ?_ q4 (fun hS => ?_)
          · rintro ⟨a, w', h⟩
            exact h
          refine wpAnyH_take (i := 0) (v := .slice (some ⟨w.heap.size + 1, 0, none⟩) nv nv) rfl (by kernel_rfl) (by kernel_rfl) (by kernel_rfl) (fun _ _ _ h => h) (.inl ⟨rfl, fun w' hw' => exec_load rfl rfl (load_ints w' _ _ _ _ hw')⟩) hS ?_
          refine wpAnyH_take (i := 1) (v := .int .i64 j) rfl (by kernel_rfl) (by kernel_rfl) (by kernel_rfl) (fun _ _ _ h => h) (.inl ⟨rfl, fun w' hw' => rfl⟩) hS ?_
          refine wpAnyH_take (i := 4) (v := .int .i64 a) rfl (by kernel_rfl) (by kernel_rfl) (by kernel_rfl) (fun _ _ _ h => h) (.inl ⟨rfl, fun w' hw' => rfl⟩) hS ?_
          change wpAnyH Tryz.prog .any _ _ _ 6 _ (supAct w.heap.size av ad nv cc nd cd F cv j a u30 u31 u33 u34 u35 u36) wr.drew
          refine wpAnyH_take (i := 5) (v := .int .i64 m) rfl (by kernel_rfl) (by kernel_rfl) (by kernel_rfl) (fun _ _ _ h => h) (.inl ⟨rfl, fun w' hw' => ?_⟩) hS ?_
          · unfold supAct
            simp only [List.getElem_toArray, List.getElem_cons_succ, List.getElem_cons_zero]
            go_simp
            rw [HM.out]
            exact IntWalk.i64_left _
          change wpAnyH Tryz.prog .any _ _ _ 5 _ (supAct w.heap.size av ad nv cc nd cd F cv j a u30 u31 (.int .i64 m) u34 u35 u36) wr.drew
          refine wpAnyH_ready (rs := [2]) (by kernel_rfl) (by simp) (AllReadyH.cons rfl (fun K' hK' => ?_) AllReadyH.nil)
          refine step_value _ _ rfl (.pointer (some ⟨w.heap.size + 1, j, none⟩)) (exec_index rfl rfl rfl (index0_ints _ _ _ _ _ hlt)) ?_
          refine hK'.out _ _ hS (fun hS => ?_)
          clear hK' K'
          change wpAnyH Tryz.prog .any _ _ _ 4 _ (supAct w.heap.size av ad nv cc nd cd F cv j a (.pointer (some ⟨w.heap.size + 1, j, none⟩)) u31 (.int .i64 m) u34 u35 u36) wr.drew
          refine wpAnyH_ready (rs := [3]) (by kernel_rfl) (by simp) (AllReadyH.cons rfl (fun K' hK' => ?_) AllReadyH.nil)
          refine step_value _ _ rfl (.int .i64 d) (exec_load rfl rfl (load_int _ _ _ _ q2)) ?_
          refine hK'.out _ _ hS (fun hS => ?_)
          clear hK' K'
          change wpAnyH Tryz.prog .any _ _ _ 3 _ (supAct w.heap.size av ad nv cc nd cd F cv j a (.pointer (some ⟨w.heap.size + 1, j, none⟩)) (.int .i64 d) (.int .i64 m) u34 u35 u36) wr.drew
          refine wpAnyH_ready (rs := [6]) (by kernel_rfl) (by simp) (AllReadyH.cons rfl (fun K' hK' => ?_) AllReadyH.nil)
          refine step_value _ _ rfl (.int .i64 (bits .or .i64 d m)) (exec_bin rfl rfl rfl (or_ints _ _ _ _ _)) ?_
          refine hK'.out _ _ hS (fun hS => ?_)
          clear hK' K'
          change wpAnyH Tryz.prog .any _ _ _ 2 _ (supAct w.heap.size av ad nv cc nd cd F cv j a (.pointer (some ⟨w.heap.size + 1, j, none⟩)) (.int .i64 d) (.int .i64 m) (.int .i64 (bits .or .i64 d m)) u35 u36) wr.drew
          refine wpAnyH_ready (rs := [7]) (by kernel_rfl) (by simp) (AllReadyH.cons rfl (fun K' hK' => ?_) AllReadyH.nil)
          refine step_value _ _ rfl (.pointer (some ⟨w.heap.size + 1, j, none⟩)) (exec_index rfl rfl rfl (index0_ints _ _ _ _ _ hlt)) ?_
          refine hK'.out _ _ hS (fun hS => ?_)
          clear hK' K'
          change wpAnyH Tryz.prog .any _ _ _ 1 _ (supAct w.heap.size av ad nv cc nd cd F cv j a (.pointer (some ⟨w.heap.size + 1, j, none⟩)) (.int .i64 d) (.int .i64 m) (.int .i64 (bits .or .i64 d m)) (.pointer (some ⟨w.heap.size + 1, j, none⟩)) u36) wr.drew
          refine wpAnyH_ready (rs := [8]) (by kernel_rfl) (by simp) (AllReadyH.cons rfl (fun K' hK' => ?_) AllReadyH.nil)
          refine step_skip _ (wr.drew.setCell ⟨w.heap.size + 1, j, none⟩ (.int .i64 (bits .or .i64 d m))) rfl (exec_store rfl rfl rfl (store_int _ _ _ _ _ q2 q3)) ?_
          rw [HOR.out]
          have hS9 := HNEW.out.vb
          have hg9 := grown_setCell wr (w.heap.size + 1) j (.int .i64 (addB d a))
          refine hK'.out _ _ hS9 (fun hS9' => ?_)
          clear hK' K'
          refine wpAnyH_done (by kernel_rfl) ?_ _
          unfold supAct
          gi_wp2
          have hZd : ∀ b, b ≠ w.heap.size + 1 → ((wr.setCell ⟨w.heap.size + 1, j, none⟩ (.int .i64 (addB d a))).drew).heap[b]? = wr.heap[b]? := fun b hb => Below.heap_setCell _ _ _ _ (by simpa using hb)
          have hsz : ((wr.setCell ⟨w.heap.size + 1, j, none⟩ (.int .i64 (addB d a))).drew).heap.size = wr.heap.size := World.size_setCell _ _ _
          refine ⟨⟨j + 1, by omega, by simp, Lib.hid ?_, Lib.hid (HXJ.out.keep (hZd _ (by omega))), Lib.hid (HKJ.out.trans ⟨by rw [hsz]; exact Nat.le_refl _, fun b h1 h2 => hZd b (by omega)⟩), Lib.hid (HFJ.out.trans ⟨by rw [hsz]; exact Nat.le_refl _, fun k o hk h1 h2 => (hZd k (by omega)).trans h1⟩)⟩, ?_⟩
          · rw [HZ.out]
            exact HNEW.out.below (show Below _ _ _ from (Below.refl _ _).drew)
          · simp [intOf]
            omega
        · obtain rfl : j = nv := by omega
          have hz : zipS acc t j = List.zipWith addB acc t := by have := zipS_all (acc := acc) (t := t) (by have := HHL.out; have := HAL.out; omega); rw [HAL.out] at this; exact this
          have key : SupSt w j (.slice av j cc) (.func (.func F) #[cv] #[]) (.slice ad nd cd) (accL c j (s ++ [t])) wr ∧ (accL c j (s ++ [t])).length = j ∧ Small (accL c j (s ++ [t])) 0 63 := by rw [HST.out.1]; exact ⟨hz ▸ HSJ.out, HST.out.2⟩
          clear hz
          gi_wp2
          exact ⟨(KeepsFrom.of_below HK2.out).trans (by rw [HSR.out]; exact HFJ.out), (Kq.of_below HK2.out).trans HKJ.out, key⟩
  case hdone =>
    rintro D s X hD rfl ⟨hi, hal, -⟩ hK
    have q1 := hi.vb.cell
    gi_wp2
    refine ⟨by simp, .inl ⟨_, _, rfl, run_takeDeferred hK, ?_⟩⟩
    have hZ : ∀ o', Below (w.heap.size + 5) X (X.putObj D o') := fun o' => (Below.refl _ X).grown (grownBy_putObj' X D o') (by have := hi.td.lt; omega) (fun r e => by cases e; omega)
    have hrr : ∀ o', (X.putObj D o').ownsRow w.heap.size 3 1 (.slice (some ⟨w.heap.size + 1, 0, none⟩) nv nv) nv ((accL c nv (tups ds c.vars)).map (Value.int .i64)) := by
      intro o'
      have hr := (hi.below (hZ o')).row
      unfold XT at hr
      rw [hal] at hr
      exact own_mono hr (by omega)
    exact ⟨_, results_tmp rfl _ _ _, _, rfl, hrr _, (hi.below (hZ _)).bel⟩
end Go.Proofs.YtipapmmjfoaddaaGreat
