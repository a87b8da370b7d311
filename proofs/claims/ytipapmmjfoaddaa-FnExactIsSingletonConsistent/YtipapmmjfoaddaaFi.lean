/- The program's iterator over the tuples of a propagator. What stands while the program looks for supported values. The program's supported values of a constraint. The program's propagator of a constraint, as a value. The program's filtering of a row of domains in place. The program's Filter. -/
import Derived.Test.YtipapmmjfoaddaaEx
import Derived.Test.YtipapmmjfoaddaaSupS
import Derived.Test.YtipapmmjfoaddaaRf
import Derived.Test.YtipapmmjfoaddaaTup

/-! The program's iterator over the tuples of a propagator. What stands while the program looks for supported values. The program's supported values of a constraint. -/
/-! The program's iterator over the tuples of a propagator. -/
namespace Go.Proofs.Ytipapmmjfoaddaa
open Go.ChangeShapes Go.WideShapes Go.ChangeAt Go.RowKit Go.Shelf
set_option linter.unusedVariables false
set_option linter.unusedSimpArgs false

set_option maxRecDepth 100000 in
set_option maxHeartbeats 4000000 in
theorem tuples1_any (l Bp Bd nv : Nat) (vv fv dv : Value) (ds vars : List Int) (hn : vars.length = nv) (hn4 : nv ≤ 4) (hds : Small ds 0 63) (hvr : Small vars 0 ((ds.length : Int) - 1)) (W : World)
    (J : List (List Int) → World → Prop) (Jx : World → Prop) (hJ : ∀ T X Y, J T X → Below W.heap.size X Y → J T Y) (hJx : ∀ X Y, Jx X → Below W.heap.size X Y → Jx Y)
    (hJr : ∀ T X, J T X → RdInts X vv vars ∧ RdInts X dv ds) (hJk : ∀ T X, J T X → X.heap[Bp]? = some (.cells #[vv, fv] 88) ∧ Boxed X Bd 22 dv) (hJxk : ∀ X, Jx X → X.heap[Bp]? = some (.cells #[vv, fv] 88) ∧ Boxed X Bd 22 dv)
    (hY : ∀ T t W1, J T W1 → XT W.heap.size nv t W1 → t.length = nv → Small t 0 5 → YieldAt Fence.wide 5 Try.prog l #[.slice (some ⟨W.heap.size, 0, none⟩) nv nv] W1 fun e W' => (e = .returned (.bool true) ∧ J (T ++ [t]) W' ∧ Kq W.heap.size W1 W') ∨ (e = .returned (.bool false) ∧ Jx W' ∧ Kq W.heap.size W1 W'))
    (h0 : J [] W) :
    Calls Try.prog 146 #[.func (.yield l) #[] #[], .pointer (some ⟨Bp, 0, none⟩), .pointer (some ⟨Bd, 0, none⟩)] W fun e W' => (∃ v, e = .returned v) ∧ (J (tups ds vars) W' ∨ Jx W') := by
  obtain ⟨r1, r2⟩ := hJr _ _ h0
  obtain ⟨av, cv, ev, -⟩ := id r1
  obtain ⟨ad, cd, ed, -⟩ := id r2
  have hcv := (rdInts_cap (ev ▸ r1)).2
  obtain ⟨i0, hi, hz0, hz1, hz2⟩ := info_parts Try.info3
  obtain ⟨wA, hA, oA, gA⟩ := run_make_own (P := Try.prog) W.drew W.heap.size 22 3 i0 (.int .i64 0) 1 Try.underlying22 hi hz0 hz1 .i64 .i64 nv (by rw [hz2]; omega) (by unfold maxLen; omega) (Nat.le_refl _)
  have bA : Below W.heap.size W wA := (show Below W.heap.size W W.drew from (Below.refl _ _).drew).trans (below_of_grown gA)
  have hcall := ext_all l W.heap.size nv vv fv dv ds vars hn hn4 hds hvr J Jx hJ hJx hJr hY vars [] rfl (Nat.zero_le _) (fun j hj => by simp at hj) [] wA (hJ _ _ _ h0 bA) oA
  have hcall2 : Calls Try.prog 147 #[.agg #[vv, fv], dv, .slice (some ⟨W.heap.size, 0, none⟩) 0 nv, .func (.yield l) #[] #[]] wA fun e X' => ∃ b : Bool, e = .returned (.bool b) ∧ (J (tups ds vars) X' ∨ Jx X') ∧ X'.cell? ⟨Bp, 0, none⟩ = some vv ∧ X'.cell? ⟨Bp, 1, none⟩ = some fv ∧ X'.cell? ⟨Bd, 0, none⟩ = some dv := by
    refine hcall.mono ?_
    rintro e X' (⟨rfl, h1, _⟩ | ⟨rfl, h1, _⟩)
    · obtain ⟨k1, k2⟩ := hJk _ _ h1
      exact ⟨true, rfl, .inl (by simpa using h1), by simp [World.cell?, k1], by simp [World.cell?, k1], k2.cell⟩
    · obtain ⟨k1, k2⟩ := hJxk _ h1
      exact ⟨false, rfl, .inr h1, by simp [World.cell?, k1], by simp [World.cell?, k1], k2.cell⟩
  obtain ⟨k1, k2⟩ := hJk _ _ h0
  obtain ⟨k3, k4⟩ := hJk _ _ (hJ _ _ _ h0 bA)
  have p0 : W.cell? ⟨Bp, 0, none⟩ = some vv := by simp [World.cell?, k1]
  have p1 : W.cell? ⟨Bp, 1, none⟩ = some fv := by simp [World.cell?, k1]
  have pd := k2.cell
  have y0 : wA.cell? ⟨Bp, 0, none⟩ = some vv := by simp [World.cell?, k3]
  have y1 : wA.cell? ⟨Bp, 1, none⟩ = some fv := by simp [World.cell?, k3]
  have yd := k4.cell
  obtain ⟨g, hg⟩ : ∃ g, g = W.heap.size := ⟨_, rfl⟩
  have hA2 : (Instr.makeSlice 22 (.int .i64 0) (.int .i64 (nv : Int))).run Try.prog W.drew = .ok (.slice (some ⟨g, 0, none⟩) 0 nv) wA := by rw [hg]; exact hA
  rw [← hg] at hcall2
  rw [ev, ed] at hcall2
  rw [ev] at p0 y0
  rw [ed] at pd yd
  rw [hn] at p0 y0 hcall2 hcv
  have HC := Lib.hid hcall2
  clear hcall hcall2 hJ hJx hJr hJk hJxk hY h0 r1 r2 ev ed hn hA oA gA bA hi hz0 hz1 hz2 hg k1 k2 k3 k4 hds hvr
  go_enter Try.func146, Try.ntmps146
  go_wp2
  go_region_held3 (fun w' => w'.cell? ⟨Bp, 0, none⟩ = some (.slice av nv cv) ∧ w'.cell? ⟨Bp, 1, none⟩ = some fv ∧ w'.cell? ⟨Bd, 0, none⟩ = some (.slice ad ds.length cd)) (first | go_keep | exact ⟨y0, y1, yd⟩ | exact ⟨z0, z1, zd⟩) ((go_at_call 147; refine HC.out.mono ?_; rintro e X3 ⟨b, rfl, hor, z0, z1, zd⟩))
  go_end0
  exact ⟨⟨_, rfl⟩, hor⟩
end Go.Proofs.Ytipapmmjfoaddaa

/-! What stands while the program looks for supported values. -/
namespace Go.Proofs.Ytipapmmjfoaddaa
open Go.ChangeShapes Go.WideShapes Go.ChangeAt Go.RowKit Go.Shelf
set_option linter.unusedVariables false
set_option linter.unusedSimpArgs false

attribute [local go_sem] Oper.semAt_some

theorem or_pow_fin : ∀ n : Fin 64, ∀ k : Fin 6, bits .or .i64 ((n.val : Nat) : Int) (wrap64 (2 ^ k.val)) = addB ((n.val : Nat) : Int) (k.val : Int) := by decide +kernel
theorem or_pow {d : Int} {a : Nat} (h1 : 0 ≤ d) (h2 : d ≤ 63) (h4 : a ≤ 5) : bits .or .i64 d (wrap64 (2 ^ a)) = addB d a := by
  have := or_pow_fin ⟨d.toNat, by omega⟩ ⟨a, by omega⟩
  simp only [Int.toNat_of_nonneg h1] at this
  exact this

theorem XT.at {bx nv : Nat} {p : List Int} {W : World} (h : XT bx nv p W) {i : Nat} (hi : i < p.length) : W.cell? ⟨bx, i, none⟩ = some (.int .i64 (p[i]?.getD 0)) := by
  obtain ⟨b, off, e, q⟩ := rdInts_at h.rd hi
  simp at e
  obtain ⟨rfl, rfl⟩ := e
  simpa using q
theorem XT.unfrozen {bx nv : Nat} {p : List Int} {W : World} (h : XT bx nv p W) (i : Nat) : W.frozen? ⟨bx, i, none⟩ = false := by
  obtain ⟨cur, h1, _⟩ := h.block
  simp [World.frozen?, h1]
theorem XT.set {bx nv : Nat} {p : List Int} {W : World} (h : XT bx nv p W) {i : Nat} (hi : i < p.length) (u : Int) : XT bx nv (p.set i u) (W.setCell ⟨bx, i, none⟩ (.int .i64 u)) := by
  obtain ⟨cur, h1, h2, h3, h4, h5⟩ := h.block
  refine XT.of_block (cur := cur.set! i (.int .i64 u)) ?_ (by simpa using h2) h3 (by simpa using h4) ?_
  · obtain ⟨hlt, hb⟩ := Array.getElem?_eq_some_iff.1 h1
    unfold World.setCell
    simp [hlt, Array.getElem_modify, hb]
  · rw [List.length_set]
    simp only [Array.set!_eq_setIfInBounds, Array.toList_setIfInBounds]
    rw [List.take_set, h5, List.map_set]

/-- The row of the supported values (xs), its box, the propagator's boxes and the iterator's. -/
structure SupSt (w : World) (nv : Nat) (vv fv dv : Value) (xs : List Int) (X : World) : Prop where
  bel : Below w.heap.size w X
  pb : X.heap[w.heap.size]? = some (.cells #[vv, fv] 88)
  row : XT (w.heap.size + 1) nv xs X
  vb : Boxed X (w.heap.size + 2) 22 (.slice (some ⟨w.heap.size + 1, 0, none⟩) nv nv)
  tp : X.heap[w.heap.size + 3]? = some (.cells #[vv, fv] 88)
  td : Boxed X (w.heap.size + 4) 22 dv
theorem SupSt.below {w X Y : World} {nv : Nat} {vv fv dv : Value} {xs : List Int} (h : SupSt w nv vv fv dv xs X) (hb : Below (w.heap.size + 5) X Y) : SupSt w nv vv fv dv xs Y :=
  ⟨h.bel.trans (hb.mono (by omega)), (hb.block _ (by omega)).trans h.pb, h.row.keep (hb.block _ (by omega)), (hb.block _ (by omega)).trans h.vb, (hb.block _ (by omega)).trans h.tp, (hb.block _ (by omega)).trans h.td⟩
theorem SupSt.set {w X : World} {nv : Nat} {vv fv dv : Value} {xs : List Int} (h : SupSt w nv vv fv dv xs X) {i : Nat} (hi : i < xs.length) (u : Int) : SupSt w nv vv fv dv (xs.set i u) (X.setCell ⟨w.heap.size + 1, i, none⟩ (.int .i64 u)) := by
  have hk : ∀ b, b ≠ w.heap.size + 1 → (X.setCell ⟨w.heap.size + 1, i, none⟩ (.int .i64 u)).heap[b]? = X.heap[b]? := fun b hb => Below.heap_setCell _ _ _ _ (by simpa using hb)
  exact ⟨h.bel.setCell (by simp) _, (hk _ (by omega)).trans h.pb, h.row.set hi u, (hk _ (by omega)).trans h.vb, (hk _ (by omega)).trans h.tp, (hk _ (by omega)).trans h.td⟩

theorem enters_test {F : Nat} (h : isTest F) : ∀ gs w, (callFunc F gs).run Try.prog w = .ok (.enter F gs) w := by
  rcases h with rfl | rfl | rfl | rfl | rfl | rfl | rfl | rfl | rfl
  · exact enters_of Try.func101 (by kernel_rfl) rfl
  · exact enters_of Try.func102 (by kernel_rfl) rfl
  · exact enters_of Try.func103 (by kernel_rfl) rfl
  · exact enters_of Try.func104 (by kernel_rfl) rfl
  · exact enters_of Try.func105 (by kernel_rfl) rfl
  · exact enters_of Try.func106 (by kernel_rfl) rfl
  · exact enters_of Try.func107 (by kernel_rfl) rfl
  · exact enters_of Try.func108 (by kernel_rfl) rfl
  · exact enters_of Try.func109 (by kernel_rfl) rfl

set_option maxHeartbeats 1000000 in
theorem tuples_in (n : Nat) (a1 a2 : Option Addr) (n1 n2 c1 c2 : Nat) (fv : Value) (w : World) :
    CallsIn Fence.wide n Try.prog 143 #[.agg #[.slice a1 n1 c1, fv], .slice a2 n2 c2] w fun e w' => e = .returned (.func (.func 146) #[] #[.pointer (some ⟨w.heap.size, 0, none⟩), .pointer (some ⟨w.heap.size + 1, 0, none⟩)]) ∧ w' = (w.alloc (.cells #[.slice a1 n1 c1, fv] 88)).alloc (.cells #[.slice a2 n2 c2] 22) := by
  refine callsIn_of_wp Try.func143 rfl trivial ?_ rfl
  simp only [Try.ntmps143, List.size_toArray, List.length_cons, List.length_nil, Nat.reduceAdd, Nat.reduceSub, Array.replicate_succ, Array.replicate_zero, List.push_toArray, List.append_toArray, List.nil_append, List.cons_append]
  gi_wp2
  go_ret
  exact ⟨rfl, rfl⟩
end Go.Proofs.Ytipapmmjfoaddaa

/-! The program's supported values of a constraint. -/
namespace Go.Proofs.Ytipapmmjfoaddaa
open Go.ChangeShapes Go.WideShapes Go.ChangeAt Go.RowKit Go.Shelf
set_option linter.unusedVariables false
set_option linter.unusedSimpArgs false

attribute [local go_sem] Oper.semAt_some

/-- The supported values that the tuples T give. -/
def accL (c : Con) (nv : Nat) (T : List (List Int)) : List Int := T.foldl (supStep c) (List.replicate nv 0)
theorem accL_snoc (c : Con) (nv : Nat) (T : List (List Int)) (t : List Int) : accL c nv (T ++ [t]) = supStep c (accL c nv T) t := by simp [accL]

theorem Kq.trans {bx : Nat} {A B C : World} (h : Kq bx A B) (k : Kq bx B C) : Kq bx A C := ⟨Nat.le_trans h.1 k.1, fun b h1 h2 => (k.2 b h1 (by have := h.1; omega)).trans (h.2 b h1 h2)⟩
theorem Kq.refl (bx : Nat) (W : World) : Kq bx W W := ⟨Nat.le_refl _, fun _ _ _ => rfl⟩
theorem Kq.of_below {bx : Nat} {W W' : World} (h : Below W.heap.size W W') : Kq bx W W' := ⟨h.size, fun b _ h2 => h.block b h2⟩
theorem KeepsFrom.of_below {B : Nat} {W W' : World} (h : Below W.heap.size W W') : KeepsFrom B W W' := ⟨h.size, fun k o _ h1 _ => (h.block k (Array.getElem?_eq_some_iff.1 h1).1).trans h1⟩

/-- The activation inside the region that marks one value. -/
def supAct (h : Nat) (av ad : Option Addr) (nv cc nd cd F : Nat) (cv : Value) (j a : Nat) (u30 u31 u33 u34 u35 u36 : Value) : Act := { tmps := #[.agg #[.slice av nv cc, .func (.func F) #[cv] #[]], .slice ad nd cd, .pointer (some ⟨h, 0, none⟩), undef, .slice none 0 0, .pointer (some ⟨h + 2, 0, none⟩), .slice (some ⟨h + 7, 0, none⟩) nv nv, .int .i64 j, .int .i64 a, .pointer (some ⟨h, 0, none⟩), .slice av nv cc, .int .i64 nv, .slice (some ⟨h + 1, 0, none⟩) nv nv, .agg #[.slice av nv cc, .func (.func F) #[cv] #[]], .slice ad nd cd,
            .func (.func 146) #[] #[.pointer (some ⟨h + 3, 0, none⟩), .pointer (some ⟨h + 3 + 1, 0, none⟩)], .slice (some ⟨h + 7, 0, none⟩) nv nv, .pointer (some ⟨h, 1, none⟩), .func (.func F) #[cv] #[], .slice (some ⟨h + 7, 0, none⟩) nv nv, .bool true, .slice (some ⟨h + 7, 0, none⟩) nv nv, .int .i64 nv, .int .i64 j, .bool true, .int .i64 j, .pointer (some ⟨h + 7, j, none⟩), .int .i64 a, .slice (some ⟨h + 1, 0, none⟩) nv nv, .int .i64 j, u30, u31, .int .i64 a, u33, u34, u35, u36, undef], defers := [] }

set_option maxRecDepth 100000 in
set_option maxHeartbeats 4000000 in
theorem isup_any (c : Con) (cv vv dv : Value) (F : Nat) (ds : List Int) (w : World) (hF : isTest F) (hcv : RdCon w cv c) (hvv : RdInts w vv c.vars) (hdv : RdInts w dv ds)
    (h1 : 1 ≤ c.vars.length) (h4 : c.vars.length ≤ 4) (hvs : Small c.vars 0 ((ds.length : Int) - 1)) (hds : Small ds 0 63)
    (hfit : ∀ t : List Int, t.length = c.vars.length → Small t 0 5 → Fit c t)
    (hsat : ∀ (xv : Value) (x : List Int) (w : World), Fit c x → RdCon w cv c → RdInts w xv x → Calls Try.prog F #[cv, xv] w (BoolPost (satB c x) w)) :
    Calls Try.prog 131 #[.agg #[vv, .func (.func F) #[cv] #[]], dv] w fun e w' => ∃ v, e = .returned v ∧ w'.ownsRow w.heap.size 3 1 v c.vars.length ((accL c c.vars.length (tups ds c.vars)).map (Value.int .i64)) ∧ Below w.heap.size w w' := by
  obtain ⟨av, cc, ev, -⟩ := id hvv
  obtain ⟨ad, cd, ed, -⟩ := id hdv
  rw [ed] at hdv ⊢
  rw [ev] at hvv ⊢
  obtain ⟨nv, hn⟩ : ∃ nv, nv = c.vars.length := ⟨_, rfl⟩
  obtain ⟨nd, hnd⟩ : ∃ nd, nd = ds.length := ⟨_, rfl⟩
  rw [← hn] at hvv h1 h4 ⊢
  rw [← hnd] at hdv ⊢
  have hca := (rdInts_cap hvv).2
  obtain ⟨i0, hi, hz0, hz1, hz2⟩ := info_parts Try.info3
  obtain ⟨W1, hW1⟩ : ∃ W1, w.alloc (.cells #[.slice av nv cc, .func (.func F) #[cv] #[]] 88) = W1 := ⟨_, rfl⟩
  have B1 : Below w.heap.size w W1 := by rw [← hW1]; exact (Below.refl _ _).alloc (Nat.le_refl _) _
  have s1 : W1.heap.size = w.heap.size + 1 := by rw [← hW1]; simp
  have q1 : W1.heap[w.heap.size]? = some (.cells #[.slice av nv cc, .func (.func F) #[cv] #[]] 88) := by rw [← hW1]; exact World.alloc_heap_new _ _
  have p0 : W1.cell? ⟨w.heap.size, 0, none⟩ = some (.slice av nv cc) := by simp [World.cell?, q1]
  have p1 : W1.cell? ⟨w.heap.size, 1, none⟩ = some (.func (.func F) #[cv] #[]) := by simp [World.cell?, q1]
  obtain ⟨wA, hA, oA, gA⟩ := run_make_full (P := Try.prog) W1 W1.heap.size 22 3 i0 (.int .i64 0) 1 Try.underlying22 hi hz0 hz1 .i64 .i64 nv (by rw [hz2]; omega) (by unfold maxLen; omega) (Nat.le_refl _)
  rw [madeInts] at oA
  have hA2 : (Instr.makeSlice 22 (.int .i64 (nv : Int)) (.int .i64 (nv : Int))).run Try.prog W1 = .ok (.slice (some ⟨w.heap.size + 1, 0, none⟩) nv nv) wA := by rw [← s1]; exact hA
  have bA : Below W1.heap.size W1 wA := below_of_grown gA
  have y0 : wA.cell? ⟨w.heap.size, 0, none⟩ = some (.slice av nv cc) := (bA.cell (by simp; omega)).trans p0
  have y1 : wA.cell? ⟨w.heap.size, 1, none⟩ = some (.func (.func F) #[cv] #[]) := (bA.cell (by simp; omega)).trans p1
  have hm := run_make (P := Try.prog) W1 22 3 i0 (.int .i64 0) Try.underlying22 hi hz0 .i64 .i64 (nv : Int) (nv : Int) (by omega) (Int.le_refl _) (by rw [hz2]; omega) (by omega)
  have sA : wA.heap.size = w.heap.size + 2 := by
    rw [hm] at hA
    injection hA with _ e2
    rw [← e2, World.size_alloc, s1]
  obtain ⟨wB, hWB⟩ : ∃ wB, wA.alloc (.cells #[.slice (some ⟨w.heap.size + 1, 0, none⟩) nv nv] 22) = wB := ⟨_, rfl⟩
  have sB : wB.heap.size = w.heap.size + 3 := by rw [← hWB, World.size_alloc, sA]
  have bB : Below wA.heap.size wA wB := by rw [← hWB]; exact (Below.refl _ _).alloc (Nat.le_refl _) _
  have vB : Boxed wB (w.heap.size + 2) 22 (.slice (some ⟨w.heap.size + 1, 0, none⟩) nv nv) := by
    have := Boxed.new wA 22 (.slice (some ⟨w.heap.size + 1, 0, none⟩) nv nv)
    rw [sA] at this; rw [← hWB]; exact this
  have z0 : wB.cell? ⟨w.heap.size, 0, none⟩ = some (.slice av nv cc) := (bB.cell (by simp; omega)).trans y0
  have z1 : wB.cell? ⟨w.heap.size, 1, none⟩ = some (.func (.func F) #[cv] #[]) := (bB.cell (by simp; omega)).trans y1
  have oA' : wA.ownsRow (w.heap.size + 1) 3 1 (.slice (some ⟨w.heap.size + 1, 0, none⟩) nv nv) nv ((List.replicate nv 0).map (Value.int .i64)) := by rw [← s1]; exact oA
  have hrow : XT (w.heap.size + 1) nv (List.replicate nv 0) wA := by unfold XT; rw [List.length_replicate]; exact oA'
  have bAll : Below w.heap.size w wB := B1.trans ((bA.mono B1.size).trans (bB.mono (by omega)))
  have hR : SupSt w nv (.slice av nv cc) (.func (.func F) #[cv] #[]) (.slice ad nd cd) (List.replicate nv 0) ((wB.alloc (.cells #[.slice av nv cc, .func (.func F) #[cv] #[]] 88)).alloc (.cells #[.slice ad nd cd] 22)) := by
    have b1 : Below wB.heap.size wB ((wB.alloc (.cells #[.slice av nv cc, .func (.func F) #[cv] #[]] 88)).alloc (.cells #[.slice ad nd cd] 22)) := ((Below.refl _ _).alloc (Nat.le_refl _) _).alloc (by simp) _
    have n1 := World.alloc_heap_new wB (.cells #[.slice av nv cc, .func (.func F) #[cv] #[]] 88)
    have n2 := World.alloc_heap_new (wB.alloc (.cells #[.slice av nv cc, .func (.func F) #[cv] #[]] 88)) (.cells #[.slice ad nd cd] 22)
    rw [World.size_alloc] at n2
    rw [sB] at n1 n2 b1
    refine ⟨bAll.trans (b1.mono (by omega)), (b1.block _ (by omega)).trans ((bB.block _ (by omega)).trans ((bA.block _ (by omega)).trans q1)), (hrow.keep (bB.block _ (by omega))).keep (b1.block _ (by omega)), (b1.block _ (by omega)).trans vB, ?_, n2⟩
    exact (Below.heap_alloc _ _ _ (by rw [World.size_alloc, sB]; omega)).trans n1
  have HR := Lib.hid hR
  clear hR bAll hrow oA' vB bB hm
  have HN := Lib.hid hn
  have HND := Lib.hid hnd
  have HS1 := Lib.hid s1
  have HQ1 := Lib.hid q1
  have HOA := Lib.hid oA
  have HB1 := Lib.hid B1
  have HBA := Lib.hid bA
  have HGA := Lib.hid gA
  have HLA := Lib.hid (own_lt oA)
  have HFI := Lib.hid hfit
  have HSA := Lib.hid hsat
  have HVS := Lib.hid hvs
  have HDS := Lib.hid hds
  have HCV := Lib.hid hcv
  have HVV := Lib.hid hvv
  have HDV := Lib.hid hdv
  clear hn hnd ev ed s1 q1 oA B1 bA gA hA hi hz0 hz1 hz2 hfit hsat hvs hds hcv hvv hdv
  refine (callsIn_wide (n := 8)).1 ?_
  refine callsIn_of_wp_marks Try.func131 rfl trivial ?_ rfl
  simp only [Try.ntmps131, List.size_toArray, List.length_cons, List.length_nil, Nat.reduceAdd, Nat.reduceSub, Array.replicate_succ, Array.replicate_zero, List.push_toArray, List.append_toArray, List.nil_append, List.cons_append]
  gi_wp2_with (refine ⟨trivial, ?_⟩; gi_at_call 143; refine (tuples_in _ _ _ _ _ _ _ _ _).mono ?_; rintro e w' ⟨rfl, rfl⟩)
  obtain ⟨R, hRR⟩ : ∃ R, (wB.alloc (.cells #[.slice av nv cc, .func (.func F) #[cv] #[]] 88)).alloc (.cells #[.slice ad nd cd] 22) = R := ⟨_, rfl⟩
  have sR : R.heap.size = w.heap.size + 5 := by rw [← hRR, World.size_alloc, World.size_alloc, sB]
  rw [hRR] at HR ⊢
  clear hRR hW1 p0 p1 y0 y1 z0 z1 hWB sA sB HQ1 HS1 HOA HB1 HBA HGA HLA hA2
  have HSR := Lib.hid sR
  have hF' := enters_test hF
  refine rf_outer2 (σ := List (List Int)) (At := fun s s' vs W => ∃ t, s' = s ++ [t] ∧ vs = #[Value.slice (some ⟨w.heap.size + 7, 0, none⟩) nv nv] ∧ XT (w.heap.size + 7) nv t W ∧ t.length = nv ∧ Small t 0 5)
    (Kp := fun A B => Kq (w.heap.size + 7) A B) (S := fun s => s = tups ds c.vars) (Sp := fun _ => False)
    rfl (by omega) rfl trivial (enters_of Try.func146 (by kernel_rfl) rfl) (fun h k => h.trans k) ?hKb (fun s s' vs W h => by obtain ⟨t, _, rfl, _⟩ := h; rfl)
    (fun T X => SupSt w nv (.slice av nv cc) (.func (.func F) #[cv] #[]) (.slice ad nd cd) (accL c nv T) X ∧ (accL c nv T).length = nv ∧ Small (accL c nv T) 0 63) (fun _ _ _ => False)
    (fun s s' vs a' W => ∃ t, s' = s ++ [t] ∧ XT (w.heap.size + 7) nv t W ∧ t.length = nv ∧ Small t 0 5 ∧ a' = { tmps := #[.agg #[.slice av nv cc, .func (.func F) #[cv] #[]], .slice ad nd cd, .pointer (some ⟨w.heap.size, 0, none⟩), undef, .slice none 0 0, .pointer (some ⟨w.heap.size + 2, 0, none⟩), .slice (some ⟨w.heap.size + 7, 0, none⟩) nv nv, undef, undef, .pointer (some ⟨w.heap.size, 0, none⟩), .slice av nv cc, .int .i64 nv, .slice (some ⟨w.heap.size + 1, 0, none⟩) nv nv, .agg #[.slice av nv cc, .func (.func F) #[cv] #[]], .slice ad nd cd,
      .func (.func 146) #[] #[.pointer (some ⟨w.heap.size + 3, 0, none⟩), .pointer (some ⟨w.heap.size + 3 + 1, 0, none⟩)], .slice (some ⟨w.heap.size + 7, 0, none⟩) nv nv, undef, undef, undef, undef, undef, undef, undef, undef, undef, undef, undef, undef, undef, undef, undef, undef, undef, undef, undef, undef, undef], defers := [] })
    ?hI (fun c s X Y row h _ _ => h) ?hAx [] ⟨HR.out, by simp [accL], fun j hj => by simp [accL] at hj; simp [accL, hj]⟩ ?hseq ?hassign ?hbody ?hdone (fun D c s W _ h _ _ => h.elim)
  case hKb =>
    intro X l o o' h1 h2 h3 h4
    have hg := grownBy_putObj' X l o'
    exact ⟨hg.size, fun b hb1 hb2 => hg.block b hb2 (by simp; omega)⟩
  case hI =>
    rintro T X Y row ⟨h, h2⟩ hg hr
    exact ⟨h.below ((Below.refl _ X).grown hg (by have := h.td.lt; omega) (fun r e => by have := (hr r e).1; omega)), h2⟩
  case hAx =>
    rintro s s' vs a' u X Y row ⟨t, h1, h2, h3⟩ hg hr
    refine ⟨t, h1, h2.keep (hg.block _ h2.lt ?_), h3⟩
    intro e
    obtain ⟨_, o, ho, hc⟩ := hr _ e.symm
    obtain ⟨cur, hb, _⟩ := h2.block
    rw [hb] at ho
    cases ho
    cases hc
  case hseq =>
    intro Rec RecX X1 hRec hRecX hB1 hs1 hI1 hR1 hY
    have e7 : X1.heap.size = w.heap.size + 7 := by omega
    refine callsIn_wide.2 ((tuples1_any (R.heap.size + 1) (w.heap.size + 3) (w.heap.size + 3 + 1) nv (.slice av nv cc) (.func (.func F) #[cv] #[]) (.slice ad nd cd) ds c.vars HN.out.symm h4 HDS.out HVS.out X1 (fun T X => (SupSt w nv (.slice av nv cc) (.func (.func F) #[cv] #[]) (.slice ad nd cd) (accL c nv T) X ∧ (accL c nv T).length = nv ∧ Small (accL c nv T) 0 63) ∧ Rec X) (fun _ => False) ?_ (fun _ _ h _ => h) ?_ ?_ (fun _ h => h.elim) ?_ ⟨hI1, hR1⟩).mono ?_)
    · rintro T X Y ⟨⟨h, h2⟩, hr⟩ b
      exact ⟨⟨h.below (b.mono (by omega)), h2⟩, hRec X Y hr (fun b' h1 h2 => b.block b' (by omega))⟩
    · rintro T X ⟨⟨h, _⟩, _⟩
      exact ⟨HVV.out.below h.bel, HDV.out.below h.bel⟩
    · rintro T X ⟨⟨h, _⟩, _⟩
      exact ⟨h.tp, h.td⟩
    · rintro T t Y h hx hl hs
      rw [e7] at hx ⊢
      obtain ⟨f0, tm, asg, bo, hr, hR⟩ := yieldAt_wide (m' := 5) (hY T (T ++ [t]) _ Y h ⟨t, rfl, rfl, hx, hl, hs⟩)
      refine ⟨f0, tm, asg, bo, hr, hR.mono ?_⟩
      rintro e Y' (⟨rfl, h1, h2⟩ | ⟨_, _, h1, _⟩)
      · exact .inl ⟨rfl, h1, h2⟩
      · exact h1.elim
    · rintro e Y ⟨hv, (h | h)⟩
      · exact ⟨hv, .inl ⟨_, rfl, h⟩⟩
      · exact h.elim
  case hassign =>
    rintro l' s s' vs X K hi ⟨t, rfl, rfl, hx, hl, hs⟩ hK
    have hK2 := hK _ X (KeepsFrom.refl _ _) (Kq.refl _ _) hi ⟨t, rfl, hx, hl, hs, rfl⟩
    gi_wp2
    exact hK2
  case hbody =>
    rintro l' s s' vs a' X hl' ⟨r, hr⟩ ⟨hi, hal, has⟩ ⟨t, rfl, hx, hl, hs, rfl⟩
    have q1 : X.cell? ⟨w.heap.size, 1, none⟩ = some (.func (.func F) #[cv] #[]) := by simp [World.cell?, hi.pb]
    have hcal := HSA.out (.slice (some ⟨w.heap.size + 7, 0, none⟩) nv nv) t X (HFI.out t (by rw [hl, HN.out]) hs) (HCV.out.below hi.bel) (by rw [← hl]; exact hl ▸ hx.rd)
    have hstep : ∀ acc', acc' = supStep c (accL c nv s) t → (accL c nv (s ++ [t])) = acc' ∧ acc'.length = nv ∧ Small acc' 0 63 := by
      rintro _ rfl
      exact ⟨accL_snoc _ _ _ _, by rw [supStep_length (by omega)]; exact hal, supStep_small (by omega) has hs⟩
    have hle : l' = w.heap.size + 6 := by omega
    gi_wp2_with fail
    refine ⟨trivial, (CallsIn.inRound _ (callsIn_wide.2 hcal)).mono ?_⟩
    rintro e X2 ⟨rfl, b2⟩
    have hi2 := hi.below (b2.mono (by have := hi.td.lt; omega))
    have hx2 := hx.keep (b2.block _ hx.lt)
    obtain ⟨acc, hacc⟩ : ∃ acc, acc = accL c nv s := ⟨_, rfl⟩
    rw [← hacc] at hi2 hal has hstep
    cases hsat : satB c t
    · have hst := hstep acc (by simp [supStep, hsat])
      have key : SupSt w nv (.slice av nv cc) (.func (.func F) #[cv] #[]) (.slice ad nd cd) (accL c nv (s ++ [t])) X2 ∧ (accL c nv (s ++ [t])).length = nv ∧ Small (accL c nv (s ++ [t])) 0 63 := by rw [hst.1]; exact ⟨hi2, hst.2⟩
      gi_wp2
      exact ⟨KeepsFrom.of_below b2, Kq.of_below b2, key⟩
    · have hst := hstep (List.zipWith addB acc t) (by simp [supStep, hsat])
      have HST := Lib.hid hst
      have HX2 := Lib.hid hx2
      have HI2 := Lib.hid hi2
      have HHL := Lib.hid hl
      have HHS := Lib.hid hs
      have HAL := Lib.hid hal
      have HAS := Lib.hid has
      have HK2 := Lib.hid b2
      clear hst hstep hx2 hi2 hl hs hal has b2 hacc hcal hi hx q1 hr
      gi_wp2
      gi_loopw [23] (fun i wr => ∃ j : Nat, j ≤ nv ∧ i = .int .i64 j ∧ Hid (SupSt w nv (.slice av nv cc) (.func (.func F) #[cv] #[]) (.slice ad nd cd) (zipS acc t j) wr) ∧ Hid (XT (w.heap.size + 7) nv t wr) ∧ Hid (Kq (w.heap.size + 7) X2 wr) ∧ Hid (KeepsFrom (w.heap.size + 5) X2 wr)) (fun i _ => nv - (intOf i).toNat)
      case atStart => exact ⟨0, Nat.zero_le _, rfl, Lib.hid (by rw [zipS_zero]; exact HI2.out), HX2, Lib.hid (Kq.refl _ _), Lib.hid (KeepsFrom.refl _ _)⟩
      case round =>
        obtain ⟨j, hj, rfl, HSJ, HXJ, HKJ, HFJ⟩ := hrel
        by_cases hlt : j < nv
        · have htl : j < t.length := by have := HHL.out; omega
          have hal : j < acc.length := by have := HAL.out; omega
          have q1 := HXJ.out.at htl
          have hzl : (zipS acc t j).length = acc.length := zipS_length (by have := HHL.out; have := HAL.out; omega) (by omega)
          have q2 := HSJ.out.row.at (i := j) (by omega)
          rw [zipS_at (by have := HHL.out; have := HAL.out; omega) hal] at q2
          obtain ⟨a, ha⟩ : ∃ a : Nat, t[j]?.getD 0 = (a : Int) := ⟨(t[j]?.getD 0).toNat, by have := (HHS.out j htl).1; omega⟩
          have ha5 : a ≤ 5 := by have := (HHS.out j htl).2; omega
          obtain ⟨d, hd⟩ : ∃ d, d = acc[j]?.getD 0 := ⟨_, rfl⟩
          have hd1 : 0 ≤ d := by rw [hd]; exact (HAS.out j hal).1
          have hd2 : d ≤ 63 := by rw [hd]; exact (HAS.out j hal).2
          rw [ha] at q1
          rw [← hd] at q2
          have q3 := HSJ.out.row.unfrozen j
          have q4 := HSJ.out.vb
          have HNEW := Lib.hid (HSJ.out.set (i := j) (by omega) (addB d a))
          have HZ : Hid (zipS acc t (j + 1) = (zipS acc t j).set j (addB d a)) := Lib.hid (by rw [zipS_step (by have := HHL.out; have := HAL.out; omega) hal, ha, ← hd])
          obtain ⟨m, hm⟩ : ∃ m, m = wrap64 (2 ^ a) := ⟨_, rfl⟩
          have HOR := Lib.hid (or_pow (d := d) (a := a) hd1 hd2 ha5)
          rw [← hm] at HOR
          have HM := Lib.hid hm
          clear hm
          clear hzl ha hd htl hal
          gi_wp2
          refine region_round (fun w' => Boxed w' (w.heap.size + 2) 22 (.slice (some ⟨w.heap.size + 1, 0, none⟩) nv nv)) (by kernel_rfl) (by kernel_rfl) ?_ q4 (fun hS => ?_)
          · rintro ⟨a, w', h⟩
            exact h
          refine wpAnyH_take (i := 0) (v := .slice (some ⟨w.heap.size + 1, 0, none⟩) nv nv) rfl (by kernel_rfl) (by kernel_rfl) (by kernel_rfl) (fun _ _ _ h => h) (.inl ⟨rfl, fun w' hw' => exec_load rfl rfl (load_ints w' _ _ _ _ hw')⟩) hS ?_
          refine wpAnyH_take (i := 1) (v := .int .i64 j) rfl (by kernel_rfl) (by kernel_rfl) (by kernel_rfl) (fun _ _ _ h => h) (.inl ⟨rfl, fun w' hw' => rfl⟩) hS ?_
          refine wpAnyH_take (i := 4) (v := .int .i64 a) rfl (by kernel_rfl) (by kernel_rfl) (by kernel_rfl) (fun _ _ _ h => h) (.inl ⟨rfl, fun w' hw' => rfl⟩) hS ?_
          change wpAnyH Try.prog .any _ _ _ 6 _ (supAct w.heap.size av ad nv cc nd cd F cv j a u30 u31 u33 u34 u35 u36) wr.drew
          refine wpAnyH_take (i := 5) (v := .int .i64 m) rfl (by kernel_rfl) (by kernel_rfl) (by kernel_rfl) (fun _ _ _ h => h) (.inl ⟨rfl, fun w' hw' => ?_⟩) hS ?_
          · unfold supAct
            simp only [List.getElem_toArray, List.getElem_cons_succ, List.getElem_cons_zero]
            go_simp
            rw [HM.out]
            exact IntWalk.i64_left _
          change wpAnyH Try.prog .any _ _ _ 5 _ (supAct w.heap.size av ad nv cc nd cd F cv j a u30 u31 (.int .i64 m) u34 u35 u36) wr.drew
          refine wpAnyH_ready (rs := [2]) (by kernel_rfl) (by simp) (AllReadyH.cons rfl (fun K' hK' => ?_) AllReadyH.nil)
          refine step_value _ _ rfl (.pointer (some ⟨w.heap.size + 1, j, none⟩)) (exec_index rfl rfl rfl (index0_ints _ _ _ _ _ hlt)) ?_
          refine hK'.out _ _ hS (fun hS => ?_)
          clear hK' K'
          change wpAnyH Try.prog .any _ _ _ 4 _ (supAct w.heap.size av ad nv cc nd cd F cv j a (.pointer (some ⟨w.heap.size + 1, j, none⟩)) u31 (.int .i64 m) u34 u35 u36) wr.drew
          refine wpAnyH_ready (rs := [3]) (by kernel_rfl) (by simp) (AllReadyH.cons rfl (fun K' hK' => ?_) AllReadyH.nil)
          refine step_value _ _ rfl (.int .i64 d) (exec_load rfl rfl (load_int _ _ _ _ q2)) ?_
          refine hK'.out _ _ hS (fun hS => ?_)
          clear hK' K'
          change wpAnyH Try.prog .any _ _ _ 3 _ (supAct w.heap.size av ad nv cc nd cd F cv j a (.pointer (some ⟨w.heap.size + 1, j, none⟩)) (.int .i64 d) (.int .i64 m) u34 u35 u36) wr.drew
          refine wpAnyH_ready (rs := [6]) (by kernel_rfl) (by simp) (AllReadyH.cons rfl (fun K' hK' => ?_) AllReadyH.nil)
          refine step_value _ _ rfl (.int .i64 (bits .or .i64 d m)) (exec_bin rfl rfl rfl (or_ints _ _ _ _ _)) ?_
          refine hK'.out _ _ hS (fun hS => ?_)
          clear hK' K'
          change wpAnyH Try.prog .any _ _ _ 2 _ (supAct w.heap.size av ad nv cc nd cd F cv j a (.pointer (some ⟨w.heap.size + 1, j, none⟩)) (.int .i64 d) (.int .i64 m) (.int .i64 (bits .or .i64 d m)) u35 u36) wr.drew
          refine wpAnyH_ready (rs := [7]) (by kernel_rfl) (by simp) (AllReadyH.cons rfl (fun K' hK' => ?_) AllReadyH.nil)
          refine step_value _ _ rfl (.pointer (some ⟨w.heap.size + 1, j, none⟩)) (exec_index rfl rfl rfl (index0_ints _ _ _ _ _ hlt)) ?_
          refine hK'.out _ _ hS (fun hS => ?_)
          clear hK' K'
          change wpAnyH Try.prog .any _ _ _ 1 _ (supAct w.heap.size av ad nv cc nd cd F cv j a (.pointer (some ⟨w.heap.size + 1, j, none⟩)) (.int .i64 d) (.int .i64 m) (.int .i64 (bits .or .i64 d m)) (.pointer (some ⟨w.heap.size + 1, j, none⟩)) u36) wr.drew
          refine wpAnyH_ready (rs := [8]) (by kernel_rfl) (by simp) (AllReadyH.cons rfl (fun K' hK' => ?_) AllReadyH.nil)
          refine step_skip _ (wr.drew.setCell ⟨w.heap.size + 1, j, none⟩ (.int .i64 (bits .or .i64 d m))) rfl (exec_store rfl rfl rfl (store_int _ _ _ _ _ q2 q3)) ?_
          rw [HOR.out]
          have hS9 := HNEW.out.vb
          have hg9 := grown_setCell wr (w.heap.size + 1) j (.int .i64 (addB d a))
          refine hK'.out _ _ hS9 (fun hS9' => ?_)
          clear hK' K'
          refine wpAnyH_done (by kernel_rfl) ?_ _
          unfold supAct
          gi_wp2
          have hZd : ∀ b, b ≠ w.heap.size + 1 → ((wr.setCell ⟨w.heap.size + 1, j, none⟩ (.int .i64 (addB d a))).drew).heap[b]? = wr.heap[b]? := fun b hb => Below.heap_setCell _ _ _ _ (by simpa using hb)
          have hsz : ((wr.setCell ⟨w.heap.size + 1, j, none⟩ (.int .i64 (addB d a))).drew).heap.size = wr.heap.size := World.size_setCell _ _ _
          refine ⟨⟨j + 1, by omega, by simp, Lib.hid ?_, Lib.hid (HXJ.out.keep (hZd _ (by omega))), Lib.hid (HKJ.out.trans ⟨by rw [hsz]; exact Nat.le_refl _, fun b h1 h2 => hZd b (by omega)⟩), Lib.hid (HFJ.out.trans ⟨by rw [hsz]; exact Nat.le_refl _, fun k o hk h1 h2 => (hZd k (by omega)).trans h1⟩)⟩, ?_⟩
          · rw [HZ.out]
            exact HNEW.out.below (show Below _ _ _ from (Below.refl _ _).drew)
          · simp [intOf]
            omega
        · obtain rfl : j = nv := by omega
          have hz : zipS acc t j = List.zipWith addB acc t := by have := zipS_all (acc := acc) (t := t) (by have := HHL.out; have := HAL.out; omega); rw [HAL.out] at this; exact this
          have key : SupSt w j (.slice av j cc) (.func (.func F) #[cv] #[]) (.slice ad nd cd) (accL c j (s ++ [t])) wr ∧ (accL c j (s ++ [t])).length = j ∧ Small (accL c j (s ++ [t])) 0 63 := by rw [HST.out.1]; exact ⟨hz ▸ HSJ.out, HST.out.2⟩
          clear hz
          gi_wp2
          exact ⟨(KeepsFrom.of_below HK2.out).trans (by rw [HSR.out]; exact HFJ.out), (Kq.of_below HK2.out).trans HKJ.out, key⟩
  case hdone =>
    rintro D s X hD rfl ⟨hi, hal, -⟩ hK
    have q1 := hi.vb.cell
    gi_wp2
    refine ⟨by simp, .inl ⟨_, _, rfl, run_takeDeferred hK, ?_⟩⟩
    have hZ : ∀ o', Below (w.heap.size + 5) X (X.putObj D o') := fun o' => (Below.refl _ X).grown (grownBy_putObj' X D o') (by have := hi.td.lt; omega) (fun r e => by cases e; omega)
    have hrr : ∀ o', (X.putObj D o').ownsRow w.heap.size 3 1 (.slice (some ⟨w.heap.size + 1, 0, none⟩) nv nv) nv ((accL c nv (tups ds c.vars)).map (Value.int .i64)) := by
      intro o'
      have hr := (hi.below (hZ o')).row
      unfold XT at hr
      rw [hal] at hr
      exact own_mono hr (by omega)
    exact ⟨_, results_tmp rfl _ _ _, _, rfl, hrr _, (hi.below (hZ _)).bel⟩
end Go.Proofs.Ytipapmmjfoaddaa

/-! The program's propagator of a constraint, as a value. The program's filtering of a row of domains in place. The program's Filter. -/
/-! The program's propagator of a constraint, as a value. -/
namespace Go.Proofs.Ytipapmmjfoaddaa
open Go.ChangeShapes Go.WideShapes Go.ChangeAt Go.RowKit Go.Shelf
set_option linter.unusedVariables false
set_option linter.unusedSimpArgs false

theorem accL_sup (c : Con) (ds : List Int) : accL c c.vars.length (tups ds c.vars) = supL c ds := by
  simp [accL, supL, supP]

set_option maxRecDepth 100000 in
set_option maxHeartbeats 4000000 in
theorem propagatorOf_any (c : Con) (cv : Value) (F : Nat) (w : World) (h : RdCon w cv c)
    (ht : ∀ (w : World), RdCon w cv c → Calls Try.prog 85 #[cv] w (fun e w' => e = .returned (.func (.func F) #[cv] #[]) ∧ Below w.heap.size w w')) :
    Calls Try.prog 60 #[cv] w fun e w' => ∃ vv, e = .returned (.agg #[vv, .func (.func F) #[cv] #[]]) ∧ (∀ w', RdCon w' cv c → RdInts w' vv c.vars) ∧ Below w.heap.size w w' := by
  obtain ⟨a2, a3, a5, c2, c3, c5, rfl, h2, -⟩ := rdCon_slices h
  obtain ⟨W1, hW1⟩ : ∃ W1, w.alloc (.cells #[.int .i64 c.kind, .slice a2 c.vars.length c2, .slice a3 c.args.length c3, .int .i64 c.bound, .slice a5 c.rows.length c5] 82) = W1 := ⟨_, rfl⟩
  have B1 : Below w.heap.size w W1 := by rw [← hW1]; exact (Below.refl _ _).alloc (Nat.le_refl _) _
  have bP : Blk5 W1 w.heap.size 82 (.int .i64 c.kind) (.slice a2 c.vars.length c2) (.slice a3 c.args.length c3) (.int .i64 c.bound) (.slice a5 c.rows.length c5) := by rw [← hW1]; exact Blk5.new w _ _ _ _ _ _
  have s1 : W1.heap.size = w.heap.size + 1 := by rw [← hW1]; simp
  obtain ⟨W2, hW2⟩ : ∃ W2, W1.alloc (.cells #[.slice none 0 0, .nilFunc] 88) = W2 := ⟨_, rfl⟩
  have B2 : Below W1.heap.size W1 W2 := by rw [← hW2]; exact (Below.refl _ _).alloc (Nat.le_refl _) _
  have bQ : W2.heap[w.heap.size + 1]? = some (.cells #[.slice none 0 0, .nilFunc] 88) := by rw [← hW2, ← s1]; exact World.alloc_heap_new _ _
  have B3 : Below w.heap.size w W2.drew := (B1.trans (B2.mono (by omega))).drew
  have bP2 : Blk5 W2 w.heap.size 82 (.int .i64 c.kind) (.slice a2 c.vars.length c2) (.slice a3 c.args.length c3) (.int .i64 c.bound) (.slice a5 c.rows.length c5) := bP.below B2
  obtain ⟨y0, y1, y2, y3, y4⟩ := bP2.cell
  have lt2 : w.heap.size + 1 < W2.heap.size := (Array.getElem?_eq_some_iff.1 bQ).1
  have HC : Hid (Calls Try.prog 85 #[.agg #[.int .i64 c.kind, .slice a2 c.vars.length c2, .slice a3 c.args.length c3, .int .i64 c.bound, .slice a5 c.rows.length c5]] W2.drew (fun e X => e = .returned (.func (.func F) #[.agg #[.int .i64 c.kind, .slice a2 c.vars.length c2, .slice a3 c.args.length c3, .int .i64 c.bound, .slice a5 c.rows.length c5]] #[]) ∧ Below w.heap.size w X
      ∧ X.cell? ⟨w.heap.size, 0, none⟩ = some (.int .i64 c.kind) ∧ X.cell? ⟨w.heap.size, 1, none⟩ = some (.slice a2 c.vars.length c2) ∧ X.cell? ⟨w.heap.size, 2, none⟩ = some (.slice a3 c.args.length c3) ∧ X.cell? ⟨w.heap.size, 3, none⟩ = some (.int .i64 c.bound) ∧ X.cell? ⟨w.heap.size, 4, none⟩ = some (.slice a5 c.rows.length c5)
      ∧ X.cell? ⟨w.heap.size + 1, 0, none⟩ = some (.slice none 0 0) ∧ X.cell? ⟨w.heap.size + 1, 1, none⟩ = some .nilFunc ∧ X.frozen? ⟨w.heap.size + 1, 0, none⟩ = false ∧ X.frozen? ⟨w.heap.size + 1, 1, none⟩ = false)) := by
    refine Lib.hid ((ht W2.drew (h.below B3)).mono ?_)
    rintro e X ⟨rfl, bx⟩
    have bq := (bx.block (w.heap.size + 1) lt2).trans bQ
    obtain ⟨k0, k1, k2, k3, k4⟩ := ((show Blk5 X w.heap.size 82 _ _ _ _ _ from (bx.block (w.heap.size) (by show _ < W2.heap.size; omega)).trans bP2)).cell
    exact ⟨rfl, B3.trans (bx.mono (by show _ ≤ W2.heap.size; omega)), k0, k1, k2, k3, k4, by simp [World.cell?, bq], by simp [World.cell?, bq], by simp [World.frozen?, bq], by simp [World.frozen?, bq]⟩
  have HW := Lib.hid hW1
  have HW2 := Lib.hid hW2
  have H2 := Lib.hid h2
  clear hW1 hW2 s1 B1 B2 B3 bP bP2 h h2 ht bQ lt2
  go_enter Try.func60, Try.ntmps60
  go_wp2
  rw [HW.out, HW2.out]
  go_region_held3 (fun w' => w'.cell? ⟨w.heap.size, 0, none⟩ = some (.int .i64 c.kind) ∧ w'.cell? ⟨w.heap.size, 1, none⟩ = some (.slice a2 c.vars.length c2) ∧ w'.cell? ⟨w.heap.size, 2, none⟩ = some (.slice a3 c.args.length c3) ∧ w'.cell? ⟨w.heap.size, 3, none⟩ = some (.int .i64 c.bound) ∧ w'.cell? ⟨w.heap.size, 4, none⟩ = some (.slice a5 c.rows.length c5)) (first | go_keep | exact ⟨y0, y1, y2, y3, y4⟩ | exact ⟨z0, z1, z2, z3, z4⟩) ((go_at_call 85; refine HC.out.mono ?_; rintro e X3 ⟨rfl, bX, z0, z1, z2, z3, z4, q0, q1, f0, f1⟩))
  go_wp2
  refine bodyPost_ret (v := .agg #[.slice a2 c.vars.length c2, .func (.func F) #[.agg #[.int .i64 c.kind, .slice a2 c.vars.length c2, .slice a3 c.args.length c3, .int .i64 c.bound, .slice a5 c.rows.length c5]] #[]]) (by simp [results, Try.results60, go_sem, q0, q1]) rfl ⟨_, rfl, fun w' h => ?_, ?_⟩
  · obtain ⟨b2, b3, b5, d2, d3, d5, e, h2, -⟩ := rdCon_slices h
    simp at e
    rw [e.1.1, e.1.2]
    exact h2
  exact (bX.setCell (by show _ ≤ w.heap.size + 1; omega) _).setCell (by show _ ≤ w.heap.size + 1; omega) _
end Go.Proofs.Ytipapmmjfoaddaa

/-! The program's filtering of a row of domains in place. -/
namespace Go.Proofs.Ytipapmmjfoaddaa
open Go.ChangeShapes Go.WideShapes Go.ChangeAt Go.RowKit Go.Shelf
set_option linter.unusedVariables false
set_option linter.unusedSimpArgs false

/-- The variables whose domain changes, out of the first k of c. -/
def chL (c : Con) (ds sup : List Int) : Nat → List Int
  | 0 => []
  | k + 1 => if ((putL c ds sup k)[(c.vars[k]?.getD 0).toNat]?.getD 0 != sup[k]?.getD 0) = true then chL c ds sup k ++ [c.vars[k]?.getD 0] else chL c ds sup k
theorem chL_le (c : Con) (ds sup : List Int) (k : Nat) : (chL c ds sup k).length ≤ k := by
  induction k with
  | zero => simp [chL]
  | succ k ih => unfold chL; split
                 · simp; omega
                 · omega
theorem set_same {xs : List Int} {i : Nat} {u : Int} (hi : i < xs.length) (h : xs[i]?.getD 0 = u) : xs.set i u = xs := by
  rw [List.getElem?_eq_getElem hi] at h
  simp at h
  rw [← h]
  exact List.set_getElem_self hi
theorem cell_same {w w' : World} {p : Addr} (h : w'.heap[p.block]? = w.heap[p.block]?) : w'.cell? p = w.cell? p := by simp [World.cell?, h]
theorem below_of_kr {g : Nat} {w w' : World} (h : Below g w w') (k : Kr g w w') (b : Nat) (hb : b ≠ g) (hl : b < w.heap.size) : w'.heap[b]? = w.heap[b]? := by
  by_cases h1 : b < g
  · exact h.block b h1
  · exact k.2 b (by omega) hl

set_option maxRecDepth 100000 in
set_option maxHeartbeats 4000000 in
theorem ifilter_any (c : Con) (cv vv : Value) (F : Nat) (ds : List Int) (g cap : Nat) (w : World) (hF : isTest F) (hread : ∀ w', Below g w w' → RdCon w' cv c ∧ RdInts w' vv c.vars) (hX : XT g cap ds w)
    (h1 : 1 ≤ c.vars.length) (h4 : c.vars.length ≤ 4) (hvs : Small c.vars 0 ((ds.length : Int) - 1)) (hds : Small ds 0 63)
    (hfit : ∀ t : List Int, t.length = c.vars.length → Small t 0 5 → Fit c t)
    (hsat : ∀ (xv : Value) (x : List Int) (w : World), Fit c x → RdCon w cv c → RdInts w xv x → Calls Try.prog F #[cv, xv] w (BoolPost (satB c x) w)) :
    Calls Try.prog 113 #[.agg #[vv, .func (.func F) #[cv] #[]], .slice (some ⟨g, 0, none⟩) ds.length cap] w fun e w' =>
      ∃ v, e = .returned v ∧ w'.ownsRow w.heap.size 3 1 v (chL c ds (supL c ds) c.vars.length).length ((chL c ds (supL c ds) c.vars.length).map (Value.int .i64)) ∧ XT g cap (filL c ds) w' ∧ Below g w w' ∧ Kr g w w' := by
  obtain ⟨sup, hsup⟩ : ∃ sup, sup = supL c ds := ⟨_, rfl⟩
  obtain ⟨av, cc, ev, -⟩ := id (hread w (Below.refl _ _)).2
  rw [ev] at hread ⊢
  have hlg := hX.lt
  obtain ⟨W1, hW1⟩ : ∃ W1, w.alloc (.cells #[.slice av c.vars.length cc, .func (.func F) #[cv] #[]] 88) = W1 := ⟨_, rfl⟩
  have B1 : Below w.heap.size w W1 := by rw [← hW1]; exact (Below.refl _ _).alloc (Nat.le_refl _) _
  have s1 : W1.heap.size = w.heap.size + 1 := by rw [← hW1]; simp
  have q1 : W1.heap[w.heap.size]? = some (.cells #[.slice av c.vars.length cc, .func (.func F) #[cv] #[]] 88) := by rw [← hW1]; exact World.alloc_heap_new _ _
  have p0 : W1.cell? ⟨w.heap.size, 0, none⟩ = some (.slice av c.vars.length cc) := by simp [World.cell?, q1]
  have p1 : W1.cell? ⟨w.heap.size, 1, none⟩ = some (.func (.func F) #[cv] #[]) := by simp [World.cell?, q1]
  have hX1 := hX.keep (B1.block g hlg)
  obtain ⟨r1, r2⟩ := hread W1 (B1.mono (by omega))
  have HC := Lib.hid (isup_any c cv _ (.slice (some ⟨g, 0, none⟩) ds.length cap) F ds W1 hF r1 r2 hX1.rd h1 h4 hvs hds hfit hsat)
  rw [accL_sup, ← hsup] at HC
  have hle : (chL c ds sup c.vars.length).length ≤ 4 := Nat.le_trans (chL_le _ _ _ _) h4
  have hpl := putL_length c ds sup
  have HF : Hid (filL c ds = putL c ds sup c.vars.length) := Lib.hid (by unfold filL; rw [hsup])
  rw [← hsup]
  obtain ⟨nv, hn⟩ : ∃ nv, nv = c.vars.length := ⟨_, rfl⟩
  obtain ⟨nd, hnd⟩ : ∃ nd, nd = ds.length := ⟨_, rfl⟩
  have hcap := (rdInts_cap hX.rd).2
  have hcc := (rdInts_cap r2).2
  rw [← hn] at HC HF p0 q1 h1 h4 hcc hread r2 hW1 ⊢
  rw [← hnd] at HC hcap ⊢
  have hsl : Hid (sup.length = nv) := Lib.hid (by rw [hsup, hn]; exact (supL_facts c ds).1)
  have HR := Lib.hid hread
  have HN := Lib.hid hn
  have HND := Lib.hid hnd
  have HVS := Lib.hid hvs
  have HX1 := Lib.hid hX1
  have HB1 := Lib.hid B1
  have HQ1 := Lib.hid q1
  have HS1 := Lib.hid s1
  have HW := Lib.hid hW1
  have HLG := Lib.hid hlg
  have HPL := Lib.hid hpl
  obtain ⟨i0, hi, hz0, hz1, hz2⟩ := info_parts Try.info3
  clear hread hn hnd hvs hX1 B1 q1 s1 hW1 r1 r2 hX hds hfit hsat hsup ev hlg hpl hle
  go_enter Try.func113, Try.ntmps113
  go_wp2_with fail
  rw [HW.out]
  refine HC.out.mono ?_
  rintro e W2 ⟨v2, rfl, o2, b2⟩
  obtain ⟨a2, n2, c2, e2⟩ := own_slice o2
  subst e2
  have rs := rdInts_of_own (xs := sup) (by rw [← hsl.out] at o2; simpa using o2)
  obtain ⟨a3, c3, e3, -⟩ := id rs
  injection e3 with e3 e4 e5
  rw [hsl.out] at e4
  subst e4
  have hc2 := (rdInts_cap rs).2
  have HRS := Lib.hid rs
  have HO2 := Lib.hid o2
  have HX2 := Lib.hid (HX1.out.keep (b2.block g (by have := HLG.out; have := HS1.out; omega)))
  have HB2 := Lib.hid (HB1.out.trans (b2.mono HB1.out.size))
  have HQ2 := Lib.hid ((b2.block w.heap.size (by have := HS1.out; omega)).trans HQ1.out)
  have HZ2 := Lib.hid (show w.heap.size + 1 ≤ W2.heap.size by have := b2.size; have := HS1.out; omega)
  have HG1 := Lib.hid (show g < W1.heap.size by have := HLG.out; have := HS1.out; omega)
  clear b2 o2 rs p0 p1 HC HX1 HQ1 HW HB1 HS1 e3 e5
  go_wp2
  go_loopw [5, 13] (fun u i wr => ∃ j : Nat, j ≤ n2 ∧ i = .int .i64 j ∧ Hid (wr.ownsRow W2.heap.size 3 1 u (chL c ds sup j).length ((chL c ds sup j).map (Value.int .i64))) ∧ Hid (XT g cap (putL c ds sup j) wr) ∧ Hid (Below g W2 wr) ∧ Hid (Kr g W2 wr)) (fun _ i _ => n2 - (intOf i).toNat)
  case atStart => exact ⟨0, Nat.zero_le _, rfl, Lib.hid (World.ownsRow_nil _ _ _ _), HX2, Lib.hid (Below.refl _ _), Lib.hid (Kr.refl _ _)⟩
  case round =>
    obtain ⟨j, hj, rfl, HO, HXJ, HBJ, HKJ⟩ := hrel
    by_cases hlt : j < n2
    · have HBW : Hid (Below g w wr) := Lib.hid ((HB2.out.mono (by have := HLG.out; omega)).trans HBJ.out)
      obtain ⟨bv, ov, rfl, k1⟩ := rdInts_at (HR.out wr HBW.out).2 hlt
      obtain ⟨z, hz⟩ : ∃ z : Nat, c.vars[j]?.getD 0 = (z : Int) := ⟨(c.vars[j]?.getD 0).toNat, by have := (HVS.out j (by have := HN.out; omega)).1; omega⟩
      have hzl : z < nd := by have := (HVS.out j (by have := HN.out; omega)).2; have := HND.out; omega
      rw [hz] at k1
      obtain ⟨bs, os, hbs, k2⟩ := rdInts_at HRS.out hlt
      subst hbs
      have hb2 := World.block_lt_of_cell? W2 _ k2
      simp at hb2
      have hbg : bs ≠ g := by
        rcases HO2.out.2 with ⟨e, _⟩ | ⟨g', _, _, e, hg', _⟩
        · cases e
        · injection e with e _ _; injection e with e; injection e with e _ _; have := HG1.out; omega
      have k2 := (cell_same (below_of_kr HBJ.out HKJ.out bs hbg hb2)).trans k2
      obtain ⟨u, hu⟩ : ∃ u, u = sup[j]?.getD 0 := ⟨_, rfl⟩
      rw [← hu] at k2
      have hpz : z < (putL c ds sup j).length := by rw [HPL.out]; have := HND.out; omega
      have k3 := HXJ.out.at hpz
      obtain ⟨d, hd⟩ : ∃ d, d = (putL c ds sup j)[z]?.getD 0 := ⟨_, rfl⟩
      rw [← hd] at k3
      have k4 := HXJ.out.unfrozen z
      have kb := below_of_kr HBJ.out HKJ.out w.heap.size (by have := HLG.out; omega) (by have := HZ2.out; omega)
      have kq := kb.trans HQ2.out
      have p0 : wr.cell? ⟨w.heap.size, 0, none⟩ = some (.slice (some ⟨bv, ov, none⟩) n2 cc) := by simp [World.cell?, kq]
      have HNEW := Lib.hid (HXJ.out.set hpz u)
      have HPU : Hid (putL c ds sup (j + 1) = (putL c ds sup j).set z u) := Lib.hid (by rw [putL, hz, hu]; rfl)
      have hszr := HBJ.out.size
      cases hne : (d != u)
      · have HPS : Hid (putL c ds sup (j + 1) = putL c ds sup j) := Lib.hid (by rw [HPU.out]; exact set_same hpz (by rw [← hd]; simpa using hne))
        have HCS : Hid (chL c ds sup (j + 1) = chL c ds sup j) := Lib.hid (by rw [chL, hz, ← hu, if_neg]; rw [Int.toNat_natCast, ← hd, hne]; simp)
        clear hd hu hz kb kq hpz hbg hb2 hszr
        go_wp2
        go_roundw
        case rel => exact ⟨j + 1, by omega, by go_num, Lib.hid (by rw [HCS.out]; exact HO.out), Lib.hid (by rw [HPS.out]; exact HXJ.out), HBJ, HKJ⟩
        case measure => simp [intOf]; omega
      · have HCS : Hid (chL c ds sup (j + 1) = chL c ds sup j ++ [(z : Int)]) := Lib.hid (by rw [chL, hz, ← hu, if_pos]; rw [Int.toNat_natCast, ← hd, hne])
        have hgr := grown_setCell wr g z (.int .i64 u)
        have hszS := World.size_setCell wr ⟨g, z, none⟩ (.int .i64 u)
        have bS : Below g wr (wr.setCell ⟨g, z, none⟩ (.int .i64 u)) := (Below.refl _ wr).grown hgr (by have := HLG.out; have := HZ2.out; omega) (fun r e => by cases e; exact Nat.le_refl _)
        have kS : Kr g wr (wr.setCell ⟨g, z, none⟩ (.int .i64 u)) := (Kr.refl g wr).grown hgr
        have hown : (wr.setCell ⟨g, z, none⟩ (.int .i64 u)).ownsRow W2.heap.size 3 1 _ (chL c ds sup j).length ((chL c ds sup j).map (Value.int .i64)) := World.ownsRow.kept HO.out hgr (.inr (fun e => by have := (HO.out.lt g e).1; have := HZ2.out; have := HLG.out; omega))
        have hcl := chL_le c ds sup j
        have hc1 := cell_one_new (wr.setCell ⟨g, z, none⟩ (.int .i64 u)) (.int .i64 z) 3
        rw [hszS] at hc1
        have HGR := Lib.hid hgr
        have HBS := Lib.hid (HBJ.out.trans bS)
        have HKS := Lib.hid (HKJ.out.trans kS)
        have HSZ := Lib.hid hszS
        clear hd hu hz kb kq hpz hbg hb2 hgr bS kS hszS
        go_wp2_with (at_builtin; refine wpList_append_own _ rfl _ _ 22 rfl W2.heap.size 3 i0 (.int .i64 0) 1 8 Try.underlying22 hi hz0 hz1 hz2 rfl (by decide) _ _ _ rfl (hown.alloc _) ⟨wr.heap.size, 0, none⟩ 1 1 [.int .i64 z] rfl rfl hc1 (by simp [Value.oneCell']) (by unfold maxLen; omega) (by omega) (by simp; omega) ?_; intro v' w6 hown' hgrow _)
        have hs7 : (wr.setCell ⟨g, z, none⟩ (.int .i64 u)).heap.size = wr.heap.size := HSZ.out
        have hq7 : ∀ q, Value.ownBlock u5 = some q → W2.heap.size ≤ q := fun q e => (hown.lt q e).1
        have hb7 : Below g W2 w6 := (HBS.out.alloc (by have := HLG.out; have := HZ2.out; omega) _).grown hgrow (by simp; have := HLG.out; have := HZ2.out; omega) (fun q e => by have := hq7 q e; have := HLG.out; have := HZ2.out; omega)
        have hk7 : Kr g W2 w6 := (HKS.out.alloc _).far hgrow (fun q e => hq7 q e)
        have hx7 : XT g cap ((putL c ds sup j).set z u) w6 := (HNEW.out.keep (Below.heap_alloc _ _ _ (by rw [hs7]; have := HLG.out; have := HZ2.out; omega))).keep (hgrow.block g (by simp; have := HLG.out; have := HZ2.out; omega) (fun e => by have := hq7 g e.symm; have := HLG.out; have := HZ2.out; omega))
        clear hown hc1 hgrow hs7 hq7
        go_wp2
        go_roundw
        case rel => exact ⟨j + 1, by omega, by go_num, Lib.hid (by rw [HCS.out, List.length_append, List.map_append]; exact hown'), Lib.hid (by rw [HPU.out]; exact hx7), Lib.hid hb7, Lib.hid hk7⟩
        case measure => simp [intOf]; omega
    · obtain rfl : j = n2 := by omega
      go_wp2
      go_ret
      exact ⟨_, rfl, own_mono HO.out (by have := HZ2.out; omega), by rw [HF.out]; exact HXJ.out, (HB2.out.mono (by have := HLG.out; omega)).trans HBJ.out, (show Kr g w W2 from ⟨HB2.out.size, fun b _ h => HB2.out.block b h⟩).trans HKJ.out⟩
end Go.Proofs.Ytipapmmjfoaddaa

/-! The program's Filter. -/
namespace Go.Proofs.Ytipapmmjfoaddaa
open Go.ChangeShapes Go.WideShapes Go.ChangeAt Go.RowKit Go.Shelf
set_option linter.unusedVariables false
set_option linter.unusedSimpArgs false

theorem xt_of_own {w : World} {B : Nat} {v : Value} {xs : List Int} (h : w.ownsRow B 3 1 v xs.length (xs.map (Value.int .i64))) (h1 : 1 ≤ xs.length) : ∃ g cap, v = .slice (some ⟨g, 0, none⟩) xs.length cap ∧ B ≤ g ∧ XT g cap xs w := by
  rcases h.2 with ⟨e, h0⟩ | ⟨g, cap, cur, e, hg, rest⟩
  · omega
  · exact ⟨g, cap, e, hg, by unfold XT; rw [← e]; exact ⟨h.1, .inr ⟨g, cap, cur, e, Nat.le_refl _, rest⟩⟩⟩
theorem own_of_xt {w : World} {B g cap : Nat} {xs : List Int} (h : XT g cap xs w) (hB : B ≤ g) : w.ownsRow B 3 1 (.slice (some ⟨g, 0, none⟩) xs.length cap) xs.length (xs.map (Value.int .i64)) := own_mono h hB

theorem fltL_le (c : Con) (ds : List Int) : (fltL c ds).length ≤ 1048576 := by
  unfold fltL
  split
  · rename_i h
    have := ok_parts h
    unfold filL
    rw [putL_length]
    omega
  · simp
end Go.Proofs.Ytipapmmjfoaddaa
