/- The loops in the draw of a constraint: what stands while args or rows grow. -/
import Derived.Test.YtjdbfiiaadphhaaDrK
namespace Go.Proofs.Ytjdbfiiaadphhaa
open Go.ChangeShapes Go.WideShapes Go.ChangeAt Go.RowKit Go.Shelf
set_option linter.unusedVariables false
set_option linter.unusedSimpArgs false

theorem rdInts_nil (w : World) : RdInts w (.slice none 0 0) [] := ⟨none, 0, rfl, Nat.le_refl _, by decide, .inl rfl⟩
theorem rdRows_nil (w : World) : RdRows w (.slice none 0 0) [] := ⟨none, 0, rfl, Nat.le_refl _, by decide, .inl rfl⟩
theorem own_nil (w : World) (B : Nat) (e : TypeId) : w.ownsRow B e 1 (.slice none 0 0) 0 [] := ⟨rfl, .inl ⟨rfl, rfl⟩⟩
theorem rowsLe_of {rows : List (List Int)} (h1 : rows.length ≤ 20) (h2 : ∀ r ∈ rows, r.length ≤ 20) : RowsLe rows 20 := by
  refine ⟨h1, fun j hj => ?_⟩
  rw [List.getElem?_eq_getElem hj]
  exact h2 _ (List.getElem_mem hj)
theorem av_new {Q Q' : Nat → Bool} {a w : World} (hb : Below a.heap.size a w) (hQ : ∀ b, b < a.heap.size → Q b = false → Q' b = false) : Inc (av Q a) (av Q' w) := fun p x hx => by
  obtain ⟨e, h1⟩ := av_at Q a hx
  have hl := World.block_lt_of_cell? a _ h1
  exact av_mk Q' w (hQ _ hl e) ((hb.cell hl).trans h1)
/-- While args grow: a is the world at the loop's start. -/
structure LI (Q0 : Nat → Bool) (n0 B R C : Nat) (w a W : World) (q : Int) (c : Con) (u1 u4 : Value) (ua : Option Addr) (m cap : Nat) (xs : List Int) : Prop where
  bc : Blk5 W C 53 (.int .i64 c.kind) u1 (.slice ua m cap) (.int .i64 c.bound) u4
  br : Blk5 W R 53 (.int .i64 0) (.slice none 0 0) (.slice none 0 0) (.int .i64 0) (.slice none 0 0)
  fr : Fr (qs Q0 R C) a W
  own : W.ownsRow a.heap.size 3 1 (.slice ua m cap) m (xs.map (Value.int .i64))
  len : xs.length = m
  rd : Rd n0 B q W
  dn : Dn B w W
theorem LI.start {Q0 : Nat → Bool} {n0 B R C : Nat} {w a : World} {q : Int} {c : Con} {u1 u4 : Value} (h : KS Q0 n0 B R C w a q c u1 (.slice none 0 0) u4) : LI Q0 n0 B R C w a a q c u1 u4 none 0 0 [] :=
  ⟨h.bc, h.br, Fr.refl _ _, own_nil _ _ _, rfl, h.rd, h.dn⟩
theorem LI.ks {Q0 : Nat → Bool} {n0 B R C : Nat} {w a W : World} {q q0 : Int} {c : Con} {u1 u2 u4 : Value} {ua : Option Addr} {m cap : Nat} {xs : List Int} (k : KP Q0 B R C n0 w) (h0 : KS Q0 n0 B R C w a q0 c u1 u2 u4) (h : LI Q0 n0 B R C w a W q c u1 u4 ua m cap xs) :
    KS Q0 n0 B R C w W q { c with args := xs } u1 (.slice ua m cap) u4 := by
  have hQ : ∀ b, a.heap.size ≤ b → qs Q0 R C b = false := fun b hb => qs_no (k.hQ0 _ (by have := h0.dn.size; omega)) (by have := h0.br.lt; omega) (by have := h0.bc.lt; omega)
  refine ⟨h.bc, h.br, h0.r1.inc h.fr.inc, ?_, h0.r4.inc h.fr.inc, h.rd, h.dn⟩
  have := own_av h.own hQ
  rw [← h.len] at this ⊢
  exact rdInts_of_own this
theorem LI.lt {Q0 : Nat → Bool} {n0 B R C : Nat} {w a W : World} {q : Int} {c : Con} {u1 u4 : Value} {ua : Option Addr} {m cap : Nat} {xs : List Int} (h : LI Q0 n0 B R C w a W q c u1 u4 ua m cap xs) : a.heap.size ≤ W.heap.size := h.fr.size
theorem LI.push {Q0 : Nat → Bool} {n0 B R C : Nat} {w a W V2 V4 : World} {q q' q0 z : Int} {c : Con} {u1 u2 u4 : Value} {ua ua' : Option Addr} {m cap m' cap' : Nat} {xs : List Int} (k : KP Q0 B R C n0 w) (h0 : KS Q0 n0 B R C w a q0 c u1 u2 u4) (h : LI Q0 n0 B R C w a W q c u1 u4 ua m cap xs)
    (hd : Dn B W V2) (hr : Rd n0 B q' V2) (hm : m' = m + 1) (hown : V4.ownsRow a.heap.size 3 1 (.slice ua' m' cap') m' (xs.map (Value.int .i64) ++ [.int .i64 z])) (hg : (V2.alloc (.cells #[.int .i64 z] 3)).grownBy V4 (Value.ownBlock (.slice ua m cap))) :
    LI Q0 n0 B R C w a (V4.setCell ⟨C, 2, none⟩ (.slice ua' m' cap')) q' c u1 u4 ua' m' cap' (xs ++ [z]) := by
  subst hm
  have hge : ∀ g, Value.ownBlock (.slice ua m cap) = some g → a.heap.size ≤ g := fun g e => (h.own.lt g e).1
  have hBa := h0.rd.lt
  have hRa := h0.br.lt
  have hCa := h0.bc.lt
  have hs2 : a.heap.size ≤ V2.heap.size := Nat.le_trans h.fr.size hd.size
  have hlow : Below a.heap.size V2 V4 := ((Below.refl a.heap.size V2).alloc hs2 _).grown hg (by simp; omega) hge
  have hC2 : Blk5 V2 C 53 (.int .i64 c.kind) u1 (.slice ua m cap) (.int .i64 c.bound) u4 := (hd.block C h.bc.lt (by have := k.hC; have := k.hB; omega)).trans h.bc
  have hR2 : Blk5 V2 R 53 (.int .i64 0) (.slice none 0 0) (.slice none 0 0) (.int .i64 0) (.slice none 0 0) := (hd.block R h.br.lt (by have := k.hR; have := k.hB; omega)).trans h.br
  have hC4 : Blk5 V4 C 53 (.int .i64 c.kind) u1 (.slice ua m cap) (.int .i64 c.bound) u4 := (hlow.block C hCa).trans hC2
  have hR4 : Blk5 V4 R 53 (.int .i64 0) (.slice none 0 0) (.slice none 0 0) (.int .i64 0) (.slice none 0 0) := (hlow.block R hRa).trans hR2
  have hfr4 : Fr (qs Q0 R C) a V4 := (h.fr.trans (Fr.of_dn (qs_B R C k.hQB) hd)).low hlow
  refine ⟨hC4.set 2 _, hR4.other (by show C ≠ R; exact fun e => k.hne e.symm) _, hfr4.setCell (p := ⟨C, 2, none⟩) (qs_C Q0 R C) _, ?_, by rw [List.length_append, h.len]; rfl, ?_, dn_setC k.hC ((h.dn.trans hd).lowB hlow h0.dn.size) _ _⟩
  · rw [List.map_append]
    exact own_keepB hown (fun b hb => Below.heap_setCell _ _ _ _ (by show b ≠ C; have := (hown.lt b hb).1; omega))
  · exact rd_setC (w := w) (by have := k.hC; have := k.hB; omega) (hr.below (hlow.mono (by omega))) _ _
/-- While rows grow. -/
structure LR (Q0 : Nat → Bool) (n0 B R C : Nat) (w a W : World) (q : Int) (c : Con) (u1 u2 : Value) (ua : Option Addr) (m cap : Nat) (us : List Value) (rows : List (List Int)) : Prop where
  bc : Blk5 W C 53 (.int .i64 c.kind) u1 u2 (.int .i64 c.bound) (.slice ua m cap)
  br : Blk5 W R 53 (.int .i64 0) (.slice none 0 0) (.slice none 0 0) (.int .i64 0) (.slice none 0 0)
  fr : Fr (qs Q0 R C) a W
  own : RowsOwn B a.heap.size W (.slice ua m cap) us rows
  len : us.length = m
  rd : Rd n0 B q W
  dn : Dn B w W
theorem LR.start {Q0 : Nat → Bool} {n0 B R C : Nat} {w a : World} {q : Int} {c : Con} {u1 u2 : Value} (h : KS Q0 n0 B R C w a q c u1 u2 (.slice none 0 0)) : LR Q0 n0 B R C w a a q c u1 u2 none 0 0 [] [] :=
  ⟨h.bc, h.br, Fr.refl _ _, ⟨rfl, own_nil _ _ _, fun i u hu => by simp at hu⟩, rfl, h.rd, h.dn⟩
theorem LR.ks {Q0 : Nat → Bool} {n0 B R C : Nat} {w a W : World} {q q0 : Int} {c : Con} {u1 u2 u4 : Value} {ua : Option Addr} {m cap : Nat} {us : List Value} {rows : List (List Int)} (k : KP Q0 B R C n0 w) (h0 : KS Q0 n0 B R C w a q0 c u1 u2 u4) (h : LR Q0 n0 B R C w a W q c u1 u2 ua m cap us rows) :
    KS Q0 n0 B R C w W q { c with rows := rows } u1 u2 (.slice ua m cap) := by
  have hQ : ∀ b, a.heap.size ≤ b → qs Q0 R C b = false := fun b hb => qs_no (k.hQ0 _ (by have := h0.dn.size; omega)) (by have := h0.br.lt; omega) (by have := h0.bc.lt; omega)
  exact ⟨h.bc, h.br, h0.r1.inc h.fr.inc, h0.r2.inc h.fr.inc, h.own.rd hQ, h.rd, h.dn⟩
theorem LR.push {Q0 : Nat → Bool} {n0 B R C : Nat} {w a W V2 V4 : World} {q q' q0 : Int} {c : Con} {u1 u2 u4 u : Value} {ua ua' : Option Addr} {m cap m' cap' : Nat} {us : List Value} {rows : List (List Int)} {r : List Int} (k : KP Q0 B R C n0 w) (h0 : KS Q0 n0 B R C w a q0 c u1 u2 u4) (h : LR Q0 n0 B R C w a W q c u1 u2 ua m cap us rows)
    (hd : Dn B W V2) (hr : Rd n0 B q' V2) (hu : V2.ownsRow W.heap.size 3 1 u r.length (r.map (Value.int .i64))) (hm : m' = m + 1) (hown : V4.ownsRow a.heap.size 32 1 (.slice ua' m' cap') m' (us ++ [u])) (hg : (V2.alloc (.cells #[u] 32)).grownBy V4 (Value.ownBlock (.slice ua m cap))) :
    LR Q0 n0 B R C w a (V4.setCell ⟨C, 4, none⟩ (.slice ua' m' cap')) q' c u1 u2 ua' m' cap' (us ++ [u]) (rows ++ [r]) := by
  subst hm
  have hge : ∀ g, Value.ownBlock (.slice ua m cap) = some g → a.heap.size ≤ g := fun g e => (h.own.2.1.lt g e).1
  have hBa := h0.rd.lt
  have hRa := h0.br.lt
  have hCa := h0.bc.lt
  have hs2 : a.heap.size ≤ V2.heap.size := Nat.le_trans h.fr.size hd.size
  have hlow : Below a.heap.size V2 V4 := ((Below.refl a.heap.size V2).alloc hs2 _).grown hg (by simp; omega) hge
  have hC2 : Blk5 V2 C 53 (.int .i64 c.kind) u1 u2 (.int .i64 c.bound) (.slice ua m cap) := (hd.block C h.bc.lt (by have := k.hC; have := k.hB; omega)).trans h.bc
  have hR2 : Blk5 V2 R 53 (.int .i64 0) (.slice none 0 0) (.slice none 0 0) (.int .i64 0) (.slice none 0 0) := (hd.block R h.br.lt (by have := k.hR; have := k.hB; omega)).trans h.br
  have hC4 : Blk5 V4 C 53 (.int .i64 c.kind) u1 u2 (.int .i64 c.bound) (.slice ua m cap) := (hlow.block C hCa).trans hC2
  have hR4 : Blk5 V4 R 53 (.int .i64 0) (.slice none 0 0) (.slice none 0 0) (.int .i64 0) (.slice none 0 0) := (hlow.block R hRa).trans hR2
  have hfr4 : Fr (qs Q0 R C) a V4 := (h.fr.trans (Fr.of_dn (qs_B R C k.hQB) hd)).low hlow
  have ho4 : RowsOwn B a.heap.size V4 (.slice ua' (m + 1) cap') (us ++ [u]) (rows ++ [r]) := (h.own.keep hBa hd).snoc (own_mono hu h.fr.size) hg (by rw [h.len]; exact hown)
  refine ⟨hC4.set 4 _, hR4.other (by show C ≠ R; exact fun e => k.hne e.symm) _, hfr4.setCell (p := ⟨C, 4, none⟩) (qs_C Q0 R C) _, ?_, by rw [List.length_append, h.len]; rfl, ?_, dn_setC k.hC ((h.dn.trans hd).lowB hlow h0.dn.size) _ _⟩
  · exact ⟨ho4.1, own_keepB ho4.2.1 (fun b hb => Below.heap_setCell _ _ _ _ (by show b ≠ C; have := (ho4.2.1.lt b hb).1; omega)), fun i v hv => own_keepB (ho4.2.2 i v hv) (fun b hb => Below.heap_setCell _ _ _ _ (by show b ≠ C; have := ((ho4.2.2 i v hv).lt b hb).1; omega))⟩
  · exact rd_setC (w := w) (by have := k.hC; have := k.hB; omega) (hr.below (hlow.mono (by omega))) _ _
end Go.Proofs.Ytjdbfiiaadphhaa
