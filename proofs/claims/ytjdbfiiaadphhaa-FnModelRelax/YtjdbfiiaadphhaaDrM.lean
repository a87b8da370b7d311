/- The draw of a model: what stands while it is made. The draw of a model: single operations on models. The draw of a valid model. The draw of a model that may be invalid. The draw of a model for a law. -/
import Derived.Test.YtjdbfiiaadphhaaDrG
import Derived.Test.YtjdbfiiaadphhaaMod
import Derived.ArgAppend
import Derived.Test.YtjdbfiiaadphhaaEngI
import Derived.Test.YtjdbfiiaadphhaaOrdX2

/-! The draw of a model: what stands while it is made. -/
namespace Go.Proofs.Ytjdbfiiaadphhaa
open Go.ChangeShapes Go.WideShapes Go.ChangeAt Go.RowKit Go.Shelf
set_option linter.unusedVariables false
set_option linter.unusedSimpArgs false

/-- append to a row of one's own: it stays in its block, or lies in a new one. -/
theorem run_append_own_at {P : Program} (w : World) (base : Nat) (t ty e : TypeId) (i : TypeInfo) (z : Value) (size bytes : Nat) (ht : P.underlying t = some (.slice e)) (hi : P.info? e = some i) (hz : i.zero = some z)
    (hsize : i.size = size) (hby : i.bytes = bytes) (hzs : z.cells.size = size) (hsz : 0 < size)
    (v : Value) (n : Nat) (xs : List Value) (hown : w.ownsRow base e size v n xs)
    (a : Addr) (m c : Nat) (news : List Value) (hl : news.length = m * size) (hnews : ∀ j u, news[j]? = some u → w.cell? (a.add j) = some u) (h1 : ∀ u ∈ news, u.oneCell' = true)
    (h63 : n + m ≤ maxLen) (hbytes : (n + m) * bytes ≤ 140737488355328) (hbase : base ≤ w.heap.size) :
    ∃ v' w', (Builtin.append_ #[t, t] ty #[v, .slice (some a) m c]).run P w = .ok v' w' ∧ w'.ownsRow base e size v' (n + m) (xs ++ news) ∧ w.grownBy w' v.ownBlock ∧ (v'.ownBlock = v.ownBlock ∨ ∀ g, v'.ownBlock = some g → w.heap.size ≤ g) := by
  obtain ⟨v', w', hr, ho, hg, -⟩ := run_append_own (P := P) w base t ty e i z size bytes ht hi hz hsize hby hzs hsz v n xs hown a m c news hl hnews h1 h63 hbytes hbase
  refine ⟨v', w', hr, ho, hg, ?_⟩
  rcases hown.2 with ⟨rfl, rfl⟩ | ⟨g, cap, cur, rfl, hbg, hgc, hnc, hcm, hcs, htake⟩
  · right
    have hxs : xs = [] := List.eq_nil_of_length_eq_zero (by simpa using hown.1)
    subst hxs
    obtain ⟨v2, w2, hr2, ho2, -, -⟩ := run_append_own (P := P) w w.heap.size t ty e i z size bytes ht hi hz hsize hby hzs hsz (.slice none 0 0) 0 [] (World.ownsRow_nil _ _ _ _) a m c news hl hnews h1 h63 hbytes (Nat.le_refl _)
    rw [hr] at hr2
    injection hr2 with e1 e2
    subst e1
    exact fun g e => (ho2.lt g e).1
  · by_cases hroom : n + m ≤ cap
    · left
      subst hsize
      have hfit : n * i.size + news.length ≤ cur.size := by rw [hl, hcs, ← Nat.add_mul]; exact Nat.mul_le_mul_right _ hroom
      have hr2 := run_append_room (P := P) w t ty e i ht hi g n cap cur hgc a m c news hl hnews h1 hroom hfit
      rw [hr] at hr2
      injection hr2 with e1 e2
      rw [e1]
      rfl
    · right
      obtain ⟨v2, w2, hr2, ho2, -⟩ := run_append_arg_grows (P := P) w t ty e i z size bytes ht hi hz hsize hby hzs hsz ⟨g, 0, none⟩ n cap xs hown.1 (hown.cells (g := g) rfl) a m c news hl hnews (by omega) h63 hbytes
      rw [hr] at hr2
      injection hr2 with e1 e2
      subst e1
      exact fun g e => (ho2.lt g e).1

/-- A constraint in a list: its data and its three slices. -/
structure CE where
  c : Con
  v : Value
  a : Value
  r : Value
def CE.ok (Q : Nat → Bool) (W : World) (M : Nat) (x : CE) : Prop := RdInts (av Q W) x.v x.c.vars ∧ RdInts (av Q W) x.a x.c.args ∧ RdRows (av Q W) x.r x.c.rows ∧ NilOk x.a ∧ 1 ≤ x.c.vars.length ∧ ConLe x.c M
theorem CE.ok.inc {Q Q' : Nat → Bool} {W W' : World} {M : Nat} {x : CE} (h : x.ok Q W M) (hi : Inc (av Q W) (av Q' W')) : x.ok Q' W' M :=
  ⟨h.1.inc hi, h.2.1.inc hi, h.2.2.1.inc hi, h.2.2.2⟩
def cellsE : List CE → List Value
  | [] => []
  | x :: xs => .int .i64 x.c.kind :: x.v :: x.a :: .int .i64 x.c.bound :: x.r :: cellsE xs
theorem cellsE_length : ∀ xs : List CE, (cellsE xs).length = xs.length * 5
  | [] => rfl
  | x :: xs => by simp [cellsE, cellsE_length xs]; omega
theorem cellsE_append : ∀ xs ys : List CE, cellsE (xs ++ ys) = cellsE xs ++ cellsE ys
  | [], ys => rfl
  | x :: xs, ys => by simp [cellsE, cellsE_append xs ys]
theorem cellsE_at : ∀ (xs : List CE) (i : Nat) (x : CE), xs[i]? = some x → (cellsE xs)[i * 5]? = some (.int .i64 x.c.kind) ∧ (cellsE xs)[i * 5 + 1]? = some x.v ∧ (cellsE xs)[i * 5 + 2]? = some x.a ∧ (cellsE xs)[i * 5 + 3]? = some (.int .i64 x.c.bound) ∧ (cellsE xs)[i * 5 + 4]? = some x.r
  | [], i, x, h => by simp at h
  | a :: xs, 0, x, h => by
    simp at h
    subst h
    exact ⟨rfl, rfl, rfl, rfl, rfl⟩
  | a :: xs, i + 1, x, h => by
    have := cellsE_at xs i x (by simpa using h)
    rw [show (i + 1) * 5 = i * 5 + 1 + 1 + 1 + 1 + 1 from by omega]
    exact this
theorem cellsE_set : ∀ (xs : List CE) (i : Nat) (x : CE), i < xs.length → (((((cellsE xs).set (i * 5) (.int .i64 x.c.kind)).set (i * 5 + 1) x.v).set (i * 5 + 2) x.a).set (i * 5 + 3) (.int .i64 x.c.bound)).set (i * 5 + 4) x.r = cellsE (xs.set i x)
  | [], i, x, h => by simp at h
  | a :: xs, 0, x, h => by simp [cellsE]
  | a :: xs, i + 1, x, h => by
    have := cellsE_set xs i x (by simpa using h)
    rw [show (i + 1) * 5 = i * 5 + 1 + 1 + 1 + 1 + 1 from by omega]
    show (((((cellsE (a :: xs)).set (i * 5 + 5) _).set (i * 5 + 6) _).set (i * 5 + 7) _).set (i * 5 + 8) _).set (i * 5 + 9) _ = _
    simp only [cellsE, List.set_cons_succ]
    rw [this]

/-- Blocks that are shut, the result's, the model's, its domains' and its constraints'. -/
def qm (Q0 : Nat → Bool) (R M : Nat) (u1 u2 : Value) (b : Nat) : Bool := Q0 b || b == R || b == M || decide (u1.ownBlock = some b) || decide (u2.ownBlock = some b)
theorem qm_no {Q0 : Nat → Bool} {R M b : Nat} {u1 u2 : Value} (h1 : Q0 b = false) (h2 : b ≠ R) (h3 : b ≠ M) (h4 : u1.ownBlock ≠ some b) (h5 : u2.ownBlock ≠ some b) : qm Q0 R M u1 u2 b = false := by simp [qm, h1, h2, h3, h4, h5]
theorem qm_parts {Q0 : Nat → Bool} {R M b : Nat} {u1 u2 : Value} (h : qm Q0 R M u1 u2 b = false) : Q0 b = false ∧ b ≠ R ∧ b ≠ M ∧ u1.ownBlock ≠ some b ∧ u2.ownBlock ≠ some b := by simpa [qm, and_assoc] using h
theorem qm_B {Q0 : Nat → Bool} {B R M : Nat} {u1 u2 : Value} (h : Q0 B = true) : qm Q0 R M u1 u2 B = true := by simp [qm, h]
/-- Where the model and the result lie. -/
structure MP (Q0 : Nat → Bool) (B R M n0 : Nat) (w : World) : Prop where
  hB : B < w.heap.size
  hR : w.heap.size ≤ R
  hM : w.heap.size ≤ M
  hne : R ≠ M
  h0 : n0 ≤ B
  hQB : Q0 B = true
  hQ0 : ∀ b, w.heap.size ≤ b → Q0 b = false
/-- The model that is made, in the block M. -/
structure MS (Q0 : Nat → Bool) (n0 B R M L : Nat) (w W : World) (q : Int) (u1 u2 : Value) (ds : List Int) (xs : List CE) : Prop where
  bm : Blk2 W M 68 u1 u2
  br : Blk2 W R 68 (.slice none 0 0) (.slice none 0 0)
  o1 : W.ownsRow w.heap.size 3 1 u1 ds.length (ds.map (Value.int .i64))
  o2 : W.ownsRow w.heap.size 53 5 u2 xs.length (cellsE xs)
  n1 : ∀ g, u1.ownBlock = some g → g ≠ M ∧ g ≠ R ∧ u2.ownBlock ≠ some g
  n2 : ∀ g, u2.ownBlock = some g → g ≠ M ∧ g ≠ R
  ok : ∀ x ∈ xs, x.ok (qm Q0 R M u1 u2) W L
  rd : Rd n0 B q W
  dn : Dn B w W
section
variable {Q0 : Nat → Bool} {n0 B R M L : Nat} {w W W' : World} {q q' : Int} {u1 u2 : Value} {ds : List Int} {xs : List CE}
theorem own_dnG {B base sz : Nat} {w w' : World} {e : TypeId} {v : Value} {n : Nat} {xs : List Value} (h : w.ownsRow base e sz v n xs) (hB : B < base) (hd : Dn B w w') : w'.ownsRow base e sz v n xs := by
  refine ⟨h.1, ?_⟩
  rcases h.2 with h | ⟨g, cap, cur, e1, h1, h2, h3⟩
  · exact .inl h
  · exact .inr ⟨g, cap, cur, e1, h1, (hd.block g (Array.getElem?_eq_some_iff.1 h2).1 (by omega)).trans h2, h3⟩
theorem MS.new_no (k : MP Q0 B R M n0 w) (h : MS Q0 n0 B R M L w W q u1 u2 ds xs) : ∀ b, W.heap.size ≤ b → qm Q0 R M u1 u2 b = false := fun b hb =>
  qm_no (k.hQ0 b (Nat.le_trans h.dn.size hb)) (by have := h.br.lt; omega) (by have := h.bm.lt; omega) (fun e => by have := (h.o1.lt b e).2; omega) (fun e => by have := (h.o2.lt b e).2; omega)
theorem MS.dnStep (k : MP Q0 B R M n0 w) (h : MS Q0 n0 B R M L w W q u1 u2 ds xs) (hd : Dn B W W') (hr : Rd n0 B q' W') : MS Q0 n0 B R M L w W' q' u1 u2 ds xs := by
  have hi := (Fr.of_dn (Q := qm Q0 R M u1 u2) (qm_B k.hQB) hd).inc
  have hMB : M ≠ B := by have := k.hM; have := k.hB; omega
  have hRB : R ≠ B := by have := k.hR; have := k.hB; omega
  exact ⟨(hd.block M h.bm.lt hMB).trans h.bm, (hd.block R h.br.lt hRB).trans h.br, own_dnG h.o1 k.hB hd, own_dnG h.o2 k.hB hd, h.n1, h.n2, fun x hx => (h.ok x hx).inc hi, hr, h.dn.trans hd⟩
theorem MS.below (k : MP Q0 B R M n0 w) (h : MS Q0 n0 B R M L w W q u1 u2 ds xs) (hb : Below W.heap.size W W') : MS Q0 n0 B R M L w W' q u1 u2 ds xs :=
  h.dnStep k (Dn.of_below hb) (h.rd.below (hb.mono (by have := h.rd.lt; omega)))
theorem MS.start (k : MP Q0 B R M n0 w) (hm : Blk2 W M 68 (.slice none 0 0) (.slice none 0 0)) (hr : Blk2 W R 68 (.slice none 0 0) (.slice none 0 0)) (rd : Rd n0 B q W) (dn : Dn B w W) : MS Q0 n0 B R M L w W q (.slice none 0 0) (.slice none 0 0) [] [] :=
  ⟨hm, hr, own_nil _ _ _, ⟨rfl, .inl ⟨rfl, rfl⟩⟩, (fun g e => by cases e), (fun g e => by cases e), (fun x hx => by cases hx), rd, dn⟩
/-- One more domain (ahead of all constraints). -/
theorem MS.pushD {V2 V4 : World} {z : Int} {ua' : Option Addr} {m' cap' : Nat} (k : MP Q0 B R M n0 w) (h : MS Q0 n0 B R M L w W q u1 (.slice none 0 0) ds [])
    (hd : Dn B W V2) (hr : Rd n0 B q' V2) (hown : V4.ownsRow w.heap.size 3 1 (.slice ua' m' cap') m' (ds.map (Value.int .i64) ++ [.int .i64 z])) (hm : m' = ds.length + 1) (hg : (V2.alloc (.cells #[.int .i64 z] 3)).grownBy V4 u1.ownBlock)
    (hat : (Value.slice ua' m' cap').ownBlock = u1.ownBlock ∨ ∀ g, (Value.slice ua' m' cap').ownBlock = some g → V2.heap.size ≤ g) :
    MS Q0 n0 B R M L w (V4.setCell ⟨M, 0, none⟩ (.slice ua' m' cap')) q' (.slice ua' m' cap') (.slice none 0 0) (ds ++ [z]) [] := by
  have h2 := h.dnStep k hd hr
  have hge : ∀ g, u1.ownBlock = some g → w.heap.size ≤ g := fun g e => (h2.o1.lt g e).1
  have hlow : Below w.heap.size V2 V4 := ((Below.refl w.heap.size V2).alloc h2.dn.size _).grown hg (by simp; have := h2.dn.size; omega) hge
  have hkeep : ∀ b, b < V2.heap.size → u1.ownBlock ≠ some b → V4.heap[b]? = V2.heap[b]? := fun b hb hn => (hg.block b (by simp; omega) (fun e => hn e.symm)).trans (Below.heap_alloc _ _ _ hb)
  have hM4 : Blk2 V4 M 68 u1 (.slice none 0 0) := (hkeep M h2.bm.lt (fun e => (h2.n1 M e).1 rfl)).trans h2.bm
  have hR4 : Blk2 V4 R 68 (.slice none 0 0) (.slice none 0 0) := (hkeep R h2.br.lt (fun e => (h2.n1 R e).2.1 rfl)).trans h2.br
  subst hm
  have hn1 : ∀ g, (Value.slice ua' (ds.length + 1) cap').ownBlock = some g → g ≠ M ∧ g ≠ R ∧ (Value.slice none 0 0).ownBlock ≠ some g := fun g e => by
    rcases hat with hat | hat
    · exact h2.n1 g (hat ▸ e)
    · have h1 := hat g e
      exact ⟨by have := h2.bm.lt; omega, by have := h2.br.lt; omega, (fun e => by cases e)⟩
  refine ⟨hM4.set 0 _, hR4.other (by show M ≠ R; exact fun e => k.hne e.symm) _, ?_, ⟨rfl, .inl ⟨rfl, rfl⟩⟩, hn1, (fun g e => by cases e), (fun x hx => by cases hx), ?_, ?_⟩
  · rw [List.length_append, List.map_append]
    exact own_keepB hown (fun b hb => Below.heap_setCell _ _ _ _ (by show b ≠ M; exact (hn1 b hb).1))
  · exact (h2.rd.below (hlow.mono (by have := k.hB; omega))).below ((Below.refl (B + 1) V4).setCell (by show _ ≤ M; have := k.hM; have := k.hB; omega) _)
  · exact dn_setC k.hM (h2.dn.lowB hlow (Nat.le_refl _)) _ _
/-- One more constraint. -/
theorem MS.pushC {V2 V4 : World} {x : CE} {ua' : Option Addr} {m' cap' : Nat} (k : MP Q0 B R M n0 w) (h : MS Q0 n0 B R M L w W q u1 u2 ds xs)
    (hd : Dn B W V2) (hr : Rd n0 B q' V2) (hx : x.ok (qm Q0 R M u1 u2) V2 L) (hown : V4.ownsRow w.heap.size 53 5 (.slice ua' m' cap') m' (cellsE xs ++ cellsE [x])) (hm : m' = xs.length + 1) (hg : (V2.alloc (.cells #[.int .i64 x.c.kind, x.v, x.a, .int .i64 x.c.bound, x.r] 53)).grownBy V4 u2.ownBlock)
    (hat : (Value.slice ua' m' cap').ownBlock = u2.ownBlock ∨ ∀ g, (Value.slice ua' m' cap').ownBlock = some g → V2.heap.size ≤ g) :
    MS Q0 n0 B R M L w (V4.setCell ⟨M, 1, none⟩ (.slice ua' m' cap')) q' u1 (.slice ua' m' cap') ds (xs ++ [x]) := by
  have h2 := h.dnStep k hd hr
  have hge : ∀ g, u2.ownBlock = some g → w.heap.size ≤ g := fun g e => (h2.o2.lt g e).1
  have hlow : Below w.heap.size V2 V4 := ((Below.refl w.heap.size V2).alloc h2.dn.size _).grown hg (by simp; have := h2.dn.size; omega) hge
  have hkeep : ∀ b, b < V2.heap.size → u2.ownBlock ≠ some b → V4.heap[b]? = V2.heap[b]? := fun b hb hn => (hg.block b (by simp; omega) (fun e => hn e.symm)).trans (Below.heap_alloc _ _ _ hb)
  have hM4 : Blk2 V4 M 68 u1 u2 := (hkeep M h2.bm.lt (fun e => (h2.n2 M e).1 rfl)).trans h2.bm
  have hR4 : Blk2 V4 R 68 (.slice none 0 0) (.slice none 0 0) := (hkeep R h2.br.lt (fun e => (h2.n2 R e).2 rfl)).trans h2.br
  subst hm
  have hn2 : ∀ g, (Value.slice ua' (xs.length + 1) cap').ownBlock = some g → g ≠ M ∧ g ≠ R ∧ u1.ownBlock ≠ some g := fun g e => by
    rcases hat with hat | hat
    · exact ⟨(h2.n2 g (hat ▸ e)).1, (h2.n2 g (hat ▸ e)).2, fun e1 => (h2.n1 g e1).2.2 (hat ▸ e)⟩
    · have h1 := hat g e
      exact ⟨by have := h2.bm.lt; omega, by have := h2.br.lt; omega, fun e1 => by have := (h2.o1.lt g e1).2; omega⟩
  have hinc : Inc (av (qm Q0 R M u1 u2) V2) (av (qm Q0 R M u1 (.slice ua' (xs.length + 1) cap')) (V4.setCell ⟨M, 1, none⟩ (.slice ua' (xs.length + 1) cap'))) := fun p y hp => by
    obtain ⟨e, h1⟩ := av_at _ _ hp
    obtain ⟨e1, e2, e3, e4, e5⟩ := qm_parts e
    have hl := World.block_lt_of_cell? _ _ h1
    refine av_mk _ _ (qm_no e1 e2 e3 e4 (fun e6 => ?_)) ?_
    · rcases hat with hat | hat
      · exact e5 (hat ▸ e6)
      · have := hat _ e6
        omega
    · rw [wo_cell_same (Below.heap_setCell _ _ _ _ (by exact e3)), wo_cell_same (hkeep _ hl e5)]
      exact h1
  refine ⟨hM4.set 1 _, hR4.other (by show M ≠ R; exact fun e => k.hne e.symm) _, ?_, ?_, fun g e => ⟨(h2.n1 g e).1, (h2.n1 g e).2.1, fun e2 => (hn2 g e2).2.2 e⟩, fun g e => ⟨(hn2 g e).1, (hn2 g e).2.1⟩, ?_, ?_, ?_⟩
  · exact own_keepB (own_keepB h2.o1 (fun b hb => hkeep b (h2.o1.lt b hb).2 (fun e => (h2.n1 b hb).2.2 e))) (fun b hb => Below.heap_setCell _ _ _ _ (by show b ≠ M; exact (h2.n1 b hb).1))
  · rw [List.length_append, cellsE_append]
    exact own_keepB hown (fun b hb => Below.heap_setCell _ _ _ _ (by show b ≠ M; exact (hn2 b hb).1))
  · intro y hy
    rcases List.mem_append.1 hy with hy | hy
    · exact (h2.ok y hy).inc hinc
    · simp at hy
      subst hy
      exact hx.inc hinc
  · exact (h2.rd.below (hlow.mono (by have := k.hB; omega))).below ((Below.refl (B + 1) V4).setCell (by show _ ≤ M; have := k.hM; have := k.hB; omega) _)
  · exact dn_setC k.hM (h2.dn.lowB hlow (Nat.le_refl _)) _ _
/-- A domain is stored. -/
theorem MS.setD {g1 n1 c1 i : Nat} {z : Int} (k : MP Q0 B R M n0 w) (h : MS Q0 n0 B R M L w W q (.slice (some ⟨g1, 0, none⟩) n1 c1) u2 ds xs) (hi : i < ds.length) :
    MS Q0 n0 B R M L w (W.setCell ⟨g1, i, none⟩ (.int .i64 z)) q (.slice (some ⟨g1, 0, none⟩) n1 c1) u2 (ds.set i z) xs := by
  obtain ⟨e1, e2, e3⟩ := h.n1 g1 rfl
  have hg := (h.o1.lt g1 rfl).1
  have fr : Fr (qm Q0 R M (.slice (some ⟨g1, 0, none⟩) n1 c1) u2) W (W.setCell ⟨g1, i, none⟩ (.int .i64 z)) := (Fr.refl _ W).setCell (p := ⟨g1, i, none⟩) (by simp [qm, Value.ownBlock]) _
  obtain rfl : n1 = ds.length := by
    obtain ⟨a, c, e, -, -⟩ := own_form h.o1
    simp at e
    exact e.2.1
  refine ⟨h.bm.other (by exact e1) _, h.br.other (by exact e2) _, ?_, own_keepB h.o2 (fun b hb => Below.heap_setCell _ _ _ _ (by show b ≠ g1; rintro rfl; exact e3 hb)), h.n1, h.n2, fun x hx => (h.ok x hx).inc fr.inc, ?_, dn_setC hg h.dn _ _⟩
  · have := (h.o1.stored i (.int .i64 z)).1
    rw [List.length_set, List.map_set]
    exact this
  · exact h.rd.below ((Below.refl (B + 1) W).setCell (by show _ ≤ g1; have := k.hB; omega) _)
/-- A constraint is stored. -/
def putE (W : World) (g i : Nat) (x : CE) : World := ((((W.setCell ⟨g, i * 5, none⟩ (.int .i64 x.c.kind)).setCell ⟨g, i * 5 + 1, none⟩ x.v).setCell ⟨g, i * 5 + 2, none⟩ x.a).setCell ⟨g, i * 5 + 3, none⟩ (.int .i64 x.c.bound)).setCell ⟨g, i * 5 + 4, none⟩ x.r
theorem MS.setC {g2 n2 c2 i : Nat} {x : CE} (k : MP Q0 B R M n0 w) (h : MS Q0 n0 B R M L w W q u1 (.slice (some ⟨g2, 0, none⟩) n2 c2) ds xs) (hi : i < xs.length) (hx : x.ok (qm Q0 R M u1 (.slice (some ⟨g2, 0, none⟩) n2 c2)) W L) :
    MS Q0 n0 B R M L w (putE W g2 i x) q u1 (.slice (some ⟨g2, 0, none⟩) n2 c2) ds (xs.set i x) := by
  obtain ⟨e1, e2⟩ := h.n2 g2 rfl
  have hg := (h.o2.lt g2 rfl).1
  have hq : qm Q0 R M u1 (.slice (some ⟨g2, 0, none⟩) n2 c2) g2 = true := by simp [qm, Value.ownBlock]
  have fr : Fr (qm Q0 R M u1 (.slice (some ⟨g2, 0, none⟩) n2 c2)) W (putE W g2 i x) := by
    unfold putE
    exact (((((Fr.refl _ W).setCell (by exact hq) _).setCell (by exact hq) _).setCell (by exact hq) _).setCell (by exact hq) _).setCell (by exact hq) _
  obtain rfl : n2 = xs.length := by
    obtain ⟨a, c, e, -, -⟩ := own_form h.o2
    simp at e
    exact e.2.1
  have hkeep : ∀ b, b ≠ g2 → (putE W g2 i x).heap[b]? = W.heap[b]? := fun b hb => by
    unfold putE
    rw [Below.heap_setCell _ _ _ _ (by exact hb), Below.heap_setCell _ _ _ _ (by exact hb), Below.heap_setCell _ _ _ _ (by exact hb), Below.heap_setCell _ _ _ _ (by exact hb), Below.heap_setCell _ _ _ _ (by exact hb)]
  refine ⟨(hkeep M (fun e => e1 e.symm)).trans h.bm, (hkeep R (fun e => e2 e.symm)).trans h.br, own_keepB h.o1 (fun b hb => hkeep b (by rintro rfl; exact (h.n1 _ hb).2.2 rfl)), ?_, h.n1, h.n2, ?_, ?_, ?_⟩
  · have h1 := (h.o2.stored (i * 5) (.int .i64 x.c.kind)).1
    have h2 := (h1.stored (i * 5 + 1) x.v).1
    have h3 := (h2.stored (i * 5 + 2) x.a).1
    have h4 := (h3.stored (i * 5 + 3) (.int .i64 x.c.bound)).1
    have h5 := (h4.stored (i * 5 + 4) x.r).1
    rw [cellsE_set xs i x hi] at h5
    rw [List.length_set]
    exact h5
  · intro y hy
    rcases List.mem_or_eq_of_mem_set hy with hy | rfl
    · exact (h.ok y hy).inc fr.inc
    · exact hx.inc fr.inc
  · have hb : B + 1 ≤ g2 := by have := k.hB; omega
    unfold putE
    exact h.rd.below ((((((Below.refl (B + 1) W).setCell (by exact hb) _).setCell (by exact hb) _).setCell (by exact hb) _).setCell (by exact hb) _).setCell (by exact hb) _)
  · unfold putE
    exact dn_setC hg (dn_setC hg (dn_setC hg (dn_setC hg (dn_setC hg h.dn _ _) _ _) _ _) _ _) _ _
theorem MS.mono (h : MS Q0 n0 B R M L w W q u1 u2 ds xs) {L' : Nat} (hl : L ≤ L') : MS Q0 n0 B R M L' w W q u1 u2 ds xs :=
  ⟨h.bm, h.br, h.o1, h.o2, h.n1, h.n2, fun x hx => ⟨(h.ok x hx).1, (h.ok x hx).2.1, (h.ok x hx).2.2.1, (h.ok x hx).2.2.2.1, (h.ok x hx).2.2.2.2.1, (h.ok x hx).2.2.2.2.2.mono' hl⟩, h.rd, h.dn⟩
end

/-- A model that was drawn. -/
def ModDn (Q0 : Nat → Bool) (n0 B : Nat) (p s : Int) (L : Nat) (w : World) (e : Ending) (w' : World) : Prop :=
  ∃ (u1 u2 : Value) (ds : List Int) (xs : List CE) (q : Int), e = .returned (.agg #[u1, u2]) ∧ w'.ownsRow w.heap.size 3 1 u1 ds.length (ds.map (Value.int .i64)) ∧ w'.ownsRow w.heap.size 53 5 u2 xs.length (cellsE xs) ∧
    (∀ g, u1.ownBlock = some g → u2.ownBlock ≠ some g) ∧ (∀ x ∈ xs, x.ok (fun b => Q0 b || decide (u1.ownBlock = some b) || decide (u2.ownBlock = some b)) w' L) ∧ 1 ≤ ds.length ∧ ds.length ≤ 4 ∧ xs.length ≤ 6 ∧ p ≤ q ∧ q ≤ p + s ∧ Rd n0 B q w' ∧ Dn B w w'
def putM (W : World) (R : Nat) (u1 u2 : Value) : World := (W.setCell ⟨R, 0, none⟩ u1).setCell ⟨R, 1, none⟩ u2
theorem putM_blk {W : World} {R : Nat} {t : TypeId} {z0 z1 : Value} (h : Blk2 W R t z0 z1) (u1 u2 : Value) : Blk2 (putM W R u1 u2) R t u1 u2 := by
  have h0 : Blk2 _ R t u1 z1 := h.set 0 u1
  exact h0.set 1 u2
theorem modDn_fin {Q0 : Nat → Bool} {n0 B R M L : Nat} {w W : World} {p q s : Int} {u1 u2 : Value} {ds : List Int} {xs : List CE} (k : MP Q0 B R M n0 w) (h : MS Q0 n0 B R M L w W q u1 u2 ds xs) (h1 : 1 ≤ ds.length) (h4 : ds.length ≤ 4) (h6 : xs.length ≤ 6) (hp : p ≤ q) (hq : q ≤ p + s) :
    ModDn Q0 n0 B p s L w (.returned (.agg #[u1, u2])) (putM W R u1 u2) := by
  have hqR : qm Q0 R M u1 u2 R = true := by simp [qm]
  have fr : Fr (qm Q0 R M u1 u2) W (putM W R u1 u2) := ((Fr.refl _ W).setCell (p := ⟨R, 0, none⟩) hqR _).setCell (p := ⟨R, 1, none⟩) hqR _
  have i1 : Inc (av (qm Q0 R M u1 u2) W) (av (fun b => Q0 b || decide (u1.ownBlock = some b) || decide (u2.ownBlock = some b)) (putM W R u1 u2)) := fun p x hx => by
    have h1 := fr.inc _ _ hx
    obtain ⟨e1, h2⟩ := av_at _ _ h1
    obtain ⟨a1, a2, a3, a4, a5⟩ := qm_parts e1
    exact av_mk _ _ (by simp [a1, a4, a5]) h2
  have hkeep : ∀ b, b ≠ R → (putM W R u1 u2).heap[b]? = W.heap[b]? := fun b hb => by
    unfold putM
    rw [Below.heap_setCell _ _ _ _ (by exact hb), Below.heap_setCell _ _ _ _ (by exact hb)]
  have hBR : B + 1 ≤ R := by have := k.hB; have := k.hR; omega
  refine ⟨u1, u2, ds, xs, q, rfl, own_keepB h.o1 (fun b hb => hkeep b (h.n1 b hb).2.1), own_keepB h.o2 (fun b hb => hkeep b (h.n2 b hb).2), fun g e => (h.n1 g e).2.2, fun x hx => (h.ok x hx).inc i1, h1, h4, h6, hp, hq, ?_, ?_⟩
  · unfold putM
    exact h.rd.below (((Below.refl (B + 1) W).setCell (by exact hBR) _).setCell (by exact hBR) _)
  · unfold putM
    exact dn_setC k.hR (dn_setC k.hR h.dn _ _) _ _
/-- What was drawn reads as a model, whatever of the shut blocks is left out. -/
theorem ownE_rd {W : World} {Q : Nat → Bool} {base : Nat} {u2 : Value} {xs : List CE} {L : Nat} (h : W.ownsRow base 53 5 u2 xs.length (cellsE xs)) (hk : ∀ x ∈ xs, x.ok Q W L) : RdCons W u2 (xs.map CE.c) := by
  rcases h.2 with ⟨rfl, h0⟩ | ⟨g, cap, cur, rfl, hb, hg, hc, hm, _⟩
  · rw [List.eq_nil_of_length_eq_zero h0]
    exact ⟨none, 0, rfl, Nat.le_refl _, by decide, .inl rfl⟩
  · refine ⟨some ⟨g, 0, none⟩, cap, by rw [List.length_map], by rw [List.length_map]; exact hc, hm, .inr ⟨g, 0, rfl, fun i c hi => ?_⟩⟩
    rw [List.getElem?_map] at hi
    obtain ⟨x, hx, rfl⟩ := Option.map_eq_some_iff.1 hi
    obtain ⟨t0, t1, t2, t3, t4⟩ := cellsE_at xs i x hx
    have hk0 := hk x (List.mem_of_getElem? hx)
    have kk : ∀ q u, (cellsE xs)[q]? = some u → W.cell? ⟨g, q, none⟩ = some u := fun q u hu => by
      have := h.cells (g := g) rfl q u hu
      rw [addr_add, Nat.zero_add] at this
      exact this
    have hi := av_inc Q W
    refine ⟨x.v, x.a, x.r, ?_, ?_, ?_, ?_, ?_, hk0.1.inc hi, hk0.2.1.inc hi, hk0.2.2.1.inc hi⟩
    · rw [show 0 + 5 * i = i * 5 from by omega]; exact kk _ _ t0
    · rw [show 0 + 5 * i + 1 = i * 5 + 1 from by omega]; exact kk _ _ t1
    · rw [show 0 + 5 * i + 2 = i * 5 + 2 from by omega]; exact kk _ _ t2
    · rw [show 0 + 5 * i + 3 = i * 5 + 3 from by omega]; exact kk _ _ t3
    · rw [show 0 + 5 * i + 4 = i * 5 + 4 from by omega]; exact kk _ _ t4
theorem consLe_of {Q : Nat → Bool} {W : World} {xs : List CE} {L : Nat} (hk : ∀ x ∈ xs, x.ok Q W L) (hl : xs.length ≤ L) : ConsLe (xs.map CE.c) L := by
  refine ⟨by rw [List.length_map]; exact hl, fun j c hj => ?_⟩
  rw [List.getElem?_map] at hj
  obtain ⟨x, hx, rfl⟩ := Option.map_eq_some_iff.1 hj
  exact (hk x (List.mem_of_getElem? hx)).2.2.2.2.2
end Go.Proofs.Ytjdbfiiaadphhaa

/-! The draw of a model: single operations on models. -/
namespace Go.Proofs.Ytjdbfiiaadphhaa
open Go.ChangeShapes Go.WideShapes Go.ChangeAt Go.RowKit Go.Shelf
set_option linter.unusedVariables false
set_option linter.unusedSimpArgs false

theorem Try.infoC : (Try.prog.info? 53).map (fun i => (i.zero, i.size, i.bytes)) = some (some (.agg #[.int .i64 0, .slice none 0 0, .slice none 0 0, .int .i64 0, .slice none 0 0]), 5, 88) := by kernel_rfl
section
set_option maxRecDepth 100000
theorem m_field0 {w : World} {ev : Operand → Value} {o : Oper} {x : Operand} {b : Nat} (ho : o.op = .fieldAddr 68 x 0) (hx : ev x = .pointer (some ⟨b, 0, none⟩)) : (execOp ev o).run Try.prog w = .ok (.value (.pointer (some ⟨b, 0, none⟩))) w := by
  unfold execOp
  simp only [ho, hx]
  go_simp
theorem m_field1 {w : World} {ev : Operand → Value} {o : Oper} {x : Operand} {b : Nat} (ho : o.op = .fieldAddr 68 x 1) (hx : ev x = .pointer (some ⟨b, 0, none⟩)) : (execOp ev o).run Try.prog w = .ok (.value (.pointer (some ⟨b, 1, none⟩))) w := by
  unfold execOp
  simp only [ho, hx]
  go_simp
theorem m_loadC (w : World) (g o : Nat) (a : Option Addr) (n c : Nat) (h : w.cell? ⟨g, o, none⟩ = some (.slice a n c)) : (loadVar 66 ⟨g, o, none⟩).run Try.prog w = .ok (.slice a n c) w := by
  go_simp
theorem m_storeC (w : World) (g o : Nat) (a a' : Option Addr) (n c n' c' : Nat) (h : w.cell? ⟨g, o, none⟩ = some (.slice a n c)) (hf : w.frozen? ⟨g, o, none⟩ = false) : (Instr.storeAt 66 (.pointer (some ⟨g, o, none⟩)) (.slice a' n' c')).run Try.prog w = .ok () (w.setCell ⟨g, o, none⟩ (.slice a' n' c')) := by
  go_simp
theorem m_build1 (w : World) (x y : Int) (a1 a2 a4 : Option Addr) (n1 n2 n4 c1 c2 c4 : Nat) : (Instr.buildSlice 66 1 #[(0, .agg #[.int .i64 x, .slice a1 n1 c1, .slice a2 n2 c2, .int .i64 y, .slice a4 n4 c4])]).run Try.prog w = .ok (.slice (some ⟨w.heap.size, 0, none⟩) 1 1) (w.alloc (.cells #[.int .i64 x, .slice a1 n1 c1, .slice a2 n2 c2, .int .i64 y, .slice a4 n4 c4] 53)) := by
  go_simp
theorem m_build3 (w : World) : (Instr.buildSlice 32 3 #[(0, .int .i64 (-1)), (1, .int .i64 64), (2, .int .i64 0)]).run Try.prog w = .ok (.slice (some ⟨w.heap.size, 0, none⟩) 3 3) (w.alloc (.cells #[.int .i64 (-1), .int .i64 64, .int .i64 0] 3)) := by
  go_simp
theorem m_exec3 {P : Program} {w w' : World} {ev : Operand → Value} {o : Oper} {ty : TypeId} {x0 x1 x2 : Operand} {u0 u1 u2 r : Value} (ho : o.op = .buildSlice ty 3 #[(0, x0), (1, x1), (2, x2)]) (h0 : ev x0 = u0) (h1 : ev x1 = u1) (h2 : ev x2 = u2) (hl : (Instr.buildSlice ty 3 #[(0, u0), (1, u1), (2, u2)]).run P w = .ok r w') : (execOp ev o).run P w = .ok (.value r) w' := by
  unfold execOp
  simp only [ho, h0, h1, h2, List.map_toArray, List.map_cons, List.map_nil, Sem.run_bind, Sem.run_pure, Result.andThen_ok, hl]
theorem m_lenI {w : World} {ev : Operand → Value} {o : Oper} {x : Operand} {a : Option Addr} {n c : Nat} (ho : o.op = .call { callee := .builtin .len, args := #[x], argTypes := #[32] }) (hx : ev x = .slice a n c) : (execOp ev o).run Try.prog w = .ok (.value (.int .i64 n)) w := by
  unfold execOp
  simp only [ho, resolve, invoke, builtin, Sem.run_bind, Sem.run_pure, Result.andThen_ok, List.map_toArray, List.map_cons, List.map_nil, hx]
  go_simp
theorem m_indexC (w : World) (b n c j : Nat) (hj : j < n) : (Instr.indexAt 66 (.slice (some ⟨b, 0, none⟩) n c) (.int .i64 j)).run Try.prog w = .ok (.pointer (some ⟨b, j * 5, none⟩)) w := by
  go_simp
theorem m_loadE (w : World) (g o : Nat) (x y : Int) (a1 a2 a4 : Option Addr) (n1 n2 n4 c1 c2 c4 : Nat) (h0 : w.cell? ⟨g, o, none⟩ = some (.int .i64 x)) (h1 : w.cell? ⟨g, o + 1, none⟩ = some (.slice a1 n1 c1)) (h2 : w.cell? ⟨g, o + 2, none⟩ = some (.slice a2 n2 c2)) (h3 : w.cell? ⟨g, o + 3, none⟩ = some (.int .i64 y)) (h4 : w.cell? ⟨g, o + 4, none⟩ = some (.slice a4 n4 c4)) :
    (loadVar 53 ⟨g, o, none⟩).run Try.prog w = .ok (.agg #[.int .i64 x, .slice a1 n1 c1, .slice a2 n2 c2, .int .i64 y, .slice a4 n4 c4]) w := by
  go_simp
theorem m_storeE (w : World) (g o : Nat) (x y z t : Int) (a1 a2 a4 b1 b2 b4 : Option Addr) (n1 n2 n4 c1 c2 c4 m1 m2 m4 d1 d2 d4 : Nat) (h0 : w.cell? ⟨g, o, none⟩ = some (.int .i64 x)) (h1 : w.cell? ⟨g, o + 1, none⟩ = some (.slice a1 n1 c1)) (h2 : w.cell? ⟨g, o + 2, none⟩ = some (.slice a2 n2 c2)) (h3 : w.cell? ⟨g, o + 3, none⟩ = some (.int .i64 y)) (h4 : w.cell? ⟨g, o + 4, none⟩ = some (.slice a4 n4 c4))
    (f0 : w.frozen? ⟨g, o, none⟩ = false) (f1 : w.frozen? ⟨g, o + 1, none⟩ = false) (f2 : w.frozen? ⟨g, o + 2, none⟩ = false) (f3 : w.frozen? ⟨g, o + 3, none⟩ = false) (f4 : w.frozen? ⟨g, o + 4, none⟩ = false) :
    (Instr.storeAt 53 (.pointer (some ⟨g, o, none⟩)) (.agg #[.int .i64 z, .slice b1 m1 d1, .slice b2 m2 d2, .int .i64 t, .slice b4 m4 d4])).run Try.prog w = .ok () (((((w.setCell ⟨g, o, none⟩ (.int .i64 z)).setCell ⟨g, o + 1, none⟩ (.slice b1 m1 d1)).setCell ⟨g, o + 2, none⟩ (.slice b2 m2 d2)).setCell ⟨g, o + 3, none⟩ (.int .i64 t)).setCell ⟨g, o + 4, none⟩ (.slice b4 m4 d4)) := by
  go_simp
end
theorem m_appendI {w : World} {ops : Array Oper} {o : Oper} {a : Act} {K : Act → World → Prop} {Q : Exit → Act → World → Prop} {E : Prop} (hgd : o.guard = none) (s x : Operand)
    (ho : o.op = .call { callee := .builtin .append, args := #[s, x], argTypes := #[32, 32] }) (B : Nat) (v : Value) (xs : List Value) (n g : Nat) (z : Int) (hs : a.eval s = v) (hx : a.eval x = .slice (some ⟨g, 0, none⟩) 1 1) (hv : w.ownsRow B 3 1 v n xs) (hg : w.cell? ⟨g, 0, none⟩ = some (.int .i64 z)) (hB : B ≤ w.heap.size) (hn : n ≤ 1048576)
    (h : ∀ v' w', w'.ownsRow B 3 1 v' (n + 1) (xs ++ [.int .i64 z]) → w.grownBy w' v.ownBlock → (v'.ownBlock = v.ownBlock ∨ ∀ g, v'.ownBlock = some g → w.heap.size ≤ g) → K (a.put o.dst v') w') : if Region.wanted o (yielded ops a.tmps) = true then Oper.wp Try.prog o a w K Q else E := by
  have hw : Region.wanted o (yielded ops a.tmps) = true := by simp [Region.wanted, hgd]
  rw [if_pos hw]
  obtain ⟨i0, hi, hz0, hz1, hz2⟩ := info_parts Try.info3
  obtain ⟨v', w', hr, h3, h4, h5⟩ := run_append_own_at (P := Try.prog) w B 32 o.type 3 i0 (.int .i64 0) 1 8 Try.underlying32 hi hz0 hz1 hz2 rfl (by decide) v n xs hv ⟨g, 0, none⟩ 1 1 [.int .i64 z] rfl (fun j u hu => by
    cases j with
    | zero => simp at hu; subst hu; simpa [Addr.add] using hg
    | succ j => simp at hu) (by simp [Value.oneCell']) (by unfold maxLen; omega) (by omega) hB
  unfold Oper.wp execOp
  simp only [ho, resolve, invoke, builtin, Sem.run_bind, Sem.run_pure, Result.andThen_ok, List.map_toArray, List.map_cons, List.map_nil, hs, hx, hr]
  exact h v' w' h3 h4 h5
/-- The five cells of a constraint that was just made. -/
theorem cells_one5 (w : World) (t : TypeId) (u0 u1 u2 u3 u4 : Value) (j : Nat) (u : Value) (h : [u0, u1, u2, u3, u4][j]? = some u) : (w.alloc (.cells #[u0, u1, u2, u3, u4] t)).cell? ((⟨w.heap.size, 0, none⟩ : Addr).add j) = some u := by
  rw [addr_add, Nat.zero_add]
  obtain ⟨c0, c1, c2, c3, c4⟩ := (Blk5.new w t u0 u1 u2 u3 u4).cell
  have hj := (List.getElem?_eq_some_iff.1 h).1
  simp at hj
  rcases (show j = 0 ∨ j = 1 ∨ j = 2 ∨ j = 3 ∨ j = 4 by omega) with rfl | rfl | rfl | rfl | rfl <;> simp at h <;> subst h <;> assumption
theorem m_appendC {w : World} {ops : Array Oper} {o : Oper} {a : Act} {K : Act → World → Prop} {Q : Exit → Act → World → Prop} {E : Prop} (hgd : o.guard = none) (s x : Operand)
    (ho : o.op = .call { callee := .builtin .append, args := #[s, x], argTypes := #[66, 66] }) (B : Nat) (v : Value) (xs : List Value) (n g : Nat) (z t : Int) (a1 a2 a4 : Option Addr) (n1 n2 n4 c1 c2 c4 : Nat) (hs : a.eval s = v) (hx : a.eval x = .slice (some ⟨g, 0, none⟩) 1 1) (hv : w.ownsRow B 53 5 v n xs)
    (hg : ∀ j u, [Value.int .i64 z, .slice a1 n1 c1, .slice a2 n2 c2, .int .i64 t, .slice a4 n4 c4][j]? = some u → w.cell? ((⟨g, 0, none⟩ : Addr).add j) = some u) (hB : B ≤ w.heap.size) (hn : n ≤ 1048576)
    (h : ∀ v' w', w'.ownsRow B 53 5 v' (n + 1) (xs ++ [.int .i64 z, .slice a1 n1 c1, .slice a2 n2 c2, .int .i64 t, .slice a4 n4 c4]) → w.grownBy w' v.ownBlock → (v'.ownBlock = v.ownBlock ∨ ∀ g, v'.ownBlock = some g → w.heap.size ≤ g) → K (a.put o.dst v') w') : if Region.wanted o (yielded ops a.tmps) = true then Oper.wp Try.prog o a w K Q else E := by
  have hw : Region.wanted o (yielded ops a.tmps) = true := by simp [Region.wanted, hgd]
  rw [if_pos hw]
  obtain ⟨i0, hi, hz0, hz1, hz2⟩ := info_parts Try.infoC
  obtain ⟨v', w', hr, h3, h4, h5⟩ := run_append_own_at (P := Try.prog) w B 66 o.type 53 i0 _ 5 88 Try.underlying66 hi hz0 hz1 hz2 rfl (by decide) v n xs hv ⟨g, 0, none⟩ 1 1 _ rfl hg (by simp [Value.oneCell']) (by unfold maxLen; omega) (by omega) hB
  unfold Oper.wp execOp
  simp only [ho, resolve, invoke, builtin, Sem.run_bind, Sem.run_pure, Result.andThen_ok, List.map_toArray, List.map_cons, List.map_nil, hs, hx, hr]
  exact h v' w' h3 h4 h5
theorem frozen_dnM {B C : Nat} {w w' : World} (h : Dn B w w') (hC : C < w.heap.size) (hB : C ≠ B) (j : Nat) : w'.frozen? ⟨C, j, none⟩ = w.frozen? ⟨C, j, none⟩ := by
  unfold World.frozen?
  rw [h.block C hC hB]
end Go.Proofs.Ytjdbfiiaadphhaa

/-! The draw of a valid model. -/
namespace Go.Proofs.Ytjdbfiiaadphhaa
open Go.ChangeShapes Go.WideShapes Go.ChangeAt Go.RowKit Go.Shelf
set_option linter.unusedVariables false
set_option linter.unusedSimpArgs false

def rmAct (z0 z1 z2 z3 z4 z5 z6 z7 z8 z9 z10 z11 z12 z13 z14 z15 z16 z17 z18 z19 z20 z21 z22 z23 z24 z25 z26 z27 z28 z29 z30 z31 z32 z33 z34 z35 z36 z37 : Value) : Act := { tmps := #[z0, z1, z2, z3, z4, z5, z6, z7, z8, z9, z10, z11, z12, z13, z14, z15, z16, z17, z18, z19, z20, z21, z22, z23, z24, z25, z26, z27, z28, z29, z30, z31, z32, z33, z34, z35, z36, z37], defers := [] }
set_option maxRecDepth 100000 in
set_option maxHeartbeats 64000000 in
theorem randomModel_any (Q0 : Nat → Bool) (n0 B : Nat) (p : Int) (w : World) (hR : Rd n0 B p w) (hp : 0 ≤ p) (hp2 : p ≤ 100000) (hQB : Q0 B = true) (hQ0 : ∀ b, w.heap.size ≤ b → Q0 b = false) :
    Calls Try.prog 66 #[.pointer (some ⟨B, 0, none⟩)] w (ModDn Q0 n0 B p 500 20 w) := by
  have hlt := hR.lt
  obtain ⟨R, hRe⟩ : ∃ R, R = w.heap.size := ⟨_, rfl⟩
  obtain ⟨M, hMe⟩ : ∃ M, M = w.heap.size + 1 := ⟨_, rfl⟩
  obtain ⟨W2, hW2⟩ : ∃ W2, (w.alloc (.cells #[.slice none 0 0, .slice none 0 0] 68)).alloc (.cells #[.slice none 0 0, .slice none 0 0] 68) = W2 := ⟨_, rfl⟩
  have b2 : Below w.heap.size w W2 := by rw [← hW2]; exact ((Below.refl _ _).alloc (Nat.le_refl _) _).alloc (by simp) _
  have hk : MP Q0 B R M n0 w := ⟨hlt, by omega, by omega, by omega, hR.1, hQB, hQ0⟩
  have hms : MS Q0 n0 B R M 20 w W2 p (.slice none 0 0) (.slice none 0 0) [] [] := MS.start hk
    (by rw [← hW2, hMe]; have := Blk2.new (w.alloc (.cells #[.slice none 0 0, .slice none 0 0] 68)) 68 (.slice none 0 0) (.slice none 0 0); rw [World.size_alloc] at this; exact this)
    (by rw [← hW2, hRe]; exact (Blk2.new w 68 (.slice none 0 0) (.slice none 0 0)).alloc _) (hR.below (b2.mono (by omega))) (Dn.of_below b2)
  have HK := Lib.hid hk
  have HMS := Lib.hid hms
  have HW2 := Lib.hid hW2
  have HRE := Lib.hid hRe
  have HME := Lib.hid hMe
  clear hR hQB hQ0 hlt hRe hMe hW2 b2 hk hms
  go_enter Try.func66, Try.ntmps66
  go_wp2_with fail
  rw [HW2.out, ← HME.out, ← HRE.out]
  clear HW2
  refine (pick_dn n0 B p 4 W2 HMS.out.rd (by omega) (by omega) (by omega)).mono ?_
  rintro e w3 ⟨x, rfl, hx0, hx1, r3, d3⟩
  obtain ⟨k0, rfl⟩ := Int.eq_ofNat_of_zero_le hx0
  have hk4 : k0 ≤ 3 := by omega
  have HMS3 := Lib.hid (HMS.out.dnStep HK.out d3 r3)
  have hk1 : (1 : Int) + (k0 : Int) = ((k0 + 1 : Nat) : Int) := by omega
  have HK1 := Lib.hid hk1
  clear r3 d3 hx0 hx1 HMS hk1
  go_wp2_with fail
  rw [HK1.out]
  obtain ⟨n, hn⟩ : ∃ n, n = k0 + 1 := ⟨_, rfl⟩
  rw [← hn]
  have hn1 : 1 ≤ n := by omega
  have hn4 : n ≤ 4 := by omega
  clear HK1 hn hk4
  go_loopw [4] (fun i wr => ∃ (j m : Nat) (ua : Option Addr) (cap : Nat) (ds : List Int) (q : Int), i = .int .i64 j ∧ m + j = n ∧ p ≤ q ∧ q ≤ p + 1 + 3 * m ∧ Hid (ds.length = m) ∧ Hid (MS Q0 n0 B R M 20 w wr q (.slice ua m cap) (.slice none 0 0) ds [])) (fun i _ => (intOf i).toNat)
  case atStart => exact ⟨n, 0, none, 0, [], p + 1, rfl, by omega, by omega, by omega, Lib.hid rfl, HMS3⟩
  case round =>
    obtain ⟨j, m, ua, cap, ds, q, rfl, hmj, hq, hq2, HDL, HL⟩ := hrel
    by_cases hj : 0 < j
    · have hS : wr.drew.cell? ⟨M, 0, none⟩ = some (.slice ua m cap) := HL.out.bm.cell.1
      have HS := Lib.hid hS
      clear hS
      go_wp2_with fail
      have hS := HS.out
      refine region_x (fun w' => w'.cell? ⟨M, 0, none⟩ = some (.slice ua m cap)) (fun i => i == 7) rfl ?_
      change wpAnyX Try.prog .any _ _ _ _ 8 _ (rmAct _ _ _ _ _ _ _ _ _ _ _ _ _ _ _ _ _ _ _ _ _ _ _ _ _ _ _ _ _ _ _ _ _ _ _ _ _ _) wr.drew
      refine wpAnyX_take (i := 0) (v := .pointer (some ⟨M, 0, none⟩)) rfl (by kernel_rfl) (by kernel_rfl) (by kernel_rfl) (by kernel_rfl) (fun _ _ _ h => h) (.inl ⟨rfl, fun w' hw' => m_field0 rfl rfl⟩) hS ?_
      change wpAnyX Try.prog .any _ _ _ _ 7 _ (rmAct _ _ _ _ _ _ _ _ _ _ _ _ _ _ (.pointer (some ⟨M, 0, none⟩)) _ _ _ _ _ _ _ _ _ _ _ _ _ _ _ _ _ _ _ _ _ _ _) wr.drew
      refine wpAnyX_take (i := 1) (v := .slice ua m cap) rfl (by kernel_rfl) (by kernel_rfl) (by kernel_rfl) (by kernel_rfl) (fun _ _ _ h => h) (.inl ⟨rfl, fun w' hw' => exec_load rfl rfl (k_loadI w' _ _ _ _ _ hw')⟩) hS ?_
      change wpAnyX Try.prog .any _ _ _ _ 6 _ (rmAct _ _ _ _ _ _ _ _ _ _ _ _ _ _ (.pointer (some ⟨M, 0, none⟩)) (.slice ua m cap) _ _ _ _ _ _ _ _ _ _ _ _ _ _ _ _ _ _ _ _ _ _) wr.drew
      refine wpAnyX_take (i := 2) (v := .pointer (some ⟨B, 0, none⟩)) rfl (by kernel_rfl) (by kernel_rfl) (by kernel_rfl) (by kernel_rfl) (fun _ _ _ h => h) (.inl ⟨rfl, fun w' hw' => rfl⟩) hS ?_
      change wpAnyX Try.prog .any _ _ _ _ 5 _ (rmAct _ _ _ _ _ _ _ _ _ _ _ _ _ _ (.pointer (some ⟨M, 0, none⟩)) (.slice ua m cap) (.pointer (some ⟨B, 0, none⟩)) _ _ _ _ _ _ _ _ _ _ _ _ _ _ _ _ _ _ _ _ _) wr.drew
      refine wpAnyX_one (i := 3) (by kernel_rfl) rfl (fun K' hK' => ?_)
      refine step_call1 _ rfl 127 _ _ _ rfl rfl (enters_of Try.func127 (by kernel_rfl) rfl) _ (randomDomain_dn n0 B q wr.drew (HL.out.rd.drewN 1) (by omega) (by omega)) (fun c w' h => by obtain ⟨_, _, h, _⟩ := h; cases h) (fun w' h => by obtain ⟨_, _, h, _⟩ := h; cases h) ?_
      rintro vz w5 ⟨z, q5, ev, hq5, hq5', r5, d5⟩
      obtain rfl : vz = .int .i64 z := by injection ev
      have hd5 : Dn B wr w5 := (Dn.of_below (Below.refl _ wr).drew).trans d5
      have hL5 := HL.out.dnStep HK.out hd5 r5
      have hS5 : w5.cell? ⟨M, 0, none⟩ = some (.slice ua m cap) := hL5.bm.cell.1
      refine hK'.out _ _ (fun _ => hS5) ?_
      clear hK' K'
      change wpAnyX Try.prog .any _ _ _ _ 4 _ (rmAct _ _ _ _ _ _ _ _ _ _ _ _ _ _ (.pointer (some ⟨M, 0, none⟩)) (.slice ua m cap) (.pointer (some ⟨B, 0, none⟩)) (.int .i64 z) _ _ _ _ _ _ _ _ _ _ _ _ _ _ _ _ _ _ _ _) w5
      refine wpAnyX_one (i := 4) (by kernel_rfl) rfl (fun K' hK' => ?_)
      refine step_value _ (w5.alloc (.cells #[.int .i64 z] 3)) rfl _ (k_exec1 rfl rfl (k_build1 w5 _)) ?_
      have hL3 := hL5.below HK.out ((Below.refl w5.heap.size w5).alloc (Nat.le_refl _) (.cells #[.int .i64 z] 3))
      have hS3 := hL3.bm.cell.1
      refine hK'.out _ _ (fun _ => hS3) ?_
      clear hK' K'
      change wpAnyX Try.prog .any _ _ _ _ 3 _ (rmAct _ _ _ _ _ _ _ _ _ _ _ _ _ _ (.pointer (some ⟨M, 0, none⟩)) (.slice ua m cap) (.pointer (some ⟨B, 0, none⟩)) (.int .i64 z) (.slice (some ⟨w5.heap.size, 0, none⟩) 1 1) _ _ _ _ _ _ _ _ _ _ _ _ _ _ _ _ _ _ _) (w5.alloc (.cells #[.int .i64 z] 3))
      refine wpAnyX_one (i := 5) (by kernel_rfl) rfl (fun K' hK' => ?_)
      refine m_appendI rfl _ _ rfl w.heap.size (.slice ua m cap) (ds.map (Value.int .i64)) ds.length w5.heap.size z rfl rfl hL3.o1 (cell_one_new _ _ _ 0 _ rfl) (by have := hL3.dn.size; exact this) (by have := HDL.out; omega) ?_
      intro v6 w6 own6 grow6 at6
      obtain ⟨ua', cap', ev6, hc6, hc6'⟩ := own_form own6
      obtain ⟨m', hm'⟩ : ∃ m', m' = ds.length + 1 := ⟨_, rfl⟩
      rw [← hm'] at own6 ev6
      subst ev6
      have hS6 : w6.cell? ⟨M, 0, none⟩ = some (.slice ua m cap) := (World.cell?_of_block (grow6.block M hL3.bm.lt (fun e => (hL3.n1 M e.symm).1 rfl))).trans hS3
      have hF6 : w6.frozen? ⟨M, 0, none⟩ = false := (World.frozen?_of_block (grow6.block M hL3.bm.lt (fun e => (hL3.n1 M e.symm).1 rfl))).trans hL3.bm.frozen.1
      refine hK'.out _ _ (fun _ => hS6) ?_
      clear hK' K'
      change wpAnyX Try.prog .any _ _ _ _ 2 _ (rmAct _ _ _ _ _ _ _ _ _ _ _ _ _ _ (.pointer (some ⟨M, 0, none⟩)) (.slice ua m cap) (.pointer (some ⟨B, 0, none⟩)) (.int .i64 z) (.slice (some ⟨w5.heap.size, 0, none⟩) 1 1) (.slice ua' m' cap') _ _ _ _ _ _ _ _ _ _ _ _ _ _ _ _ _ _) w6
      refine wpAnyX_take (i := 6) (v := .pointer (some ⟨M, 0, none⟩)) rfl (by kernel_rfl) (by kernel_rfl) (by kernel_rfl) (by kernel_rfl) (fun _ _ _ h => h) (.inl ⟨rfl, fun w' hw' => m_field0 rfl rfl⟩) hS6 ?_
      change wpAnyX Try.prog .any _ _ _ _ 1 _ (rmAct _ _ _ _ _ _ _ _ _ _ _ _ _ _ (.pointer (some ⟨M, 0, none⟩)) (.slice ua m cap) (.pointer (some ⟨B, 0, none⟩)) (.int .i64 z) (.slice (some ⟨w5.heap.size, 0, none⟩) 1 1) (.slice ua' m' cap') (.pointer (some ⟨M, 0, none⟩)) _ _ _ _ _ _ _ _ _ _ _ _ _ _ _ _ _) w6
      refine wpAnyX_one (i := 7) (by kernel_rfl) rfl (fun K' hK' => ?_)
      refine step_skip _ (w6.setCell ⟨M, 0, none⟩ (.slice ua' m' cap')) rfl (exec_store rfl rfl rfl (k_storeI w6 M 0 ua ua' m cap m' cap' hS6 hF6)) ?_
      refine hK'.out _ _ (fun h => by cases h) ?_
      clear hK' K'
      change wpAnyX Try.prog .any _ _ _ _ 0 _ (rmAct _ _ _ _ _ _ _ _ _ _ _ _ _ _ (.pointer (some ⟨M, 0, none⟩)) (.slice ua m cap) (.pointer (some ⟨B, 0, none⟩)) (.int .i64 z) (.slice (some ⟨w5.heap.size, 0, none⟩) 1 1) (.slice ua' m' cap') (.pointer (some ⟨M, 0, none⟩)) _ _ _ _ _ _ _ _ _ _ _ _ _ _ _ _ _) (w6.setCell ⟨M, 0, none⟩ (.slice ua' m' cap'))
      refine wpAnyX_done (by kernel_rfl) ?_ _
      unfold rmAct
      have HL6 := Lib.hid (MS.pushD (m' := m') HK.out HL.out hd5 r5 own6 hm' grow6 (at6.imp id (fun h g e => Nat.le_trans (by simp) (h g e))))
      have hmm : Hid (m' = m + 1) := Lib.hid (by have := HDL.out; omega)
      have HD6 : Hid ((ds ++ [z]).length = m') := Lib.hid (by simp; omega)
      clear HS hS hL5 hS5 hL3 hS3 own6 grow6 at6 hc6 hc6' hS6 hF6 d5 r5 hd5 ev HL HDL hm'
      go_wp2
      go_roundw
      case rel => exact ⟨j - 1, m', ua', cap', ds ++ [z], q5, by go_num, by have := hmm.out; omega, by omega, by have := hmm.out; omega, HD6, HL6⟩
      case measure => simp [intOf]; omega
    · obtain rfl : j = 0 := by omega
      have hmn : 1 ≤ m ∧ m ≤ 4 := by omega
      have hq3 : 0 ≤ q ∧ q ≤ p + 13 := by omega
      clear HMS3 hmj hj hn1 hn4
      go_wp2_with fail
      refine (pick_dn n0 B q 5 wr HL.out.rd (by omega) (by omega) (by omega)).mono ?_
      rintro e w3 ⟨x, rfl, hx0, hx1, r3, d3⟩
      obtain ⟨c0, rfl⟩ := Int.eq_ofNat_of_zero_le hx0
      have hc4 : c0 ≤ 4 := by omega
      have HL3 := Lib.hid (HL.out.dnStep HK.out d3 r3)
      obtain ⟨q0, hq0⟩ : ∃ q0, q0 = q + 1 := ⟨_, rfl⟩
      rw [← hq0] at HL3
      have hq4 : p ≤ q0 ∧ q0 ≤ p + 14 := by omega
      clear r3 d3 hx0 hx1 HL hq hq2 hq3 hq0
      go_wp2_with fail
      go_loopw [5] (fun i wr => ∃ (j mb : Nat) (ub : Option Addr) (cb : Nat) (xs : List CE) (q : Int), i = .int .i64 j ∧ mb + j = c0 ∧ q0 ≤ q ∧ q ≤ q0 + 100 * mb ∧ Hid (xs.length = mb) ∧ Hid (MS Q0 n0 B R M 20 w wr q (.slice ua m cap) (.slice ub mb cb) ds xs)) (fun i _ => (intOf i).toNat)
      case atStart => exact ⟨c0, 0, none, 0, [], q0, rfl, by omega, by omega, by omega, Lib.hid rfl, HL3⟩
      case round =>
        obtain ⟨j, mb, ub, cb, xs, q, rfl, hmj, hq, hq2, HXL, HL⟩ := hrel
        by_cases hj : 0 < j
        · have hS : wr.drew.cell? ⟨M, 1, none⟩ = some (.slice ub mb cb) ∧ wr.drew.cell? ⟨M, 0, none⟩ = some (.slice ua m cap) := ⟨HL.out.bm.cell.2, HL.out.bm.cell.1⟩
          have HS := Lib.hid hS
          clear hS
          go_wp2_with fail
          have hS := HS.out
          refine region_x (fun w' => w'.cell? ⟨M, 1, none⟩ = some (.slice ub mb cb) ∧ w'.cell? ⟨M, 0, none⟩ = some (.slice ua m cap)) (fun i => i == 10) rfl ?_
          change wpAnyX Try.prog .any _ _ _ _ 11 _ (rmAct _ _ _ _ _ _ _ _ _ _ _ _ _ _ _ _ _ _ _ _ _ _ _ _ _ _ _ _ _ _ _ _ _ _ _ _ _ _) wr.drew
          refine wpAnyX_take (i := 0) (v := .pointer (some ⟨M, 1, none⟩)) rfl (by kernel_rfl) (by kernel_rfl) (by kernel_rfl) (by kernel_rfl) (fun _ _ _ h => h) (.inl ⟨rfl, fun w' hw' => m_field1 rfl rfl⟩) hS ?_
          change wpAnyX Try.prog .any _ _ _ _ 10 _ (rmAct _ _ _ _ _ _ _ _ _ _ _ _ _ _ _ _ _ _ _ _ _ _ _ _ _ _ _ (.pointer (some ⟨M, 1, none⟩)) _ _ _ _ _ _ _ _ _ _) wr.drew
          refine wpAnyX_take (i := 1) (v := .slice ub mb cb) rfl (by kernel_rfl) (by kernel_rfl) (by kernel_rfl) (by kernel_rfl) (fun _ _ _ h => h) (.inl ⟨rfl, fun w' hw' => exec_load rfl rfl (m_loadC w' _ _ _ _ _ hw'.1)⟩) hS ?_
          change wpAnyX Try.prog .any _ _ _ _ 9 _ (rmAct _ _ _ _ _ _ _ _ _ _ _ _ _ _ _ _ _ _ _ _ _ _ _ _ _ _ _ (.pointer (some ⟨M, 1, none⟩)) (.slice ub mb cb) _ _ _ _ _ _ _ _ _) wr.drew
          refine wpAnyX_take (i := 2) (v := .pointer (some ⟨B, 0, none⟩)) rfl (by kernel_rfl) (by kernel_rfl) (by kernel_rfl) (by kernel_rfl) (fun _ _ _ h => h) (.inl ⟨rfl, fun w' hw' => rfl⟩) hS ?_
          change wpAnyX Try.prog .any _ _ _ _ 8 _ (rmAct _ _ _ _ _ _ _ _ _ _ _ _ _ _ _ _ _ _ _ _ _ _ _ _ _ _ _ (.pointer (some ⟨M, 1, none⟩)) (.slice ub mb cb) (.pointer (some ⟨B, 0, none⟩)) _ _ _ _ _ _ _ _) wr.drew
          refine wpAnyX_take (i := 3) (v := .pointer (some ⟨M, 0, none⟩)) rfl (by kernel_rfl) (by kernel_rfl) (by kernel_rfl) (by kernel_rfl) (fun _ _ _ h => h) (.inl ⟨rfl, fun w' hw' => m_field0 rfl rfl⟩) hS ?_
          change wpAnyX Try.prog .any _ _ _ _ 7 _ (rmAct _ _ _ _ _ _ _ _ _ _ _ _ _ _ _ _ _ _ _ _ _ _ _ _ _ _ _ (.pointer (some ⟨M, 1, none⟩)) (.slice ub mb cb) (.pointer (some ⟨B, 0, none⟩)) (.pointer (some ⟨M, 0, none⟩)) _ _ _ _ _ _ _) wr.drew
          refine wpAnyX_take (i := 4) (v := .slice ua m cap) rfl (by kernel_rfl) (by kernel_rfl) (by kernel_rfl) (by kernel_rfl) (fun _ _ _ h => h) (.inl ⟨rfl, fun w' hw' => exec_load rfl rfl (k_loadI w' _ _ _ _ _ hw'.2)⟩) hS ?_
          change wpAnyX Try.prog .any _ _ _ _ 6 _ (rmAct _ _ _ _ _ _ _ _ _ _ _ _ _ _ _ _ _ _ _ _ _ _ _ _ _ _ _ (.pointer (some ⟨M, 1, none⟩)) (.slice ub mb cb) (.pointer (some ⟨B, 0, none⟩)) (.pointer (some ⟨M, 0, none⟩)) (.slice ua m cap) _ _ _ _ _ _) wr.drew
          refine wpAnyX_take (i := 5) (v := .int .i64 m) rfl (by kernel_rfl) (by kernel_rfl) (by kernel_rfl) (by kernel_rfl) (fun _ _ _ h => h) (.inl ⟨rfl, fun w' hw' => m_lenI rfl rfl⟩) hS ?_
          change wpAnyX Try.prog .any _ _ _ _ 5 _ (rmAct _ _ _ _ _ _ _ _ _ _ _ _ _ _ _ _ _ _ _ _ _ _ _ _ _ _ _ (.pointer (some ⟨M, 1, none⟩)) (.slice ub mb cb) (.pointer (some ⟨B, 0, none⟩)) (.pointer (some ⟨M, 0, none⟩)) (.slice ua m cap) (.int .i64 m) _ _ _ _ _) wr.drew
          refine wpAnyX_one (i := 6) (by kernel_rfl) rfl (fun K' hK' => ?_)
          refine k_call2 _ rfl 128 _ _ _ _ _ rfl rfl rfl (enters_of Try.func128 (by kernel_rfl) rfl) _ (randomConstraint_any (qm Q0 R M (.slice ua m cap) (.slice ub mb cb)) n0 B m q wr.drew (HL.out.rd.drewN 1) (by omega) (by omega) (by omega) (by omega) (qm_B HK.out.hQB) ((HL.out.below HK.out (Below.refl _ wr).drew).new_no HK.out)) (fun c w' h => by obtain ⟨_, _, _, _, _, h, _⟩ := h; cases h) (fun w' h => by obtain ⟨_, _, _, _, _, h, _⟩ := h; cases h) ?_
          rintro vz w5 ⟨v1, v2, v4, c, q5, ev, r1, r2, r4, hnil, hv1, hcl, hq5, hq5', r5, d5⟩
          obtain ⟨a1, vc, e1, -, -, -⟩ := id r1
          obtain ⟨a2, ac, e2, -, -, -⟩ := id r2
          obtain ⟨a4, rc, e4, -, -, -⟩ := id r4
          obtain ⟨vn, hvn⟩ : ∃ n, n = c.vars.length := ⟨_, rfl⟩
          obtain ⟨an, han⟩ : ∃ n, n = c.args.length := ⟨_, rfl⟩
          obtain ⟨rn, hrn⟩ : ∃ n, n = c.rows.length := ⟨_, rfl⟩
          rw [← hvn] at e1
          rw [← han] at e2
          rw [← hrn] at e4
          subst e1 e2 e4
          obtain rfl : vz = .agg #[.int .i64 c.kind, .slice a1 vn vc, .slice a2 an ac, .int .i64 c.bound, .slice a4 rn rc] := by injection ev
          have hd5 : Dn B wr w5 := (Dn.of_below (Below.refl _ wr).drew).trans d5
          have hL5 := HL.out.dnStep HK.out hd5 r5
          have hS5 : w5.cell? ⟨M, 1, none⟩ = some (.slice ub mb cb) ∧ w5.cell? ⟨M, 0, none⟩ = some (.slice ua m cap) := ⟨hL5.bm.cell.2, hL5.bm.cell.1⟩
          refine hK'.out _ _ (fun _ => hS5) ?_
          clear hK' K'
          change wpAnyX Try.prog .any _ _ _ _ 4 _ (rmAct _ _ _ _ _ _ _ _ _ _ _ _ _ _ _ _ _ _ _ _ _ _ _ _ _ _ _ (.pointer (some ⟨M, 1, none⟩)) (.slice ub mb cb) (.pointer (some ⟨B, 0, none⟩)) (.pointer (some ⟨M, 0, none⟩)) (.slice ua m cap) (.int .i64 m) (.agg #[.int .i64 c.kind, .slice a1 vn vc, .slice a2 an ac, .int .i64 c.bound, .slice a4 rn rc]) _ _ _ _) w5
          refine wpAnyX_one (i := 7) (by kernel_rfl) rfl (fun K' hK' => ?_)
          refine step_value _ (w5.alloc (.cells #[.int .i64 c.kind, .slice a1 vn vc, .slice a2 an ac, .int .i64 c.bound, .slice a4 rn rc] 53)) rfl _ (k_exec1 rfl rfl (m_build1 w5 _ _ _ _ _ _ _ _ _ _ _)) ?_
          have hL3 := hL5.below HK.out ((Below.refl w5.heap.size w5).alloc (Nat.le_refl _) (.cells #[.int .i64 c.kind, .slice a1 vn vc, .slice a2 an ac, .int .i64 c.bound, .slice a4 rn rc] 53))
          have hS3 : (w5.alloc (.cells #[.int .i64 c.kind, .slice a1 vn vc, .slice a2 an ac, .int .i64 c.bound, .slice a4 rn rc] 53)).cell? ⟨M, 1, none⟩ = some (.slice ub mb cb) ∧ (w5.alloc (.cells #[.int .i64 c.kind, .slice a1 vn vc, .slice a2 an ac, .int .i64 c.bound, .slice a4 rn rc] 53)).cell? ⟨M, 0, none⟩ = some (.slice ua m cap) := ⟨hL3.bm.cell.2, hL3.bm.cell.1⟩
          refine hK'.out _ _ (fun _ => hS3) ?_
          clear hK' K'
          change wpAnyX Try.prog .any _ _ _ _ 3 _ (rmAct _ _ _ _ _ _ _ _ _ _ _ _ _ _ _ _ _ _ _ _ _ _ _ _ _ _ _ (.pointer (some ⟨M, 1, none⟩)) (.slice ub mb cb) (.pointer (some ⟨B, 0, none⟩)) (.pointer (some ⟨M, 0, none⟩)) (.slice ua m cap) (.int .i64 m) (.agg #[.int .i64 c.kind, .slice a1 vn vc, .slice a2 an ac, .int .i64 c.bound, .slice a4 rn rc]) (.slice (some ⟨w5.heap.size, 0, none⟩) 1 1) _ _ _) (w5.alloc (.cells #[.int .i64 c.kind, .slice a1 vn vc, .slice a2 an ac, .int .i64 c.bound, .slice a4 rn rc] 53))
          refine wpAnyX_one (i := 8) (by kernel_rfl) rfl (fun K' hK' => ?_)
          refine m_appendC rfl _ _ rfl w.heap.size (.slice ub mb cb) (cellsE xs) xs.length w5.heap.size _ _ _ _ _ _ _ _ _ _ _ rfl rfl hL3.o2 (fun j u h => cells_one5 w5 _ _ _ _ _ _ j u h) (by have := hL3.dn.size; exact this) (by have := HXL.out; omega) ?_
          intro v6 w6 own6 grow6 at6
          obtain ⟨ua', cap', ev6, hc6, hc6'⟩ := own_form own6
          obtain ⟨m', hm'⟩ : ∃ m', m' = xs.length + 1 := ⟨_, rfl⟩
          rw [← hm'] at own6 ev6
          subst ev6
          have hk6 := grow6.block M hL3.bm.lt (fun e => (hL3.n2 M e.symm).1 rfl)
          have hS6 : w6.cell? ⟨M, 1, none⟩ = some (.slice ub mb cb) ∧ w6.cell? ⟨M, 0, none⟩ = some (.slice ua m cap) := ⟨(World.cell?_of_block hk6).trans hS3.1, (World.cell?_of_block hk6).trans hS3.2⟩
          have hF6 : w6.frozen? ⟨M, 1, none⟩ = false := (World.frozen?_of_block hk6).trans hL3.bm.frozen.2
          refine hK'.out _ _ (fun _ => hS6) ?_
          clear hK' K'
          change wpAnyX Try.prog .any _ _ _ _ 2 _ (rmAct _ _ _ _ _ _ _ _ _ _ _ _ _ _ _ _ _ _ _ _ _ _ _ _ _ _ _ (.pointer (some ⟨M, 1, none⟩)) (.slice ub mb cb) (.pointer (some ⟨B, 0, none⟩)) (.pointer (some ⟨M, 0, none⟩)) (.slice ua m cap) (.int .i64 m) (.agg #[.int .i64 c.kind, .slice a1 vn vc, .slice a2 an ac, .int .i64 c.bound, .slice a4 rn rc]) (.slice (some ⟨w5.heap.size, 0, none⟩) 1 1) (.slice ua' m' cap') _ _) w6
          refine wpAnyX_take (i := 9) (v := .pointer (some ⟨M, 1, none⟩)) rfl (by kernel_rfl) (by kernel_rfl) (by kernel_rfl) (by kernel_rfl) (fun _ _ _ h => h) (.inl ⟨rfl, fun w' hw' => m_field1 rfl rfl⟩) hS6 ?_
          change wpAnyX Try.prog .any _ _ _ _ 1 _ (rmAct _ _ _ _ _ _ _ _ _ _ _ _ _ _ _ _ _ _ _ _ _ _ _ _ _ _ _ (.pointer (some ⟨M, 1, none⟩)) (.slice ub mb cb) (.pointer (some ⟨B, 0, none⟩)) (.pointer (some ⟨M, 0, none⟩)) (.slice ua m cap) (.int .i64 m) (.agg #[.int .i64 c.kind, .slice a1 vn vc, .slice a2 an ac, .int .i64 c.bound, .slice a4 rn rc]) (.slice (some ⟨w5.heap.size, 0, none⟩) 1 1) (.slice ua' m' cap') (.pointer (some ⟨M, 1, none⟩)) _) w6
          refine wpAnyX_one (i := 10) (by kernel_rfl) rfl (fun K' hK' => ?_)
          refine step_skip _ (w6.setCell ⟨M, 1, none⟩ (.slice ua' m' cap')) rfl (exec_store rfl rfl rfl (m_storeC w6 M 1 ub ua' mb cb m' cap' hS6.1 hF6)) ?_
          refine hK'.out _ _ (fun h => by cases h) ?_
          clear hK' K'
          change wpAnyX Try.prog .any _ _ _ _ 0 _ (rmAct _ _ _ _ _ _ _ _ _ _ _ _ _ _ _ _ _ _ _ _ _ _ _ _ _ _ _ (.pointer (some ⟨M, 1, none⟩)) (.slice ub mb cb) (.pointer (some ⟨B, 0, none⟩)) (.pointer (some ⟨M, 0, none⟩)) (.slice ua m cap) (.int .i64 m) (.agg #[.int .i64 c.kind, .slice a1 vn vc, .slice a2 an ac, .int .i64 c.bound, .slice a4 rn rc]) (.slice (some ⟨w5.heap.size, 0, none⟩) 1 1) (.slice ua' m' cap') (.pointer (some ⟨M, 1, none⟩)) _) (w6.setCell ⟨M, 1, none⟩ (.slice ua' m' cap'))
          refine wpAnyX_done (by kernel_rfl) ?_ _
          unfold rmAct
          have HL6 := Lib.hid (MS.pushC (x := ⟨c, .slice a1 vn vc, .slice a2 an ac, .slice a4 rn rc⟩) (m' := m') HK.out HL.out hd5 r5 ⟨r1, r2, r4, hnil, hv1, hcl⟩ own6 hm' grow6 (at6.imp id (fun h g e => Nat.le_trans (by simp) (h g e))))
          have hmm : Hid (m' = mb + 1) := Lib.hid (by have := HXL.out; omega)
          have HX6 : Hid ((xs ++ [(⟨c, .slice a1 vn vc, .slice a2 an ac, .slice a4 rn rc⟩ : CE)]).length = m') := Lib.hid (by simp; omega)
          clear HS hS hL5 hS5 hL3 hS3 own6 grow6 at6 hc6 hc6' hk6 hS6 hF6 d5 r5 hd5 ev HL HXL hm' r1 r2 r4 hnil hv1 hcl hvn han hrn
          go_wp2
          go_roundw
          case rel => exact ⟨j - 1, m', ua', cap', _, q5, by go_num, by have := hmm.out; omega, by omega, by have := hmm.out; omega, HX6, HL6⟩
          case measure => simp [intOf]; omega
        · obtain rfl : j = 0 := by omega
          have HFIN := Lib.hid (modDn_fin (p := p) (s := 500) HK.out HL.out (by have := HDL.out; omega) (by have := HDL.out; omega) (by have := HXL.out; omega) (by omega) (by omega))
          obtain ⟨p0, p1⟩ := HL.out.bm.cell
          obtain ⟨o0, o1⟩ := HL.out.br.cell
          obtain ⟨f0, f1⟩ := HL.out.br.frozen
          have HQ := Lib.hid (putM_blk HL.out.br (.slice ua m cap) (.slice ub mb cb)).cell
          clear HL HL3 hmj hq hq2
          go_wp2
          have hq := HQ.out
          simp only [putM] at hq
          obtain ⟨q0, q1⟩ := hq
          refine bodyPost_ret (v := .agg #[.slice ua m cap, .slice ub mb cb]) (by simp [results, Try.results66, go_sem, q0, q1]) rfl ?_
          exact HFIN.out
end Go.Proofs.Ytjdbfiiaadphhaa

/-! The draw of a model that may be invalid. -/
namespace Go.Proofs.Ytjdbfiiaadphhaa
open Go.ChangeShapes Go.WideShapes Go.ChangeAt Go.RowKit Go.Shelf
set_option linter.unusedVariables false
set_option linter.unusedSimpArgs false

def amAct (z0 z1 z2 z3 z4 z5 z6 z7 z8 z9 z10 z11 z12 z13 z14 z15 z16 z17 z18 z19 z20 z21 z22 z23 z24 z25 z26 z27 z28 z29 z30 z31 z32 z33 z34 z35 z36 z37 z38 z39 z40 z41 z42 z43 z44 : Value) : Act := { tmps := #[z0, z1, z2, z3, z4, z5, z6, z7, z8, z9, z10, z11, z12, z13, z14, z15, z16, z17, z18, z19, z20, z21, z22, z23, z24, z25, z26, z27, z28, z29, z30, z31, z32, z33, z34, z35, z36, z37, z38, z39, z40, z41, z42, z43, z44], defers := [] }
theorem own_baseM {base g n cap : Nat} {w : World} {e : TypeId} {sz : Nat} {a : Option Addr} {m : Nat} {xs : List Value} (h : w.ownsRow g e sz (.slice a m cap) n xs) (hg : base ≤ g) : w.ownsRow base e sz (.slice a m cap) n xs := by
  refine ⟨h.1, ?_⟩
  rcases h.2 with h0 | ⟨b, c, cur, e1, hb, h1⟩
  · exact .inl h0
  · exact .inr ⟨b, c, cur, e1, Nat.le_trans hg hb, h1⟩
theorem ms_of_drawn {Q0 : Nat → Bool} {n0 B R L base : Nat} {w w2 : World} {q : Int} {ua ub : Option Addr} {m cap mb cb : Nat} {ds : List Int} {xs : List CE} (k : MP Q0 B R w2.heap.size n0 w) (hR : R < base) (hbw : w.heap.size ≤ base)
    (br : Blk2 w2 R 68 (.slice none 0 0) (.slice none 0 0)) (o1 : w2.ownsRow base 3 1 (.slice ua m cap) ds.length (ds.map (Value.int .i64))) (o2 : w2.ownsRow base 53 5 (.slice ub mb cb) xs.length (cellsE xs))
    (ne : ∀ g, (Value.slice ua m cap).ownBlock = some g → (Value.slice ub mb cb).ownBlock ≠ some g) (ok : ∀ x ∈ xs, x.ok (fun b => (Q0 b || b == R) || decide ((Value.slice ua m cap).ownBlock = some b) || decide ((Value.slice ub mb cb).ownBlock = some b)) w2 L) (rd : Rd n0 B q w2) (dn : Dn B w w2) :
    MS Q0 n0 B R w2.heap.size L w (w2.alloc (.cells #[.slice ua m cap, .slice ub mb cb] 68)) q (.slice ua m cap) (.slice ub mb cb) ds xs := by
  have hbw2 : Below w2.heap.size w2 (w2.alloc (.cells #[.slice ua m cap, .slice ub mb cb] 68)) := (Below.refl _ _).alloc (Nat.le_refl _) _
  have hkeep : ∀ b, b < w2.heap.size → (w2.alloc (.cells #[.slice ua m cap, .slice ub mb cb] 68)).heap[b]? = w2.heap[b]? := fun b hb => Below.heap_alloc _ _ _ hb
  refine ⟨Blk2.new w2 68 _ _, (hkeep R br.lt).trans br, own_baseM (own_keepB o1 (fun b hb => hkeep b (o1.lt b hb).2)) hbw, own_baseM (own_keepB o2 (fun b hb => hkeep b (o2.lt b hb).2)) hbw,
    fun g e => ⟨by have := (o1.lt g e).2; omega, by have := (o1.lt g e).1; omega, ne g e⟩, fun g e => ⟨by have := (o2.lt g e).2; omega, by have := (o2.lt g e).1; omega⟩, fun x hx => (ok x hx).inc (av_new hbw2 (fun b hb hq => ?_)), rd.below (hbw2.mono (by have := rd.lt; omega)), dn.trans (Dn.of_below hbw2)⟩
  simp at hq
  obtain ⟨⟨⟨a1, a2⟩, a3⟩, a4⟩ := hq
  exact qm_no a1 a2 (by omega) a3 a4
theorem oe_cells {Q0 : Nat → Bool} {n0 B R M L : Nat} {w W : World} {q : Int} {u1 : Value} {gb mb cb k : Nat} {ds : List Int} {xs : List CE} {x : CE} (h : MS Q0 n0 B R M L w W q u1 (.slice (some ⟨gb, 0, none⟩) mb cb) ds xs) (hx : xs[k]? = some x) :
    W.cell? ⟨gb, k * 5, none⟩ = some (.int .i64 x.c.kind) ∧ W.cell? ⟨gb, k * 5 + 1, none⟩ = some x.v ∧ W.cell? ⟨gb, k * 5 + 2, none⟩ = some x.a ∧ W.cell? ⟨gb, k * 5 + 3, none⟩ = some (.int .i64 x.c.bound) ∧ W.cell? ⟨gb, k * 5 + 4, none⟩ = some x.r := by
  obtain ⟨t0, t1, t2, t3, t4⟩ := cellsE_at xs k x hx
  have kk : ∀ q u, (cellsE xs)[q]? = some u → W.cell? ⟨gb, q, none⟩ = some u := fun q u hu => by
    have := h.o2.cells (g := gb) rfl q u hu
    rw [addr_add, Nat.zero_add] at this
    exact this
  exact ⟨kk _ _ t0, kk _ _ t1, kk _ _ t2, kk _ _ t3, kk _ _ t4⟩

set_option maxRecDepth 100000 in
set_option maxHeartbeats 64000000 in
theorem anyModel_any (Q0 : Nat → Bool) (n0 B : Nat) (p : Int) (w : World) (hR : Rd n0 B p w) (hp : 0 ≤ p) (hp2 : p ≤ 10000) (hQB : Q0 B = true) (hQ0 : ∀ b, w.heap.size ≤ b → Q0 b = false) :
    Calls Try.prog 114 #[.pointer (some ⟨B, 0, none⟩)] w (ModDn Q0 n0 B p 600 21 w) := by
  have hlt := hR.lt
  obtain ⟨R, hRe⟩ : ∃ R, R = w.heap.size := ⟨_, rfl⟩
  obtain ⟨W1, hW1⟩ : ∃ W1, w.alloc (.cells #[.slice none 0 0, .slice none 0 0] 68) = W1 := ⟨_, rfl⟩
  have b1 : Below w.heap.size w W1 := by rw [← hW1]; exact (Below.refl _ _).alloc (Nat.le_refl _) _
  have hbr : Blk2 W1 R 68 (.slice none 0 0) (.slice none 0 0) := by rw [← hW1, hRe]; exact Blk2.new w _ _ _
  have HBR := Lib.hid hbr
  have HRE := Lib.hid hRe
  have HR1 := Lib.hid (hR.below (b1.mono (by omega)))
  have HB1 := Lib.hid b1
  have HLT := Lib.hid hlt
  have HN0 := Lib.hid hR.1
  have HW1 := Lib.hid hW1
  have HQB := Lib.hid hQB
  have HQ0 := Lib.hid hQ0
  clear hQB hQ0 hR hlt hW1 b1 hRe hbr
  go_enter Try.func114, Try.ntmps114
  go_wp2_with fail
  rw [HW1.out, ← HRE.out]
  clear HW1
  refine (randomModel_any (fun b => Q0 b || b == R) n0 B p W1 HR1.out hp (by omega) (by simp [HQB.out]) (fun b hb => by
    have h1 : Q0 b = false := HQ0.out b (Nat.le_trans HB1.out.size hb)
    have h2 : b ≠ R := by have := HBR.out.lt; omega
    simp [h1, h2])).mono ?_
  rintro e w2 ⟨v1, v2, ds, xs, p2, rfl, o1, o2, ne, ok, hd1, hd4, hx6, hp2a, hp2b, rd, d⟩
  obtain ⟨ga, cap, rfl⟩ := own_some o1 (by omega)
  obtain ⟨ub, cb, rfl, hcb, hcb2⟩ := own_form o2
  obtain ⟨m, hm⟩ : ∃ m, m = ds.length := ⟨_, rfl⟩
  obtain ⟨mb, hmb⟩ : ∃ mb, mb = xs.length := ⟨_, rfl⟩
  have hca : m ≤ cap ∧ cap ≤ maxLen := by
    obtain ⟨a, c, e, h1, h2⟩ := own_form o1
    simp at e
    omega
  have HDL := Lib.hid hm.symm
  have HXL := Lib.hid hmb.symm
  rw [← hm] at ne ok ⊢
  rw [← hmb] at ne ok ⊢
  have o1' : w2.ownsRow W1.heap.size 3 1 (.slice (some ⟨ga, 0, none⟩) m cap) ds.length (ds.map (Value.int .i64)) := by rw [hm]; exact o1
  have o2' : w2.ownsRow W1.heap.size 53 5 (.slice ub mb cb) xs.length (cellsE xs) := by rw [hmb]; exact o2
  have hbr2 : Blk2 w2 R 68 (.slice none 0 0) (.slice none 0 0) := (d.block R HBR.out.lt (by have := HLT.out; have := HRE.out; omega)).trans HBR.out
  have hdn2 : Dn B w w2 := (Dn.of_below HB1.out).trans d
  obtain ⟨M, hM⟩ : ∃ M, M = w2.heap.size := ⟨_, rfl⟩
  have hk : MP Q0 B R M n0 w := ⟨HLT.out, by rw [HRE.out]; exact Nat.le_refl _, by rw [hM]; exact hdn2.size, by have := hbr2.lt; omega, HN0.out, HQB.out, HQ0.out⟩
  obtain ⟨W3, hW3⟩ : ∃ W3, w2.alloc (.cells #[.slice (some ⟨ga, 0, none⟩) m cap, .slice ub mb cb] 68) = W3 := ⟨_, rfl⟩
  have hms : MS Q0 n0 B R M 20 w W3 p2 (.slice (some ⟨ga, 0, none⟩) m cap) (.slice ub mb cb) ds xs := by
    rw [← hW3, hM]
    exact ms_of_drawn (base := W1.heap.size) (by rw [← hM]; exact hk) HBR.out.lt HB1.out.size hbr2 o1' o2' ne ok rd hdn2
  have hm1 : 1 ≤ m ∧ m ≤ 4 := by omega
  have hmb6 : mb ≤ 6 := by omega
  have HK := Lib.hid hk
  have HMS := Lib.hid (hms.mono (L' := 21) (by omega))
  have HMS0 := Lib.hid hms
  have HW3 := Lib.hid hW3
  have HM := Lib.hid hM
  unfold maxLen at hca hcb2
  have hpp : 0 ≤ p2 ∧ p2 ≤ p + 500 := by omega
  clear o1 o2 o1' o2' ne ok rd d hbr2 hdn2 hM hk hW3 hms hm hmb hd1 hd4 hx6 HR1 HBR HB1 hp2b
  go_wp2_with (rw [HW3.out])
  rw [← HM.out]
  clear HM HW3
  refine (pick_dn n0 B p2 16 W3 HMS.out.rd (by omega) (by omega) (by omega)).mono ?_
  rintro e w4 ⟨x, rfl, hx0, hx1, r4, d4⟩
  have HL4 := Lib.hid (HMS0.out.dnStep HK.out d4 r4)
  clear r4 d4 hx0 hx1 HMS HMS0
  cases hx : (x == 0)
  · cases hy : (x == 1)
    · have HL9 := Lib.hid (HL4.out.mono (L' := 21) (by omega))
      have HFIN := Lib.hid (modDn_fin (p := p) (s := 600) HK.out HL9.out (by have := HDL.out; omega) (by have := HDL.out; omega) (by have := HXL.out; omega) (by omega) (by omega))
      obtain ⟨p0, p1⟩ := HL9.out.bm.cell
      obtain ⟨o0, o1⟩ := HL9.out.br.cell
      obtain ⟨f0, f1⟩ := HL9.out.br.frozen
      have HQ := Lib.hid (putM_blk HL9.out.br (.slice (some ⟨ga, 0, none⟩) m cap) (.slice ub mb cb)).cell
      clear HL9 HL4
      go_wp2
      have hq := HQ.out
      simp only [putM] at hq
      obtain ⟨q0, q1⟩ := hq
      refine bodyPost_ret (v := .agg #[.slice (some ⟨ga, 0, none⟩) m cap, .slice ub mb cb]) (by simp [results, Try.results114, go_sem, q0, q1]) rfl ?_
      exact HFIN.out
    · by_cases hmb0 : 0 < mb
      · have HLx := Lib.hid HL4.out.o2
        obtain ⟨gb, rfl⟩ : ∃ gb, ub = some ⟨gb, 0, none⟩ := by
          rcases HLx.out.2 with ⟨e, h0⟩ | ⟨g, c0, cur, e, _⟩
          · have := HXL.out; omega
          · simp at e; exact ⟨g, e.1⟩
        clear HLx
        obtain ⟨p0, p1⟩ := HL4.out.bm.cell
        go_wp2_with fail
        refine (pick_dn n0 B (p2 + 1) mb w4 HL4.out.rd (by omega) (by omega) (by omega)).mono ?_
        rintro e w5 ⟨z0, rfl, hz0, hz1, r5, d5⟩
        obtain ⟨k, rfl⟩ := Int.eq_ofNat_of_zero_le hz0
        have hk : k < mb := by omega
        have HL5 := Lib.hid (HL4.out.dnStep HK.out d5 r5)
        clear r5 d5 hz0 hz1 HL4 p0 p1
        obtain ⟨⟨⟨kx, vx, ax, bx, rx⟩, xv, xa, xr⟩, hxk⟩ : ∃ y, xs[k]? = some y := ⟨_, List.getElem?_eq_getElem (by have := HXL.out; omega)⟩
        have hxo := HL5.out.ok _ (List.mem_of_getElem? hxk)
        obtain ⟨q1, q2, q4, qn, qv, qc⟩ := hxo
        obtain ⟨x1, xc1, e1, -, -, -⟩ := id q1
        obtain ⟨x2, xc2, e2, -, -, -⟩ := id q2
        obtain ⟨x4, xc4, e4, -, -, -⟩ := id q4
        obtain ⟨xn1, hxn1⟩ : ∃ n, n = vx.length := ⟨_, rfl⟩
        obtain ⟨xn2, hxn2⟩ : ∃ n, n = ax.length := ⟨_, rfl⟩
        obtain ⟨xn4, hxn4⟩ : ∃ n, n = rx.length := ⟨_, rfl⟩
        simp only at e1 e2 e4 q1 q2 q4 qn qv qc
        rw [← hxn1] at e1
        rw [← hxn2] at e2
        rw [← hxn4] at e4
        subst e1 e2 e4
        have HR1 : Hid (RdInts (av (qm Q0 R M (.slice (some ⟨ga, 0, none⟩) m cap) (.slice (some ⟨gb, 0, none⟩) mb cb)) w5.drew) _ vx) := Lib.hid (q1.inc (Fr.of_below (Below.refl _ w5).drew).inc)
        have HR2 : Hid (RdInts (av (qm Q0 R M (.slice (some ⟨ga, 0, none⟩) m cap) (.slice (some ⟨gb, 0, none⟩) mb cb)) w5.drew) _ ax) := Lib.hid (q2.inc (Fr.of_below (Below.refl _ w5).drew).inc)
        have HR4 : Hid (RdRows (av (qm Q0 R M (.slice (some ⟨ga, 0, none⟩) m cap) (.slice (some ⟨gb, 0, none⟩) mb cb)) w5.drew) _ rx) := Lib.hid (q4.inc (Fr.of_below (Below.refl _ w5).drew).inc)
        have HNX := Lib.hid qn
        have HVX := Lib.hid qv
        have HCX := Lib.hid qc
        have HXK := Lib.hid hxk
        clear q1 q2 q4 qn qv qc hxk hxn1 hxn2 hxn4
        have HS : Hid ((w5.drew.cell? ⟨M, 1, none⟩ = some (.slice (some ⟨gb, 0, none⟩) mb cb) ∧ w5.drew.cell? ⟨gb, k * 5, none⟩ = some (.int .i64 kx) ∧ w5.drew.cell? ⟨gb, k * 5 + 1, none⟩ = some (.slice x1 xn1 xc1) ∧ w5.drew.cell? ⟨gb, k * 5 + 2, none⟩ = some (.slice x2 xn2 xc2) ∧ w5.drew.cell? ⟨gb, k * 5 + 3, none⟩ = some (.int .i64 bx) ∧ w5.drew.cell? ⟨gb, k * 5 + 4, none⟩ = some (.slice x4 xn4 xc4))) := Lib.hid (by
          obtain ⟨t0, t1, t2, t3, t4⟩ := oe_cells HL5.out HXK.out
          exact ⟨HL5.out.bm.cell.2, t0, t1, t2, t3, t4⟩)
        go_wp2_with fail
        have hS := HS.out
        refine region_x (fun w' => (w'.cell? ⟨M, 1, none⟩ = some (.slice (some ⟨gb, 0, none⟩) mb cb) ∧ w'.cell? ⟨gb, k * 5, none⟩ = some (.int .i64 kx) ∧ w'.cell? ⟨gb, k * 5 + 1, none⟩ = some (.slice x1 xn1 xc1) ∧ w'.cell? ⟨gb, k * 5 + 2, none⟩ = some (.slice x2 xn2 xc2) ∧ w'.cell? ⟨gb, k * 5 + 3, none⟩ = some (.int .i64 bx) ∧ w'.cell? ⟨gb, k * 5 + 4, none⟩ = some (.slice x4 xn4 xc4))) (fun i => i == 11) rfl ?_
        change wpAnyX Try.prog .any _ _ _ _ 12 _ (amAct _ _ _ _ _ _ _ _ _ _ _ _ _ _ _ _ _ _ _ _ _ _ _ _ _ _ _ _ _ _ _ _ _ _ _ _ _ _ _ _ _ _ _ _ _) w5.drew
        refine wpAnyX_take (i := 0) (v := .pointer (some ⟨M, 1, none⟩)) rfl (by kernel_rfl) (by kernel_rfl) (by kernel_rfl) (by kernel_rfl) (fun _ _ _ h => h) (.inl ⟨rfl, fun w' hw' => m_field1 rfl rfl⟩) hS ?_
        change wpAnyX Try.prog .any _ _ _ _ 11 _ (amAct _ _ _ _ _ _ _ _ _ _ _ _ _ _ _ _ _ _ _ _ _ _ _ _ _ _ _ _ _ _ _ _ _ (.pointer (some ⟨M, 1, none⟩)) _ _ _ _ _ _ _ _ _ _ _) w5.drew
        refine wpAnyX_take (i := 1) (v := .slice (some ⟨gb, 0, none⟩) mb cb) rfl (by kernel_rfl) (by kernel_rfl) (by kernel_rfl) (by kernel_rfl) (fun _ _ _ h => h) (.inl ⟨rfl, fun w' hw' => exec_load rfl rfl (m_loadC w' _ _ _ _ _ hw'.1)⟩) hS ?_
        change wpAnyX Try.prog .any _ _ _ _ 10 _ (amAct _ _ _ _ _ _ _ _ _ _ _ _ _ _ _ _ _ _ _ _ _ _ _ _ _ _ _ _ _ _ _ _ _ (.pointer (some ⟨M, 1, none⟩)) (.slice (some ⟨gb, 0, none⟩) mb cb) _ _ _ _ _ _ _ _ _ _) w5.drew
        refine wpAnyX_take (i := 2) (v := .int .i64 k) rfl (by kernel_rfl) (by kernel_rfl) (by kernel_rfl) (by kernel_rfl) (fun _ _ _ h => h) (.inl ⟨rfl, fun w' hw' => rfl⟩) hS ?_
        change wpAnyX Try.prog .any _ _ _ _ 9 _ (amAct _ _ _ _ _ _ _ _ _ _ _ _ _ _ _ _ _ _ _ _ _ _ _ _ _ _ _ _ _ _ _ _ _ (.pointer (some ⟨M, 1, none⟩)) (.slice (some ⟨gb, 0, none⟩) mb cb) (.int .i64 k) _ _ _ _ _ _ _ _ _) w5.drew
        refine wpAnyX_take (i := 3) (v := .pointer (some ⟨B, 0, none⟩)) rfl (by kernel_rfl) (by kernel_rfl) (by kernel_rfl) (by kernel_rfl) (fun _ _ _ h => h) (.inl ⟨rfl, fun w' hw' => rfl⟩) hS ?_
        change wpAnyX Try.prog .any _ _ _ _ 8 _ (amAct _ _ _ _ _ _ _ _ _ _ _ _ _ _ _ _ _ _ _ _ _ _ _ _ _ _ _ _ _ _ _ _ _ (.pointer (some ⟨M, 1, none⟩)) (.slice (some ⟨gb, 0, none⟩) mb cb) (.int .i64 k) (.pointer (some ⟨B, 0, none⟩)) _ _ _ _ _ _ _ _) w5.drew
        refine wpAnyX_take (i := 4) (v := .pointer (some ⟨M, 1, none⟩)) rfl (by kernel_rfl) (by kernel_rfl) (by kernel_rfl) (by kernel_rfl) (fun _ _ _ h => h) (.inl ⟨rfl, fun w' hw' => m_field1 rfl rfl⟩) hS ?_
        change wpAnyX Try.prog .any _ _ _ _ 7 _ (amAct _ _ _ _ _ _ _ _ _ _ _ _ _ _ _ _ _ _ _ _ _ _ _ _ _ _ _ _ _ _ _ _ _ (.pointer (some ⟨M, 1, none⟩)) (.slice (some ⟨gb, 0, none⟩) mb cb) (.int .i64 k) (.pointer (some ⟨B, 0, none⟩)) (.pointer (some ⟨M, 1, none⟩)) _ _ _ _ _ _ _) w5.drew
        refine wpAnyX_take (i := 5) (v := .slice (some ⟨gb, 0, none⟩) mb cb) rfl (by kernel_rfl) (by kernel_rfl) (by kernel_rfl) (by kernel_rfl) (fun _ _ _ h => h) (.inl ⟨rfl, fun w' hw' => exec_load rfl rfl (m_loadC w' _ _ _ _ _ hw'.1)⟩) hS ?_
        change wpAnyX Try.prog .any _ _ _ _ 6 _ (amAct _ _ _ _ _ _ _ _ _ _ _ _ _ _ _ _ _ _ _ _ _ _ _ _ _ _ _ _ _ _ _ _ _ (.pointer (some ⟨M, 1, none⟩)) (.slice (some ⟨gb, 0, none⟩) mb cb) (.int .i64 k) (.pointer (some ⟨B, 0, none⟩)) (.pointer (some ⟨M, 1, none⟩)) (.slice (some ⟨gb, 0, none⟩) mb cb) _ _ _ _ _ _) w5.drew
        refine wpAnyX_take (i := 6) (v := .int .i64 k) rfl (by kernel_rfl) (by kernel_rfl) (by kernel_rfl) (by kernel_rfl) (fun _ _ _ h => h) (.inl ⟨rfl, fun w' hw' => rfl⟩) hS ?_
        change wpAnyX Try.prog .any _ _ _ _ 5 _ (amAct _ _ _ _ _ _ _ _ _ _ _ _ _ _ _ _ _ _ _ _ _ _ _ _ _ _ _ _ _ _ _ _ _ (.pointer (some ⟨M, 1, none⟩)) (.slice (some ⟨gb, 0, none⟩) mb cb) (.int .i64 k) (.pointer (some ⟨B, 0, none⟩)) (.pointer (some ⟨M, 1, none⟩)) (.slice (some ⟨gb, 0, none⟩) mb cb) (.int .i64 k) _ _ _ _ _) w5.drew
        refine wpAnyX_take (i := 7) (v := .pointer (some ⟨gb, k * 5, none⟩)) rfl (by kernel_rfl) (by kernel_rfl) (by kernel_rfl) (by kernel_rfl) (fun _ _ _ h => h) (.inl ⟨rfl, fun w' hw' => exec_index rfl rfl rfl (m_indexC _ _ _ _ _ hk)⟩) hS ?_
        change wpAnyX Try.prog .any _ _ _ _ 4 _ (amAct _ _ _ _ _ _ _ _ _ _ _ _ _ _ _ _ _ _ _ _ _ _ _ _ _ _ _ _ _ _ _ _ _ (.pointer (some ⟨M, 1, none⟩)) (.slice (some ⟨gb, 0, none⟩) mb cb) (.int .i64 k) (.pointer (some ⟨B, 0, none⟩)) (.pointer (some ⟨M, 1, none⟩)) (.slice (some ⟨gb, 0, none⟩) mb cb) (.int .i64 k) (.pointer (some ⟨gb, k * 5, none⟩)) _ _ _ _) w5.drew
        refine wpAnyX_take (i := 8) (v := .agg #[.int .i64 kx, .slice x1 xn1 xc1, .slice x2 xn2 xc2, .int .i64 bx, .slice x4 xn4 xc4]) rfl (by kernel_rfl) (by kernel_rfl) (by kernel_rfl) (by kernel_rfl) (fun _ _ _ h => h) (.inl ⟨rfl, fun w' hw' => exec_load rfl rfl (m_loadE w' _ _ _ _ _ _ _ _ _ _ _ _ _ hw'.2.1 hw'.2.2.1 hw'.2.2.2.1 hw'.2.2.2.2.1 hw'.2.2.2.2.2)⟩) hS ?_
        change wpAnyX Try.prog .any _ _ _ _ 3 _ (amAct _ _ _ _ _ _ _ _ _ _ _ _ _ _ _ _ _ _ _ _ _ _ _ _ _ _ _ _ _ _ _ _ _ (.pointer (some ⟨M, 1, none⟩)) (.slice (some ⟨gb, 0, none⟩) mb cb) (.int .i64 k) (.pointer (some ⟨B, 0, none⟩)) (.pointer (some ⟨M, 1, none⟩)) (.slice (some ⟨gb, 0, none⟩) mb cb) (.int .i64 k) (.pointer (some ⟨gb, k * 5, none⟩)) (.agg #[.int .i64 kx, .slice x1 xn1 xc1, .slice x2 xn2 xc2, .int .i64 bx, .slice x4 xn4 xc4]) _ _ _) w5.drew
        refine wpAnyX_one (i := 9) (by kernel_rfl) rfl (fun K' hK' => ?_)
        refine k_call2 _ rfl 154 _ _ _ _ _ rfl rfl rfl (enters_of Try.func154 (by kernel_rfl) rfl) _ (damage_any (qm Q0 R M (.slice (some ⟨ga, 0, none⟩) m cap) (.slice (some ⟨gb, 0, none⟩) mb cb)) n0 B (p2 + 1 + 1) ⟨kx, vx, ax, bx, rx⟩ _ _ _ w5.drew (HL5.out.rd.drewN 1) HR1.out HR2.out HR4.out HNX.out HVX.out HCX.out (by omega) (by omega) (qm_B HK.out.hQB) ((HL5.out.below HK.out (Below.refl _ w5).drew).new_no HK.out)) (fun c w' h => by obtain ⟨_, _, _, _, _, h, _⟩ := h; cases h) (fun w' h => by obtain ⟨_, _, _, _, _, h, _⟩ := h; cases h) ?_
        rintro vz w6 ⟨v1, v2, v4, c, q6, ev, r1, r2, r4, hnil, hv1, hcl, hq6, hq6', r6, d6⟩
        obtain ⟨a1, vc, e1, -, -, -⟩ := id r1
        obtain ⟨a2, ac, e2, -, -, -⟩ := id r2
        obtain ⟨a4, rc, e4, -, -, -⟩ := id r4
        obtain ⟨vn, hvn⟩ : ∃ n, n = c.vars.length := ⟨_, rfl⟩
        obtain ⟨an, han⟩ : ∃ n, n = c.args.length := ⟨_, rfl⟩
        obtain ⟨rn, hrn⟩ : ∃ n, n = c.rows.length := ⟨_, rfl⟩
        rw [← hvn] at e1
        rw [← han] at e2
        rw [← hrn] at e4
        subst e1 e2 e4
        obtain rfl : vz = .agg #[.int .i64 c.kind, .slice a1 vn vc, .slice a2 an ac, .int .i64 c.bound, .slice a4 rn rc] := by injection ev
        have hd6 : Dn B w5 w6 := (Dn.of_below (Below.refl _ w5).drew).trans d6
        have hL6 := HL5.out.dnStep HK.out hd6 r6
        obtain ⟨t0, t1, t2, t3, t4⟩ := oe_cells hL6 HXK.out
        have ho6 : w6.ownsRow w.heap.size 53 5 (.slice (some ⟨gb, 0, none⟩) mb cb) mb (cellsE xs) := by have := hL6.o2; rw [HXL.out] at this; exact this
        have hS6 : (w6.cell? ⟨M, 1, none⟩ = some (.slice (some ⟨gb, 0, none⟩) mb cb) ∧ w6.cell? ⟨gb, k * 5, none⟩ = some (.int .i64 kx) ∧ w6.cell? ⟨gb, k * 5 + 1, none⟩ = some (.slice x1 xn1 xc1) ∧ w6.cell? ⟨gb, k * 5 + 2, none⟩ = some (.slice x2 xn2 xc2) ∧ w6.cell? ⟨gb, k * 5 + 3, none⟩ = some (.int .i64 bx) ∧ w6.cell? ⟨gb, k * 5 + 4, none⟩ = some (.slice x4 xn4 xc4)) := ⟨hL6.bm.cell.2, t0, t1, t2, t3, t4⟩
        refine hK'.out _ _ (fun _ => hS6) ?_
        clear hK' K'
        change wpAnyX Try.prog .any _ _ _ _ 2 _ (amAct _ _ _ _ _ _ _ _ _ _ _ _ _ _ _ _ _ _ _ _ _ _ _ _ _ _ _ _ _ _ _ _ _ (.pointer (some ⟨M, 1, none⟩)) (.slice (some ⟨gb, 0, none⟩) mb cb) (.int .i64 k) (.pointer (some ⟨B, 0, none⟩)) (.pointer (some ⟨M, 1, none⟩)) (.slice (some ⟨gb, 0, none⟩) mb cb) (.int .i64 k) (.pointer (some ⟨gb, k * 5, none⟩)) (.agg #[.int .i64 kx, .slice x1 xn1 xc1, .slice x2 xn2 xc2, .int .i64 bx, .slice x4 xn4 xc4]) (.agg #[.int .i64 c.kind, .slice a1 vn vc, .slice a2 an ac, .int .i64 c.bound, .slice a4 rn rc]) _ _) w6
        refine wpAnyX_take (i := 10) (v := .pointer (some ⟨gb, k * 5, none⟩)) rfl (by kernel_rfl) (by kernel_rfl) (by kernel_rfl) (by kernel_rfl) (fun _ _ _ h => h) (.inl ⟨rfl, fun w' hw' => exec_index rfl rfl rfl (m_indexC _ _ _ _ _ hk)⟩) hS6 ?_
        change wpAnyX Try.prog .any _ _ _ _ 1 _ (amAct _ _ _ _ _ _ _ _ _ _ _ _ _ _ _ _ _ _ _ _ _ _ _ _ _ _ _ _ _ _ _ _ _ (.pointer (some ⟨M, 1, none⟩)) (.slice (some ⟨gb, 0, none⟩) mb cb) (.int .i64 k) (.pointer (some ⟨B, 0, none⟩)) (.pointer (some ⟨M, 1, none⟩)) (.slice (some ⟨gb, 0, none⟩) mb cb) (.int .i64 k) (.pointer (some ⟨gb, k * 5, none⟩)) (.agg #[.int .i64 kx, .slice x1 xn1 xc1, .slice x2 xn2 xc2, .int .i64 bx, .slice x4 xn4 xc4]) (.agg #[.int .i64 c.kind, .slice a1 vn vc, .slice a2 an ac, .int .i64 c.bound, .slice a4 rn rc]) (.pointer (some ⟨gb, k * 5, none⟩)) _) w6
        refine wpAnyX_one (i := 11) (by kernel_rfl) rfl (fun K' hK' => ?_)
        refine step_skip _ (putE w6 gb k ⟨c, .slice a1 vn vc, .slice a2 an ac, .slice a4 rn rc⟩) rfl (exec_store rfl rfl rfl (m_storeE w6 gb (k * 5) _ _ _ _ _ _ _ _ _ _ _ _ _ _ _ _ _ _ _ _ _ _ t0 t1 t2 t3 t4 (ho6.frozenAt _) (ho6.frozenAt _) (ho6.frozenAt _) (ho6.frozenAt _) (ho6.frozenAt _))) ?_
        refine hK'.out _ _ (fun h => by cases h) ?_
        clear hK' K'
        change wpAnyX Try.prog .any _ _ _ _ 0 _ (amAct _ _ _ _ _ _ _ _ _ _ _ _ _ _ _ _ _ _ _ _ _ _ _ _ _ _ _ _ _ _ _ _ _ (.pointer (some ⟨M, 1, none⟩)) (.slice (some ⟨gb, 0, none⟩) mb cb) (.int .i64 k) (.pointer (some ⟨B, 0, none⟩)) (.pointer (some ⟨M, 1, none⟩)) (.slice (some ⟨gb, 0, none⟩) mb cb) (.int .i64 k) (.pointer (some ⟨gb, k * 5, none⟩)) (.agg #[.int .i64 kx, .slice x1 xn1 xc1, .slice x2 xn2 xc2, .int .i64 bx, .slice x4 xn4 xc4]) (.agg #[.int .i64 c.kind, .slice a1 vn vc, .slice a2 an ac, .int .i64 c.bound, .slice a4 rn rc]) (.pointer (some ⟨gb, k * 5, none⟩)) _) (putE w6 gb k ⟨c, .slice a1 vn vc, .slice a2 an ac, .slice a4 rn rc⟩)
        refine wpAnyX_done (by kernel_rfl) ?_ _
        unfold amAct
        have HL8 := Lib.hid (MS.setC (i := k) (x := ⟨c, .slice a1 vn vc, .slice a2 an ac, .slice a4 rn rc⟩) HK.out (hL6.mono (L' := 21) (by omega)) (by have := HXL.out; omega) ⟨r1, r2, r4, hnil, hv1, hcl⟩)
        clear ho6 hS HS hS6 t0 t1 t2 t3 t4 hL6 hd6 r6 d6 ev r1 r2 r4 hnil hv1 hcl hvn han hrn HL5
        have HFIN := Lib.hid (modDn_fin (p := p) (s := 600) HK.out HL8.out (by have := HDL.out; omega) (by have := HDL.out; omega) (by rw [List.length_set]; have := HXL.out; omega) (by omega) (by omega))
        obtain ⟨p0, p1⟩ := HL8.out.bm.cell
        obtain ⟨o0, o1⟩ := HL8.out.br.cell
        obtain ⟨f0, f1⟩ := HL8.out.br.frozen
        have HQ := Lib.hid (putM_blk HL8.out.br (.slice (some ⟨ga, 0, none⟩) m cap) (.slice (some ⟨gb, 0, none⟩) mb cb)).cell
        clear HL8
        go_wp2
        have hq := HQ.out
        simp only [putM] at hq
        obtain ⟨q0, q1⟩ := hq
        refine bodyPost_ret (v := .agg #[.slice (some ⟨ga, 0, none⟩) m cap, .slice (some ⟨gb, 0, none⟩) mb cb]) (by simp [results, Try.results114, go_sem, q0, q1]) rfl ?_
        exact HFIN.out
      · obtain rfl : mb = 0 := by omega
        have HL9 := Lib.hid (HL4.out.mono (L' := 21) (by omega))
        have HFIN := Lib.hid (modDn_fin (p := p) (s := 600) HK.out HL9.out (by have := HDL.out; omega) (by have := HDL.out; omega) (by have := HXL.out; omega) (by omega) (by omega))
        obtain ⟨p0, p1⟩ := HL9.out.bm.cell
        obtain ⟨o0, o1⟩ := HL9.out.br.cell
        obtain ⟨f0, f1⟩ := HL9.out.br.frozen
        have HQ := Lib.hid (putM_blk HL9.out.br (.slice (some ⟨ga, 0, none⟩) m cap) (.slice ub 0 cb)).cell
        clear HL9 HL4
        go_wp2
        have hq := HQ.out
        simp only [putM] at hq
        obtain ⟨q0, q1⟩ := hq
        refine bodyPost_ret (v := .agg #[.slice (some ⟨ga, 0, none⟩) m cap, .slice ub 0 cb]) (by simp [results, Try.results114, go_sem, q0, q1]) rfl ?_
        exact HFIN.out
  · have HL0 : Hid (MS Q0 n0 B R M 21 w w4.drew (p2 + 1) (.slice (some ⟨ga, 0, none⟩) m cap) (.slice ub mb cb) ds xs) := Lib.hid ((HL4.out.mono (by omega)).below HK.out (Below.refl _ w4).drew)
    have HS : Hid (w4.drew.cell? ⟨M, 0, none⟩ = some (.slice (some ⟨ga, 0, none⟩) m cap)) := Lib.hid HL4.out.bm.cell.1
    go_wp2_with fail
    have hS := HS.out
    have hL0 := HL0.out
    refine region_x (fun w' => w'.cell? ⟨M, 0, none⟩ = some (.slice (some ⟨ga, 0, none⟩) m cap)) (fun i => i == 11) rfl ?_
    change wpAnyX Try.prog .any _ _ _ _ 12 _ (amAct _ _ _ _ _ _ _ _ _ _ _ _ _ _ _ _ _ _ _ _ _ _ _ _ _ _ _ _ _ _ _ _ _ _ _ _ _ _ _ _ _ _ _ _ _) w4.drew
    refine wpAnyX_take (i := 0) (v := .pointer (some ⟨M, 0, none⟩)) rfl (by kernel_rfl) (by kernel_rfl) (by kernel_rfl) (by kernel_rfl) (fun _ _ _ h => h) (.inl ⟨rfl, fun w' hw' => m_field0 rfl rfl⟩) hS ?_
    change wpAnyX Try.prog .any _ _ _ _ 11 _ (amAct _ _ _ _ _ _ _ _ _ _ _ (.pointer (some ⟨M, 0, none⟩)) _ _ _ _ _ _ _ _ _ _ _ _ _ _ _ _ _ _ _ _ _ _ _ _ _ _ _ _ _ _ _ _ _) w4.drew
    refine wpAnyX_take (i := 1) (v := .slice (some ⟨ga, 0, none⟩) m cap) rfl (by kernel_rfl) (by kernel_rfl) (by kernel_rfl) (by kernel_rfl) (fun _ _ _ h => h) (.inl ⟨rfl, fun w' hw' => exec_load rfl rfl (k_loadI w' _ _ _ _ _ hw')⟩) hS ?_
    change wpAnyX Try.prog .any _ _ _ _ 10 _ (amAct _ _ _ _ _ _ _ _ _ _ _ (.pointer (some ⟨M, 0, none⟩)) (.slice (some ⟨ga, 0, none⟩) m cap) _ _ _ _ _ _ _ _ _ _ _ _ _ _ _ _ _ _ _ _ _ _ _ _ _ _ _ _ _ _ _ _) w4.drew
    refine wpAnyX_take (i := 2) (v := .pointer (some ⟨B, 0, none⟩)) rfl (by kernel_rfl) (by kernel_rfl) (by kernel_rfl) (by kernel_rfl) (fun _ _ _ h => h) (.inl ⟨rfl, fun w' hw' => rfl⟩) hS ?_
    change wpAnyX Try.prog .any _ _ _ _ 9 _ (amAct _ _ _ _ _ _ _ _ _ _ _ (.pointer (some ⟨M, 0, none⟩)) (.slice (some ⟨ga, 0, none⟩) m cap) (.pointer (some ⟨B, 0, none⟩)) _ _ _ _ _ _ _ _ _ _ _ _ _ _ _ _ _ _ _ _ _ _ _ _ _ _ _ _ _ _ _) w4.drew
    refine wpAnyX_take (i := 3) (v := .pointer (some ⟨M, 0, none⟩)) rfl (by kernel_rfl) (by kernel_rfl) (by kernel_rfl) (by kernel_rfl) (fun _ _ _ h => h) (.inl ⟨rfl, fun w' hw' => m_field0 rfl rfl⟩) hS ?_
    change wpAnyX Try.prog .any _ _ _ _ 8 _ (amAct _ _ _ _ _ _ _ _ _ _ _ (.pointer (some ⟨M, 0, none⟩)) (.slice (some ⟨ga, 0, none⟩) m cap) (.pointer (some ⟨B, 0, none⟩)) (.pointer (some ⟨M, 0, none⟩)) _ _ _ _ _ _ _ _ _ _ _ _ _ _ _ _ _ _ _ _ _ _ _ _ _ _ _ _ _ _) w4.drew
    refine wpAnyX_take (i := 4) (v := .slice (some ⟨ga, 0, none⟩) m cap) rfl (by kernel_rfl) (by kernel_rfl) (by kernel_rfl) (by kernel_rfl) (fun _ _ _ h => h) (.inl ⟨rfl, fun w' hw' => exec_load rfl rfl (k_loadI w' _ _ _ _ _ hw')⟩) hS ?_
    change wpAnyX Try.prog .any _ _ _ _ 7 _ (amAct _ _ _ _ _ _ _ _ _ _ _ (.pointer (some ⟨M, 0, none⟩)) (.slice (some ⟨ga, 0, none⟩) m cap) (.pointer (some ⟨B, 0, none⟩)) (.pointer (some ⟨M, 0, none⟩)) (.slice (some ⟨ga, 0, none⟩) m cap) _ _ _ _ _ _ _ _ _ _ _ _ _ _ _ _ _ _ _ _ _ _ _ _ _ _ _ _ _) w4.drew
    refine wpAnyX_take (i := 5) (v := .int .i64 m) rfl (by kernel_rfl) (by kernel_rfl) (by kernel_rfl) (by kernel_rfl) (fun _ _ _ h => h) (.inl ⟨rfl, fun w' hw' => m_lenI rfl rfl⟩) hS ?_
    change wpAnyX Try.prog .any _ _ _ _ 6 _ (amAct _ _ _ _ _ _ _ _ _ _ _ (.pointer (some ⟨M, 0, none⟩)) (.slice (some ⟨ga, 0, none⟩) m cap) (.pointer (some ⟨B, 0, none⟩)) (.pointer (some ⟨M, 0, none⟩)) (.slice (some ⟨ga, 0, none⟩) m cap) (.int .i64 m) _ _ _ _ _ _ _ _ _ _ _ _ _ _ _ _ _ _ _ _ _ _ _ _ _ _ _ _) w4.drew
    refine wpAnyX_take (i := 7) (v := .pointer (some ⟨B, 0, none⟩)) rfl (by kernel_rfl) (by kernel_rfl) (by kernel_rfl) (by kernel_rfl) (fun _ _ _ h => h) (.inl ⟨rfl, fun w' hw' => rfl⟩) hS ?_
    change wpAnyX Try.prog .any _ _ _ _ 5 _ (amAct _ _ _ _ _ _ _ _ _ _ _ (.pointer (some ⟨M, 0, none⟩)) (.slice (some ⟨ga, 0, none⟩) m cap) (.pointer (some ⟨B, 0, none⟩)) (.pointer (some ⟨M, 0, none⟩)) (.slice (some ⟨ga, 0, none⟩) m cap) (.int .i64 m) _ (.pointer (some ⟨B, 0, none⟩)) _ _ _ _ _ _ _ _ _ _ _ _ _ _ _ _ _ _ _ _ _ _ _ _ _ _) w4.drew
    refine wpAnyX_two (i := 6) (j := 8) (by kernel_rfl) rfl rfl (fun K' hK' => ?_) (fun K' hK' => ?_)
    · refine k_call2 _ rfl 125 _ _ _ _ _ rfl rfl rfl (enters_of Try.func125 (by kernel_rfl) rfl) _ (pick_dn n0 B (p2 + 1) m w4.drew hL0.rd (by omega) (by omega) (by omega)) (fun c w' h => by obtain ⟨_, h, _⟩ := h; cases h) (fun w' h => by obtain ⟨_, h, _⟩ := h; cases h) ?_
      rintro vz w5 ⟨z1, ev, hz0, hz1, r5, d5⟩
      obtain ⟨i, rfl⟩ := Int.eq_ofNat_of_zero_le hz0
      have hi : i < m := by omega
      obtain rfl : vz = .int .i64 i := by injection ev
      have hLw5 := hL0.dnStep HK.out d5 r5
      have hSw5 : w5.cell? ⟨M, 0, none⟩ = some (.slice (some ⟨ga, 0, none⟩) m cap) := hLw5.bm.cell.1
      refine hK'.out _ _ (fun _ => hSw5) ?_
      clear hK' K'
      change wpAnyX Try.prog .any _ _ _ _ 4 _ (amAct _ _ _ _ _ _ _ _ _ _ _ (.pointer (some ⟨M, 0, none⟩)) (.slice (some ⟨ga, 0, none⟩) m cap) (.pointer (some ⟨B, 0, none⟩)) (.pointer (some ⟨M, 0, none⟩)) (.slice (some ⟨ga, 0, none⟩) m cap) (.int .i64 m) (.int .i64 i) (.pointer (some ⟨B, 0, none⟩)) _ _ _ _ _ _ _ _ _ _ _ _ _ _ _ _ _ _ _ _ _ _ _ _ _ _) w5
      refine wpAnyX_one (i := 8) (by kernel_rfl) rfl (fun K' hK' => ?_)
      refine step_value _ (w5.alloc (.cells #[.int .i64 (-1), .int .i64 64, .int .i64 0] 3)) rfl _ (m_exec3 rfl rfl rfl rfl (m_build3 _)) ?_
      have hLV := hLw5.below HK.out ((Below.refl w5.heap.size w5).alloc (Nat.le_refl _) (.cells #[.int .i64 (-1), .int .i64 64, .int .i64 0] 3))
      have hSV : (w5.alloc (.cells #[.int .i64 (-1), .int .i64 64, .int .i64 0] 3)).cell? ⟨M, 0, none⟩ = some (.slice (some ⟨ga, 0, none⟩) m cap) := hLV.bm.cell.1
      have q1 : (w5.alloc (.cells #[.int .i64 (-1), .int .i64 64, .int .i64 0] 3)).heap[w5.heap.size]? = some (.cells #[.int .i64 (-1), .int .i64 64, .int .i64 0] 3) := World.alloc_heap_new _ _
      refine hK'.out _ _ (fun _ => hSV) ?_
      clear hK' K'
      change wpAnyX Try.prog .any _ _ _ _ 3 _ (amAct _ _ _ _ _ _ _ _ _ _ _ (.pointer (some ⟨M, 0, none⟩)) (.slice (some ⟨ga, 0, none⟩) m cap) (.pointer (some ⟨B, 0, none⟩)) (.pointer (some ⟨M, 0, none⟩)) (.slice (some ⟨ga, 0, none⟩) m cap) (.int .i64 m) (.int .i64 i) (.pointer (some ⟨B, 0, none⟩)) (.slice (some ⟨w5.heap.size, 0, none⟩) 3 3) _ _ _ _ _ _ _ _ _ _ _ _ _ _ _ _ _ _ _ _ _ _ _ _ _) (w5.alloc (.cells #[.int .i64 (-1), .int .i64 64, .int .i64 0] 3))
      refine wpAnyX_one (i := 9) (by kernel_rfl) rfl (fun K' hK' => ?_)
      have hLB : w5.heap.size ≠ B := by have := r5.lt; omega
      have hcc : ∀ i, i < 3 → (w5.alloc (.cells #[.int .i64 (-1), .int .i64 64, .int .i64 0] 3)).cell? ⟨w5.heap.size, i, none⟩ = some (.int .i64 (([-1, 64, 0] : List Int)[i]?.getD 0)) := fun i hi => by simp only [World.cell?, q1]; rcases (show i = 0 ∨ i = 1 ∨ i = 2 by omega) with rfl | rfl | rfl <;> rfl
      refine k_call2 _ rfl 153 _ _ _ _ _ rfl rfl rfl (enters_of Try.func153 (by kernel_rfl) rfl) _ (one_dn n0 B w5.heap.size 3 (p2 + 1 + 1) (fun i => ([-1, 64, 0] : List Int)[i]?.getD 0) (w5.alloc (.cells #[.int .i64 (-1), .int .i64 64, .int .i64 0] 3)) hLV.rd (by omega) (by omega) (by omega) (by omega) hLB hcc) (fun c w' h => by obtain ⟨_, _, h, _⟩ := h; cases h) (fun w' h => by obtain ⟨_, _, h, _⟩ := h; cases h) ?_
      rintro vz w7 ⟨iz, hiz, ev7, r7, d7⟩
      obtain ⟨z, hz⟩ : ∃ z, z = ([-1, 64, 0] : List Int)[iz]?.getD 0 := ⟨_, rfl⟩
      obtain rfl : vz = .int .i64 z := by rw [hz]; injection ev7
      have hL7 := hLV.dnStep HK.out d7 r7
      have hS7 : w7.cell? ⟨M, 0, none⟩ = some (.slice (some ⟨ga, 0, none⟩) m cap) := hL7.bm.cell.1
      refine hK'.out _ _ (fun _ => hS7) ?_
      clear hK' K'
      change wpAnyX Try.prog .any _ _ _ _ 2 _ (amAct _ _ _ _ _ _ _ _ _ _ _ (.pointer (some ⟨M, 0, none⟩)) (.slice (some ⟨ga, 0, none⟩) m cap) (.pointer (some ⟨B, 0, none⟩)) (.pointer (some ⟨M, 0, none⟩)) (.slice (some ⟨ga, 0, none⟩) m cap) (.int .i64 m) (.int .i64 i) (.pointer (some ⟨B, 0, none⟩)) (.slice (some ⟨w5.heap.size, 0, none⟩) 3 3) (.int .i64 z) _ _ _ _ _ _ _ _ _ _ _ _ _ _ _ _ _ _ _ _ _ _ _ _) w7
      refine wpAnyX_take (i := 10) (v := .pointer (some ⟨ga, i, none⟩)) rfl (by kernel_rfl) (by kernel_rfl) (by kernel_rfl) (by kernel_rfl) (fun _ _ _ h => h) (.inl ⟨rfl, fun w' hw' => exec_index rfl rfl rfl (index0_ints _ _ _ _ _ hi)⟩) hS7 ?_
      change wpAnyX Try.prog .any _ _ _ _ 1 _ (amAct _ _ _ _ _ _ _ _ _ _ _ (.pointer (some ⟨M, 0, none⟩)) (.slice (some ⟨ga, 0, none⟩) m cap) (.pointer (some ⟨B, 0, none⟩)) (.pointer (some ⟨M, 0, none⟩)) (.slice (some ⟨ga, 0, none⟩) m cap) (.int .i64 m) (.int .i64 i) (.pointer (some ⟨B, 0, none⟩)) (.slice (some ⟨w5.heap.size, 0, none⟩) 3 3) (.int .i64 z) (.pointer (some ⟨ga, i, none⟩)) _ _ _ _ _ _ _ _ _ _ _ _ _ _ _ _ _ _ _ _ _ _ _) w7
      refine wpAnyX_one (i := 11) (by kernel_rfl) rfl (fun K' hK' => ?_)
      have hi2 : i < ds.length := by have := HDL.out; omega
      have ho7 : w7.ownsRow w.heap.size 3 1 (.slice (some ⟨ga, 0, none⟩) m cap) m (ds.map (Value.int .i64)) := by have := hL7.o1; rw [HDL.out] at this; exact this
      have hc7 := hL7.o1.cells (g := ga) rfl i (.int .i64 (ds[i]?.getD 0)) (by simp [hi2])
      rw [addr_add, Nat.zero_add] at hc7
      refine step_skip _ (w7.setCell ⟨ga, i, none⟩ (.int .i64 z)) rfl (exec_store rfl rfl rfl (store_int w7 ga i _ z hc7 (ho7.frozenAt i))) ?_
      refine hK'.out _ _ (fun h => by cases h) ?_
      clear hK' K'
      change wpAnyX Try.prog .any _ _ _ _ 0 _ (amAct _ _ _ _ _ _ _ _ _ _ _ (.pointer (some ⟨M, 0, none⟩)) (.slice (some ⟨ga, 0, none⟩) m cap) (.pointer (some ⟨B, 0, none⟩)) (.pointer (some ⟨M, 0, none⟩)) (.slice (some ⟨ga, 0, none⟩) m cap) (.int .i64 m) (.int .i64 i) (.pointer (some ⟨B, 0, none⟩)) (.slice (some ⟨w5.heap.size, 0, none⟩) 3 3) (.int .i64 z) (.pointer (some ⟨ga, i, none⟩)) _ _ _ _ _ _ _ _ _ _ _ _ _ _ _ _ _ _ _ _ _ _ _) (w7.setCell ⟨ga, i, none⟩ (.int .i64 z))
      refine wpAnyX_done (by kernel_rfl) ?_ _
      unfold amAct
      have HL8 := Lib.hid (MS.setD (z := z) HK.out hL7 hi2)
      clear hL0 hLw5 hSw5 hLV hSV q1 hcc hLB r5 d5 r7 d7 ev7 ev hL7 hS7 hc7 ho7 hz hiz HL4 hS HS
      have HFIN := Lib.hid (modDn_fin (p := p) (s := 600) HK.out HL8.out (by rw [List.length_set]; have := HDL.out; omega) (by rw [List.length_set]; have := HDL.out; omega) (by have := HXL.out; omega) (by omega) (by omega))
      obtain ⟨p0, p1⟩ := HL8.out.bm.cell
      obtain ⟨o0, o1⟩ := HL8.out.br.cell
      obtain ⟨f0, f1⟩ := HL8.out.br.frozen
      have HQ := Lib.hid (putM_blk HL8.out.br (.slice (some ⟨ga, 0, none⟩) m cap) (.slice ub mb cb)).cell
      clear HL8
      go_wp2
      have hq := HQ.out
      simp only [putM] at hq
      obtain ⟨q0, q1⟩ := hq
      refine bodyPost_ret (v := .agg #[.slice (some ⟨ga, 0, none⟩) m cap, .slice ub mb cb]) (by simp [results, Try.results114, go_sem, q0, q1]) rfl ?_
      exact HFIN.out
    · refine step_value _ (w4.drew.alloc (.cells #[.int .i64 (-1), .int .i64 64, .int .i64 0] 3)) rfl _ (m_exec3 rfl rfl rfl rfl (m_build3 _)) ?_
      have hLV := hL0.below HK.out ((Below.refl w4.drew.heap.size w4.drew).alloc (Nat.le_refl _) (.cells #[.int .i64 (-1), .int .i64 64, .int .i64 0] 3))
      have hSV : (w4.drew.alloc (.cells #[.int .i64 (-1), .int .i64 64, .int .i64 0] 3)).cell? ⟨M, 0, none⟩ = some (.slice (some ⟨ga, 0, none⟩) m cap) := hLV.bm.cell.1
      have q1 : (w4.drew.alloc (.cells #[.int .i64 (-1), .int .i64 64, .int .i64 0] 3)).heap[w4.drew.heap.size]? = some (.cells #[.int .i64 (-1), .int .i64 64, .int .i64 0] 3) := World.alloc_heap_new _ _
      refine hK'.out _ _ (fun _ => hSV) ?_
      clear hK' K'
      change wpAnyX Try.prog .any _ _ _ _ 4 _ (amAct _ _ _ _ _ _ _ _ _ _ _ (.pointer (some ⟨M, 0, none⟩)) (.slice (some ⟨ga, 0, none⟩) m cap) (.pointer (some ⟨B, 0, none⟩)) (.pointer (some ⟨M, 0, none⟩)) (.slice (some ⟨ga, 0, none⟩) m cap) (.int .i64 m) _ (.pointer (some ⟨B, 0, none⟩)) (.slice (some ⟨w4.drew.heap.size, 0, none⟩) 3 3) _ _ _ _ _ _ _ _ _ _ _ _ _ _ _ _ _ _ _ _ _ _ _ _ _) (w4.drew.alloc (.cells #[.int .i64 (-1), .int .i64 64, .int .i64 0] 3))
      refine wpAnyX_one (i := 6) (by kernel_rfl) rfl (fun K' hK' => ?_)
      refine k_call2 _ rfl 125 _ _ _ _ _ rfl rfl rfl (enters_of Try.func125 (by kernel_rfl) rfl) _ (pick_dn n0 B (p2 + 1) m (w4.drew.alloc (.cells #[.int .i64 (-1), .int .i64 64, .int .i64 0] 3)) hLV.rd (by omega) (by omega) (by omega)) (fun c w' h => by obtain ⟨_, h, _⟩ := h; cases h) (fun w' h => by obtain ⟨_, h, _⟩ := h; cases h) ?_
      rintro vz w5 ⟨z1, ev, hz0, hz1, r5, d5⟩
      obtain ⟨i, rfl⟩ := Int.eq_ofNat_of_zero_le hz0
      have hi : i < m := by omega
      obtain rfl : vz = .int .i64 i := by injection ev
      have hLw5 := hLV.dnStep HK.out d5 r5
      have hSw5 : w5.cell? ⟨M, 0, none⟩ = some (.slice (some ⟨ga, 0, none⟩) m cap) := hLw5.bm.cell.1
      refine hK'.out _ _ (fun _ => hSw5) ?_
      clear hK' K'
      change wpAnyX Try.prog .any _ _ _ _ 3 _ (amAct _ _ _ _ _ _ _ _ _ _ _ (.pointer (some ⟨M, 0, none⟩)) (.slice (some ⟨ga, 0, none⟩) m cap) (.pointer (some ⟨B, 0, none⟩)) (.pointer (some ⟨M, 0, none⟩)) (.slice (some ⟨ga, 0, none⟩) m cap) (.int .i64 m) (.int .i64 i) (.pointer (some ⟨B, 0, none⟩)) (.slice (some ⟨w4.drew.heap.size, 0, none⟩) 3 3) _ _ _ _ _ _ _ _ _ _ _ _ _ _ _ _ _ _ _ _ _ _ _ _ _) w5
      refine wpAnyX_one (i := 9) (by kernel_rfl) rfl (fun K' hK' => ?_)
      have hLB : w4.drew.heap.size ≠ B := by have := hL0.rd.lt; omega
      have hkq := d5.block w4.drew.heap.size (by simp) hLB
      have hcc : ∀ i, i < 3 → w5.cell? ⟨w4.drew.heap.size, i, none⟩ = some (.int .i64 (([-1, 64, 0] : List Int)[i]?.getD 0)) := fun i hi => by simp only [World.cell?, hkq, q1]; rcases (show i = 0 ∨ i = 1 ∨ i = 2 by omega) with rfl | rfl | rfl <;> rfl
      refine k_call2 _ rfl 153 _ _ _ _ _ rfl rfl rfl (enters_of Try.func153 (by kernel_rfl) rfl) _ (one_dn n0 B w4.drew.heap.size 3 (p2 + 1 + 1) (fun i => ([-1, 64, 0] : List Int)[i]?.getD 0) w5 hLw5.rd (by omega) (by omega) (by omega) (by omega) hLB hcc) (fun c w' h => by obtain ⟨_, _, h, _⟩ := h; cases h) (fun w' h => by obtain ⟨_, _, h, _⟩ := h; cases h) ?_
      rintro vz w7 ⟨iz, hiz, ev7, r7, d7⟩
      obtain ⟨z, hz⟩ : ∃ z, z = ([-1, 64, 0] : List Int)[iz]?.getD 0 := ⟨_, rfl⟩
      obtain rfl : vz = .int .i64 z := by rw [hz]; injection ev7
      have hL7 := hLw5.dnStep HK.out d7 r7
      have hS7 : w7.cell? ⟨M, 0, none⟩ = some (.slice (some ⟨ga, 0, none⟩) m cap) := hL7.bm.cell.1
      refine hK'.out _ _ (fun _ => hS7) ?_
      clear hK' K'
      change wpAnyX Try.prog .any _ _ _ _ 2 _ (amAct _ _ _ _ _ _ _ _ _ _ _ (.pointer (some ⟨M, 0, none⟩)) (.slice (some ⟨ga, 0, none⟩) m cap) (.pointer (some ⟨B, 0, none⟩)) (.pointer (some ⟨M, 0, none⟩)) (.slice (some ⟨ga, 0, none⟩) m cap) (.int .i64 m) (.int .i64 i) (.pointer (some ⟨B, 0, none⟩)) (.slice (some ⟨w4.drew.heap.size, 0, none⟩) 3 3) (.int .i64 z) _ _ _ _ _ _ _ _ _ _ _ _ _ _ _ _ _ _ _ _ _ _ _ _) w7
      refine wpAnyX_take (i := 10) (v := .pointer (some ⟨ga, i, none⟩)) rfl (by kernel_rfl) (by kernel_rfl) (by kernel_rfl) (by kernel_rfl) (fun _ _ _ h => h) (.inl ⟨rfl, fun w' hw' => exec_index rfl rfl rfl (index0_ints _ _ _ _ _ hi)⟩) hS7 ?_
      change wpAnyX Try.prog .any _ _ _ _ 1 _ (amAct _ _ _ _ _ _ _ _ _ _ _ (.pointer (some ⟨M, 0, none⟩)) (.slice (some ⟨ga, 0, none⟩) m cap) (.pointer (some ⟨B, 0, none⟩)) (.pointer (some ⟨M, 0, none⟩)) (.slice (some ⟨ga, 0, none⟩) m cap) (.int .i64 m) (.int .i64 i) (.pointer (some ⟨B, 0, none⟩)) (.slice (some ⟨w4.drew.heap.size, 0, none⟩) 3 3) (.int .i64 z) (.pointer (some ⟨ga, i, none⟩)) _ _ _ _ _ _ _ _ _ _ _ _ _ _ _ _ _ _ _ _ _ _ _) w7
      refine wpAnyX_one (i := 11) (by kernel_rfl) rfl (fun K' hK' => ?_)
      have hi2 : i < ds.length := by have := HDL.out; omega
      have ho7 : w7.ownsRow w.heap.size 3 1 (.slice (some ⟨ga, 0, none⟩) m cap) m (ds.map (Value.int .i64)) := by have := hL7.o1; rw [HDL.out] at this; exact this
      have hc7 := hL7.o1.cells (g := ga) rfl i (.int .i64 (ds[i]?.getD 0)) (by simp [hi2])
      rw [addr_add, Nat.zero_add] at hc7
      refine step_skip _ (w7.setCell ⟨ga, i, none⟩ (.int .i64 z)) rfl (exec_store rfl rfl rfl (store_int w7 ga i _ z hc7 (ho7.frozenAt i))) ?_
      refine hK'.out _ _ (fun h => by cases h) ?_
      clear hK' K'
      change wpAnyX Try.prog .any _ _ _ _ 0 _ (amAct _ _ _ _ _ _ _ _ _ _ _ (.pointer (some ⟨M, 0, none⟩)) (.slice (some ⟨ga, 0, none⟩) m cap) (.pointer (some ⟨B, 0, none⟩)) (.pointer (some ⟨M, 0, none⟩)) (.slice (some ⟨ga, 0, none⟩) m cap) (.int .i64 m) (.int .i64 i) (.pointer (some ⟨B, 0, none⟩)) (.slice (some ⟨w4.drew.heap.size, 0, none⟩) 3 3) (.int .i64 z) (.pointer (some ⟨ga, i, none⟩)) _ _ _ _ _ _ _ _ _ _ _ _ _ _ _ _ _ _ _ _ _ _ _) (w7.setCell ⟨ga, i, none⟩ (.int .i64 z))
      refine wpAnyX_done (by kernel_rfl) ?_ _
      unfold amAct
      have HL8 := Lib.hid (MS.setD (z := z) HK.out hL7 hi2)
      clear hL0 hLw5 hSw5 hLV hSV q1 hcc hLB r5 d5 r7 d7 ev7 ev hL7 hS7 hc7 ho7 hz hiz HL4 hS HS
      have HFIN := Lib.hid (modDn_fin (p := p) (s := 600) HK.out HL8.out (by rw [List.length_set]; have := HDL.out; omega) (by rw [List.length_set]; have := HDL.out; omega) (by have := HXL.out; omega) (by omega) (by omega))
      obtain ⟨p0, p1⟩ := HL8.out.bm.cell
      obtain ⟨o0, o1⟩ := HL8.out.br.cell
      obtain ⟨f0, f1⟩ := HL8.out.br.frozen
      have HQ := Lib.hid (putM_blk HL8.out.br (.slice (some ⟨ga, 0, none⟩) m cap) (.slice ub mb cb)).cell
      clear HL8
      go_wp2
      have hq := HQ.out
      simp only [putM] at hq
      obtain ⟨q0, q1⟩ := hq
      refine bodyPost_ret (v := .agg #[.slice (some ⟨ga, 0, none⟩) m cap, .slice ub mb cb]) (by simp [results, Try.results114, go_sem, q0, q1]) rfl ?_
      exact HFIN.out
end Go.Proofs.Ytjdbfiiaadphhaa

/-! The draw of a model for a law. -/
namespace Go.Proofs.Ytjdbfiiaadphhaa
open Go.ChangeShapes Go.WideShapes Go.ChangeAt Go.RowKit Go.Shelf
set_option linter.unusedVariables false
set_option linter.unusedSimpArgs false

/-- A model, drawn for a law. -/
def ModDrawn (w : World) (e : Ending) (w' : World) : Prop :=
  ∃ (u1 u2 : Value) (m : Mod), e = .returned (.agg #[u1, u2]) ∧ RdInts w' u1 m.doms ∧ RdCons w' u2 m.cons ∧ ModLe m 21 ∧ 1 ≤ m.doms.length ∧ m.doms.length ≤ 4 ∧ m.cons.length ≤ 6 ∧ Below w.heap.size w w'
theorem codeOk_below {n0 : Nat} {w w' : World} {a : Option Addr} {len cap : Nat} (h : CodeOk n0 w a len cap) (hb : Below n0 w w') : CodeOk n0 w' a len cap := by
  refine ⟨h.1, h.2.1, ?_⟩
  rcases h.2.2 with h0 | ⟨b, off, f, ha, hb0, hf, hx⟩
  · exact .inl h0
  · exact .inr ⟨b, off, f, ha, hb0, hf, fun i hi => (hb.cell (p := ⟨b, off + i, none⟩) hb0).trans (hx i hi)⟩
theorem inc_putM {Q : Nat → Bool} {W : World} {R : Nat} (hR : Q R = true) (u1 u2 : Value) : Inc (av Q W) (av Q (putM W R u1 u2)) :=
  (((Fr.refl Q W).setCell (p := ⟨R, 0, none⟩) hR u1).setCell (p := ⟨R, 1, none⟩) hR u2).inc

set_option maxRecDepth 100000 in
set_option maxHeartbeats 64000000 in
theorem drawPro_any (a : Option Addr) (len cap : Nat) (w : World) (h : CodeOk w.heap.size w a len cap) :
    Calls Try.prog 53 #[.slice a len cap] w (ModDrawn w) := by
  obtain ⟨R, hRe⟩ : ∃ R, R = w.heap.size := ⟨_, rfl⟩
  obtain ⟨W1, hW1⟩ : ∃ W1, w.alloc (.cells #[.slice none 0 0, .slice none 0 0] 68) = W1 := ⟨_, rfl⟩
  have b1 : Below w.heap.size w W1 := by rw [← hW1]; exact (Below.refl _ _).alloc (Nat.le_refl _) _
  have hbr : Blk2 W1 R 68 (.slice none 0 0) (.slice none 0 0) := by rw [← hW1, hRe]; exact Blk2.new w _ _ _
  have HC1 := Lib.hid (codeOk_below h b1)
  have HB1 := Lib.hid b1
  have HBR := Lib.hid hbr
  have HRE := Lib.hid hRe
  have HW1 := Lib.hid hW1
  clear h hbr hRe hW1 b1
  go_enter Try.func53, Try.ntmps53
  go_wp2_with fail
  rw [HW1.out, ← HRE.out]
  clear HW1
  refine (newReader_any w.heap.size a len cap W1 HB1.out.size HC1.out).mono ?_
  rintro e w1 ⟨rfl, hr, hb, hz⟩
  obtain ⟨B, hBe⟩ : ∃ B, B = W1.heap.size := ⟨_, rfl⟩
  rw [← hBe] at hr hz ⊢
  have hRB : R < B := by rw [hBe]; exact HBR.out.lt
  have HBR1 : Hid (Blk2 w1 R 68 (.slice none 0 0) (.slice none 0 0)) := Lib.hid ((hb.block R HBR.out.lt).trans HBR.out)
  have HR1 := Lib.hid hr
  have HZ1 := Lib.hid hz
  have HRB := Lib.hid hRB
  have HWW := Lib.hid (show Below w.heap.size w w1 from HB1.out.trans (hb.mono HB1.out.size))
  have HQ := Lib.hid (show ∀ b, w1.heap.size ≤ b → (b == B || b == R) = false from fun b hb => by
    have h1 : b ≠ B := by omega
    have h2 : b ≠ R := by omega
    simp [h1, h2])
  clear hr hb hz hBe hRB HBR HC1 HB1
  go_wp2_with fail
  refine (anyModel_any (fun b => b == B || b == R) w.heap.size B 0 w1 HR1.out (by omega) (by omega) (by simp) HQ.out).mono ?_
  rintro e w2 ⟨u1, u2, ds, xs, q, rfl, o1, o2, ne, ok, h1, h4, h6, hq, hq', rd, d⟩
  obtain ⟨a1, c1, rfl, -, -⟩ := own_form o1
  obtain ⟨a2, c2, rfl, -, -⟩ := own_form o2
  obtain ⟨n1, hn1⟩ : ∃ n, n = ds.length := ⟨_, rfl⟩
  obtain ⟨n2, hn2⟩ : ∃ n, n = xs.length := ⟨_, rfl⟩
  have hbr2 : Blk2 w2 R 68 (.slice none 0 0) (.slice none 0 0) := (d.block R HBR1.out.lt (by have := HRB.out; omega)).trans HBR1.out
  have hkeep : ∀ b, b ≠ R → (putM w2 R (.slice a1 ds.length c1) (.slice a2 xs.length c2)).heap[b]? = w2.heap[b]? := fun b hb => by
    unfold putM
    rw [Below.heap_setCell _ _ _ _ (by exact hb), Below.heap_setCell _ _ _ _ (by exact hb)]
  have hRw : R < w1.heap.size := HBR1.out.lt
  have r1 := rdInts_of_own (own_keepB o1 (fun b hb => hkeep b (by have := (o1.lt b hb).1; omega)))
  have r2 := ownE_rd (own_keepB o2 (fun b hb => hkeep b (by have := (o2.lt b hb).1; omega))) (fun x hx => (ok x hx).inc (inc_putM (by simp) _ _))
  have hle := consLe_of ok (by omega)
  have hRw2 : w.heap.size ≤ R := by rw [HRE.out]; exact Nat.le_refl _
  have hbel : Below w.heap.size w (putM w2 R (.slice a1 ds.length c1) (.slice a2 xs.length c2)) := by
    unfold putM
    exact (((HWW.out.trans (d.below (by have := HRB.out; omega) HWW.out.size)).setCell hRw2 _).setCell hRw2 _)
  have HF : Hid (ModDrawn w (.returned (.agg #[.slice a1 ds.length c1, .slice a2 xs.length c2])) (putM w2 R (.slice a1 ds.length c1) (.slice a2 xs.length c2))) :=
    Lib.hid ⟨_, _, ⟨ds, xs.map CE.c⟩, rfl, r1, r2, ⟨by show ds.length ≤ 21; omega, hle⟩, h1, h4, by simpa using h6, hbel⟩
  have HQ2 := Lib.hid (putM_blk hbr2 (.slice a1 ds.length c1) (.slice a2 xs.length c2)).cell
  rw [← hn1, ← hn2] at HF HQ2
  rw [← hn1, ← hn2]
  obtain ⟨o0, o1'⟩ := hbr2.cell
  obtain ⟨f0, f1⟩ := hbr2.frozen
  clear hbr2 hkeep hRw r1 r2 hle hRw2 hbel ok o1 o2 ne h1 h4 h6 hq hq' rd d hn1 hn2
  go_wp2
  have hq := HQ2.out
  simp only [putM] at hq
  obtain ⟨q0, q1⟩ := hq
  refine bodyPost_ret (v := .agg #[.slice a1 n1 c1, .slice a2 n2 c2]) (by simp [results, Try.results53, go_sem, q0, q1]) rfl ?_
  exact HF.out
end Go.Proofs.Ytjdbfiiaadphhaa
