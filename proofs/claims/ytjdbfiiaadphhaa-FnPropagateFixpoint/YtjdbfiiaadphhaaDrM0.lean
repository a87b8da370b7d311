/- The draw of a model: what stands while it is made. -/
import Derived.Test.YtjdbfiiaadphhaaDrG
import Derived.Test.YtjdbfiiaadphhaaMod
import Derived.ArgAppend
namespace Go.Proofs.Ytjdbfiiaadphhaa
open Go.ChangeShapes Go.WideShapes Go.ChangeAt Go.RowKit Go.Shelf
set_option linter.unusedVariables false
set_option linter.unusedSimpArgs false

/-- append to a row of one's own: it stays in its block, or lies in a new one. -/
theorem run_append_own_at {P : Program} (w : World) (base : Nat) (t ty e : TypeId) (i : TypeInfo) (z : Value) (size bytes : Nat) (ht : P.underlying t = some (.slice e)) (hi : P.info? e = some i) (hz : i.zero = some z)
    (hsize : i.size = size) (hby : i.bytes = bytes) (hzs : z.cells.size = size) (hsz : 0 < size)
    (v : Value) (n : Nat) (xs : List Value) (hown : w.ownsRow base e size v n xs)
    (a : Addr) (m c : Nat) (news : List Value) (hl : news.length = m * size) (hnews : ∀ j u, news[j]? = some u → w.cell? (a.add j) = some u) (h1 : ∀ u ∈ news, u.oneCell' = true)
    (h63 : n + m ≤ maxLen) (hbytes : (n + m) * bytes ≤ 140737488355328) (hbase : base ≤ w.heap.size) :
    ∃ v' w', (Builtin.append_ #[t, t] ty #[v, .slice (some a) m c]).run P w = .ok v' w' ∧ w'.ownsRow base e size v' (n + m) (xs ++ news) ∧ w.grownBy w' v.ownBlock ∧ (v'.ownBlock = v.ownBlock ∨ ∀ g, v'.ownBlock = some g → w.heap.size ≤ g) := by
  obtain ⟨v', w', hr, ho, hg, -⟩ := run_append_own (P := P) w base t ty e i z size bytes ht hi hz hsize hby hzs hsz v n xs hown a m c news hl hnews h1 h63 hbytes hbase
  refine ⟨v', w', hr, ho, hg, ?_⟩
  rcases hown.2 with ⟨rfl, rfl⟩ | ⟨g, cap, cur, rfl, hbg, hgc, hnc, hcm, hcs, htake⟩
  · right
    have hxs : xs = [] := List.eq_nil_of_length_eq_zero (by simpa using hown.1)
    subst hxs
    obtain ⟨v2, w2, hr2, ho2, -, -⟩ := run_append_own (P := P) w w.heap.size t ty e i z size bytes ht hi hz hsize hby hzs hsz (.slice none 0 0) 0 [] (World.ownsRow_nil _ _ _ _) a m c news hl hnews h1 h63 hbytes (Nat.le_refl _)
    rw [hr] at hr2
    injection hr2 with e1 e2
    subst e1
    exact fun g e => (ho2.lt g e).1
  · by_cases hroom : n + m ≤ cap
    · left
      subst hsize
      have hfit : n * i.size + news.length ≤ cur.size := by rw [hl, hcs, ← Nat.add_mul]; exact Nat.mul_le_mul_right _ hroom
      have hr2 := run_append_room (P := P) w t ty e i ht hi g n cap cur hgc a m c news hl hnews h1 hroom hfit
      rw [hr] at hr2
      injection hr2 with e1 e2
      rw [e1]
      rfl
    · right
      obtain ⟨v2, w2, hr2, ho2, -⟩ := run_append_arg_grows (P := P) w t ty e i z size bytes ht hi hz hsize hby hzs hsz ⟨g, 0, none⟩ n cap xs hown.1 (hown.cells (g := g) rfl) a m c news hl hnews (by omega) h63 hbytes
      rw [hr] at hr2
      injection hr2 with e1 e2
      subst e1
      exact fun g e => (ho2.lt g e).1

/-- A constraint in a list: its data and its three slices. -/
structure CE where
  c : Con
  v : Value
  a : Value
  r : Value
def CE.ok (Q : Nat → Bool) (W : World) (M : Nat) (x : CE) : Prop := RdInts (av Q W) x.v x.c.vars ∧ RdInts (av Q W) x.a x.c.args ∧ RdRows (av Q W) x.r x.c.rows ∧ NilOk x.a ∧ 1 ≤ x.c.vars.length ∧ ConLe x.c M
theorem CE.ok.inc {Q Q' : Nat → Bool} {W W' : World} {M : Nat} {x : CE} (h : x.ok Q W M) (hi : Inc (av Q W) (av Q' W')) : x.ok Q' W' M :=
  ⟨h.1.inc hi, h.2.1.inc hi, h.2.2.1.inc hi, h.2.2.2⟩
def cellsE : List CE → List Value
  | [] => []
  | x :: xs => .int .i64 x.c.kind :: x.v :: x.a :: .int .i64 x.c.bound :: x.r :: cellsE xs
theorem cellsE_length : ∀ xs : List CE, (cellsE xs).length = xs.length * 5
  | [] => rfl
  | x :: xs => by simp [cellsE, cellsE_length xs]; omega
theorem cellsE_append : ∀ xs ys : List CE, cellsE (xs ++ ys) = cellsE xs ++ cellsE ys
  | [], ys => rfl
  | x :: xs, ys => by simp [cellsE, cellsE_append xs ys]
theorem cellsE_at : ∀ (xs : List CE) (i : Nat) (x : CE), xs[i]? = some x → (cellsE xs)[i * 5]? = some (.int .i64 x.c.kind) ∧ (cellsE xs)[i * 5 + 1]? = some x.v ∧ (cellsE xs)[i * 5 + 2]? = some x.a ∧ (cellsE xs)[i * 5 + 3]? = some (.int .i64 x.c.bound) ∧ (cellsE xs)[i * 5 + 4]? = some x.r
  | [], i, x, h => by simp at h
  | a :: xs, 0, x, h => by
    simp at h
    subst h
    exact ⟨rfl, rfl, rfl, rfl, rfl⟩
  | a :: xs, i + 1, x, h => by
    have := cellsE_at xs i x (by simpa using h)
    rw [show (i + 1) * 5 = i * 5 + 1 + 1 + 1 + 1 + 1 from by omega]
    exact this
theorem cellsE_set : ∀ (xs : List CE) (i : Nat) (x : CE), i < xs.length → (((((cellsE xs).set (i * 5) (.int .i64 x.c.kind)).set (i * 5 + 1) x.v).set (i * 5 + 2) x.a).set (i * 5 + 3) (.int .i64 x.c.bound)).set (i * 5 + 4) x.r = cellsE (xs.set i x)
  | [], i, x, h => by simp at h
  | a :: xs, 0, x, h => by simp [cellsE]
  | a :: xs, i + 1, x, h => by
    have := cellsE_set xs i x (by simpa using h)
    rw [show (i + 1) * 5 = i * 5 + 1 + 1 + 1 + 1 + 1 from by omega]
    show (((((cellsE (a :: xs)).set (i * 5 + 5) _).set (i * 5 + 6) _).set (i * 5 + 7) _).set (i * 5 + 8) _).set (i * 5 + 9) _ = _
    simp only [cellsE, List.set_cons_succ]
    rw [this]

/-- Blocks that are shut, the result's, the model's, its domains' and its constraints'. -/
def qm (Q0 : Nat → Bool) (R M : Nat) (u1 u2 : Value) (b : Nat) : Bool := Q0 b || b == R || b == M || decide (u1.ownBlock = some b) || decide (u2.ownBlock = some b)
theorem qm_no {Q0 : Nat → Bool} {R M b : Nat} {u1 u2 : Value} (h1 : Q0 b = false) (h2 : b ≠ R) (h3 : b ≠ M) (h4 : u1.ownBlock ≠ some b) (h5 : u2.ownBlock ≠ some b) : qm Q0 R M u1 u2 b = false := by simp [qm, h1, h2, h3, h4, h5]
theorem qm_parts {Q0 : Nat → Bool} {R M b : Nat} {u1 u2 : Value} (h : qm Q0 R M u1 u2 b = false) : Q0 b = false ∧ b ≠ R ∧ b ≠ M ∧ u1.ownBlock ≠ some b ∧ u2.ownBlock ≠ some b := by simpa [qm, and_assoc] using h
theorem qm_B {Q0 : Nat → Bool} {B R M : Nat} {u1 u2 : Value} (h : Q0 B = true) : qm Q0 R M u1 u2 B = true := by simp [qm, h]
/-- Where the model and the result lie. -/
structure MP (Q0 : Nat → Bool) (B R M n0 : Nat) (w : World) : Prop where
  hB : B < w.heap.size
  hR : w.heap.size ≤ R
  hM : w.heap.size ≤ M
  hne : R ≠ M
  h0 : n0 ≤ B
  hQB : Q0 B = true
  hQ0 : ∀ b, w.heap.size ≤ b → Q0 b = false
/-- The model that is made, in the block M. -/
structure MS (Q0 : Nat → Bool) (n0 B R M L : Nat) (w W : World) (q : Int) (u1 u2 : Value) (ds : List Int) (xs : List CE) : Prop where
  bm : Blk2 W M 68 u1 u2
  br : Blk2 W R 68 (.slice none 0 0) (.slice none 0 0)
  o1 : W.ownsRow w.heap.size 3 1 u1 ds.length (ds.map (Value.int .i64))
  o2 : W.ownsRow w.heap.size 53 5 u2 xs.length (cellsE xs)
  n1 : ∀ g, u1.ownBlock = some g → g ≠ M ∧ g ≠ R ∧ u2.ownBlock ≠ some g
  n2 : ∀ g, u2.ownBlock = some g → g ≠ M ∧ g ≠ R
  ok : ∀ x ∈ xs, x.ok (qm Q0 R M u1 u2) W L
  rd : Rd n0 B q W
  dn : Dn B w W
section
variable {Q0 : Nat → Bool} {n0 B R M L : Nat} {w W W' : World} {q q' : Int} {u1 u2 : Value} {ds : List Int} {xs : List CE}
theorem own_dnG {B base sz : Nat} {w w' : World} {e : TypeId} {v : Value} {n : Nat} {xs : List Value} (h : w.ownsRow base e sz v n xs) (hB : B < base) (hd : Dn B w w') : w'.ownsRow base e sz v n xs := by
  refine ⟨h.1, ?_⟩
  rcases h.2 with h | ⟨g, cap, cur, e1, h1, h2, h3⟩
  · exact .inl h
  · exact .inr ⟨g, cap, cur, e1, h1, (hd.block g (Array.getElem?_eq_some_iff.1 h2).1 (by omega)).trans h2, h3⟩
theorem MS.new_no (k : MP Q0 B R M n0 w) (h : MS Q0 n0 B R M L w W q u1 u2 ds xs) : ∀ b, W.heap.size ≤ b → qm Q0 R M u1 u2 b = false := fun b hb =>
  qm_no (k.hQ0 b (Nat.le_trans h.dn.size hb)) (by have := h.br.lt; omega) (by have := h.bm.lt; omega) (fun e => by have := (h.o1.lt b e).2; omega) (fun e => by have := (h.o2.lt b e).2; omega)
theorem MS.dnStep (k : MP Q0 B R M n0 w) (h : MS Q0 n0 B R M L w W q u1 u2 ds xs) (hd : Dn B W W') (hr : Rd n0 B q' W') : MS Q0 n0 B R M L w W' q' u1 u2 ds xs := by
  have hi := (Fr.of_dn (Q := qm Q0 R M u1 u2) (qm_B k.hQB) hd).inc
  have hMB : M ≠ B := by have := k.hM; have := k.hB; omega
  have hRB : R ≠ B := by have := k.hR; have := k.hB; omega
  exact ⟨(hd.block M h.bm.lt hMB).trans h.bm, (hd.block R h.br.lt hRB).trans h.br, own_dnG h.o1 k.hB hd, own_dnG h.o2 k.hB hd, h.n1, h.n2, fun x hx => (h.ok x hx).inc hi, hr, h.dn.trans hd⟩
theorem MS.below (k : MP Q0 B R M n0 w) (h : MS Q0 n0 B R M L w W q u1 u2 ds xs) (hb : Below W.heap.size W W') : MS Q0 n0 B R M L w W' q u1 u2 ds xs :=
  h.dnStep k (Dn.of_below hb) (h.rd.below (hb.mono (by have := h.rd.lt; omega)))
theorem MS.start (k : MP Q0 B R M n0 w) (hm : Blk2 W M 68 (.slice none 0 0) (.slice none 0 0)) (hr : Blk2 W R 68 (.slice none 0 0) (.slice none 0 0)) (rd : Rd n0 B q W) (dn : Dn B w W) : MS Q0 n0 B R M L w W q (.slice none 0 0) (.slice none 0 0) [] [] :=
  ⟨hm, hr, own_nil _ _ _, ⟨rfl, .inl ⟨rfl, rfl⟩⟩, (fun g e => by cases e), (fun g e => by cases e), (fun x hx => by cases hx), rd, dn⟩
/-- One more domain (ahead of all constraints). -/
theorem MS.pushD {V2 V4 : World} {z : Int} {ua' : Option Addr} {m' cap' : Nat} (k : MP Q0 B R M n0 w) (h : MS Q0 n0 B R M L w W q u1 (.slice none 0 0) ds [])
    (hd : Dn B W V2) (hr : Rd n0 B q' V2) (hown : V4.ownsRow w.heap.size 3 1 (.slice ua' m' cap') m' (ds.map (Value.int .i64) ++ [.int .i64 z])) (hm : m' = ds.length + 1) (hg : (V2.alloc (.cells #[.int .i64 z] 3)).grownBy V4 u1.ownBlock)
    (hat : (Value.slice ua' m' cap').ownBlock = u1.ownBlock ∨ ∀ g, (Value.slice ua' m' cap').ownBlock = some g → V2.heap.size ≤ g) :
    MS Q0 n0 B R M L w (V4.setCell ⟨M, 0, none⟩ (.slice ua' m' cap')) q' (.slice ua' m' cap') (.slice none 0 0) (ds ++ [z]) [] := by
  have h2 := h.dnStep k hd hr
  have hge : ∀ g, u1.ownBlock = some g → w.heap.size ≤ g := fun g e => (h2.o1.lt g e).1
  have hlow : Below w.heap.size V2 V4 := ((Below.refl w.heap.size V2).alloc h2.dn.size _).grown hg (by simp; have := h2.dn.size; omega) hge
  have hkeep : ∀ b, b < V2.heap.size → u1.ownBlock ≠ some b → V4.heap[b]? = V2.heap[b]? := fun b hb hn => (hg.block b (by simp; omega) (fun e => hn e.symm)).trans (Below.heap_alloc _ _ _ hb)
  have hM4 : Blk2 V4 M 68 u1 (.slice none 0 0) := (hkeep M h2.bm.lt (fun e => (h2.n1 M e).1 rfl)).trans h2.bm
  have hR4 : Blk2 V4 R 68 (.slice none 0 0) (.slice none 0 0) := (hkeep R h2.br.lt (fun e => (h2.n1 R e).2.1 rfl)).trans h2.br
  subst hm
  have hn1 : ∀ g, (Value.slice ua' (ds.length + 1) cap').ownBlock = some g → g ≠ M ∧ g ≠ R ∧ (Value.slice none 0 0).ownBlock ≠ some g := fun g e => by
    rcases hat with hat | hat
    · exact h2.n1 g (hat ▸ e)
    · have h1 := hat g e
      exact ⟨by have := h2.bm.lt; omega, by have := h2.br.lt; omega, (fun e => by cases e)⟩
  refine ⟨hM4.set 0 _, hR4.other (by show M ≠ R; exact fun e => k.hne e.symm) _, ?_, ⟨rfl, .inl ⟨rfl, rfl⟩⟩, hn1, (fun g e => by cases e), (fun x hx => by cases hx), ?_, ?_⟩
  · rw [List.length_append, List.map_append]
    exact own_keepB hown (fun b hb => Below.heap_setCell _ _ _ _ (by show b ≠ M; exact (hn1 b hb).1))
  · exact (h2.rd.below (hlow.mono (by have := k.hB; omega))).below ((Below.refl (B + 1) V4).setCell (by show _ ≤ M; have := k.hM; have := k.hB; omega) _)
  · exact dn_setC k.hM (h2.dn.lowB hlow (Nat.le_refl _)) _ _
/-- One more constraint. -/
theorem MS.pushC {V2 V4 : World} {x : CE} {ua' : Option Addr} {m' cap' : Nat} (k : MP Q0 B R M n0 w) (h : MS Q0 n0 B R M L w W q u1 u2 ds xs)
    (hd : Dn B W V2) (hr : Rd n0 B q' V2) (hx : x.ok (qm Q0 R M u1 u2) V2 L) (hown : V4.ownsRow w.heap.size 53 5 (.slice ua' m' cap') m' (cellsE xs ++ cellsE [x])) (hm : m' = xs.length + 1) (hg : (V2.alloc (.cells #[.int .i64 x.c.kind, x.v, x.a, .int .i64 x.c.bound, x.r] 53)).grownBy V4 u2.ownBlock)
    (hat : (Value.slice ua' m' cap').ownBlock = u2.ownBlock ∨ ∀ g, (Value.slice ua' m' cap').ownBlock = some g → V2.heap.size ≤ g) :
    MS Q0 n0 B R M L w (V4.setCell ⟨M, 1, none⟩ (.slice ua' m' cap')) q' u1 (.slice ua' m' cap') ds (xs ++ [x]) := by
  have h2 := h.dnStep k hd hr
  have hge : ∀ g, u2.ownBlock = some g → w.heap.size ≤ g := fun g e => (h2.o2.lt g e).1
  have hlow : Below w.heap.size V2 V4 := ((Below.refl w.heap.size V2).alloc h2.dn.size _).grown hg (by simp; have := h2.dn.size; omega) hge
  have hkeep : ∀ b, b < V2.heap.size → u2.ownBlock ≠ some b → V4.heap[b]? = V2.heap[b]? := fun b hb hn => (hg.block b (by simp; omega) (fun e => hn e.symm)).trans (Below.heap_alloc _ _ _ hb)
  have hM4 : Blk2 V4 M 68 u1 u2 := (hkeep M h2.bm.lt (fun e => (h2.n2 M e).1 rfl)).trans h2.bm
  have hR4 : Blk2 V4 R 68 (.slice none 0 0) (.slice none 0 0) := (hkeep R h2.br.lt (fun e => (h2.n2 R e).2 rfl)).trans h2.br
  subst hm
  have hn2 : ∀ g, (Value.slice ua' (xs.length + 1) cap').ownBlock = some g → g ≠ M ∧ g ≠ R ∧ u1.ownBlock ≠ some g := fun g e => by
    rcases hat with hat | hat
    · exact ⟨(h2.n2 g (hat ▸ e)).1, (h2.n2 g (hat ▸ e)).2, fun e1 => (h2.n1 g e1).2.2 (hat ▸ e)⟩
    · have h1 := hat g e
      exact ⟨by have := h2.bm.lt; omega, by have := h2.br.lt; omega, fun e1 => by have := (h2.o1.lt g e1).2; omega⟩
  have hinc : Inc (av (qm Q0 R M u1 u2) V2) (av (qm Q0 R M u1 (.slice ua' (xs.length + 1) cap')) (V4.setCell ⟨M, 1, none⟩ (.slice ua' (xs.length + 1) cap'))) := fun p y hp => by
    obtain ⟨e, h1⟩ := av_at _ _ hp
    obtain ⟨e1, e2, e3, e4, e5⟩ := qm_parts e
    have hl := World.block_lt_of_cell? _ _ h1
    refine av_mk _ _ (qm_no e1 e2 e3 e4 (fun e6 => ?_)) ?_
    · rcases hat with hat | hat
      · exact e5 (hat ▸ e6)
      · have := hat _ e6
        omega
    · rw [wo_cell_same (Below.heap_setCell _ _ _ _ (by exact e3)), wo_cell_same (hkeep _ hl e5)]
      exact h1
  refine ⟨hM4.set 1 _, hR4.other (by show M ≠ R; exact fun e => k.hne e.symm) _, ?_, ?_, fun g e => ⟨(h2.n1 g e).1, (h2.n1 g e).2.1, fun e2 => (hn2 g e2).2.2 e⟩, fun g e => ⟨(hn2 g e).1, (hn2 g e).2.1⟩, ?_, ?_, ?_⟩
  · exact own_keepB (own_keepB h2.o1 (fun b hb => hkeep b (h2.o1.lt b hb).2 (fun e => (h2.n1 b hb).2.2 e))) (fun b hb => Below.heap_setCell _ _ _ _ (by show b ≠ M; exact (h2.n1 b hb).1))
  · rw [List.length_append, cellsE_append]
    exact own_keepB hown (fun b hb => Below.heap_setCell _ _ _ _ (by show b ≠ M; exact (hn2 b hb).1))
  · intro y hy
    rcases List.mem_append.1 hy with hy | hy
    · exact (h2.ok y hy).inc hinc
    · simp at hy
      subst hy
      exact hx.inc hinc
  · exact (h2.rd.below (hlow.mono (by have := k.hB; omega))).below ((Below.refl (B + 1) V4).setCell (by show _ ≤ M; have := k.hM; have := k.hB; omega) _)
  · exact dn_setC k.hM (h2.dn.lowB hlow (Nat.le_refl _)) _ _
/-- A domain is stored. -/
theorem MS.setD {g1 n1 c1 i : Nat} {z : Int} (k : MP Q0 B R M n0 w) (h : MS Q0 n0 B R M L w W q (.slice (some ⟨g1, 0, none⟩) n1 c1) u2 ds xs) (hi : i < ds.length) :
    MS Q0 n0 B R M L w (W.setCell ⟨g1, i, none⟩ (.int .i64 z)) q (.slice (some ⟨g1, 0, none⟩) n1 c1) u2 (ds.set i z) xs := by
  obtain ⟨e1, e2, e3⟩ := h.n1 g1 rfl
  have hg := (h.o1.lt g1 rfl).1
  have fr : Fr (qm Q0 R M (.slice (some ⟨g1, 0, none⟩) n1 c1) u2) W (W.setCell ⟨g1, i, none⟩ (.int .i64 z)) := (Fr.refl _ W).setCell (p := ⟨g1, i, none⟩) (by simp [qm, Value.ownBlock]) _
  obtain rfl : n1 = ds.length := by
    obtain ⟨a, c, e, -, -⟩ := own_form h.o1
    simp at e
    exact e.2.1
  refine ⟨h.bm.other (by exact e1) _, h.br.other (by exact e2) _, ?_, own_keepB h.o2 (fun b hb => Below.heap_setCell _ _ _ _ (by show b ≠ g1; rintro rfl; exact e3 hb)), h.n1, h.n2, fun x hx => (h.ok x hx).inc fr.inc, ?_, dn_setC hg h.dn _ _⟩
  · have := (h.o1.stored i (.int .i64 z)).1
    rw [List.length_set, List.map_set]
    exact this
  · exact h.rd.below ((Below.refl (B + 1) W).setCell (by show _ ≤ g1; have := k.hB; omega) _)
/-- A constraint is stored. -/
def putE (W : World) (g i : Nat) (x : CE) : World := ((((W.setCell ⟨g, i * 5, none⟩ (.int .i64 x.c.kind)).setCell ⟨g, i * 5 + 1, none⟩ x.v).setCell ⟨g, i * 5 + 2, none⟩ x.a).setCell ⟨g, i * 5 + 3, none⟩ (.int .i64 x.c.bound)).setCell ⟨g, i * 5 + 4, none⟩ x.r
theorem MS.setC {g2 n2 c2 i : Nat} {x : CE} (k : MP Q0 B R M n0 w) (h : MS Q0 n0 B R M L w W q u1 (.slice (some ⟨g2, 0, none⟩) n2 c2) ds xs) (hi : i < xs.length) (hx : x.ok (qm Q0 R M u1 (.slice (some ⟨g2, 0, none⟩) n2 c2)) W L) :
    MS Q0 n0 B R M L w (putE W g2 i x) q u1 (.slice (some ⟨g2, 0, none⟩) n2 c2) ds (xs.set i x) := by
  obtain ⟨e1, e2⟩ := h.n2 g2 rfl
  have hg := (h.o2.lt g2 rfl).1
  have hq : qm Q0 R M u1 (.slice (some ⟨g2, 0, none⟩) n2 c2) g2 = true := by simp [qm, Value.ownBlock]
  have fr : Fr (qm Q0 R M u1 (.slice (some ⟨g2, 0, none⟩) n2 c2)) W (putE W g2 i x) := by
    unfold putE
    exact (((((Fr.refl _ W).setCell (by exact hq) _).setCell (by exact hq) _).setCell (by exact hq) _).setCell (by exact hq) _).setCell (by exact hq) _
  obtain rfl : n2 = xs.length := by
    obtain ⟨a, c, e, -, -⟩ := own_form h.o2
    simp at e
    exact e.2.1
  have hkeep : ∀ b, b ≠ g2 → (putE W g2 i x).heap[b]? = W.heap[b]? := fun b hb => by
    unfold putE
    rw [Below.heap_setCell _ _ _ _ (by exact hb), Below.heap_setCell _ _ _ _ (by exact hb), Below.heap_setCell _ _ _ _ (by exact hb), Below.heap_setCell _ _ _ _ (by exact hb), Below.heap_setCell _ _ _ _ (by exact hb)]
  refine ⟨(hkeep M (fun e => e1 e.symm)).trans h.bm, (hkeep R (fun e => e2 e.symm)).trans h.br, own_keepB h.o1 (fun b hb => hkeep b (by rintro rfl; exact (h.n1 _ hb).2.2 rfl)), ?_, h.n1, h.n2, ?_, ?_, ?_⟩
  · have h1 := (h.o2.stored (i * 5) (.int .i64 x.c.kind)).1
    have h2 := (h1.stored (i * 5 + 1) x.v).1
    have h3 := (h2.stored (i * 5 + 2) x.a).1
    have h4 := (h3.stored (i * 5 + 3) (.int .i64 x.c.bound)).1
    have h5 := (h4.stored (i * 5 + 4) x.r).1
    rw [cellsE_set xs i x hi] at h5
    rw [List.length_set]
    exact h5
  · intro y hy
    rcases List.mem_or_eq_of_mem_set hy with hy | rfl
    · exact (h.ok y hy).inc fr.inc
    · exact hx.inc fr.inc
  · have hb : B + 1 ≤ g2 := by have := k.hB; omega
    unfold putE
    exact h.rd.below ((((((Below.refl (B + 1) W).setCell (by exact hb) _).setCell (by exact hb) _).setCell (by exact hb) _).setCell (by exact hb) _).setCell (by exact hb) _)
  · unfold putE
    exact dn_setC hg (dn_setC hg (dn_setC hg (dn_setC hg (dn_setC hg h.dn _ _) _ _) _ _) _ _) _ _
theorem MS.mono (h : MS Q0 n0 B R M L w W q u1 u2 ds xs) {L' : Nat} (hl : L ≤ L') : MS Q0 n0 B R M L' w W q u1 u2 ds xs :=
  ⟨h.bm, h.br, h.o1, h.o2, h.n1, h.n2, fun x hx => ⟨(h.ok x hx).1, (h.ok x hx).2.1, (h.ok x hx).2.2.1, (h.ok x hx).2.2.2.1, (h.ok x hx).2.2.2.2.1, (h.ok x hx).2.2.2.2.2.mono' hl⟩, h.rd, h.dn⟩
end

/-- A model that was drawn. -/
def ModDn (Q0 : Nat → Bool) (n0 B : Nat) (p s : Int) (L : Nat) (w : World) (e : Ending) (w' : World) : Prop :=
  ∃ (u1 u2 : Value) (ds : List Int) (xs : List CE) (q : Int), e = .returned (.agg #[u1, u2]) ∧ w'.ownsRow w.heap.size 3 1 u1 ds.length (ds.map (Value.int .i64)) ∧ w'.ownsRow w.heap.size 53 5 u2 xs.length (cellsE xs) ∧
    (∀ g, u1.ownBlock = some g → u2.ownBlock ≠ some g) ∧ (∀ x ∈ xs, x.ok (fun b => Q0 b || decide (u1.ownBlock = some b) || decide (u2.ownBlock = some b)) w' L) ∧ 1 ≤ ds.length ∧ ds.length ≤ 4 ∧ xs.length ≤ 6 ∧ p ≤ q ∧ q ≤ p + s ∧ Rd n0 B q w' ∧ Dn B w w'
def putM (W : World) (R : Nat) (u1 u2 : Value) : World := (W.setCell ⟨R, 0, none⟩ u1).setCell ⟨R, 1, none⟩ u2
theorem putM_blk {W : World} {R : Nat} {t : TypeId} {z0 z1 : Value} (h : Blk2 W R t z0 z1) (u1 u2 : Value) : Blk2 (putM W R u1 u2) R t u1 u2 := by
  have h0 : Blk2 _ R t u1 z1 := h.set 0 u1
  exact h0.set 1 u2
theorem modDn_fin {Q0 : Nat → Bool} {n0 B R M L : Nat} {w W : World} {p q s : Int} {u1 u2 : Value} {ds : List Int} {xs : List CE} (k : MP Q0 B R M n0 w) (h : MS Q0 n0 B R M L w W q u1 u2 ds xs) (h1 : 1 ≤ ds.length) (h4 : ds.length ≤ 4) (h6 : xs.length ≤ 6) (hp : p ≤ q) (hq : q ≤ p + s) :
    ModDn Q0 n0 B p s L w (.returned (.agg #[u1, u2])) (putM W R u1 u2) := by
  have hqR : qm Q0 R M u1 u2 R = true := by simp [qm]
  have fr : Fr (qm Q0 R M u1 u2) W (putM W R u1 u2) := ((Fr.refl _ W).setCell (p := ⟨R, 0, none⟩) hqR _).setCell (p := ⟨R, 1, none⟩) hqR _
  have i1 : Inc (av (qm Q0 R M u1 u2) W) (av (fun b => Q0 b || decide (u1.ownBlock = some b) || decide (u2.ownBlock = some b)) (putM W R u1 u2)) := fun p x hx => by
    have h1 := fr.inc _ _ hx
    obtain ⟨e1, h2⟩ := av_at _ _ h1
    obtain ⟨a1, a2, a3, a4, a5⟩ := qm_parts e1
    exact av_mk _ _ (by simp [a1, a4, a5]) h2
  have hkeep : ∀ b, b ≠ R → (putM W R u1 u2).heap[b]? = W.heap[b]? := fun b hb => by
    unfold putM
    rw [Below.heap_setCell _ _ _ _ (by exact hb), Below.heap_setCell _ _ _ _ (by exact hb)]
  have hBR : B + 1 ≤ R := by have := k.hB; have := k.hR; omega
  refine ⟨u1, u2, ds, xs, q, rfl, own_keepB h.o1 (fun b hb => hkeep b (h.n1 b hb).2.1), own_keepB h.o2 (fun b hb => hkeep b (h.n2 b hb).2), fun g e => (h.n1 g e).2.2, fun x hx => (h.ok x hx).inc i1, h1, h4, h6, hp, hq, ?_, ?_⟩
  · unfold putM
    exact h.rd.below (((Below.refl (B + 1) W).setCell (by exact hBR) _).setCell (by exact hBR) _)
  · unfold putM
    exact dn_setC k.hR (dn_setC k.hR h.dn _ _) _ _
/-- What was drawn reads as a model, whatever of the shut blocks is left out. -/
theorem ownE_rd {W : World} {Q : Nat → Bool} {base : Nat} {u2 : Value} {xs : List CE} {L : Nat} (h : W.ownsRow base 53 5 u2 xs.length (cellsE xs)) (hk : ∀ x ∈ xs, x.ok Q W L) : RdCons W u2 (xs.map CE.c) := by
  rcases h.2 with ⟨rfl, h0⟩ | ⟨g, cap, cur, rfl, hb, hg, hc, hm, _⟩
  · rw [List.eq_nil_of_length_eq_zero h0]
    exact ⟨none, 0, rfl, Nat.le_refl _, by decide, .inl rfl⟩
  · refine ⟨some ⟨g, 0, none⟩, cap, by rw [List.length_map], by rw [List.length_map]; exact hc, hm, .inr ⟨g, 0, rfl, fun i c hi => ?_⟩⟩
    rw [List.getElem?_map] at hi
    obtain ⟨x, hx, rfl⟩ := Option.map_eq_some_iff.1 hi
    obtain ⟨t0, t1, t2, t3, t4⟩ := cellsE_at xs i x hx
    have hk0 := hk x (List.mem_of_getElem? hx)
    have kk : ∀ q u, (cellsE xs)[q]? = some u → W.cell? ⟨g, q, none⟩ = some u := fun q u hu => by
      have := h.cells (g := g) rfl q u hu
      rw [addr_add, Nat.zero_add] at this
      exact this
    have hi := av_inc Q W
    refine ⟨x.v, x.a, x.r, ?_, ?_, ?_, ?_, ?_, hk0.1.inc hi, hk0.2.1.inc hi, hk0.2.2.1.inc hi⟩
    · rw [show 0 + 5 * i = i * 5 from by omega]; exact kk _ _ t0
    · rw [show 0 + 5 * i + 1 = i * 5 + 1 from by omega]; exact kk _ _ t1
    · rw [show 0 + 5 * i + 2 = i * 5 + 2 from by omega]; exact kk _ _ t2
    · rw [show 0 + 5 * i + 3 = i * 5 + 3 from by omega]; exact kk _ _ t3
    · rw [show 0 + 5 * i + 4 = i * 5 + 4 from by omega]; exact kk _ _ t4
theorem consLe_of {Q : Nat → Bool} {W : World} {xs : List CE} {L : Nat} (hk : ∀ x ∈ xs, x.ok Q W L) (hl : xs.length ≤ L) : ConsLe (xs.map CE.c) L := by
  refine ⟨by rw [List.length_map]; exact hl, fun j c hj => ?_⟩
  rw [List.getElem?_map] at hj
  obtain ⟨x, hx, rfl⟩ := Option.map_eq_some_iff.1 hj
  exact (hk x (List.mem_of_getElem? hx)).2.2.2.2.2
end Go.Proofs.Ytjdbfiiaadphhaa
