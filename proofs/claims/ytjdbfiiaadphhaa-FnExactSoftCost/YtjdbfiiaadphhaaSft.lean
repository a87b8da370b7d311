/- Soft constraints: how a list of them reads; the laws' own copies, and their tests of equality. -/
import Derived.Test.YtjdbfiiaadphhaaMod
namespace Go.Proofs.Ytjdbfiiaadphhaa
open Go.ChangeShapes Go.WideShapes Go.ChangeAt Go.RowKit Go.Deep
set_option linter.unusedVariables false
set_option linter.unusedSimpArgs false

/-- A soft constraint as plain data. -/
structure Sft where
  con : Con
  wt : Int

/-- The slice value v reads as a list of soft constraints. -/
def RdSofts (w : World) (v : Value) (ss : List Sft) : Prop :=
  ∃ a cap, v = .slice a ss.length cap ∧ ss.length ≤ cap ∧ cap ≤ maxLen ∧ (ss.length = 0 ∨ ∃ b off, a = some ⟨b, off, none⟩ ∧ ∀ (i : Nat) (s : Sft), ss[i]? = some s →
    ∃ u2 u3 u5, w.cell? ⟨b, off + i * 6, none⟩ = some (.int .i64 s.con.kind) ∧ w.cell? ⟨b, off + i * 6 + 1, none⟩ = some u2 ∧ w.cell? ⟨b, off + i * 6 + 2, none⟩ = some u3 ∧
      w.cell? ⟨b, off + i * 6 + 3, none⟩ = some (.int .i64 s.con.bound) ∧ w.cell? ⟨b, off + i * 6 + 4, none⟩ = some u5 ∧ w.cell? ⟨b, off + i * 6 + 5, none⟩ = some (.int .i64 s.wt) ∧ RdInts w u2 s.con.vars ∧ RdInts w u3 s.con.args ∧ RdRows w u5 s.con.rows)
theorem RdSofts.below {w w' : World} {v : Value} {ss : List Sft} (h : RdSofts w v ss) (hb : Below w.heap.size w w') : RdSofts w' v ss := by
  obtain ⟨a, cap, e, h1, h2, h3⟩ := h
  refine ⟨a, cap, e, h1, h2, ?_⟩
  rcases h3 with h3 | ⟨b, off, ea, h3⟩
  · exact .inl h3
  · refine .inr ⟨b, off, ea, fun i s hs => ?_⟩
    obtain ⟨u2, u3, u5, k0, k1, k2, k3, k4, k5, r2, r3, r5⟩ := h3 i s hs
    have k : ∀ (p : Addr) (x : Value), w.cell? p = some x → w'.cell? p = some x := fun p x hp => (hb.cell (World.block_lt_of_cell? w _ hp)).trans hp
    exact ⟨u2, u3, u5, k _ _ k0, k _ _ k1, k _ _ k2, k _ _ k3, k _ _ k4, k _ _ k5, r2.below hb, r3.below hb, r5.below hb⟩
theorem RdSofts.drewN' {w : World} {v : Value} {ss : List Sft} (h : RdSofts w v ss) (k : Nat) : RdSofts (w.drewN k) v ss := h
theorem RdSofts.drew {w : World} {v : Value} {ss : List Sft} (h : RdSofts w v ss) : RdSofts w.drew v ss := h
theorem rdSofts_len {w : World} {a : Option Addr} {n cap : Nat} {ss : List Sft} (h : RdSofts w (.slice a n cap) ss) : ss.length = n ∧ n ≤ cap ∧ cap ≤ 9223372036854775807 := by
  obtain ⟨a', cap', e, h1, h2, _⟩ := h
  simp at e
  obtain ⟨rfl, rfl, rfl⟩ := e
  unfold maxLen at h2
  exact ⟨rfl, h1, by omega⟩

section
variable {H : Type} {enc : TypeId × Value → H} {w : World} {base : Nat} {held : Bool}
set_option maxRecDepth 100000 in
theorem soft_of_cells {n : Nat} {cs : List Value} {y : DataW H × List MemPlace} (h : DataW.trod enc Try.prog w base (fun _ => true) held n 104 cs = some y) :
    ∃ (s : Sft) (u2 u3 u5 : Value), cs = [.int .i64 s.con.kind, u2, u3, .int .i64 s.con.bound, u5, .int .i64 s.wt] ∧ RdInts w u2 s.con.vars ∧ RdInts w u3 s.con.args ∧ RdRows w u5 s.con.rows := by
  have hC : Try.prog.cellsOf 104 = 6 := by kernel_rfl
  have hK : Try.prog.cellsOf 46 = 5 := by kernel_rfl
  have hI : Try.prog.cellsOf 3 = 1 := by kernel_rfl
  obtain ⟨xs, m, _, _, hl, hx, hf⟩ := DataW.trod_struct Try.underlying104 h
  have hx2 : xs.length = 2 := hx
  have h0 : DataW.trod enc Try.prog w base (fun _ => true) held m 46 (List.take (Try.prog.cellsOf 46) (List.drop 0 cs)) = xs[0]? := hf 0 _ rfl
  have h1 : DataW.trod enc Try.prog w base (fun _ => true) held m 3 (List.take (Try.prog.cellsOf 3) (List.drop 5 cs)) = xs[1]? := hf 1 _ rfl
  rw [List.getElem?_eq_getElem (by omega)] at h0 h1
  rw [hK] at h0
  rw [hI] at h1
  rw [hC] at hl
  obtain ⟨c, u2, u3, u5, e, g2, g3, g5⟩ := con_of_cells h0
  match cs, hl, e, h1 with
  | [c0, c1, c2, c3, c4, c5], _, e, h1 =>
    obtain ⟨k, q, _, _⟩ := DataW.trod_int Try.underlying3 h1
    simp at q e
    obtain ⟨rfl, rfl, rfl, rfl, rfl⟩ := e
    exact ⟨⟨c, k⟩, _, _, _, by rw [q], g2, g3, g5⟩

set_option maxRecDepth 100000 in
theorem rdSofts_of_trod {n : Nat} {v : Value} {y : DataW H × List MemPlace} (h : DataW.trod enc Try.prog w base (fun _ => true) held n 37 [v] = some y) : ∃ ss, RdSofts w v ss := by
  have hC : Try.prog.cellsOf 104 = 6 := by kernel_rfl
  rcases open_slice Try.underlying37 h with ⟨hcs, _⟩ | ⟨a, len, cap, m, k, D, Pl, hcs, hb, hl, hm, hmm, _, hx⟩
  · simp at hcs
    subst hcs
    exact ⟨[], none, 0, rfl, Nat.le_refl _, by simp [maxLen], .inl rfl⟩
  · simp at hcs hmm
    subst hcs hmm
    have each : ∀ r, r < m → ∃ q : Sft × Value × Value × Value, w.cells? base (a.add (r * 6)) 6 = some [.int .i64 q.1.con.kind, q.2.1, q.2.2.1, .int .i64 q.1.con.bound, q.2.2.2, .int .i64 q.1.wt] ∧ RdInts w q.2.1 q.1.con.vars ∧ RdInts w q.2.2.1 q.1.con.args ∧ RdRows w q.2.2.2 q.1.con.rows := by
      intro r hr
      obtain ⟨cs', h1, h2⟩ := hx r hr
      obtain ⟨c, u2, u3, u5, e, g2, g3, g5⟩ := soft_of_cells h2
      rw [hC, e] at h1
      exact ⟨(c, u2, u3, u5), h1, g2, g3, g5⟩
    have : Inhabited (Sft × Value × Value × Value) := ⟨⟨⟨0, [], [], 0, []⟩, 0⟩, undef, undef, undef⟩
    obtain ⟨f, hf⟩ := choose_lt each
    have hlen : ((List.range len).map fun r => (f r).1).length = len := by simp
    refine ⟨(List.range len).map fun r => (f r).1, some a, m, by rw [hlen], by omega, hm, ?_⟩
    by_cases h0 : len = 0
    · exact .inl (by omega)
    · obtain ⟨b, off, spot⟩ := a
      have hc := (World.cells?_some (hf 0 (by omega)).1).2.2 0 (by omega)
      have hspot : spot = none := by simpa [Addr.add] using World.cell?_spot (hc.trans (List.getElem?_cons_zero ..))
      subst hspot
      refine .inr ⟨b, off, rfl, fun i c hi => ?_⟩
      have hi' : i < len := by have := (List.getElem?_eq_some_iff.1 hi).1; simpa using this
      have ec : (f i).1 = c := by simpa [hi'] using hi
      obtain ⟨g1, g2, g3, g5⟩ := hf i (by omega)
      have hat := (World.cells?_some g1).2.2
      have ad : ∀ j, ((Addr.mk b off none).add (i * 6)).add j = ⟨b, off + i * 6 + j, none⟩ := fun j => by rw [addr_add, addr_add]
      rw [← ec]
      exact ⟨_, _, _, by simpa [ad] using hat 0 (by omega), by simpa [ad] using hat 1 (by omega), by simpa [ad] using hat 2 (by omega), by simpa [ad] using hat 3 (by omega), by simpa [ad] using hat 4 (by omega), by simpa [ad] using hat 5 (by omega), g2, g3, g5⟩
set_option maxRecDepth 100000 in
theorem rdSoftsArg_of_trod {r : Reach} {b0 : Nat} {v : Value} {d : DataW H} {p : List MemPlace} (hv : Value.okWide Try.prog w r b0 37 v) (h : DataW.Trod enc Try.prog w base (fun _ => true) held 37 v d p) : ∃ xs, RdSofts w v xs := by
  obtain ⟨a0, len0, cap0, rfl⟩ := okWide_slice Try.underlying37 hv
  obtain ⟨n, hf⟩ := h
  exact rdSofts_of_trod (by simpa [Value.cells] using hf)
end

/-- An element of a list of soft constraints, loaded. -/
theorem rdSofts_at {w : World} {a : Option Addr} {n cap : Nat} {ss : List Sft} (h : RdSofts w (.slice a n cap) ss) {i : Nat} (hi : i < n) : ∃ (b off : Nat) (s : Sft) (a2 a3 a5 : Option Addr) (c2 c3 c5 : Nat), a = some ⟨b, off, none⟩ ∧ ss[i]? = some s ∧
    w.cell? ⟨b, off + i * 6, none⟩ = some (.int .i64 s.con.kind) ∧ w.cell? ⟨b, off + i * 6 + 1, none⟩ = some (.slice a2 s.con.vars.length c2) ∧ w.cell? ⟨b, off + i * 6 + 2, none⟩ = some (.slice a3 s.con.args.length c3) ∧ w.cell? ⟨b, off + i * 6 + 3, none⟩ = some (.int .i64 s.con.bound) ∧ w.cell? ⟨b, off + i * 6 + 4, none⟩ = some (.slice a5 s.con.rows.length c5) ∧ w.cell? ⟨b, off + i * 6 + 5, none⟩ = some (.int .i64 s.wt) ∧
    RdCon w (.agg #[.int .i64 s.con.kind, .slice a2 s.con.vars.length c2, .slice a3 s.con.args.length c3, .int .i64 s.con.bound, .slice a5 s.con.rows.length c5]) s.con := by
  obtain ⟨a', cap', e, h1, h2, h3⟩ := h
  simp at e
  obtain ⟨rfl, rfl, rfl⟩ := e
  rcases h3 with h3 | ⟨b, off, rfl, h3⟩
  · omega
  · have hc : ss[i]? = some ss[i] := List.getElem?_eq_getElem hi
    obtain ⟨u2, u3, u5, k0, k1, k2, k3, k4, k5, r2, r3, r5⟩ := h3 i _ hc
    have g2 := r2; have g3 := r3; have g5 := r5
    obtain ⟨a2, c2, rfl, _⟩ := g2
    obtain ⟨a3, c3, rfl, _⟩ := g3
    obtain ⟨a5, c5, rfl, _⟩ := g5
    exact ⟨b, off, ss[i], a2, a3, a5, c2, c3, c5, rfl, hc, k0, k1, k2, k3, k4, k5, _, _, _, rfl, r2, r3, r5⟩

/-- A block of six cells. -/
def Blk6 (w : World) (b : Nat) (t : TypeId) (u0 u1 u2 u3 u4 u5 : Value) : Prop := w.heap[b]? = some (.cells #[u0, u1, u2, u3, u4, u5] t (0, 0))
section
variable {w w' : World} {b : Nat} {t : TypeId} {u0 u1 u2 u3 u4 u5 : Value}
theorem Blk6.cell (h : Blk6 w b t u0 u1 u2 u3 u4 u5) : w.cell? ⟨b, 0, none⟩ = some u0 ∧ w.cell? ⟨b, 1, none⟩ = some u1 ∧ w.cell? ⟨b, 2, none⟩ = some u2 ∧ w.cell? ⟨b, 3, none⟩ = some u3 ∧ w.cell? ⟨b, 4, none⟩ = some u4 ∧ w.cell? ⟨b, 5, none⟩ = some u5 := by
  simp [World.cell?, show w.heap[b]? = _ from h]
theorem Blk6.frozen (h : Blk6 w b t u0 u1 u2 u3 u4 u5) : w.frozen? ⟨b, 0, none⟩ = false ∧ w.frozen? ⟨b, 1, none⟩ = false ∧ w.frozen? ⟨b, 2, none⟩ = false ∧ w.frozen? ⟨b, 3, none⟩ = false ∧ w.frozen? ⟨b, 4, none⟩ = false ∧ w.frozen? ⟨b, 5, none⟩ = false := by
  simp [World.frozen?, show w.heap[b]? = _ from h]
theorem Blk6.lt (h : Blk6 w b t u0 u1 u2 u3 u4 u5) : b < w.heap.size := (Array.getElem?_eq_some_iff.1 h).1
theorem Blk6.below (h : Blk6 w b t u0 u1 u2 u3 u4 u5) (hb : Below w.heap.size w w') : Blk6 w' b t u0 u1 u2 u3 u4 u5 := (hb.block b h.lt).trans h
theorem Blk6.new (w : World) (t : TypeId) (u0 u1 u2 u3 u4 u5 : Value) : Blk6 (w.alloc (.cells #[u0, u1, u2, u3, u4, u5] t)) w.heap.size t u0 u1 u2 u3 u4 u5 := World.alloc_heap_new w _
theorem Blk6.alloc (h : Blk6 w b t u0 u1 u2 u3 u4 u5) (o : Obj) : Blk6 (w.alloc o) b t u0 u1 u2 u3 u4 u5 := (Below.heap_alloc w o b h.lt).trans h
theorem Blk6.at (h : Blk6 w b t u0 u1 u2 u3 u4 u5) {n : Nat} (e : n = b) : Blk6 w n t u0 u1 u2 u3 u4 u5 := e ▸ h
theorem Blk6.drew (h : Blk6 w b t u0 u1 u2 u3 u4 u5) : Blk6 w.drew b t u0 u1 u2 u3 u4 u5 := h
end

/-- No more than L of them, each no larger than L. -/
def SoftsLe (ss : List Sft) (L : Nat) : Prop := ss.length ≤ L ∧ ∀ (j : Nat) (s : Sft), ss[j]? = some s → ConLe s.con L
theorem SoftsLe.mono {ss : List Sft} {a b : Nat} (h : SoftsLe ss a) (hab : a ≤ b) : SoftsLe ss b := ⟨Nat.le_trans h.1 hab, fun j s hj => (h.2 j s hj).mono hab⟩

set_option maxRecDepth 100000 in
set_option maxHeartbeats 2000000 in
theorem szSoft_any (a2 a3 a5 : Option Addr) (c2 c3 c5 : Nat) (s : Sft) (left : Int) (w : World) (h : RdCon w (.agg #[.int .i64 s.con.kind, .slice a2 s.con.vars.length c2, .slice a3 s.con.args.length c3, .int .i64 s.con.bound, .slice a5 s.con.rows.length c5]) s.con) (h0 : 0 ≤ left) (h1 : left ≤ 1048576) :
    Calls Try.prog 78 #[.agg #[.int .i64 s.con.kind, .slice a2 s.con.vars.length c2, .slice a3 s.con.args.length c3, .int .i64 s.con.bound, .slice a5 s.con.rows.length c5, .int .i64 s.wt], .int .i64 left] w (SzPostB left (ConLe s.con left.toNat) w) := by
  have hB : Below w.heap.size w (w.alloc (.cells #[.int .i64 s.con.kind, .slice a2 s.con.vars.length c2, .slice a3 s.con.args.length c3, .int .i64 s.con.bound, .slice a5 s.con.rows.length c5, .int .i64 s.wt] 104)) := (Below.refl _ _).alloc (Nat.le_refl _) _
  have HC := Lib.hid (h.below hB)
  have HB := Lib.hid hB
  clear h hB
  go_enter Try.func78, Try.ntmps78
  go_wp2_with fail
  refine (szConstraint_any _ s.con left _ HC.out h0 h1).mono ?_
  rintro e w' ⟨r1, rfl, q1, q2, q3, b⟩
  have Q3 := Lib.hid q3
  have HB2 := Lib.hid (HB.out.trans (b.mono HB.out.size))
  clear q3 b
  by_cases hr1 : r1 < 0
  · go_wp2
    go_ret
    exact ⟨-1, rfl, by omega, by omega, fun h => by omega, HB2.out⟩
  go_wp2
  go_ret
  exact ⟨r1, rfl, by omega, by omega, fun _ => Q3.out (by omega), HB2.out⟩

set_option maxRecDepth 100000 in
set_option maxHeartbeats 2000000 in
theorem szSoftS_any (v : Value) (ss : List Sft) (left : Int) (w : World) (h : RdSofts w v ss) (h0 : 0 ≤ left) (h1 : left ≤ 1048576) :
    Calls Try.prog 29 #[v, .int .i64 left] w (SzPostB left (SoftsLe ss left.toNat) w) := by
  have HC := Lib.hid h
  obtain ⟨a, cap, ev, hl, hm, _⟩ := h
  rw [ev] at HC ⊢
  obtain ⟨n, hn⟩ : ∃ n, n = ss.length := ⟨_, rfl⟩
  have HN := Lib.hid hn
  rw [← hn] at hl HC ⊢
  clear hn ev
  unfold maxLen at hm
  by_cases hneg : left - (n : Int) < 0
  · go_enter Try.func29, Try.ntmps29
    go_wp2
    go_ret
    exact ⟨-1, rfl, by omega, by omega, fun h => by omega, Below.refl _ _⟩
  · go_enter Try.func29, Try.ntmps29
    go_wp2
    go_loopw [1, 5] (fun q i wr => ∃ (k : Nat) (l : Int), k ≤ n ∧ i = .int .i64 k ∧ q = .int .i64 l ∧ 0 ≤ l ∧ l ≤ left ∧ Hid (∀ (j : Nat) (s : Sft), j < k → ss[j]? = some s → ConLe s.con left.toNat) ∧ Below w.heap.size w wr) (fun _ i _ => n - (intOf i).toNat)
    case atStart => exact ⟨0, left - n, Nat.zero_le _, rfl, rfl, by omega, by omega, fun j c hj => by omega, Below.refl _ _⟩
    case round =>
      obtain ⟨k, l, hk, rfl, rfl, hl0, hl1, HE, hbel⟩ := hrel
      by_cases hlt : k < n
      · obtain ⟨b, off, s, a2, a3, a5, c2, c3, c5, rfl, hck, k0, k1, k2, k3, k4, k5, hr⟩ := rdSofts_at (HC.out.below hbel) hlt
        have HCK := Lib.hid hck
        have HR := Lib.hid hr
        clear hck hr
        go_wp2_with fail
        refine (szSoft_any _ _ _ _ _ _ s l _ HR.out hl0 (by omega)).mono ?_
        rintro e w' ⟨r, rfl, hr1, hr2, hr3, hb2⟩
        have HB2 := Lib.hid (hbel.trans (hb2.mono hbel.size))
        have HR3 := Lib.hid hr3
        clear hr3 hb2 k0 k1 k2 k3 k4 k5
        by_cases hr : r < 0
        · go_wp2
          go_ret
          exact ⟨-1, rfl, by omega, by omega, fun h => by omega, HB2.out⟩
        · go_wp2
          go_roundw
          case rel => exact ⟨k + 1, r, by omega, by go_num, rfl, by omega, by omega, fun j c' hj hc => by by_cases e : j = k; (· subst e; rw [HCK.out] at hc; rw [← Option.some.inj hc]; exact (HR3.out (by omega)).mono (by omega)); (· exact HE.out j c' (by omega) hc), HB2.out⟩
          case measure => simp [intOf]; omega
      · obtain rfl : k = n := by omega
        go_wp2
        go_ret
        exact ⟨l, rfl, by omega, by omega, fun _ => ⟨by have := HN.out; omega, fun j c hj => HE.out j c (by have := HN.out; have := (List.getElem?_eq_some_iff.1 hj).1; omega) hj⟩, hbel⟩

set_option maxRecDepth 100000 in
set_option maxHeartbeats 2000000 in
theorem eqSoft_same (a2 a3 a5 : Option Addr) (c2 c3 c5 : Nat) (b2 b3 b5 : Option Addr) (d2 d3 d5 : Nat) (s : Sft) (w : World) (h : RdCon w (.agg #[.int .i64 s.con.kind, .slice a2 s.con.vars.length c2, .slice a3 s.con.args.length c3, .int .i64 s.con.bound, .slice a5 s.con.rows.length c5]) s.con) (h' : RdCon w (.agg #[.int .i64 s.con.kind, .slice b2 s.con.vars.length d2, .slice b3 s.con.args.length d3, .int .i64 s.con.bound, .slice b5 s.con.rows.length d5]) s.con) :
    Calls Try.prog 87 #[.agg #[.int .i64 s.con.kind, .slice a2 s.con.vars.length c2, .slice a3 s.con.args.length c3, .int .i64 s.con.bound, .slice a5 s.con.rows.length c5, .int .i64 s.wt], .agg #[.int .i64 s.con.kind, .slice b2 s.con.vars.length d2, .slice b3 s.con.args.length d3, .int .i64 s.con.bound, .slice b5 s.con.rows.length d5, .int .i64 s.wt]] w (SamePostB w) := by
  obtain ⟨W1, hW1⟩ : ∃ W1, (w.alloc (.cells #[.int .i64 s.con.kind, .slice a2 s.con.vars.length c2, .slice a3 s.con.args.length c3, .int .i64 s.con.bound, .slice a5 s.con.rows.length c5, .int .i64 s.wt] 107)).alloc (.cells #[.int .i64 s.con.kind, .slice b2 s.con.vars.length d2, .slice b3 s.con.args.length d3, .int .i64 s.con.bound, .slice b5 s.con.rows.length d5, .int .i64 s.wt] 107) = W1 := ⟨_, rfl⟩
  have hB : Below w.heap.size w W1 := by rw [← hW1]; exact ((Below.refl _ _).alloc (Nat.le_refl _) _).alloc (by simp) _
  have g0 : W1.cell? ⟨w.heap.size, 5, none⟩ = some (.int .i64 s.wt) := by rw [← hW1]; exact ((Blk6.new _ _ _ _ _ _ _ _).alloc _).cell.2.2.2.2.2
  have g1 : W1.cell? ⟨w.heap.size + 1, 5, none⟩ = some (.int .i64 s.wt) := by rw [← hW1]; exact ((Blk6.new _ _ _ _ _ _ _ _).at (by simp)).cell.2.2.2.2.2
  have HG0 := Lib.hid g0
  have HG1 := Lib.hid g1
  have HC := Lib.hid (h.below hB)
  have HD := Lib.hid (h'.below hB)
  have HB := Lib.hid hB
  have HW := Lib.hid hW1
  have hwt : (s.wt != s.wt) = false := by simp
  clear h h' hB hW1 g0 g1
  go_enter Try.func87, Try.ntmps87
  go_wp2_with fail
  rw [HW.out]
  refine (eqConstraint_same _ _ s.con _ HC.out HD.out).mono ?_
  rintro e w' ⟨rfl, b⟩
  have k0 := (b.cell (World.block_lt_of_cell? _ _ HG0.out)).trans HG0.out
  have k1 := (b.cell (World.block_lt_of_cell? _ _ HG1.out)).trans HG1.out
  have HB2 := Lib.hid (HB.out.trans (b.mono HB.out.size))
  clear b
  go_wp2
  go_ret
  exact ⟨rfl, HB2.out⟩

set_option maxRecDepth 100000 in
set_option maxHeartbeats 4000000 in
theorem eqSoftS_sameB (v1 v2 : Value) (ss : List Sft) (w : World) (h1 : RdSofts w v1 ss) (h2 : RdSofts w v2 ss) :
    Calls Try.prog 33 #[v1, v2] w (SamePostB w) := by
  have H1 := Lib.hid h1
  have H2 := Lib.hid h2
  obtain ⟨a1, c1, ev1, hl1, hm1, _⟩ := h1
  obtain ⟨a2, c2, ev2, hl2, hm2, _⟩ := h2
  rw [ev1] at H1 ⊢
  rw [ev2] at H2 ⊢
  unfold maxLen at hm1 hm2
  obtain ⟨n, hn⟩ : ∃ n, n = ss.length := ⟨_, rfl⟩
  rw [← hn] at hl1 hl2 H1 H2 ⊢
  clear hn ev1 ev2
  have hne : ((n : Int) != (n : Int)) = false := by simp
  go_enter Try.func33, Try.ntmps33
  go_wp2
  go_loopw [5] (fun i wr => ∃ k : Nat, k ≤ n ∧ i = .int .i64 k ∧ Below w.heap.size w wr) (fun i _ => n - (intOf i).toNat)
  case atStart => exact ⟨0, Nat.zero_le _, rfl, Below.refl _ _⟩
  case round =>
    obtain ⟨k, hk, rfl, hbel⟩ := hrel
    by_cases hlt : k < n
    · obtain ⟨b1, o1, s, x2, x3, x5, y2, y3, y5, rfl, hck, k0, k1, k2, k3, k4, k5, hr1⟩ := rdSofts_at (H1.out.below hbel) hlt
      obtain ⟨b2, o2, s', z2, z3, z5, t2, t3, t5, rfl, hck', j0, j1, j2, j3, j4, j5, hr2⟩ := rdSofts_at (H2.out.below hbel) hlt
      rw [hck] at hck'
      obtain rfl := Option.some.inj hck'
      have R1 : Hid (RdCon wr.drew _ s.con) := Lib.hid hr1.drew
      have R2 : Hid (RdCon wr.drew _ s.con) := Lib.hid hr2.drew
      have HB : Hid (Below w.heap.size w wr.drew) := Lib.hid hbel.drew
      clear hr1 hr2 hck hck' hbel
      go_wp2_with fail
      go_region_with (go_at_call 87; refine (eqSoft_same _ _ _ _ _ _ _ _ _ _ _ _ s _ R1.out R2.out).mono ?_; rintro e w9 ⟨rfl, b9⟩; have B9 := Lib.hid (HB.out.trans (b9.mono HB.out.size)); clear b9)
      all_goals go_wp2
      all_goals go_roundw
      all_goals first
        | exact ⟨k + 1, by omega, by go_num, B9.out⟩
        | (simp [intOf]; omega)
    · obtain rfl : k = n := by omega
      go_wp2
      go_ret
      exact ⟨rfl, hbel⟩
end Go.Proofs.Ytjdbfiiaadphhaa
