/- Tasks: how a list of them reads; the laws' own copies, marks, and tests of equality. -/
import Derived.Test.YtelglccegkhfcaaToE
import Derived.Test.YtelglccegkhfcaaMkC
import Derived.Deep.RegionHeld3
namespace Go.Proofs.Ytelglccegkhfcaa
open Go.ChangeShapes Go.WideShapes Go.ChangeAt Go.RowKit Go.Deep
set_option linter.unusedVariables false
set_option linter.unusedSimpArgs false

/-- A literal as plain data. -/
structure Tsk where
  st : Int
  du : Int
  de : Int
theorem Tsk.ext' {a b : Tsk} (h1 : a.st = b.st) (h2 : a.du = b.du) (h3 : a.de = b.de) : a = b := by cases a; cases b; simp_all
instance : DecidableEq Tsk := fun a b => if h : a.st = b.st ∧ a.du = b.du ∧ a.de = b.de then isTrue (Tsk.ext' h.1 h.2.1 h.2.2) else isFalse (fun e => h ⟨by rw [e], by rw [e], by rw [e]⟩)

/-- The slice value v reads as a list of literals. -/
def RdTsks (w : World) (v : Value) (ls : List Tsk) : Prop :=
  ∃ a cap, v = .slice a ls.length cap ∧ ls.length ≤ cap ∧ cap ≤ maxLen ∧ (ls.length = 0 ∨ ∃ b off, a = some ⟨b, off, none⟩ ∧ ∀ i l, ls[i]? = some l →
    w.cell? ⟨b, off + i * 3, none⟩ = some (.int .i64 l.st) ∧ w.cell? ⟨b, off + i * 3 + 1, none⟩ = some (.int .i64 l.du) ∧ w.cell? ⟨b, off + i * 3 + 2, none⟩ = some (.int .i64 l.de))
theorem RdTsks.below {w w' : World} {v : Value} {ls : List Tsk} (h : RdTsks w v ls) (hb : Below w.heap.size w w') : RdTsks w' v ls := by
  obtain ⟨a, cap, e, h1, h2, h3⟩ := h
  refine ⟨a, cap, e, h1, h2, ?_⟩
  rcases h3 with h3 | ⟨b, off, ea, h3⟩
  · exact .inl h3
  · refine .inr ⟨b, off, ea, fun i l hi => ?_⟩
    obtain ⟨e0, e1, e2⟩ := h3 i l hi
    have k : ∀ (p : Addr) (x : Value), w.cell? p = some x → w'.cell? p = some x := fun p x hp => (hb.cell (World.block_lt_of_cell? w _ hp)).trans hp
    exact ⟨k _ _ e0, k _ _ e1, k _ _ e2⟩
theorem rdTsks_at {w : World} {a : Option Addr} {n cap : Nat} {ls : List Tsk} (h : RdTsks w (.slice a n cap) ls) {i : Nat} (hi : i < n) : ∃ (b off : Nat) (l : Tsk), a = some ⟨b, off, none⟩ ∧ ls[i]? = some l ∧
    w.cell? ⟨b, off + i * 3, none⟩ = some (.int .i64 l.st) ∧ w.cell? ⟨b, off + i * 3 + 1, none⟩ = some (.int .i64 l.du) ∧ w.cell? ⟨b, off + i * 3 + 2, none⟩ = some (.int .i64 l.de) := by
  obtain ⟨a', cap', e, h1, h2, h3⟩ := h
  simp at e
  obtain ⟨rfl, rfl, rfl⟩ := e
  rcases h3 with h3 | ⟨b, off, rfl, h3⟩
  · omega
  · exact ⟨b, off, ls[i], rfl, List.getElem?_eq_getElem hi, h3 i _ (List.getElem?_eq_getElem hi)⟩
theorem rdTsks_len {w : World} {a : Option Addr} {n cap : Nat} {ls : List Tsk} (h : RdTsks w (.slice a n cap) ls) : ls.length = n ∧ n ≤ cap ∧ cap ≤ 9223372036854775807 := by
  obtain ⟨a', cap', e, h1, h2, h3⟩ := h
  simp at e
  obtain ⟨rfl, rfl, rfl⟩ := e
  unfold maxLen at h2
  exact ⟨rfl, h1, by omega⟩

section
variable {H : Type} {enc : TypeId × Value → H} {w : World} {base : Nat} {held : Bool}
theorem tsk_of_cells {n : Nat} {cs : List Value} {y : DataW H × List MemPlace} (h : DataW.trod enc Try.prog w base (fun _ => true) held n 101 cs = some y) :
    ∃ l : Tsk, cs = [.int .i64 l.st, .int .i64 l.du, .int .i64 l.de] := by
  obtain ⟨hl, m, hf⟩ := cells_of_struct Try.underlying101 (by kernel_rfl) (by kernel_rfl) h
  obtain ⟨v0, z0, e0, r0⟩ := hf 0 _ rfl
  obtain ⟨v1, z1, e1, r1⟩ := hf 1 _ rfl
  obtain ⟨v2, z2, e2, r2⟩ := hf 2 _ rfl
  obtain ⟨a, q0, _, _⟩ := DataW.trod_int Try.underlying3 r0
  obtain ⟨b, q1, _, _⟩ := DataW.trod_int Try.underlying3 r1
  obtain ⟨c, q2, _, _⟩ := DataW.trod_int Try.underlying3 r2
  simp at q0 q1 q2
  subst q0 q1 q2
  refine ⟨⟨a, b, c⟩, ?_⟩
  match cs, hl, e0, e1, e2 with
  | [c0, c1, c2], _, e0, e1, e2 => simp_all
set_option maxRecDepth 100000 in
theorem rdTsks_of_trod {n : Nat} {v : Value} {y : DataW H × List MemPlace} (h : DataW.trod enc Try.prog w base (fun _ => true) held n 47 [v] = some y) : ∃ ls, RdTsks w v ls := by
  have hC : Try.prog.cellsOf 101 = 3 := by kernel_rfl
  rcases open_slice Try.underlying47 h with ⟨hcs, _⟩ | ⟨a, len, cap, m, k, D, Pl, hcs, hb, hl, hm, hmm, _, hx⟩
  · simp at hcs
    subst hcs
    exact ⟨[], none, 0, rfl, Nat.le_refl _, by simp [maxLen], .inl rfl⟩
  · simp at hcs hmm
    subst hcs hmm
    have each : ∀ r, r < m → ∃ q : Tsk, w.cells? base (a.add (r * 3)) 3 = some [.int .i64 q.st, .int .i64 q.du, .int .i64 q.de] := by
      intro r hr
      obtain ⟨cs', h1, h2⟩ := hx r hr
      obtain ⟨l, e⟩ := tsk_of_cells h2
      rw [hC, e] at h1
      exact ⟨l, h1⟩
    have : Inhabited Tsk := ⟨⟨0, 0, 0⟩⟩
    obtain ⟨f, hf⟩ := choose_lt each
    have hlen : ((List.range len).map f).length = len := by simp
    refine ⟨(List.range len).map f, some a, m, by rw [hlen], by omega, hm, ?_⟩
    by_cases h0 : len = 0
    · exact .inl (by omega)
    · obtain ⟨b, off, spot⟩ := a
      have hc := (World.cells?_some (hf 0 (by omega))).2.2 0 (by omega)
      have hspot : spot = none := by simpa [Addr.add] using World.cell?_spot (hc.trans (List.getElem?_cons_zero ..))
      subst hspot
      refine .inr ⟨b, off, rfl, fun i c hi => ?_⟩
      have hi' : i < len := by have := (List.getElem?_eq_some_iff.1 hi).1; simpa using this
      have ec : f i = c := by simpa [hi'] using hi
      have hat := (World.cells?_some (hf i (by omega))).2.2
      have ad : ∀ j, ((Addr.mk b off none).add (i * 3)).add j = ⟨b, off + i * 3 + j, none⟩ := fun j => by rw [addr_add, addr_add]
      rw [← ec]
      exact ⟨by simpa [ad] using hat 0 (by omega), by simpa [ad] using hat 1 (by omega), by simpa [ad] using hat 2 (by omega)⟩
set_option maxRecDepth 100000 in
theorem rdTsksArg_of_trod {r : Reach} {b0 : Nat} {v : Value} {d : DataW H} {p : List MemPlace} (hv : Value.okWide Try.prog w r b0 47 v) (h : DataW.Trod enc Try.prog w base (fun _ => true) held 47 v d p) : ∃ ls, RdTsks w v ls := by
  obtain ⟨a0, len0, cap0, rfl⟩ := okWide_slice Try.underlying47 hv
  obtain ⟨n, hf⟩ := h
  exact rdTsks_of_trod (by simpa [Value.cells] using hf)
end

set_option maxRecDepth 100000 in
theorem szTaskS_any (v : Value) (ls : List Tsk) (left : Int) (w : World) (h : RdTsks w v ls) (h0 : 0 ≤ left) (h1 : left ≤ 1048576) :
    Calls Try.prog 31 #[v, .int .i64 left] w (SzPost left (ls.length ≤ left.toNat) w) := by
  obtain ⟨a, cap, rfl, hl, hm, _⟩ := h
  obtain ⟨n, hn⟩ : ∃ n, n = ls.length := ⟨_, rfl⟩
  rw [← hn] at hl ⊢
  clear hn
  unfold maxLen at hm
  by_cases hneg : left - (n : Int) < 0
  · go_enter Try.func31, Try.ntmps31
    go_wp2
    go_ret
    exact ⟨-1, rfl, by omega, by omega, fun h => by omega, rfl⟩
  · go_enter Try.func31, Try.ntmps31
    go_wp2
    go_ret
    exact ⟨left - n, rfl, by omega, by omega, fun _ => by omega, rfl⟩

/-- A block of three cells. -/
def BlkT (w : World) (b : Nat) (t : TypeId) (u0 u1 u2 : Value) : Prop := w.heap[b]? = some (.cells #[u0, u1, u2] t (0, 0))
section
variable {w w' : World} {b : Nat} {t : TypeId} {u0 u1 u2 : Value}
theorem BlkT.cell (h : BlkT w b t u0 u1 u2) : w.cell? ⟨b, 0, none⟩ = some u0 ∧ w.cell? ⟨b, 1, none⟩ = some u1 ∧ w.cell? ⟨b, 2, none⟩ = some u2 := by
  simp [World.cell?, show w.heap[b]? = _ from h]
theorem BlkT.frozen (h : BlkT w b t u0 u1 u2) : w.frozen? ⟨b, 0, none⟩ = false ∧ w.frozen? ⟨b, 1, none⟩ = false ∧ w.frozen? ⟨b, 2, none⟩ = false := by
  simp [World.frozen?, show w.heap[b]? = _ from h]
theorem BlkT.lt (h : BlkT w b t u0 u1 u2) : b < w.heap.size := (Array.getElem?_eq_some_iff.1 h).1
theorem BlkT.below (h : BlkT w b t u0 u1 u2) (hb : Below w.heap.size w w') : BlkT w' b t u0 u1 u2 := (hb.block b h.lt).trans h
theorem BlkT.new (w : World) (t : TypeId) (u0 u1 u2 : Value) : BlkT (w.alloc (.cells #[u0, u1, u2] t)) w.heap.size t u0 u1 u2 := World.alloc_heap_new w _
theorem BlkT.alloc (h : BlkT w b t u0 u1 u2) (o : Obj) : BlkT (w.alloc o) b t u0 u1 u2 := (Below.heap_alloc w o b h.lt).trans h
end

/-- A literal as a value. -/
def Tsk.v (l : Tsk) : Value := .agg #[.int .i64 l.st, .int .i64 l.du, .int .i64 l.de]

theorem belowT3 (w : World) (o1 o2 o3 : Obj) : Below w.heap.size w (((w.alloc o1).alloc o2).alloc o3) := (((Below.refl _ _).alloc (Nat.le_refl _) _).alloc (by simp) _).alloc (by simp; omega) _
theorem belowT2 (w : World) (o1 o2 : Obj) : Below w.heap.size w ((w.alloc o1).alloc o2) := ((Below.refl _ _).alloc (Nat.le_refl _) _).alloc (by simp) _
set_option maxRecDepth 100000 in
set_option maxHeartbeats 2000000 in
theorem toTask_any (a b c : Int) (w : World) :
    Calls Try.prog 79 #[.agg #[.int .i64 a, .int .i64 b, .int .i64 c]] w fun e w' => e = .returned (.agg #[.int .i64 a, .int .i64 b, .int .i64 c]) ∧ Below w.heap.size w w' := by
  go_enter Try.func79, Try.ntmps79
  go_wp2
  first
    | (go_ret; exact ⟨rfl, belowT3 _ _ _ _⟩)
    | refine bodyPost_ret (v := .agg #[.int .i64 a, .int .i64 b, .int .i64 c]) (by simp [results, Try.results79, go_sem]) rfl ⟨rfl, belowT3 _ _ _ _⟩

set_option maxRecDepth 100000 in
set_option maxHeartbeats 2000000 in
theorem eqTask_any (l k : Tsk) (w : World) :
    Calls Try.prog 82 #[.agg #[.int .i64 l.st, .int .i64 l.du, .int .i64 l.de], .agg #[.int .i64 k.st, .int .i64 k.du, .int .i64 k.de]] w fun e w' => e = .returned (.bool (decide (l = k))) ∧ Below w.heap.size w w' := by
  obtain ⟨a, b, c⟩ := l
  obtain ⟨x, y, z⟩ := k
  show Calls Try.prog 82 #[.agg #[.int .i64 a, .int .i64 b, .int .i64 c], .agg #[.int .i64 x, .int .i64 y, .int .i64 z]] w _
  by_cases h1 : a = x
  · by_cases h2 : b = y
    · by_cases h3 : c = z
      · subst h1 h2 h3
        rw [decide_eq_true rfl]
        have q1 : (a != a) = false := by simp
        have q2 : (b != b) = false := by simp
        have q3 : (c != c) = false := by simp
        go_enter Try.func82, Try.ntmps82
        go_wp2
        go_ret
        exact ⟨rfl, belowT2 _ _ _⟩
      · rw [decide_eq_false (fun e => h3 (by injection e))]
        subst h1 h2
        have q1 : (a != a) = false := by simp
        have q2 : (b != b) = false := by simp
        have q3 : (c != z) = true := by simp [h3]
        all_goals go_enter Try.func82, Try.ntmps82
        all_goals go_wp2
        all_goals go_ret
        all_goals exact ⟨rfl, belowT2 _ _ _⟩
    · rw [decide_eq_false (fun e => h2 (by injection e))]
      subst h1
      have q1 : (a != a) = false := by simp
      have q2 : (b != y) = true := by simp [h2]
      go_enter Try.func82, Try.ntmps82
      go_wp2
      go_ret
      exact ⟨rfl, belowT2 _ _ _⟩
  · rw [decide_eq_false (fun e => h1 (by injection e))]
    have q1 : (a != x) = true := by simp [h1]
    go_enter Try.func82, Try.ntmps82
    go_wp2
    go_ret
    exact ⟨rfl, belowT2 _ _ _⟩


theorem Try.infoTsk : (Try.prog.info? 38).map (fun i => (i.zero, i.size, i.bytes)) = some (some (.agg #[.int .i64 0, .int .i64 0, .int .i64 0]), 3, 24) := by kernel_rfl
def setT3 (vs : List Value) (p : Nat) (u0 u1 u2 : Value) : List Value := ((vs.set p u0).set (p + 1) u1).set (p + 2) u2
theorem setT3_other (vs : List Value) (p q : Nat) (u0 u1 u2 : Value) (h : q < p ∨ p + 2 < q) : (setT3 vs p u0 u1 u2)[q]? = vs[q]? := by
  unfold setT3
  rw [List.getElem?_set_ne (by omega), List.getElem?_set_ne (by omega), List.getElem?_set_ne (by omega)]
theorem setT3_at (vs : List Value) (p : Nat) (u0 u1 u2 : Value) (h : p + 2 < vs.length) : (setT3 vs p u0 u1 u2)[p]? = some u0 ∧ (setT3 vs p u0 u1 u2)[p + 1]? = some u1 ∧ (setT3 vs p u0 u1 u2)[p + 2]? = some u2 := by
  unfold setT3
  refine ⟨?_, ?_, ?_⟩ <;> simp [List.getElem?_set, List.length_set] <;> omega
theorem setT3_length (vs : List Value) (p : Nat) (u0 u1 u2 : Value) : (setT3 vs p u0 u1 u2).length = vs.length := by simp [setT3]
/-- The first k literals lie in the cells vs. -/
def TskCells (ls : List Tsk) (k : Nat) (vs : List Value) : Prop := vs.length = ls.length * 3 ∧ ∀ j l, j < k → ls[j]? = some l → vs[j * 3]? = some (.int .i64 l.st) ∧ vs[j * 3 + 1]? = some (.int .i64 l.du) ∧ vs[j * 3 + 2]? = some (.int .i64 l.de)
theorem TskCells.step {ls : List Tsk} {k : Nat} {vs : List Value} (h : TskCells ls k vs) {l : Tsk} (hc : ls[k]? = some l) : TskCells ls (k + 1) (setT3 vs (k * 3) (.int .i64 l.st) (.int .i64 l.du) (.int .i64 l.de)) := by
  obtain ⟨h1, h2⟩ := h
  have hk : k < ls.length := (List.getElem?_eq_some_iff.1 hc).1
  refine ⟨by rw [setT3_length]; exact h1, fun j l' hj hc' => ?_⟩
  by_cases e : j = k
  · subst e
    rw [hc] at hc'
    obtain rfl := Option.some.inj hc'
    exact setT3_at _ _ _ _ _ (by omega)
  · obtain ⟨t0, t1, t2⟩ := h2 j l' (by omega) hc'
    exact ⟨by rw [setT3_other _ _ _ _ _ _ (by omega)]; exact t0, by rw [setT3_other _ _ _ _ _ _ (by omega)]; exact t1, by rw [setT3_other _ _ _ _ _ _ (by omega)]; exact t2⟩
/-- What toTaskS leaves: a row of its own. -/
def CopyTsks (ls : List Tsk) (w : World) (e : Ending) (w' : World) : Prop := e = .returned (.slice (some ⟨w.heap.size, 0, none⟩) ls.length ls.length) ∧ RdTsks w' (.slice (some ⟨w.heap.size, 0, none⟩) ls.length ls.length) ls ∧ (∃ vs, w'.ownsRow w.heap.size 38 3 (.slice (some ⟨w.heap.size, 0, none⟩) ls.length ls.length) ls.length vs ∧ TskCells ls ls.length vs) ∧ Below w.heap.size w w'
theorem rdTsks_of_cells {w : World} {B g : Nat} {ls : List Tsk} {vs : List Value} (h : w.ownsRow B 38 3 (.slice (some ⟨g, 0, none⟩) ls.length ls.length) ls.length vs) (hc : TskCells ls ls.length vs) (hl : ls.length ≤ 1048576) : RdTsks w (.slice (some ⟨g, 0, none⟩) ls.length ls.length) ls := by
  refine ⟨some ⟨g, 0, none⟩, ls.length, rfl, Nat.le_refl _, by unfold maxLen; omega, .inr ⟨g, 0, rfl, fun i l hi => ?_⟩⟩
  have hlt : i < ls.length := (List.getElem?_eq_some_iff.1 hi).1
  obtain ⟨t0, t1, t2⟩ := hc.2 i l hlt hi
  have hv : vs.length = ls.length * 3 := hc.1
  have k : ∀ q u, q < ls.length * 3 → vs[q]? = some u → w.cell? ⟨g, 0 + q, none⟩ = some u := fun q u hq hu => by rw [Nat.zero_add, h.cellAt q (by omega)]; exact hu
  exact ⟨k _ _ (by omega) t0, k _ _ (by omega) t1, k _ _ (by omega) t2⟩

set_option maxRecDepth 100000 in
set_option maxHeartbeats 4000000 in
theorem toTaskS_any (v : Value) (ls : List Tsk) (w : World) (h : RdTsks w v ls) (hx : ls.length ≤ 1048576) :
    Calls Try.prog 33 #[v] w (CopyTsks ls w) := by
  have HC := Lib.hid h
  obtain ⟨a, cap, ev, hl, hm, _⟩ := h
  unfold CopyTsks
  obtain ⟨n, hn⟩ : ∃ n, n = ls.length := ⟨_, rfl⟩
  have HN := Lib.hid hn
  rw [ev] at HC ⊢
  rw [← hn] at hl hx HC ⊢
  clear hn ev
  unfold maxLen at hm
  obtain ⟨i0, hi, hz0, hz1, hz2⟩ := info_parts Try.infoTsk
  go_enter Try.func33, Try.ntmps33
  go_wp2_with (at_make; refine wpList_make_full _ rfl _ _ 32 rfl w.heap.size 38 i0 (.agg #[.int .i64 0, .int .i64 0, .int .i64 0]) 3 Try.underlying32 hi hz0 hz1 .i64 .i64 _ _ n rfl rfl rfl rfl (by rw [hz2]; omega) (by unfold maxLen; omega) (Nat.le_refl _) ?_; intro w1 hown hgrow)
  have hb1 := below_of_grown hgrow
  have hsz1 : w.heap.size < w1.heap.size := by
    rcases hown.2 with ⟨e, _⟩ | ⟨g, c, cur, e, _, hg, _⟩
    · simp at e
    · simp at e; obtain ⟨rfl, rfl⟩ := e; exact (Array.getElem?_eq_some_iff.1 hg).1
  obtain ⟨vs0, hvs0⟩ : ∃ vs0, vs0 = (madeCells (Value.cells (.agg #[.int .i64 0, .int .i64 0, .int .i64 0])) (n * 3)).toList := ⟨_, rfl⟩
  rw [← hvs0] at hown
  have HO := Lib.hid hown
  have HV : Hid (TskCells ls 0 vs0) := Lib.hid ⟨by rw [hown.1, HN.out], fun j c hj => by omega⟩
  clear hown hgrow hvs0
  go_wp2_with fail
  go_loopw [4] (fun i wr => ∃ (k : Nat) (vs : List Value), k ≤ n ∧ i = .int .i64 k ∧ Hid (wr.ownsRow w.heap.size 38 3 (.slice (some ⟨w.heap.size, 0, none⟩) n n) n vs) ∧ Hid (TskCells ls k vs) ∧ Below w.heap.size w wr ∧ w.heap.size < wr.heap.size) (fun i _ => n - (intOf i).toNat)
  case atStart => exact ⟨0, _, Nat.zero_le _, rfl, HO, HV, hb1, hsz1⟩
  case round =>
    obtain ⟨k, vs, hk, rfl, HR, HV, hbel, hsz⟩ := hrel
    by_cases hlt : k < n
    · obtain ⟨b, off, l, rfl, hck, k0, k1, k2⟩ := rdTsks_at (HC.out.below hbel) hlt
      have HCK := Lib.hid hck
      clear hck
      go_wp2_with fail
      refine (toTask_any l.st l.du l.de wr).mono ?_
      rintro e w2 ⟨rfl, hb2⟩
      have HR2 := Lib.hid (World.ownsRow.kept HR.out (show wr.grownBy w2 none from ⟨hb2.os, hb2.tape, hb2.output, hb2.size, fun q hq _ => hb2.block q hq⟩) (.inr (by simp [Value.ownBlock])))
      have hb3 : Below w.heap.size w w2 := hbel.trans (hb2.mono hbel.size)
      have hs3 : w.heap.size < w2.heap.size := by have := hb2.size; omega
      clear hb2 hbel HR k0 k1 k2
      have hvl : vs.length = n * 3 := HR2.out.1
      have d0 : w2.cell? ⟨w.heap.size, k * 3, none⟩ = some (vs[k * 3]'(by omega)) := by rw [HR2.out.cellAt _ (by omega)]; exact List.getElem?_eq_getElem _
      have d1 : w2.cell? ⟨w.heap.size, k * 3 + 1, none⟩ = some (vs[k * 3 + 1]'(by omega)) := by rw [HR2.out.cellAt _ (by omega)]; exact List.getElem?_eq_getElem _
      have d2 : w2.cell? ⟨w.heap.size, k * 3 + 2, none⟩ = some (vs[k * 3 + 2]'(by omega)) := by rw [HR2.out.cellAt _ (by omega)]; exact List.getElem?_eq_getElem _
      have f0 := HR2.out.frozenAt (k * 3)
      have f1 := HR2.out.frozenAt (k * 3 + 1)
      have f2 := HR2.out.frozenAt (k * 3 + 2)
      go_wp2
      go_roundw
      case rel =>
        refine ⟨k + 1, setT3 vs (k * 3) (.int .i64 l.st) (.int .i64 l.du) (.int .i64 l.de), by omega, by go_num, Lib.hid ?_, Lib.hid (HV.out.step HCK.out), ?_, by simpa using hs3⟩
        · have t0 := (HR2.out.stored (k * 3) (.int .i64 l.st)).1
          have t1 := (t0.stored (k * 3 + 1) (.int .i64 l.du)).1
          exact (t1.stored (k * 3 + 2) (.int .i64 l.de)).1
        · have hp : ∀ j : Nat, w.heap.size ≤ (⟨w.heap.size, j, none⟩ : Addr).block := fun j => Nat.le_refl _
          exact ((hb3.setCell (hp _) _).setCell (hp _) _).setCell (hp _) _
      case measure => simp [intOf]; omega
    · obtain rfl : k = n := by omega
      have HF : Hid (RdTsks wr (.slice (some ⟨w.heap.size, 0, none⟩) k k) ls) := Lib.hid (by
        have := HN.out
        subst this
        exact rdTsks_of_cells HR.out HV.out hx)
      go_wp2
      go_ret
      exact ⟨rfl, HF.out, ⟨vs, HR.out, HV.out⟩, hbel⟩

set_option maxRecDepth 100000 in
set_option maxHeartbeats 4000000 in
theorem eqTaskS_same (v1 v2 : Value) (ls : List Tsk) (w : World) (h1 : RdTsks w v1 ls) (h2 : RdTsks w v2 ls) :
    Calls Try.prog 35 #[v1, v2] w (SamePostB w) := by
  have H1 := Lib.hid h1
  have H2 := Lib.hid h2
  obtain ⟨a1, c1, ev1, hl1, hm1, _⟩ := h1
  obtain ⟨a2, c2, ev2, hl2, hm2, _⟩ := h2
  rw [ev1] at H1 ⊢
  rw [ev2] at H2 ⊢
  unfold maxLen at hm1 hm2
  obtain ⟨n, hn⟩ : ∃ n, n = ls.length := ⟨_, rfl⟩
  rw [← hn] at hl1 hl2 H1 H2 ⊢
  clear hn ev1 ev2
  have hne : ((n : Int) != (n : Int)) = false := by simp
  go_enter Try.func35, Try.ntmps35
  go_wp2
  go_loopw [5] (fun i wr => ∃ k : Nat, k ≤ n ∧ i = .int .i64 k ∧ Below w.heap.size w wr) (fun i _ => n - (intOf i).toNat)
  case atStart => exact ⟨0, Nat.zero_le _, rfl, Below.refl _ _⟩
  case round =>
    obtain ⟨k, hk, rfl, hbel⟩ := hrel
    by_cases hlt : k < n
    · obtain ⟨b1, o1, l, rfl, hck, k0, k1, k2⟩ := rdTsks_at (H1.out.below hbel) hlt
      obtain ⟨b2, o2, l', rfl, hck', j0, j1, j2⟩ := rdTsks_at (H2.out.below hbel) hlt
      rw [hck] at hck'
      obtain rfl := Option.some.inj hck'
      have HB : Hid (Below w.heap.size w wr.drew) := Lib.hid hbel.drew
      have HE := Lib.hid (eqTask_any l l wr.drew)
      rw [decide_eq_true rfl] at HE
      clear hck hck' hbel
      go_wp2_with fail
      go_region_with (go_at_call 82; refine HE.out.mono ?_; rintro e w9 ⟨rfl, b9⟩; have B9 := Lib.hid (HB.out.trans (b9.mono HB.out.size)); clear b9)
      all_goals go_wp2
      all_goals go_roundw
      all_goals first
        | exact ⟨k + 1, by omega, by go_num, B9.out⟩
        | (simp [intOf]; omega)
    · obtain rfl : k = n := by omega
      go_wp2
      go_ret
      exact ⟨rfl, hbel⟩

/-- A slice of n literals that may be written, in blocks lo, .., hi - 1. -/
def ShTk (lo hi : Nat) (w : World) (v : Value) (n : Nat) : Prop :=
  ∃ a c, v = .slice a n c ∧ n ≤ c ∧ c ≤ maxLen ∧ (n = 0 ∨ ∃ b off, a = some ⟨b, off, none⟩ ∧ lo ≤ b ∧ b < hi ∧ ∀ i, i < n → ∃ (x y z : Int), w.cell? ⟨b, off + i * 3, none⟩ = some (.int .i64 x) ∧ w.cell? ⟨b, off + i * 3 + 1, none⟩ = some (.int .i64 y) ∧ w.cell? ⟨b, off + i * 3 + 2, none⟩ = some (.int .i64 z) ∧ w.frozen? ⟨b, off + i * 3, none⟩ = false ∧ w.frozen? ⟨b, off + i * 3 + 1, none⟩ = false ∧ w.frozen? ⟨b, off + i * 3 + 2, none⟩ = false)
theorem ShTk.marked {lo hi lo' hi' : Nat} {w w' : World} {v : Value} {n : Nat} (h : ShTk lo hi w v n) (hm : Marked lo' hi' w w') : ShTk lo hi w' v n := by
  obtain ⟨a, c, e, h1, h2, h3⟩ := h
  refine ⟨a, c, e, h1, h2, ?_⟩
  rcases h3 with h3 | ⟨b, off, ea, hb1, hb2, h3⟩
  · exact .inl h3
  · refine .inr ⟨b, off, ea, hb1, hb2, fun i hi => ?_⟩
    obtain ⟨x, y, z, c0, c1, c2, f0, f1, f2⟩ := h3 i hi
    have num : ∀ {p} {x : Int}, w.cell? p = some (.int .i64 x) → ∃ z : Int, w'.cell? p = some (.int .i64 z) := fun hu => by
      obtain ⟨z, hz, k1, _⟩ := hm.cell _ _ hu
      obtain ⟨j, ej⟩ := k1 _ rfl
      exact ⟨j, by rw [hz, ej]⟩
    obtain ⟨x', c0'⟩ := num c0
    obtain ⟨y', c1'⟩ := num c1
    obtain ⟨z', c2'⟩ := num c2
    have hb := World.block_lt_of_cell? w _ c0
    exact ⟨x', y', z', c0', c1', c2', (hm.frozen b _ hb).trans f0, (hm.frozen b _ hb).trans f1, (hm.frozen b _ hb).trans f2⟩
def ShTsks (lo hi : Nat) (w : World) (v : Value) : Prop := ∃ n, ShTk lo hi w v n ∧ n ≤ 1048576
theorem ShTsks.marked {lo hi lo' hi' : Nat} {w w' : World} {v : Value} (h : ShTsks lo hi w v) (hm : Marked lo' hi' w w') : ShTsks lo hi w' v := by
  obtain ⟨n, h1, h2⟩ := h
  exact ⟨n, h1.marked hm, h2⟩
theorem ShTsks.below {lo hi : Nat} {w w' : World} {v : Value} (h : ShTsks lo hi w v) (hb : Below w.heap.size w w') : ShTsks lo hi w' v := h.marked (Marked.of_below (lo := 0) (hi := 0) hb)

theorem toTaskS_sh (v : Value) (ls : List Tsk) (w : World) (h : RdTsks w v ls) (hx : ls.length ≤ 1048576) :
    Calls Try.prog 33 #[v] w fun e w' => ∃ v', e = .returned v' ∧ RdTsks w' v' ls ∧ ShTsks w.heap.size w'.heap.size w' v' ∧ Below w.heap.size w w' := by
  refine (toTaskS_any v ls w h hx).mono ?_
  rintro e w' ⟨rfl, rx, ⟨vs, ho, hc⟩, b⟩
  refine ⟨_, rfl, rx, ⟨ls.length, ⟨_, _, rfl, Nat.le_refl _, by unfold maxLen; omega, ?_⟩, hx⟩, b⟩
  by_cases h0 : ls.length = 0
  · exact .inl h0
  · refine .inr ⟨_, _, rfl, Nat.le_refl _, ?_, fun i hi => ?_⟩
    · rcases ho.2 with ⟨e, _⟩ | ⟨g, c, cur, e, _, hg, _⟩
      · simp at e
      · simp at e; obtain ⟨rfl, rfl⟩ := e; exact (Array.getElem?_eq_some_iff.1 hg).1
    · obtain ⟨l, hl⟩ : ∃ l, ls[i]? = some l := ⟨_, List.getElem?_eq_getElem hi⟩
      obtain ⟨a', c', e, _, _, h3⟩ := rx
      simp at e
      obtain ⟨rfl, rfl⟩ := e
      rcases h3 with h3 | ⟨b', off', ea, h3⟩
      · omega
      · simp at ea
        obtain ⟨rfl, rfl⟩ := ea
        obtain ⟨t0, t1, t2⟩ := h3 i l hl
        exact ⟨_, _, _, t0, t1, t2, ho.frozenAt _, ho.frozenAt _, ho.frozenAt _⟩

set_option maxRecDepth 100000 in
set_option maxHeartbeats 4000000 in
theorem markTaskS_sh (lo hi : Nat) (v : Value) (k : Int) (w : World) (h : ShTsks lo hi w v) (h0 : 0 ≤ k) (hk : k ≤ 2000000000000000000) :
    Calls Try.prog 38 #[v, .int .i64 k] w (MarksPost lo hi k 3145728 w) := by
  obtain ⟨n, hs, hn⟩ := h
  have HS := Lib.hid hs
  obtain ⟨a, c, rfl, hl, hm, hx⟩ := hs
  clear hx
  unfold maxLen at hm
  unfold MarksPost
  go_enter Try.func38, Try.ntmps38
  go_wp2
  go_loopw [1, 5] (fun q i wr => ∃ j : Nat, j ≤ n ∧ i = .int .i64 j ∧ q = .int .i64 (k + 3 * j) ∧ Hid (Marked lo hi w wr)) (fun _ i _ => n - (intOf i).toNat)
  case atStart => exact ⟨0, Nat.zero_le _, rfl, by simp, Lib.hid (Marked.refl _ _ _)⟩
  case round =>
    obtain ⟨j, hj, rfl, rfl, HM⟩ := hrel
    by_cases hlt : j < n
    · obtain ⟨a', c', ea, _, _, hx⟩ := HS.out.marked HM.out
      simp at ea
      obtain ⟨rfl, rfl⟩ := ea
      rcases hx with hx | ⟨b, off, rfl, hb1, hb2, hx⟩
      · omega
      obtain ⟨x, y, z, c0, c1, c2, f0, f1, f2⟩ := hx j hlt
      have m1 := Marked.set c0 hb1 hb2 (k + 3 * j)
      have c1' : (wr.setCell ⟨b, off + j * 3, none⟩ (.int .i64 (k + 3 * j))).cell? ⟨b, off + j * 3 + 1, none⟩ = some (.int .i64 y) := by
        rw [World.cell?_setCell_other]
        · exact c1
        · intro e; have := congrArg Addr.off e; simp at this
      have m2 := m1.trans (Marked.set c1' hb1 hb2 (k + 3 * j + 1))
      have c2' : ((wr.setCell ⟨b, off + j * 3, none⟩ (.int .i64 (k + 3 * j))).setCell ⟨b, off + j * 3 + 1, none⟩ (.int .i64 (k + 3 * j + 1))).cell? ⟨b, off + j * 3 + 2, none⟩ = some (.int .i64 z) := by
        rw [World.cell?_setCell_other, World.cell?_setCell_other]
        · exact c2
        · intro e; have := congrArg Addr.off e; simp at this
        · intro e; have := congrArg Addr.off e; simp at this
      have HM3 := Lib.hid (HM.out.trans (m2.trans (Marked.set c2' hb1 hb2 (k + 3 * j + 1 + 1))))
      clear hx HM m1 m2 c1' c2'
      go_wp2
      go_roundw
      case rel => exact ⟨j + 1, by omega, by go_num, by go_num, HM3⟩
      case measure => simp [intOf]; omega
    · obtain rfl : j = n := by omega
      go_wp2
      go_ret
      exact ⟨k + 3 * j, rfl, by omega, by omega, HM.out⟩

end Go.Proofs.Ytelglccegkhfcaa
