/- Slices of slices of slices of integers: how they read; the laws' own copies and tests of equality. -/
import Derived.Test.YtjdbfiiaadphhaaToE
namespace Go.Proofs.Ytjdbfiiaadphhaa
open Go.ChangeShapes Go.WideShapes Go.ChangeAt Go.RowKit Go.Deep
set_option linter.unusedVariables false
set_option linter.unusedSimpArgs false

/-- The slice value v reads as a list of lists of rows. -/
def RdR3 (w : World) (v : Value) (d : List (List (List Int))) : Prop :=
  ∃ a cap, v = .slice a d.length cap ∧ d.length ≤ cap ∧ cap ≤ maxLen ∧ (d.length = 0 ∨ ∃ b off, a = some ⟨b, off, none⟩ ∧ ∀ i, i < d.length → ∃ u, w.cell? ⟨b, off + i, none⟩ = some u ∧ RdRows w u (d[i]?.getD []))
theorem RdR3.below {w w' : World} {v : Value} {xs : List (List (List Int))} (h : RdR3 w v xs) (hb : Below w.heap.size w w') : RdR3 w' v xs := by
  obtain ⟨a, cap, e, h1, h2, h3⟩ := h
  refine ⟨a, cap, e, h1, h2, ?_⟩
  rcases h3 with h3 | ⟨b, off, ea, h3⟩
  · exact .inl h3
  · refine .inr ⟨b, off, ea, fun i hi => ?_⟩
    obtain ⟨u, hu, hr⟩ := h3 i hi
    exact ⟨u, (hb.cell (World.block_lt_of_cell? w _ hu)).trans hu, hr.below hb⟩
theorem RdR3.drewN {w : World} {v : Value} {xs : List (List (List Int))} (h : RdR3 w v xs) (k : Nat) : RdR3 (w.drewN k) v xs := h

section
variable {H : Type} {enc : TypeId × Value → H} {w : World} {base : Nat} {held : Bool}
set_option maxRecDepth 100000 in
theorem rdR3_of_trod {n : Nat} {v : Value} {y : DataW H × List MemPlace} (h : DataW.trod enc Try.prog w base (fun _ => true) held n 27 [v] = some y) : ∃ xs, RdR3 w v xs := by
  rcases open_slice1 Try.underlying27 (by kernel_rfl) h with ⟨hcs, _⟩ | ⟨a, len, cap, m, k, V, D, Pl, hcs, hb, hl, hm, hmm, _, hx⟩
  · simp at hcs
    subst hcs
    exact ⟨[], none, 0, rfl, Nat.le_refl _, by simp [maxLen], .inl rfl⟩
  · simp at hcs hmm
    subst hcs hmm
    have each : ∀ r, r < m → ∃ xs, RdRows w (V r) xs := fun r hr => rdRows_of_trod (hx r hr).2
    obtain ⟨f, hf⟩ := choose_lt each
    have hlen : ((List.range len).map f).length = len := by simp
    refine ⟨(List.range len).map f, some a, m, by rw [hlen], by omega, hm, ?_⟩
    by_cases h0 : len = 0
    · exact .inl (by omega)
    · obtain ⟨b, off, spot⟩ := a
      have hc := (hx 0 (by omega)).1
      have hspot : spot = none := by simpa [Addr.add] using World.cell?_spot hc
      subst hspot
      refine .inr ⟨b, off, rfl, fun i hi => ?_⟩
      have hi' : i < len := by omega
      have := (hx i (by omega)).1
      rw [show (Addr.add ⟨b, off, none⟩ i) = ⟨b, off + i, none⟩ from by unfold Addr.add; split <;> simp_all] at this
      exact ⟨V i, this, by simpa [hi'] using hf i (by omega)⟩
set_option maxRecDepth 100000 in
theorem rdR3Arg_of_trod {r : Reach} {b0 : Nat} {v : Value} {d : DataW H} {p : List MemPlace} (hv : Value.okWide Try.prog w r b0 27 v) (h : DataW.Trod enc Try.prog w base (fun _ => true) held 27 v d p) : ∃ xs, RdR3 w v xs := by
  obtain ⟨a0, len0, cap0, rfl⟩ := okWide_slice Try.underlying27 hv
  obtain ⟨n, hf⟩ := h
  exact rdR3_of_trod (by simpa [Value.cells] using hf)
end

/-- No more than L lists, each within L. -/
def R3Le (d : List (List (List Int))) (L : Nat) : Prop := d.length ≤ L ∧ ∀ j, j < d.length → RowsLe (d[j]?.getD []) L

set_option maxRecDepth 100000 in
set_option maxHeartbeats 1000000 in
theorem szIntSSS_any (v : Value) (d : List (List (List Int))) (left : Int) (w : World) (h : RdR3 w v d) (h0 : 0 ≤ left) (h1 : left ≤ 1048576) :
    Calls Try.prog 18 #[v, .int .i64 left] w (SzPost left (R3Le d left.toNat) w) := by
  obtain ⟨a, cap, rfl, hl, hm, h⟩ := h
  obtain ⟨n, hn⟩ : ∃ n, n = d.length := ⟨_, rfl⟩
  have HN := Lib.hid hn
  rw [← hn] at hl h ⊢
  clear hn
  unfold maxLen at hm
  by_cases hneg : left - (n : Int) < 0
  · clear h
    go_enter Try.func18, Try.ntmps18
    go_wp2
    go_ret
    exact ⟨-1, rfl, by omega, by omega, fun h => by omega, rfl⟩
  · go_enter Try.func18, Try.ntmps18
    go_wp2
    go_loop [1, 5] (fun q i => ∃ (k : Nat) (l : Int), k ≤ n ∧ i = .int .i64 k ∧ q = .int .i64 l ∧ 0 ≤ l ∧ l ≤ left ∧ Hid (∀ j, j < k → RowsLe (d[j]?.getD []) left.toNat)) (fun _ i => n - (intOf i).toNat)
    case atStart => exact ⟨0, left - n, Nat.zero_le _, rfl, rfl, by omega, by omega, fun j hj => by omega⟩
    case round =>
      obtain ⟨k, l, hk, rfl, rfl, hl0, hl1, HE⟩ := hrel
      by_cases hlt : k < n
      · rcases h with h | ⟨b, off, rfl, g⟩
        · omega
        obtain ⟨u, q1, hu⟩ := g k hlt
        clear g
        have HU := Lib.hid hu
        obtain ⟨a2, cc2, eu, _, _, _⟩ := hu
        rw [eu] at q1 HU
        clear eu
        go_wp2_with fail
        refine (szIntSS_any _ (d[k]?.getD []) l _ HU.out hl0 (by omega)).mono ?_
        rintro e w' ⟨r, rfl, hr1, hr2, hr3, rfl⟩
        have HR3 := Lib.hid hr3
        clear hr3
        by_cases hr : r < 0
        · go_wp2
          go_ret
          exact ⟨-1, rfl, by omega, by omega, fun h => by omega, rfl⟩
        · go_wp2
          go_round
          case rel => exact ⟨k + 1, r, by omega, by go_num, rfl, by omega, by omega, fun j hj => by by_cases e : j = k; (· subst e; exact (HR3.out (by omega)).mono (by omega)); (· exact HE.out j (by omega))⟩
          case measure => simp [intOf]; omega
      · obtain rfl : k = n := by omega
        clear h
        go_wp2
        go_ret
        exact ⟨l, rfl, by omega, by omega, fun _ => ⟨by have := HN.out; omega, fun j hj => HE.out j (by have := HN.out; omega)⟩, rfl⟩

/-- The copies of the first k lists of rows, in blocks behind g; the rest nil. -/
def R3Cells (d : List (List (List Int))) (g k : Nat) (vs : List Value) (w : World) : Prop :=
  vs.length = d.length ∧ (∀ j, j < k → ∃ u, vs[j]? = some u ∧ RdRows w u (d[j]?.getD []) ∧ RowsAbove (g + 1) w u ∧ RowsUn w u) ∧
  ∀ j, k ≤ j → j < d.length → vs[j]? = some (.slice none 0 0)
theorem RowsAbove.below {B : Nat} {w w' : World} {v : Value} {rows : List (List Int)} (h : RowsAbove B w v) (hr : RdRows w v rows) (hb : Below w.heap.size w w') : RowsAbove B w' v := by
  intro b off n c ev
  obtain ⟨h1, h2⟩ := h b off n c ev
  refine ⟨h1, fun i x hi hx => h2 i x hi ?_⟩
  obtain ⟨a, cap, e2, _, _, h3⟩ := hr
  rw [ev] at e2
  simp at e2
  obtain ⟨rfl, rfl, rfl⟩ := e2
  rcases h3 with h3 | ⟨b2, off2, e3, h3⟩
  · omega
  · simp at e3
    obtain ⟨rfl, rfl⟩ := e3
    obtain ⟨y, hy, _⟩ := h3 i hi
    rw [(hb.cell (World.block_lt_of_cell? w _ hy))] at hx
    exact hx
theorem R3Cells.below {d : List (List (List Int))} {g k : Nat} {vs : List Value} {w w' : World} (h : R3Cells d g k vs w) (hb : Below w.heap.size w w') : R3Cells d g k vs w' := by
  obtain ⟨h1, h2, h3⟩ := h
  refine ⟨h1, fun j hj => ?_, h3⟩
  obtain ⟨u, e1, e2, e3, e4⟩ := h2 j hj
  exact ⟨u, e1, e2.below hb, e3.below e2 hb, e4.below e2 hb⟩
theorem R3Cells.step {d : List (List (List Int))} {g k : Nat} {vs : List Value} {w : World} {u : Value} (h : R3Cells d g k vs w) (hk : k < d.length) (hr : RdRows w u (d[k]?.getD [])) (hA : RowsAbove (g + 1) w u) (hU : RowsUn w u) :
    R3Cells d g (k + 1) (vs.set k u) (w.setCell ⟨g, k, none⟩ u) := by
  obtain ⟨h1, h2, h3⟩ := h
  refine ⟨by simp [h1], fun j hj => ?_, fun j hj1 hj2 => ?_⟩
  · have hp : (⟨g, k, none⟩ : Addr).block < g + 1 := by show g < g + 1; omega
    by_cases e : j = k
    · subst e
      exact ⟨u, by simp [List.getElem?_set, h1, hk], (hr.setCell hA hp _).1, (hr.setCell hA hp _).2, hU.setCell hA hp _⟩
    · obtain ⟨x, e1, e2, e3, e4⟩ := h2 j (by omega)
      exact ⟨x, by rw [List.getElem?_set_ne (Ne.symm e)]; exact e1, (e2.setCell e3 hp _).1, (e2.setCell e3 hp _).2, e4.setCell e3 hp _⟩
  · rw [List.getElem?_set_ne (by omega)]
    exact h3 j (by omega) hj2
theorem Try.info44 : (Try.prog.info? 44).map (fun i => (i.zero, i.size, i.bytes)) = some (some (.slice none 0 0), 1, 24) := by kernel_rfl

/-- What toIntSSS leaves. -/
def CopyR3Post (d : List (List (List Int))) (w : World) (e : Ending) (w' : World) : Prop :=
  e = .returned (.slice (some ⟨w.heap.size, 0, none⟩) d.length d.length) ∧ RdR3 w' (.slice (some ⟨w.heap.size, 0, none⟩) d.length d.length) d ∧ Below w.heap.size w w' ∧ w.heap.size < w'.heap.size

set_option maxRecDepth 100000 in
set_option maxHeartbeats 1000000 in
theorem toIntSSS_any (v : Value) (d : List (List (List Int))) (w : World) (h : RdR3 w v d) (hx : R3Le d 1048576) :
    Calls Try.prog 20 #[v] w (CopyR3Post d w) := by
  obtain ⟨a, cap, rfl, hl, hm, h⟩ := h
  unfold CopyR3Post
  obtain ⟨hx1, hx2⟩ := hx
  obtain ⟨n, hn⟩ : ∃ n, n = d.length := ⟨_, rfl⟩
  have HN := Lib.hid hn
  have HX := Lib.hid hx2
  rw [← hn] at hl h hx1 ⊢
  clear hn hx2
  unfold maxLen at hm
  obtain ⟨i0, hi, hz0, hz1, hz2⟩ := info_parts Try.info44
  go_enter Try.func20, Try.ntmps20
  go_wp2_with (at_make; refine wpList_make_full _ rfl _ _ 27 rfl w.heap.size 44 i0 (.slice none 0 0) 1 Try.underlying27 hi hz0 hz1 .i64 .i64 _ _ n rfl rfl rfl rfl (by rw [hz2]; omega) (by unfold maxLen; omega) (Nat.le_refl _) ?_; intro w1 hown hgrow)
  rw [madeRows] at hown
  have hb1 := below_of_grown hgrow
  have hsz1 : w.heap.size < w1.heap.size := by
    rcases hown.2 with ⟨e, _⟩ | ⟨g, c, cur, e, _, hg, _⟩
    · simp at e
    · simp at e; obtain ⟨rfl, rfl⟩ := e; exact (Array.getElem?_eq_some_iff.1 hg).1
  have HO := Lib.hid hown
  have HC : Hid (R3Cells d w.heap.size 0 (List.replicate n (.slice none 0 0)) w1) := Lib.hid ⟨by simp [HN.out], fun j hj => by omega, fun j _ hj => by rw [List.getElem?_replicate]; simp [HN.out, hj]⟩
  clear hown hgrow
  go_wp2_with fail
  go_loopw [4] (fun i wr => ∃ (k : Nat) (vs : List Value), k ≤ n ∧ i = .int .i64 k ∧ Hid (wr.ownsRow w.heap.size 44 1 (.slice (some ⟨w.heap.size, 0, none⟩) n n) n vs) ∧ Hid (R3Cells d w.heap.size k vs wr) ∧ Below w.heap.size w wr ∧ w.heap.size < wr.heap.size) (fun i _ => n - (intOf i).toNat)
  case atStart => exact ⟨0, _, Nat.zero_le _, rfl, HO, HC, hb1, hsz1⟩
  case round =>
    obtain ⟨k, vs, hk, rfl, HR, HV, hbel, hsz⟩ := hrel
    by_cases hlt : k < n
    · rcases h with h | ⟨b, off, rfl, g⟩
      · omega
      obtain ⟨u, q0, hu⟩ := g k hlt
      have q1 := (hbel.cell (p := ⟨b, off + k, none⟩) (World.block_lt_of_cell? w _ q0)).trans q0
      have HU := Lib.hid (hu.below hbel)
      clear g q0
      obtain ⟨a2, cc2, eu, _, _, _⟩ := hu
      rw [eu] at q1 HU
      clear eu
      go_wp2_with fail
      refine (toIntSS_any _ (d[k]?.getD []) wr HU.out (HX.out k (by have := HN.out; omega))).mono ?_
      rintro e w2 ⟨rfl, hrd, hb2, hs2, hA2, hU2⟩
      have hkl : k < vs.length := by have := HV.out.1; have := HN.out; omega
      have HR2 := Lib.hid (World.ownsRow.kept HR.out (show wr.grownBy w2 none from ⟨hb2.os, hb2.tape, hb2.output, hb2.size, fun q hq _ => hb2.block q hq⟩) (.inr (by simp [Value.ownBlock])))
      have hc := HR2.out.cellAt k (by omega)
      have hf := HR2.out.frozenAt k
      rw [HV.out.2.2 k (Nat.le_refl _) (by have := HN.out; omega)] at hc
      have HS := Lib.hid (HR2.out.stored k (.slice (some ⟨wr.heap.size, 0, none⟩) (d[k]?.getD []).length (d[k]?.getD []).length))
      have HT := Lib.hid (R3Cells.step (HV.out.below hb2) (by have := HN.out; omega) hrd (hA2.mono (by omega)) hU2)
      have hb3 : Below w.heap.size w w2 := hbel.trans (hb2.mono hbel.size)
      have hs3 : w.heap.size < w2.heap.size := by omega
      clear hrd hb2 hkl hA2 hU2
      go_wp2
      go_roundw
      case rel => exact ⟨k + 1, _, by omega, by go_num, Lib.hid HS.out.1, HT, hb3.setCell (p := ⟨w.heap.size, k, none⟩) (Nat.le_refl _) _, by simpa using hs3⟩
      case measure => simp [intOf]; omega
    · obtain rfl : k = n := by omega
      have HF : Hid (RdR3 wr (.slice (some ⟨w.heap.size, 0, none⟩) k k) d) := Lib.hid (by
        have hn := HN.out
        refine ⟨some ⟨w.heap.size, 0, none⟩, k, by rw [hn], by omega, by unfold maxLen; omega, .inr ⟨w.heap.size, 0, rfl, fun i hi => ?_⟩⟩
        obtain ⟨u, e2, e3, _⟩ := HV.out.2.1 i (by omega)
        refine ⟨u, ?_, e3⟩
        rw [Nat.zero_add, HR.out.cellAt i (by omega)]
        exact e2)
      clear h
      go_wp2
      go_ret
      exact ⟨rfl, HF.out, hbel, hsz⟩

set_option maxRecDepth 100000 in
set_option maxHeartbeats 2000000 in
theorem eqIntSSS_same (v1 v2 : Value) (d : List (List (List Int))) (w : World) (h1 : RdR3 w v1 d) (h2 : RdR3 w v2 d) :
    Calls Try.prog 22 #[v1, v2] w (SamePost w) := by
  obtain ⟨a1, c1, rfl, hl1, hm1, h1⟩ := h1
  obtain ⟨a2, c2, rfl, hl2, hm2, h2⟩ := h2
  unfold maxLen at hm1 hm2
  obtain ⟨n, hn⟩ : ∃ n, n = d.length := ⟨_, rfl⟩
  have HN := Lib.hid hn
  rw [← hn] at hl1 hl2 h1 h2 ⊢
  clear hn
  have hne : ((n : Int) != (n : Int)) = false := by simp
  go_enter Try.func22, Try.ntmps22
  go_wp2
  go_loopw [5] (fun i wr => ∃ k nq : Nat, k ≤ n ∧ i = .int .i64 k ∧ wr = w.drewN nq) (fun i _ => n - (intOf i).toNat)
  case atStart => exact ⟨0, 0, Nat.zero_le _, rfl, rfl⟩
  case round =>
    obtain ⟨k, nq, hk, rfl, hwr⟩ := hrel
    have HW := Lib.hid hwr
    by_cases hlt : k < n
    · rcases h1 with h1 | ⟨b1, o1, rfl, g1⟩
      · omega
      rcases h2 with h2 | ⟨b2, o2, rfl, g2⟩
      · omega
      obtain ⟨u1, q1, r1⟩ := g1 k hlt
      obtain ⟨u2, q2, r2⟩ := g2 k hlt
      have R1 : Hid (RdRows wr u1 (d[k]?.getD [])) := Lib.hid (by rw [hwr]; exact r1)
      have R2 : Hid (RdRows wr u2 (d[k]?.getD [])) := Lib.hid (by rw [hwr]; exact r2)
      have q1' : wr.cell? ⟨b1, o1 + k, none⟩ = some u1 := by rw [hwr]; exact q1
      have q2' : wr.cell? ⟨b2, o2 + k, none⟩ = some u2 := by rw [hwr]; exact q2
      clear g1 g2 q1 q2 hwr
      obtain ⟨x1, y1, e1, _⟩ := r1
      obtain ⟨x2, y2, e2, _⟩ := r2
      rw [e1] at q1' R1
      rw [e2] at q2' R2
      clear e1 e2
      go_wp2_with fail
      go_quiet ((go_at_call 73; exact Calls.quiet_of (eqIntSS_same _ _ (d[k]?.getD []) _ (R1.out.drewN' _) (R2.out.drewN' _))))
      go_wp2
      go_roundw
      case rel => exact ⟨k + 1, _, by omega, by go_num, by rw [HW.out, World.drewN_drewN]⟩
      case measure => simp [intOf]; omega
    · obtain rfl : k = n := by omega
      clear h1 h2 hwr
      go_wp2
      go_ret
      exact ⟨rfl, _, HW.out⟩
end Go.Proofs.Ytjdbfiiaadphhaa
