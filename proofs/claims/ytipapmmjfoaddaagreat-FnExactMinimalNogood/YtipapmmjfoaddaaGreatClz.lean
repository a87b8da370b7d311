/- Lists of clauses: how they read; the laws' own sizes, copies, tests of equality and marks. Lists of clauses as proofs: which are valid, both packages. -/
import Derived.Test.YtipapmmjfoaddaaGreatLitM
import Derived.Deep.RegionHeld3
import Derived.Test.YtipapmmjfoaddaaGreatLitW
import Derived.Test.YtipapmmjfoaddaaGreatLitX

/-! Lists of clauses: how they read; the laws' own sizes, copies, tests of equality and marks. -/
namespace Go.Proofs.YtipapmmjfoaddaaGreat
open Go.ChangeShapes Go.WideShapes Go.ChangeAt Go.RowKit Go.Deep
set_option linter.unusedVariables false
set_option linter.unusedSimpArgs false

/-- The slice value v reads as a list of clauses. -/
def RdClz (w : World) (v : Value) (d : List (List Lit)) : Prop :=
  ∃ a cap, v = .slice a d.length cap ∧ d.length ≤ cap ∧ cap ≤ maxLen ∧ (d.length = 0 ∨ ∃ b off, a = some ⟨b, off, none⟩ ∧ ∀ i, i < d.length → ∃ u, w.cell? ⟨b, off + i, none⟩ = some u ∧ RdLits w u (d[i]?.getD []))
theorem RdClz.below {w w' : World} {v : Value} {xs : List (List Lit)} (h : RdClz w v xs) (hb : Below w.heap.size w w') : RdClz w' v xs := by
  obtain ⟨a, cap, e, h1, h2, h3⟩ := h
  refine ⟨a, cap, e, h1, h2, ?_⟩
  rcases h3 with h3 | ⟨b, off, ea, h3⟩
  · exact .inl h3
  · refine .inr ⟨b, off, ea, fun i hi => ?_⟩
    obtain ⟨u, hu, hr⟩ := h3 i hi
    exact ⟨u, (hb.cell (World.block_lt_of_cell? w _ hu)).trans hu, hr.below hb⟩
theorem rdClz_len {w : World} {a : Option Addr} {n cap : Nat} {ls : List (List Lit)} (h : RdClz w (.slice a n cap) ls) : ls.length = n ∧ n ≤ cap ∧ cap ≤ 9223372036854775807 := by
  obtain ⟨a', c', e, h1, h2, _⟩ := h
  injection e with _ e1 e2
  unfold maxLen at h2
  omega
theorem rdClz_at {w : World} {a : Option Addr} {n cap : Nat} {ls : List (List Lit)} (h : RdClz w (.slice a n cap) ls) {i : Nat} (hi : i < n) : ∃ (b off : Nat) (u : Value) (c : List Lit), a = some ⟨b, off, none⟩ ∧ ls[i]? = some c ∧ w.cell? ⟨b, off + i, none⟩ = some u ∧ RdLits w u c := by
  obtain ⟨a', c', e, h1, h2, h3⟩ := h
  injection e with e0 e1 e2
  subst e0 e1
  rcases h3 with h3 | ⟨b, off, ea, h3⟩
  · omega
  · obtain ⟨u, hu, hr⟩ := h3 i hi
    rw [List.getElem?_eq_getElem hi] at hr
    exact ⟨b, off, u, _, ea, List.getElem?_eq_getElem hi, hu, hr⟩

section
variable {H : Type} {enc : TypeId × Value → H} {w : World} {base : Nat} {held : Bool}
set_option maxRecDepth 100000 in
theorem rdClz_of_trod {n : Nat} {v : Value} {y : DataW H × List MemPlace} (h : DataW.trod enc Tryz.prog w base (fun _ => true) held n 51 [v] = some y) : ∃ xs, RdClz w v xs := by
  rcases open_slice1 Tryz.underlying51 (by kernel_rfl) h with ⟨hcs, _⟩ | ⟨a, len, cap, m, k, V, D, Pl, hcs, hb, hl, hm, hmm, _, hx⟩
  · simp at hcs
    subst hcs
    exact ⟨[], none, 0, rfl, Nat.le_refl _, by simp [maxLen], .inl rfl⟩
  · simp at hcs hmm
    subst hcs hmm
    have each : ∀ r, r < m → ∃ xs, RdLits w (V r) xs := fun r hr => rdLits_of_trod (hx r hr).2
    obtain ⟨f, hf⟩ := choose_lt each
    have hlen : ((List.range len).map f).length = len := by simp
    refine ⟨(List.range len).map f, some a, m, by rw [hlen], by omega, hm, ?_⟩
    by_cases h0 : len = 0
    · exact .inl (by omega)
    · obtain ⟨b, off, spot⟩ := a
      have hc := (hx 0 (by omega)).1
      have hspot : spot = none := by simpa [Addr.add] using World.cell?_spot hc
      subst hspot
      refine .inr ⟨b, off, rfl, fun i hi => ?_⟩
      have hi' : i < len := by omega
      have := (hx i (by omega)).1
      rw [show (Addr.add ⟨b, off, none⟩ i) = ⟨b, off + i, none⟩ from by unfold Addr.add; split <;> simp_all] at this
      exact ⟨V i, this, by simpa [hi'] using hf i (by omega)⟩
set_option maxRecDepth 100000 in
theorem rdClzArg_of_trod {r : Reach} {b0 : Nat} {v : Value} {d : DataW H} {p : List MemPlace} (hv : Value.okWide Tryz.prog w r b0 51 v) (h : DataW.Trod enc Tryz.prog w base (fun _ => true) held 51 v d p) : ∃ xs, RdClz w v xs := by
  obtain ⟨a0, len0, cap0, rfl⟩ := okWide_slice Tryz.underlying51 hv
  obtain ⟨n, hf⟩ := h
  exact rdClz_of_trod (by simpa [Value.cells] using hf)
end

/-- No more than L lists, each within L. -/
def ClzLe (d : List (List Lit)) (L : Nat) : Prop := d.length ≤ L ∧ ∀ j, j < d.length → (d[j]?.getD []).length ≤ L
theorem ClzLe.mono {d : List (List Lit)} {L M : Nat} (h : ClzLe d L) (hl : L ≤ M) : ClzLe d M := ⟨by have := h.1; omega, fun j hj => by have := h.2 j hj; omega⟩

set_option maxRecDepth 100000 in
set_option maxHeartbeats 1000000 in
theorem szLiteralSS_any (v : Value) (d : List (List Lit)) (left : Int) (w : World) (h : RdClz w v d) (h0 : 0 ≤ left) (h1 : left ≤ 1048576) :
    Calls Tryz.prog 30 #[v, .int .i64 left] w (SzPost left (ClzLe d left.toNat) w) := by
  obtain ⟨a, cap, rfl, hl, hm, h⟩ := h
  obtain ⟨n, hn⟩ : ∃ n, n = d.length := ⟨_, rfl⟩
  have HN := Lib.hid hn
  rw [← hn] at hl h ⊢
  clear hn
  unfold maxLen at hm
  by_cases hneg : left - (n : Int) < 0
  · clear h
    go_enter Tryz.func30, Tryz.ntmps30
    go_wp2
    go_ret
    exact ⟨-1, rfl, by omega, by omega, fun h => by omega, rfl⟩
  · go_enter Tryz.func30, Tryz.ntmps30
    go_wp2
    go_loop [1, 5] (fun q i => ∃ (k : Nat) (l : Int), k ≤ n ∧ i = .int .i64 k ∧ q = .int .i64 l ∧ 0 ≤ l ∧ l ≤ left ∧ Hid (∀ j, j < k → (d[j]?.getD []).length ≤ left.toNat)) (fun _ i => n - (intOf i).toNat)
    case atStart => exact ⟨0, left - n, Nat.zero_le _, rfl, rfl, by omega, by omega, fun j hj => by omega⟩
    case round =>
      obtain ⟨k, l, hk, rfl, rfl, hl0, hl1, HE⟩ := hrel
      by_cases hlt : k < n
      · rcases h with h | ⟨b, off, rfl, g⟩
        · omega
        obtain ⟨u, q1, hu⟩ := g k hlt
        clear g
        have HU := Lib.hid hu
        obtain ⟨a2, cc2, eu, _, _, _⟩ := hu
        rw [eu] at q1 HU
        clear eu
        go_wp2_with fail
        refine (szLiteralS_any _ (d[k]?.getD []) l _ HU.out hl0 (by omega)).mono ?_
        rintro e w' ⟨r, rfl, hr1, hr2, hr3, rfl⟩
        have HR3 := Lib.hid hr3
        clear hr3
        by_cases hr : r < 0
        · go_wp2
          go_ret
          exact ⟨-1, rfl, by omega, by omega, fun h => by omega, rfl⟩
        · go_wp2
          go_round
          case rel => exact ⟨k + 1, r, by omega, by go_num, rfl, by omega, by omega, fun j hj => by by_cases e : j = k; (· subst e; have := HR3.out (by omega); omega); (· exact HE.out j (by omega))⟩
          case measure => simp [intOf]; omega
      · obtain rfl : k = n := by omega
        clear h
        go_wp2
        go_ret
        exact ⟨l, rfl, by omega, by omega, fun _ => ⟨by have := HN.out; omega, fun j hj => HE.out j (by have := HN.out; omega)⟩, rfl⟩

theorem ShLits.mono {lo lo' hi hi' : Nat} {w : World} {v : Value} (h : ShLits lo hi w v) (h1 : lo' ≤ lo) (h2 : hi ≤ hi') : ShLits lo' hi' w v := by
  obtain ⟨n, ⟨a, c, e, k1, k2, k3⟩, hn⟩ := h
  refine ⟨n, ⟨a, c, e, k1, k2, ?_⟩, hn⟩
  rcases k3 with k3 | ⟨b, off, ea, hb1, hb2, k3⟩
  · exact .inl k3
  · exact .inr ⟨b, off, ea, by omega, by omega, k3⟩
theorem rdLits_set {lo hi : Nat} {w : World} {u : Value} {ls : List Lit} (h : RdLits w u ls) (hs : ShLits lo hi w u) {p : Addr} (hp : p.block < lo) (x : Value) : RdLits (w.setCell p x) u ls ∧ ShLits lo hi (w.setCell p x) u := by
  obtain ⟨a, cap, e, h1, h2, h3⟩ := h
  obtain ⟨n, ⟨a', c', e', k1, k2, k3⟩, hn⟩ := hs
  rw [e] at e'
  injection e' with e1 e2 e3
  subst e1 e2 e3
  rcases k3 with k3 | ⟨b, off, ea, hb1, hb2, k3⟩
  · exact ⟨⟨_, _, e, h1, h2, .inl k3⟩, ⟨_, ⟨_, _, e, k1, k2, .inl k3⟩, hn⟩⟩
  · have keep : ∀ o, (w.setCell p x).cell? ⟨b, o, none⟩ = w.cell? ⟨b, o, none⟩ := fun o => by
      rw [World.cell?_setCell_other]
      intro e
      have := congrArg Addr.block e
      simp at this
      omega
    refine ⟨⟨_, _, e, h1, h2, ?_⟩, ⟨_, ⟨_, _, e, k1, k2, .inr ⟨b, off, ea, hb1, hb2, fun i hi => ?_⟩⟩, hn⟩⟩
    · rcases h3 with h3 | ⟨b', off', ea', h3⟩
      · exact .inl h3
      · rw [ea] at ea'
        injection ea' with ea'
        injection ea' with e4 e5
        subst e4 e5
        refine .inr ⟨_, _, ea, fun i l hl => ?_⟩
        obtain ⟨c0, c1, c2⟩ := h3 i l hl
        exact ⟨(keep _).trans c0, (keep _).trans c1, (keep _).trans c2⟩
    · obtain ⟨y, z, t, c0, c1, c2, f0, f1, f2⟩ := k3 i hi
      exact ⟨y, z, t, (keep _).trans c0, (keep _).trans c1, (keep _).trans c2, (frozen_set _ _ _ _).trans f0, (frozen_set _ _ _ _).trans f1, (frozen_set _ _ _ _).trans f2⟩
/-- A list of clauses that may be marked. -/
def ShClz (lo hi : Nat) (w : World) (v : Value) : Prop :=
  ∃ a n c, v = .slice a n c ∧ n ≤ c ∧ c ≤ maxLen ∧ n ≤ 1048576 ∧ (n = 0 ∨ ∃ b off, a = some ⟨b, off, none⟩ ∧ ∀ i, i < n → ∃ u, w.cell? ⟨b, off + i, none⟩ = some u ∧ ShLits lo hi w u)
theorem ShClz.marked {lo hi lo' hi' : Nat} {w w' : World} {v : Value} (h : ShClz lo hi w v) (hm : Marked lo' hi' w w') : ShClz lo hi w' v := by
  obtain ⟨a, n, c, e, h1, h2, hn, h3⟩ := h
  refine ⟨a, n, c, e, h1, h2, hn, ?_⟩
  rcases h3 with h3 | ⟨b, off, ea, h3⟩
  · exact .inl h3
  · refine .inr ⟨b, off, ea, fun i hi => ?_⟩
    obtain ⟨u, hu, hs⟩ := h3 i hi
    obtain ⟨y, hy, _, k2, _⟩ := hm.cell _ _ hu
    have hf : FixedV u := by
      obtain ⟨n, ⟨a, c, rfl, _⟩, _⟩ := hs
      exact ⟨fun i e => (by cases e), fun i e => (by cases e)⟩
    have := k2 hf
    subst this
    exact ⟨_, hy, hs.marked hm⟩
theorem ShClz.below {lo hi : Nat} {w w' : World} {v : Value} (h : ShClz lo hi w v) (hb : Below w.heap.size w w') : ShClz lo hi w' v := h.marked (Marked.of_below (lo := 0) (hi := 0) hb)

/-- The copies of the first k clauses, in blocks behind g; the rest nil. -/
def ClzCells (d : List (List Lit)) (g k : Nat) (vs : List Value) (w : World) : Prop :=
  vs.length = d.length ∧ (∀ j, j < k → ∃ u, vs[j]? = some u ∧ RdLits w u (d[j]?.getD []) ∧ ShLits (g + 1) w.heap.size w u) ∧
  ∀ j, k ≤ j → j < d.length → vs[j]? = some (.slice none 0 0)
theorem ClzCells.below {d : List (List Lit)} {g k : Nat} {vs : List Value} {w w' : World} (h : ClzCells d g k vs w) (hb : Below w.heap.size w w') : ClzCells d g k vs w' := by
  obtain ⟨h1, h2, h3⟩ := h
  refine ⟨h1, fun j hj => ?_, h3⟩
  obtain ⟨u, e1, e2, e3⟩ := h2 j hj
  exact ⟨u, e1, e2.below hb, (e3.below hb).mono (Nat.le_refl _) hb.size⟩
theorem ClzCells.step {d : List (List Lit)} {g k : Nat} {vs : List Value} {w : World} {u : Value} (h : ClzCells d g k vs w) (hk : k < d.length) (hr : RdLits w u (d[k]?.getD [])) (hA : ShLits (g + 1) w.heap.size w u) :
    ClzCells d g (k + 1) (vs.set k u) (w.setCell ⟨g, k, none⟩ u) := by
  obtain ⟨h1, h2, h3⟩ := h
  have hp : (⟨g, k, none⟩ : Addr).block < g + 1 := by show g < g + 1; omega
  have hsz : (w.setCell ⟨g, k, none⟩ u).heap.size = w.heap.size := by simp
  refine ⟨by simp [h1], fun j hj => ?_, fun j hj1 hj2 => ?_⟩
  · rw [hsz]
    by_cases e : j = k
    · subst e
      exact ⟨u, by simp [List.getElem?_set, h1, hk], (rdLits_set hr hA hp _).1, (rdLits_set hr hA hp _).2⟩
    · obtain ⟨x, e1, e2, e3⟩ := h2 j (by omega)
      exact ⟨x, by rw [List.getElem?_set_ne (Ne.symm e)]; exact e1, (rdLits_set e2 e3 hp _).1, (rdLits_set e2 e3 hp _).2⟩
  · rw [List.getElem?_set_ne (by omega)]
    exact h3 j (by omega) hj2
theorem infoLitS : (Tryz.prog.info? 47).map (fun i => (i.zero, i.size, i.bytes)) = some (some (.slice none 0 0), 1, 24) := by kernel_rfl

set_option maxRecDepth 100000 in
set_option maxHeartbeats 1000000 in
theorem toLiteralSS_sh (v : Value) (d : List (List Lit)) (w : World) (h : RdClz w v d) (hx : ClzLe d 1048576) :
    Calls Tryz.prog 32 #[v] w fun e w' => ∃ v', e = .returned v' ∧ RdClz w' v' d ∧ ShClz w.heap.size w'.heap.size w' v' ∧ Below w.heap.size w w' := by
  obtain ⟨a, cap, rfl, hl, hm, h⟩ := h
  obtain ⟨hx1, hx2⟩ := hx
  obtain ⟨n, hn⟩ : ∃ n, n = d.length := ⟨_, rfl⟩
  have HN := Lib.hid hn
  have HX := Lib.hid hx2
  rw [← hn] at hl h hx1 ⊢
  clear hn hx2
  unfold maxLen at hm
  obtain ⟨i0, hi, hz0, hz1, hz2⟩ := info_parts infoLitS
  go_enter Tryz.func32, Tryz.ntmps32
  go_wp2_with (at_make; refine wpList_make_full _ rfl _ _ 54 rfl w.heap.size 47 i0 (.slice none 0 0) 1 Tryz.underlying54 hi hz0 hz1 .i64 .i64 _ _ n rfl rfl rfl rfl (by rw [hz2]; omega) (by unfold maxLen; omega) (Nat.le_refl _) ?_; intro w1 hown hgrow)
  rw [madeRows] at hown
  have hb1 := below_of_grown hgrow
  have hsz1 : w.heap.size < w1.heap.size := by
    rcases hown.2 with ⟨e, _⟩ | ⟨g, c, cur, e, _, hg, _⟩
    · simp at e
    · simp at e; obtain ⟨rfl, rfl⟩ := e; exact (Array.getElem?_eq_some_iff.1 hg).1
  have HO := Lib.hid hown
  have HC : Hid (ClzCells d w.heap.size 0 (List.replicate n (.slice none 0 0)) w1) := Lib.hid ⟨by simp [HN.out], fun j hj => by omega, fun j _ hj => by rw [List.getElem?_replicate]; simp [HN.out, hj]⟩
  clear hown hgrow
  go_wp2_with fail
  go_loopw [4] (fun i wr => ∃ (k : Nat) (vs : List Value), k ≤ n ∧ i = .int .i64 k ∧ Hid (wr.ownsRow w.heap.size 47 1 (.slice (some ⟨w.heap.size, 0, none⟩) n n) n vs) ∧ Hid (ClzCells d w.heap.size k vs wr) ∧ Below w.heap.size w wr ∧ w.heap.size < wr.heap.size) (fun i _ => n - (intOf i).toNat)
  case atStart => exact ⟨0, _, Nat.zero_le _, rfl, HO, HC, hb1, hsz1⟩
  case round =>
    obtain ⟨k, vs, hk, rfl, HR, HV, hbel, hsz⟩ := hrel
    by_cases hlt : k < n
    · rcases h with h | ⟨b, off, rfl, g⟩
      · omega
      obtain ⟨u, q0, hu⟩ := g k hlt
      have q1 := (hbel.cell (p := ⟨b, off + k, none⟩) (World.block_lt_of_cell? w _ q0)).trans q0
      have HU := Lib.hid (hu.below hbel)
      clear g q0
      obtain ⟨a2, cc2, eu, _, _, _⟩ := hu
      rw [eu] at q1 HU
      clear eu
      go_wp2_with fail
      refine (toLiteralS_sh _ (d[k]?.getD []) wr HU.out (HX.out k (by have := HN.out; omega))).mono ?_
      rintro e w2 ⟨u2, rfl, hrd, hsh, hb2⟩
      obtain ⟨ua, uc, eu2, -⟩ := id hrd
      subst eu2
      have hkl : k < vs.length := by have := HV.out.1; have := HN.out; omega
      have HR2 := Lib.hid (World.ownsRow.kept HR.out (show wr.grownBy w2 none from ⟨hb2.os, hb2.tape, hb2.output, hb2.size, fun q hq _ => hb2.block q hq⟩) (.inr (by simp [Value.ownBlock])))
      have hc := HR2.out.cellAt k (by omega)
      have hf := HR2.out.frozenAt k
      rw [HV.out.2.2 k (Nat.le_refl _) (by have := HN.out; omega)] at hc
      have HS := Lib.hid (HR2.out.stored k (.slice ua (d[k]?.getD []).length uc))
      have HT := Lib.hid (ClzCells.step (HV.out.below hb2) (by have := HN.out; omega) hrd (hsh.mono (by omega) (Nat.le_refl _)))
      have hb3 : Below w.heap.size w w2 := hbel.trans (hb2.mono hbel.size)
      have hs3 : w.heap.size < w2.heap.size := by have := hb2.size; omega
      clear hrd hb2 hkl hsh
      go_wp2
      go_roundw
      case rel => exact ⟨k + 1, _, by omega, by go_num, Lib.hid HS.out.1, HT, hb3.setCell (p := ⟨w.heap.size, k, none⟩) (Nat.le_refl _) _, by simpa using hs3⟩
      case measure => simp [intOf]; omega
    · obtain rfl : k = n := by omega
      have HCE : Hid (∀ i, i < k → ∃ u, wr.cell? ⟨w.heap.size, 0 + i, none⟩ = some u ∧ RdLits wr u (d[i]?.getD []) ∧ ShLits w.heap.size wr.heap.size wr u) := Lib.hid (fun i hi => by
        obtain ⟨u, e2, e3, e4⟩ := HV.out.2.1 i hi
        refine ⟨u, ?_, e3, e4.mono (by omega) (Nat.le_refl _)⟩
        rw [Nat.zero_add, HR.out.cellAt i (by omega)]
        exact e2)
      have HF : Hid (RdClz wr (.slice (some ⟨w.heap.size, 0, none⟩) k k) d) := Lib.hid (by
        have hn := HN.out
        refine ⟨some ⟨w.heap.size, 0, none⟩, k, by rw [hn], by omega, by unfold maxLen; omega, .inr ⟨w.heap.size, 0, rfl, fun i hi => ?_⟩⟩
        obtain ⟨u, e1, e2, _⟩ := HCE.out i (by omega)
        exact ⟨u, e1, e2⟩)
      have HG : Hid (ShClz w.heap.size wr.heap.size wr (.slice (some ⟨w.heap.size, 0, none⟩) k k)) := Lib.hid (by
        refine ⟨_, _, _, rfl, Nat.le_refl _, by unfold maxLen; omega, by omega, .inr ⟨w.heap.size, 0, rfl, fun i hi => ?_⟩⟩
        obtain ⟨u, e1, _, e3⟩ := HCE.out i hi
        exact ⟨u, e1, e3⟩)
      clear h
      go_wp2
      go_ret
      exact ⟨_, rfl, HF.out, HG.out, hbel⟩

set_option maxRecDepth 100000 in
set_option maxHeartbeats 1000000 in
theorem markLiteralSS_sh (lo hi : Nat) (v : Value) (k : Int) (w : World) (h : ShClz lo hi w v) (h0 : 0 ≤ k) (h1 : k ≤ 1900000000000000000) :
    Calls Tryz.prog 35 #[v, .int .i64 k] w (MarksPost lo hi k 3298534883328 w) := by
  have HS := Lib.hid h
  obtain ⟨a, n, c, rfl, hl, hm, hn, -⟩ := h
  unfold maxLen at hm
  go_enter Tryz.func35, Tryz.ntmps35
  go_wp2
  go_loopw [1, 5] (fun q i wr => ∃ (j : Nat) (k' : Int), j ≤ n ∧ i = .int .i64 j ∧ q = .int .i64 k' ∧ k ≤ k' ∧ k' ≤ k + j * 3145728 ∧ Hid (Marked lo hi w wr)) (fun _ i _ => n - (intOf i).toNat)
  case atStart => exact ⟨0, k, Nat.zero_le _, rfl, rfl, by omega, by omega, Lib.hid (Marked.refl _ _ _)⟩
  case round =>
    obtain ⟨j, k', hj, rfl, rfl, hk1, hk2, HM⟩ := hrel
    by_cases hlt : j < n
    · obtain ⟨a', n', c', ea, _, _, _, hx⟩ := HS.out.marked HM.out
      simp at ea
      obtain ⟨rfl, rfl, rfl⟩ := ea
      rcases hx with hx | ⟨b, off, rfl, hx⟩
      · omega
      obtain ⟨u, hu, hs⟩ := hx j hlt
      have HSU := Lib.hid hs
      obtain ⟨m, ⟨au, cu, eu, _⟩, _⟩ := hs
      rw [eu] at hu HSU
      clear eu hx
      go_wp2_with fail
      refine (markLiteralS_sh lo hi _ k' wr HSU.out (by omega) (by omega)).mono ?_
      rintro e w2 ⟨k2, rfl, hk3, hk4, m2⟩
      have HM2 := Lib.hid (HM.out.trans m2)
      clear m2 HM hu
      go_wp2
      go_roundw
      case rel => exact ⟨j + 1, _, by omega, by go_num, rfl, by omega, by omega, HM2⟩
      case measure => simp [intOf]; omega
    · obtain rfl : j = n := by omega
      go_wp2
      go_ret
      exact ⟨k', rfl, by omega, by omega, HM.out⟩

set_option maxRecDepth 100000 in
set_option maxHeartbeats 4000000 in
theorem eqLiteralSS_sameB (v1 v2 : Value) (d : List (List Lit)) (w : World) (h1 : RdClz w v1 d) (h2 : RdClz w v2 d) :
    Calls Tryz.prog 34 #[v1, v2] w (SamePostB w) := by
  have H1 := Lib.hid h1
  have H2 := Lib.hid h2
  obtain ⟨a1, c1, e1, hl1, hm1, -⟩ := h1
  obtain ⟨a2, c2, e2, hl2, hm2, -⟩ := h2
  unfold maxLen at hm1 hm2
  obtain ⟨n, hn⟩ : ∃ n, n = d.length := ⟨_, rfl⟩
  rw [e1] at H1 ⊢
  rw [e2] at H2 ⊢
  rw [← hn] at hl1 hl2 H1 H2 ⊢
  clear hn e1 e2
  have hne : ((n : Int) != (n : Int)) = false := by simp
  go_enter Tryz.func34, Tryz.ntmps34
  go_wp2
  go_loopw [5] (fun i wr => ∃ k : Nat, k ≤ n ∧ i = .int .i64 k ∧ Hid (Below w.heap.size w wr)) (fun i _ => n - (intOf i).toNat)
  case atStart => exact ⟨0, Nat.zero_le _, rfl, Lib.hid (Below.refl _ _)⟩
  case round =>
    obtain ⟨k, hk, rfl, HB⟩ := hrel
    by_cases hlt : k < n
    · obtain ⟨b1, o1, u1, l1, rfl, hd1, q1, r1⟩ := rdClz_at (H1.out.below HB.out) hlt
      obtain ⟨b2, o2, u2, l2, rfl, hd2, q2, r2⟩ := rdClz_at (H2.out.below HB.out) hlt
      rw [hd1] at hd2
      obtain rfl := Option.some.inj hd2
      have HE := Lib.hid (eqLiteralS_same u1 u2 l1 wr.drew (r1.below (Below.refl _ _).drew) (r2.below (Below.refl _ _).drew))
      obtain ⟨x1, y1, e1, -⟩ := r1
      obtain ⟨x2, y2, e2, -⟩ := r2
      rw [e1] at q1 HE
      rw [e2] at q2 HE
      have hlt1 : b1 < wr.heap.size := World.block_lt_of_cell? _ _ q1
      have hlt2 : b2 < wr.heap.size := World.block_lt_of_cell? _ _ q2
      have HQ1 := Lib.hid q1
      have HQ2 := Lib.hid q2
      have HL1 := Lib.hid hlt1
      have HL2 := Lib.hid hlt2
      clear hd1 hd2 e1 e2 hlt1 hlt2
      go_wp2_with fail
      go_region_held3 (fun w' => w'.cell? ⟨b1, o1 + k, none⟩ = some (.slice x1 l1.length y1) ∧ w'.cell? ⟨b2, o2 + k, none⟩ = some (.slice x2 l1.length y2)) (first | go_keep | exact ⟨z0, z1⟩ | exact ⟨q1, q2⟩) (first
        | (go_at_call 29; refine HE.out.mono ?_; rintro e X ⟨rfl, bX⟩; have HBX : Hid (Below wr.heap.size wr X) := Lib.hid ((show Below wr.heap.size wr wr.drew from (Below.refl _ _).drew).trans bX); have z0 := (HBX.out.cell (p := ⟨b1, o1 + k, none⟩) HL1.out).trans HQ1.out; have z1 := (HBX.out.cell (p := ⟨b2, o2 + k, none⟩) HL2.out).trans HQ2.out; clear bX))
      have HB3 := Lib.hid (HB.out.trans (HBX.out.mono HB.out.size))
      clear q1 q2 z0 z1
      go_wp2
      go_roundw
      all_goals first
        | exact ⟨k + 1, by omega, by go_num, HB3⟩
        | (simp [intOf]; omega)
    · obtain rfl : k = n := by omega
      go_wp2
      go_ret
      exact ⟨rfl, HB.out⟩
end Go.Proofs.YtipapmmjfoaddaaGreat

/-! Lists of clauses as proofs: which are valid, both packages. -/
namespace Go.Proofs.YtipapmmjfoaddaaGreat
open Go.ChangeShapes Go.WideShapes Go.ChangeAt Go.RowKit Go.Deep Go.Shelf
set_option linter.unusedVariables false
set_option linter.unusedSimpArgs false

/-- At most 200 steps, all of them clauses for n variables. -/
def prfB (cls : List (List Lit)) (n : Int) : Bool := decide (cls.length ≤ 200) && cls.all fun c => clB c n
theorem all_of {cls : List (List Lit)} {n : Int} (h : ∀ j c, j < cls.length → cls[j]? = some c → clB c n = true) : (cls.all fun c => clB c n) = true := by
  rw [List.all_eq_true]
  intro c hc
  obtain ⟨j, hj, e⟩ := List.mem_iff_getElem.1 hc
  exact h j c hj (by rw [List.getElem?_eq_getElem hj, e])
theorem all_not {cls : List (List Lit)} {n : Int} {j : Nat} {c : List Lit} (hc : cls[j]? = some c) (h : clB c n = false) : (cls.all fun c => clB c n) = false := by
  cases hx : (cls.all fun c => clB c n)
  · rfl
  · rw [List.all_eq_true] at hx
    have := hx c (List.mem_of_getElem? hc)
    rw [h] at this
    cases this
theorem prfB_parts {cls : List (List Lit)} {n : Nat} (h : prfB cls n = true) : cls.length ≤ 200 ∧ ∀ c ∈ cls, clB c n = true := by
  unfold prfB at h
  rw [Bool.and_eq_true, List.all_eq_true] at h
  exact ⟨of_decide_eq_true h.1, h.2⟩

set_option maxRecDepth 100000 in
set_option maxHeartbeats 4000000 in
theorem svalidProof_any (v : Value) (cls : List (List Lit)) (n : Int) (w : World) (h : RdClz w v cls) (h1 : 1 ≤ n) (h4 : n ≤ 4) :
    Calls Tryz.prog 74 #[v, .int .i64 n] w (BoolPost (prfB cls n) w) := by
  have HC := Lib.hid h
  obtain ⟨a, cap, ev, -⟩ := h
  rw [ev] at HC ⊢
  clear ev
  obtain ⟨k, hk⟩ : ∃ k, k = cls.length := ⟨_, rfl⟩
  rw [← hk] at HC ⊢
  have HK := Lib.hid hk
  have hl := rdClz_len HC.out
  have hl1 := hl.2.1
  have hl2 := hl.2.2
  clear hk hl
  go_enter Tryz.func74, Tryz.ntmps74
  go_wp2
  go_loopw [5] (fun i wr => ∃ j : Nat, j ≤ k ∧ i = .int .i64 j ∧ Hid (∀ q c, q < j → cls[q]? = some c → clB c n = true) ∧ Hid (Below w.heap.size w wr)) (fun i _ => k - (intOf i).toNat)
  case atStart => exact ⟨0, Nat.zero_le _, rfl, Lib.hid (fun q c hq => by omega), Lib.hid (Below.refl _ _)⟩
  case round =>
    obtain ⟨j, hj, rfl, HA, HB⟩ := hrel
    by_cases hlt : j < k
    · obtain ⟨b, o, u, c, rfl, hd, q, r⟩ := rdClz_at (HC.out.below HB.out) hlt
      have HD := Lib.hid hd
      have HE := Lib.hid (svalidClause_any u c n wr r h1 h4)
      obtain ⟨x, y, e, -⟩ := r
      rw [e] at q HE
      clear e hd
      cases hv : clB c n
      · have HF : Hid (prfB cls n = false) := Lib.hid (by unfold prfB; rw [all_not HD.out hv, Bool.and_false])
        rw [hv] at HE
        go_wp2_with fail
        refine HE.out.mono ?_
        rintro e w2 ⟨rfl, b2⟩
        have HB2 := Lib.hid (HB.out.trans (b2.mono HB.out.size))
        clear b2 q
        go_wp2
        go_ret
        exact ⟨ret_bool HF.out.symm, HB2.out⟩
      · rw [hv] at HE
        have HA2 : Hid (∀ q c, q < j + 1 → cls[q]? = some c → clB c n = true) := Lib.hid (fun q c' hq hc => by
          by_cases e : q = j
          · subst e
            rw [HD.out] at hc
            obtain rfl := Option.some.inj hc
            exact hv
          · exact HA.out q c' (by omega) hc)
        clear hv
        go_wp2_with fail
        refine HE.out.mono ?_
        rintro e w2 ⟨rfl, b2⟩
        have HB2 := Lib.hid (HB.out.trans (b2.mono HB.out.size))
        clear b2 q
        go_wp2
        go_roundw
        all_goals first
          | exact ⟨j + 1, by omega, by go_num, HA2, HB2⟩
          | (simp [intOf]; omega)
    · obtain rfl : j = k := by omega
      have HF : Hid (prfB cls n = decide ((j : Int) ≤ 200)) := Lib.hid (by
        unfold prfB
        rw [all_of (fun q c hq hc => HA.out q c (by have := HK.out; omega) hc), Bool.and_true, ← HK.out]
        by_cases h : j ≤ 200
        · rw [decide_eq_true h, decide_eq_true (by omega)]
        · rw [decide_eq_false h, decide_eq_false (by omega)])
      go_wp2
      go_ret
      exact ⟨ret_bool HF.out.symm, HB.out⟩

set_option maxRecDepth 100000 in
set_option maxHeartbeats 1000000 in
theorem isProof1_any (cv : Value) (c : List Lit) (B n : Nat) (w : World) (h : RdLits w cv c) (hb : w.cell? ⟨B, 0, none⟩ = some (.int .i64 n)) (h1 : 1 ≤ n) (h4 : n ≤ 4) :
    Calls Tryz.prog 117 #[cv, .pointer (some ⟨B, 0, none⟩)] w (BoolPost (!clB c n) w) := by
  have HE := Lib.hid (iValidClause_any cv c n w h)
  have hvc : vclB c n = clB c n := by unfold vclB; rw [wiB_true (by omega) (by omega)]; rfl
  rw [hvc] at HE
  obtain ⟨x, y, e, -⟩ := h
  rw [e] at HE ⊢
  clear e hvc
  cases hv : clB c n
  · rw [hv] at HE
    go_enter Tryz.func117, Tryz.ntmps117
    go_wp2_with fail
    refine HE.out.mono ?_
    rintro e w2 ⟨rfl, b2⟩
    have HB2 := Lib.hid b2
    clear b2 hb
    go_wp2
    go_ret
    exact ⟨rfl, HB2.out⟩
  · rw [hv] at HE
    go_enter Tryz.func117, Tryz.ntmps117
    go_wp2_with fail
    refine HE.out.mono ?_
    rintro e w2 ⟨rfl, b2⟩
    have HB2 := Lib.hid b2
    clear b2 hb
    go_wp2
    go_ret
    exact ⟨rfl, HB2.out⟩

/-- Where the first clause is that is not valid. -/
def badI (cls : List (List Lit)) (n : Int) : Int := match cls.findIdx? (fun c => !clB c n) with | none => -1 | some v => (v : Nat)
theorem badI_none {cls : List (List Lit)} {n : Int} (h : ∀ q c, q < cls.length → cls[q]? = some c → clB c n = true) : badI cls n = -1 ∧ (cls.all fun c => clB c n) = true := by
  refine ⟨?_, all_of h⟩
  unfold badI
  rw [List.findIdx?_eq_none_iff.2 (fun x hx => ?_)]
  obtain ⟨j, hj, rfl⟩ := List.mem_iff_getElem.1 hx
  rw [h j _ hj (List.getElem?_eq_getElem hj)]
  rfl
theorem badI_some {cls : List (List Lit)} {n : Int} {k : Nat} {c : List Lit} (hc : cls[k]? = some c) (h : ∀ q c, q < k → cls[q]? = some c → clB c n = true) (hv : clB c n = false) : badI cls n = (k : Nat) ∧ (cls.all fun c => clB c n) = false := by
  refine ⟨?_, all_not hc hv⟩
  obtain ⟨hk, e⟩ := List.getElem?_eq_some_iff.1 hc
  unfold badI
  rw [List.findIdx?_eq_some_iff_getElem.2 ⟨hk, by rw [e, hv]; rfl, fun q hq => by rw [h q _ hq (List.getElem?_eq_getElem (by omega))]; simp⟩]
theorem badI_cases (cls : List (List Lit)) (n : Int) : (badI cls n = -1 ∧ (cls.all fun c => clB c n) = true) ∨ (∃ k : Nat, badI cls n = (k : Nat) ∧ (cls.all fun c => clB c n) = false) := by
  unfold badI
  rcases h : cls.findIdx? (fun c => !clB c n) with _ | k
  · refine .inl ⟨rfl, ?_⟩
    rw [List.findIdx?_eq_none_iff] at h
    rw [List.all_eq_true]
    intro c hc
    have := h c hc
    simpa using this
  · refine .inr ⟨k, rfl, ?_⟩
    rw [List.findIdx?_eq_some_iff_getElem] at h
    obtain ⟨hk, h1, _⟩ := h
    exact all_not (List.getElem?_eq_getElem hk) (by simpa using h1)

set_option maxRecDepth 100000 in
set_option maxHeartbeats 4000000 in
theorem proofIx_any (v : Value) (cls : List (List Lit)) (B n : Nat) (w : World) (h : RdClz w v cls) (hb : w.cell? ⟨B, 0, none⟩ = some (.int .i64 n)) (h1 : 1 ≤ n) (h4 : n ≤ 4) :
    Calls Tryz.prog 154 #[v, .func (.func 117) #[] #[.pointer (some ⟨B, 0, none⟩)]] w fun e w' => e = .returned (.int .i64 (badI cls n)) ∧ Below w.heap.size w w' := by
  have HC := Lib.hid h
  have hBl := World.block_lt_of_cell? _ _ hb
  have HBX := Lib.hid (fun (X : World) (h : Below w.heap.size w X) => (h.cell (p := ⟨B, 0, none⟩) hBl).trans hb)
  obtain ⟨a, cap, ev, -⟩ := h
  rw [ev] at HC ⊢
  clear ev
  obtain ⟨k, hk⟩ : ∃ k, k = cls.length := ⟨_, rfl⟩
  rw [← hk] at HC ⊢
  have HK := Lib.hid hk
  have hl := rdClz_len HC.out
  have hl1 := hl.2.1
  have hl2 := hl.2.2
  clear hk hl hb hBl
  go_enter Tryz.func154, Tryz.ntmps154
  go_wp2
  go_loopw [8] (fun i wr => ∃ j : Nat, j ≤ k ∧ i = .int .i64 j ∧ Hid (∀ q c, q < j → cls[q]? = some c → clB c n = true) ∧ Hid (Below w.heap.size w wr)) (fun i _ => k - (intOf i).toNat)
  case atStart => exact ⟨0, Nat.zero_le _, rfl, Lib.hid (fun q c hq => by omega), Lib.hid (Below.refl _ _)⟩
  case round =>
    obtain ⟨j, hj, rfl, HA, HB⟩ := hrel
    by_cases hlt : j < k
    · obtain ⟨b, o, u, c, rfl, hd, q, r⟩ := rdClz_at (HC.out.below HB.out) hlt
      have HD := Lib.hid hd
      have HE := Lib.hid (isProof1_any u c B n wr r (HBX.out _ HB.out) h1 h4)
      obtain ⟨x, y, e, -⟩ := r
      rw [e] at q HE
      clear e hd
      cases hv : clB c n
      · have HF := Lib.hid (badI_some HD.out HA.out hv)
        rw [hv] at HE
        go_wp2_with fail
        refine HE.out.mono ?_
        rintro e w2 ⟨rfl, b2⟩
        have HB2 := Lib.hid (HB.out.trans (b2.mono HB.out.size))
        clear b2 q
        go_wp2
        go_ret
        exact ⟨ret_int HF.out.1.symm, HB2.out⟩
      · rw [hv] at HE
        have HA2 : Hid (∀ q c, q < j + 1 → cls[q]? = some c → clB c n = true) := Lib.hid (fun q c' hq hc => by
          by_cases e : q = j
          · subst e
            rw [HD.out] at hc
            obtain rfl := Option.some.inj hc
            exact hv
          · exact HA.out q c' (by omega) hc)
        clear hv
        go_wp2_with fail
        refine HE.out.mono ?_
        rintro e w2 ⟨rfl, b2⟩
        have HB2 := Lib.hid (HB.out.trans (b2.mono HB.out.size))
        clear b2 q
        go_wp2
        go_roundw
        all_goals first
          | exact ⟨j + 1, by omega, by go_num, HA2, HB2⟩
          | (simp [intOf]; omega)
    · obtain rfl : j = k := by omega
      have HF := Lib.hid (badI_none (cls := cls) (n := n) (fun q c hq hc => HA.out q c (by have := HK.out; omega) hc))
      go_wp2
      go_ret
      exact ⟨ret_int HF.out.1.symm, HB.out⟩

set_option maxRecDepth 100000 in
set_option maxHeartbeats 4000000 in
theorem proofCf_any (v : Value) (cls : List (List Lit)) (B n : Nat) (w : World) (h : RdClz w v cls) (hb : w.cell? ⟨B, 0, none⟩ = some (.int .i64 n)) (h1 : 1 ≤ n) (h4 : n ≤ 4) :
    Calls Tryz.prog 116 #[v, .func (.func 117) #[] #[.pointer (some ⟨B, 0, none⟩)]] w (BoolPost (!(cls.all fun c => clB c n)) w) := by
  have HI := Lib.hid (proofIx_any v cls B n w h hb h1 h4)
  obtain ⟨a, cap, ev, -⟩ := h
  rw [ev] at HI ⊢
  clear ev hb
  obtain ⟨r, hr⟩ : ∃ r, r = !(cls.all fun c => clB c n) := ⟨_, rfl⟩
  rw [← hr]
  have hbr : decide (badI cls n ≥ 0) = r := by
    rw [hr]
    rcases badI_cases cls n with ⟨e1, e2⟩ | ⟨q, e1, e2⟩
    · rw [e1, e2]; rfl
    · rw [e1, e2, decide_eq_true (by omega)]; rfl
  obtain ⟨bi, hbi⟩ : ∃ bi, bi = badI cls n := ⟨_, rfl⟩
  rw [← hbi] at HI hbr
  clear hr hbi
  go_enter Tryz.func116, Tryz.ntmps116
  go_wp2_with fail
  refine HI.out.mono ?_
  rintro e w2 ⟨rfl, b2⟩
  have HB2 := Lib.hid b2
  clear b2
  go_wp2
  go_ret
  exact ⟨rfl, HB2.out⟩

set_option maxRecDepth 100000 in
set_option maxHeartbeats 4000000 in
theorem isProof_any (v : Value) (cls : List (List Lit)) (n : Nat) (w : World) (h : RdClz w v cls) (h1 : 1 ≤ n) (h4 : n ≤ 4) :
    Calls Tryz.prog 76 #[v, .int .i64 n] w (BoolPost (prfB cls n) w) := by
  obtain ⟨W1, hW1⟩ : ∃ W1, w.alloc (.cells #[.int .i64 n] 3) = W1 := ⟨_, rfl⟩
  have B1 : Below w.heap.size w W1 := by rw [← hW1]; exact (Below.refl _ _).alloc (Nat.le_refl _) _
  have q1 : Boxed W1 w.heap.size 3 (.int .i64 n) := by rw [← hW1]; exact World.alloc_heap_new _ _
  have HI := Lib.hid (proofCf_any v cls w.heap.size n W1 (h.below B1) q1.cell h1 h4)
  obtain ⟨a, cap, ev, hcl, hcm, -⟩ := id h
  rw [ev] at HI ⊢
  unfold maxLen at hcm
  obtain ⟨k, hk⟩ : ∃ k, k = cls.length := ⟨_, rfl⟩
  rw [← hk] at HI hcl ⊢
  have HK := Lib.hid hk
  have HB1 := Lib.hid B1
  have HW := Lib.hid hW1
  clear ev h B1 q1 hW1 hk
  by_cases hk2 : (k : Int) ≤ 200
  · have HF : Hid (prfB cls n = (cls.all fun c => clB c n)) := Lib.hid (by unfold prfB; rw [← HK.out, decide_eq_true (by omega)]; rfl)
    obtain ⟨r, hr⟩ : ∃ r, r = (cls.all fun c => clB c n) := ⟨_, rfl⟩
    rw [← hr] at HI HF
    clear hr
    go_enter Tryz.func76, Tryz.ntmps76
    go_wp2_with fail
    rw [HW.out]
    refine HI.out.mono ?_
    rintro e w2 ⟨rfl, b2⟩
    have HB2 := Lib.hid (HB1.out.trans (b2.mono HB1.out.size))
    clear b2
    cases r
    · go_wp2
      go_ret
      exact ⟨ret_bool HF.out.symm, HB2.out⟩
    · go_wp2
      go_ret
      exact ⟨ret_bool HF.out.symm, HB2.out⟩
  · have HF : Hid (prfB cls n = false) := Lib.hid (by unfold prfB; rw [← HK.out, decide_eq_false (by omega)]; rfl)
    go_enter Tryz.func76, Tryz.ntmps76
    go_wp2
    rw [HW.out]
    go_ret
    exact ⟨ret_bool HF.out.symm, HB1.out⟩
end Go.Proofs.YtipapmmjfoaddaaGreat
