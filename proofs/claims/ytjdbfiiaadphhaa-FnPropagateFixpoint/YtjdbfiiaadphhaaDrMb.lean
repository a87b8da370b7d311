/- The draw of a model that may be invalid. -/
import Derived.Test.YtjdbfiiaadphhaaDrMa
import Derived.Test.YtjdbfiiaadphhaaOrdX2
namespace Go.Proofs.Ytjdbfiiaadphhaa
open Go.ChangeShapes Go.WideShapes Go.ChangeAt Go.RowKit Go.Shelf
set_option linter.unusedVariables false
set_option linter.unusedSimpArgs false

def amAct (z0 z1 z2 z3 z4 z5 z6 z7 z8 z9 z10 z11 z12 z13 z14 z15 z16 z17 z18 z19 z20 z21 z22 z23 z24 z25 z26 z27 z28 z29 z30 z31 z32 z33 z34 z35 z36 z37 z38 z39 z40 z41 z42 z43 z44 : Value) : Act := { tmps := #[z0, z1, z2, z3, z4, z5, z6, z7, z8, z9, z10, z11, z12, z13, z14, z15, z16, z17, z18, z19, z20, z21, z22, z23, z24, z25, z26, z27, z28, z29, z30, z31, z32, z33, z34, z35, z36, z37, z38, z39, z40, z41, z42, z43, z44], defers := [] }
theorem own_baseM {base g n cap : Nat} {w : World} {e : TypeId} {sz : Nat} {a : Option Addr} {m : Nat} {xs : List Value} (h : w.ownsRow g e sz (.slice a m cap) n xs) (hg : base ≤ g) : w.ownsRow base e sz (.slice a m cap) n xs := by
  refine ⟨h.1, ?_⟩
  rcases h.2 with h0 | ⟨b, c, cur, e1, hb, h1⟩
  · exact .inl h0
  · exact .inr ⟨b, c, cur, e1, Nat.le_trans hg hb, h1⟩
theorem ms_of_drawn {Q0 : Nat → Bool} {n0 B R L base : Nat} {w w2 : World} {q : Int} {ua ub : Option Addr} {m cap mb cb : Nat} {ds : List Int} {xs : List CE} (k : MP Q0 B R w2.heap.size n0 w) (hR : R < base) (hbw : w.heap.size ≤ base)
    (br : Blk2 w2 R 68 (.slice none 0 0) (.slice none 0 0)) (o1 : w2.ownsRow base 3 1 (.slice ua m cap) ds.length (ds.map (Value.int .i64))) (o2 : w2.ownsRow base 53 5 (.slice ub mb cb) xs.length (cellsE xs))
    (ne : ∀ g, (Value.slice ua m cap).ownBlock = some g → (Value.slice ub mb cb).ownBlock ≠ some g) (ok : ∀ x ∈ xs, x.ok (fun b => (Q0 b || b == R) || decide ((Value.slice ua m cap).ownBlock = some b) || decide ((Value.slice ub mb cb).ownBlock = some b)) w2 L) (rd : Rd n0 B q w2) (dn : Dn B w w2) :
    MS Q0 n0 B R w2.heap.size L w (w2.alloc (.cells #[.slice ua m cap, .slice ub mb cb] 68)) q (.slice ua m cap) (.slice ub mb cb) ds xs := by
  have hbw2 : Below w2.heap.size w2 (w2.alloc (.cells #[.slice ua m cap, .slice ub mb cb] 68)) := (Below.refl _ _).alloc (Nat.le_refl _) _
  have hkeep : ∀ b, b < w2.heap.size → (w2.alloc (.cells #[.slice ua m cap, .slice ub mb cb] 68)).heap[b]? = w2.heap[b]? := fun b hb => Below.heap_alloc _ _ _ hb
  refine ⟨Blk2.new w2 68 _ _, (hkeep R br.lt).trans br, own_baseM (own_keepB o1 (fun b hb => hkeep b (o1.lt b hb).2)) hbw, own_baseM (own_keepB o2 (fun b hb => hkeep b (o2.lt b hb).2)) hbw,
    fun g e => ⟨by have := (o1.lt g e).2; omega, by have := (o1.lt g e).1; omega, ne g e⟩, fun g e => ⟨by have := (o2.lt g e).2; omega, by have := (o2.lt g e).1; omega⟩, fun x hx => (ok x hx).inc (av_new hbw2 (fun b hb hq => ?_)), rd.below (hbw2.mono (by have := rd.lt; omega)), dn.trans (Dn.of_below hbw2)⟩
  simp at hq
  obtain ⟨⟨⟨a1, a2⟩, a3⟩, a4⟩ := hq
  exact qm_no a1 a2 (by omega) a3 a4
theorem oe_cells {Q0 : Nat → Bool} {n0 B R M L : Nat} {w W : World} {q : Int} {u1 : Value} {gb mb cb k : Nat} {ds : List Int} {xs : List CE} {x : CE} (h : MS Q0 n0 B R M L w W q u1 (.slice (some ⟨gb, 0, none⟩) mb cb) ds xs) (hx : xs[k]? = some x) :
    W.cell? ⟨gb, k * 5, none⟩ = some (.int .i64 x.c.kind) ∧ W.cell? ⟨gb, k * 5 + 1, none⟩ = some x.v ∧ W.cell? ⟨gb, k * 5 + 2, none⟩ = some x.a ∧ W.cell? ⟨gb, k * 5 + 3, none⟩ = some (.int .i64 x.c.bound) ∧ W.cell? ⟨gb, k * 5 + 4, none⟩ = some x.r := by
  obtain ⟨t0, t1, t2, t3, t4⟩ := cellsE_at xs k x hx
  have kk : ∀ q u, (cellsE xs)[q]? = some u → W.cell? ⟨gb, q, none⟩ = some u := fun q u hu => by
    have := h.o2.cells (g := gb) rfl q u hu
    rw [addr_add, Nat.zero_add] at this
    exact this
  exact ⟨kk _ _ t0, kk _ _ t1, kk _ _ t2, kk _ _ t3, kk _ _ t4⟩

set_option maxRecDepth 100000 in
set_option maxHeartbeats 64000000 in
theorem anyModel_any (Q0 : Nat → Bool) (n0 B : Nat) (p : Int) (w : World) (hR : Rd n0 B p w) (hp : 0 ≤ p) (hp2 : p ≤ 10000) (hQB : Q0 B = true) (hQ0 : ∀ b, w.heap.size ≤ b → Q0 b = false) :
    Calls Try.prog 114 #[.pointer (some ⟨B, 0, none⟩)] w (ModDn Q0 n0 B p 600 21 w) := by
  have hlt := hR.lt
  obtain ⟨R, hRe⟩ : ∃ R, R = w.heap.size := ⟨_, rfl⟩
  obtain ⟨W1, hW1⟩ : ∃ W1, w.alloc (.cells #[.slice none 0 0, .slice none 0 0] 68) = W1 := ⟨_, rfl⟩
  have b1 : Below w.heap.size w W1 := by rw [← hW1]; exact (Below.refl _ _).alloc (Nat.le_refl _) _
  have hbr : Blk2 W1 R 68 (.slice none 0 0) (.slice none 0 0) := by rw [← hW1, hRe]; exact Blk2.new w _ _ _
  have HBR := Lib.hid hbr
  have HRE := Lib.hid hRe
  have HR1 := Lib.hid (hR.below (b1.mono (by omega)))
  have HB1 := Lib.hid b1
  have HLT := Lib.hid hlt
  have HN0 := Lib.hid hR.1
  have HW1 := Lib.hid hW1
  have HQB := Lib.hid hQB
  have HQ0 := Lib.hid hQ0
  clear hQB hQ0 hR hlt hW1 b1 hRe hbr
  go_enter Try.func114, Try.ntmps114
  go_wp2_with fail
  rw [HW1.out, ← HRE.out]
  clear HW1
  refine (randomModel_any (fun b => Q0 b || b == R) n0 B p W1 HR1.out hp (by omega) (by simp [HQB.out]) (fun b hb => by
    have h1 : Q0 b = false := HQ0.out b (Nat.le_trans HB1.out.size hb)
    have h2 : b ≠ R := by have := HBR.out.lt; omega
    simp [h1, h2])).mono ?_
  rintro e w2 ⟨v1, v2, ds, xs, p2, rfl, o1, o2, ne, ok, hd1, hd4, hx6, hp2a, hp2b, rd, d⟩
  obtain ⟨ga, cap, rfl⟩ := own_some o1 (by omega)
  obtain ⟨ub, cb, rfl, hcb, hcb2⟩ := own_form o2
  obtain ⟨m, hm⟩ : ∃ m, m = ds.length := ⟨_, rfl⟩
  obtain ⟨mb, hmb⟩ : ∃ mb, mb = xs.length := ⟨_, rfl⟩
  have hca : m ≤ cap ∧ cap ≤ maxLen := by
    obtain ⟨a, c, e, h1, h2⟩ := own_form o1
    simp at e
    omega
  have HDL := Lib.hid hm.symm
  have HXL := Lib.hid hmb.symm
  rw [← hm] at ne ok ⊢
  rw [← hmb] at ne ok ⊢
  have o1' : w2.ownsRow W1.heap.size 3 1 (.slice (some ⟨ga, 0, none⟩) m cap) ds.length (ds.map (Value.int .i64)) := by rw [hm]; exact o1
  have o2' : w2.ownsRow W1.heap.size 53 5 (.slice ub mb cb) xs.length (cellsE xs) := by rw [hmb]; exact o2
  have hbr2 : Blk2 w2 R 68 (.slice none 0 0) (.slice none 0 0) := (d.block R HBR.out.lt (by have := HLT.out; have := HRE.out; omega)).trans HBR.out
  have hdn2 : Dn B w w2 := (Dn.of_below HB1.out).trans d
  obtain ⟨M, hM⟩ : ∃ M, M = w2.heap.size := ⟨_, rfl⟩
  have hk : MP Q0 B R M n0 w := ⟨HLT.out, by rw [HRE.out]; exact Nat.le_refl _, by rw [hM]; exact hdn2.size, by have := hbr2.lt; omega, HN0.out, HQB.out, HQ0.out⟩
  obtain ⟨W3, hW3⟩ : ∃ W3, w2.alloc (.cells #[.slice (some ⟨ga, 0, none⟩) m cap, .slice ub mb cb] 68) = W3 := ⟨_, rfl⟩
  have hms : MS Q0 n0 B R M 20 w W3 p2 (.slice (some ⟨ga, 0, none⟩) m cap) (.slice ub mb cb) ds xs := by
    rw [← hW3, hM]
    exact ms_of_drawn (base := W1.heap.size) (by rw [← hM]; exact hk) HBR.out.lt HB1.out.size hbr2 o1' o2' ne ok rd hdn2
  have hm1 : 1 ≤ m ∧ m ≤ 4 := by omega
  have hmb6 : mb ≤ 6 := by omega
  have HK := Lib.hid hk
  have HMS := Lib.hid (hms.mono (L' := 21) (by omega))
  have HMS0 := Lib.hid hms
  have HW3 := Lib.hid hW3
  have HM := Lib.hid hM
  unfold maxLen at hca hcb2
  have hpp : 0 ≤ p2 ∧ p2 ≤ p + 500 := by omega
  clear o1 o2 o1' o2' ne ok rd d hbr2 hdn2 hM hk hW3 hms hm hmb hd1 hd4 hx6 HR1 HBR HB1 hp2b
  go_wp2_with (rw [HW3.out])
  rw [← HM.out]
  clear HM HW3
  refine (pick_dn n0 B p2 16 W3 HMS.out.rd (by omega) (by omega) (by omega)).mono ?_
  rintro e w4 ⟨x, rfl, hx0, hx1, r4, d4⟩
  have HL4 := Lib.hid (HMS0.out.dnStep HK.out d4 r4)
  clear r4 d4 hx0 hx1 HMS HMS0
  cases hx : (x == 0)
  · cases hy : (x == 1)
    · have HL9 := Lib.hid (HL4.out.mono (L' := 21) (by omega))
      have HFIN := Lib.hid (modDn_fin (p := p) (s := 600) HK.out HL9.out (by have := HDL.out; omega) (by have := HDL.out; omega) (by have := HXL.out; omega) (by omega) (by omega))
      obtain ⟨p0, p1⟩ := HL9.out.bm.cell
      obtain ⟨o0, o1⟩ := HL9.out.br.cell
      obtain ⟨f0, f1⟩ := HL9.out.br.frozen
      have HQ := Lib.hid (putM_blk HL9.out.br (.slice (some ⟨ga, 0, none⟩) m cap) (.slice ub mb cb)).cell
      clear HL9 HL4
      go_wp2
      have hq := HQ.out
      simp only [putM] at hq
      obtain ⟨q0, q1⟩ := hq
      refine bodyPost_ret (v := .agg #[.slice (some ⟨ga, 0, none⟩) m cap, .slice ub mb cb]) (by simp [results, Try.results114, go_sem, q0, q1]) rfl ?_
      exact HFIN.out
    · by_cases hmb0 : 0 < mb
      · have HLx := Lib.hid HL4.out.o2
        obtain ⟨gb, rfl⟩ : ∃ gb, ub = some ⟨gb, 0, none⟩ := by
          rcases HLx.out.2 with ⟨e, h0⟩ | ⟨g, c0, cur, e, _⟩
          · have := HXL.out; omega
          · simp at e; exact ⟨g, e.1⟩
        clear HLx
        obtain ⟨p0, p1⟩ := HL4.out.bm.cell
        go_wp2_with fail
        refine (pick_dn n0 B (p2 + 1) mb w4 HL4.out.rd (by omega) (by omega) (by omega)).mono ?_
        rintro e w5 ⟨z0, rfl, hz0, hz1, r5, d5⟩
        obtain ⟨k, rfl⟩ := Int.eq_ofNat_of_zero_le hz0
        have hk : k < mb := by omega
        have HL5 := Lib.hid (HL4.out.dnStep HK.out d5 r5)
        clear r5 d5 hz0 hz1 HL4 p0 p1
        obtain ⟨⟨⟨kx, vx, ax, bx, rx⟩, xv, xa, xr⟩, hxk⟩ : ∃ y, xs[k]? = some y := ⟨_, List.getElem?_eq_getElem (by have := HXL.out; omega)⟩
        have hxo := HL5.out.ok _ (List.mem_of_getElem? hxk)
        obtain ⟨q1, q2, q4, qn, qv, qc⟩ := hxo
        obtain ⟨x1, xc1, e1, -, -, -⟩ := id q1
        obtain ⟨x2, xc2, e2, -, -, -⟩ := id q2
        obtain ⟨x4, xc4, e4, -, -, -⟩ := id q4
        obtain ⟨xn1, hxn1⟩ : ∃ n, n = vx.length := ⟨_, rfl⟩
        obtain ⟨xn2, hxn2⟩ : ∃ n, n = ax.length := ⟨_, rfl⟩
        obtain ⟨xn4, hxn4⟩ : ∃ n, n = rx.length := ⟨_, rfl⟩
        simp only at e1 e2 e4 q1 q2 q4 qn qv qc
        rw [← hxn1] at e1
        rw [← hxn2] at e2
        rw [← hxn4] at e4
        subst e1 e2 e4
        have HR1 : Hid (RdInts (av (qm Q0 R M (.slice (some ⟨ga, 0, none⟩) m cap) (.slice (some ⟨gb, 0, none⟩) mb cb)) w5.drew) _ vx) := Lib.hid (q1.inc (Fr.of_below (Below.refl _ w5).drew).inc)
        have HR2 : Hid (RdInts (av (qm Q0 R M (.slice (some ⟨ga, 0, none⟩) m cap) (.slice (some ⟨gb, 0, none⟩) mb cb)) w5.drew) _ ax) := Lib.hid (q2.inc (Fr.of_below (Below.refl _ w5).drew).inc)
        have HR4 : Hid (RdRows (av (qm Q0 R M (.slice (some ⟨ga, 0, none⟩) m cap) (.slice (some ⟨gb, 0, none⟩) mb cb)) w5.drew) _ rx) := Lib.hid (q4.inc (Fr.of_below (Below.refl _ w5).drew).inc)
        have HNX := Lib.hid qn
        have HVX := Lib.hid qv
        have HCX := Lib.hid qc
        have HXK := Lib.hid hxk
        clear q1 q2 q4 qn qv qc hxk hxn1 hxn2 hxn4
        have HS : Hid ((w5.drew.cell? ⟨M, 1, none⟩ = some (.slice (some ⟨gb, 0, none⟩) mb cb) ∧ w5.drew.cell? ⟨gb, k * 5, none⟩ = some (.int .i64 kx) ∧ w5.drew.cell? ⟨gb, k * 5 + 1, none⟩ = some (.slice x1 xn1 xc1) ∧ w5.drew.cell? ⟨gb, k * 5 + 2, none⟩ = some (.slice x2 xn2 xc2) ∧ w5.drew.cell? ⟨gb, k * 5 + 3, none⟩ = some (.int .i64 bx) ∧ w5.drew.cell? ⟨gb, k * 5 + 4, none⟩ = some (.slice x4 xn4 xc4))) := Lib.hid (by
          obtain ⟨t0, t1, t2, t3, t4⟩ := oe_cells HL5.out HXK.out
          exact ⟨HL5.out.bm.cell.2, t0, t1, t2, t3, t4⟩)
        go_wp2_with fail
        have hS := HS.out
        refine region_x (fun w' => (w'.cell? ⟨M, 1, none⟩ = some (.slice (some ⟨gb, 0, none⟩) mb cb) ∧ w'.cell? ⟨gb, k * 5, none⟩ = some (.int .i64 kx) ∧ w'.cell? ⟨gb, k * 5 + 1, none⟩ = some (.slice x1 xn1 xc1) ∧ w'.cell? ⟨gb, k * 5 + 2, none⟩ = some (.slice x2 xn2 xc2) ∧ w'.cell? ⟨gb, k * 5 + 3, none⟩ = some (.int .i64 bx) ∧ w'.cell? ⟨gb, k * 5 + 4, none⟩ = some (.slice x4 xn4 xc4))) (fun i => i == 11) rfl ?_
        change wpAnyX Try.prog .any _ _ _ _ 12 _ (amAct _ _ _ _ _ _ _ _ _ _ _ _ _ _ _ _ _ _ _ _ _ _ _ _ _ _ _ _ _ _ _ _ _ _ _ _ _ _ _ _ _ _ _ _ _) w5.drew
        refine wpAnyX_take (i := 0) (v := .pointer (some ⟨M, 1, none⟩)) rfl (by kernel_rfl) (by kernel_rfl) (by kernel_rfl) (by kernel_rfl) (fun _ _ _ h => h) (.inl ⟨rfl, fun w' hw' => m_field1 rfl rfl⟩) hS ?_
        change wpAnyX Try.prog .any _ _ _ _ 11 _ (amAct _ _ _ _ _ _ _ _ _ _ _ _ _ _ _ _ _ _ _ _ _ _ _ _ _ _ _ _ _ _ _ _ _ (.pointer (some ⟨M, 1, none⟩)) _ _ _ _ _ _ _ _ _ _ _) w5.drew
        refine wpAnyX_take (i := 1) (v := .slice (some ⟨gb, 0, none⟩) mb cb) rfl (by kernel_rfl) (by kernel_rfl) (by kernel_rfl) (by kernel_rfl) (fun _ _ _ h => h) (.inl ⟨rfl, fun w' hw' => exec_load rfl rfl (m_loadC w' _ _ _ _ _ hw'.1)⟩) hS ?_
        change wpAnyX Try.prog .any _ _ _ _ 10 _ (amAct _ _ _ _ _ _ _ _ _ _ _ _ _ _ _ _ _ _ _ _ _ _ _ _ _ _ _ _ _ _ _ _ _ (.pointer (some ⟨M, 1, none⟩)) (.slice (some ⟨gb, 0, none⟩) mb cb) _ _ _ _ _ _ _ _ _ _) w5.drew
        refine wpAnyX_take (i := 2) (v := .int .i64 k) rfl (by kernel_rfl) (by kernel_rfl) (by kernel_rfl) (by kernel_rfl) (fun _ _ _ h => h) (.inl ⟨rfl, fun w' hw' => rfl⟩) hS ?_
        change wpAnyX Try.prog .any _ _ _ _ 9 _ (amAct _ _ _ _ _ _ _ _ _ _ _ _ _ _ _ _ _ _ _ _ _ _ _ _ _ _ _ _ _ _ _ _ _ (.pointer (some ⟨M, 1, none⟩)) (.slice (some ⟨gb, 0, none⟩) mb cb) (.int .i64 k) _ _ _ _ _ _ _ _ _) w5.drew
        refine wpAnyX_take (i := 3) (v := .pointer (some ⟨B, 0, none⟩)) rfl (by kernel_rfl) (by kernel_rfl) (by kernel_rfl) (by kernel_rfl) (fun _ _ _ h => h) (.inl ⟨rfl, fun w' hw' => rfl⟩) hS ?_
        change wpAnyX Try.prog .any _ _ _ _ 8 _ (amAct _ _ _ _ _ _ _ _ _ _ _ _ _ _ _ _ _ _ _ _ _ _ _ _ _ _ _ _ _ _ _ _ _ (.pointer (some ⟨M, 1, none⟩)) (.slice (some ⟨gb, 0, none⟩) mb cb) (.int .i64 k) (.pointer (some ⟨B, 0, none⟩)) _ _ _ _ _ _ _ _) w5.drew
        refine wpAnyX_take (i := 4) (v := .pointer (some ⟨M, 1, none⟩)) rfl (by kernel_rfl) (by kernel_rfl) (by kernel_rfl) (by kernel_rfl) (fun _ _ _ h => h) (.inl ⟨rfl, fun w' hw' => m_field1 rfl rfl⟩) hS ?_
        change wpAnyX Try.prog .any _ _ _ _ 7 _ (amAct _ _ _ _ _ _ _ _ _ _ _ _ _ _ _ _ _ _ _ _ _ _ _ _ _ _ _ _ _ _ _ _ _ (.pointer (some ⟨M, 1, none⟩)) (.slice (some ⟨gb, 0, none⟩) mb cb) (.int .i64 k) (.pointer (some ⟨B, 0, none⟩)) (.pointer (some ⟨M, 1, none⟩)) _ _ _ _ _ _ _) w5.drew
        refine wpAnyX_take (i := 5) (v := .slice (some ⟨gb, 0, none⟩) mb cb) rfl (by kernel_rfl) (by kernel_rfl) (by kernel_rfl) (by kernel_rfl) (fun _ _ _ h => h) (.inl ⟨rfl, fun w' hw' => exec_load rfl rfl (m_loadC w' _ _ _ _ _ hw'.1)⟩) hS ?_
        change wpAnyX Try.prog .any _ _ _ _ 6 _ (amAct _ _ _ _ _ _ _ _ _ _ _ _ _ _ _ _ _ _ _ _ _ _ _ _ _ _ _ _ _ _ _ _ _ (.pointer (some ⟨M, 1, none⟩)) (.slice (some ⟨gb, 0, none⟩) mb cb) (.int .i64 k) (.pointer (some ⟨B, 0, none⟩)) (.pointer (some ⟨M, 1, none⟩)) (.slice (some ⟨gb, 0, none⟩) mb cb) _ _ _ _ _ _) w5.drew
        refine wpAnyX_take (i := 6) (v := .int .i64 k) rfl (by kernel_rfl) (by kernel_rfl) (by kernel_rfl) (by kernel_rfl) (fun _ _ _ h => h) (.inl ⟨rfl, fun w' hw' => rfl⟩) hS ?_
        change wpAnyX Try.prog .any _ _ _ _ 5 _ (amAct _ _ _ _ _ _ _ _ _ _ _ _ _ _ _ _ _ _ _ _ _ _ _ _ _ _ _ _ _ _ _ _ _ (.pointer (some ⟨M, 1, none⟩)) (.slice (some ⟨gb, 0, none⟩) mb cb) (.int .i64 k) (.pointer (some ⟨B, 0, none⟩)) (.pointer (some ⟨M, 1, none⟩)) (.slice (some ⟨gb, 0, none⟩) mb cb) (.int .i64 k) _ _ _ _ _) w5.drew
        refine wpAnyX_take (i := 7) (v := .pointer (some ⟨gb, k * 5, none⟩)) rfl (by kernel_rfl) (by kernel_rfl) (by kernel_rfl) (by kernel_rfl) (fun _ _ _ h => h) (.inl ⟨rfl, fun w' hw' => exec_index rfl rfl rfl (m_indexC _ _ _ _ _ hk)⟩) hS ?_
        change wpAnyX Try.prog .any _ _ _ _ 4 _ (amAct _ _ _ _ _ _ _ _ _ _ _ _ _ _ _ _ _ _ _ _ _ _ _ _ _ _ _ _ _ _ _ _ _ (.pointer (some ⟨M, 1, none⟩)) (.slice (some ⟨gb, 0, none⟩) mb cb) (.int .i64 k) (.pointer (some ⟨B, 0, none⟩)) (.pointer (some ⟨M, 1, none⟩)) (.slice (some ⟨gb, 0, none⟩) mb cb) (.int .i64 k) (.pointer (some ⟨gb, k * 5, none⟩)) _ _ _ _) w5.drew
        refine wpAnyX_take (i := 8) (v := .agg #[.int .i64 kx, .slice x1 xn1 xc1, .slice x2 xn2 xc2, .int .i64 bx, .slice x4 xn4 xc4]) rfl (by kernel_rfl) (by kernel_rfl) (by kernel_rfl) (by kernel_rfl) (fun _ _ _ h => h) (.inl ⟨rfl, fun w' hw' => exec_load rfl rfl (m_loadE w' _ _ _ _ _ _ _ _ _ _ _ _ _ hw'.2.1 hw'.2.2.1 hw'.2.2.2.1 hw'.2.2.2.2.1 hw'.2.2.2.2.2)⟩) hS ?_
        change wpAnyX Try.prog .any _ _ _ _ 3 _ (amAct _ _ _ _ _ _ _ _ _ _ _ _ _ _ _ _ _ _ _ _ _ _ _ _ _ _ _ _ _ _ _ _ _ (.pointer (some ⟨M, 1, none⟩)) (.slice (some ⟨gb, 0, none⟩) mb cb) (.int .i64 k) (.pointer (some ⟨B, 0, none⟩)) (.pointer (some ⟨M, 1, none⟩)) (.slice (some ⟨gb, 0, none⟩) mb cb) (.int .i64 k) (.pointer (some ⟨gb, k * 5, none⟩)) (.agg #[.int .i64 kx, .slice x1 xn1 xc1, .slice x2 xn2 xc2, .int .i64 bx, .slice x4 xn4 xc4]) _ _ _) w5.drew
        refine wpAnyX_one (i := 9) (by kernel_rfl) rfl (fun K' hK' => ?_)
        refine k_call2 _ rfl 154 _ _ _ _ _ rfl rfl rfl (enters_of Try.func154 (by kernel_rfl) rfl) _ (damage_any (qm Q0 R M (.slice (some ⟨ga, 0, none⟩) m cap) (.slice (some ⟨gb, 0, none⟩) mb cb)) n0 B (p2 + 1 + 1) ⟨kx, vx, ax, bx, rx⟩ _ _ _ w5.drew (HL5.out.rd.drewN 1) HR1.out HR2.out HR4.out HNX.out HVX.out HCX.out (by omega) (by omega) (qm_B HK.out.hQB) ((HL5.out.below HK.out (Below.refl _ w5).drew).new_no HK.out)) (fun c w' h => by obtain ⟨_, _, _, _, _, h, _⟩ := h; cases h) (fun w' h => by obtain ⟨_, _, _, _, _, h, _⟩ := h; cases h) ?_
        rintro vz w6 ⟨v1, v2, v4, c, q6, ev, r1, r2, r4, hnil, hv1, hcl, hq6, hq6', r6, d6⟩
        obtain ⟨a1, vc, e1, -, -, -⟩ := id r1
        obtain ⟨a2, ac, e2, -, -, -⟩ := id r2
        obtain ⟨a4, rc, e4, -, -, -⟩ := id r4
        obtain ⟨vn, hvn⟩ : ∃ n, n = c.vars.length := ⟨_, rfl⟩
        obtain ⟨an, han⟩ : ∃ n, n = c.args.length := ⟨_, rfl⟩
        obtain ⟨rn, hrn⟩ : ∃ n, n = c.rows.length := ⟨_, rfl⟩
        rw [← hvn] at e1
        rw [← han] at e2
        rw [← hrn] at e4
        subst e1 e2 e4
        obtain rfl : vz = .agg #[.int .i64 c.kind, .slice a1 vn vc, .slice a2 an ac, .int .i64 c.bound, .slice a4 rn rc] := by injection ev
        have hd6 : Dn B w5 w6 := (Dn.of_below (Below.refl _ w5).drew).trans d6
        have hL6 := HL5.out.dnStep HK.out hd6 r6
        obtain ⟨t0, t1, t2, t3, t4⟩ := oe_cells hL6 HXK.out
        have ho6 : w6.ownsRow w.heap.size 53 5 (.slice (some ⟨gb, 0, none⟩) mb cb) mb (cellsE xs) := by have := hL6.o2; rw [HXL.out] at this; exact this
        have hS6 : (w6.cell? ⟨M, 1, none⟩ = some (.slice (some ⟨gb, 0, none⟩) mb cb) ∧ w6.cell? ⟨gb, k * 5, none⟩ = some (.int .i64 kx) ∧ w6.cell? ⟨gb, k * 5 + 1, none⟩ = some (.slice x1 xn1 xc1) ∧ w6.cell? ⟨gb, k * 5 + 2, none⟩ = some (.slice x2 xn2 xc2) ∧ w6.cell? ⟨gb, k * 5 + 3, none⟩ = some (.int .i64 bx) ∧ w6.cell? ⟨gb, k * 5 + 4, none⟩ = some (.slice x4 xn4 xc4)) := ⟨hL6.bm.cell.2, t0, t1, t2, t3, t4⟩
        refine hK'.out _ _ (fun _ => hS6) ?_
        clear hK' K'
        change wpAnyX Try.prog .any _ _ _ _ 2 _ (amAct _ _ _ _ _ _ _ _ _ _ _ _ _ _ _ _ _ _ _ _ _ _ _ _ _ _ _ _ _ _ _ _ _ (.pointer (some ⟨M, 1, none⟩)) (.slice (some ⟨gb, 0, none⟩) mb cb) (.int .i64 k) (.pointer (some ⟨B, 0, none⟩)) (.pointer (some ⟨M, 1, none⟩)) (.slice (some ⟨gb, 0, none⟩) mb cb) (.int .i64 k) (.pointer (some ⟨gb, k * 5, none⟩)) (.agg #[.int .i64 kx, .slice x1 xn1 xc1, .slice x2 xn2 xc2, .int .i64 bx, .slice x4 xn4 xc4]) (.agg #[.int .i64 c.kind, .slice a1 vn vc, .slice a2 an ac, .int .i64 c.bound, .slice a4 rn rc]) _ _) w6
        refine wpAnyX_take (i := 10) (v := .pointer (some ⟨gb, k * 5, none⟩)) rfl (by kernel_rfl) (by kernel_rfl) (by kernel_rfl) (by kernel_rfl) (fun _ _ _ h => h) (.inl ⟨rfl, fun w' hw' => exec_index rfl rfl rfl (m_indexC _ _ _ _ _ hk)⟩) hS6 ?_
        change wpAnyX Try.prog .any _ _ _ _ 1 _ (amAct _ _ _ _ _ _ _ _ _ _ _ _ _ _ _ _ _ _ _ _ _ _ _ _ _ _ _ _ _ _ _ _ _ (.pointer (some ⟨M, 1, none⟩)) (.slice (some ⟨gb, 0, none⟩) mb cb) (.int .i64 k) (.pointer (some ⟨B, 0, none⟩)) (.pointer (some ⟨M, 1, none⟩)) (.slice (some ⟨gb, 0, none⟩) mb cb) (.int .i64 k) (.pointer (some ⟨gb, k * 5, none⟩)) (.agg #[.int .i64 kx, .slice x1 xn1 xc1, .slice x2 xn2 xc2, .int .i64 bx, .slice x4 xn4 xc4]) (.agg #[.int .i64 c.kind, .slice a1 vn vc, .slice a2 an ac, .int .i64 c.bound, .slice a4 rn rc]) (.pointer (some ⟨gb, k * 5, none⟩)) _) w6
        refine wpAnyX_one (i := 11) (by kernel_rfl) rfl (fun K' hK' => ?_)
        refine step_skip _ (putE w6 gb k ⟨c, .slice a1 vn vc, .slice a2 an ac, .slice a4 rn rc⟩) rfl (exec_store rfl rfl rfl (m_storeE w6 gb (k * 5) _ _ _ _ _ _ _ _ _ _ _ _ _ _ _ _ _ _ _ _ _ _ t0 t1 t2 t3 t4 (ho6.frozenAt _) (ho6.frozenAt _) (ho6.frozenAt _) (ho6.frozenAt _) (ho6.frozenAt _))) ?_
        refine hK'.out _ _ (fun h => by cases h) ?_
        clear hK' K'
        change wpAnyX Try.prog .any _ _ _ _ 0 _ (amAct _ _ _ _ _ _ _ _ _ _ _ _ _ _ _ _ _ _ _ _ _ _ _ _ _ _ _ _ _ _ _ _ _ (.pointer (some ⟨M, 1, none⟩)) (.slice (some ⟨gb, 0, none⟩) mb cb) (.int .i64 k) (.pointer (some ⟨B, 0, none⟩)) (.pointer (some ⟨M, 1, none⟩)) (.slice (some ⟨gb, 0, none⟩) mb cb) (.int .i64 k) (.pointer (some ⟨gb, k * 5, none⟩)) (.agg #[.int .i64 kx, .slice x1 xn1 xc1, .slice x2 xn2 xc2, .int .i64 bx, .slice x4 xn4 xc4]) (.agg #[.int .i64 c.kind, .slice a1 vn vc, .slice a2 an ac, .int .i64 c.bound, .slice a4 rn rc]) (.pointer (some ⟨gb, k * 5, none⟩)) _) (putE w6 gb k ⟨c, .slice a1 vn vc, .slice a2 an ac, .slice a4 rn rc⟩)
        refine wpAnyX_done (by kernel_rfl) ?_ _
        unfold amAct
        have HL8 := Lib.hid (MS.setC (i := k) (x := ⟨c, .slice a1 vn vc, .slice a2 an ac, .slice a4 rn rc⟩) HK.out (hL6.mono (L' := 21) (by omega)) (by have := HXL.out; omega) ⟨r1, r2, r4, hnil, hv1, hcl⟩)
        clear ho6 hS HS hS6 t0 t1 t2 t3 t4 hL6 hd6 r6 d6 ev r1 r2 r4 hnil hv1 hcl hvn han hrn HL5
        have HFIN := Lib.hid (modDn_fin (p := p) (s := 600) HK.out HL8.out (by have := HDL.out; omega) (by have := HDL.out; omega) (by rw [List.length_set]; have := HXL.out; omega) (by omega) (by omega))
        obtain ⟨p0, p1⟩ := HL8.out.bm.cell
        obtain ⟨o0, o1⟩ := HL8.out.br.cell
        obtain ⟨f0, f1⟩ := HL8.out.br.frozen
        have HQ := Lib.hid (putM_blk HL8.out.br (.slice (some ⟨ga, 0, none⟩) m cap) (.slice (some ⟨gb, 0, none⟩) mb cb)).cell
        clear HL8
        go_wp2
        have hq := HQ.out
        simp only [putM] at hq
        obtain ⟨q0, q1⟩ := hq
        refine bodyPost_ret (v := .agg #[.slice (some ⟨ga, 0, none⟩) m cap, .slice (some ⟨gb, 0, none⟩) mb cb]) (by simp [results, Try.results114, go_sem, q0, q1]) rfl ?_
        exact HFIN.out
      · obtain rfl : mb = 0 := by omega
        have HL9 := Lib.hid (HL4.out.mono (L' := 21) (by omega))
        have HFIN := Lib.hid (modDn_fin (p := p) (s := 600) HK.out HL9.out (by have := HDL.out; omega) (by have := HDL.out; omega) (by have := HXL.out; omega) (by omega) (by omega))
        obtain ⟨p0, p1⟩ := HL9.out.bm.cell
        obtain ⟨o0, o1⟩ := HL9.out.br.cell
        obtain ⟨f0, f1⟩ := HL9.out.br.frozen
        have HQ := Lib.hid (putM_blk HL9.out.br (.slice (some ⟨ga, 0, none⟩) m cap) (.slice ub 0 cb)).cell
        clear HL9 HL4
        go_wp2
        have hq := HQ.out
        simp only [putM] at hq
        obtain ⟨q0, q1⟩ := hq
        refine bodyPost_ret (v := .agg #[.slice (some ⟨ga, 0, none⟩) m cap, .slice ub 0 cb]) (by simp [results, Try.results114, go_sem, q0, q1]) rfl ?_
        exact HFIN.out
  · have HL0 : Hid (MS Q0 n0 B R M 21 w w4.drew (p2 + 1) (.slice (some ⟨ga, 0, none⟩) m cap) (.slice ub mb cb) ds xs) := Lib.hid ((HL4.out.mono (by omega)).below HK.out (Below.refl _ w4).drew)
    have HS : Hid (w4.drew.cell? ⟨M, 0, none⟩ = some (.slice (some ⟨ga, 0, none⟩) m cap)) := Lib.hid HL4.out.bm.cell.1
    go_wp2_with fail
    have hS := HS.out
    have hL0 := HL0.out
    refine region_x (fun w' => w'.cell? ⟨M, 0, none⟩ = some (.slice (some ⟨ga, 0, none⟩) m cap)) (fun i => i == 11) rfl ?_
    change wpAnyX Try.prog .any _ _ _ _ 12 _ (amAct _ _ _ _ _ _ _ _ _ _ _ _ _ _ _ _ _ _ _ _ _ _ _ _ _ _ _ _ _ _ _ _ _ _ _ _ _ _ _ _ _ _ _ _ _) w4.drew
    refine wpAnyX_take (i := 0) (v := .pointer (some ⟨M, 0, none⟩)) rfl (by kernel_rfl) (by kernel_rfl) (by kernel_rfl) (by kernel_rfl) (fun _ _ _ h => h) (.inl ⟨rfl, fun w' hw' => m_field0 rfl rfl⟩) hS ?_
    change wpAnyX Try.prog .any _ _ _ _ 11 _ (amAct _ _ _ _ _ _ _ _ _ _ _ (.pointer (some ⟨M, 0, none⟩)) _ _ _ _ _ _ _ _ _ _ _ _ _ _ _ _ _ _ _ _ _ _ _ _ _ _ _ _ _ _ _ _ _) w4.drew
    refine wpAnyX_take (i := 1) (v := .slice (some ⟨ga, 0, none⟩) m cap) rfl (by kernel_rfl) (by kernel_rfl) (by kernel_rfl) (by kernel_rfl) (fun _ _ _ h => h) (.inl ⟨rfl, fun w' hw' => exec_load rfl rfl (k_loadI w' _ _ _ _ _ hw')⟩) hS ?_
    change wpAnyX Try.prog .any _ _ _ _ 10 _ (amAct _ _ _ _ _ _ _ _ _ _ _ (.pointer (some ⟨M, 0, none⟩)) (.slice (some ⟨ga, 0, none⟩) m cap) _ _ _ _ _ _ _ _ _ _ _ _ _ _ _ _ _ _ _ _ _ _ _ _ _ _ _ _ _ _ _ _) w4.drew
    refine wpAnyX_take (i := 2) (v := .pointer (some ⟨B, 0, none⟩)) rfl (by kernel_rfl) (by kernel_rfl) (by kernel_rfl) (by kernel_rfl) (fun _ _ _ h => h) (.inl ⟨rfl, fun w' hw' => rfl⟩) hS ?_
    change wpAnyX Try.prog .any _ _ _ _ 9 _ (amAct _ _ _ _ _ _ _ _ _ _ _ (.pointer (some ⟨M, 0, none⟩)) (.slice (some ⟨ga, 0, none⟩) m cap) (.pointer (some ⟨B, 0, none⟩)) _ _ _ _ _ _ _ _ _ _ _ _ _ _ _ _ _ _ _ _ _ _ _ _ _ _ _ _ _ _ _) w4.drew
    refine wpAnyX_take (i := 3) (v := .pointer (some ⟨M, 0, none⟩)) rfl (by kernel_rfl) (by kernel_rfl) (by kernel_rfl) (by kernel_rfl) (fun _ _ _ h => h) (.inl ⟨rfl, fun w' hw' => m_field0 rfl rfl⟩) hS ?_
    change wpAnyX Try.prog .any _ _ _ _ 8 _ (amAct _ _ _ _ _ _ _ _ _ _ _ (.pointer (some ⟨M, 0, none⟩)) (.slice (some ⟨ga, 0, none⟩) m cap) (.pointer (some ⟨B, 0, none⟩)) (.pointer (some ⟨M, 0, none⟩)) _ _ _ _ _ _ _ _ _ _ _ _ _ _ _ _ _ _ _ _ _ _ _ _ _ _ _ _ _ _) w4.drew
    refine wpAnyX_take (i := 4) (v := .slice (some ⟨ga, 0, none⟩) m cap) rfl (by kernel_rfl) (by kernel_rfl) (by kernel_rfl) (by kernel_rfl) (fun _ _ _ h => h) (.inl ⟨rfl, fun w' hw' => exec_load rfl rfl (k_loadI w' _ _ _ _ _ hw')⟩) hS ?_
    change wpAnyX Try.prog .any _ _ _ _ 7 _ (amAct _ _ _ _ _ _ _ _ _ _ _ (.pointer (some ⟨M, 0, none⟩)) (.slice (some ⟨ga, 0, none⟩) m cap) (.pointer (some ⟨B, 0, none⟩)) (.pointer (some ⟨M, 0, none⟩)) (.slice (some ⟨ga, 0, none⟩) m cap) _ _ _ _ _ _ _ _ _ _ _ _ _ _ _ _ _ _ _ _ _ _ _ _ _ _ _ _ _) w4.drew
    refine wpAnyX_take (i := 5) (v := .int .i64 m) rfl (by kernel_rfl) (by kernel_rfl) (by kernel_rfl) (by kernel_rfl) (fun _ _ _ h => h) (.inl ⟨rfl, fun w' hw' => m_lenI rfl rfl⟩) hS ?_
    change wpAnyX Try.prog .any _ _ _ _ 6 _ (amAct _ _ _ _ _ _ _ _ _ _ _ (.pointer (some ⟨M, 0, none⟩)) (.slice (some ⟨ga, 0, none⟩) m cap) (.pointer (some ⟨B, 0, none⟩)) (.pointer (some ⟨M, 0, none⟩)) (.slice (some ⟨ga, 0, none⟩) m cap) (.int .i64 m) _ _ _ _ _ _ _ _ _ _ _ _ _ _ _ _ _ _ _ _ _ _ _ _ _ _ _ _) w4.drew
    refine wpAnyX_take (i := 7) (v := .pointer (some ⟨B, 0, none⟩)) rfl (by kernel_rfl) (by kernel_rfl) (by kernel_rfl) (by kernel_rfl) (fun _ _ _ h => h) (.inl ⟨rfl, fun w' hw' => rfl⟩) hS ?_
    change wpAnyX Try.prog .any _ _ _ _ 5 _ (amAct _ _ _ _ _ _ _ _ _ _ _ (.pointer (some ⟨M, 0, none⟩)) (.slice (some ⟨ga, 0, none⟩) m cap) (.pointer (some ⟨B, 0, none⟩)) (.pointer (some ⟨M, 0, none⟩)) (.slice (some ⟨ga, 0, none⟩) m cap) (.int .i64 m) _ (.pointer (some ⟨B, 0, none⟩)) _ _ _ _ _ _ _ _ _ _ _ _ _ _ _ _ _ _ _ _ _ _ _ _ _ _) w4.drew
    refine wpAnyX_two (i := 6) (j := 8) (by kernel_rfl) rfl rfl (fun K' hK' => ?_) (fun K' hK' => ?_)
    · refine k_call2 _ rfl 125 _ _ _ _ _ rfl rfl rfl (enters_of Try.func125 (by kernel_rfl) rfl) _ (pick_dn n0 B (p2 + 1) m w4.drew hL0.rd (by omega) (by omega) (by omega)) (fun c w' h => by obtain ⟨_, h, _⟩ := h; cases h) (fun w' h => by obtain ⟨_, h, _⟩ := h; cases h) ?_
      rintro vz w5 ⟨z1, ev, hz0, hz1, r5, d5⟩
      obtain ⟨i, rfl⟩ := Int.eq_ofNat_of_zero_le hz0
      have hi : i < m := by omega
      obtain rfl : vz = .int .i64 i := by injection ev
      have hLw5 := hL0.dnStep HK.out d5 r5
      have hSw5 : w5.cell? ⟨M, 0, none⟩ = some (.slice (some ⟨ga, 0, none⟩) m cap) := hLw5.bm.cell.1
      refine hK'.out _ _ (fun _ => hSw5) ?_
      clear hK' K'
      change wpAnyX Try.prog .any _ _ _ _ 4 _ (amAct _ _ _ _ _ _ _ _ _ _ _ (.pointer (some ⟨M, 0, none⟩)) (.slice (some ⟨ga, 0, none⟩) m cap) (.pointer (some ⟨B, 0, none⟩)) (.pointer (some ⟨M, 0, none⟩)) (.slice (some ⟨ga, 0, none⟩) m cap) (.int .i64 m) (.int .i64 i) (.pointer (some ⟨B, 0, none⟩)) _ _ _ _ _ _ _ _ _ _ _ _ _ _ _ _ _ _ _ _ _ _ _ _ _ _) w5
      refine wpAnyX_one (i := 8) (by kernel_rfl) rfl (fun K' hK' => ?_)
      refine step_value _ (w5.alloc (.cells #[.int .i64 (-1), .int .i64 64, .int .i64 0] 3)) rfl _ (m_exec3 rfl rfl rfl rfl (m_build3 _)) ?_
      have hLV := hLw5.below HK.out ((Below.refl w5.heap.size w5).alloc (Nat.le_refl _) (.cells #[.int .i64 (-1), .int .i64 64, .int .i64 0] 3))
      have hSV : (w5.alloc (.cells #[.int .i64 (-1), .int .i64 64, .int .i64 0] 3)).cell? ⟨M, 0, none⟩ = some (.slice (some ⟨ga, 0, none⟩) m cap) := hLV.bm.cell.1
      have q1 : (w5.alloc (.cells #[.int .i64 (-1), .int .i64 64, .int .i64 0] 3)).heap[w5.heap.size]? = some (.cells #[.int .i64 (-1), .int .i64 64, .int .i64 0] 3) := World.alloc_heap_new _ _
      refine hK'.out _ _ (fun _ => hSV) ?_
      clear hK' K'
      change wpAnyX Try.prog .any _ _ _ _ 3 _ (amAct _ _ _ _ _ _ _ _ _ _ _ (.pointer (some ⟨M, 0, none⟩)) (.slice (some ⟨ga, 0, none⟩) m cap) (.pointer (some ⟨B, 0, none⟩)) (.pointer (some ⟨M, 0, none⟩)) (.slice (some ⟨ga, 0, none⟩) m cap) (.int .i64 m) (.int .i64 i) (.pointer (some ⟨B, 0, none⟩)) (.slice (some ⟨w5.heap.size, 0, none⟩) 3 3) _ _ _ _ _ _ _ _ _ _ _ _ _ _ _ _ _ _ _ _ _ _ _ _ _) (w5.alloc (.cells #[.int .i64 (-1), .int .i64 64, .int .i64 0] 3))
      refine wpAnyX_one (i := 9) (by kernel_rfl) rfl (fun K' hK' => ?_)
      have hLB : w5.heap.size ≠ B := by have := r5.lt; omega
      have hcc : ∀ i, i < 3 → (w5.alloc (.cells #[.int .i64 (-1), .int .i64 64, .int .i64 0] 3)).cell? ⟨w5.heap.size, i, none⟩ = some (.int .i64 (([-1, 64, 0] : List Int)[i]?.getD 0)) := fun i hi => by simp only [World.cell?, q1]; rcases (show i = 0 ∨ i = 1 ∨ i = 2 by omega) with rfl | rfl | rfl <;> rfl
      refine k_call2 _ rfl 153 _ _ _ _ _ rfl rfl rfl (enters_of Try.func153 (by kernel_rfl) rfl) _ (one_dn n0 B w5.heap.size 3 (p2 + 1 + 1) (fun i => ([-1, 64, 0] : List Int)[i]?.getD 0) (w5.alloc (.cells #[.int .i64 (-1), .int .i64 64, .int .i64 0] 3)) hLV.rd (by omega) (by omega) (by omega) (by omega) hLB hcc) (fun c w' h => by obtain ⟨_, _, h, _⟩ := h; cases h) (fun w' h => by obtain ⟨_, _, h, _⟩ := h; cases h) ?_
      rintro vz w7 ⟨iz, hiz, ev7, r7, d7⟩
      obtain ⟨z, hz⟩ : ∃ z, z = ([-1, 64, 0] : List Int)[iz]?.getD 0 := ⟨_, rfl⟩
      obtain rfl : vz = .int .i64 z := by rw [hz]; injection ev7
      have hL7 := hLV.dnStep HK.out d7 r7
      have hS7 : w7.cell? ⟨M, 0, none⟩ = some (.slice (some ⟨ga, 0, none⟩) m cap) := hL7.bm.cell.1
      refine hK'.out _ _ (fun _ => hS7) ?_
      clear hK' K'
      change wpAnyX Try.prog .any _ _ _ _ 2 _ (amAct _ _ _ _ _ _ _ _ _ _ _ (.pointer (some ⟨M, 0, none⟩)) (.slice (some ⟨ga, 0, none⟩) m cap) (.pointer (some ⟨B, 0, none⟩)) (.pointer (some ⟨M, 0, none⟩)) (.slice (some ⟨ga, 0, none⟩) m cap) (.int .i64 m) (.int .i64 i) (.pointer (some ⟨B, 0, none⟩)) (.slice (some ⟨w5.heap.size, 0, none⟩) 3 3) (.int .i64 z) _ _ _ _ _ _ _ _ _ _ _ _ _ _ _ _ _ _ _ _ _ _ _ _) w7
      refine wpAnyX_take (i := 10) (v := .pointer (some ⟨ga, i, none⟩)) rfl (by kernel_rfl) (by kernel_rfl) (by kernel_rfl) (by kernel_rfl) (fun _ _ _ h => h) (.inl ⟨rfl, fun w' hw' => exec_index rfl rfl rfl (index0_ints _ _ _ _ _ hi)⟩) hS7 ?_
      change wpAnyX Try.prog .any _ _ _ _ 1 _ (amAct _ _ _ _ _ _ _ _ _ _ _ (.pointer (some ⟨M, 0, none⟩)) (.slice (some ⟨ga, 0, none⟩) m cap) (.pointer (some ⟨B, 0, none⟩)) (.pointer (some ⟨M, 0, none⟩)) (.slice (some ⟨ga, 0, none⟩) m cap) (.int .i64 m) (.int .i64 i) (.pointer (some ⟨B, 0, none⟩)) (.slice (some ⟨w5.heap.size, 0, none⟩) 3 3) (.int .i64 z) (.pointer (some ⟨ga, i, none⟩)) _ _ _ _ _ _ _ _ _ _ _ _ _ _ _ _ _ _ _ _ _ _ _) w7
      refine wpAnyX_one (i := 11) (by kernel_rfl) rfl (fun K' hK' => ?_)
      have hi2 : i < ds.length := by have := HDL.out; omega
      have ho7 : w7.ownsRow w.heap.size 3 1 (.slice (some ⟨ga, 0, none⟩) m cap) m (ds.map (Value.int .i64)) := by have := hL7.o1; rw [HDL.out] at this; exact this
      have hc7 := hL7.o1.cells (g := ga) rfl i (.int .i64 (ds[i]?.getD 0)) (by simp [hi2])
      rw [addr_add, Nat.zero_add] at hc7
      refine step_skip _ (w7.setCell ⟨ga, i, none⟩ (.int .i64 z)) rfl (exec_store rfl rfl rfl (store_int w7 ga i _ z hc7 (ho7.frozenAt i))) ?_
      refine hK'.out _ _ (fun h => by cases h) ?_
      clear hK' K'
      change wpAnyX Try.prog .any _ _ _ _ 0 _ (amAct _ _ _ _ _ _ _ _ _ _ _ (.pointer (some ⟨M, 0, none⟩)) (.slice (some ⟨ga, 0, none⟩) m cap) (.pointer (some ⟨B, 0, none⟩)) (.pointer (some ⟨M, 0, none⟩)) (.slice (some ⟨ga, 0, none⟩) m cap) (.int .i64 m) (.int .i64 i) (.pointer (some ⟨B, 0, none⟩)) (.slice (some ⟨w5.heap.size, 0, none⟩) 3 3) (.int .i64 z) (.pointer (some ⟨ga, i, none⟩)) _ _ _ _ _ _ _ _ _ _ _ _ _ _ _ _ _ _ _ _ _ _ _) (w7.setCell ⟨ga, i, none⟩ (.int .i64 z))
      refine wpAnyX_done (by kernel_rfl) ?_ _
      unfold amAct
      have HL8 := Lib.hid (MS.setD (z := z) HK.out hL7 hi2)
      clear hL0 hLw5 hSw5 hLV hSV q1 hcc hLB r5 d5 r7 d7 ev7 ev hL7 hS7 hc7 ho7 hz hiz HL4 hS HS
      have HFIN := Lib.hid (modDn_fin (p := p) (s := 600) HK.out HL8.out (by rw [List.length_set]; have := HDL.out; omega) (by rw [List.length_set]; have := HDL.out; omega) (by have := HXL.out; omega) (by omega) (by omega))
      obtain ⟨p0, p1⟩ := HL8.out.bm.cell
      obtain ⟨o0, o1⟩ := HL8.out.br.cell
      obtain ⟨f0, f1⟩ := HL8.out.br.frozen
      have HQ := Lib.hid (putM_blk HL8.out.br (.slice (some ⟨ga, 0, none⟩) m cap) (.slice ub mb cb)).cell
      clear HL8
      go_wp2
      have hq := HQ.out
      simp only [putM] at hq
      obtain ⟨q0, q1⟩ := hq
      refine bodyPost_ret (v := .agg #[.slice (some ⟨ga, 0, none⟩) m cap, .slice ub mb cb]) (by simp [results, Try.results114, go_sem, q0, q1]) rfl ?_
      exact HFIN.out
    · refine step_value _ (w4.drew.alloc (.cells #[.int .i64 (-1), .int .i64 64, .int .i64 0] 3)) rfl _ (m_exec3 rfl rfl rfl rfl (m_build3 _)) ?_
      have hLV := hL0.below HK.out ((Below.refl w4.drew.heap.size w4.drew).alloc (Nat.le_refl _) (.cells #[.int .i64 (-1), .int .i64 64, .int .i64 0] 3))
      have hSV : (w4.drew.alloc (.cells #[.int .i64 (-1), .int .i64 64, .int .i64 0] 3)).cell? ⟨M, 0, none⟩ = some (.slice (some ⟨ga, 0, none⟩) m cap) := hLV.bm.cell.1
      have q1 : (w4.drew.alloc (.cells #[.int .i64 (-1), .int .i64 64, .int .i64 0] 3)).heap[w4.drew.heap.size]? = some (.cells #[.int .i64 (-1), .int .i64 64, .int .i64 0] 3) := World.alloc_heap_new _ _
      refine hK'.out _ _ (fun _ => hSV) ?_
      clear hK' K'
      change wpAnyX Try.prog .any _ _ _ _ 4 _ (amAct _ _ _ _ _ _ _ _ _ _ _ (.pointer (some ⟨M, 0, none⟩)) (.slice (some ⟨ga, 0, none⟩) m cap) (.pointer (some ⟨B, 0, none⟩)) (.pointer (some ⟨M, 0, none⟩)) (.slice (some ⟨ga, 0, none⟩) m cap) (.int .i64 m) _ (.pointer (some ⟨B, 0, none⟩)) (.slice (some ⟨w4.drew.heap.size, 0, none⟩) 3 3) _ _ _ _ _ _ _ _ _ _ _ _ _ _ _ _ _ _ _ _ _ _ _ _ _) (w4.drew.alloc (.cells #[.int .i64 (-1), .int .i64 64, .int .i64 0] 3))
      refine wpAnyX_one (i := 6) (by kernel_rfl) rfl (fun K' hK' => ?_)
      refine k_call2 _ rfl 125 _ _ _ _ _ rfl rfl rfl (enters_of Try.func125 (by kernel_rfl) rfl) _ (pick_dn n0 B (p2 + 1) m (w4.drew.alloc (.cells #[.int .i64 (-1), .int .i64 64, .int .i64 0] 3)) hLV.rd (by omega) (by omega) (by omega)) (fun c w' h => by obtain ⟨_, h, _⟩ := h; cases h) (fun w' h => by obtain ⟨_, h, _⟩ := h; cases h) ?_
      rintro vz w5 ⟨z1, ev, hz0, hz1, r5, d5⟩
      obtain ⟨i, rfl⟩ := Int.eq_ofNat_of_zero_le hz0
      have hi : i < m := by omega
      obtain rfl : vz = .int .i64 i := by injection ev
      have hLw5 := hLV.dnStep HK.out d5 r5
      have hSw5 : w5.cell? ⟨M, 0, none⟩ = some (.slice (some ⟨ga, 0, none⟩) m cap) := hLw5.bm.cell.1
      refine hK'.out _ _ (fun _ => hSw5) ?_
      clear hK' K'
      change wpAnyX Try.prog .any _ _ _ _ 3 _ (amAct _ _ _ _ _ _ _ _ _ _ _ (.pointer (some ⟨M, 0, none⟩)) (.slice (some ⟨ga, 0, none⟩) m cap) (.pointer (some ⟨B, 0, none⟩)) (.pointer (some ⟨M, 0, none⟩)) (.slice (some ⟨ga, 0, none⟩) m cap) (.int .i64 m) (.int .i64 i) (.pointer (some ⟨B, 0, none⟩)) (.slice (some ⟨w4.drew.heap.size, 0, none⟩) 3 3) _ _ _ _ _ _ _ _ _ _ _ _ _ _ _ _ _ _ _ _ _ _ _ _ _) w5
      refine wpAnyX_one (i := 9) (by kernel_rfl) rfl (fun K' hK' => ?_)
      have hLB : w4.drew.heap.size ≠ B := by have := hL0.rd.lt; omega
      have hkq := d5.block w4.drew.heap.size (by simp) hLB
      have hcc : ∀ i, i < 3 → w5.cell? ⟨w4.drew.heap.size, i, none⟩ = some (.int .i64 (([-1, 64, 0] : List Int)[i]?.getD 0)) := fun i hi => by simp only [World.cell?, hkq, q1]; rcases (show i = 0 ∨ i = 1 ∨ i = 2 by omega) with rfl | rfl | rfl <;> rfl
      refine k_call2 _ rfl 153 _ _ _ _ _ rfl rfl rfl (enters_of Try.func153 (by kernel_rfl) rfl) _ (one_dn n0 B w4.drew.heap.size 3 (p2 + 1 + 1) (fun i => ([-1, 64, 0] : List Int)[i]?.getD 0) w5 hLw5.rd (by omega) (by omega) (by omega) (by omega) hLB hcc) (fun c w' h => by obtain ⟨_, _, h, _⟩ := h; cases h) (fun w' h => by obtain ⟨_, _, h, _⟩ := h; cases h) ?_
      rintro vz w7 ⟨iz, hiz, ev7, r7, d7⟩
      obtain ⟨z, hz⟩ : ∃ z, z = ([-1, 64, 0] : List Int)[iz]?.getD 0 := ⟨_, rfl⟩
      obtain rfl : vz = .int .i64 z := by rw [hz]; injection ev7
      have hL7 := hLw5.dnStep HK.out d7 r7
      have hS7 : w7.cell? ⟨M, 0, none⟩ = some (.slice (some ⟨ga, 0, none⟩) m cap) := hL7.bm.cell.1
      refine hK'.out _ _ (fun _ => hS7) ?_
      clear hK' K'
      change wpAnyX Try.prog .any _ _ _ _ 2 _ (amAct _ _ _ _ _ _ _ _ _ _ _ (.pointer (some ⟨M, 0, none⟩)) (.slice (some ⟨ga, 0, none⟩) m cap) (.pointer (some ⟨B, 0, none⟩)) (.pointer (some ⟨M, 0, none⟩)) (.slice (some ⟨ga, 0, none⟩) m cap) (.int .i64 m) (.int .i64 i) (.pointer (some ⟨B, 0, none⟩)) (.slice (some ⟨w4.drew.heap.size, 0, none⟩) 3 3) (.int .i64 z) _ _ _ _ _ _ _ _ _ _ _ _ _ _ _ _ _ _ _ _ _ _ _ _) w7
      refine wpAnyX_take (i := 10) (v := .pointer (some ⟨ga, i, none⟩)) rfl (by kernel_rfl) (by kernel_rfl) (by kernel_rfl) (by kernel_rfl) (fun _ _ _ h => h) (.inl ⟨rfl, fun w' hw' => exec_index rfl rfl rfl (index0_ints _ _ _ _ _ hi)⟩) hS7 ?_
      change wpAnyX Try.prog .any _ _ _ _ 1 _ (amAct _ _ _ _ _ _ _ _ _ _ _ (.pointer (some ⟨M, 0, none⟩)) (.slice (some ⟨ga, 0, none⟩) m cap) (.pointer (some ⟨B, 0, none⟩)) (.pointer (some ⟨M, 0, none⟩)) (.slice (some ⟨ga, 0, none⟩) m cap) (.int .i64 m) (.int .i64 i) (.pointer (some ⟨B, 0, none⟩)) (.slice (some ⟨w4.drew.heap.size, 0, none⟩) 3 3) (.int .i64 z) (.pointer (some ⟨ga, i, none⟩)) _ _ _ _ _ _ _ _ _ _ _ _ _ _ _ _ _ _ _ _ _ _ _) w7
      refine wpAnyX_one (i := 11) (by kernel_rfl) rfl (fun K' hK' => ?_)
      have hi2 : i < ds.length := by have := HDL.out; omega
      have ho7 : w7.ownsRow w.heap.size 3 1 (.slice (some ⟨ga, 0, none⟩) m cap) m (ds.map (Value.int .i64)) := by have := hL7.o1; rw [HDL.out] at this; exact this
      have hc7 := hL7.o1.cells (g := ga) rfl i (.int .i64 (ds[i]?.getD 0)) (by simp [hi2])
      rw [addr_add, Nat.zero_add] at hc7
      refine step_skip _ (w7.setCell ⟨ga, i, none⟩ (.int .i64 z)) rfl (exec_store rfl rfl rfl (store_int w7 ga i _ z hc7 (ho7.frozenAt i))) ?_
      refine hK'.out _ _ (fun h => by cases h) ?_
      clear hK' K'
      change wpAnyX Try.prog .any _ _ _ _ 0 _ (amAct _ _ _ _ _ _ _ _ _ _ _ (.pointer (some ⟨M, 0, none⟩)) (.slice (some ⟨ga, 0, none⟩) m cap) (.pointer (some ⟨B, 0, none⟩)) (.pointer (some ⟨M, 0, none⟩)) (.slice (some ⟨ga, 0, none⟩) m cap) (.int .i64 m) (.int .i64 i) (.pointer (some ⟨B, 0, none⟩)) (.slice (some ⟨w4.drew.heap.size, 0, none⟩) 3 3) (.int .i64 z) (.pointer (some ⟨ga, i, none⟩)) _ _ _ _ _ _ _ _ _ _ _ _ _ _ _ _ _ _ _ _ _ _ _) (w7.setCell ⟨ga, i, none⟩ (.int .i64 z))
      refine wpAnyX_done (by kernel_rfl) ?_ _
      unfold amAct
      have HL8 := Lib.hid (MS.setD (z := z) HK.out hL7 hi2)
      clear hL0 hLw5 hSw5 hLV hSV q1 hcc hLB r5 d5 r7 d7 ev7 ev hL7 hS7 hc7 ho7 hz hiz HL4 hS HS
      have HFIN := Lib.hid (modDn_fin (p := p) (s := 600) HK.out HL8.out (by rw [List.length_set]; have := HDL.out; omega) (by rw [List.length_set]; have := HDL.out; omega) (by have := HXL.out; omega) (by omega) (by omega))
      obtain ⟨p0, p1⟩ := HL8.out.bm.cell
      obtain ⟨o0, o1⟩ := HL8.out.br.cell
      obtain ⟨f0, f1⟩ := HL8.out.br.frozen
      have HQ := Lib.hid (putM_blk HL8.out.br (.slice (some ⟨ga, 0, none⟩) m cap) (.slice ub mb cb)).cell
      clear HL8
      go_wp2
      have hq := HQ.out
      simp only [putM] at hq
      obtain ⟨q0, q1⟩ := hq
      refine bodyPost_ret (v := .agg #[.slice (some ⟨ga, 0, none⟩) m cap, .slice ub mb cb]) (by simp [results, Try.results114, go_sem, q0, q1]) rfl ?_
      exact HFIN.out
end Go.Proofs.Ytjdbfiiaadphhaa
