/- The law of promise 12: the order of the constraints does not matter. -/
import Derived.Test.YtjdbfiiaadphhaaLwM
namespace Go.Proofs.Ytjdbfiiaadphhaa
open Go.ChangeShapes Go.WideShapes Go.ChangeAt Go.RowKit Go.Deep Go.Shelf
set_option linter.unusedVariables false
set_option linter.unusedSimpArgs false

def poAct (z0 z1 z2 z3 z4 z5 z6 z7 z8 z9 z10 z11 z12 z13 z14 z15 z16 z17 z18 z19 z20 z21 z22 z23 z24 z25 z26 z27 z28 z29 z30 z31 z32 z33 z34 z35 z36 z37 z38 z39 z40 z41 z42 z43 z44 z45 z46 z47 z48 z49 z50 z51 z52 : Value) : Act := { tmps := #[z0, z1, z2, z3, z4, z5, z6, z7, z8, z9, z10, z11, z12, z13, z14, z15, z16, z17, z18, z19, z20, z21, z22, z23, z24, z25, z26, z27, z28, z29, z30, z31, z32, z33, z34, z35, z36, z37, z38, z39, z40, z41, z42, z43, z44, z45, z46, z47, z48, z49, z50, z51, z52], defers := [] }
theorem m_indexO (w : World) (b off n c j : Nat) (hj : j < n) : (Instr.indexAt 66 (.slice (some ⟨b, off, none⟩) n c) (.int .i64 j)).run Try.prog w = .ok (.pointer (some ⟨b, off + j * 5, none⟩)) w := by
  go_simp
/-- A list of constraints that grows beside what was there: the model's box is D. -/
structure LO (w4 : World) (D : Nat) (u1 : Value) (W : World) (u : Value) (xs : List CE) : Prop where
  bx : Blk2 W D 68 u1 u
  own : W.ownsRow (D + 1) 53 5 u xs.length (cellsE xs)
  low : Below w4.heap.size w4 W
  eD : D = w4.heap.size
theorem LO.below {w4 W W' : World} {D : Nat} {u1 u : Value} {xs : List CE} (h : LO w4 D u1 W u xs) (hb : Below W.heap.size W W') : LO w4 D u1 W' u xs :=
  ⟨h.bx.below hb, own_keepB h.own (fun b hb' => hb.block b (h.own.lt b hb').2), h.low.trans (hb.mono h.low.size), h.eD⟩
theorem LO.grow {w4 W V : World} {D : Nat} {u1 u : Value} {xs : List CE} (h : LO w4 D u1 W u xs) (hg : W.grownBy V u.ownBlock) : Blk2 V D 68 u1 u ∧ Below w4.heap.size w4 V :=
  ⟨(hg.block D h.bx.lt (fun e => by have := (h.own.lt D e.symm).1; omega)).trans h.bx, h.low.grown hg h.low.size (fun k e => by have := (h.own.lt k e).1; have := h.eD; omega)⟩
theorem LO.push {w4 V : World} {D : Nat} {u1 u u' : Value} {xs : List CE} {x : CE} {m' : Nat} (hD : D = w4.heap.size) (h1 : Blk2 V D 68 u1 u) (h2 : Below w4.heap.size w4 V) (hown : V.ownsRow (D + 1) 53 5 u' m' (cellsE xs ++ cellsE [x])) (hm : m' = xs.length + 1) : LO w4 D u1 (V.setCell ⟨D, 1, none⟩ u') u' (xs ++ [x]) := by
  subst hm
  refine ⟨h1.set 1 _, ?_, h2.setCell (p := ⟨D, 1, none⟩) (by show _ ≤ D; omega) _, hD⟩
  rw [List.length_append, cellsE_append]
  exact own_keepB hown (fun b hb => Below.heap_setCell _ _ _ _ (by show b ≠ D; have := (hown.lt b hb).1; omega))
/-- Constraints whose slices read in w. -/
def EltRd (w : World) (x : CE) : Prop := RdInts w x.v x.c.vars ∧ RdInts w x.a x.c.args ∧ RdRows w x.r x.c.rows
theorem elts_rd {W : World} {base : Nat} {u2 : Value} {xs : List CE} (h : W.ownsRow base 53 5 u2 xs.length (cellsE xs)) (hk : ∀ x ∈ xs, EltRd W x) : RdCons W u2 (xs.map CE.c) := by
  rcases h.2 with ⟨rfl, h0⟩ | ⟨g, cap, cur, rfl, hb, hg, hc, hm, _⟩
  · rw [List.eq_nil_of_length_eq_zero h0]
    exact ⟨none, 0, rfl, Nat.le_refl _, by decide, .inl rfl⟩
  · refine ⟨some ⟨g, 0, none⟩, cap, by rw [List.length_map], by rw [List.length_map]; exact hc, hm, .inr ⟨g, 0, rfl, fun i c hi => ?_⟩⟩
    rw [List.getElem?_map] at hi
    obtain ⟨x, hx, rfl⟩ := Option.map_eq_some_iff.1 hi
    obtain ⟨t0, t1, t2, t3, t4⟩ := cellsE_at xs i x hx
    obtain ⟨k1, k2, k4⟩ := hk x (List.mem_of_getElem? hx)
    have kk : ∀ q u, (cellsE xs)[q]? = some u → W.cell? ⟨g, q, none⟩ = some u := fun q u hu => by
      have := h.cells (g := g) rfl q u hu
      rw [addr_add, Nat.zero_add] at this
      exact this
    refine ⟨x.v, x.a, x.r, ?_, ?_, ?_, ?_, ?_, k1, k2, k4⟩
    · rw [show 0 + 5 * i = i * 5 from by omega]; exact kk _ _ t0
    · rw [show 0 + 5 * i + 1 = i * 5 + 1 from by omega]; exact kk _ _ t1
    · rw [show 0 + 5 * i + 2 = i * 5 + 2 from by omega]; exact kk _ _ t2
    · rw [show 0 + 5 * i + 3 = i * 5 + 3 from by omega]; exact kk _ _ t3
    · rw [show 0 + 5 * i + 4 = i * 5 + 4 from by omega]; exact kk _ _ t4
theorem drop_rev {cs : List Con} {k : Nat} {c : Con} (h : cs[k]? = some c) : (cs.drop k).reverse = (cs.drop (k + 1)).reverse ++ [c] := by
  have hk := (List.getElem?_eq_some_iff.1 h).1
  rw [List.drop_eq_getElem_cons hk, List.reverse_cons]
  rw [List.getElem?_eq_getElem hk] at h
  rw [Option.some.inj h]

set_option maxRecDepth 100000 in
set_option maxHeartbeats 32000000 in
theorem law_por (a : Option Addr) (len cap : Nat) (w : World) (h : CodeOk w.heap.size w a len cap) :
    Calls Try.prog 13 #[.slice a len cap] w fun e w' => e = .returned (.bool true) ∧ Below w.heap.size w w' := by
  have hl0 := h.1
  have hm0 := h.2.1
  unfold maxLen at hm0
  have HK := Lib.hid h
  clear h
  by_cases hbig : 1048576 < len
  · go_enter Try.func13, Try.ntmps13
    go_wp2
    go_ret
    exact ⟨rfl, Below.refl _ _⟩
  go_enter Try.func13, Try.ntmps13
  go_wp2_with fail
  refine (drawPro_any a len cap w HK.out).mono ?_
  rintro e w1 ⟨u1, u2, m, rfl, r1, r2, hle, h1, h4, h6, b1⟩
  obtain ⟨a1, c1, e1, hc1, hc1', -⟩ := id r1
  obtain ⟨a2, c2, e2, hc2, hc2', -⟩ := id r2
  obtain ⟨n1, hn1⟩ : ∃ n, n = m.doms.length := ⟨_, rfl⟩
  obtain ⟨n2, hn2⟩ : ∃ n, n = m.cons.length := ⟨_, rfl⟩
  unfold maxLen at hc1' hc2'
  rw [← hn1] at e1 hc1
  rw [← hn2] at e2 hc2
  subst e1 e2
  obtain ⟨C, hCe⟩ : ∃ C, C = w1.heap.size := ⟨_, rfl⟩
  obtain ⟨Wk, hWk⟩ : ∃ Wk, w1.alloc (.cells #[.slice a1 n1 c1, .slice a2 n2 c2] 68) = Wk := ⟨_, rfl⟩
  have hbw : Below w1.heap.size w1 Wk := by rw [← hWk]; exact (Below.refl _ _).alloc (Nat.le_refl _) _
  have hbk : Blk2 Wk C 68 (.slice a1 n1 c1) (.slice a2 n2 c2) := by rw [← hWk, hCe]; exact Blk2.new w1 _ _ _
  have hrm : RdModel w1 (.agg #[.slice a1 n1 c1, .slice a2 n2 c2]) m := ⟨_, _, rfl, r1, r2⟩
  obtain ⟨mv, hmv⟩ : ∃ mv, mv = Value.agg #[.slice a1 n1 c1, .slice a2 n2 c2] := ⟨_, rfl⟩
  rw [← hmv] at hrm
  obtain ⟨fl, hfl⟩ : ∃ fl, fl = proM m := ⟨_, rfl⟩
  obtain ⟨n, hn⟩ : ∃ n, n = fl.length := ⟨_, rfl⟩
  have hle2 : ModLe m 1048576 := ⟨by have := hle.1; omega, by have := hle.2.1; omega, fun j c hj => (hle.2.2 j c hj).mono (by omega)⟩
  have HI : Hid (∀ W, RdModel W mv m → Calls Try.prog 54 #[.agg #[.slice a1 n1 c1, .slice a2 n2 c2]] W (SlPost fl n W)) :=
    Lib.hid (fun W x1 => by rw [← hmv]; exact (iPropagate_any m mv W x1 hle2).mono (fun e W' hp => slPost_of hn (by rw [hfl]; exact hp)))
  have HS : Hid (∀ W, RdModel W mv m → Calls Try.prog 56 #[.agg #[.slice a1 n1 c1, .slice a2 n2 c2]] W (SlPost fl n W)) :=
    Lib.hid (fun W x1 => by rw [← hmv]; exact (sPropagate_any m mv W x1 hle2).mono (fun e W' hp => slPost_of hn (by rw [hfl]; exact hp)))
  have HV : Hid (n ≠ 0 → vmB m = true) := Lib.hid (fun h => vmB_of_len (by rw [← hfl, ← hn]; exact h))
  have HI2 : Hid (∀ W a6 n6 c6, RdInts W (.slice a1 n1 c1) m.doms → RdCons W (.slice a6 n6 c6) m.cons.reverse → Calls Try.prog 54 #[.agg #[.slice a1 n1 c1, .slice a6 n6 c6]] W (SlPost fl n W)) :=
    Lib.hid (fun W a6 n6 c6 x1 x2 => by
      have hid : proM ⟨m.doms, m.cons.reverse⟩ = fl := by rw [hfl]; exact pro_rev m
      exact (iPropagate_any ⟨m.doms, m.cons.reverse⟩ _ W ⟨_, _, rfl, x1, x2⟩ ⟨hle2.1, by show m.cons.reverse.length ≤ _; rw [List.length_reverse]; exact hle2.2.1, fun j c hj => by
        obtain ⟨i, hi⟩ := List.mem_iff_getElem?.1 (List.mem_reverse.1 (List.mem_of_getElem? hj))
        exact hle2.2.2 i c hi⟩).mono (fun e W' hp => slPost_of hn (by rw [hid] at hp; exact hp)))
  have HN2 := Lib.hid hn2
  have hn6 : n2 ≤ 6 := by omega
  have HBK := Lib.hid hbk
  have HRM := Lib.hid (hrm.below hbw)
  have HD1 := Lib.hid (r1.below hbw)
  have HD2 := Lib.hid (r2.below hbw)
  have HB := Lib.hid (b1.trans (hbw.mono b1.size))
  have HWK := Lib.hid hWk
  have HCE := Lib.hid hCe
  clear r1 r2 hle h1 h4 h6 b1 hn1 hn2 hCe hWk hbw hbk hrm hmv hfl hn hle2
  have hcell := HBK.out.cell
  rw [HCE.out] at hcell
  obtain ⟨p0, p1⟩ := hcell
  go_wp2_with (rw [HWK.out])
  rw [← HCE.out]
  clear HWK
  refine (HI.out Wk HRM.out).mono ?_
  rintro e w2 ⟨ao, co, rfl, hco, hco', ro, b2⟩
  clear p0 p1 HCE
  have HO2 := Lib.hid ro
  have HBK2 := Lib.hid (HBK.out.below b2)
  have HRM2 := Lib.hid (HRM.out.below b2)
  have HD12 := Lib.hid (HD1.out.below b2)
  have HD22 := Lib.hid (HD2.out.below b2)
  have HB2 := Lib.hid (HB.out.trans (b2.mono HB.out.size))
  obtain ⟨p0, p1⟩ := HBK2.out.cell
  clear ro b2 HBK HRM HB HD1 HD2
  go_wp2_with fail
  refine (HS.out w2 HRM2.out).mono ?_
  rintro e w3 ⟨a6, c6, rfl, hc6, hc6', r6, b3⟩
  clear p0 p1
  have HO3 := Lib.hid (HO2.out.below b3)
  have HR6 := Lib.hid r6
  have HBK3 := Lib.hid (HBK2.out.below b3)
  have HRM3 := Lib.hid (HRM2.out.below b3)
  have HD13 := Lib.hid (HD12.out.below b3)
  have HD23 := Lib.hid (HD22.out.below b3)
  have HB3 := Lib.hid (HB2.out.trans (b3.mono HB2.out.size))
  clear r6 b3 HO2 HBK2 HRM2 HB2 HD12 HD22
  go_wp2_with fail
  refine (eqI_true w3 _ _ fl HO3.out HR6.out).mono ?_
  rintro e w4 ⟨rfl, b4⟩
  have HO4 := Lib.hid (HO3.out.below b4)
  have HBK4 := Lib.hid (HBK3.out.below b4)
  have HRM4 := Lib.hid (HRM3.out.below b4)
  have HD14 := Lib.hid (HD13.out.below b4)
  have HD24 := Lib.hid (HD23.out.below b4)
  have HB4 := Lib.hid (HB3.out.trans (b4.mono HB3.out.size))
  obtain ⟨p0, p1⟩ := HBK4.out.cell
  clear b4 HO3 HR6 HBK3 HRM3 HB3 HD13 HD23 hc6 hc6'
  by_cases hz : n = 0
  · have hz1 : ((n : Int) == 0) = true := by rw [hz]; rfl
    clear hz
    go_wp2_with fail
    refine (HS.out w4 HRM4.out).mono ?_
    rintro e w5 ⟨a7, c7, rfl, hc7, hc7', r7, b5⟩
    clear p0 p1
    have HO5 := Lib.hid (HO4.out.below b5)
    have HR7 := Lib.hid r7
    have HB5 := Lib.hid (HB4.out.trans (b5.mono HB4.out.size))
    clear r7 b5 HO4 HBK4 HRM4 HB4
    go_wp2_with fail
    refine (eqI_true w5 _ _ fl HO5.out HR7.out).mono ?_
    rintro e w6 ⟨rfl, b6⟩
    have HB6 := Lib.hid (HB5.out.trans (b6.mono HB5.out.size))
    clear b6 HO5 HR7 HB5
    go_wp2
    go_ret
    exact ⟨rfl, HB6.out⟩
  · have hz1 : ((n : Int) == 0) = false := by simp; omega
    obtain ⟨D, hDe⟩ : ∃ D, D = w4.heap.size := ⟨_, rfl⟩
    obtain ⟨Wm, hWm⟩ : ∃ Wm, w4.alloc (.cells #[.slice a1 n1 c1, .slice none 0 0] 68) = Wm := ⟨_, rfl⟩
    have hbm : Below w4.heap.size w4 Wm := by rw [← hWm]; exact (Below.refl _ _).alloc (Nat.le_refl _) _
    have HL0 : Hid (LO w4 D (.slice a1 n1 c1) Wm (.slice none 0 0) []) := Lib.hid ⟨by rw [← hWm, hDe]; exact Blk2.new w4 _ _ _, ⟨rfl, .inl ⟨rfl, rfl⟩⟩, hbm, hDe⟩
    have HWM := Lib.hid hWm
    have HDE := Lib.hid hDe
    obtain ⟨y0, y1⟩ := (HBK4.out.below hbm).cell
    clear hz hDe hWm hbm HRM4
    go_wp2_with (rw [HWM.out])
    rw [← HDE.out]
    clear HWM p0 p1 y0 y1
    go_loopw [6] (fun i wr => ∃ (j mb : Nat) (i' : Int) (ub : Option Addr) (cb : Nat) (xs : List CE), i = .int .i64 i' ∧ Hid (i' = (j : Int) - 1) ∧ mb + j = n2 ∧ Hid (xs.length = mb) ∧ Hid (xs.map CE.c = (m.cons.drop j).reverse) ∧ Hid (∀ x ∈ xs, EltRd w4 x) ∧ Hid (LO w4 D (.slice a1 n1 c1) wr (.slice ub mb cb) xs)) (fun i _ => (intOf i + 1).toNat)
    case atStart => exact ⟨n2, 0, _, none, 0, [], rfl, Lib.hid rfl, by omega, Lib.hid rfl, Lib.hid (by rw [HN2.out, List.drop_length]; rfl), Lib.hid (fun x hx => by cases hx), HL0⟩
    case round =>
      obtain ⟨j, mb, i', ub, cb, xs, rfl, HI', hmj, HXL, HXM, HXE, HL⟩ := hrel
      by_cases hj : 0 < j
      · obtain ⟨k, rfl⟩ : ∃ k, j = k + 1 := ⟨j - 1, by omega⟩
        have hi' : i' = (k : Int) := by have := HI'.out; omega
        subst hi'
        have hkn : k < n2 := by omega
        obtain ⟨b2, off2, c, x1, x2, x4, y1, y2, y4, e2, hck, k0, k1, k2, k3, k4, hr⟩ := rdCons_at HD24.out hkn
        subst e2
        obtain ⟨kd, hkd⟩ : ∃ kd, kd = c.kind := ⟨_, rfl⟩
        obtain ⟨bd, hbd⟩ : ∃ bd, bd = c.bound := ⟨_, rfl⟩
        obtain ⟨m1, hm1⟩ : ∃ n, n = c.vars.length := ⟨_, rfl⟩
        obtain ⟨m2, hm2⟩ : ∃ n, n = c.args.length := ⟨_, rfl⟩
        obtain ⟨m4, hm4⟩ : ∃ n, n = c.rows.length := ⟨_, rfl⟩
        rw [← hkd] at k0 hr
        rw [← hm1] at k1 hr
        rw [← hm2] at k2 hr
        rw [← hbd] at k3 hr
        rw [← hm4] at k4 hr
        have HXK : Hid (EltRd w4 ⟨c, .slice x1 m1 y1, .slice x2 m2 y2, .slice x4 m4 y4⟩) := Lib.hid (by
          obtain ⟨v1, v2, v4, ev, g1, g2, g4⟩ := hr
          simp at ev
          obtain ⟨-, rfl, rfl, -, rfl⟩ := ev
          exact ⟨g1, g2, g4⟩)
        have HSO2 : Hid (∀ W, Blk2 W D 68 (.slice a1 n1 c1) (.slice ub mb cb) → Below w4.heap.size w4 W → (W.cell? ⟨D, 1, none⟩ = some (.slice ub mb cb) ∧ W.cell? ⟨C, 1, none⟩ = some (.slice (some ⟨b2, off2, none⟩) n2 c2) ∧ W.cell? ⟨b2, off2 + k * 5, none⟩ = some (.int .i64 kd) ∧ W.cell? ⟨b2, off2 + k * 5 + 1, none⟩ = some (.slice x1 m1 y1) ∧ W.cell? ⟨b2, off2 + k * 5 + 2, none⟩ = some (.slice x2 m2 y2) ∧ W.cell? ⟨b2, off2 + k * 5 + 3, none⟩ = some (.int .i64 bd) ∧ W.cell? ⟨b2, off2 + k * 5 + 4, none⟩ = some (.slice x4 m4 y4))) := Lib.hid (fun W h1 h2 => by
          have kk : ∀ (p : Addr) (v : Value), w4.cell? p = some v → W.cell? p = some v := fun p v hp => (h2.cell (World.block_lt_of_cell? w4 _ hp)).trans hp
          exact ⟨h1.cell.2, kk _ _ HBK4.out.cell.2, kk _ _ k0, kk _ _ k1, kk _ _ k2, kk _ _ k3, kk _ _ k4⟩)
        have HSO : Hid (∀ W, LO w4 D (.slice a1 n1 c1) W (.slice ub mb cb) xs → (W.cell? ⟨D, 1, none⟩ = some (.slice ub mb cb) ∧ W.cell? ⟨C, 1, none⟩ = some (.slice (some ⟨b2, off2, none⟩) n2 c2) ∧ W.cell? ⟨b2, off2 + k * 5, none⟩ = some (.int .i64 kd) ∧ W.cell? ⟨b2, off2 + k * 5 + 1, none⟩ = some (.slice x1 m1 y1) ∧ W.cell? ⟨b2, off2 + k * 5 + 2, none⟩ = some (.slice x2 m2 y2) ∧ W.cell? ⟨b2, off2 + k * 5 + 3, none⟩ = some (.int .i64 bd) ∧ W.cell? ⟨b2, off2 + k * 5 + 4, none⟩ = some (.slice x4 m4 y4))) := Lib.hid (fun W h => HSO2.out W h.bx h.low)
        have HS0 : Hid ((wr.drew.cell? ⟨D, 1, none⟩ = some (.slice ub mb cb) ∧ wr.drew.cell? ⟨C, 1, none⟩ = some (.slice (some ⟨b2, off2, none⟩) n2 c2) ∧ wr.drew.cell? ⟨b2, off2 + k * 5, none⟩ = some (.int .i64 kd) ∧ wr.drew.cell? ⟨b2, off2 + k * 5 + 1, none⟩ = some (.slice x1 m1 y1) ∧ wr.drew.cell? ⟨b2, off2 + k * 5 + 2, none⟩ = some (.slice x2 m2 y2) ∧ wr.drew.cell? ⟨b2, off2 + k * 5 + 3, none⟩ = some (.int .i64 bd) ∧ wr.drew.cell? ⟨b2, off2 + k * 5 + 4, none⟩ = some (.slice x4 m4 y4))) := Lib.hid (HSO.out _ (HL.out.below (Below.refl _ wr).drew))
        have HXC : Hid (c.kind = kd ∧ c.bound = bd) := Lib.hid ⟨hkd.symm, hbd.symm⟩
        have HCK := Lib.hid hck
        clear k0 k1 k2 k3 k4 hr hkd hbd hm1 hm2 hm4 hck
        go_wp2_with fail
        have hS := HS0.out
        refine region_x (fun w' => (w'.cell? ⟨D, 1, none⟩ = some (.slice ub mb cb) ∧ w'.cell? ⟨C, 1, none⟩ = some (.slice (some ⟨b2, off2, none⟩) n2 c2) ∧ w'.cell? ⟨b2, off2 + k * 5, none⟩ = some (.int .i64 kd) ∧ w'.cell? ⟨b2, off2 + k * 5 + 1, none⟩ = some (.slice x1 m1 y1) ∧ w'.cell? ⟨b2, off2 + k * 5 + 2, none⟩ = some (.slice x2 m2 y2) ∧ w'.cell? ⟨b2, off2 + k * 5 + 3, none⟩ = some (.int .i64 bd) ∧ w'.cell? ⟨b2, off2 + k * 5 + 4, none⟩ = some (.slice x4 m4 y4))) (fun i => i == 10) rfl ?_
        change wpAnyX Try.prog .any _ _ _ _ 11 _ (poAct _ _ _ _ _ _ _ _ _ _ _ _ _ _ _ _ _ _ _ _ _ _ _ _ _ _ _ _ _ _ _ _ _ _ _ _ _ _ _ _ _ _ _ _ _ _ _ _ _ _ _ _ _) wr.drew
        refine wpAnyX_take (i := 0) (v := .pointer (some ⟨D, 1, none⟩)) rfl (by kernel_rfl) (by kernel_rfl) (by kernel_rfl) (by kernel_rfl) (fun _ _ _ h => h) (.inl ⟨rfl, fun w' hw' => m_field1 rfl rfl⟩) hS ?_
        change wpAnyX Try.prog .any _ _ _ _ 10 _ (poAct _ _ _ _ _ _ _ _ _ _ _ _ _ _ _ _ _ _ _ _ _ _ _ _ _ _ _ _ _ _ _ _ _ _ _ _ _ _ _ (.pointer (some ⟨D, 1, none⟩)) _ _ _ _ _ _ _ _ _ _ _ _ _) wr.drew
        refine wpAnyX_take (i := 1) (v := .slice ub mb cb) rfl (by kernel_rfl) (by kernel_rfl) (by kernel_rfl) (by kernel_rfl) (fun _ _ _ h => h) (.inl ⟨rfl, fun w' hw' => exec_load rfl rfl (m_loadC w' _ _ _ _ _ hw'.1)⟩) hS ?_
        change wpAnyX Try.prog .any _ _ _ _ 9 _ (poAct _ _ _ _ _ _ _ _ _ _ _ _ _ _ _ _ _ _ _ _ _ _ _ _ _ _ _ _ _ _ _ _ _ _ _ _ _ _ _ (.pointer (some ⟨D, 1, none⟩)) (.slice ub mb cb) _ _ _ _ _ _ _ _ _ _ _ _) wr.drew
        refine wpAnyX_take (i := 2) (v := .pointer (some ⟨C, 1, none⟩)) rfl (by kernel_rfl) (by kernel_rfl) (by kernel_rfl) (by kernel_rfl) (fun _ _ _ h => h) (.inl ⟨rfl, fun w' hw' => m_field1 rfl rfl⟩) hS ?_
        change wpAnyX Try.prog .any _ _ _ _ 8 _ (poAct _ _ _ _ _ _ _ _ _ _ _ _ _ _ _ _ _ _ _ _ _ _ _ _ _ _ _ _ _ _ _ _ _ _ _ _ _ _ _ (.pointer (some ⟨D, 1, none⟩)) (.slice ub mb cb) (.pointer (some ⟨C, 1, none⟩)) _ _ _ _ _ _ _ _ _ _ _) wr.drew
        refine wpAnyX_take (i := 3) (v := .slice (some ⟨b2, off2, none⟩) n2 c2) rfl (by kernel_rfl) (by kernel_rfl) (by kernel_rfl) (by kernel_rfl) (fun _ _ _ h => h) (.inl ⟨rfl, fun w' hw' => exec_load rfl rfl (m_loadC w' _ _ _ _ _ hw'.2.1)⟩) hS ?_
        change wpAnyX Try.prog .any _ _ _ _ 7 _ (poAct _ _ _ _ _ _ _ _ _ _ _ _ _ _ _ _ _ _ _ _ _ _ _ _ _ _ _ _ _ _ _ _ _ _ _ _ _ _ _ (.pointer (some ⟨D, 1, none⟩)) (.slice ub mb cb) (.pointer (some ⟨C, 1, none⟩)) (.slice (some ⟨b2, off2, none⟩) n2 c2) _ _ _ _ _ _ _ _ _ _) wr.drew
        refine wpAnyX_take (i := 4) (v := .int .i64 k) rfl (by kernel_rfl) (by kernel_rfl) (by kernel_rfl) (by kernel_rfl) (fun _ _ _ h => h) (.inl ⟨rfl, fun w' hw' => rfl⟩) hS ?_
        change wpAnyX Try.prog .any _ _ _ _ 6 _ (poAct _ _ _ _ _ _ _ _ _ _ _ _ _ _ _ _ _ _ _ _ _ _ _ _ _ _ _ _ _ _ _ _ _ _ _ _ _ _ _ (.pointer (some ⟨D, 1, none⟩)) (.slice ub mb cb) (.pointer (some ⟨C, 1, none⟩)) (.slice (some ⟨b2, off2, none⟩) n2 c2) (.int .i64 k) _ _ _ _ _ _ _ _ _) wr.drew
        refine wpAnyX_take (i := 5) (v := .pointer (some ⟨b2, off2 + k * 5, none⟩)) rfl (by kernel_rfl) (by kernel_rfl) (by kernel_rfl) (by kernel_rfl) (fun _ _ _ h => h) (.inl ⟨rfl, fun w' hw' => exec_index rfl rfl rfl (m_indexO _ _ _ _ _ _ hkn)⟩) hS ?_
        change wpAnyX Try.prog .any _ _ _ _ 5 _ (poAct _ _ _ _ _ _ _ _ _ _ _ _ _ _ _ _ _ _ _ _ _ _ _ _ _ _ _ _ _ _ _ _ _ _ _ _ _ _ _ (.pointer (some ⟨D, 1, none⟩)) (.slice ub mb cb) (.pointer (some ⟨C, 1, none⟩)) (.slice (some ⟨b2, off2, none⟩) n2 c2) (.int .i64 k) (.pointer (some ⟨b2, off2 + k * 5, none⟩)) _ _ _ _ _ _ _ _) wr.drew
        refine wpAnyX_take (i := 6) (v := .agg #[.int .i64 kd, .slice x1 m1 y1, .slice x2 m2 y2, .int .i64 bd, .slice x4 m4 y4]) rfl (by kernel_rfl) (by kernel_rfl) (by kernel_rfl) (by kernel_rfl) (fun _ _ _ h => h) (.inl ⟨rfl, fun w' hw' => exec_load rfl rfl (m_loadE w' _ _ _ _ _ _ _ _ _ _ _ _ _ hw'.2.2.1 hw'.2.2.2.1 hw'.2.2.2.2.1 hw'.2.2.2.2.2.1 hw'.2.2.2.2.2.2)⟩) hS ?_
        change wpAnyX Try.prog .any _ _ _ _ 4 _ (poAct _ _ _ _ _ _ _ _ _ _ _ _ _ _ _ _ _ _ _ _ _ _ _ _ _ _ _ _ _ _ _ _ _ _ _ _ _ _ _ (.pointer (some ⟨D, 1, none⟩)) (.slice ub mb cb) (.pointer (some ⟨C, 1, none⟩)) (.slice (some ⟨b2, off2, none⟩) n2 c2) (.int .i64 k) (.pointer (some ⟨b2, off2 + k * 5, none⟩)) (.agg #[.int .i64 kd, .slice x1 m1 y1, .slice x2 m2 y2, .int .i64 bd, .slice x4 m4 y4]) _ _ _ _ _ _ _) wr.drew
        refine wpAnyX_one (i := 7) (by kernel_rfl) rfl (fun K' hK' => ?_)
        refine step_value _ (wr.drew.alloc (.cells #[.int .i64 kd, .slice x1 m1 y1, .slice x2 m2 y2, .int .i64 bd, .slice x4 m4 y4] 53)) rfl _ (k_exec1 rfl rfl (m_build1 wr.drew _ _ _ _ _ _ _ _ _ _ _)) ?_
        have bV3 : Below wr.heap.size wr (wr.drew.alloc (.cells #[.int .i64 kd, .slice x1 m1 y1, .slice x2 m2 y2, .int .i64 bd, .slice x4 m4 y4] 53)) := (Below.refl _ wr).drew.alloc (Nat.le_refl _) _
        have hL3 := HL.out.below bV3
        have hS3 := HSO.out _ hL3
        refine hK'.out _ _ (fun _ => hS3) ?_
        clear hK' K'
        change wpAnyX Try.prog .any _ _ _ _ 3 _ (poAct _ _ _ _ _ _ _ _ _ _ _ _ _ _ _ _ _ _ _ _ _ _ _ _ _ _ _ _ _ _ _ _ _ _ _ _ _ _ _ (.pointer (some ⟨D, 1, none⟩)) (.slice ub mb cb) (.pointer (some ⟨C, 1, none⟩)) (.slice (some ⟨b2, off2, none⟩) n2 c2) (.int .i64 k) (.pointer (some ⟨b2, off2 + k * 5, none⟩)) (.agg #[.int .i64 kd, .slice x1 m1 y1, .slice x2 m2 y2, .int .i64 bd, .slice x4 m4 y4]) (.slice (some ⟨wr.drew.heap.size, 0, none⟩) 1 1) _ _ _ _ _ _) (wr.drew.alloc (.cells #[.int .i64 kd, .slice x1 m1 y1, .slice x2 m2 y2, .int .i64 bd, .slice x4 m4 y4] 53))
        refine wpAnyX_one (i := 8) (by kernel_rfl) rfl (fun K' hK' => ?_)
        refine m_appendC rfl _ _ rfl (D + 1) (.slice ub mb cb) (cellsE xs) xs.length wr.drew.heap.size _ _ _ _ _ _ _ _ _ _ _ rfl rfl hL3.own (fun j u h => cells_one5 wr.drew _ _ _ _ _ _ j u h) hL3.bx.lt (by have := HXL.out; omega) ?_
        intro v6 w6 own6 grow6 at6
        obtain ⟨ua', cap', ev6, hc6, hc6'⟩ := own_form own6
        obtain ⟨m', hm'⟩ : ∃ m', m' = xs.length + 1 := ⟨_, rfl⟩
        rw [← hm'] at own6 ev6
        subst ev6
        have hL6 := hL3.grow grow6
        have hS6 := HSO2.out w6 hL6.1 hL6.2
        have hF6 : w6.frozen? ⟨D, 1, none⟩ = false := hL6.1.frozen.2
        refine hK'.out _ _ (fun _ => hS6) ?_
        clear hK' K'
        change wpAnyX Try.prog .any _ _ _ _ 2 _ (poAct _ _ _ _ _ _ _ _ _ _ _ _ _ _ _ _ _ _ _ _ _ _ _ _ _ _ _ _ _ _ _ _ _ _ _ _ _ _ _ (.pointer (some ⟨D, 1, none⟩)) (.slice ub mb cb) (.pointer (some ⟨C, 1, none⟩)) (.slice (some ⟨b2, off2, none⟩) n2 c2) (.int .i64 k) (.pointer (some ⟨b2, off2 + k * 5, none⟩)) (.agg #[.int .i64 kd, .slice x1 m1 y1, .slice x2 m2 y2, .int .i64 bd, .slice x4 m4 y4]) (.slice (some ⟨wr.drew.heap.size, 0, none⟩) 1 1) (.slice ua' m' cap') _ _ _ _ _) w6
        refine wpAnyX_take (i := 9) (v := .pointer (some ⟨D, 1, none⟩)) rfl (by kernel_rfl) (by kernel_rfl) (by kernel_rfl) (by kernel_rfl) (fun _ _ _ h => h) (.inl ⟨rfl, fun w' hw' => m_field1 rfl rfl⟩) hS6 ?_
        change wpAnyX Try.prog .any _ _ _ _ 1 _ (poAct _ _ _ _ _ _ _ _ _ _ _ _ _ _ _ _ _ _ _ _ _ _ _ _ _ _ _ _ _ _ _ _ _ _ _ _ _ _ _ (.pointer (some ⟨D, 1, none⟩)) (.slice ub mb cb) (.pointer (some ⟨C, 1, none⟩)) (.slice (some ⟨b2, off2, none⟩) n2 c2) (.int .i64 k) (.pointer (some ⟨b2, off2 + k * 5, none⟩)) (.agg #[.int .i64 kd, .slice x1 m1 y1, .slice x2 m2 y2, .int .i64 bd, .slice x4 m4 y4]) (.slice (some ⟨wr.drew.heap.size, 0, none⟩) 1 1) (.slice ua' m' cap') (.pointer (some ⟨D, 1, none⟩)) _ _ _ _) w6
        refine wpAnyX_one (i := 10) (by kernel_rfl) rfl (fun K' hK' => ?_)
        refine step_skip _ (w6.setCell ⟨D, 1, none⟩ (.slice ua' m' cap')) rfl (exec_store rfl rfl rfl (m_storeC w6 D 1 ub ua' mb cb m' cap' hS6.1 hF6)) ?_
        refine hK'.out _ _ (fun h => by cases h) ?_
        clear hK' K'
        change wpAnyX Try.prog .any _ _ _ _ 0 _ (poAct _ _ _ _ _ _ _ _ _ _ _ _ _ _ _ _ _ _ _ _ _ _ _ _ _ _ _ _ _ _ _ _ _ _ _ _ _ _ _ (.pointer (some ⟨D, 1, none⟩)) (.slice ub mb cb) (.pointer (some ⟨C, 1, none⟩)) (.slice (some ⟨b2, off2, none⟩) n2 c2) (.int .i64 k) (.pointer (some ⟨b2, off2 + k * 5, none⟩)) (.agg #[.int .i64 kd, .slice x1 m1 y1, .slice x2 m2 y2, .int .i64 bd, .slice x4 m4 y4]) (.slice (some ⟨wr.drew.heap.size, 0, none⟩) 1 1) (.slice ua' m' cap') (.pointer (some ⟨D, 1, none⟩)) _ _ _ _) (w6.setCell ⟨D, 1, none⟩ (.slice ua' m' cap'))
        refine wpAnyX_done (by kernel_rfl) ?_ _
        unfold poAct
        have HL6 := Lib.hid (LO.push (x := ⟨c, .slice x1 m1 y1, .slice x2 m2 y2, .slice x4 m4 y4⟩) (m' := m') HL.out.eD hL6.1 hL6.2 (by simp only [cellsE]; rw [HXC.out.1, HXC.out.2]; exact own6) hm')
        have hmm : Hid (m' = mb + 1) := Lib.hid (by have := HXL.out; omega)
        have HX6 : Hid ((xs ++ [(⟨c, .slice x1 m1 y1, .slice x2 m2 y2, .slice x4 m4 y4⟩ : CE)]).length = m') := Lib.hid (by simp; omega)
        have HM6 : Hid ((xs ++ [(⟨c, .slice x1 m1 y1, .slice x2 m2 y2, .slice x4 m4 y4⟩ : CE)]).map CE.c = (m.cons.drop k).reverse) := Lib.hid (by rw [List.map_append, HXM.out, drop_rev HCK.out]; rfl)
        have HE6 : Hid (∀ x ∈ xs ++ [(⟨c, .slice x1 m1 y1, .slice x2 m2 y2, .slice x4 m4 y4⟩ : CE)], EltRd w4 x) := Lib.hid (fun x hx => by
          rcases List.mem_append.1 hx with hx | hx
          · exact HXE.out x hx
          · simp at hx; subst hx; exact HXK.out)
        clear hS bV3 hL3 hS3 own6 grow6 at6 hc6 hc6' hL6 hS6 hF6 hm' HL HXL HXM HXE
        go_wp2
        go_roundw
        case rel => exact ⟨k, m', _, ua', cap', _, rfl, Lib.hid rfl, by have := hmm.out; omega, HX6, HM6, HE6, HL6⟩
        case measure => first | (simp [intOf]; done) | (simp [intOf]; omega)
      · obtain rfl : j = 0 := by omega
        have hi' : i' = -1 := by have := HI'.out; omega
        subst hi'
        obtain ⟨q0, q1⟩ := HL.out.bx.cell
        have HR : Hid (RdCons wr (.slice ub mb cb) m.cons.reverse) := Lib.hid (by
          have h1 := elts_rd HL.out.own (fun x hx => ⟨(HXE.out x hx).1.below HL.out.low, (HXE.out x hx).2.1.below HL.out.low, (HXE.out x hx).2.2.below HL.out.low⟩)
          rw [HXM.out, List.drop_zero] at h1
          exact h1)
        have HO5 := Lib.hid (HO4.out.below HL.out.low)
        have HD5 := Lib.hid (HD14.out.below HL.out.low)
        have HB5 := Lib.hid (HB4.out.trans (HL.out.low.mono HB4.out.size))
        clear HL hj hmj HO4 HBK4 HD14 HD24 HB4 HL0
        go_wp2_with fail
        refine (HI2.out wr _ _ _ HD5.out HR.out).mono ?_
        rintro e w7 ⟨a8, c8, rfl, hc8, hc8', r8, b7⟩
        have HO7 := Lib.hid (HO5.out.below b7)
        have HR8 := Lib.hid r8
        have HB7 := Lib.hid (HB5.out.trans (b7.mono HB5.out.size))
        clear r8 b7 HO5 HD5 HB5 q0 q1 HR
        go_wp2_with fail
        refine (eqI_true w7 _ _ fl HR8.out HO7.out).mono ?_
        rintro e w8 ⟨rfl, b8⟩
        have HB8 := Lib.hid (HB7.out.trans (b8.mono HB7.out.size))
        clear b8 HO7 HR8 HB7
        go_wp2
        go_ret
        exact ⟨rfl, HB8.out⟩
end Go.Proofs.Ytjdbfiiaadphhaa
