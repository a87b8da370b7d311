/- The program's WithoutConstraint, of a valid model and an index of it. -/
import Derived.Test.YtjdbfiiaadphhaaLiO
import Derived.Test.YtjdbfiiaadphhaaCpC
import Derived.Test.YtjdbfiiaadphhaaModV
namespace Go.Proofs.Ytjdbfiiaadphhaa
open Go.ChangeShapes Go.WideShapes Go.ChangeAt Go.RowKit Go.Deep Go.Shelf
set_option linter.unusedVariables false
set_option linter.unusedSimpArgs false

def qd (D R : Nat) (u : Value) (b : Nat) : Bool := b == D || b == R || decide (u.ownBlock = some b)
theorem qd_parts {D R b : Nat} {u : Value} (h : qd D R u b = false) : b ≠ D ∧ b ≠ R ∧ u.ownBlock ≠ some b := by simpa [qd, and_assoc] using h
theorem qd_no {D R b : Nat} {u : Value} (h1 : b ≠ D) (h2 : b ≠ R) (h3 : u.ownBlock ≠ some b) : qd D R u b = false := by simp [qd, h1, h2, h3]
theorem EltRd.inc {w w' : World} {x : CE} (h : EltRd w x) (hi : Inc w w') : EltRd w' x := ⟨h.1.inc hi, h.2.1.inc hi, h.2.2.inc hi⟩
/-- A list of constraints of the call's own that grows, in the field of the model in block D. -/
structure LP (w4 : World) (D R : Nat) (u1 : Value) (W : World) (u : Value) (xs : List CE) : Prop where
  bx : Blk2 W D 68 u1 u
  own : W.ownsRow (D + 1) 53 5 u xs.length (cellsE xs)
  ok : ∀ x ∈ xs, EltRd (av (qd D R u) W) x
  low : Below w4.heap.size w4 W
  eD : D = w4.heap.size
section
variable {w4 W W' V2 V : World} {D R : Nat} {u1 u u' : Value} {xs : List CE} {x : CE} {m' : Nat}
theorem LP.below (h : LP w4 D R u1 W u xs) (hb : Below W.heap.size W W') : LP w4 D R u1 W' u xs :=
  ⟨h.bx.below hb, own_keepB h.own (fun b hb' => hb.block b (h.own.lt b hb').2), fun x hx => (h.ok x hx).inc (Fr.of_below hb).inc, h.low.trans (hb.mono h.low.size), h.eD⟩
theorem LP.push (h : LP w4 D R u1 V2 u xs) (hx : EltRd (av (qd D R u) V2) x) (hg : (V2.alloc (.cells #[.int .i64 x.c.kind, x.v, x.a, .int .i64 x.c.bound, x.r] 53)).grownBy V u.ownBlock) (hown : V.ownsRow (D + 1) 53 5 u' m' (cellsE xs ++ cellsE [x])) (hm : m' = xs.length + 1)
    (hat : u'.ownBlock = u.ownBlock ∨ ∀ g, u'.ownBlock = some g → V2.heap.size ≤ g) : LP w4 D R u1 (V.setCell ⟨D, 1, none⟩ u') u' (xs ++ [x]) := by
  subst hm
  have hDu : ∀ g, u.ownBlock = some g → D + 1 ≤ g := fun g e => (h.own.lt g e).1
  have hkeep : ∀ b, b < V2.heap.size → u.ownBlock ≠ some b → V.heap[b]? = V2.heap[b]? := fun b hb hn => (hg.block b (by simp; omega) (fun e => hn e.symm)).trans (Below.heap_alloc _ _ _ hb)
  have hD : Blk2 V D 68 u1 u := (hkeep D h.bx.lt (fun e => by have := hDu D e; omega)).trans h.bx
  have hlow : Below w4.heap.size w4 V := h.low.trans (((Below.refl w4.heap.size V2).alloc h.low.size _).grown hg (by simp; have := h.low.size; omega) (fun g e => by have := hDu g e; have := h.eD; omega))
  have hinc : Inc (av (qd D R u) V2) (av (qd D R u') (V.setCell ⟨D, 1, none⟩ u')) := fun p y hp => by
    obtain ⟨e, h1⟩ := av_at _ _ hp
    obtain ⟨e1, e2, e3⟩ := qd_parts e
    have hl := World.block_lt_of_cell? _ _ h1
    refine av_mk _ _ (qd_no e1 e2 (fun e6 => ?_)) ?_
    · rcases hat with hat | hat
      · exact e3 (hat ▸ e6)
      · have := hat _ e6
        omega
    · rw [wo_cell_same (Below.heap_setCell _ _ _ _ (by exact e1)), wo_cell_same (hkeep _ hl e3)]
      exact h1
  refine ⟨hD.set 1 _, ?_, ?_, hlow.setCell (p := ⟨D, 1, none⟩) (by show _ ≤ D; rw [h.eD]; exact Nat.le_refl _) _, h.eD⟩
  · rw [List.length_append, cellsE_append]
    exact own_keepB hown (fun b hb => Below.heap_setCell _ _ _ _ (by show b ≠ D; have := (hown.lt b hb).1; omega))
  · intro y hy
    rcases List.mem_append.1 hy with hy | hy
    · exact (h.ok y hy).inc hinc
    · simp at hy
      subst hy
      exact hx.inc hinc
theorem LP.rd (h : LP w4 D R u1 W u xs) : RdCons W u (xs.map CE.c) := elts_rd h.own (fun x hx => (h.ok x hx).inc (av_inc _ _))
end
theorem erase_take {cs : List Con} {i j : Nat} {c : Con} (h : cs[j]? = some c) (hij : j ≠ i) : (cs.take (j + 1)).eraseIdx i = (cs.take j).eraseIdx i ++ [c] := by
  have hj := (List.getElem?_eq_some_iff.1 h).1
  rw [List.take_add_one, h]
  show (cs.take j ++ [c]).eraseIdx i = _
  have hl : (cs.take j).length = j := by simp; omega
  by_cases h1 : i < j
  · rw [List.eraseIdx_append_of_lt_length (by omega)]
  · rw [List.eraseIdx_append_of_length_le (by omega), List.eraseIdx_of_length_le (l := cs.take j) (by omega), hl]
    rw [show i - j = (i - j - 1) + 1 from by omega]
    rfl
theorem erase_skip {cs : List Con} {i : Nat} {c : Con} (h : cs[i]? = some c) : (cs.take (i + 1)).eraseIdx i = (cs.take i).eraseIdx i := by
  have hj := (List.getElem?_eq_some_iff.1 h).1
  have hl : (cs.take i).length = i := by simp; omega
  rw [List.take_add_one, h]
  show (cs.take i ++ [c]).eraseIdx i = _
  rw [List.eraseIdx_append_of_length_le (by omega), hl, Nat.sub_self, List.eraseIdx_of_length_le (l := cs.take i) (by omega)]
  simp

def wcAct (z0 z1 z2 z3 z4 z5 z6 z7 z8 z9 z10 z11 z12 z13 z14 z15 z16 z17 z18 z19 z20 z21 z22 z23 z24 z25 z26 z27 z28 z29 z30 z31 z32 z33 z34 z35 z36 z37 z38 z39 z40 z41 z42 z43 z44 z45 : Value) : Act := { tmps := #[z0, z1, z2, z3, z4, z5, z6, z7, z8, z9, z10, z11, z12, z13, z14, z15, z16, z17, z18, z19, z20, z21, z22, z23, z24, z25, z26, z27, z28, z29, z30, z31, z32, z33, z34, z35, z36, z37, z38, z39, z40, z41, z42, z43, z44, z45], defers := [] }
/-- A model comes back, and true. -/
def ModPostT (m : Mod) (w : World) (e : Ending) (w' : World) : Prop := ∃ a1 a2 n1 n2 c1 c2, e = .returned (.tuple #[.agg #[.slice a1 n1 c1, .slice a2 n2 c2], .bool true]) ∧ RdInts w' (.slice a1 n1 c1) m.doms ∧ RdCons w' (.slice a2 n2 c2) m.cons ∧ Below w.heap.size w w'

set_option maxRecDepth 100000 in
set_option maxHeartbeats 16000000 in
theorem iWithout_ok (m : Mod) (v : Value) (i : Nat) (w : World) (h : RdModel w v m) (hle : ModLe m 1048576) (hv : vmB m = true) (hi : i < m.cons.length) :
    Calls Try.prog 52 #[v, .int .i64 i] w (ModPostT ⟨m.doms, m.cons.eraseIdx i⟩ w) := by
  obtain ⟨a1, a2, c1, c2, rfl, r1, r2⟩ := rdModel_slices h
  obtain ⟨n1, hn1⟩ : ∃ n, n = m.doms.length := ⟨_, rfl⟩
  obtain ⟨n2, hn2⟩ : ∃ n, n = m.cons.length := ⟨_, rfl⟩
  have HN1 := Lib.hid hn1
  have HN2 := Lib.hid hn2
  rw [← hn1] at r1
  rw [← hn2] at r2 hi
  rw [← hn1, ← hn2] at h ⊢
  have hcc1 := (rdInts_cap r1).2
  have hcc2 : n2 ≤ c2 ∧ c2 ≤ 9223372036854775807 := by obtain ⟨_, _, e, q1, q2, _⟩ := id r2; simp at e; obtain ⟨-, -, rfl⟩ := e; unfold maxLen at q2; rw [hn2]; omega
  obtain ⟨R, hR⟩ : ∃ R, R = w.heap.size + 1 := ⟨_, rfl⟩
  obtain ⟨W2, hW2⟩ : ∃ W2, (w.alloc (.cells #[.slice a1 n1 c1, .slice a2 n2 c2] 68)).alloc (.cells #[.slice none 0 0, .slice none 0 0] 68) = W2 := ⟨_, rfl⟩
  have b2 : Below w.heap.size w W2 := by rw [← hW2]; exact ((Below.refl _ _).alloc (Nat.le_refl _) _).alloc (by simp) _
  have hbx : Blk2 W2 w.heap.size 68 (.slice a1 n1 c1) (.slice a2 n2 c2) := by rw [← hW2]; exact (Blk2.new w _ _ _).alloc _
  have hbr : Blk2 W2 R 68 (.slice none 0 0) (.slice none 0 0) := by
    rw [← hW2, hR]
    have := Blk2.new (w.alloc (.cells #[.slice a1 n1 c1, .slice a2 n2 c2] 68)) 68 (.slice none 0 0) (.slice none 0 0)
    rw [World.size_alloc] at this
    exact this
  have hs2 : W2.heap.size = w.heap.size + 2 := by rw [← hW2]; simp
  have HM2 := Lib.hid (h.below b2)
  have HV1 := Lib.hid (r1.below b2)
  have HV2 := Lib.hid (r2.below b2)
  have HBX := Lib.hid hbx
  have HBR := Lib.hid hbr
  have HB2 := Lib.hid b2
  have HRR := Lib.hid (show R < W2.heap.size ∧ w.heap.size < R from by omega)
  have HW2 := Lib.hid hW2
  have HRe := Lib.hid hR
  have HLE := Lib.hid hle
  have HD1 : Hid (m.doms.length ≤ 1048576) := Lib.hid hle.1
  have hi6 : n2 ≤ 6 := by rw [hn2]; unfold vmB at hv; simp only [Bool.and_eq_true, decide_eq_true_eq] at hv; exact hv.1.2
  have HVM : Hid (Calls Try.prog 103 #[.agg #[.slice a1 n1 c1, .slice a2 n2 c2]] W2 fun e w' => e = .returned (.bool true) ∧ Below W2.heap.size W2 w') := Lib.hid ((ivm_any m _ W2 HM2.out hle).mono (fun e w' hp => ⟨by rw [hp.1, hv], hp.2⟩))
  obtain ⟨x0, x1⟩ := hbx.cell
  clear h r1 r2 b2 hbx hbr hs2 hW2 hR hn1 hn2 hle hv
  have hwi : wiB (i : Int) 0 ((n2 : Int) - 1) = true := wiB_true (by omega) (by omega)
  go_enter Try.func52, Try.ntmps52
  go_wp2_with (rw [HW2.out])
  rw [← HRe.out]
  refine HVM.out.mono ?_
  rintro e w3 ⟨rfl, b3⟩
  have hBX3 := HBX.out.below b3
  obtain ⟨y0, y1⟩ := hBX3.cell
  have HBX3 : Hid (Blk2 w3 w.heap.size 68 (.slice a1 n1 c1) (.slice a2 n2 c2)) := Lib.hid hBX3
  have HBR3 : Hid (Blk2 w3 R 68 (.slice none 0 0) (.slice none 0 0)) := Lib.hid (HBR.out.below b3)
  have HV13 := Lib.hid (HV1.out.below b3)
  have HV23 := Lib.hid (HV2.out.below b3)
  have HB3 := Lib.hid (HB2.out.trans (b3.mono HB2.out.size))
  have HS3 := Lib.hid b3.size
  clear hBX3 b3 x0 x1 HW2
  go_wp2_with (go_at_call 70; refine (within_any _ _ _ _).mono ?_; rintro e w' ⟨rfl, rfl⟩; rw [hwi])
  refine (icopyInts_all _ m.doms w3 HV13.out HD1.out).mono ?_
  rintro e w4 ⟨v4, rfl, o4, b4⟩
  obtain ⟨ad, cd, e4, hcd, hcd'⟩ := own_form o4
  rw [← HN1.out] at e4
  subst e4
  obtain ⟨D, hD⟩ : ∃ D, D = w4.heap.size := ⟨_, rfl⟩
  obtain ⟨Wm, hWm⟩ : ∃ Wm, w4.alloc (.cells #[.slice ad n1 cd, .slice none 0 0] 68) = Wm := ⟨_, rfl⟩
  have hbm : Below w4.heap.size w4 Wm := by rw [← hWm]; exact (Below.refl _ _).alloc (Nat.le_refl _) _
  have HO4 := Lib.hid o4
  have HBR4 : Hid (Blk2 w4 R 68 (.slice none 0 0) (.slice none 0 0)) := Lib.hid (HBR3.out.below b4)
  have HV24 := Lib.hid (HV23.out.below b4)
  have hBX4 : Blk2 Wm w.heap.size 68 (.slice a1 n1 c1) (.slice a2 n2 c2) := (HBX3.out.below b4).below hbm
  obtain ⟨z0, z1⟩ := hBX4.cell
  have HL0 : Hid (LP w4 D R (.slice ad n1 cd) Wm (.slice none 0 0) []) := Lib.hid ⟨by rw [← hWm, hD]; exact Blk2.new w4 _ _ _, ⟨rfl, .inl ⟨rfl, rfl⟩⟩, (fun x hx => by cases hx), hbm, hD⟩
  have HB4 := Lib.hid (HB3.out.trans (b4.mono HB3.out.size))
  have HS4 := Lib.hid b4.size
  have HWM := Lib.hid hWm
  have HDe := Lib.hid hD
  clear y0 y1 HBX3 HBR3 HV13 HV23 HB3 o4 b4 hbm hBX4 hWm hD
  go_wp2_with (rw [HWM.out])
  rw [← HDe.out]
  clear HWM z0 z1
  go_loopw [29] (fun q wr => ∃ (j mb : Nat) (ub : Option Addr) (cb : Nat) (xs : List CE), j ≤ n2 ∧ q = .int .i64 j ∧ mb ≤ j ∧ Hid (xs.length = mb) ∧ Hid (xs.map CE.c = (m.cons.take j).eraseIdx i) ∧ Hid (LP w4 D R (.slice ad n1 cd) wr (.slice ub mb cb) xs)) (fun q _ => n2 - (intOf q).toNat)
  case atStart => exact ⟨0, 0, none, 0, [], Nat.zero_le _, rfl, Nat.le_refl _, Lib.hid rfl, Lib.hid rfl, HL0⟩
  case round =>
    obtain ⟨j, mb, ub, cb, xs, hj, rfl, hmb, HXL, HXM, HL'⟩ := hrel
    by_cases hjn : j < n2
    · obtain ⟨b2, off2, c, x1, x2, x4, y1, y2, y4, e2, hck, k0, k1, k2, k3, k4, hr⟩ := rdCons_at HV24.out hjn
      subst e2
      obtain ⟨kd, hkd⟩ : ∃ kd, kd = c.kind := ⟨_, rfl⟩
      obtain ⟨bd, hbd⟩ : ∃ bd, bd = c.bound := ⟨_, rfl⟩
      obtain ⟨m1, hm1⟩ : ∃ n, n = c.vars.length := ⟨_, rfl⟩
      obtain ⟨m2, hm2⟩ : ∃ n, n = c.args.length := ⟨_, rfl⟩
      obtain ⟨m4, hm4⟩ : ∃ n, n = c.rows.length := ⟨_, rfl⟩
      rw [← hkd] at k0 hr
      rw [← hm1] at k1 hr
      rw [← hm2] at k2 hr
      rw [← hbd] at k3 hr
      rw [← hm4] at k4 hr
      have kk : ∀ (p : Addr) (v : Value), w4.cell? p = some v → wr.cell? p = some v := fun p v hp => (HL'.out.low.cell (World.block_lt_of_cell? w4 _ hp)).trans hp
      have k0' := kk _ _ k0
      have k1' := kk _ _ k1
      have k2' := kk _ _ k2
      have k3' := kk _ _ k3
      have k4' := kk _ _ k4
      obtain ⟨E, hE⟩ : ∃ E, E = wr.heap.size := ⟨_, rfl⟩
      obtain ⟨wE, hwE⟩ : ∃ wE, wr.alloc (.cells #[.int .i64 kd, .slice x1 m1 y1, .slice x2 m2 y2, .int .i64 bd, .slice x4 m4 y4] 53) = wE := ⟨_, rfl⟩
      have hbE : Below wr.heap.size wr wE := by rw [← hwE]; exact (Below.refl _ _).alloc (Nat.le_refl _) _
      have hEx : Blk5 wE E 53 (.int .i64 kd) (.slice x1 m1 y1) (.slice x2 m2 y2) (.int .i64 bd) (.slice x4 m4 y4) := by rw [← hwE, hE]; exact Blk5.new wr _ _ _ _ _ _
      have HL := Lib.hid (HL'.out.below hbE)
      have HEX := Lib.hid hEx
      have HEL := Lib.hid hEx.lt
      have HEN : Hid ((Value.slice ub mb cb).ownBlock ≠ some E) := Lib.hid (fun e => by have := (HL'.out.own.lt E e).2; omega)
      have HQN : Hid (∀ b, wE.heap.size ≤ b → qd D R (.slice ub mb cb) b = false) := Lib.hid (fun b hb => qd_no (by have := HL.out.bx.lt; omega) (by have := HRR.out; have := HL.out.low.size; have := HS3.out; have := HS4.out; omega) (fun e => by have := (HL.out.own.lt b e).2; omega))
      have HCP : Hid (Calls Try.prog 105 #[.agg #[.int .i64 kd, .slice x1 m1 y1, .slice x2 m2 y2, .int .i64 bd, .slice x4 m4 y4]] wE.drew (CopyCE c wE.drew)) := Lib.hid (icopyConstraint_any _ c wE.drew ((hr.below HL.out.low).below (Below.refl _ wE).drew) (HLE.out.2.2 j c hck))
      have HSO : Hid (∀ W, Below wE.heap.size wE W → (W.cell? ⟨D, 1, none⟩ = some (.slice ub mb cb) ∧ W.cell? ⟨E, 0, none⟩ = some (.int .i64 kd) ∧ W.cell? ⟨E, 1, none⟩ = some (.slice x1 m1 y1) ∧ W.cell? ⟨E, 2, none⟩ = some (.slice x2 m2 y2) ∧ W.cell? ⟨E, 3, none⟩ = some (.int .i64 bd) ∧ W.cell? ⟨E, 4, none⟩ = some (.slice x4 m4 y4))) := Lib.hid (fun W hb => by
        have h1 := (HL.out.below hb).bx.cell.2
        obtain ⟨t0, t1, t2, t3, t4⟩ := (HEX.out.below hb).cell
        exact ⟨h1, t0, t1, t2, t3, t4⟩)
      have HS0 : Hid ((wE.drew.cell? ⟨D, 1, none⟩ = some (.slice ub mb cb) ∧ wE.drew.cell? ⟨E, 0, none⟩ = some (.int .i64 kd) ∧ wE.drew.cell? ⟨E, 1, none⟩ = some (.slice x1 m1 y1) ∧ wE.drew.cell? ⟨E, 2, none⟩ = some (.slice x2 m2 y2) ∧ wE.drew.cell? ⟨E, 3, none⟩ = some (.int .i64 bd) ∧ wE.drew.cell? ⟨E, 4, none⟩ = some (.slice x4 m4 y4))) := Lib.hid (HSO.out _ (Below.refl _ wE).drew)
      have HCK := Lib.hid hck
      have HWE := Lib.hid hwE
      have HEe := Lib.hid hE
      clear k0 k1 k2 k3 k4 kk hr hkd hbd hm1 hm2 hm4 hck hE hwE hbE hEx HL'
      by_cases hji : j = i
      · have hne : ((j : Int) != (i : Int)) = false := by simp [hji]
        have HXM2 : Hid (xs.map CE.c = (m.cons.take (j + 1)).eraseIdx i) := Lib.hid (by
          rw [HXM.out, hji, erase_skip (by rw [← hji]; exact HCK.out)])
        clear hji
        go_wp2_with (rw [HWE.out])
        go_roundw
        case rel => exact ⟨j + 1, mb, ub, cb, xs, by omega, by go_num, by omega, HXL, HXM2, HL⟩
        case measure => simp [intOf]; omega
      · have hne : ((j : Int) != (i : Int)) = true := by simp; omega
        have HJI := Lib.hid hji
        clear hji
        go_wp2_with (rw [HWE.out])
        rw [← HEe.out]
        have hS := HS0.out
        refine region_x (fun w' => (w'.cell? ⟨D, 1, none⟩ = some (.slice ub mb cb) ∧ w'.cell? ⟨E, 0, none⟩ = some (.int .i64 kd) ∧ w'.cell? ⟨E, 1, none⟩ = some (.slice x1 m1 y1) ∧ w'.cell? ⟨E, 2, none⟩ = some (.slice x2 m2 y2) ∧ w'.cell? ⟨E, 3, none⟩ = some (.int .i64 bd) ∧ w'.cell? ⟨E, 4, none⟩ = some (.slice x4 m4 y4))) (fun i => i == 7) rfl ?_
        change wpAnyX Try.prog .any _ _ _ _ 8 _ (wcAct _ _ _ _ _ _ _ _ _ _ _ _ _ _ _ _ _ _ _ _ _ _ _ _ _ _ _ _ _ _ _ _ _ _ _ _ _ _ _ _ _ _ _ _ _ _) wE.drew
        refine wpAnyX_take (i := 0) (v := .pointer (some ⟨D, 1, none⟩)) rfl (by kernel_rfl) (by kernel_rfl) (by kernel_rfl) (by kernel_rfl) (fun _ _ _ h => h) (.inl ⟨rfl, fun w' hw' => m_field1 rfl rfl⟩) hS ?_
        change wpAnyX Try.prog .any _ _ _ _ 7 _ (wcAct _ _ _ _ _ _ _ _ _ _ _ _ _ _ _ _ _ _ _ _ _ _ _ _ _ _ _ _ _ _ _ _ _ _ _ _ _ (.pointer (some ⟨D, 1, none⟩)) _ _ _ _ _ _ _ _) wE.drew
        refine wpAnyX_take (i := 1) (v := .slice ub mb cb) rfl (by kernel_rfl) (by kernel_rfl) (by kernel_rfl) (by kernel_rfl) (fun _ _ _ h => h) (.inl ⟨rfl, fun w' hw' => exec_load rfl rfl (m_loadC w' _ _ _ _ _ hw'.1)⟩) hS ?_
        change wpAnyX Try.prog .any _ _ _ _ 6 _ (wcAct _ _ _ _ _ _ _ _ _ _ _ _ _ _ _ _ _ _ _ _ _ _ _ _ _ _ _ _ _ _ _ _ _ _ _ _ _ (.pointer (some ⟨D, 1, none⟩)) (.slice ub mb cb) _ _ _ _ _ _ _) wE.drew
        refine wpAnyX_take (i := 2) (v := .agg #[.int .i64 kd, .slice x1 m1 y1, .slice x2 m2 y2, .int .i64 bd, .slice x4 m4 y4]) rfl (by kernel_rfl) (by kernel_rfl) (by kernel_rfl) (by kernel_rfl) (fun _ _ _ h => h) (.inl ⟨rfl, fun w' hw' => exec_load rfl rfl (m_loadE w' _ _ _ _ _ _ _ _ _ _ _ _ _ hw'.2.1 hw'.2.2.1 hw'.2.2.2.1 hw'.2.2.2.2.1 hw'.2.2.2.2.2)⟩) hS ?_
        change wpAnyX Try.prog .any _ _ _ _ 5 _ (wcAct _ _ _ _ _ _ _ _ _ _ _ _ _ _ _ _ _ _ _ _ _ _ _ _ _ _ _ _ _ _ _ _ _ _ _ _ _ (.pointer (some ⟨D, 1, none⟩)) (.slice ub mb cb) (.agg #[.int .i64 kd, .slice x1 m1 y1, .slice x2 m2 y2, .int .i64 bd, .slice x4 m4 y4]) _ _ _ _ _ _) wE.drew
        refine wpAnyX_one (i := 3) (by kernel_rfl) rfl (fun K' hK' => ?_)
        refine step_call1 _ rfl 105 _ _ _ rfl rfl (enters_of Try.func105 (by kernel_rfl) rfl) _ HCP.out (fun c w' h => by obtain ⟨_, _, _, h, _⟩ := h; cases h) (fun w' h => by obtain ⟨_, _, _, h, _⟩ := h; cases h) ?_
        rintro vz w5 ⟨v1, v2, v4, ev, ⟨o1, o2, us, o4⟩, b5⟩
        obtain ⟨a1x, vc, e1, hvc, hvc'⟩ := own_form o1
        obtain ⟨a2x, ac, e2, hac, hac'⟩ := own_form o2
        obtain ⟨a4x, rc, e4, hrc, hrc'⟩ := own_form o4.2.1
        rw [o4.1] at e4
        obtain ⟨vn, hvn⟩ : ∃ n, n = c.vars.length := ⟨_, rfl⟩
        obtain ⟨an, han⟩ : ∃ n, n = c.args.length := ⟨_, rfl⟩
        obtain ⟨rn, hrn⟩ : ∃ n, n = c.rows.length := ⟨_, rfl⟩
        rw [← hvn] at e1
        rw [← han] at e2
        rw [← hrn] at e4
        subst e1 e2 e4
        obtain rfl : vz = .agg #[.int .i64 c.kind, .slice a1x vn vc, .slice a2x an ac, .int .i64 c.bound, .slice a4x rn rc] := by injection ev
        have hb5 : Below wE.heap.size wE w5 := (Below.refl _ wE).drew.trans b5
        have hL5 := HL.out.below hb5
        have hS5 := HSO.out w5 hb5
        refine hK'.out _ _ (fun _ => hS5) ?_
        clear hK' K'
        change wpAnyX Try.prog .any _ _ _ _ 4 _ (wcAct _ _ _ _ _ _ _ _ _ _ _ _ _ _ _ _ _ _ _ _ _ _ _ _ _ _ _ _ _ _ _ _ _ _ _ _ _ (.pointer (some ⟨D, 1, none⟩)) (.slice ub mb cb) (.agg #[.int .i64 kd, .slice x1 m1 y1, .slice x2 m2 y2, .int .i64 bd, .slice x4 m4 y4]) (.agg #[.int .i64 c.kind, .slice a1x vn vc, .slice a2x an ac, .int .i64 c.bound, .slice a4x rn rc]) _ _ _ _ _) w5
        refine wpAnyX_one (i := 4) (by kernel_rfl) rfl (fun K' hK' => ?_)
        refine step_value _ (w5.alloc (.cells #[.int .i64 c.kind, .slice a1x vn vc, .slice a2x an ac, .int .i64 c.bound, .slice a4x rn rc] 53)) rfl _ (k_exec1 rfl rfl (m_build1 w5 _ _ _ _ _ _ _ _ _ _ _)) ?_
        have bV3 : Below w5.heap.size w5 (w5.alloc (.cells #[.int .i64 c.kind, .slice a1x vn vc, .slice a2x an ac, .int .i64 c.bound, .slice a4x rn rc] 53)) := (Below.refl _ _).alloc (Nat.le_refl _) _
        have hL3 := hL5.below bV3
        have hS3 := HSO.out _ (hb5.trans (bV3.mono hb5.size))
        refine hK'.out _ _ (fun _ => hS3) ?_
        clear hK' K'
        change wpAnyX Try.prog .any _ _ _ _ 3 _ (wcAct _ _ _ _ _ _ _ _ _ _ _ _ _ _ _ _ _ _ _ _ _ _ _ _ _ _ _ _ _ _ _ _ _ _ _ _ _ (.pointer (some ⟨D, 1, none⟩)) (.slice ub mb cb) (.agg #[.int .i64 kd, .slice x1 m1 y1, .slice x2 m2 y2, .int .i64 bd, .slice x4 m4 y4]) (.agg #[.int .i64 c.kind, .slice a1x vn vc, .slice a2x an ac, .int .i64 c.bound, .slice a4x rn rc]) (.slice (some ⟨w5.heap.size, 0, none⟩) 1 1) _ _ _ _) (w5.alloc (.cells #[.int .i64 c.kind, .slice a1x vn vc, .slice a2x an ac, .int .i64 c.bound, .slice a4x rn rc] 53))
        refine wpAnyX_one (i := 5) (by kernel_rfl) rfl (fun K' hK' => ?_)
        refine m_appendC rfl _ _ rfl (D + 1) (.slice ub mb cb) (cellsE xs) xs.length w5.heap.size _ _ _ _ _ _ _ _ _ _ _ rfl rfl hL3.own (fun j u h => cells_one5 w5 _ _ _ _ _ _ j u h) hL3.bx.lt (by have := HXL.out; omega) ?_
        intro v6 w6 own6 grow6 at6
        obtain ⟨ua', cap', ev6, hc6, hc6'⟩ := own_form own6
        obtain ⟨m', hm'⟩ : ∃ m', m' = xs.length + 1 := ⟨_, rfl⟩
        rw [← hm'] at own6 ev6
        subst ev6
        have hD6 : w6.heap[D]? = (w5.alloc (.cells #[.int .i64 c.kind, .slice a1x vn vc, .slice a2x an ac, .int .i64 c.bound, .slice a4x rn rc] 53)).heap[D]? := grow6.block D hL3.bx.lt (fun e => by have := (hL3.own.lt D e.symm).1; omega)
        have hE6 : w6.heap[E]? = (w5.alloc (.cells #[.int .i64 c.kind, .slice a1x vn vc, .slice a2x an ac, .int .i64 c.bound, .slice a4x rn rc] 53)).heap[E]? := grow6.block E (by have := HEL.out; have := hb5.size; simp; omega) (fun e => HEN.out e.symm)
        have hS6 : (w6.cell? ⟨D, 1, none⟩ = some (.slice ub mb cb) ∧ w6.cell? ⟨E, 0, none⟩ = some (.int .i64 kd) ∧ w6.cell? ⟨E, 1, none⟩ = some (.slice x1 m1 y1) ∧ w6.cell? ⟨E, 2, none⟩ = some (.slice x2 m2 y2) ∧ w6.cell? ⟨E, 3, none⟩ = some (.int .i64 bd) ∧ w6.cell? ⟨E, 4, none⟩ = some (.slice x4 m4 y4)) := ⟨(World.cell?_of_block hD6).trans hS3.1, (World.cell?_of_block hE6).trans hS3.2.1, (World.cell?_of_block hE6).trans hS3.2.2.1, (World.cell?_of_block hE6).trans hS3.2.2.2.1, (World.cell?_of_block hE6).trans hS3.2.2.2.2.1, (World.cell?_of_block hE6).trans hS3.2.2.2.2.2⟩
        have hF6 : w6.frozen? ⟨D, 1, none⟩ = false := (World.frozen?_of_block hD6).trans hL3.bx.frozen.2
        refine hK'.out _ _ (fun _ => hS6) ?_
        clear hK' K'
        change wpAnyX Try.prog .any _ _ _ _ 2 _ (wcAct _ _ _ _ _ _ _ _ _ _ _ _ _ _ _ _ _ _ _ _ _ _ _ _ _ _ _ _ _ _ _ _ _ _ _ _ _ (.pointer (some ⟨D, 1, none⟩)) (.slice ub mb cb) (.agg #[.int .i64 kd, .slice x1 m1 y1, .slice x2 m2 y2, .int .i64 bd, .slice x4 m4 y4]) (.agg #[.int .i64 c.kind, .slice a1x vn vc, .slice a2x an ac, .int .i64 c.bound, .slice a4x rn rc]) (.slice (some ⟨w5.heap.size, 0, none⟩) 1 1) (.slice ua' m' cap') _ _ _) w6
        refine wpAnyX_take (i := 6) (v := .pointer (some ⟨D, 1, none⟩)) rfl (by kernel_rfl) (by kernel_rfl) (by kernel_rfl) (by kernel_rfl) (fun _ _ _ h => h) (.inl ⟨rfl, fun w' hw' => m_field1 rfl rfl⟩) hS6 ?_
        change wpAnyX Try.prog .any _ _ _ _ 1 _ (wcAct _ _ _ _ _ _ _ _ _ _ _ _ _ _ _ _ _ _ _ _ _ _ _ _ _ _ _ _ _ _ _ _ _ _ _ _ _ (.pointer (some ⟨D, 1, none⟩)) (.slice ub mb cb) (.agg #[.int .i64 kd, .slice x1 m1 y1, .slice x2 m2 y2, .int .i64 bd, .slice x4 m4 y4]) (.agg #[.int .i64 c.kind, .slice a1x vn vc, .slice a2x an ac, .int .i64 c.bound, .slice a4x rn rc]) (.slice (some ⟨w5.heap.size, 0, none⟩) 1 1) (.slice ua' m' cap') (.pointer (some ⟨D, 1, none⟩)) _ _) w6
        refine wpAnyX_one (i := 7) (by kernel_rfl) rfl (fun K' hK' => ?_)
        refine step_skip _ (w6.setCell ⟨D, 1, none⟩ (.slice ua' m' cap')) rfl (exec_store rfl rfl rfl (m_storeC w6 D 1 ub ua' mb cb m' cap' hS6.1 hF6)) ?_
        refine hK'.out _ _ (fun h => by cases h) ?_
        clear hK' K'
        change wpAnyX Try.prog .any _ _ _ _ 0 _ (wcAct _ _ _ _ _ _ _ _ _ _ _ _ _ _ _ _ _ _ _ _ _ _ _ _ _ _ _ _ _ _ _ _ _ _ _ _ _ (.pointer (some ⟨D, 1, none⟩)) (.slice ub mb cb) (.agg #[.int .i64 kd, .slice x1 m1 y1, .slice x2 m2 y2, .int .i64 bd, .slice x4 m4 y4]) (.agg #[.int .i64 c.kind, .slice a1x vn vc, .slice a2x an ac, .int .i64 c.bound, .slice a4x rn rc]) (.slice (some ⟨w5.heap.size, 0, none⟩) 1 1) (.slice ua' m' cap') (.pointer (some ⟨D, 1, none⟩)) _ _) (w6.setCell ⟨D, 1, none⟩ (.slice ua' m' cap'))
        refine wpAnyX_done (by kernel_rfl) ?_ _
        unfold wcAct
        have HX6 : EltRd (av (qd D R (.slice ub mb cb)) w5) ⟨c, .slice a1x vn vc, .slice a2x an ac, .slice a4x rn rc⟩ := ⟨rdInts_of_own (own_av o1 HQN.out), rdInts_of_own (own_av o2 HQN.out), RowsOwn.rd o4 HQN.out⟩
        have HL6 := Lib.hid (LP.push (x := ⟨c, .slice a1x vn vc, .slice a2x an ac, .slice a4x rn rc⟩) (m' := m') hL5 HX6 grow6 own6 hm' (at6.imp id (fun h g e => Nat.le_trans (by simp) (h g e))))
        have hmm : Hid (m' = mb + 1) := Lib.hid (by have := HXL.out; omega)
        have HXL6 : Hid ((xs ++ [(⟨c, .slice a1x vn vc, .slice a2x an ac, .slice a4x rn rc⟩ : CE)]).length = m') := Lib.hid (by simp; omega)
        have HXM6 : Hid ((xs ++ [(⟨c, .slice a1x vn vc, .slice a2x an ac, .slice a4x rn rc⟩ : CE)]).map CE.c = (m.cons.take (j + 1)).eraseIdx i) := Lib.hid (by
          rw [List.map_append, HXM.out, erase_take HCK.out HJI.out]
          rfl)
        clear hS hb5 hL5 hS5 bV3 hL3 hS3 own6 grow6 at6 hc6 hc6' hD6 hE6 hS6 hF6 hm' HL HXL HXM HX6 o1 o2 o4 hvc hvc' hac hac' hrc hrc' hvn han hrn ev b5 k0' k1' k2' k3' k4'
        go_wp2
        go_roundw
        case rel => exact ⟨j + 1, m', ua', cap', _, by omega, by go_num, by have := hmm.out; omega, HXL6, HXM6, HL6⟩
        case measure => simp [intOf]; omega
    · obtain rfl : j = n2 := by omega
      have hRw : R < w4.heap.size := by have := HRR.out; have := HS3.out; have := HS4.out; omega
      have hbr : Blk2 wr R 68 (.slice none 0 0) (.slice none 0 0) := (HL'.out.low.block R hRw).trans HBR4.out
      have hkeep : ∀ b, b ≠ R → (putM wr R (.slice ad n1 cd) (.slice ub mb cb)).heap[b]? = wr.heap[b]? := fun b hb => by
        unfold putM
        rw [Below.heap_setCell _ _ _ _ (by exact hb), Below.heap_setCell _ _ _ _ (by exact hb)]
      have hRl : w.heap.size ≤ R := by have := HRR.out; omega
      have hbel : Below w.heap.size w (putM wr R (.slice ad n1 cd) (.slice ub mb cb)) := by
        unfold putM
        exact (((HB4.out.trans (HL'.out.low.mono HB4.out.size)).setCell (by exact hRl) _).setCell (by exact hRl) _)
      have HFIN : Hid (ModPostT ⟨m.doms, m.cons.eraseIdx i⟩ w (.returned (.tuple #[.agg #[.slice ad n1 cd, .slice ub mb cb], .bool true])) (putM wr R (.slice ad n1 cd) (.slice ub mb cb))) := Lib.hid (by
        refine ⟨ad, ub, n1, mb, cd, cb, rfl, ?_, ?_, hbel⟩
        · exact rdInts_of_own (own_keepB HO4.out (fun b hb => (hkeep b (by have := (HO4.out.lt b hb).1; have := HRR.out; have := HS3.out; omega)).trans (HL'.out.low.block b (HO4.out.lt b hb).2)))
        · have h1 := elts_rd (W := putM wr R (.slice ad n1 cd) (.slice ub mb cb)) (own_keepB HL'.out.own (fun b hb => hkeep b (by have := (HL'.out.own.lt b hb).1; have := HL'.out.eD; omega))) (fun x hx => (HL'.out.ok x hx).inc (fun p y hp => by
            obtain ⟨e, h1⟩ := av_at _ _ hp
            rw [wo_cell_same (hkeep _ (qd_parts e).2.1)]
            exact h1))
          rw [HXM.out, List.take_of_length_le (by have := HN2.out; omega)] at h1
          exact h1)
      obtain ⟨p0, p1⟩ := HL'.out.bx.cell
      obtain ⟨o0, o1⟩ := hbr.cell
      obtain ⟨f0, f1⟩ := hbr.frozen
      have HQ := Lib.hid (putM_blk hbr (.slice ad n1 cd) (.slice ub mb cb)).cell
      clear hRw hbr hkeep hRl hbel HL'
      go_wp2
      have hq := HQ.out
      simp only [putM] at hq
      obtain ⟨q0, q1⟩ := hq
      refine bodyPost_ret (v := .tuple #[.agg #[.slice ad n1 cd, .slice ub mb cb], .bool true]) (by simp [results, Try.results52, go_sem, q0, q1]) rfl ?_
      exact HFIN.out
end Go.Proofs.Ytjdbfiiaadphhaa
