/- The laws' own copies of soft constraints. -/
import Derived.Test.YtjdbfiiaadphhaaSft
namespace Go.Proofs.Ytjdbfiiaadphhaa
open Go.ChangeShapes Go.WideShapes Go.ChangeAt Go.RowKit
set_option linter.unusedVariables false
set_option linter.unusedSimpArgs false

theorem conIn_slices {B : Nat} {w : World} {v : Value} {c : Con} (h : ConIn B w v c) : ∃ a2 a3 a5 c2 c3 c5, v = .agg #[.int .i64 c.kind, .slice a2 c.vars.length c2, .slice a3 c.args.length c3, .int .i64 c.bound, .slice a5 c.rows.length c5] := by
  obtain ⟨a2, a3, a5, c2, c3, c5, e, _⟩ := rdCon_slices h.1
  exact ⟨a2, a3, a5, c2, c3, c5, e⟩

set_option maxRecDepth 100000 in
set_option maxHeartbeats 4000000 in
theorem toSoft_full (a2 a3 a5 : Option Addr) (c2 c3 c5 : Nat) (s : Sft) (w : World) (h : RdCon w (.agg #[.int .i64 s.con.kind, .slice a2 s.con.vars.length c2, .slice a3 s.con.args.length c3, .int .i64 s.con.bound, .slice a5 s.con.rows.length c5]) s.con) (hc : ConLe s.con 1048576) :
    Calls Try.prog 82 #[.agg #[.int .i64 s.con.kind, .slice a2 s.con.vars.length c2, .slice a3 s.con.args.length c3, .int .i64 s.con.bound, .slice a5 s.con.rows.length c5, .int .i64 s.wt]] w fun e w' =>
      ∃ a2 a3 a5 c2 c3 c5, e = .returned (.agg #[.int .i64 s.con.kind, .slice a2 s.con.vars.length c2, .slice a3 s.con.args.length c3, .int .i64 s.con.bound, .slice a5 s.con.rows.length c5, .int .i64 s.wt]) ∧
        ConIn w.heap.size w' (.agg #[.int .i64 s.con.kind, .slice a2 s.con.vars.length c2, .slice a3 s.con.args.length c3, .int .i64 s.con.bound, .slice a5 s.con.rows.length c5]) s.con ∧ Below w.heap.size w w' := by
  obtain ⟨W1, hW1⟩ : ∃ W1, ((w.alloc (.cells #[.int .i64 s.con.kind, .slice a2 s.con.vars.length c2, .slice a3 s.con.args.length c3, .int .i64 s.con.bound, .slice a5 s.con.rows.length c5, .int .i64 s.wt] 104)).alloc (.cells #[.int .i64 0, .slice none 0 0, .slice none 0 0, .int .i64 0, .slice none 0 0, .int .i64 0] 107)).alloc (.cells #[.int .i64 0, .slice none 0 0, .slice none 0 0, .int .i64 0, .slice none 0 0, .int .i64 0] 107) = W1 := ⟨_, rfl⟩
  have bP : Blk6 W1 w.heap.size 104 (.int .i64 s.con.kind) (.slice a2 s.con.vars.length c2) (.slice a3 s.con.args.length c3) (.int .i64 s.con.bound) (.slice a5 s.con.rows.length c5) (.int .i64 s.wt) := by rw [← hW1]; exact ((Blk6.new w _ _ _ _ _ _ _).alloc _).alloc _
  have bR : Blk6 W1 (w.heap.size + 1) 107 (.int .i64 0) (.slice none 0 0) (.slice none 0 0) (.int .i64 0) (.slice none 0 0) (.int .i64 0) := by
    rw [← hW1]; exact ((Blk6.new _ _ _ _ _ _ _ _).at (by simp)).alloc _
  have bO : Blk6 W1 (w.heap.size + 1 + 1) 107 (.int .i64 0) (.slice none 0 0) (.slice none 0 0) (.int .i64 0) (.slice none 0 0) (.int .i64 0) := by
    rw [← hW1]; exact (Blk6.new _ _ _ _ _ _ _ _).at (by simp)
  have bel1 : Below w.heap.size w W1 := by rw [← hW1]; exact (((Below.refl _ _).alloc (Nat.le_refl _) _).alloc (by simp) _).alloc (by simp; omega) _
  have hz1 : w.heap.size + 1 + 1 < W1.heap.size := bO.lt
  have HW := Lib.hid hW1
  have HBP := Lib.hid bP
  have HBR := Lib.hid bR
  have HBO := Lib.hid bO
  have HB1 := Lib.hid bel1
  have HC := Lib.hid (h.below bel1)
  have HZ := Lib.hid hz1
  clear hW1 bP bR bO bel1 h hz1
  obtain ⟨p0, p1, p2, p3, p4, p5⟩ := HBP.out.cell
  go_enter Try.func82, Try.ntmps82
  go_wp2_with fail
  rw [HW.out]
  refine (toConstraint_full _ s.con W1 HC.out hc).mono ?_
  rintro e w2 ⟨v2, rfl, hrd, hb2, hab, hun⟩
  have hin : ConIn W1.heap.size w2 v2 s.con := ⟨hrd, hun, hab⟩
  obtain ⟨x2, x3, x5, y2, y3, y5, rfl⟩ := conIn_slices hin
  have HIN := Lib.hid hin
  have HB2 := Lib.hid (HB1.out.trans (hb2.mono HB1.out.size))
  have HP2 := Lib.hid (HBP.out.below hb2)
  have HR2 := Lib.hid (HBR.out.below hb2)
  have HO2 := Lib.hid (HBO.out.below hb2)
  clear hrd hab hun hin hb2 p0 p1 p2 p3 p4 p5 HC HBP HBR HBO HB1
  obtain ⟨p0, p1, p2, p3, p4, p5⟩ := HP2.out.cell
  obtain ⟨o0, o1, o2, o3, o4, o5⟩ := HO2.out.cell
  obtain ⟨f0, f1, f2, f3, f4, f5⟩ := HO2.out.frozen
  obtain ⟨q0, q1, q2, q3, q4, q5⟩ := HR2.out.cell
  obtain ⟨e0, e1, e2, e3, e4, e5⟩ := HR2.out.frozen
  go_wp2
  have hz := HZ.out
  refine bodyPost_ret (v := .agg #[.int .i64 s.con.kind, .slice x2 s.con.vars.length y2, .slice x3 s.con.args.length y3, .int .i64 s.con.bound, .slice x5 s.con.rows.length y5, .int .i64 s.wt]) (by simp [results, Try.results82, go_sem, q0, q1, q2, q3, q4, q5]) rfl ⟨x2, x3, x5, y2, y3, y5, rfl, ?_, ?_⟩
  · refine ConIn.mono (B := W1.heap.size) ?_ (by omega)
    repeat (refine ConIn.setCell ?_ (by dsimp only; omega) _)
    exact HIN.out
  · repeat (refine Below.setCell ?_ (by dsimp only; omega) _)
    exact HB2.out

/-- The first k lie in the cells vs, six to each. -/
def SoftCells (ss : List Sft) (B k : Nat) (vs : List Value) (w : World) : Prop :=
  vs.length = ss.length * 6 ∧ ∀ (j : Nat) (s : Sft), j < k → ss[j]? = some s → ∃ u2 u3 u5, vs[j * 6]? = some (.int .i64 s.con.kind) ∧ vs[j * 6 + 1]? = some u2 ∧ vs[j * 6 + 2]? = some u3 ∧ vs[j * 6 + 3]? = some (.int .i64 s.con.bound) ∧ vs[j * 6 + 4]? = some u5 ∧ vs[j * 6 + 5]? = some (.int .i64 s.wt) ∧ ConIn B w (.agg #[.int .i64 s.con.kind, u2, u3, .int .i64 s.con.bound, u5]) s.con
theorem SoftCells.below {ss : List Sft} {B k : Nat} {vs : List Value} {w w' : World} (h : SoftCells ss B k vs w) (hb : Below w.heap.size w w') : SoftCells ss B k vs w' := by
  refine ⟨h.1, fun j c hj hc => ?_⟩
  obtain ⟨u2, u3, u5, e0, e1, e2, e3, e4, e5, hi⟩ := h.2 j c hj hc
  exact ⟨u2, u3, u5, e0, e1, e2, e3, e4, e5, hi.below hb⟩
theorem SoftCells.setCell {ss : List Sft} {B k : Nat} {vs : List Value} {w : World} (h : SoftCells ss B k vs w) {p : Addr} (hp : p.block < B) (u : Value) : SoftCells ss B k vs (w.setCell p u) := by
  refine ⟨h.1, fun j c hj hc => ?_⟩
  obtain ⟨u2, u3, u5, e0, e1, e2, e3, e4, e5, hi⟩ := h.2 j c hj hc
  exact ⟨u2, u3, u5, e0, e1, e2, e3, e4, e5, hi.setCell hp u⟩
/-- Six cells set. -/
def set6 (vs : List Value) (p : Nat) (u0 u1 u2 u3 u4 u5 : Value) : List Value := (((((vs.set p u0).set (p + 1) u1).set (p + 2) u2).set (p + 3) u3).set (p + 4) u4).set (p + 5) u5
theorem set6_other (vs : List Value) (p q : Nat) (u0 u1 u2 u3 u4 u5 : Value) (h : q < p ∨ p + 5 < q) : (set6 vs p u0 u1 u2 u3 u4 u5)[q]? = vs[q]? := by
  unfold set6
  rw [List.getElem?_set_ne (by omega), List.getElem?_set_ne (by omega), List.getElem?_set_ne (by omega), List.getElem?_set_ne (by omega), List.getElem?_set_ne (by omega), List.getElem?_set_ne (by omega)]
theorem set6_at (vs : List Value) (p : Nat) (u0 u1 u2 u3 u4 u5 : Value) (h : p + 5 < vs.length) : (set6 vs p u0 u1 u2 u3 u4 u5)[p]? = some u0 ∧ (set6 vs p u0 u1 u2 u3 u4 u5)[p + 1]? = some u1 ∧ (set6 vs p u0 u1 u2 u3 u4 u5)[p + 2]? = some u2 ∧ (set6 vs p u0 u1 u2 u3 u4 u5)[p + 3]? = some u3 ∧ (set6 vs p u0 u1 u2 u3 u4 u5)[p + 4]? = some u4 ∧ (set6 vs p u0 u1 u2 u3 u4 u5)[p + 5]? = some u5 := by
  unfold set6
  refine ⟨?_, ?_, ?_, ?_, ?_, ?_⟩ <;> simp [List.getElem?_set, List.length_set] <;> omega
theorem set6_length (vs : List Value) (p : Nat) (u0 u1 u2 u3 u4 u5 : Value) : (set6 vs p u0 u1 u2 u3 u4 u5).length = vs.length := by simp [set6]
theorem SoftCells.step {ss : List Sft} {B k : Nat} {vs : List Value} {w : World} (h : SoftCells ss B k vs w) {s : Sft} (hc : ss[k]? = some s) {u2 u3 u5 : Value} (hr : ConIn B w (.agg #[.int .i64 s.con.kind, u2, u3, .int .i64 s.con.bound, u5]) s.con) :
    SoftCells ss B (k + 1) (set6 vs (k * 6) (.int .i64 s.con.kind) u2 u3 (.int .i64 s.con.bound) u5 (.int .i64 s.wt)) w := by
  obtain ⟨h1, h2⟩ := h
  have hk : k < ss.length := (List.getElem?_eq_some_iff.1 hc).1
  refine ⟨by rw [set6_length]; exact h1, fun j c' hj hc' => ?_⟩
  by_cases e : j = k
  · subst e
    rw [hc] at hc'
    obtain rfl := Option.some.inj hc'
    obtain ⟨e0, e1, e2, e3, e4, e5⟩ := set6_at vs (j * 6) (.int .i64 s.con.kind) u2 u3 (.int .i64 s.con.bound) u5 (.int .i64 s.wt) (by omega)
    exact ⟨u2, u3, u5, e0, e1, e2, e3, e4, e5, hr⟩
  · obtain ⟨v2, v3, v5, e0, e1, e2, e3, e4, e5, hi⟩ := h2 j c' (by omega) hc'
    refine ⟨v2, v3, v5, ?_, ?_, ?_, ?_, ?_, ?_, hi⟩ <;> rw [set6_other _ _ _ _ _ _ _ _ _ (by omega)] <;> assumption

/-- Nothing is asked of the copies' shape: no law marks them here. -/
def ShSf (lo hi : Nat) (w : World) (v : Value) : Prop := True
theorem ShSf.below {lo hi : Nat} {w w' : World} {v : Value} (h : ShSf lo hi w v) (hb : Below w.heap.size w w') : ShSf lo hi w' v := trivial

theorem Try.infoSoft : (Try.prog.info? 107).map (fun i => (i.zero, i.size, i.bytes)) = some (some (.agg #[.int .i64 0, .slice none 0 0, .slice none 0 0, .int .i64 0, .slice none 0 0, .int .i64 0]), 6, 96) := by kernel_rfl

set_option maxRecDepth 100000 in
set_option maxHeartbeats 4000000 in
theorem toSoftS_sh (v : Value) (ss : List Sft) (w : World) (h : RdSofts w v ss) (hx : SoftsLe ss 1048576) :
    Calls Try.prog 31 #[v] w fun e w' => ∃ v', e = .returned v' ∧ RdSofts w' v' ss ∧ ShSf w.heap.size w'.heap.size w' v' ∧ Below w.heap.size w w' := by
  have HC := Lib.hid h
  obtain ⟨a, cap, ev, hl, hm, _⟩ := h
  obtain ⟨hx1, hx2⟩ := hx
  obtain ⟨n, hn⟩ : ∃ n, n = ss.length := ⟨_, rfl⟩
  have HN := Lib.hid hn
  have HX := Lib.hid hx2
  rw [ev] at HC ⊢
  rw [← hn] at hl hx1 HC ⊢
  clear hn hx2 ev
  unfold maxLen at hm
  obtain ⟨i0, hi, hz0, hz1, hz2⟩ := info_parts Try.infoSoft
  go_enter Try.func31, Try.ntmps31
  go_wp2_with (at_make; refine wpList_make_full _ rfl _ _ 40 rfl w.heap.size 107 i0 (.agg #[.int .i64 0, .slice none 0 0, .slice none 0 0, .int .i64 0, .slice none 0 0, .int .i64 0]) 6 Try.underlying40 hi hz0 hz1 .i64 .i64 _ _ n rfl rfl rfl rfl (by rw [hz2]; omega) (by unfold maxLen; omega) (Nat.le_refl _) ?_; intro w1 hown hgrow)
  have hb1 := below_of_grown hgrow
  have hsz1 : w.heap.size < w1.heap.size := by
    rcases hown.2 with ⟨e, _⟩ | ⟨g, c, cur, e, _, hg, _⟩
    · simp at e
    · simp at e; obtain ⟨rfl, rfl⟩ := e; exact (Array.getElem?_eq_some_iff.1 hg).1
  obtain ⟨vs0, hvs0⟩ : ∃ vs0, vs0 = (madeCells (Value.cells (.agg #[.int .i64 0, .slice none 0 0, .slice none 0 0, .int .i64 0, .slice none 0 0, .int .i64 0])) (n * 6)).toList := ⟨_, rfl⟩
  rw [← hvs0] at hown
  have HO := Lib.hid hown
  have HV : Hid (SoftCells ss (w.heap.size + 1) 0 vs0 w1) := Lib.hid ⟨by rw [hown.1, HN.out], fun j c hj => by omega⟩
  clear hown hgrow hvs0
  go_wp2_with fail
  go_loopw [4] (fun i wr => ∃ (k : Nat) (vs : List Value), k ≤ n ∧ i = .int .i64 k ∧ Hid (wr.ownsRow w.heap.size 107 6 (.slice (some ⟨w.heap.size, 0, none⟩) n n) n vs) ∧ Hid (SoftCells ss (w.heap.size + 1) k vs wr) ∧ Below w.heap.size w wr ∧ w.heap.size < wr.heap.size) (fun i _ => n - (intOf i).toNat)
  case atStart => exact ⟨0, _, Nat.zero_le _, rfl, HO, HV, hb1, hsz1⟩
  case round =>
    obtain ⟨k, vs, hk, rfl, HR, HV, hbel, hsz⟩ := hrel
    by_cases hlt : k < n
    · obtain ⟨b, off, s, a2, a3, a5, c2, c3, c5, rfl, hck, k0, k1, k2, k3, k4, k5, hr⟩ := rdSofts_at (HC.out.below hbel) hlt
      have HCK := Lib.hid hck
      have HRC := Lib.hid hr
      clear hck hr
      go_wp2_with fail
      refine (toSoft_full _ _ _ _ _ _ s wr HRC.out (HX.out k s HCK.out)).mono ?_
      rintro e w2 ⟨x2, x3, x5, y2, y3, y5, rfl, hin0, hb2⟩
      have hin : ConIn (w.heap.size + 1) w2 _ s.con := ConIn.mono hin0 (by omega)
      have HIN := Lib.hid hin
      have HR2 := Lib.hid (World.ownsRow.kept HR.out (show wr.grownBy w2 none from ⟨hb2.os, hb2.tape, hb2.output, hb2.size, fun q hq _ => hb2.block q hq⟩) (.inr (by simp [Value.ownBlock])))
      have HV2 := Lib.hid (HV.out.below hb2)
      have hb3 : Below w.heap.size w w2 := hbel.trans (hb2.mono hbel.size)
      have hs3 : w.heap.size < w2.heap.size := by have := hb2.size; omega
      clear hin hin0 hb2 hbel HR HV HRC k0 k1 k2 k3 k4 k5
      have hvl : vs.length = n * 6 := HR2.out.1
      have d0 : w2.cell? ⟨w.heap.size, k * 6, none⟩ = some (vs[k * 6]'(by omega)) := by rw [HR2.out.cellAt _ (by omega)]; exact List.getElem?_eq_getElem _
      have d1 : w2.cell? ⟨w.heap.size, k * 6 + 1, none⟩ = some (vs[k * 6 + 1]'(by omega)) := by rw [HR2.out.cellAt _ (by omega)]; exact List.getElem?_eq_getElem _
      have d2 : w2.cell? ⟨w.heap.size, k * 6 + 2, none⟩ = some (vs[k * 6 + 2]'(by omega)) := by rw [HR2.out.cellAt _ (by omega)]; exact List.getElem?_eq_getElem _
      have d3 : w2.cell? ⟨w.heap.size, k * 6 + 3, none⟩ = some (vs[k * 6 + 3]'(by omega)) := by rw [HR2.out.cellAt _ (by omega)]; exact List.getElem?_eq_getElem _
      have d4 : w2.cell? ⟨w.heap.size, k * 6 + 4, none⟩ = some (vs[k * 6 + 4]'(by omega)) := by rw [HR2.out.cellAt _ (by omega)]; exact List.getElem?_eq_getElem _
      have d5 : w2.cell? ⟨w.heap.size, k * 6 + 5, none⟩ = some (vs[k * 6 + 5]'(by omega)) := by rw [HR2.out.cellAt _ (by omega)]; exact List.getElem?_eq_getElem _
      have f0 := HR2.out.frozenAt (k * 6)
      have f1 := HR2.out.frozenAt (k * 6 + 1)
      have f2 := HR2.out.frozenAt (k * 6 + 2)
      have f3 := HR2.out.frozenAt (k * 6 + 3)
      have f4 := HR2.out.frozenAt (k * 6 + 4)
      have f5 := HR2.out.frozenAt (k * 6 + 5)
      go_wp2
      go_roundw
      case rel =>
        refine ⟨k + 1, set6 vs (k * 6) (.int .i64 s.con.kind) (.slice x2 s.con.vars.length y2) (.slice x3 s.con.args.length y3) (.int .i64 s.con.bound) (.slice x5 s.con.rows.length y5) (.int .i64 s.wt), by omega, by go_num, Lib.hid ?_, Lib.hid ?_, ?_, by simpa using hs3⟩
        · have t0 := (HR2.out.stored (k * 6) (.int .i64 s.con.kind)).1
          have t1 := (t0.stored (k * 6 + 1) (.slice x2 s.con.vars.length y2)).1
          have t2 := (t1.stored (k * 6 + 2) (.slice x3 s.con.args.length y3)).1
          have t3 := (t2.stored (k * 6 + 3) (.int .i64 s.con.bound)).1
          have t4 := (t3.stored (k * 6 + 4) (.slice x5 s.con.rows.length y5)).1
          exact (t4.stored (k * 6 + 5) (.int .i64 s.wt)).1
        · have t := HV2.out.step HCK.out HIN.out
          have hp : ∀ j : Nat, (⟨w.heap.size, j, none⟩ : Addr).block < w.heap.size + 1 := fun j => Nat.lt_succ_self _
          exact (((((t.setCell (hp _) _).setCell (hp _) _).setCell (hp _) _).setCell (hp _) _).setCell (hp _) _).setCell (hp _) _
        · have hp : ∀ j : Nat, w.heap.size ≤ (⟨w.heap.size, j, none⟩ : Addr).block := fun j => Nat.le_refl _
          exact (((((hb3.setCell (hp _) _).setCell (hp _) _).setCell (hp _) _).setCell (hp _) _).setCell (hp _) _).setCell (hp _) _
      case measure => simp [intOf]; omega
    · obtain rfl : k = n := by omega
      have HF : Hid (RdSofts wr (.slice (some ⟨w.heap.size, 0, none⟩) k k) ss) := Lib.hid (by
        have hn := HN.out
        refine ⟨_, _, by rw [hn], by omega, by unfold maxLen; omega, .inr ⟨_, 0, rfl, fun j s hc => ?_⟩⟩
        have hj : j < ss.length := (List.getElem?_eq_some_iff.1 hc).1
        obtain ⟨u2, u3, u5, e0, e1, e2, e3, e4, e5, ⟨x2, x3, x5, ex, r2, r3, r5⟩, _⟩ := HV.out.2 j s (by omega) hc
        simp at ex
        obtain ⟨rfl, rfl, rfl⟩ := ex
        simp only [Nat.zero_add]
        refine ⟨u2, u3, u5, ?_, ?_, ?_, ?_, ?_, ?_, r2, r3, r5⟩ <;> rw [HR.out.cellAt _ (by omega)] <;> assumption)
      clear HC
      go_wp2
      go_ret
      exact ⟨_, rfl, HF.out, trivial, hbel⟩
end Go.Proofs.Ytjdbfiiaadphhaa
