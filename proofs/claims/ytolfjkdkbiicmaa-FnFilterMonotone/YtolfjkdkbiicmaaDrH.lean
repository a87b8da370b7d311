/- The draw of Filter's arguments: a constraint and domains. -/
import Derived.Test.YtolfjkdkbiicmaaDrG
namespace Go.Proofs.Ytolfjkdkbiicmaa
open Go.ChangeShapes Go.WideShapes Go.ChangeAt Go.RowKit Go.Shelf
set_option linter.unusedVariables false
set_option linter.unusedSimpArgs false

/-- A constraint and domains that were drawn. -/
def CadDn (Q0 : Nat → Bool) (n0 B : Nat) (p s : Int) (w : World) (e : Ending) (w' : World) : Prop :=
  ∃ (u1 u2 u4 dv : Value) (c : Con) (ds : List Int) (p' : Int), e = .returned (.tuple #[.agg #[.int .i64 c.kind, u1, u2, .int .i64 c.bound, u4], dv]) ∧ RdInts (av Q0 w') u1 c.vars ∧ RdInts (av Q0 w') u2 c.args ∧ RdRows (av Q0 w') u4 c.rows ∧ RdInts (av Q0 w') dv ds ∧ ConLe c 21 ∧ 1 ≤ ds.length ∧ ds.length ≤ 4 ∧ p ≤ p' ∧ p' ≤ p + s ∧ Rd n0 B p' w' ∧ Dn B w w'
theorem own_putR {W : World} {R base : Nat} {e : TypeId} {sz n : Nat} {v : Value} {xs : List Value} (h : W.ownsRow base e sz v n xs) (hR : R < base) (v0 v1 v2 v3 v4 : Value) : (putR W R v0 v1 v2 v3 v4).ownsRow base e sz v n xs := by
  have hk : ∀ (V : World) (j : Nat) (u : Value), V.ownsRow base e sz v n xs → (V.setCell ⟨R, j, none⟩ u).ownsRow base e sz v n xs := fun V j u hV => own_keepB hV (fun b hb => Below.heap_setCell _ _ _ _ (by show b ≠ R; have := (hV.lt b hb).1; omega))
  exact hk _ _ _ (hk _ _ _ (hk _ _ _ (hk _ _ _ (hk _ _ _ h))))

theorem own_base {base g n cap : Nat} {w : World} {e : TypeId} {sz : Nat} {a : Option Addr} {m : Nat} {xs : List Value} (h : w.ownsRow g e sz (.slice a m cap) n xs) (hg : base ≤ g) : w.ownsRow base e sz (.slice a m cap) n xs := by
  refine ⟨h.1, ?_⟩
  rcases h.2 with h0 | ⟨b, c, cur, e1, hb, h1⟩
  · exact .inl h0
  · exact .inr ⟨b, c, cur, e1, Nat.le_trans hg hb, h1⟩
theorem cad_of {Q0 : Nat → Bool} {n0 B : Nat} {p s : Int} {w W : World} {v dv : Value} {ds : List Int} (h : ConDn Q0 n0 B p s 21 w (.returned v) W) (hd : RdInts (av Q0 W) dv ds) (h1 : 1 ≤ ds.length) (h4 : ds.length ≤ 4) : CadDn Q0 n0 B p s w (.returned (.tuple #[v, dv])) W := by
  obtain ⟨u1, u2, u4, c, p', e, r1, r2, r4, hn, hv, hc, hp, hq, rd, dn⟩ := h
  injection e with e
  subst e
  exact ⟨u1, u2, u4, dv, c, ds, p', rfl, r1, r2, r4, hd, hc, h1, h4, hp, hq, rd, dn⟩

set_option maxRecDepth 100000 in
set_option maxHeartbeats 64000000 in
theorem cad_any (Q0 : Nat → Bool) (n0 B : Nat) (p : Int) (w : World) (hR : Rd n0 B p w) (hp : 0 ≤ p) (hp2 : p ≤ 10000) (hQB : Q0 B = true) (hQ0 : ∀ b, w.heap.size ≤ b → Q0 b = false) :
    Calls Try.prog 66 #[.pointer (some ⟨B, 0, none⟩)] w (CadDn Q0 n0 B p 200 w) := by
  obtain ⟨i0, hi, hz0, hz1, hz2⟩ := info_parts Try.info3
  have hlt := hR.lt
  have HQB := Lib.hid hQB
  have HQ0 := Lib.hid hQ0
  clear hQB hQ0
  obtain ⟨R, hRe⟩ : ∃ R, R = w.heap.size := ⟨_, rfl⟩
  obtain ⟨W1, hW1⟩ : ∃ W1, w.alloc (.cells #[.int .i64 0, .slice none 0 0, .slice none 0 0, .int .i64 0, .slice none 0 0] 26) = W1 := ⟨_, rfl⟩
  have b1 : Below w.heap.size w W1 := by rw [← hW1]; exact (Below.refl _ _).alloc (Nat.le_refl _) _
  have hbr : Blk5 W1 R 26 (.int .i64 0) (.slice none 0 0) (.slice none 0 0) (.int .i64 0) (.slice none 0 0) := by rw [← hW1, hRe]; exact Blk5.new w _ _ _ _ _ _
  have HBR := Lib.hid hbr
  have HRE := Lib.hid hRe
  have HR1 := Lib.hid (hR.below (b1.mono (by omega)))
  have HD1 := Lib.hid (Dn.of_below b1 (B := B))
  have HLT := Lib.hid hlt
  have HN0 := Lib.hid hR.1
  have HW1 := Lib.hid hW1
  clear hR hlt hW1 b1 hRe hbr
  go_enter Try.func66, Try.ntmps66
  go_wp2_with fail
  rw [HW1.out, ← HRE.out]
  clear HW1
  refine (pick_dn n0 B p 4 W1 HR1.out (by omega) (by omega) (by omega)).mono ?_
  rintro e w2 ⟨x, rfl, hx0, hx1, r2, d2⟩
  obtain ⟨k, rfl⟩ := Int.eq_ofNat_of_zero_le hx0
  have hk4 : k < 4 := by omega
  have hbr2 : Blk5 w2 R 26 (.int .i64 0) (.slice none 0 0) (.slice none 0 0) (.int .i64 0) (.slice none 0 0) := (d2.block R HBR.out.lt (by have := HLT.out; have := HRE.out; omega)).trans HBR.out
  have hR2 := r2.lt
  have HS2 := Lib.hid (show B + 1 ≤ w2.heap.size ∧ R < w2.heap.size ∧ w.heap.size ≤ w2.heap.size from ⟨hR2, hbr2.lt, (HD1.out.trans d2).size⟩)
  have hk1 : (1 : Int) + (k : Int) = ((k + 1 : Nat) : Int) := by omega
  have HK1 := Lib.hid hk1
  have HR2 : Hid (Rd n0 B (p + 1) (w2.alloc (.cells #[] 3))) := Lib.hid (r2.below ((Below.refl (B + 1) w2).alloc hR2 _))
  have HO2 : Hid ((w2.alloc (.cells #[] 3)).ownsRow w2.heap.size 3 1 (.slice (some ⟨w2.heap.size, 0, none⟩) 0 0) 0 []) := Lib.hid (ownsRow_made w2 3)
  have HD2 : Hid (Dn B w (w2.alloc (.cells #[] 3))) := Lib.hid ((HD1.out.trans d2).alloc _)
  have HB2 : Hid (Blk5 (w2.alloc (.cells #[] 3)) R 26 (.int .i64 0) (.slice none 0 0) (.slice none 0 0) (.int .i64 0) (.slice none 0 0)) := Lib.hid (hbr2.alloc _)
  clear r2 d2 hx0 hx1 HR1 HD1 HBR hbr2 hR2 hk1
  go_wp2_with fail
  rw [HK1.out]
  obtain ⟨n, hn⟩ : ∃ n, n = k + 1 := ⟨_, rfl⟩
  rw [← hn]
  have hn1 : 1 ≤ n := by omega
  have hn4 : n ≤ 4 := by omega
  clear HK1 hn hk4
  go_loopw [5, 6] (fun o i wr => ∃ (j : Nat) (ds : List Int) (q : Int), j ≤ n ∧ i = .int .i64 j ∧ p ≤ q ∧ q ≤ p + 1 + 3 * j ∧ Hid (ds.length = j) ∧ Hid (wr.ownsRow w2.heap.size 3 1 o ds.length (ds.map (Value.int .i64))) ∧ Hid (Rd n0 B q wr) ∧ Hid (Dn B w wr) ∧ Hid (Blk5 wr R 26 (.int .i64 0) (.slice none 0 0) (.slice none 0 0) (.int .i64 0) (.slice none 0 0)) ∧ Hid (w2.heap.size ≤ wr.heap.size)) (fun _ i _ => n - (intOf i).toNat)
  case atStart => exact ⟨0, [], p + 1, Nat.zero_le _, rfl, by omega, by omega, Lib.hid rfl, HO2, HR2, HD2, HB2, Lib.hid (by simp)⟩
  case round =>
    obtain ⟨j, ds, q, hj, rfl, hq0, hq1, HDL, HO, HR, HD, HBB, HSZ⟩ := hrel
    by_cases hjn : j < n
    · go_wp2_with fail
      refine (randomDomain_dn n0 B q wr HR.out (by omega) (by omega)).mono ?_
      rintro e w4 ⟨x, q', rfl, hq2, hq3, r4, d4⟩
      have hown := own_dn HO.out (by have := HS2.out; omega) d4
      have hxl : ds.length ≤ 1000 := by have := HDL.out; omega
      have hd4 := HD.out.trans d4
      have hbb := (d4.block R HBB.out.lt (by have := HLT.out; have := HRE.out; omega)).trans HBB.out
      have hs4 : w2.heap.size ≤ w4.heap.size := Nat.le_trans HSZ.out d4.size
      have HR4 := Lib.hid r4
      clear r4 d4 HO HR HD HBB HO2 HR2 HD2 HB2 HSZ
      go_wp2_with (at_builtin; refine wpList_append_own _ rfl _ _ 23 rfl w2.heap.size 3 i0 (.int .i64 0) 1 8 Try.underlying23 hi hz0 hz1 hz2 rfl (by decide) _ _ _ rfl (hown.alloc _) ⟨w4.heap.size, 0, none⟩ 1 1 [.int .i64 x] rfl rfl (cell_one_new _ _ _) (by simp [Value.oneCell']) (by unfold maxLen; omega) (by omega) (by simp; omega) ?_; intro v' w6 hown' hgrow _)
      have hge : ∀ q, Value.ownBlock _ = some q → w2.heap.size ≤ q := fun q e => (hown.lt q e).1
      have hd6 := (hd4.alloc _).grown hgrow (fun q e => by have := hge q e; have := HS2.out; omega)
      have hb6 := ((Below.refl (B + 1) w4).alloc (by have := HS2.out; omega) _).grown hgrow (by simp; have := HS2.out; omega) (fun q e => by have := hge q e; have := HS2.out; omega)
      have hb7 := ((Below.refl w2.heap.size w4).alloc hs4 _).grown hgrow (by simp; omega) hge
      have HR6 := Lib.hid (HR4.out.below hb6)
      have HD6 := Lib.hid hd6
      have HO6 := Lib.hid hown'
      have HB6 := Lib.hid ((hb7.block R HS2.out.2.1).trans hbb)
      have HS6 := Lib.hid (Nat.le_trans hs4 hb7.size)
      clear hown hown' hgrow hd4 hd6 hb6 hb7 hge HR4 hbb hs4
      go_wp2
      go_roundw
      case rel => exact ⟨j + 1, ds ++ [x], q', by omega, by go_num, by omega, by omega, Lib.hid (by simp [HDL.out]), Lib.hid (by rw [List.length_append, List.map_append]; exact HO6.out), HR6, HD6, HB6, HS6⟩
      case measure => simp [intOf]; omega
    · have hdl : ds.length ≤ 4 ∧ 1 ≤ ds.length := by have := HDL.out; omega
      have HDN : Hid (ds.length = n) := Lib.hid (by have := HDL.out; omega)
      obtain ⟨ga, gc, rfl⟩ := own_some HO.out (by have := HDL.out; omega)
      have HDB := Lib.hid hdl
      clear hdl HDL HO2 HR2 HD2 HB2
      go_wp2_with fail
      refine (pick_dn n0 B q 14 wr HR.out (by omega) (by omega) (by omega)).mono ?_
      rintro e w5 ⟨x, rfl, hx0, hx1, r5, d5⟩
      have HO5 := Lib.hid (own_dn HO.out (by have := HS2.out; omega) d5)
      have HD5 := Lib.hid (HD.out.trans d5)
      have HB5 := Lib.hid ((d5.block R HBB.out.lt (by have := HLT.out; have := HRE.out; omega)).trans HBB.out)
      have HS5 := Lib.hid (Nat.le_trans HSZ.out d5.size)
      have HR5 := Lib.hid r5
      clear r5 d5 HO HR HD HBB HSZ hx0 hx1
      have HB5' : Hid (Blk5 w5 R 26 (.int .i64 0) (.slice none 0 0) (.slice none 0 0) (.int .i64 0) (.slice none 0 0)) := Lib.hid HB5.out
      cases hx : (x == 0)
      · clear HB5
        go_wp2_with fail
        refine (anyConstraint_any (fun b => Q0 b || b == R) n0 B n (q + 1) w5 HR5.out (by omega) (by omega) hn1 hn4 (by simp [HQB.out]) (fun b hb => by
          have h1 : Q0 b = false := HQ0.out b (Nat.le_trans HD5.out.size hb)
          have h2 : b ≠ R := by have := HS2.out; have := HS5.out; omega
          simp [h1, h2])).mono ?_
        rintro e w8 ⟨u1, u2, u4, c, p8, rfl, r1, r2, r4, hnil, hv, hc, hp8, hp8', rd, d⟩
        obtain ⟨a1, vc, e1, -, -, -⟩ := id r1
        obtain ⟨a2, ac, e2, -, -, -⟩ := id r2
        obtain ⟨a4, rc, e4, -, -, -⟩ := id r4
        obtain ⟨vn, hvn⟩ : ∃ n, n = c.vars.length := ⟨_, rfl⟩
        obtain ⟨an, han⟩ : ∃ n, n = c.args.length := ⟨_, rfl⟩
        obtain ⟨rn, hrn⟩ : ∃ n, n = c.rows.length := ⟨_, rfl⟩
        rw [← hvn] at e1
        rw [← han] at e2
        rw [← hrn] at e4
        subst e1 e2 e4
        obtain ⟨C, hCe⟩ : ∃ C, C = w8.heap.size := ⟨_, rfl⟩
        have hbr8 : Blk5 w8 R 26 (.int .i64 0) (.slice none 0 0) (.slice none 0 0) (.int .i64 0) (.slice none 0 0) := (d.block R (by have := HS2.out; have := HS5.out; omega) (by have := HLT.out; have := HRE.out; omega)).trans HB5'.out
        have hdn8 : Dn B w w8 := HD5.out.trans d
        have hk : KP Q0 B R C n0 w := ⟨HLT.out, by rw [HRE.out]; exact Nat.le_refl _, by rw [hCe]; exact hdn8.size, by have := hbr8.lt; omega, HN0.out, HQB.out, HQ0.out⟩
        have hinc : Inc (av (fun b => Q0 b || b == R) w8) (av (qs Q0 R C) w8) := av_new (Below.refl _ _) (fun b hb hq => by simp at hq; exact qs_no hq.1 hq.2 (by omega))
        have HF := Lib.hid (conDn_put (p := p) (s := 200) hk (r1.inc hinc) (r2.inc hinc) (r4.inc hinc) rd hdn8 hv hc (by omega) (by omega) hnil)
        have ho8 := own_dn HO5.out (by have := HS2.out; omega) d
        have hdv := rdInts_of_own (own_av (Q := Q0) (own_putR ho8 HS2.out.2.1 (.int .i64 c.kind) (.slice a1 vn vc) (.slice a2 an ac) (.int .i64 c.bound) (.slice a4 rn rc)) (fun k hk => HQ0.out k (Nat.le_trans HS2.out.2.2 hk)))
        have HF2 := Lib.hid (cad_of HF.out hdv (by have := HDB.out; omega) (by have := HDB.out; omega))
        obtain ⟨o0, o1, o2, o3, o4⟩ := hbr8.cell
        obtain ⟨f0, f1, f2, f3, f4⟩ := hbr8.frozen
        have HQ := Lib.hid (putR_blk hbr8 (.int .i64 c.kind) (.slice a1 vn vc) (.slice a2 an ac) (.int .i64 c.bound) (.slice a4 rn rc)).cell
        clear hbr8 hdn8 hk hinc ho8 hdv HF r1 r2 r4 rd d hv hc hnil hvn han hrn hCe hp8 hp8'
        go_wp2
        have hq := HQ.out
        simp only [putR] at hq
        obtain ⟨q0, q1, q2, q3, q4⟩ := hq
        refine bodyPost_ret (v := .tuple #[.agg #[.int .i64 c.kind, .slice a1 vn vc, .slice a2 an ac, .int .i64 c.bound, .slice a4 rn rc], .slice (some ⟨ga, 0, none⟩) ds.length gc]) (by simp [results, Try.results66, go_sem, q0, q1, q2, q3, q4]) rfl ?_
        exact HF2.out
      · obtain ⟨g, cg, eg, hg, hxt⟩ := xt_of_own HO5.out (by have := HDB.out; omega)
        simp at eg
        obtain ⟨rfl, rfl⟩ := eg
        have HXT := Lib.hid hxt
        have HG := Lib.hid hg
        clear HB5 HO5 hxt hg
        go_wp2_with fail
        refine (anyDomain_dn n0 B (q + 1) w5 HR5.out (by omega) (by omega)).mono ?_
        rintro e w6 ⟨y, q', rfl, hq2, hq3, r6, d6⟩
        have hgl := HXT.out.lt
        have hx6 : XT ga gc ds w6 := HXT.out.keep (d6.block ga hgl (by have := HS2.out; have := HG.out; omega))
        have k1 := hx6.at (i := 0) (by have := HDB.out; omega)
        have k2 := hx6.unfrozen 0
        have HX7 := Lib.hid (hx6.set (i := 0) (by have := HDB.out; omega) y)
        have HL7 := Lib.hid (show (ds.set 0 y).length = ds.length from List.length_set)
        have hd6 := HD5.out.trans d6
        have hb6 : Below w2.heap.size w6 (w6.setCell ⟨ga, 0, none⟩ (.int .i64 y)) := (Below.refl _ w6).setCell (by show _ ≤ ga; exact HG.out) _
        have HR7 : Hid (Rd n0 B q' (w6.setCell ⟨ga, 0, none⟩ (.int .i64 y))) := Lib.hid (r6.below (hb6.mono HS2.out.1))
        have HD7 : Hid (Dn B w (w6.setCell ⟨ga, 0, none⟩ (.int .i64 y))) := Lib.hid (hd6.lowB hb6 HS2.out.2.2)
        have HB7 : Hid (Blk5 (w6.setCell ⟨ga, 0, none⟩ (.int .i64 y)) R 26 (.int .i64 0) (.slice none 0 0) (.slice none 0 0) (.int .i64 0) (.slice none 0 0)) := Lib.hid ((hb6.block R HS2.out.2.1).trans ((d6.block R (by have := HS2.out; have := HS5.out; omega) (by have := HLT.out; have := HRE.out; omega)).trans HB5'.out))
        have HS7 : Hid (w2.heap.size ≤ (w6.setCell ⟨ga, 0, none⟩ (.int .i64 y)).heap.size) := Lib.hid (Nat.le_trans (Nat.le_trans HS5.out d6.size) hb6.size)
        have HO7 : Hid ((w6.setCell ⟨ga, 0, none⟩ (.int .i64 y)).ownsRow w2.heap.size 3 1 (.slice (some ⟨ga, 0, none⟩) ds.length gc) (ds.set 0 y).length ((ds.set 0 y).map (Value.int .i64))) := Lib.hid (by
          have h := own_base HX7.out HG.out
          rw [HL7.out] at h ⊢
          exact h)
        have hl0 : 0 < ds.length := by have := HDB.out; omega
        clear HXT hgl hx6 HX7 hd6 hb6 r6 d6 HR5 HD5 HB5' HS5
        go_wp2_with fail
        refine (anyConstraint_any (fun b => Q0 b || b == R) n0 B n (q') _ HR7.out (by omega) (by omega) hn1 hn4 (by simp [HQB.out]) (fun b hb => by
          have h1 : Q0 b = false := HQ0.out b (Nat.le_trans HD7.out.size hb)
          have h2 : b ≠ R := by have := HS2.out; have := HS7.out; omega
          simp [h1, h2])).mono ?_
        rintro e w8 ⟨u1, u2, u4, c, p8, rfl, r1, r2, r4, hnil, hv, hc, hp8, hp8', rd, d⟩
        obtain ⟨a1, vc, e1, -, -, -⟩ := id r1
        obtain ⟨a2, ac, e2, -, -, -⟩ := id r2
        obtain ⟨a4, rc, e4, -, -, -⟩ := id r4
        obtain ⟨vn, hvn⟩ : ∃ n, n = c.vars.length := ⟨_, rfl⟩
        obtain ⟨an, han⟩ : ∃ n, n = c.args.length := ⟨_, rfl⟩
        obtain ⟨rn, hrn⟩ : ∃ n, n = c.rows.length := ⟨_, rfl⟩
        rw [← hvn] at e1
        rw [← han] at e2
        rw [← hrn] at e4
        subst e1 e2 e4
        obtain ⟨C, hCe⟩ : ∃ C, C = w8.heap.size := ⟨_, rfl⟩
        have hbr8 : Blk5 w8 R 26 (.int .i64 0) (.slice none 0 0) (.slice none 0 0) (.int .i64 0) (.slice none 0 0) := (d.block R (by have := HS2.out; have := HS7.out; omega) (by have := HLT.out; have := HRE.out; omega)).trans HB7.out
        have hdn8 : Dn B w w8 := HD7.out.trans d
        have hk : KP Q0 B R C n0 w := ⟨HLT.out, by rw [HRE.out]; exact Nat.le_refl _, by rw [hCe]; exact hdn8.size, by have := hbr8.lt; omega, HN0.out, HQB.out, HQ0.out⟩
        have hinc : Inc (av (fun b => Q0 b || b == R) w8) (av (qs Q0 R C) w8) := av_new (Below.refl _ _) (fun b hb hq => by simp at hq; exact qs_no hq.1 hq.2 (by omega))
        have HF := Lib.hid (conDn_put (p := p) (s := 200) hk (r1.inc hinc) (r2.inc hinc) (r4.inc hinc) rd hdn8 hv hc (by omega) (by omega) hnil)
        have ho8 := own_dn HO7.out (by have := HS2.out; omega) d
        have hdv := rdInts_of_own (own_av (Q := Q0) (own_putR ho8 HS2.out.2.1 (.int .i64 c.kind) (.slice a1 vn vc) (.slice a2 an ac) (.int .i64 c.bound) (.slice a4 rn rc)) (fun k hk => HQ0.out k (Nat.le_trans HS2.out.2.2 hk)))
        have HF2 := Lib.hid (cad_of HF.out hdv (by have := HDB.out; have := HL7.out; omega) (by have := HDB.out; have := HL7.out; omega))
        obtain ⟨o0, o1, o2, o3, o4⟩ := hbr8.cell
        obtain ⟨f0, f1, f2, f3, f4⟩ := hbr8.frozen
        have HQ := Lib.hid (putR_blk hbr8 (.int .i64 c.kind) (.slice a1 vn vc) (.slice a2 an ac) (.int .i64 c.bound) (.slice a4 rn rc)).cell
        clear hbr8 hdn8 hk hinc ho8 hdv HF r1 r2 r4 rd d hv hc hnil hvn han hrn hCe hp8 hp8'
        go_wp2
        have hq := HQ.out
        simp only [putR] at hq
        obtain ⟨q0, q1, q2, q3, q4⟩ := hq
        refine bodyPost_ret (v := .tuple #[.agg #[.int .i64 c.kind, .slice a1 vn vc, .slice a2 an ac, .int .i64 c.bound, .slice a4 rn rc], .slice (some ⟨ga, 0, none⟩) ds.length gc]) (by simp [results, Try.results66, go_sem, q0, q1, q2, q3, q4]) rfl ?_
        exact HF2.out
end Go.Proofs.Ytolfjkdkbiicmaa

