/- The law of promise 20: filtering twice is filtering once. -/
import Derived.Test.YtolfjkdkbiicmaaDrFil
import Derived.Test.YtolfjkdkbiicmaaLwI
import Derived.Test.YtolfjkdkbiicmaaPrP
import Derived.Test.YtolfjkdkbiicmaaSupS
namespace Go.Proofs.Ytolfjkdkbiicmaa
open Go.ChangeShapes Go.WideShapes Go.ChangeAt Go.RowKit Go.Deep Go.Shelf
set_option linter.unusedVariables false
set_option linter.unusedSimpArgs false

/-- A slice of m numbers that reads as xs comes back; what was there stays. -/
def FiPost (xs : List Int) (m : Nat) (w : World) (e : Ending) (w' : World) : Prop :=
  ∃ (ao : Option Addr) (co : Nat), e = .returned (.slice ao m co) ∧ RdInts w' (.slice ao m co) xs ∧ Below w.heap.size w w'
theorem fiPost_of {xs : List Int} {m : Nat} {w w' : World} {e : Ending} (hm : m = xs.length) (h : IntsPost xs w e w') : FiPost xs m w e w' := by
  obtain ⟨v, rfl, ho, hb⟩ := h
  have hr := rdInts_of_own ho
  obtain ⟨a, c, rfl, -⟩ := id hr
  rw [← hm] at hr ⊢
  exact ⟨a, c, rfl, hr, hb⟩

set_option maxRecDepth 100000 in
set_option maxHeartbeats 16000000 in
theorem law_ffi (a : Option Addr) (len cap : Nat) (w : World) (h : CodeOk w.heap.size w a len cap) :
    Calls Try.prog 3 #[.slice a len cap] w fun e w' => e = .returned (.bool true) ∧ Below w.heap.size w w' := by
  have hl0 := h.1
  have hm0 := h.2.1
  unfold maxLen at hm0
  have HK := Lib.hid h
  clear h
  by_cases hbig : 1048576 < len
  · go_enter Try.func3, Try.ntmps3
    go_wp2
    go_ret
    exact ⟨rfl, Below.refl _ _⟩
  go_enter Try.func3, Try.ntmps3
  go_wp2_with fail
  refine (drawFil_any a len cap w HK.out).mono ?_
  rintro e w1 ⟨u1, u2, u4, dv, c, ds, rfl, r1, r2, r4, rd, hc, h1, h4, b1⟩
  obtain ⟨a1, vc, e1, -, -, -⟩ := id r1
  obtain ⟨a2, ac, e2, -, -, -⟩ := id r2
  obtain ⟨a4, rc, e4, -, -, -⟩ := id r4
  obtain ⟨a5, dc, e5, -, -, -⟩ := id rd
  obtain ⟨vn, hvn⟩ : ∃ n, n = c.vars.length := ⟨_, rfl⟩
  obtain ⟨an, han⟩ : ∃ n, n = c.args.length := ⟨_, rfl⟩
  obtain ⟨rn, hrn⟩ : ∃ n, n = c.rows.length := ⟨_, rfl⟩
  obtain ⟨dn, hdn⟩ : ∃ n, n = ds.length := ⟨_, rfl⟩
  rw [← hvn] at e1
  rw [← han] at e2
  rw [← hrn] at e4
  rw [← hdn] at e5
  subst e1 e2 e4 e5
  obtain ⟨C, hCe⟩ : ∃ C, C = w1.heap.size := ⟨_, rfl⟩
  obtain ⟨Wk, hWk⟩ : ∃ Wk, w1.alloc (.cells #[.int .i64 c.kind, .slice a1 vn vc, .slice a2 an ac, .int .i64 c.bound, .slice a4 rn rc] 26) = Wk := ⟨_, rfl⟩
  have hbw : Below w1.heap.size w1 Wk := by rw [← hWk]; exact (Below.refl _ _).alloc (Nat.le_refl _) _
  have hbk : Blk5 Wk C 26 (.int .i64 c.kind) (.slice a1 vn vc) (.slice a2 an ac) (.int .i64 c.bound) (.slice a4 rn rc) := by rw [← hWk, hCe]; exact Blk5.new w1 _ _ _ _ _ _
  have hrc : RdCon w1 (.agg #[.int .i64 c.kind, .slice a1 vn vc, .slice a2 an ac, .int .i64 c.bound, .slice a4 rn rc]) c := ⟨_, _, _, rfl, r1, r2, r4⟩
  obtain ⟨cv, hcv⟩ : ∃ cv, cv = Value.agg #[.int .i64 c.kind, .slice a1 vn vc, .slice a2 an ac, .int .i64 c.bound, .slice a4 rn rc] := ⟨_, rfl⟩
  rw [← hcv] at hrc
  obtain ⟨fl, hfl⟩ : ∃ fl, fl = fltL c ds := ⟨_, rfl⟩
  obtain ⟨m, hm⟩ : ∃ m, m = fl.length := ⟨_, rfl⟩
  have hcl : c.vars.length ≤ 1048576 := by have := hc.1; omega
  have HCV := Lib.hid hcv
  have HI : Hid (∀ W, RdCon W cv c → RdInts W (.slice a5 dn dc) ds → Calls Try.prog 16 #[.agg #[.int .i64 c.kind, .slice a1 vn vc, .slice a2 an ac, .int .i64 c.bound, .slice a4 rn rc], .slice a5 dn dc] W (FiPost fl m W)) :=
    Lib.hid (fun W x1 x2 => by rw [← hcv]; exact (iFilter_any c cv _ ds W x1 x2 hcl).mono (fun e W' hp => fiPost_of hm (by rw [hfl]; exact hp)))
  have HS : Hid (∀ W, RdCon W cv c → RdInts W (.slice a5 dn dc) ds → Calls Try.prog 18 #[.agg #[.int .i64 c.kind, .slice a1 vn vc, .slice a2 an ac, .int .i64 c.bound, .slice a4 rn rc], .slice a5 dn dc] W (FiPost fl m W)) :=
    Lib.hid (fun W x1 x2 => by rw [← hcv]; exact (sFilter_any c cv _ ds W x1 x2 hcl).mono (fun e W' hp => fiPost_of hm (by rw [hfl]; exact hp)))
  have HE : Hid (∀ W x y, RdInts W x fl → RdInts W y fl → Calls Try.prog 17 #[x, y] W (fun e W' => e = .returned (.bool true) ∧ Below W.heap.size W W')) :=
    Lib.hid (fun W x y x1 x2 => (equalInts_any x y fl fl W x1 x2).mono (fun e W' hp => ⟨by rw [hp.1]; simp, hp.2⟩))
  have HI2 : Hid (m ≠ 0 → ∀ W ao co, RdCon W cv c → RdInts W (.slice ao m co) fl → Calls Try.prog 16 #[.agg #[.int .i64 c.kind, .slice a1 vn vc, .slice a2 an ac, .int .i64 c.bound, .slice a4 rn rc], .slice ao m co] W (FiPost fl m W)) :=
    Lib.hid (fun hm0 W ao co x1 x2 => by
      have hid : fltL c fl = fl := by
        rw [hfl]
        exact flt_idem (okB_of_len (by rw [← hfl, ← hm]; exact hm0))
      rw [← hcv]
      exact (iFilter_any c cv _ fl W x1 x2 hcl).mono (fun e W' hp => fiPost_of hm (by rw [hid] at hp; exact hp)))
  have HBK := Lib.hid hbk
  have HRC := Lib.hid (hrc.below hbw)
  have HRD := Lib.hid (rd.below hbw)
  have HB := Lib.hid (b1.trans (hbw.mono b1.size))
  have HWK := Lib.hid hWk
  have HCE := Lib.hid hCe
  clear r1 r2 r4 rd hc h1 h4 b1 hvn han hrn hdn hCe hWk hbw hbk hrc hcv hfl hm hcl
  have hcell := HBK.out.cell
  rw [HCE.out] at hcell
  obtain ⟨p0, p1, p2, p3, p4⟩ := hcell
  go_wp2_with (rw [HWK.out])
  rw [← HCE.out]
  clear HWK
  refine (HI.out Wk HRC.out HRD.out).mono ?_
  rintro e w2 ⟨ao, co, rfl, ro, b2⟩
  clear p0 p1 p2 p3 p4 HCE
  have HO2 := Lib.hid ro
  have HBK2 := Lib.hid (HBK.out.below b2)
  have HRC2 := Lib.hid (HRC.out.below b2)
  have HRD2 := Lib.hid (HRD.out.below b2)
  have HB2 := Lib.hid (HB.out.trans (b2.mono HB.out.size))
  obtain ⟨p0, p1, p2, p3, p4⟩ := HBK2.out.cell
  clear ro b2 HBK HRC HRD HB
  go_wp2_with fail
  refine (HS.out w2 HRC2.out HRD2.out).mono ?_
  rintro e w3 ⟨a6, c6, rfl, r6, b3⟩
  clear p0 p1 p2 p3 p4
  have HO3 := Lib.hid (HO2.out.below b3)
  have HR6 := Lib.hid r6
  have HBK3 := Lib.hid (HBK2.out.below b3)
  have HRC3 := Lib.hid (HRC2.out.below b3)
  have HRD3 := Lib.hid (HRD2.out.below b3)
  have HB3 := Lib.hid (HB2.out.trans (b3.mono HB2.out.size))
  clear r6 b3 HO2 HBK2 HRC2 HRD2 HB2
  go_wp2_with fail
  refine (HE.out w3 _ _ HO3.out HR6.out).mono ?_
  rintro e w4 ⟨rfl, b4⟩
  have HO4 := Lib.hid (HO3.out.below b4)
  have HBK4 := Lib.hid (HBK3.out.below b4)
  have HRC4 := Lib.hid (HRC3.out.below b4)
  have HRD4 := Lib.hid (HRD3.out.below b4)
  have HB4 := Lib.hid (HB3.out.trans (b4.mono HB3.out.size))
  obtain ⟨p0, p1, p2, p3, p4⟩ := HBK4.out.cell
  clear b4 HO3 HR6 HBK3 HRC3 HRD3 HB3
  by_cases hz : m = 0
  · have hz1 : ((m : Int) == 0) = true := by rw [hz]; rfl
    clear hz
    go_wp2_with fail
    refine (HS.out w4 HRC4.out HRD4.out).mono ?_
    rintro e w5 ⟨a7, c7, rfl, r7, b5⟩
    clear p0 p1 p2 p3 p4
    have HO5 := Lib.hid (HO4.out.below b5)
    have HR7 := Lib.hid r7
    have HB5 := Lib.hid (HB4.out.trans (b5.mono HB4.out.size))
    clear r7 b5 HO4 HBK4 HRC4 HRD4 HB4
    go_wp2_with fail
    refine (HE.out w5 _ _ HO5.out HR7.out).mono ?_
    rintro e w6 ⟨rfl, b6⟩
    have HB6 := Lib.hid (HB5.out.trans (b6.mono HB5.out.size))
    clear b6 HO5 HR7 HB5
    go_wp2
    go_ret
    exact ⟨rfl, HB6.out⟩
  · have hz1 : ((m : Int) == 0) = false := by simp; omega
    have HZ := Lib.hid hz
    clear hz
    go_wp2_with fail
    refine (HI2.out HZ.out w4 _ _ HRC4.out HO4.out).mono ?_
    rintro e w5 ⟨a7, c7, rfl, r7, b5⟩
    clear p0 p1 p2 p3 p4
    have HO5 := Lib.hid (HO4.out.below b5)
    have HR7 := Lib.hid r7
    have HB5 := Lib.hid (HB4.out.trans (b5.mono HB4.out.size))
    clear r7 b5 HO4 HBK4 HRC4 HRD4 HB4
    go_wp2_with fail
    refine (HE.out w5 _ _ HR7.out HO5.out).mono ?_
    rintro e w6 ⟨rfl, b6⟩
    have HB6 := Lib.hid (HB5.out.trans (b6.mono HB5.out.size))
    clear b6 HO5 HR7 HB5
    go_wp2
    go_ret
    exact ⟨rfl, HB6.out⟩
end Go.Proofs.Ytolfjkdkbiicmaa
