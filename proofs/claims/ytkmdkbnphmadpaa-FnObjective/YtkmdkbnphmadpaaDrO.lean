/- Draws of objectives. -/
import Derived.Test.YtkmdkbnphmadpaaDrL
import Derived.Test.YtkmdkbnphmadpaaObj
import Derived.Test.YtkmdkbnphmadpaaFi
namespace Go.Proofs.Ytkmdkbnphmadpaa
open Go.ChangeShapes Go.WideShapes Go.ChangeAt Go.RowKit
set_option linter.unusedVariables false
set_option linter.unusedSimpArgs false

theorem own_keepD {w w' : World} {B : Nat} {e : TypeId} {sz n : Nat} {v : Value} {xs : List Value} (h : w.ownsRow B e sz v n xs) (hk : ∀ b, v.ownBlock = some b → w'.heap[b]? = w.heap[b]?) : w'.ownsRow B e sz v n xs := by
  refine ⟨h.1, ?_⟩
  rcases h.2 with h2 | ⟨g, cap, cur, e, h3, hg, rest⟩
  · exact .inl h2
  · exact .inr ⟨g, cap, cur, e, h3, (hk g (by rw [e]; rfl)).trans hg, rest⟩

set_option maxRecDepth 100000 in
set_option maxHeartbeats 4000000 in
theorem objective_any (n0 B k : Nat) (p : Int) (w : World) (hR : Rd n0 B p w) (hp : 0 ≤ p) (hp2 : p ≤ 10000000) (hk : k ≤ 1000) :
    Calls Try.prog 95 #[.pointer (some ⟨B, 0, none⟩), .int .i64 k] w (RowDrawn n0 B p (k + 1) (fun xs => xs.length ≤ k + 1) w) := by
  obtain ⟨i0, hi, hz0, hz1, hz2⟩ := info_parts Try.info3
  have hlt := hR.lt
  have HR0 := Lib.hid (hR.below ((Below.refl _ w).alloc (by omega) (.cells #[] 3)))
  have HO0 := Lib.hid (ownsRow_made w 3)
  have HD0 := Lib.hid ((Dn.refl B w).alloc (.cells #[] 3))
  have HLT := Lib.hid hlt
  clear hR hlt
  go_enter Try.func95, Try.ntmps95
  go_wp2
  go_loopw [5, 6] (fun o i wr => ∃ (j : Nat) (xs : List Int), j ≤ k ∧ i = .int .i64 j ∧ Hid (xs.length = j) ∧ Hid (wr.ownsRow w.heap.size 3 1 o xs.length (xs.map (Value.int .i64))) ∧ Hid (Rd n0 B (p + j) wr) ∧ Hid (Dn B w wr)) (fun _ i _ => k - (intOf i).toNat)
  case atStart => exact ⟨0, [], Nat.zero_le _, rfl, Lib.hid rfl, Lib.hid HO0.out, Lib.hid (by simpa using HR0.out), HD0⟩
  case round =>
    obtain ⟨j, xs, hj, rfl, HXL, HO, HR, HD⟩ := hrel
    by_cases hjk : j < k
    · obtain ⟨W3, hW3⟩ : ∃ W3, wr.alloc (.cells #[.int .i64 1, .int .i64 0, .int .i64 (-1), .int .i64 2, .int .i64 (-9), .int .i64 9] 3) = W3 := ⟨_, rfl⟩
      have q3 : W3.heap[wr.heap.size]? = some (.cells #[.int .i64 1, .int .i64 0, .int .i64 (-1), .int .i64 2, .int .i64 (-9), .int .i64 9] 3) := by rw [← hW3]; exact World.alloc_heap_new _ _
      have hc3 : ∀ i, i < 6 → W3.cell? ⟨wr.heap.size, i, none⟩ = some (.int .i64 (([1, 0, -1, 2, -9, 9] : List Int)[i]?.getD 0)) := fun i hi => by
        simp only [World.cell?, q3]
        have : i = 0 ∨ i = 1 ∨ i = 2 ∨ i = 3 ∨ i = 4 ∨ i = 5 := by omega
        rcases this with rfl | rfl | rfl | rfl | rfl | rfl <;> rfl
      have b3 : Below wr.heap.size wr W3 := by rw [← hW3]; exact (Below.refl _ _).alloc (Nat.le_refl _) _
      have hRl := HR.out.lt
      have HR3 := Lib.hid (HR.out.below (b3.mono (by omega)))
      have HD3 := Lib.hid (HD.out.trans (Dn.of_below b3))
      have HO3 := Lib.hid (own_below HO.out b3)
      have HC3 := Lib.hid hc3
      have HW3 := Lib.hid hW3
      have HNE := Lib.hid (show wr.heap.size ≠ B by omega)
      clear hW3 q3 hc3 b3 hRl HO HR HD
      go_wp2_with fail
      rw [HW3.out]
      refine (one_dn n0 B wr.heap.size 6 (p + j) (fun i => ([1, 0, -1, 2, -9, 9] : List Int)[i]?.getD 0) W3 HR3.out (by omega) (by omega) (by omega) (by omega) HNE.out HC3.out).mono ?_
      rintro e w1 ⟨i, hi6, rfl, r1, d1⟩
      obtain ⟨x, hx⟩ : ∃ x, x = ([1, 0, -1, 2, -9, 9] : List Int)[i]?.getD 0 := ⟨_, rfl⟩
      simp only [← hx]
      have hown := own_dn HO3.out HLT.out d1
      have hd1 := HD3.out.trans d1
      have HR1 := Lib.hid r1
      have HX1 := Lib.hid HXL.out
      have hxl : xs.length ≤ 1000 := by have := HXL.out; omega
      have hsz := hd1.size
      clear hx r1 d1 HR0 HO0 HD0 HO3 HR3 HD3 HC3 HW3 HNE
      go_wp2_with (at_builtin; refine wpList_append_own _ rfl _ _ 22 rfl w.heap.size 3 i0 (.int .i64 0) 1 8 Try.underlying22 hi hz0 hz1 hz2 rfl (by decide) _ _ _ rfl (hown.alloc _) ⟨w1.heap.size, 0, none⟩ 1 1 [.int .i64 x] rfl rfl (cell_one_new _ _ _) (by simp [Value.oneCell']) (by unfold maxLen; omega) (by omega) (by simp; omega) ?_; intro v' w6 hown' hgrow _)
      have hge : ∀ q, Value.ownBlock _ = some q → w.heap.size ≤ q := fun q e => (hown.lt q e).1
      have hd6 := (hd1.alloc _).grown hgrow hge
      have hb6 := ((Below.refl (B + 1) w1).alloc (by have := HLT.out; omega) _).grown hgrow (by simp; have := HLT.out; omega) (fun q e => by have := hge q e; have := HLT.out; omega)
      have HR6 := Lib.hid (HR1.out.below hb6)
      have HD6 := Lib.hid hd6
      have HO6 := Lib.hid hown'
      clear hown hown' hgrow hd1 hd6 hb6 hge HR1
      go_wp2
      go_roundw
      case rel => exact ⟨j + 1, xs ++ [x], by omega, by go_num, Lib.hid (by simp [HX1.out]), Lib.hid (by rw [List.length_append, List.map_append]; exact HO6.out), Lib.hid (by have := HR6.out; rw [Int.add_assoc] at this; exact this), HD6⟩
      case measure => simp [intOf]; omega
    · obtain rfl : k = j := by omega
      have hxl : xs.length ≤ 1000 := by have := HXL.out; omega
      clear HR0 HO0 HD0
      go_wp2_with fail
      refine (pick_dn n0 B (p + k) 14 wr HR.out (by omega) (by omega) (by omega)).mono ?_
      rintro e w1 ⟨x, rfl, hx0, hx1, r1, d1⟩
      have hown := own_dn HO.out HLT.out d1
      have hd1 := HD.out.trans d1
      have HR1 := Lib.hid r1
      have hsz := hd1.size
      clear r1 d1 HO HR HD
      cases hx : (x == 0)
      · have HO1 := Lib.hid hown
        have HD1 := Lib.hid hd1
        clear hown hd1
        go_wp2
        go_ret
        exact ⟨_, xs, _, rfl, by have := HXL.out; omega, HO1.out, by omega, by omega, HR1.out, HD1.out⟩
      · go_wp2_with (at_builtin; refine wpList_append_own _ rfl _ _ 22 rfl w.heap.size 3 i0 (.int .i64 0) 1 8 Try.underlying22 hi hz0 hz1 hz2 rfl (by decide) _ _ _ rfl (hown.alloc _) ⟨w1.heap.size, 0, none⟩ 1 1 [.int .i64 10] rfl rfl (cell_one_new _ _ _) (by simp [Value.oneCell']) (by unfold maxLen; omega) (by omega) (by simp; omega) ?_; intro v' w6 hown' hgrow _)
        have hge : ∀ q, Value.ownBlock _ = some q → w.heap.size ≤ q := fun q e => (hown.lt q e).1
        have hd6 := (hd1.alloc _).grown hgrow hge
        have hb6 := ((Below.refl (B + 1) w1).alloc (by have := HLT.out; omega) _).grown hgrow (by simp; have := HLT.out; omega) (fun q e => by have := hge q e; have := HLT.out; omega)
        have HR6 := Lib.hid (HR1.out.below hb6)
        have HD6 := Lib.hid hd6
        have HO6 := Lib.hid hown'
        clear hown hown' hgrow hd1 hd6 hb6 hge HR1
        go_ret
        exact ⟨_, xs ++ [10], _, rfl, by have := HXL.out; simp; omega, by rw [List.length_append, List.map_append]; exact HO6.out, by omega, by omega, HR6.out, HD6.out⟩

/-- Two lists that were drawn. -/
def TwoDrawn (w : World) (e : Ending) (w' : World) : Prop := ∃ (ov xv : Value) (o x : List Int), e = .returned (.tuple #[ov, xv]) ∧ RdInts w' ov o ∧ RdInts w' xv x ∧ o.length ≤ 10 ∧ x.length ≤ 10 ∧ Below w.heap.size w w'

set_option maxRecDepth 100000 in
set_option maxHeartbeats 4000000 in
theorem drawObj_any (a : Option Addr) (len cap : Nat) (w : World) (h : CodeOk w.heap.size w a len cap) :
    Calls Try.prog 44 #[.slice a len cap] w (TwoDrawn w) := by
  go_enter Try.func44, Try.ntmps44
  go_wp2_with fail
  refine (newReader_any w.heap.size a len cap w (Nat.le_refl _) h).mono ?_
  rintro e w1 ⟨rfl, hr, hb, hz⟩
  have HB1 := Lib.hid hb
  have HR1 := Lib.hid hr
  have HZ1 := Lib.hid hz
  clear hz h hr hb
  go_wp2_with fail
  refine (pick_dn w.heap.size w.heap.size 0 6 w1 HR1.out (by omega) (by omega) (by omega)).mono ?_
  rintro e w2 ⟨x, rfl, hx0, hx1, r2, d2⟩
  obtain ⟨k, rfl⟩ := Int.eq_ofNat_of_zero_le hx0
  have hk6 : k < 6 := by omega
  have HR2 := Lib.hid r2
  have HD2 := Lib.hid d2
  have HS2 := Lib.hid (show w.heap.size + 1 ≤ w2.heap.size by have := d2.size; have := HZ1.out; omega)
  have HB2 := Lib.hid (HB1.out.trans (d2.below (Nat.le_refl _) HB1.out.size))
  clear r2 d2 hx0 hx1 HR1
  go_wp2_with fail
  refine (objective_any w.heap.size w.heap.size k (0 + 1) w2 HR2.out (by omega) (by omega) (by omega)).mono ?_
  rintro e w3 ⟨ov, o, p3, rfl, ho3, oo3, hp3, hp3', r3, d3⟩
  have HR3 := Lib.hid r3
  have HO3 := Lib.hid oo3
  have HS3 := Lib.hid (show w2.heap.size ≤ w3.heap.size from d3.size)
  have HB3 := Lib.hid (HB2.out.trans (d3.below (Nat.le_refl _) HB2.out.size))
  clear r3 d3 oo3 HR2
  go_wp2_with fail
  refine (randomRow_any w.heap.size w.heap.size k p3 w3 HR3.out (by omega) (by omega) (by omega)).mono ?_
  rintro e w4 ⟨xv, xs, p4, rfl, hx4, ox4, hp4, hp4', r4, d4⟩
  have HR4 := Lib.hid r4
  have HO4 := Lib.hid (own_dn HO3.out (by have := HS2.out; omega) d4)
  have HX4 := Lib.hid ox4
  have HS4 := Lib.hid (show w3.heap.size ≤ w4.heap.size from d4.size)
  have HB4 := Lib.hid (HB3.out.trans (d4.below (Nat.le_refl _) HB3.out.size))
  have HXL := Lib.hid hx4
  have HGO : Hid (∀ b, ov.ownBlock = some b → b < w3.heap.size) := Lib.hid (fun b hb => (HO3.out.lt b hb).2)
  clear r4 d4 ox4 hx4 HR3 HO3
  go_wp2_with fail
  refine (pick_dn w.heap.size w.heap.size p4 10 w4 HR4.out (by omega) (by omega) (by omega)).mono ?_
  rintro e w5 ⟨y, rfl, hy0, hy1, r5, d5⟩
  have HR5 := Lib.hid r5
  have HO5 := Lib.hid (own_dn HO4.out (by have := HS2.out; omega) d5)
  have HX5 := Lib.hid (own_dn HX4.out (by have := HS2.out; have := HS3.out; omega) d5)
  have HB5 := Lib.hid (HB4.out.trans (d5.below (Nat.le_refl _) HB4.out.size))
  have HS5 := Lib.hid (show w4.heap.size ≤ w5.heap.size from d5.size)
  clear r5 d5 HR4 HO4 HX4 hy0 hy1
  have fin : ∀ {w9 : World} (x' : List Int), x'.length = k → w9.ownsRow w2.heap.size 3 1 ov o.length (o.map (Value.int .i64)) → w9.ownsRow w3.heap.size 3 1 xv x'.length (x'.map (Value.int .i64)) → Below w.heap.size w w9 → TwoDrawn w (.returned (.tuple #[ov, xv])) w9 := fun x' hl h1 h2 h3 => ⟨ov, xv, o, x', rfl, rdInts_of_own h1, rdInts_of_own h2, by omega, by omega, h3⟩
  have HFIN := Lib.hid (fun (w9 : World) (x' : List Int) => fin (w9 := w9) x')
  clear fin
  obtain ⟨oa, on, oc, eo⟩ := own_slice HO5.out
  obtain ⟨xa, xn, xc, ex⟩ := own_slice HX5.out
  cases hy : (y == 0)
  · subst eo ex
    go_wp2
    go_ret2
    exact HFIN.out _ xs HXL.out HO5.out HX5.out HB5.out
  · by_cases hk0 : k = 0
    · subst hk0
      subst eo ex
      go_wp2
      go_ret2
      exact HFIN.out _ xs HXL.out HO5.out HX5.out HB5.out
    · obtain ⟨gx, cx, ex', hgx, hxt⟩ := xt_of_own HX5.out (by have := HXL.out; omega)
      obtain ⟨W6, hW6⟩ : ∃ W6, w5.alloc (.cells #[.int .i64 (-1), .int .i64 6] 3) = W6 := ⟨_, rfl⟩
      have q6 : W6.heap[w5.heap.size]? = some (.cells #[.int .i64 (-1), .int .i64 6] 3) := by rw [← hW6]; exact World.alloc_heap_new _ _
      have hc6 : ∀ i, i < 2 → W6.cell? ⟨w5.heap.size, i, none⟩ = some (.int .i64 (([-1, 6] : List Int)[i]?.getD 0)) := fun i hi => by
        simp only [World.cell?, q6]
        have : i = 0 ∨ i = 1 := by omega
        rcases this with rfl | rfl <;> rfl
      have b6 : Below w5.heap.size w5 W6 := by rw [← hW6]; exact (Below.refl _ _).alloc (Nat.le_refl _) _
      have hRl := HR5.out.lt
      have HR6 := Lib.hid (HR5.out.below (b6.mono (by omega)))
      have HO6 := Lib.hid (own_below HO5.out b6)
      have HX6 := Lib.hid (hxt.keep (b6.block _ hxt.lt))
      have HC6 := Lib.hid hc6
      have HW6 := Lib.hid hW6
      have HB6 := Lib.hid (HB5.out.trans (b6.mono HB5.out.size))
      have HNE := Lib.hid (show w5.heap.size ≠ w.heap.size by omega)
      have HGX := Lib.hid (show w3.heap.size ≤ gx ∧ gx < w5.heap.size from ⟨hgx, hxt.lt⟩)
      obtain ⟨nx, hnx⟩ : ∃ nx, nx = xs.length := ⟨_, rfl⟩
      rw [← hnx] at ex'
      have hn0 : 0 < nx := by have := HXL.out; omega
      have HNX := Lib.hid hnx
      subst eo
      rw [ex'] at HX5 HFIN ⊢
      clear hW6 q6 hc6 b6 hRl hxt hgx ex ex' hnx
      go_wp2_with fail
      rw [HW6.out]
      refine (one_dn w.heap.size w.heap.size w5.heap.size 2 (p4 + 1) (fun i => ([-1, 6] : List Int)[i]?.getD 0) W6 HR6.out (by omega) (by omega) (by omega) (by omega) HNE.out HC6.out).mono ?_
      rintro e w7 ⟨i, hi2, rfl, r7, d7⟩
      obtain ⟨z, hz⟩ : ∃ z, z = ([-1, 6] : List Int)[i]?.getD 0 := ⟨_, rfl⟩
      simp only [← hz]
      have hs6 := HGX.out
      have hx7 : XT gx cx xs w7 := HX6.out.keep (d7.block gx HX6.out.lt (by have := HS2.out; have := HS3.out; omega))
      have k1 := hx7.at (i := 0) (by have := HNX.out; omega)
      have k2 := hx7.unfrozen 0
      have HX7 := Lib.hid hx7
      have HO7 := Lib.hid (own_dn HO6.out (by have := HS2.out; omega) d7)
      have HB7 := Lib.hid (HB6.out.trans (d7.below (Nat.le_refl _) HB6.out.size))
      clear hz r7 d7 hx7 HR6 HO6 HX6 HC6 HW6 hs6
      go_wp2
      go_ret2
      have hx8 := HX7.out.set (i := 0) (by have := HNX.out; omega) z
      have hl8 : (xs.set 0 z).length = nx := by rw [List.length_set]; exact HNX.out.symm
      refine HFIN.out _ (xs.set 0 z) (by rw [List.length_set]; exact HXL.out) (own_keepD HO7.out (fun b hb => Below.heap_setCell _ _ _ _ (by show b ≠ gx; have := HGO.out b hb; have := HGX.out; omega))) ?_ (HB7.out.setCell (by show _ ≤ gx; have := HS2.out; have := HS3.out; have := HGX.out; omega) _)
      have := own_of_xt hx8 (B := w3.heap.size) HGX.out.1
      rw [hl8] at this ⊢
      exact this
end Go.Proofs.Ytkmdkbnphmadpaa
