/- Draws of variables and of automata. Draws of automata. -/
import Derived.Test.YtjdbfiiaadphhaaDrL
import Derived.Test.YtjdbfiiaadphhaaFi
import Derived.Test.YtjdbfiiaadphhaaToE

/-! Draws of variables and of automata. -/
namespace Go.Proofs.Ytjdbfiiaadphhaa
open Go.ChangeShapes Go.WideShapes Go.ChangeAt Go.RowKit
set_option linter.unusedVariables false
set_option linter.unusedSimpArgs false

theorem own_one1 (w : World) (x : Value) (t : TypeId) : (w.alloc (.cells #[x] t)).ownsRow w.heap.size t 1 (.slice (some ⟨w.heap.size, 0, none⟩) 1 1) 1 [x] :=
  ⟨rfl, .inr ⟨w.heap.size, 1, _, rfl, Nat.le_refl _, World.alloc_heap_new w _, Nat.le_refl _, by unfold maxLen; omega, rfl, rfl⟩⟩
theorem wo_dn {B : Nat} {w w' : World} (h : Dn B w w') : Inc (wo B w) (wo B w') := wo_keep h.block
theorem rdInts_take {w : World} {g n c : Nat} {xs : List Int} (h : RdInts w (.slice (some ⟨g, 0, none⟩) n c) xs) {k : Nat} (hk : k ≤ n) : RdInts w (.slice (some ⟨g, 0, none⟩) k c) (xs.take k) := by
  obtain ⟨a, cap, e, h1, h2, h3⟩ := h
  simp at e
  obtain ⟨rfl, rfl, rfl⟩ := e
  have hl : (xs.take k).length = k := by simp; omega
  refine ⟨_, c, by rw [hl], by rw [hl]; omega, h2, ?_⟩
  by_cases h0 : k = 0
  · exact .inl (by rw [hl]; exact h0)
  · rcases h3 with h3 | ⟨b, off, ea, h3⟩
    · omega
    · refine .inr ⟨b, off, ea, fun i hi => ?_⟩
      rw [hl] at hi
      rw [List.getElem?_take_of_lt hi]
      exact h3 i (by omega)
/-- Variables that were drawn. -/
def VarsDn (n0 B : Nat) (p s : Int) (w : World) (e : Ending) (w' : World) : Prop :=
  ∃ (g n c : Nat) (xs : List Int) (p' : Int), e = .returned (.slice (some ⟨g, 0, none⟩) n c) ∧ n = xs.length ∧ 1 ≤ n ∧ n ≤ 4 ∧ (∀ Q : Nat → Bool, (∀ b, w.heap.size ≤ b → Q b = false) → RdInts (av Q w') (.slice (some ⟨g, 0, none⟩) n c) xs) ∧ p ≤ p' ∧ p' ≤ p + s ∧ Rd n0 B p' w' ∧ Dn B w w'

set_option maxRecDepth 100000 in
set_option maxHeartbeats 8000000 in
theorem someVars_any (n0 B n k : Nat) (p : Int) (w : World) (hR : Rd n0 B p w) (hp : 0 ≤ p) (hp2 : p ≤ 10000000) (hn : 1 ≤ n) (hn4 : n ≤ 4) (hk : 1 ≤ k) (hk4 : k ≤ 1000) :
    Calls Try.prog 168 #[.pointer (some ⟨B, 0, none⟩), .int .i64 n, .int .i64 k] w (VarsDn n0 B p n w) := by
  obtain ⟨i0, hi, hz0, hz1, hz2⟩ := info_parts Try.info3
  have hlt := hR.lt
  have HR0 := Lib.hid (hR.below ((Below.refl _ w).alloc (by omega) (.cells #[] 3)))
  have HO0 := Lib.hid (ownsRow_made w 3)
  have HD0 := Lib.hid ((Dn.refl B w).alloc (.cells #[] 3))
  have HLT := Lib.hid hlt
  clear hR hlt
  go_enter Try.func168, Try.ntmps168
  go_wp2
  go_loopw [7, 8] (fun o i wr => ∃ (j g c : Nat) (xs : List Int), j ≤ n ∧ i = .int .i64 j ∧ o = .slice (some ⟨g, 0, none⟩) j c ∧ j ≤ c ∧ c ≤ 9223372036854775807 ∧ Hid (xs.length = j) ∧ Hid (wr.ownsRow w.heap.size 3 1 (.slice (some ⟨g, 0, none⟩) j c) j (xs.map (Value.int .i64))) ∧ Hid (Rd n0 B (p + j) wr) ∧ Hid (Dn B w wr)) (fun _ i _ => n - (intOf i).toNat)
  case atStart => exact ⟨0, _, 0, [], Nat.zero_le _, rfl, rfl, Nat.le_refl _, by omega, Lib.hid rfl, Lib.hid HO0.out, Lib.hid (by simpa using HR0.out), HD0⟩
  case round =>
    obtain ⟨j, g, c, xs, hj, rfl, rfl, hjc, hcm, HXL, HO, HR, HD⟩ := hrel
    by_cases hjn : j < n
    · go_wp2_with fail
      refine (pick_dn n0 B (p + j) 2 wr HR.out (by omega) (by omega) (by omega)).mono ?_
      rintro e w1 ⟨x, rfl, hx0, hx1, r1, d1⟩
      have hown := own_dn HO.out HLT.out d1
      have hd1 := HD.out.trans d1
      have HR1 := Lib.hid r1
      have hsz := hd1.size
      clear hx0 hx1 r1 d1 HO HR HD HR0 HO0 HD0
      cases hx : (x == 0)
      · have HCE : Hid (∀ (q : Nat) (u : Value), (xs.map (Value.int .i64))[q]? = some u → (w1.alloc (.cells #[.int .i64 j] 3)).cell? ((⟨g, 0, none⟩ : Addr).add q) = some u) := Lib.hid (fun q u hu => by
          have hq : q < xs.length := by have := (List.getElem?_eq_some_iff.1 hu).1; simpa using this
          have := hown.cells (g := g) rfl q u hu
          rw [addr_add] at this ⊢
          rw [cell_same (Below.heap_alloc _ _ _ (World.block_lt_of_cell? w1 _ this))]
          exact this)
        have HON : Hid (∀ u ∈ xs.map (Value.int .i64), u.oneCell' = true) := Lib.hid (fun u hu => by obtain ⟨z, _, rfl⟩ := List.mem_map.1 hu; rfl)
        have HLN : Hid ((xs.map (Value.int .i64)).length = j * 1) := Lib.hid (by rw [List.length_map, HXL.out]; omega)
        have HD1 := Lib.hid hd1
        clear hown hd1
        go_wp2_with (at_builtin; refine wpList_append_own _ rfl _ _ 32 rfl w1.heap.size 3 i0 (.int .i64 0) 1 8 Try.underlying32 hi hz0 hz1 hz2 rfl (by decide) _ 1 [.int .i64 j] rfl (own_one1 w1 _ _) ⟨g, 0, none⟩ j c (xs.map (Value.int .i64)) rfl HLN.out HCE.out HON.out (by unfold maxLen; omega) (by omega) (by simp) ?_; intro v' w6 hown' hgrow _)
        have hge : ∀ q, Value.ownBlock (.slice (some ⟨w1.heap.size, 0, none⟩) 1 1) = some q → w1.heap.size ≤ q := fun q e => by injection (show some w1.heap.size = some q from e) with e; omega
        have hb6 : Below w1.heap.size w1 w6 := ((Below.refl _ w1).alloc (Nat.le_refl _) _).grown hgrow (by simp) hge
        have HR6 := Lib.hid (HR1.out.below (hb6.mono (by have := HR1.out.lt; omega)))
        have HD6 := Lib.hid (HD1.out.trans (Dn.of_below hb6))
        have hown2 : w6.ownsRow w.heap.size 3 1 v' (1 + j) (([(j : Int)] ++ xs).map (Value.int .i64)) := own_mono (by simpa using hown') hsz
        obtain ⟨g', c', ev'⟩ := own_some hown2 (by omega)
        subst ev'
        have hfm := own_form hown2
        obtain ⟨_, cc', ecc, hcc1, hcc2⟩ := hfm
        simp at ecc
        obtain ⟨rfl, rfl⟩ := ecc
        unfold maxLen at hcc2
        have HO6 := Lib.hid hown2
        clear hown' hown2 hgrow hge hb6 HR1 HD1 HCE HON HLN
        go_wp2
        go_roundw
        case rel => exact ⟨j + 1, g', c', [(j : Int)] ++ xs, by omega, by go_num, by rw [Nat.add_comm], by omega, by omega, Lib.hid (by have := HXL.out; simp; omega), Lib.hid (by rw [Nat.add_comm j 1]; exact HO6.out), Lib.hid (by have := HR6.out; rw [Int.add_assoc] at this; exact this), HD6⟩
        case measure => simp [intOf]; omega
      · go_wp2_with (at_builtin; refine wpList_append_own _ rfl _ _ 32 rfl w.heap.size 3 i0 (.int .i64 0) 1 8 Try.underlying32 hi hz0 hz1 hz2 rfl (by decide) _ _ _ rfl (hown.alloc _) ⟨w1.heap.size, 0, none⟩ 1 1 [.int .i64 j] rfl rfl (cell_one_new _ _ _) (by simp [Value.oneCell']) (by unfold maxLen; omega) (by omega) (by simp; omega) ?_; intro v' w6 hown' hgrow _)
        have hge : ∀ q, Value.ownBlock _ = some q → w.heap.size ≤ q := fun q e => (hown.lt q e).1
        have HD6 := Lib.hid ((hd1.alloc _).grown hgrow hge)
        have HR6 := Lib.hid (HR1.out.below (((Below.refl (B + 1) w1).alloc (by have := HLT.out; omega) _).grown hgrow (by simp; have := HLT.out; omega) (fun q e => by have := hge q e; have := HLT.out; omega)))
        have hown2 : w6.ownsRow w.heap.size 3 1 v' (j + 1) ((xs ++ [(j : Int)]).map (Value.int .i64)) := by rw [List.map_append]; exact hown'
        obtain ⟨g', c', ev'⟩ := own_some hown2 (by omega)
        subst ev'
        obtain ⟨_, cc', ecc, hcc1, hcc2⟩ := own_form hown2
        simp at ecc
        obtain ⟨rfl, rfl⟩ := ecc
        unfold maxLen at hcc2
        have HO6 := Lib.hid hown2
        clear hown hown' hown2 hgrow hge hd1 HR1
        go_wp2
        go_roundw
        case rel => exact ⟨j + 1, g', c', xs ++ [(j : Int)], by omega, by go_num, rfl, by omega, by omega, Lib.hid (by have := HXL.out; simp; omega), HO6, Lib.hid (by have := HR6.out; rw [Int.add_assoc] at this; exact this), HD6⟩
        case measure => simp [intOf]; omega
    · obtain rfl : j = n := by omega
      have HX : Hid (∀ Q : Nat → Bool, (∀ b, w.heap.size ≤ b → Q b = false) → RdInts (av Q wr) (.slice (some ⟨g, 0, none⟩) j c) xs) := Lib.hid (fun Q hQ => rdInts_of_own (by rw [HXL.out]; exact own_av HO.out hQ))
      have hca : j ≤ c := hjc
      by_cases hkn : k > j
      · have hd : (k : Int) > (j : Int) := by omega
        go_wp2
        go_ret
        exact ⟨g, j, c, xs, p + j, rfl, HXL.out.symm, hn, hn4, HX.out, by omega, by omega, HR.out, HD.out⟩
      · have hd : ¬ (k : Int) > (j : Int) := by omega
        have hkj : k ≤ j := by omega
        go_wp2
        go_ret
        exact ⟨g, k, c, xs.take k, p + j, rfl, by rw [List.length_take, HXL.out]; omega, hk, by omega, fun Q hQ => rdInts_take (HX.out Q hQ) hkj, by omega, by omega, HR.out, HD.out⟩
end Go.Proofs.Ytjdbfiiaadphhaa

/-! Draws of automata. -/
namespace Go.Proofs.Ytjdbfiiaadphhaa
open Go.ChangeShapes Go.WideShapes Go.ChangeAt Go.RowKit
set_option linter.unusedVariables false
set_option linter.unusedSimpArgs false

theorem elem_grown {w w' : World} {base base2 : Nat} {u o x : Value} {n m : Nat} {xs us : List Value} {tx : TypeId} (h : w.ownsRow base 3 1 u n xs) (ho : w.ownsRow base2 32 1 o m us) (hg : (w.alloc (.cells #[x] tx)).grownBy w' o.ownBlock) : w'.ownsRow base 3 1 u n xs := by
  refine own_keepB h (fun b hb => ?_)
  have hlt := (h.lt b hb).2
  refine (hg.block b (by simp; omega) (fun e => ?_)).trans (Below.heap_alloc _ _ _ hlt)
  rcases h.2 with ⟨e1, _⟩ | ⟨g, cap, cur, e1, _, h1, _⟩
  · rw [e1] at hb; cases hb
  · rw [e1] at hb
    injection (show some g = some b from hb) with hb
    subst hb
    rcases ho.2 with ⟨e2, _⟩ | ⟨g2, cap2, cur2, e2, _, h2, _⟩
    · rw [e2] at e; cases e
    · rw [e2] at e
      injection (show some g = some g2 from e) with e
      subst e
      rw [h1] at h2
      simp at h2
/-- The row o of slices us reads as rows, in blocks beyond B. -/
def RowsOwn (B base : Nat) (w : World) (o : Value) (us : List Value) (rows : List (List Int)) : Prop :=
  us.length = rows.length ∧ w.ownsRow base 32 1 o us.length us ∧ ∀ (i : Nat) (u : Value), us[i]? = some u → w.ownsRow base 3 1 u (rows[i]?.getD []).length ((rows[i]?.getD []).map (Value.int .i64))
theorem RowsOwn.rd {B base : Nat} {w : World} {o : Value} {us : List Value} {rows : List (List Int)} {Q : Nat → Bool} (h : RowsOwn B base w o us rows) (hQ : ∀ b, base ≤ b → Q b = false) : RdRows (av Q w) o rows := by
  obtain ⟨h1, h2, h3⟩ := h
  have h2' := own_av h2 hQ
  rcases h2'.2 with ⟨e, h0⟩ | ⟨g, cap, cur, e, _, hg, q1, q2, q3, q4⟩
  · exact ⟨none, 0, by rw [e, ← h1, h0], by omega, by decide, .inl (by omega)⟩
  · refine ⟨some ⟨g, 0, none⟩, cap, by rw [e, h1], by omega, q2, ?_⟩
    by_cases h0 : rows.length = 0
    · exact .inl h0
    · refine .inr ⟨g, 0, rfl, fun i hi => ?_⟩
      have hi' : i < us.length := by omega
      refine ⟨us[i], ?_, rdInts_of_own (own_av (h3 i _ (List.getElem?_eq_getElem hi')) hQ)⟩
      have := h2'.cells (g := g) (by rw [e]; rfl) i us[i] (List.getElem?_eq_getElem hi')
      rw [addr_add] at this
      exact this
theorem RowsOwn.keep {B base : Nat} {w w' : World} {o : Value} {us : List Value} {rows : List (List Int)} (h : RowsOwn B base w o us rows) (hB : B < base) (hd : Dn B w w') : RowsOwn B base w' o us rows :=
  ⟨h.1, own_dn h.2.1 hB hd, fun i u hu => own_dn (h.2.2 i u hu) hB hd⟩
theorem RowsOwn.snoc {B base : Nat} {w w' : World} {o o' u : Value} {us : List Value} {rows : List (List Int)} {r : List Int} (h : RowsOwn B base w o us rows) (hr : w.ownsRow base 3 1 u r.length (r.map (Value.int .i64))) (hg : (w.alloc (.cells #[u] 32)).grownBy w' o.ownBlock) (hn : w'.ownsRow base 32 1 o' (us.length + 1) (us ++ [u])) : RowsOwn B base w' o' (us ++ [u]) (rows ++ [r]) := by
  refine ⟨by rw [List.length_append, List.length_append, h.1]; rfl, by rw [List.length_append]; exact hn, fun i v hv => ?_⟩
  by_cases hi : i < us.length
  · rw [List.getElem?_append_left hi] at hv
    rw [List.getElem?_append_left (by rw [← h.1]; exact hi)]
    exact elem_grown (h.2.2 i v hv) h.2.1 hg
  · have hi2 : i = us.length := by
      have := (List.getElem?_eq_some_iff.1 hv).1
      rw [List.length_append, List.length_singleton] at this
      omega
    subst hi2
    rw [List.getElem?_append_right (Nat.le_refl _), Nat.sub_self] at hv
    obtain rfl := Option.some.inj (show some u = some v from hv)
    rw [h.1, List.getElem?_append_right (Nat.le_refl _), Nat.sub_self]
    exact elem_grown hr h.2.1 hg
/-- Rows that were drawn. -/
def RowsDn (n0 B : Nat) (p s : Int) (m : Nat) (w : World) (e : Ending) (w' : World) : Prop :=
  ∃ (a : Option Addr) (c : Nat) (rows : List (List Int)) (p' : Int), e = .returned (.slice a m c) ∧ rows.length = m ∧ (∀ r ∈ rows, r.length ≤ 6) ∧ (∀ Q : Nat → Bool, (∀ b, w.heap.size ≤ b → Q b = false) → RdRows (av Q w') (.slice a m c) rows) ∧ p ≤ p' ∧ p' ≤ p + s ∧ Rd n0 B p' w' ∧ Dn B w w'

set_option maxRecDepth 100000 in
set_option maxHeartbeats 16000000 in
theorem randomAutomaton_any (n0 B n : Nat) (p : Int) (w : World) (hR : Rd n0 B p w) (hp : 0 ≤ p) (hp2 : p ≤ 10000000) (hn : 1 ≤ n) (hn4 : n ≤ 3) :
    Calls Try.prog 169 #[.pointer (some ⟨B, 0, none⟩), .int .i64 n] w (RowsDn n0 B p 40 n w) := by
  obtain ⟨i0, hi, hz0, hz1, hz2⟩ := info_parts Try.info3
  obtain ⟨i1, hi', hy0, hy1, hy2⟩ := info_parts Try.info32
  have hlt := hR.lt
  have HR0 := Lib.hid (hR.below ((Below.refl _ w).alloc (by omega) (.cells #[] 32)))
  have HO0 : Hid (RowsOwn B w.heap.size (w.alloc (.cells #[] 32)) (.slice (some ⟨w.heap.size, 0, none⟩) 0 0) [] []) := Lib.hid ⟨rfl, ownsRow_made w 32, fun i u hu => by simp at hu⟩
  have HD0 := Lib.hid ((Dn.refl B w).alloc (.cells #[] 32))
  have HLT := Lib.hid hlt
  clear hR hlt
  go_enter Try.func169, Try.ntmps169
  go_wp2
  go_loopw [5, 6] (fun o i wr => ∃ (j : Nat) (us : List Value) (rows : List (List Int)) (q : Int), j ≤ n ∧ i = .int .i64 j ∧ p ≤ q ∧ q ≤ p + 12 * j ∧ Hid (us.length = j ∧ ∀ r ∈ rows, r.length ≤ 6) ∧ Hid (RowsOwn B w.heap.size wr o us rows) ∧ Hid (Rd n0 B q wr) ∧ Hid (Dn B w wr)) (fun _ i _ => n - (intOf i).toNat)
  case atStart => exact ⟨0, [], [], p, Nat.zero_le _, rfl, by omega, by omega, Lib.hid ⟨rfl, fun r hr => by cases hr⟩, HO0, HR0, HD0⟩
  case round =>
    obtain ⟨j, us, rows, q, hj, rfl, hq, hq2, HUL, HO, HR, HD⟩ := hrel
    by_cases hjn : j < n
    · have hRlt := HR.out.lt
      obtain ⟨WJ, hWJ⟩ : ∃ WJ : World, WJ = wr := ⟨wr, rfl⟩
      rw [← hWJ] at HO HR HD hRlt ⊢
      have HRJ := Lib.hid (HR.out.below ((Below.refl _ WJ).alloc (by omega) (.cells #[] 3)))
      have HOJ := Lib.hid (ownsRow_made WJ 3)
      have HDJ := Lib.hid ((Dn.refl B WJ).alloc (.cells #[] 3))
      have HLJ := Lib.hid hRlt
      clear hWJ hRlt HR0 HO0 HD0
      go_wp2
      go_loopw [7, 8] (fun ro v wi => ∃ (k : Nat) (xs : List Int), k ≤ 6 ∧ v = .int .i64 k ∧ Hid (xs.length = k) ∧ Hid (wi.ownsRow WJ.heap.size 3 1 ro xs.length (xs.map (Value.int .i64))) ∧ Hid (Rd n0 B (q + 2 * k) wi) ∧ Hid (Dn B WJ wi)) (fun _ v _ => 6 - (intOf v).toNat)
      case atStart => exact ⟨0, [], Nat.zero_le _, rfl, Lib.hid rfl, Lib.hid HOJ.out, Lib.hid (by simpa using HRJ.out), HDJ⟩
      case round =>
        obtain ⟨k, xs, hk, rfl, HXL, HX, HRi, HDi⟩ := hrel
        by_cases hk6 : k < 6
        · go_wp2_with fail
          refine (pick_dn n0 B (q + 2 * k) (n + 1) wr HRi.out (by omega) (by omega) (by omega)).mono ?_
          rintro e w1 ⟨x, rfl, hx0, hx1, r1, d1⟩
          have HX1 := Lib.hid (own_dn HX.out HLJ.out d1)
          have HD1 := Lib.hid (HDi.out.trans d1)
          have HR1 := Lib.hid r1
          have hxb : x ≤ 10 := by omega
          clear r1 d1 hx1 HX HRi HDi HRJ HOJ HDJ
          go_wp2_with fail
          refine (pick_dn n0 B (q + 2 * k + 1) 2 w1 HR1.out (by omega) (by omega) (by omega)).mono ?_
          rintro e w2 ⟨y, rfl, hy0', hy1', r2, d2⟩
          have hown := own_dn HX1.out HLJ.out d2
          have hd2 := HD1.out.trans d2
          have HR2 := Lib.hid r2
          have hyb : y ≤ 10 := by omega
          have hsz := hd2.size
          have hxl : xs.length ≤ 1000 := by have := HXL.out; omega
          clear r2 d2 hy1' HX1 HD1 HR1
          go_wp2_with (at_builtin; refine wpList_append_own _ rfl _ _ 32 rfl WJ.heap.size 3 i0 (.int .i64 0) 1 8 Try.underlying32 hi hz0 hz1 hz2 rfl (by decide) _ _ _ rfl (hown.alloc _) ⟨w2.heap.size, 0, none⟩ 1 1 [.int .i64 _] rfl rfl (cell_one_new _ _ _) (by simp [Value.oneCell']) (by unfold maxLen; omega) (by omega) (by simp; omega) ?_; intro v' w6 hown' hgrow _)
          have hge : ∀ q, Value.ownBlock _ = some q → WJ.heap.size ≤ q := fun q e => (hown.lt q e).1
          have HD6 := Lib.hid ((hd2.alloc _).grown hgrow hge)
          have HR6 := Lib.hid (HR2.out.below (((Below.refl (B + 1) w2).alloc (by have := HLJ.out; omega) _).grown hgrow (by simp; have := HLJ.out; omega) (fun q e => by have := hge q e; have := HLJ.out; omega)))
          have HO6 := Lib.hid hown'
          clear hown hown' hgrow hd2 hge HR2
          go_wp2
          go_roundw
          case rel => exact ⟨k + 1, xs ++ [_], by omega, by go_num, Lib.hid (by simp [HXL.out]), Lib.hid (by rw [List.length_append, List.map_append]; exact HO6.out), Lib.hid (by have := HR6.out; rw [show q + 2 * ((k + 1 : Nat) : Int) = q + 2 * (k : Int) + 1 + 1 by omega]; exact this), HD6⟩
          case measure => simp [intOf]; omega
        · obtain rfl : k = 6 := by omega
          obtain ⟨gx, cx, ex, hgx, hxt⟩ := xt_of_own HX.out (by rw [HXL.out]; omega)
          rw [HXL.out] at ex
          subst ex
          have hcx := (rdInts_cap (by have := hxt.rd; rw [HXL.out] at this; exact this)).2
          have HXT := Lib.hid hxt
          have HGX := Lib.hid hgx
          clear hxt hgx HX HRJ HOJ HDJ
          go_wp2
          go_loopw [9] (fun v wi => ∃ (k : Nat) (ys : List Int), k ≤ 6 ∧ v = .int .i64 k ∧ Hid (ys.length = 6) ∧ Hid (XT gx cx ys wi) ∧ Hid (Rd n0 B (q + 12) wi) ∧ Hid (Dn B WJ wi)) (fun v _ => 6 - (intOf v).toNat)
          case atStart => exact ⟨0, xs, Nat.zero_le _, rfl, HXL, HXT, Lib.hid (by have := HRi.out; rw [show q + 2 * ((6 : Nat) : Int) = q + 12 by omega] at this; exact this), HDi⟩
          case round =>
            obtain ⟨k, ys, hk', rfl, HYL, HY, HRi', HDi'⟩ := hrel
            by_cases hk6' : k < 6
            · have k1 := HY.out.at (i := k) (by rw [HYL.out]; exact hk6')
              have k2 := HY.out.unfrozen k
              obtain ⟨z, hz⟩ : ∃ z, z = ys[k]?.getD 0 := ⟨_, rfl⟩
              rw [← hz] at k1
              clear hz
              by_cases hzn : z ≥ (n : Int)
              · have HY7 := Lib.hid (HY.out.set (i := k) (by rw [HYL.out]; exact hk6') ((n : Int) - 1))
                have hgB : B < gx := by have := HGX.out; have := HLJ.out; omega
                have HR7 : Hid (Rd n0 B (q + 12) (wr.setCell ⟨gx, k, none⟩ (.int .i64 ((n : Int) - 1)))) := Lib.hid (HRi'.out.below ((Below.refl (B + 1) wr).setCell (by show _ ≤ gx; omega) _))
                have HD7 : Hid (Dn B WJ (wr.setCell ⟨gx, k, none⟩ (.int .i64 ((n : Int) - 1)))) := Lib.hid ⟨HDi'.out.os, HDi'.out.tape, HDi'.out.output, by have := HDi'.out.size; simpa using this, fun b hb hbB => (Below.heap_setCell _ _ _ _ (by show b ≠ gx; have := HGX.out; omega)).trans (HDi'.out.block b hb hbB)⟩
                clear hgB HY HRi' HDi'
                go_wp2
                go_roundw
                case rel => exact ⟨k + 1, ys.set k ((n : Int) - 1), by omega, by go_num, Lib.hid (by rw [List.length_set]; exact HYL.out), HY7, HR7, HD7⟩
                case measure => simp [intOf]; omega
              · go_wp2
                go_roundw
                case rel => exact ⟨k + 1, ys, by omega, by go_num, HYL, HY, HRi', HDi'⟩
                case measure => simp [intOf]; omega
            · obtain rfl : k = 6 := by omega
              have hDW := HDi'.out
              have hsz : w.heap.size ≤ wr.heap.size := Nat.le_trans HD.out.size hDW.size
              have hRo := HO.out.keep HLT.out hDW
              have hown := hRo.2.1
              have hul : us.length ≤ 1000 := by have := HUL.out.1; omega
              have hYB : wr.ownsRow w.heap.size 3 1 (.slice (some ⟨gx, 0, none⟩) 6 cx) ys.length (ys.map (Value.int .i64)) := by
                have h1 : wr.ownsRow gx 3 1 (.slice (some ⟨gx, 0, none⟩) ys.length cx) ys.length (ys.map (Value.int .i64)) := HY.out
                have h2 := own_mono h1 (show w.heap.size ≤ gx from Nat.le_trans HD.out.size HGX.out)
                rw [HYL.out] at h2 ⊢
                exact h2
              have HRo := Lib.hid hRo
              have HYB := Lib.hid hYB
              have HRx := Lib.hid HRi'.out
              have HDx := Lib.hid (HD.out.trans hDW)
              have HYL2 := Lib.hid HYL.out
              have HGX2 := Lib.hid (show gx < wr.heap.size from HY.out.lt)
              clear hDW hYB hRo HRi' HDi' HO HR HD HY HXT HRi HDi
              go_wp2_with (at_builtin; refine wpList_append_own _ rfl _ _ 44 rfl w.heap.size 32 i1 (.slice none 0 0) 1 24 Try.underlying44 hi' hy0 hy1 hy2 rfl (by decide) _ _ _ rfl (hown.alloc _) ⟨wr.heap.size, 0, none⟩ 1 1 [.slice (some ⟨gx, 0, none⟩) 6 cx] rfl rfl (cell_one_new _ _ _) (by simp [Value.oneCell']) (by unfold maxLen; omega) (by omega) (by simp; omega) ?_; intro v' w6 hown' hgrow _)
              have hge : ∀ q, Value.ownBlock u5 = some q → w.heap.size ≤ q := fun q e => (hown.lt q e).1
              have HD6 := Lib.hid ((HDx.out.alloc (.cells #[.slice (some ⟨gx, 0, none⟩) 6 cx] 32)).grown hgrow hge)
              have HR6 := Lib.hid (HRx.out.below (((Below.refl (B + 1) wr).alloc (by have := HLT.out; omega) _).grown hgrow (by simp; have := HLT.out; omega) (fun q e => by have := hge q e; have := HLT.out; omega)))
              have HO6 := Lib.hid (HRo.out.snoc HYB.out hgrow hown')
              have HU6 : Hid ((us ++ [Value.slice (some ⟨gx, 0, none⟩) 6 cx]).length = j + 1 ∧ ∀ r ∈ rows ++ [ys], r.length ≤ 6) := Lib.hid ⟨by rw [List.length_append, HUL.out.1]; rfl, fun r hr => by rcases List.mem_append.1 hr with hr | hr; (· exact HUL.out.2 r hr); (· rw [List.mem_singleton] at hr; subst hr; exact Nat.le_of_eq HYL2.out)⟩
              clear hown hown' hgrow hge HRo HYB HDx HRx
              go_wp2
              go_roundw
              case rel => exact ⟨j + 1, _, _, q + 12, by omega, by go_num, by omega, by omega, HU6, HO6, HR6, HD6⟩
              case measure => simp [intOf]; omega
    · obtain rfl : j = n := by omega
      have HX : Hid (∀ Q : Nat → Bool, (∀ b, w.heap.size ≤ b → Q b = false) → RdRows (av Q wr) u5 rows) := Lib.hid (fun Q hQ => HO.out.rd hQ)
      obtain ⟨ao, co, eo, _, _⟩ := own_form HO.out.2.1
      rw [HUL.out.1] at eo
      subst eo
      go_wp2
      go_ret
      exact ⟨_, _, rows, q, rfl, by rw [← HO.out.1, HUL.out.1], HUL.out.2, HX.out, hq, by omega, HR.out, HD.out⟩
end Go.Proofs.Ytjdbfiiaadphhaa
