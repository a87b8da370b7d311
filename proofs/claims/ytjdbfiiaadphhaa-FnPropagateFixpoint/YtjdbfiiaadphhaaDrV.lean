/- Draws of variables and of automata. -/
import Derived.Test.YtjdbfiiaadphhaaDrF
import Derived.Test.YtjdbfiiaadphhaaFi
namespace Go.Proofs.Ytjdbfiiaadphhaa
open Go.ChangeShapes Go.WideShapes Go.ChangeAt Go.RowKit
set_option linter.unusedVariables false
set_option linter.unusedSimpArgs false

theorem own_one1 (w : World) (x : Value) (t : TypeId) : (w.alloc (.cells #[x] t)).ownsRow w.heap.size t 1 (.slice (some ⟨w.heap.size, 0, none⟩) 1 1) 1 [x] :=
  ⟨rfl, .inr ⟨w.heap.size, 1, _, rfl, Nat.le_refl _, World.alloc_heap_new w _, Nat.le_refl _, by unfold maxLen; omega, rfl, rfl⟩⟩
theorem wo_dn {B : Nat} {w w' : World} (h : Dn B w w') : Inc (wo B w) (wo B w') := wo_keep h.block
theorem rdInts_take {w : World} {g n c : Nat} {xs : List Int} (h : RdInts w (.slice (some ⟨g, 0, none⟩) n c) xs) {k : Nat} (hk : k ≤ n) : RdInts w (.slice (some ⟨g, 0, none⟩) k c) (xs.take k) := by
  obtain ⟨a, cap, e, h1, h2, h3⟩ := h
  simp at e
  obtain ⟨rfl, rfl, rfl⟩ := e
  have hl : (xs.take k).length = k := by simp; omega
  refine ⟨_, c, by rw [hl], by rw [hl]; omega, h2, ?_⟩
  by_cases h0 : k = 0
  · exact .inl (by rw [hl]; exact h0)
  · rcases h3 with h3 | ⟨b, off, ea, h3⟩
    · omega
    · refine .inr ⟨b, off, ea, fun i hi => ?_⟩
      rw [hl] at hi
      rw [List.getElem?_take_of_lt hi]
      exact h3 i (by omega)
/-- Variables that were drawn. -/
def VarsDn (n0 B : Nat) (p s : Int) (w : World) (e : Ending) (w' : World) : Prop :=
  ∃ (g n c : Nat) (xs : List Int) (p' : Int), e = .returned (.slice (some ⟨g, 0, none⟩) n c) ∧ n = xs.length ∧ 1 ≤ n ∧ n ≤ 4 ∧ (∀ Q : Nat → Bool, (∀ b, w.heap.size ≤ b → Q b = false) → RdInts (av Q w') (.slice (some ⟨g, 0, none⟩) n c) xs) ∧ p ≤ p' ∧ p' ≤ p + s ∧ Rd n0 B p' w' ∧ Dn B w w'

set_option maxRecDepth 100000 in
set_option maxHeartbeats 8000000 in
theorem someVars_any (n0 B n k : Nat) (p : Int) (w : World) (hR : Rd n0 B p w) (hp : 0 ≤ p) (hp2 : p ≤ 10000000) (hn : 1 ≤ n) (hn4 : n ≤ 4) (hk : 1 ≤ k) (hk4 : k ≤ 1000) :
    Calls Try.prog 168 #[.pointer (some ⟨B, 0, none⟩), .int .i64 n, .int .i64 k] w (VarsDn n0 B p n w) := by
  obtain ⟨i0, hi, hz0, hz1, hz2⟩ := info_parts Try.info3
  have hlt := hR.lt
  have HR0 := Lib.hid (hR.below ((Below.refl _ w).alloc (by omega) (.cells #[] 3)))
  have HO0 := Lib.hid (ownsRow_made w 3)
  have HD0 := Lib.hid ((Dn.refl B w).alloc (.cells #[] 3))
  have HLT := Lib.hid hlt
  clear hR hlt
  go_enter Try.func168, Try.ntmps168
  go_wp2
  go_loopw [7, 8] (fun o i wr => ∃ (j g c : Nat) (xs : List Int), j ≤ n ∧ i = .int .i64 j ∧ o = .slice (some ⟨g, 0, none⟩) j c ∧ j ≤ c ∧ c ≤ 9223372036854775807 ∧ Hid (xs.length = j) ∧ Hid (wr.ownsRow w.heap.size 3 1 (.slice (some ⟨g, 0, none⟩) j c) j (xs.map (Value.int .i64))) ∧ Hid (Rd n0 B (p + j) wr) ∧ Hid (Dn B w wr)) (fun _ i _ => n - (intOf i).toNat)
  case atStart => exact ⟨0, _, 0, [], Nat.zero_le _, rfl, rfl, Nat.le_refl _, by omega, Lib.hid rfl, Lib.hid HO0.out, Lib.hid (by simpa using HR0.out), HD0⟩
  case round =>
    obtain ⟨j, g, c, xs, hj, rfl, rfl, hjc, hcm, HXL, HO, HR, HD⟩ := hrel
    by_cases hjn : j < n
    · go_wp2_with fail
      refine (pick_dn n0 B (p + j) 2 wr HR.out (by omega) (by omega) (by omega)).mono ?_
      rintro e w1 ⟨x, rfl, hx0, hx1, r1, d1⟩
      have hown := own_dn HO.out HLT.out d1
      have hd1 := HD.out.trans d1
      have HR1 := Lib.hid r1
      have hsz := hd1.size
      clear hx0 hx1 r1 d1 HO HR HD HR0 HO0 HD0
      cases hx : (x == 0)
      · have HCE : Hid (∀ (q : Nat) (u : Value), (xs.map (Value.int .i64))[q]? = some u → (w1.alloc (.cells #[.int .i64 j] 3)).cell? ((⟨g, 0, none⟩ : Addr).add q) = some u) := Lib.hid (fun q u hu => by
          have hq : q < xs.length := by have := (List.getElem?_eq_some_iff.1 hu).1; simpa using this
          have := hown.cells (g := g) rfl q u hu
          rw [addr_add] at this ⊢
          rw [cell_same (Below.heap_alloc _ _ _ (World.block_lt_of_cell? w1 _ this))]
          exact this)
        have HON : Hid (∀ u ∈ xs.map (Value.int .i64), u.oneCell' = true) := Lib.hid (fun u hu => by obtain ⟨z, _, rfl⟩ := List.mem_map.1 hu; rfl)
        have HLN : Hid ((xs.map (Value.int .i64)).length = j * 1) := Lib.hid (by rw [List.length_map, HXL.out]; omega)
        have HD1 := Lib.hid hd1
        clear hown hd1
        go_wp2_with (at_builtin; refine wpList_append_own _ rfl _ _ 32 rfl w1.heap.size 3 i0 (.int .i64 0) 1 8 Try.underlying32 hi hz0 hz1 hz2 rfl (by decide) _ 1 [.int .i64 j] rfl (own_one1 w1 _ _) ⟨g, 0, none⟩ j c (xs.map (Value.int .i64)) rfl HLN.out HCE.out HON.out (by unfold maxLen; omega) (by omega) (by simp) ?_; intro v' w6 hown' hgrow _)
        have hge : ∀ q, Value.ownBlock (.slice (some ⟨w1.heap.size, 0, none⟩) 1 1) = some q → w1.heap.size ≤ q := fun q e => by injection (show some w1.heap.size = some q from e) with e; omega
        have hb6 : Below w1.heap.size w1 w6 := ((Below.refl _ w1).alloc (Nat.le_refl _) _).grown hgrow (by simp) hge
        have HR6 := Lib.hid (HR1.out.below (hb6.mono (by have := HR1.out.lt; omega)))
        have HD6 := Lib.hid (HD1.out.trans (Dn.of_below hb6))
        have hown2 : w6.ownsRow w.heap.size 3 1 v' (1 + j) (([(j : Int)] ++ xs).map (Value.int .i64)) := own_mono (by simpa using hown') hsz
        obtain ⟨g', c', ev'⟩ := own_some hown2 (by omega)
        subst ev'
        have hfm := own_form hown2
        obtain ⟨_, cc', ecc, hcc1, hcc2⟩ := hfm
        simp at ecc
        obtain ⟨rfl, rfl⟩ := ecc
        unfold maxLen at hcc2
        have HO6 := Lib.hid hown2
        clear hown' hown2 hgrow hge hb6 HR1 HD1 HCE HON HLN
        go_wp2
        go_roundw
        case rel => exact ⟨j + 1, g', c', [(j : Int)] ++ xs, by omega, by go_num, by rw [Nat.add_comm], by omega, by omega, Lib.hid (by have := HXL.out; simp; omega), Lib.hid (by rw [Nat.add_comm j 1]; exact HO6.out), Lib.hid (by have := HR6.out; rw [Int.add_assoc] at this; exact this), HD6⟩
        case measure => simp [intOf]; omega
      · go_wp2_with (at_builtin; refine wpList_append_own _ rfl _ _ 32 rfl w.heap.size 3 i0 (.int .i64 0) 1 8 Try.underlying32 hi hz0 hz1 hz2 rfl (by decide) _ _ _ rfl (hown.alloc _) ⟨w1.heap.size, 0, none⟩ 1 1 [.int .i64 j] rfl rfl (cell_one_new _ _ _) (by simp [Value.oneCell']) (by unfold maxLen; omega) (by omega) (by simp; omega) ?_; intro v' w6 hown' hgrow _)
        have hge : ∀ q, Value.ownBlock _ = some q → w.heap.size ≤ q := fun q e => (hown.lt q e).1
        have HD6 := Lib.hid ((hd1.alloc _).grown hgrow hge)
        have HR6 := Lib.hid (HR1.out.below (((Below.refl (B + 1) w1).alloc (by have := HLT.out; omega) _).grown hgrow (by simp; have := HLT.out; omega) (fun q e => by have := hge q e; have := HLT.out; omega)))
        have hown2 : w6.ownsRow w.heap.size 3 1 v' (j + 1) ((xs ++ [(j : Int)]).map (Value.int .i64)) := by rw [List.map_append]; exact hown'
        obtain ⟨g', c', ev'⟩ := own_some hown2 (by omega)
        subst ev'
        obtain ⟨_, cc', ecc, hcc1, hcc2⟩ := own_form hown2
        simp at ecc
        obtain ⟨rfl, rfl⟩ := ecc
        unfold maxLen at hcc2
        have HO6 := Lib.hid hown2
        clear hown hown' hown2 hgrow hge hd1 HR1
        go_wp2
        go_roundw
        case rel => exact ⟨j + 1, g', c', xs ++ [(j : Int)], by omega, by go_num, rfl, by omega, by omega, Lib.hid (by have := HXL.out; simp; omega), HO6, Lib.hid (by have := HR6.out; rw [Int.add_assoc] at this; exact this), HD6⟩
        case measure => simp [intOf]; omega
    · obtain rfl : j = n := by omega
      have HX : Hid (∀ Q : Nat → Bool, (∀ b, w.heap.size ≤ b → Q b = false) → RdInts (av Q wr) (.slice (some ⟨g, 0, none⟩) j c) xs) := Lib.hid (fun Q hQ => rdInts_of_own (by rw [HXL.out]; exact own_av HO.out hQ))
      have hca : j ≤ c := hjc
      by_cases hkn : k > j
      · have hd : (k : Int) > (j : Int) := by omega
        go_wp2
        go_ret
        exact ⟨g, j, c, xs, p + j, rfl, HXL.out.symm, hn, hn4, HX.out, by omega, by omega, HR.out, HD.out⟩
      · have hd : ¬ (k : Int) > (j : Int) := by omega
        have hkj : k ≤ j := by omega
        go_wp2
        go_ret
        exact ⟨g, k, c, xs.take k, p + j, rfl, by rw [List.length_take, HXL.out]; omega, hk, by omega, fun Q hQ => rdInts_take (HX.out Q hQ) hkj, by omega, by omega, HR.out, HD.out⟩
end Go.Proofs.Ytjdbfiiaadphhaa
