/- The program's search: the only tuple of single domains; the reversal of rows. -/
import Derived.Test.YtnkbcciigdjcnaaGreatDoorSrcU
namespace Go.Proofs.YtnkbcciigdjcnaaGreatDoor
open Go.ChangeShapes Go.WideShapes Go.ChangeAt Go.RowKit Go.Shelf
set_option linter.unusedVariables false
set_option linter.unusedSimpArgs false

/-- What onlyTuple leaves. -/
def OTPost (p : List Int) (w : World) (e : Ending) (w' : World) : Prop :=
  ∃ v b, e = .returned (.tuple #[v, .bool b]) ∧ Below w.heap.size w w' ∧ ((oneT p = none ∧ b = false ∧ v = .slice none 0 0) ∨ ∃ x, oneT p = some x ∧ x.length = p.length ∧ b = true ∧ w'.ownsRow w.heap.size 3 1 v x.length (x.map (Value.int .i64)))
theorem oneT_none_at {p : List Int} {j : Nat} (hj : j < p.length) (h : cntD (p[j]?.getD 0) ≠ 1) : oneT p = none := by
  unfold oneT
  rw [if_neg]
  intro hall
  have := of_decide_eq_true (List.all_eq_true.1 hall p[j] (List.getElem_mem hj))
  rw [List.getElem?_eq_getElem hj] at h
  exact h this

set_option maxRecDepth 100000 in
set_option maxHeartbeats 4000000 in
theorem onlyTuple_any (dv : Value) (p : List Int) (w : World) (h : RdInts w dv p) (hs : Small p 0 63) (h1 : 1 ≤ p.length) (h4 : p.length ≤ 4) (hT : Tab64 w) :
    Calls Tryz.prog 45 #[dv] w (OTPost p w) := by
  obtain ⟨av, cv, e2, -⟩ := id h
  obtain ⟨n, hn⟩ : ∃ n, n = p.length := ⟨_, rfl⟩
  rw [e2] at h ⊢
  have hcc := (rdInts_cap h).2
  rw [← hn] at h h1 h4 hcc ⊢
  have HN := Lib.hid hn
  have HR := Lib.hid h
  have HS := Lib.hid hs
  have HT := Lib.hid hT
  obtain ⟨xs, hxs⟩ : ∃ xs, xs = p.map low1 := ⟨_, rfl⟩
  have HXL : Hid (xs.length = n) := Lib.hid (by rw [hxs, List.length_map, HN.out])
  have HXA : Hid (∀ q, q < n → xs[q]?.getD 0 = low1 (p[q]?.getD 0)) := Lib.hid (fun q hq => by
    have hqp : q < p.length := by have := HN.out; omega
    rw [hxs, List.getElem?_map, List.getElem?_eq_getElem hqp]; rfl)
  have HXX := Lib.hid hxs
  clear e2 hn h hs hT hxs
  obtain ⟨i0, hi, hz0, hz1, hz2⟩ := info_parts Tryz.info3
  go_enter Tryz.func45, Tryz.ntmps45
  go_wp2_with (at_make; refine wpList_make_full _ rfl _ _ 22 rfl w.heap.size 3 i0 (.int .i64 0) 1 Tryz.underlying22 hi hz0 hz1 .i64 .i64 _ _ n rfl rfl rfl rfl (by rw [hz2]; omega) (by unfold maxLen; omega) (Nat.le_refl _) ?_; intro w1 hown hgrow)
  rw [madeInts] at hown
  have HO : Hid (w1.ownsRow w.heap.size 3 1 (.slice (some ⟨w.heap.size, 0, none⟩) n n) n ((fillI xs 0).map (Value.int .i64))) := Lib.hid (by rw [show fillI xs 0 = List.replicate n 0 from by simp [fillI, HXL.out]]; exact hown)
  have HB1 := Lib.hid (below_of_grown hgrow)
  clear hown hgrow
  go_wp2
  go_loopw [12] (fun i wr => ∃ k : Nat, k ≤ n ∧ i = .int .i64 k ∧ Hid (∀ q, q < k → cntD (p[q]?.getD 0) = 1) ∧ Hid (wr.ownsRow w.heap.size 3 1 (.slice (some ⟨w.heap.size, 0, none⟩) n n) n ((fillI xs k).map (Value.int .i64))) ∧ Hid (Below w.heap.size w wr)) (fun i _ => n - (intOf i).toNat)
  case atStart => exact ⟨0, Nat.zero_le _, rfl, Lib.hid (fun q hq => by omega), HO, HB1⟩
  case round =>
    obtain ⟨k, hk, rfl, HE, HOk, HBk⟩ := hrel
    by_cases hlt : k < n
    · have hx := HS.out k (by have := HN.out; omega)
      obtain ⟨b, off, rfl, q1⟩ := rdInts_at (HR.out.below HBk.out) hlt
      obtain ⟨x, hxx⟩ : ∃ x, x = p[k]?.getD 0 := ⟨_, rfl⟩
      rw [← hxx] at hx q1
      have HX := Lib.hid hxx
      have h6 := cnt_six x
      obtain ⟨c, hc⟩ : ∃ c, c = cntD x := ⟨_, rfl⟩
      have HC := Lib.hid hc
      rw [← hc] at h6
      clear hxx hc
      by_cases hc1 : c = 1
      · subst hc1
        obtain ⟨m, rfl⟩ := Int.eq_ofNat_of_zero_le hx.1
        have hm64 : m < 64 := by omega
        have hm0 : 0 < m := by
          rcases Nat.eq_zero_or_pos m with e | e
          · subst e; have h0 : cntD ((0 : Nat) : Int) = 0 := by decide +kernel
            have := HC.out; omega
          · exact e
        have HT1 := Lib.hid (HT.out.below HT.out.size HBk.out)
        have hlow := low_fact m hm64 hm0
        have HLV : Hid (xs[k]?.getD 0 = low1 (m : Int)) := Lib.hid (by rw [HXA.out k hlt, ← HX.out])
        obtain ⟨lv, hlv⟩ : ∃ lv, lv = low1 (m : Int) := ⟨_, rfl⟩
        have HL := Lib.hid hlv
        rw [← hlv] at hlow HLV
        have hcell := HOk.out.cellAt k (by omega)
        have hfz := HOk.out.frozenAt k
        obtain ⟨z, hz⟩ : ∃ z, (fillI xs k)[k]? = some z := ⟨_, List.getElem?_eq_getElem (by rw [fillI_length _ _ (by have := HXL.out; omega)]; have := HXL.out; omega)⟩
        rw [List.getElem?_map, hz] at hcell
        simp only [Option.map_some] at hcell
        have HSt := Lib.hid (HOk.out.stored k (.int .i64 lv))
        have HStep : Hid ((fillI xs k).set k lv = fillI xs (k + 1)) := Lib.hid (by rw [← HLV.out]; exact fillI_step xs k (by have := HXL.out; omega))
        clear hz hlv
        go_wp2_with (first
          | (go_at_call 70; refine (isize_any _ _ hx.1 hx.2).mono ?_; rintro e w' ⟨rfl, rfl⟩; rw [← HC.out])
          | (go_at_call 71; refine (tz0_any m _ hm64 hm0 HT1.out).mono ?_; rintro e w' ⟨rfl, rfl⟩; rw [← HL.out]))
        go_roundw
        case rel =>
          refine ⟨k + 1, by omega, by go_num, Lib.hid (fun q hq => by by_cases e : q = k; (· subst e; rw [← HX.out, ← HC.out]); (· exact HE.out q (by omega))), Lib.hid ?_, Lib.hid (HBk.out.setCell (p := ⟨w.heap.size, k, none⟩) (Nat.le_refl _) _)⟩
          rw [← HStep.out, List.map_set]
          exact HSt.out.1
        case measure => simp [intOf]; omega
      · have hne : ((c : Int) != 1) = true := by simp; omega
        have HF : Hid (oneT p = none) := Lib.hid (oneT_none_at (p := p) (j := k) (by have := HN.out; omega) (by rw [← HX.out, ← HC.out]; exact hc1))
        go_wp2_with (go_at_call 70; refine (isize_any _ _ hx.1 hx.2).mono ?_; rintro e w' ⟨rfl, rfl⟩; rw [← HC.out])
        go_ret2
        exact ⟨_, _, rfl, HBk.out, .inl ⟨HF.out, rfl, rfl⟩⟩
    · obtain rfl : n = k := by omega
      have HF : Hid (oneT p = some xs) := Lib.hid (by rw [HXX.out]; exact oneT_of (fun q hq => HE.out q (by have := HN.out; omega)))
      have e : fillI xs n = xs := by unfold fillI; have := HXL.out; rw [List.take_of_length_le (by omega), this]; simp
      have HOF := Lib.hid (show wr.ownsRow w.heap.size 3 1 (.slice (some ⟨w.heap.size, 0, none⟩) n n) xs.length (xs.map (Value.int .i64)) by rw [HXL.out]; have := HOk.out; rwa [e] at this)
      clear e
      go_wp2
      go_ret2
      exact ⟨_, _, rfl, HBk.out, .inr ⟨xs, HF.out, by rw [HXL.out, HN.out], rfl, HOF.out⟩⟩

/-! ### Reversal -/
def swp (l : List Value) (i j : Nat) : List Value := (l.set i (l[j]?.getD undef)).set j (l[i]?.getD undef)
/-- k swaps from both ends. -/
def revS (l : List Value) : Nat → List Value
  | 0 => l
  | k + 1 => swp (revS l k) k (l.length - 1 - k)
theorem revS_length (l : List Value) : ∀ k, (revS l k).length = l.length
  | 0 => rfl
  | k + 1 => by rw [revS, swp, List.length_set, List.length_set, revS_length l k]
theorem revS_at (l : List Value) : ∀ k, 2 * k ≤ l.length → ∀ t, t < l.length → (revS l k)[t]? = if t < k ∨ l.length - k ≤ t then l[l.length - 1 - t]? else l[t]?
  | 0, _, t, ht => by rw [if_neg (by omega)]; rfl
  | k + 1, hk, t, ht => by
    have hl := revS_length l k
    rw [revS, swp]
    by_cases e1 : t = l.length - 1 - k
    · subst e1
      rw [List.getElem?_set_self (by rw [List.length_set, hl]; omega), if_pos (by omega)]
      have := revS_at l k (by omega) k (by omega)
      rw [if_neg (by omega)] at this
      rw [show l.length - 1 - (l.length - 1 - k) = k from by omega, this]
      rw [List.getElem?_eq_getElem (by omega)]
      rfl
    · rw [List.getElem?_set_ne (fun e => e1 e.symm)]
      by_cases e2 : t = k
      · subst e2
        rw [List.getElem?_set_self (by rw [hl]; omega), if_pos (by omega)]
        have := revS_at l t (by omega) (l.length - 1 - t) (by omega)
        rw [if_neg (by omega)] at this
        rw [this, List.getElem?_eq_getElem (by omega)]
        rfl
      · rw [List.getElem?_set_ne (fun e => e2 e.symm), revS_at l k (by omega) t ht]
        by_cases hc : t < k ∨ l.length - k ≤ t
        · rw [if_pos hc, if_pos (by omega)]
        · rw [if_neg hc, if_neg (by omega)]
theorem revS_all {l : List Value} {k : Nat} (h1 : 2 * k ≤ l.length) (h2 : l.length ≤ 2 * k + 1) : revS l k = l.reverse := by
  apply List.ext_getElem? 
  intro t
  by_cases ht : t < l.length
  · rw [revS_at l k h1 t ht, List.getElem?_reverse ht]
    split
    · rfl
    · rw [show l.length - 1 - t = t from by omega]
  · rw [List.getElem?_eq_none (by rw [revS_length]; omega), List.getElem?_eq_none (by simp; omega)]

set_option maxRecDepth 100000 in
set_option maxHeartbeats 4000000 in
theorem rev_any (g n cap B : Nat) (l : List Value) (w : World) (ho : w.ownsRow B 22 1 (.slice (some ⟨g, 0, none⟩) n cap) n l) (h1 : 1 ≤ n) (h6 : n ≤ 1000) (hs : ∀ j, j < n → ∃ a m c, l[j]? = some (.slice a m c)) :
    Calls Tryz.prog 106 #[.slice (some ⟨g, 0, none⟩) n cap] w fun e w' => (∃ v, e = .returned v) ∧ w'.ownsRow B 22 1 (.slice (some ⟨g, 0, none⟩) n cap) n l.reverse ∧ w.grownBy w' (some g) := by
  have hln : l.length = n := by have := ho.1; simpa using this
  have hcap : n ≤ cap ∧ cap ≤ 9223372036854775807 := by
    rcases ho.2 with ⟨e, _⟩ | ⟨g', c', cur, e, _, _, q1, q2, _⟩
    · cases e
    · injection e with _ _ e; subst e; unfold maxLen at q2; omega
  have HLN := Lib.hid hln
  have HO := Lib.hid ho
  have HS := Lib.hid hs
  clear hln ho hs
  go_enter Tryz.func106, Tryz.ntmps106
  go_wp2
  go_loopw [2, 3] (fun i j wr => ∃ k : Nat, 2 * k ≤ n ∧ i = .int .i64 k ∧ j = .int .i64 ((n : Int) - 1 - k) ∧ Hid (wr.ownsRow B 22 1 (.slice (some ⟨g, 0, none⟩) n cap) n (revS l k)) ∧ Hid (w.grownBy wr (some g))) (fun i _ _ => n - (intOf i).toNat)
  case atStart => exact ⟨0, by omega, rfl, by simp, HO, Lib.hid ⟨rfl, rfl, rfl, Nat.le_refl _, fun _ _ _ => rfl⟩⟩
  case round =>
    obtain ⟨k, hk, rfl, rfl, HOk, HGk⟩ := hrel
    by_cases hlt : (k : Int) < (n : Int) - 1 - k
    · obtain ⟨m, hm⟩ : ∃ m : Nat, (n : Int) - 1 - k = (m : Int) := ⟨n - 1 - k, by omega⟩
      rw [hm]
      have hmn : m < n := by omega
      have hkm : k < m := by omega
      have hkn : k < n := by omega
      obtain ⟨a1, n1, c1, e1⟩ := HS.out k hkn
      obtain ⟨a2, n2, c2, e2⟩ := HS.out m hmn
      have r1 : (revS l k)[k]? = some (.slice a1 n1 c1) := by rw [revS_at l k (by have := HLN.out; omega) k (by have := HLN.out; omega), if_neg (by have := HLN.out; omega)]; exact e1
      have r2 : (revS l k)[m]? = some (.slice a2 n2 c2) := by rw [revS_at l k (by have := HLN.out; omega) m (by have := HLN.out; omega), if_neg (by have := HLN.out; omega)]; exact e2
      have q1 : wr.cell? ⟨g, k, none⟩ = some (.slice a1 n1 c1) := (HOk.out.cellAt k (by omega)).trans r1
      have q2 : wr.cell? ⟨g, m, none⟩ = some (.slice a2 n2 c2) := (HOk.out.cellAt m (by omega)).trans r2
      have f1 := HOk.out.frozenAt k
      have f2 := HOk.out.frozenAt m
      have HSW : Hid (revS l (k + 1) = ((revS l k).set k (.slice a2 n2 c2)).set m (.slice a1 n1 c1)) := Lib.hid (by
        rw [revS, swp, show l.length - 1 - k = m from by have := HLN.out; omega, r1, r2]
        rfl)
      have s1 := ((own_below HOk.out (Below.refl _ wr).drew).stored k (.slice a2 n2 c2)).1
      have s2 := (s1.stored m (.slice a1 n1 c1)).1
      have HS2 := Lib.hid s2
      have HG2 : Hid (w.grownBy ((wr.drew.setCell ⟨g, k, none⟩ (.slice a2 n2 c2)).setCell ⟨g, m, none⟩ (.slice a1 n1 c1)) (some g)) := Lib.hid ⟨HGk.out.os, HGk.out.tape, HGk.out.output, by have := HGk.out.size; simpa using this, fun b hb hne => by
        have hbg : b ≠ g := fun e => hne (by rw [e])
        exact (Below.heap_setCell _ _ _ _ (by show b ≠ g; exact hbg)).trans ((Below.heap_setCell _ _ _ _ (by show b ≠ g; exact hbg)).trans (HGk.out.block b hb hne))⟩
      have hkm' : (k : Nat) ≠ m := by omega
      have HM := Lib.hid hm
      clear r1 r2 e1 e2 s1 s2 hm hlt
      have hd : decide ((k : Int) < (m : Int)) = true := by simp; omega
      go_wp2
      go_region
      go_wp2
      go_roundw
      case rel => exact ⟨k + 1, by have := HM.out; omega, by go_num, by have := HM.out; simp; omega, Lib.hid (by rw [HSW.out]; exact HS2.out), HG2⟩
      case measure => simp [intOf]; omega
    · have hd : decide ((k : Int) < (n : Int) - 1 - k) = false := by simp; omega
      have HF := Lib.hid (revS_all (l := l) (k := k) (by have := HLN.out; omega) (by have := HLN.out; omega))
      go_wp2
      go_end0
      exact ⟨⟨_, rfl⟩, by rw [← HF.out]; exact HOk.out, HGk.out⟩
end Go.Proofs.YtnkbcciigdjcnaaGreatDoor
