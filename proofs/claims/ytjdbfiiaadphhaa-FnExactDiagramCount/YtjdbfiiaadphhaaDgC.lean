/- The number of paths of a diagram. -/
import Derived.Test.YtjdbfiiaadphhaaDgL
namespace Go.Proofs.Ytjdbfiiaadphhaa
open Go.ChangeShapes Go.WideShapes Go.ChangeAt Go.RowKit Go.Deep
set_option linter.unusedVariables false
set_option linter.unusedSimpArgs false

def sumV (f : Nat → Nat) : Nat → Nat
  | 0 => 0
  | k + 1 => sumV f k + f k
def cntF (d : Dg) : Nat → Nat → Nat → Nat
  | 0, _, _ => 1
  | m + 1, i, a => sumV (fun v => if 0 ≤ entD d i a (v : Int) then cntF d m (i + 1) (entD d i a (v : Int)).toNat else 0) 6
def addF (d : Dg) (m i a : Nat) (v : Nat) : Nat := if 0 ≤ entD d i a (v : Int) then cntF d m (i + 1) (entD d i a (v : Int)).toNat else 0
theorem cntF_succ (d : Dg) (m i a : Nat) : cntF d (m + 1) i a = sumV (addF d m i a) 6 := rfl
theorem sumV_le {f : Nat → Nat} {B : Nat} (h : ∀ v, f v ≤ B) : ∀ k, sumV f k ≤ B * k
  | 0 => Nat.le_refl 0
  | k + 1 => by
    have := sumV_le h k
    have := h k
    show sumV f k + f k ≤ B * (k + 1)
    rw [Nat.mul_add]
    omega
theorem cntF_le (d : Dg) : ∀ m i a, cntF d m i a ≤ 6 ^ m
  | 0, _, _ => Nat.le_refl 1
  | m + 1, i, a => by
    rw [cntF_succ]
    have : ∀ v, addF d m i a v ≤ 6 ^ m := fun v => by
      unfold addF
      split
      · exact cntF_le d m _ _
      · exact Nat.zero_le _
    have := sumV_le this 6
    rw [Nat.pow_succ]
    exact this
theorem six_le {m : Nat} (h : m ≤ 3) : 6 ^ m ≤ 216 := by
  rcases (show m = 0 ∨ m = 1 ∨ m = 2 ∨ m = 3 by omega) with rfl | rfl | rfl | rfl <;> decide
/-- All paths of a diagram. -/
def dcN (d : Dg) : Int := if dgB d then ((cntF d d.length 0 0 : Nat) : Int) else -1

set_option maxRecDepth 100000 in
set_option maxHeartbeats 4000000 in
theorem spaths_any (dv : Value) (d : Dg) (w : World) (h : RdR3 w dv d) (hd : dgB d = true) : ∀ (m i a : Nat), i + m = d.length → (0 < m → a < (d[i]?.getD []).length) →
    Calls Try.prog 76 #[dv, .int .i64 i, .int .i64 a] w fun e w' => e = .returned (.int .i64 ((cntF d m i a : Nat) : Int)) ∧ w = w' := by
  obtain ⟨hp1, hp4, hp0, hpl⟩ := dgB_parts hd
  have HLY := Lib.hid hpl
  have H := Lib.hid h
  obtain ⟨dx, capd, ev, hl, hm, _⟩ := h
  unfold maxLen at hm
  rw [ev] at H ⊢
  obtain ⟨n, hn⟩ : ∃ n, n = d.length := ⟨_, rfl⟩
  have HN := Lib.hid hn
  rw [← hn] at hl H hp4 ⊢
  clear hn ev hd hp0 hpl hp1
  intro m
  induction m with
  | zero =>
    intro i a hi _
    have he : ((i : Int) == (n : Int)) = true := by simp; omega
    clear hi
    go_enter Try.func76, Try.ntmps76
    go_wp2
    go_ret
    exact ⟨rfl, rfl⟩
  | succ m ih =>
    intro i a hi ha
    have IH := Lib.hid ih
    have he : ((i : Int) == (n : Int)) = false := by rw [beq_eq_false_iff_ne]; omega
    have har : a < (d[i]?.getD []).length := ha (by omega)
    have hin : i < n := by omega
    obtain ⟨b, off, a2, r, c2, e2, q1, hr, hrc, hc2, hrows⟩ := rdR3_at H.out hin
    have hpr : a < r := by omega
    obtain ⟨b4, o4, a4, rl, c4, e4, q4, hrl, hr4, hc4, hrow⟩ := rdRows_at' hrows hpr
    subst e2 e4
    have h6 : rl = 6 := by have := (layB_ent (HLY.out i (by have := HN.out; omega)) har (show (0 : Int) ≤ 0 by omega) (by omega)).1; omega
    have hm3 : m ≤ 3 := by omega
    have HI := Lib.hid hi
    have HROW := Lib.hid hrow
    have HAR := Lib.hid har
    have H6 := Lib.hid h6
    clear ih hi ha hrows hrow hr hrl har h6
    go_enter Try.func76, Try.ntmps76
    go_wp2
    go_loop [7, 8] (fun s v => ∃ (k t : Nat), k ≤ 6 ∧ v = .int .i64 k ∧ s = .int .i64 t ∧ t ≤ 216 * k ∧ Hid (t = sumV (addF d m i a) k)) (fun _ v => 6 - (intOf v).toNat)
    case atStart => exact ⟨0, 0, by omega, rfl, rfl, by omega, Lib.hid rfl⟩
    case round =>
      obtain ⟨k, t, hk, rfl, rfl, ht, HT⟩ := hrel
      by_cases hk6 : k < 6
      · have hk5 : k ≤ 5 := by omega
        have hkr : k < rl := by have := H6.out; omega
        obtain ⟨b6, o6, e6, q6⟩ := rdInts_at HROW.out hkr
        obtain ⟨y, hy⟩ : ∃ y, y = entD d i a (k : Int) := ⟨_, rfl⟩
        have hy0 : ((d[i]?.getD [])[a]?.getD [])[k]?.getD 0 = y := hy.symm
        rw [hy0] at q6
        have hent := layB_ent (HLY.out i (by have := HN.out; omega)) HAR.out (show (0 : Int) ≤ (k : Int) by omega) (by omega)
        rw [← hy] at hent
        subst e6
        by_cases hyn : 0 ≤ y
        · obtain ⟨z, rfl⟩ := Int.eq_ofNat_of_zero_le hyn
          obtain ⟨c, hc⟩ : ∃ c, c = cntF d m (i + 1) z := ⟨_, rfl⟩
          have HC : Hid (Calls Try.prog 76 #[.slice (some ⟨b, off, none⟩) n capd, .int .i64 ((i : Int) + 1), .int .i64 z] w fun e w' => e = .returned (.int .i64 (c : Int)) ∧ w = w') := Lib.hid (by
            rw [hc]
            exact IH.out (i + 1) z (by have := HI.out; omega) (fun h => by
              have := hent.2.2
              rw [nxtD_lt (by have := HN.out; have := HI.out; omega)] at this
              omega))
          have hcl : c ≤ 216 := by rw [hc]; exact Nat.le_trans (cntF_le d m _ _) (six_le hm3)
          have HS : Hid (t + c = sumV (addF d m i a) (k + 1)) := Lib.hid (by
            show _ = sumV (addF d m i a) k + addF d m i a k
            have e1 : addF d m i a k = c := by unfold addF; rw [← hy, if_pos hyn, hc]; rfl
            rw [e1, ← HT.out])
          clear hc hy hy0 hent
          go_wp2_with (go_at_call 76; refine HC.out.mono ?_; rintro e w' ⟨rfl, rfl⟩)
          go_round
          case rel => exact ⟨k + 1, t + c, by omega, by go_num, by go_num, by omega, HS⟩
          case measure => simp [intOf]; omega
        · have HS : Hid (t = sumV (addF d m i a) (k + 1)) := Lib.hid (by
            show _ = sumV (addF d m i a) k + addF d m i a k
            have e1 : addF d m i a k = 0 := by unfold addF; rw [← hy, if_neg hyn]
            rw [e1, ← HT.out]
            rfl)
          clear hy hy0 hent
          go_wp2
          go_round
          case rel => exact ⟨k + 1, t, by omega, by go_num, rfl, by omega, HS⟩
          case measure => simp [intOf]; omega
      · obtain rfl : k = 6 := by omega
        go_wp2
        go_ret
        exact ⟨ret_int (by rw [cntF_succ, ← HT.out]), rfl⟩

set_option maxRecDepth 100000 in
theorem sDC_any (v : Value) (d : Dg) (w : World) (h : RdR3 w v d) :
    Calls Try.prog 27 #[v] w fun e w' => e = .returned (.int .i64 (dcN d)) ∧ Below w.heap.size w w' := by
  obtain ⟨b, hb⟩ : ∃ b, b = dgB d := ⟨_, rfl⟩
  have HV : Hid (Calls Try.prog 68 #[v] w fun e w' => e = .returned (.bool b) ∧ w = w') := Lib.hid (by rw [hb]; exact svalidDiagram_any v d w h)
  cases b
  · have HF : Hid (dcN d = -1) := Lib.hid (by unfold dcN; rw [← hb]; rfl)
    clear hb
    go_enter Try.func27, Try.ntmps27
    go_wp2_with (go_at_call 68; refine HV.out.mono ?_; rintro e w' ⟨rfl, rfl⟩)
    go_ret
    exact ⟨ret_int HF.out.symm, Below.refl _ _⟩
  · have hp := dgB_parts hb.symm
    have HF : Hid (dcN d = ((cntF d d.length 0 0 : Nat) : Int)) := Lib.hid (by unfold dcN; rw [← hb]; rfl)
    have HP : Hid (Calls Try.prog 76 #[v, .int .i64 0, .int .i64 0] w fun e w' => e = .returned (.int .i64 ((cntF d d.length 0 0 : Nat) : Int)) ∧ w = w') := Lib.hid (spaths_any v d w h hb.symm d.length 0 0 (by omega) (fun _ => by rw [hp.2.2.1]; omega))
    clear hb hp
    go_enter Try.func27, Try.ntmps27
    go_wp2_with (first | (go_at_call 68; refine HV.out.mono ?_; rintro e w' ⟨rfl, rfl⟩) | (go_at_call 76; refine HP.out.mono ?_; rintro e w' ⟨rfl, rfl⟩))
    go_ret
    exact ⟨ret_int HF.out.symm, Below.refl _ _⟩
end Go.Proofs.Ytjdbfiiaadphhaa
