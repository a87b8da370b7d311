/- Overload, both packages. -/
import Derived.Test.YtelglccegkhfcaaEnr
namespace Go.Proofs.Ytelglccegkhfcaa
open Go.ChangeShapes Go.WideShapes Go.ChangeAt Go.RowKit
set_option linter.unusedVariables false
set_option linter.unusedSimpArgs false

/-- The smallest q below k with Q. -/
def fstB (Q : Nat → Bool) : Nat → Option Nat
  | 0 => none
  | k + 1 => match fstB Q k with
    | some q => some q
    | none => if Q k then some k else none
theorem fstB_none {Q : Nat → Bool} : ∀ {k : Nat}, (∀ q, q < k → Q q = false) → fstB Q k = none
  | 0, _ => rfl
  | k + 1, h => by
    simp only [fstB]
    rw [fstB_none (fun q hq => h q (by omega)), h k (by omega)]
    rfl
theorem fstB_some {Q : Nat → Bool} {q : Nat} (hq : Q q = true) (h : ∀ j, j < q → Q j = false) : ∀ {k : Nat}, q < k → fstB Q k = some q
  | 0, h1 => by omega
  | k + 1, h1 => by
    simp only [fstB]
    by_cases e : q = k
    · subst e
      rw [fstB_none h, hq]
      rfl
    · rw [fstB_some hq h (k := k) (by omega)]
/-- The interval from lo to hi needs more than there is. -/
def ovP (ts : List Tsk) (cp : Int) (lo hi : Nat) : Bool := decide (reqN ts lo hi ts.length > cp * ((hi : Int) - (lo : Int)))
def hiO (ts : List Tsk) (cp : Int) (lo : Nat) : Option Nat := fstB (fun h => decide (lo < h) && ovP ts cp lo h) 12
def loO (ts : List Tsk) (cp : Int) : Option Nat := fstB (fun l => (hiO ts cp l).isSome) 11
def ovLo (ts : List Tsk) (cp : Int) : Int := if vtB ts cp then (((loO ts cp).getD 0 : Nat) : Int) else 0
def ovHi (ts : List Tsk) (cp : Int) : Int := if vtB ts cp then ((((loO ts cp).bind (hiO ts cp)).getD 0 : Nat) : Int) else 0
def ovB (ts : List Tsk) (cp : Int) : Bool := vtB ts cp && (loO ts cp).isSome
theorem vtB_parts {ts : List Tsk} {cp : Int} (h : vtB ts cp = true) : tksB ts = true ∧ 0 ≤ cp ∧ cp ≤ 9 := by
  unfold vtB at h
  rw [Bool.and_eq_true] at h
  have := wiB_in h.2
  exact ⟨h.1, by omega, by omega⟩
theorem ov_no {ts : List Tsk} {cp : Int} (h : vtB ts cp = false) : ovLo ts cp = 0 ∧ ovHi ts cp = 0 ∧ ovB ts cp = false := by
  unfold ovLo ovHi ovB
  rw [h]
  exact ⟨rfl, rfl, rfl⟩
theorem hiO_none {ts : List Tsk} {cp : Int} {l : Nat} (h : ∀ j, l < j → j ≤ 11 → ovP ts cp l j = false) : hiO ts cp l = none := fstB_none (fun q hq => by
  by_cases e : l < q
  · rw [h q e (by omega), Bool.and_false]
  · rw [decide_eq_false e]; rfl)
theorem ov_none {ts : List Tsk} {cp : Int} (h : vtB ts cp = true) (hs : ∀ l, l < 11 → ∀ j, l < j → j ≤ 11 → ovP ts cp l j = false) : ovLo ts cp = 0 ∧ ovHi ts cp = 0 ∧ ovB ts cp = false := by
  have e : loO ts cp = none := fstB_none (fun q hq => by rw [hiO_none (hs q hq)]; rfl)
  unfold ovLo ovHi ovB
  rw [h, e]
  exact ⟨rfl, rfl, rfl⟩
theorem ov_yes {ts : List Tsk} {cp : Int} {lo hi : Nat} (h : vtB ts cp = true) (h1 : lo < 11) (h2 : lo < hi) (h3 : hi ≤ 11) (hp : ovP ts cp lo hi = true) (hs : ∀ l, l < lo → ∀ j, l < j → j ≤ 11 → ovP ts cp l j = false) (hj : ∀ q, lo < q → q < hi → ovP ts cp lo q = false) :
    ovLo ts cp = lo ∧ ovHi ts cp = hi ∧ ovB ts cp = true := by
  have e1 : hiO ts cp lo = some hi := fstB_some (by rw [decide_eq_true h2, hp]; rfl) (fun j hj2 => by
    by_cases e : lo < j
    · rw [hj j e hj2, Bool.and_false]
    · rw [decide_eq_false e]; rfl) (by omega)
  have e2 : loO ts cp = some lo := fstB_some (by rw [e1]; rfl) (fun l hl => by rw [hiO_none (hs l hl)]; rfl) h1
  unfold ovLo ovHi ovB
  rw [h, e2]
  refine ⟨rfl, ?_, rfl⟩
  simp [e1]
set_option maxRecDepth 100000 in
set_option maxHeartbeats 4000000 in
theorem sOverload_any (v : Value) (ts : List Tsk) (cp : Int) (w : World) (h : RdTsks w v ts) :
    Calls Try.prog 45 #[v, .int .i64 cp] w fun e w' => e = .returned (.tuple #[.int .i64 (ovLo ts cp), .int .i64 (ovHi ts cp), .bool (ovB ts cp)]) ∧ Below w.heap.size w w' := by
  have hV := svalidTasks_any v ts cp w h
  unfold BoolPost at hV
  have HV := Lib.hid hV
  have HT := Lib.hid (fun (X : World) (lo hi : Nat) (hX : Below w.heap.size w X) (h0 : tksB ts = true) (h2 : lo ≤ hi) (h3 : hi ≤ 11) => srequired_any v ts lo hi X (h.below hX) h0 (by omega) (by omega) (by omega))
  obtain ⟨a, cap, ev, hl, hm, _⟩ := h
  obtain ⟨n, hn⟩ : ∃ n, n = ts.length := ⟨_, rfl⟩
  have HN := Lib.hid hn
  rw [ev] at HV HT ⊢
  rw [← hn] at HV HT hl ⊢
  clear ev hV hn
  unfold maxLen at hm
  cases h0 : vtB ts cp
  · have HF := Lib.hid (ov_no h0)
    rw [h0] at HV
    clear h0
    go_enter Try.func45, Try.ntmps45
    go_wp2_with (go_at_call 72; refine HV.out.mono ?_; rintro e w1 ⟨rfl, b1⟩; have HB1 := Lib.hid b1; clear b1)
    go_ret3
    exact ⟨by rw [HF.out.1, HF.out.2.1, HF.out.2.2]; rfl, HB1.out⟩
  obtain ⟨ht, hc⟩ := vtB_parts h0
  have HTT := Lib.hid (fun (X : World) (lo hi : Nat) (hX : Below w.heap.size w X) (h2 : lo ≤ hi) (h3 : hi ≤ 11) => HT.out X lo hi hX ht h2 h3)
  have HBD := Lib.hid (fun (lo hi : Nat) (h2 : lo ≤ hi) => reqN_bd (lo := lo) (hi := hi) ht (by omega) n (by rw [← HN.out]; exact Nat.le_refl _))
  have hn4 := (tksB_at ht).1
  rw [← HN.out] at hn4
  have HY := Lib.hid (fun (lo hi : Nat) => ov_yes (lo := lo) (hi := hi) h0)
  have HZ := Lib.hid (ov_none h0)
  have HP : Hid (∀ lo hi : Nat, ovP ts cp lo hi = decide (reqN ts lo hi n > cp * ((hi : Int) - (lo : Int)))) := Lib.hid (fun lo hi => by unfold ovP; rw [HN.out])
  rw [h0] at HV
  clear h0 HT ht
  go_enter Try.func45, Try.ntmps45
  go_wp2_with (go_at_call 72; refine HV.out.mono ?_; rintro e w1 ⟨rfl, b1⟩; have HB1 := Lib.hid b1; clear b1)
  go_loopw [7] (fun i wr => ∃ k : Nat, k ≤ 11 ∧ i = .int .i64 k ∧ Hid (∀ l, l < k → ∀ j, l < j → j ≤ 11 → ovP ts cp l j = false) ∧ Hid (Below w.heap.size w wr)) (fun i _ => 11 - (intOf i).toNat)
  case atStart => exact ⟨0, by omega, rfl, Lib.hid (fun l hl => by omega), HB1⟩
  case round =>
    obtain ⟨k, hk, rfl, HS, HB⟩ := hrel
    by_cases hlt : k < 11
    · have hltI : (k : Int) < 11 := by omega
      have hdI : decide ((k : Int) < 11) = true := decide_eq_true hltI
      go_wp2_with fail
      go_loopw [8] (fun i wr => ∃ j : Nat, k + 1 ≤ j ∧ j ≤ 12 ∧ i = .int .i64 j ∧ Hid (∀ q, k < q → q < j → ovP ts cp k q = false) ∧ Hid (Below w.heap.size w wr)) (fun i _ => 12 - (intOf i).toNat)
      case atStart => exact ⟨k + 1, by omega, by omega, by go_num, Lib.hid (fun q h1 h2 => by omega), HB⟩
      case round =>
        obtain ⟨j, hj1, hj2, rfl, HJ, HBJ⟩ := hrel
        by_cases hjl : j ≤ 11
        · have HE := Lib.hid (HTT.out wr k j HBJ.out (by omega) hjl)
          have hbd := HBD.out k j (by omega)
          have hmul := mul_bd (a := cp) (b := (j : Int) - (k : Int)) (c := 11) hc.1 hc.2 (by omega) (by omega)
          obtain ⟨en, hen⟩ : ∃ en, en = reqN ts k j n := ⟨_, rfl⟩
          have HPK := Lib.hid (HP.out k j)
          rw [← hen] at HE hbd HPK
          obtain ⟨mu, hmu⟩ : ∃ mu, mu = cp * ((j : Int) - (k : Int)) := ⟨_, rfl⟩
          have HMU := Lib.hid hmu
          clear hen
          by_cases hgt : en > mu
          · have HF := Lib.hid (HY.out k j hlt (by omega) hjl (by rw [HPK.out, ← HMU.out]; exact decide_eq_true hgt) HS.out HJ.out)
            rw [hmu] at hgt
            clear hmu
            go_wp2_with (go_at_call 92; refine HE.out.mono ?_; rintro e w2 ⟨rfl, b2⟩; have HB2 := Lib.hid (HBJ.out.trans (b2.mono HBJ.out.size)); clear b2)
            go_ret3
            exact ⟨by rw [HF.out.1, HF.out.2.1, HF.out.2.2]; rfl, HB2.out⟩
          · have HNO : Hid (ovP ts cp k j = false) := Lib.hid (by rw [HPK.out, ← HMU.out]; exact decide_eq_false hgt)
            rw [hmu] at hgt
            clear hmu
            go_wp2_with (go_at_call 92; refine HE.out.mono ?_; rintro e w2 ⟨rfl, b2⟩; have HB2 := Lib.hid (HBJ.out.trans (b2.mono HBJ.out.size)); clear b2)
            go_roundw
            case rel => exact ⟨j + 1, by omega, by omega, by go_num, Lib.hid (fun q h1 h2 => by by_cases e : q = j; (· subst e; exact HNO.out); (· exact HJ.out q h1 (by omega))), HB2⟩
            case measure => simp [intOf]; omega
        · obtain rfl : j = 12 := by omega
          go_wp2
          go_roundw
          case rel => exact ⟨k + 1, by omega, by go_num, Lib.hid (fun l hl j h1 h2 => by by_cases e : l = k; (· subst e; exact HJ.out j h1 (by omega)); (· exact HS.out l (by omega) j h1 h2)), HBJ⟩
          case measure => simp [intOf]; omega
    · obtain rfl : k = 11 := by omega
      have HF := Lib.hid (HZ.out HS.out)
      go_wp2
      go_ret3
      exact ⟨by rw [HF.out.1, HF.out.2.1, HF.out.2.2]; rfl, HB.out⟩
set_option maxRecDepth 100000 in
set_option maxHeartbeats 4000000 in
theorem iOverload_any (v : Value) (ts : List Tsk) (cp : Int) (w : World) (h : RdTsks w v ts) :
    Calls Try.prog 46 #[v, .int .i64 cp] w fun e w' => e = .returned (.tuple #[.int .i64 (ovLo ts cp), .int .i64 (ovHi ts cp), .bool (ovB ts cp)]) ∧ Below w.heap.size w w' := by
  have hV := iValidTasks_any v ts cp w h
  unfold BoolPost at hV
  have HV := Lib.hid hV
  have HT := Lib.hid (fun (X : World) (lo hi : Nat) (hX : Below w.heap.size w X) (h0 : tksB ts = true) (h2 : lo ≤ hi) (h3 : hi ≤ 11) => itotal_any v ts lo hi X (h.below hX) h0 (by omega) (by omega) (by omega))
  obtain ⟨a, cap, ev, hl, hm, _⟩ := h
  obtain ⟨n, hn⟩ : ∃ n, n = ts.length := ⟨_, rfl⟩
  have HN := Lib.hid hn
  rw [ev] at HV HT ⊢
  rw [← hn] at HV HT hl ⊢
  clear ev hV hn
  unfold maxLen at hm
  cases h0 : vtB ts cp
  · have HF := Lib.hid (ov_no h0)
    rw [h0] at HV
    clear h0
    go_enter Try.func46, Try.ntmps46
    go_wp2_with (go_at_call 34; refine HV.out.mono ?_; rintro e w1 ⟨rfl, b1⟩; have HB1 := Lib.hid b1; clear b1)
    go_ret3
    exact ⟨by rw [HF.out.1, HF.out.2.1, HF.out.2.2]; rfl, HB1.out⟩
  obtain ⟨ht, hc⟩ := vtB_parts h0
  have HTT := Lib.hid (fun (X : World) (lo hi : Nat) (hX : Below w.heap.size w X) (h2 : lo ≤ hi) (h3 : hi ≤ 11) => HT.out X lo hi hX ht h2 h3)
  have HBD := Lib.hid (fun (lo hi : Nat) (h2 : lo ≤ hi) => reqN_bd (lo := lo) (hi := hi) ht (by omega) n (by rw [← HN.out]; exact Nat.le_refl _))
  have hn4 := (tksB_at ht).1
  rw [← HN.out] at hn4
  have HY := Lib.hid (fun (lo hi : Nat) => ov_yes (lo := lo) (hi := hi) h0)
  have HZ := Lib.hid (ov_none h0)
  have HP : Hid (∀ lo hi : Nat, ovP ts cp lo hi = decide (reqN ts lo hi n > cp * ((hi : Int) - (lo : Int)))) := Lib.hid (fun lo hi => by unfold ovP; rw [HN.out])
  rw [h0] at HV
  clear h0 HT ht
  go_enter Try.func46, Try.ntmps46
  go_wp2_with (go_at_call 34; refine HV.out.mono ?_; rintro e w1 ⟨rfl, b1⟩; have HB1 := Lib.hid b1; clear b1)
  go_loopw [13] (fun i wr => ∃ k : Nat, k ≤ 11 ∧ i = .int .i64 k ∧ Hid (∀ l, l < k → ∀ j, l < j → j ≤ 11 → ovP ts cp l j = false) ∧ Hid (Below w.heap.size w wr)) (fun i _ => 11 - (intOf i).toNat)
  case atStart => exact ⟨0, by omega, rfl, Lib.hid (fun l hl => by omega), HB1⟩
  case round =>
    obtain ⟨k, hk, rfl, HS, HB⟩ := hrel
    by_cases hlt : k < 11
    · have hltI : (k : Int) < 11 := by omega
      have hdI : decide ((k : Int) < 11) = true := decide_eq_true hltI
      go_wp2_with fail
      go_loopw [8] (fun i wr => ∃ j : Nat, k + 1 ≤ j ∧ j ≤ 12 ∧ i = .int .i64 j ∧ Hid (∀ q, k < q → q < j → ovP ts cp k q = false) ∧ Hid (Below w.heap.size w wr)) (fun i _ => 12 - (intOf i).toNat)
      case atStart => exact ⟨k + 1, by omega, by omega, by go_num, Lib.hid (fun q h1 h2 => by omega), HB⟩
      case round =>
        obtain ⟨j, hj1, hj2, rfl, HJ, HBJ⟩ := hrel
        by_cases hjl : j ≤ 11
        · have HE := Lib.hid (HTT.out wr k j HBJ.out (by omega) hjl)
          have hbd := HBD.out k j (by omega)
          have hmul := mul_bd (a := cp) (b := (j : Int) - (k : Int)) (c := 11) hc.1 hc.2 (by omega) (by omega)
          obtain ⟨en, hen⟩ : ∃ en, en = reqN ts k j n := ⟨_, rfl⟩
          have HPK := Lib.hid (HP.out k j)
          rw [← hen] at HE hbd HPK
          obtain ⟨mu, hmu⟩ : ∃ mu, mu = cp * ((j : Int) - (k : Int)) := ⟨_, rfl⟩
          have HMU := Lib.hid hmu
          clear hen
          by_cases hgt : en > mu
          · have HF := Lib.hid (HY.out k j hlt (by omega) hjl (by rw [HPK.out, ← HMU.out]; exact decide_eq_true hgt) HS.out HJ.out)
            rw [hmu] at hgt
            clear hmu
            go_wp2_with (go_at_call 93; refine HE.out.mono ?_; rintro e w2 ⟨rfl, b2⟩; have HB2 := Lib.hid (HBJ.out.trans (b2.mono HBJ.out.size)); clear b2)
            go_ret3
            exact ⟨by rw [HF.out.1, HF.out.2.1, HF.out.2.2]; rfl, HB2.out⟩
          · have HNO : Hid (ovP ts cp k j = false) := Lib.hid (by rw [HPK.out, ← HMU.out]; exact decide_eq_false hgt)
            rw [hmu] at hgt
            clear hmu
            go_wp2_with (go_at_call 93; refine HE.out.mono ?_; rintro e w2 ⟨rfl, b2⟩; have HB2 := Lib.hid (HBJ.out.trans (b2.mono HBJ.out.size)); clear b2)
            go_roundw
            case rel => exact ⟨j + 1, by omega, by omega, by go_num, Lib.hid (fun q h1 h2 => by by_cases e : q = j; (· subst e; exact HNO.out); (· exact HJ.out q h1 (by omega))), HB2⟩
            case measure => simp [intOf]; omega
        · obtain rfl : j = 12 := by omega
          go_wp2
          go_roundw
          case rel => exact ⟨k + 1, by omega, by go_num, Lib.hid (fun l hl j h1 h2 => by by_cases e : l = k; (· subst e; exact HJ.out j h1 (by omega)); (· exact HS.out l (by omega) j h1 h2)), HBJ⟩
          case measure => simp [intOf]; omega
    · obtain rfl : k = 11 := by omega
      have HF := Lib.hid (HZ.out HS.out)
      go_wp2
      go_ret3
      exact ⟨by rw [HF.out.1, HF.out.2.1, HF.out.2.2]; rfl, HB.out⟩
end Go.Proofs.Ytelglccegkhfcaa
