/- The tests of satisfaction as functions of data; the reference's helpers. -/
import Derived.Test.YtipapmmjfoaddaaModV
namespace Go.Proofs.Ytipapmmjfoaddaa
open Go.ChangeShapes Go.WideShapes Go.ChangeAt Go.RowKit
set_option linter.unusedVariables false
set_option linter.unusedSimpArgs false

/-- The sum of the first k products. -/
def linS (ar xs : List Int) : Nat → Int
  | 0 => 0
  | k + 1 => linS ar xs k + ar[k]?.getD 0 * xs[k]?.getD 0
/-- How many of the first k numbers are a. -/
def cntS (a : Int) (xs : List Int) : Nat → Int
  | 0 => 0
  | k + 1 => if xs[k]?.getD 0 = a then cntS a xs k + 1 else cntS a xs k
theorem cntS_le (a : Int) (xs : List Int) (k : Nat) : 0 ≤ cntS a xs k ∧ cntS a xs k ≤ k := by
  induction k with
  | zero => simp [cntS]
  | succ k ih => unfold cntS; split <;> omega
/-- Every number of the list is between lo and hi. -/
def Small (xs : List Int) (lo hi : Int) : Prop := ∀ j, j < xs.length → lo ≤ xs[j]?.getD 0 ∧ xs[j]?.getD 0 ≤ hi
theorem mul_small {a b : Int} (h1 : -9 ≤ a) (h2 : a ≤ 9) (h3 : 0 ≤ b) (h4 : b ≤ 5) : -45 ≤ a * b ∧ a * b ≤ 45 := by
  have e1 := Int.mul_le_mul_of_nonneg_right h1 h3
  have e2 := Int.mul_le_mul_of_nonneg_right h2 h3
  omega
theorem linS_le {ar xs : List Int} (ha : Small ar (-9) 9) (hx : Small xs 0 5) (hl : ar.length = xs.length) (k : Nat) (hk : k ≤ xs.length) : -45 * (k : Int) ≤ linS ar xs k ∧ linS ar xs k ≤ 45 * (k : Int) := by
  induction k with
  | zero => simp [linS]
  | succ k ih =>
    have i := ih (by omega)
    have a := ha k (by omega)
    have b := hx k (by omega)
    have m := mul_small a.1 a.2 b.1 b.2
    unfold linS
    omega
/-- The demand of the first k of n tasks at time t. -/
def loadS (ar xs : List Int) (n : Nat) (t : Int) : Nat → Int
  | 0 => 0
  | k + 1 => if xs[k]?.getD 0 ≤ t ∧ t < xs[k]?.getD 0 + ar[k]?.getD 0 then loadS ar xs n t k + ar[n + k]?.getD 0 else loadS ar xs n t k
theorem loadS_le {ar xs : List Int} {n : Nat} (ha : Small ar 0 9) (hl : ar.length = 2 * n) (t : Int) (k : Nat) (hk : k ≤ n) : 0 ≤ loadS ar xs n t k ∧ loadS ar xs n t k ≤ 9 * (k : Int) := by
  induction k with
  | zero => simp [loadS]
  | succ k ih =>
    have i := ih (by omega)
    have a := ha (n + k) (by omega)
    unfold loadS
    split <;> omega
/-- The state behind k steps. -/
def runS (rows : List (List Int)) (xs : List Int) : Nat → Int
  | 0 => 0
  | k + 1 => (rows[(runS rows xs k).toNat]?.getD [])[(xs[k]?.getD 0).toNat]?.getD 0
/-- The test of a circuit, as the reference walks it. -/
def goS (xs : List Int) (at' : Nat) (n : Nat) : Nat → Bool
  | 0 => false
  | f + 1 => if (xs.length : Int) ≤ xs[at']?.getD 0 then false else if xs[at']?.getD 0 = 0 then decide (n = xs.length) else goS xs (xs[at']?.getD 0).toNat (n + 1) f

theorem rdRows_at {w : World} {a : Option Addr} {n cap : Nat} {rows : List (List Int)} (h : RdRows w (.slice a n cap) rows) {i : Nat} (hi : i < n) : ∃ (b off : Nat) (a' : Option Addr) (c' : Nat), a = some ⟨b, off, none⟩ ∧ w.cell? ⟨b, off + i, none⟩ = some (.slice a' (rows[i]?.getD []).length c') ∧ RdInts w (.slice a' (rows[i]?.getD []).length c') (rows[i]?.getD []) := by
  obtain ⟨a', cap', e, h1, h2, h3⟩ := h
  simp at e
  obtain ⟨rfl, rfl, rfl⟩ := e
  rcases h3 with h3 | ⟨b, off, rfl, h3⟩
  · omega
  · obtain ⟨u, hu, hr⟩ := h3 i hi
    have g := hr
    obtain ⟨a2, c2, rfl, _⟩ := g
    exact ⟨b, off, a2, c2, rfl, hu, hr⟩
theorem rdRows_cap {w : World} {a : Option Addr} {n cap : Nat} {xs : List (List Int)} (h : RdRows w (.slice a n cap) xs) : n = xs.length ∧ n ≤ cap ∧ cap ≤ 9223372036854775807 := by
  obtain ⟨a', cap', e, h1, h2, _⟩ := h
  simp at e
  obtain ⟨rfl, rfl, rfl⟩ := e
  exact ⟨rfl, h1, by unfold maxLen at h2; omega⟩

/-- The first q numbers agree. -/
def preB (r x : List Int) (q : Nat) : Bool := decide (∀ j, j < q → r[j]?.getD 0 = x[j]?.getD 0)
theorem preB_step_true {r x : List Int} {q : Nat} (h : preB r x q = true) (e : r[q]?.getD 0 = x[q]?.getD 0) : preB r x (q + 1) = true := by
  unfold preB at *
  rw [decide_eq_true_iff] at *
  intro j hj
  by_cases e' : j = q
  · subst e'; exact e
  · exact h j (by omega)
theorem preB_step_false {r x : List Int} {q : Nat} (e : r[q]?.getD 0 ≠ x[q]?.getD 0) : preB r x (q + 1) = false := by
  unfold preB
  rw [decide_eq_false_iff_not]
  exact fun h => e (h q (by omega))
theorem preB_step_old {r x : List Int} {q : Nat} (h : preB r x q = false) : preB r x (q + 1) = false := by
  unfold preB at *
  rw [decide_eq_false_iff_not] at *
  exact fun h' => h fun j hj => h' j (by omega)

/-- A Boolean, and a world in which only draws were made. -/
def QuietPost (b : Bool) (w : World) (e : Ending) (w' : World) : Prop := e = .returned (.bool b) ∧ ∃ k, w' = w.drewN k

set_option maxRecDepth 100000 in
set_option maxHeartbeats 2000000 in
theorem hasRow_any (rv xv : Value) (rows : List (List Int)) (x : List Int) (w : World) (hr : RdRows w rv rows) (hx : RdInts w xv x) (hl : ∀ j, j < rows.length → (rows[j]?.getD []).length = x.length) :
    Calls Try.prog 139 #[rv, xv] w (QuietPost (decide (x ∈ rows)) w) := by
  have HR := Lib.hid hr
  have HX := Lib.hid hx
  obtain ⟨ar, cr, e1, _⟩ := hr
  obtain ⟨ax, cx, e2, _⟩ := hx
  rw [e1] at HR ⊢
  rw [e2] at HX ⊢
  obtain ⟨m, hm⟩ : ∃ m, m = rows.length := ⟨_, rfl⟩
  obtain ⟨n, hn⟩ : ∃ n, n = x.length := ⟨_, rfl⟩
  rw [← hm] at HR ⊢
  rw [← hn] at HX ⊢
  rw [← hm, ← hn] at hl
  have HL := Lib.hid hl
  have HM := Lib.hid hm
  have HN := Lib.hid hn
  clear e1 e2 hm hn hl
  have hc1 := (rdRows_cap HR.out).2
  have hc2 := (rdInts_cap HX.out).2
  go_enter Try.func139, Try.ntmps139
  go_wp2
  go_loopw [5] (fun i wr => ∃ k nq : Nat, k ≤ m ∧ i = .int .i64 k ∧ Hid (∀ j, j < k → rows[j]?.getD [] ≠ x) ∧ wr = w.drewN nq) (fun i _ => m - (intOf i).toNat)
  case atStart => exact ⟨0, 0, Nat.zero_le _, rfl, fun j hj => by omega, rfl⟩
  case round =>
    obtain ⟨k, nq, hk, rfl, HE, rfl⟩ := hrel
    by_cases hlt : k < m
    · obtain ⟨b1, o1, a1, c1, rfl, q1, r1⟩ := rdRows_at HR.out hlt
      obtain ⟨r, hrr⟩ : ∃ r, r = rows[k]?.getD [] := ⟨_, rfl⟩
      have hln : r.length = n := by rw [hrr]; exact HL.out k hlt
      rw [← hrr] at q1 r1
      rw [hln] at q1 r1
      have HRR := Lib.hid hrr
      have HLN := Lib.hid hln
      have R1 := Lib.hid r1
      have hc3 := (rdInts_cap r1).2
      clear hrr hln r1
      go_wp2
      go_loopw [6, 7] (fun s i wr => ∃ q nq : Nat, q ≤ n ∧ i = .int .i64 q ∧ s = .bool (preB r x q) ∧ wr = w.drewN nq) (fun _ i _ => n - (intOf i).toNat)
      case atStart => exact ⟨0, nq, Nat.zero_le _, rfl, by simp [preB], rfl⟩
      case round =>
        obtain ⟨q, nq, hq, rfl, rfl, rfl⟩ := hrel
        by_cases hlt2 : q < n
        · obtain ⟨b2, o2, rfl, q2⟩ := rdInts_at R1.out hlt2
          obtain ⟨b3, o3, rfl, q3⟩ := rdInts_at HX.out hlt2
          cases hp : preB r x q
          · have HS := Lib.hid (preB_step_old hp)
            go_wp2_with fail
            go_quiet (fail)
            go_wp2
            go_roundw
            case rel => exact ⟨q + 1, _, by omega, by go_num, by rw [HS.out], rfl⟩
            case measure => simp [intOf]; omega
          · by_cases he : r[q]?.getD 0 = x[q]?.getD 0
            · have hb : (r[q]?.getD 0 == x[q]?.getD 0) = true := by simp [he]
              have HS := Lib.hid (preB_step_true hp he)
              clear he
              go_wp2_with fail
              go_quiet (fail)
              go_wp2
              go_roundw
              case rel => exact ⟨q + 1, _, by omega, by go_num, by rw [HS.out], rfl⟩
              case measure => simp [intOf]; omega
            · have hb : (r[q]?.getD 0 == x[q]?.getD 0) = false := by simp [he]
              have HS := Lib.hid (preB_step_false he)
              clear he
              go_wp2_with fail
              go_quiet (fail)
              go_wp2
              go_roundw
              case rel => exact ⟨q + 1, _, by omega, by go_num, by rw [HS.out], rfl⟩
              case measure => simp [intOf]; omega
        · obtain rfl : q = n := by omega
          cases hp : preB r x q
          · have HQ : Hid (rows[k]?.getD [] ≠ x) := Lib.hid (fun e => by
              unfold preB at hp
              rw [decide_eq_false_iff_not] at hp
              exact hp fun j _ => by rw [HRR.out, e])
            go_wp2
            go_roundw
            case rel => exact ⟨k + 1, _, by omega, by go_num, fun j hj => by by_cases e : j = k; (· subst e; exact HQ.out); (· exact HE.out j (by omega)), rfl⟩
            case measure => simp [intOf]; omega
          · have HQ : Hid (decide (x ∈ rows) = true) := Lib.hid (by
              unfold preB at hp
              rw [decide_eq_true_iff] at hp ⊢
              have e : r = x := getD_ext (by have := HLN.out; have := HN.out; omega) (fun j hj => hp j (by have := HLN.out; omega))
              rw [← e, HRR.out]
              have hk' : k < rows.length := by have := HM.out; omega
              rw [List.getElem?_eq_getElem hk']
              exact List.getElem_mem hk')
            go_wp2
            go_ret
            exact ⟨ret_bool HQ.out.symm, _, rfl⟩
    · obtain rfl : k = m := by omega
      have HQ : Hid (decide (x ∈ rows) = false) := Lib.hid (by
        rw [decide_eq_false_iff_not]
        intro hx
        obtain ⟨j, hj, e⟩ := List.mem_iff_getElem.1 hx
        exact HE.out j (by have := HM.out; omega) (by rw [List.getElem?_eq_getElem hj]; exact e))
      clear HE
      go_wp2
      go_ret
      exact ⟨ret_bool HQ.out.symm, _, rfl⟩

set_option maxRecDepth 100000 in
set_option maxHeartbeats 2000000 in
theorem isCircuit_any (xv : Value) (x : List Int) (w : World) (hx : RdInts w xv x) (hn1 : 1 ≤ x.length) (hn4 : x.length ≤ 4) (hv : Small x 0 5) :
    Calls Try.prog 142 #[xv] w (QuietPost (goS x 0 1 x.length) w) := by
  have HX := Lib.hid hx
  obtain ⟨ax, cx, e2, _⟩ := hx
  rw [e2] at HX ⊢
  obtain ⟨n, hn⟩ : ∃ n, n = x.length := ⟨_, rfl⟩
  rw [← hn] at HX hn1 hn4 ⊢
  have HN := Lib.hid hn
  have HV := Lib.hid hv
  clear e2 hn hv
  have hc2 := (rdInts_cap HX.out).2
  go_enter Try.func142, Try.ntmps142
  go_wp2
  go_loop [3, 4] (fun a i => ∃ at' q : Nat, at' < n ∧ 1 ≤ q ∧ q ≤ n + 1 ∧ i = .int .i64 q ∧ a = .int .i64 at' ∧ Hid (goS x 0 1 n = goS x at' q (n + 1 - q))) (fun _ i => n + 1 - (intOf i).toNat)
  case atStart => exact ⟨0, 1, by omega, by omega, by omega, rfl, rfl, Lib.hid (by simp)⟩
  case round =>
    obtain ⟨at', q, ha, hq1, hq, rfl, rfl, HG⟩ := hrel
    by_cases hlt : q ≤ n
    · obtain ⟨b, off, rfl, q2⟩ := rdInts_at HX.out ha
      have hb := HV.out at' (by have := HN.out; omega)
      obtain ⟨y, hy⟩ : ∃ y, y = x[at']?.getD 0 := ⟨_, rfl⟩
      have HG' : Hid (goS x at' q (n + 1 - q) = (if (n : Int) ≤ y then false else if y = 0 then decide (q = n) else goS x y.toNat (q + 1) (n + 1 - (q + 1)))) := Lib.hid (by
        rw [show n + 1 - q = (n + 1 - (q + 1)) + 1 from by omega, goS, ← HN.out, ← hy])
      rw [← hy] at q2 hb
      have HY := Lib.hid hy
      clear hy
      by_cases h1 : (n : Int) ≤ y
      · go_wp2
        go_ret
        exact ⟨ret_bool (by rw [HG.out, HG'.out, if_pos h1]), 0, rfl⟩
      · by_cases h0 : y = 0
        · subst h0
          have HF : Hid (goS x 0 1 n = decide ((q : Int) = (n : Int))) := Lib.hid (by rw [HG.out, HG'.out, if_neg h1, if_pos rfl]; exact decide_eq_decide.2 (by omega))
          clear HG HG'
          by_cases hqn : (q : Int) = (n : Int)
          · have hd : ((q : Int) == (n : Int)) = true := by simp [hqn]
            have HF2 : Hid (goS x 0 1 n = true) := Lib.hid (by rw [HF.out, decide_eq_true hqn])
            clear hqn
            go_wp2
            go_ret
            exact ⟨ret_bool HF2.out.symm, 0, rfl⟩
          · have hd : ((q : Int) == (n : Int)) = false := by simp; omega
            have HF2 : Hid (goS x 0 1 n = false) := Lib.hid (by rw [HF.out, decide_eq_false hqn])
            go_wp2
            go_ret
            exact ⟨ret_bool HF2.out.symm, 0, rfl⟩
        · obtain ⟨z, hz⟩ : ∃ z : Nat, y = z := ⟨y.toNat, by omega⟩
          subst hz
          have hz0 : ((z : Int) == 0) = false := by simp; omega
          go_wp2
          go_round
          case rel => exact ⟨z, q + 1, by omega, by omega, by omega, by go_num, rfl, Lib.hid (by rw [HG.out, HG'.out, if_neg h1, if_neg h0]; simp)⟩
          case measure => simp [intOf]; omega
    · obtain rfl : q = n + 1 := by omega
      have HF : Hid (goS x 0 1 n = false) := Lib.hid (by rw [HG.out]; simp [goS])
      go_wp2
      go_ret
      exact ⟨ret_bool HF.out.symm, 0, rfl⟩
end Go.Proofs.Ytipapmmjfoaddaa
