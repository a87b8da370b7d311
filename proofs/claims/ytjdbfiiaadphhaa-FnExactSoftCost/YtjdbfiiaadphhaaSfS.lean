/- The costs of soft constraints as plain data; the reference's SoftCost. -/
import Derived.Test.YtjdbfiiaadphhaaSfC
import Derived.Test.YtjdbfiiaadphhaaSolA
namespace Go.Proofs.Ytjdbfiiaadphhaa
open Go.ChangeShapes Go.WideShapes Go.ChangeAt Go.RowKit
set_option linter.unusedVariables false
set_option linter.unusedSimpArgs false

/-- One is valid for n variables. -/
def sf1B (s : Sft) (n : Int) : Bool := wiB s.wt 1 9 && vcB s.con n
/-- A list of them is valid for n variables. -/
def sfB (ss : List Sft) (n : Int) : Bool := ss.all (fun s => sf1B s n) && decide (ss.length ≤ 4)
theorem sfB_false {ss : List Sft} {n : Int} {k : Nat} {s : Sft} (h : ss[k]? = some s) (h1 : sf1B s n = false) : sfB ss n = false := by
  unfold sfB
  rw [show ss.all (fun s => sf1B s n) = false from List.all_eq_false.2 ⟨s, List.mem_of_getElem? h, by simp [h1]⟩]
  rfl
theorem sfB_end {ss : List Sft} {n : Int} (h : ∀ (j : Nat) (s : Sft), j < ss.length → ss[j]? = some s → sf1B s n = true) : sfB ss n = decide (ss.length ≤ 4) := by
  unfold sfB
  rw [show ss.all (fun s => sf1B s n) = true from List.all_eq_true.2 fun x hx => by
    obtain ⟨j, hj, rfl⟩ := List.mem_iff_getElem.1 hx
    exact h j _ hj (List.getElem?_eq_getElem hj)]
  rfl
theorem sfB_at {ss : List Sft} {n : Int} (h : sfB ss n = true) : ss.length ≤ 4 ∧ ∀ s ∈ ss, (1 ≤ s.wt ∧ s.wt ≤ 9) ∧ vcB s.con n = true := by
  unfold sfB at h
  obtain ⟨h1, h2⟩ := Bool.and_eq_true_iff.1 h
  rw [List.all_eq_true] at h1
  refine ⟨of_decide_eq_true h2, fun s hs => ?_⟩
  have := h1 s hs
  unfold sf1B at this
  obtain ⟨g1, g2⟩ := Bool.and_eq_true_iff.1 this
  exact ⟨wiB_in g1, g2⟩
theorem fit_soft {c : Con} {xs : List Int} (h1 : 1 ≤ xs.length) (h4 : xs.length ≤ 4) (hs : Small xs 0 5) (hv : vcB c xs.length = true) : Small c.vars 0 (xs.length - 1) ∧ Fit c (projL c xs) := by
  refine fit_of (m := ⟨List.replicate xs.length 0, [c]⟩) ?_ (by simp) hs (by simp)
  unfold vmB consB
  have e1 : allB (List.replicate xs.length 0) 0 63 = true := by unfold allB; rw [List.all_eq_true]; intro x hx; rw [List.eq_of_mem_replicate hx]; rfl
  have e2 : wiB (xs.length : Int) 1 4 = true := wiB_true (by omega) (by omega)
  simp [e1, e2, hv]
/-- The weights of the first k that xs violates. -/
def sfW (ss : List Sft) (xs : List Int) : Nat → Int
  | 0 => 0
  | k + 1 => sfW ss xs k + (match ss[k]? with | some s => if satB s.con (projL s.con xs) then 0 else s.wt | none => 0)
theorem sfW_yes {ss : List Sft} {xs : List Int} {k : Nat} {s : Sft} (h : ss[k]? = some s) (hs : satB s.con (projL s.con xs) = true) : sfW ss xs (k + 1) = sfW ss xs k := by
  show sfW ss xs k + _ = _
  rw [h]; simp [hs]
theorem sfW_no {ss : List Sft} {xs : List Int} {k : Nat} {s : Sft} (h : ss[k]? = some s) (hs : satB s.con (projL s.con xs) = false) : sfW ss xs (k + 1) = sfW ss xs k + s.wt := by
  show sfW ss xs k + _ = _
  rw [h]; simp [hs]
theorem sfW_bd {ss : List Sft} {xs : List Int} (h : ∀ s ∈ ss, (1 ≤ s.wt ∧ s.wt ≤ 9)) (k : Nat) : 0 ≤ sfW ss xs k ∧ sfW ss xs k ≤ 9 * (k : Int) := by
  induction k with
  | zero => simp [sfW]
  | succ k ih =>
    show 0 ≤ sfW ss xs k + _ ∧ sfW ss xs k + _ ≤ _
    cases hk : ss[k]? with
    | none => simp; omega
    | some s =>
      have := h s (List.mem_of_getElem? hk)
      simp only
      split <;> omega
/-- What SoftCost returns. -/
def softN (ss : List Sft) (xs : List Int) : Int := if wiB xs.length 1 4 && allB xs 0 5 && sfB ss xs.length then sfW ss xs ss.length else -1

set_option maxRecDepth 100000 in
set_option maxHeartbeats 4000000 in
theorem sVS_any (v : Value) (ss : List Sft) (N : Nat) (w : World) (h : RdSofts w v ss) (hle : SoftsLe ss 1048576) (hN : N ≤ 4) :
    Calls Try.prog 80 #[v, .int .i64 N] w (BoolPost (sfB ss N) w) := by
  have HC := Lib.hid h
  obtain ⟨a, cap, ev, hl, hm, _⟩ := h
  obtain ⟨hx1, hx2⟩ := hle
  obtain ⟨n, hn⟩ : ∃ n, n = ss.length := ⟨_, rfl⟩
  have HN := Lib.hid hn
  have HX := Lib.hid hx2
  rw [ev] at HC ⊢
  rw [← hn] at hl hx1 HC ⊢
  clear hn hx2 ev
  unfold maxLen at hm
  obtain ⟨q, hq⟩ : ∃ q, q = sfB ss N := ⟨_, rfl⟩
  rw [← hq]
  have HQ := Lib.hid hq
  clear hq
  unfold BoolPost
  go_enter Try.func80, Try.ntmps80
  go_wp2
  go_loopw [5] (fun i wr => ∃ k : Nat, k ≤ n ∧ i = .int .i64 k ∧ Hid (∀ (j : Nat) (s : Sft), j < k → ss[j]? = some s → sf1B s N = true) ∧ Hid (Below w.heap.size w wr)) (fun i _ => n - (intOf i).toNat)
  case atStart => exact ⟨0, Nat.zero_le _, rfl, Lib.hid (fun j s hj => by omega), Lib.hid (Below.refl _ _)⟩
  case round =>
    obtain ⟨k, hk, rfl, HE, HB⟩ := hrel
    by_cases hlt : k < n
    · obtain ⟨b, off, s, a2, a3, a5, c2, c3, c5, rfl, hck, k0, k1, k2, k3, k4, k5, hr⟩ := rdSofts_at (HC.out.below HB.out) hlt
      have HCK := Lib.hid hck
      have HR := Lib.hid hr
      have HV := Lib.hid (HX.out k s hck).1
      clear hck hr
      cases hw : wiB s.wt 1 9
      · have HF : Hid (q = false) := Lib.hid (by rw [HQ.out]; exact sfB_false HCK.out (by unfold sf1B; rw [hw]; rfl))
        go_wp2_with fail
        refine (inRange_any _ _ _ _).mono ?_
        rintro e w' ⟨rfl, rfl⟩
        rw [hw]
        go_wp2
        go_ret
        exact ⟨ret_bool HF.out.symm, HB.out⟩
      · cases hv : vcB s.con N
        · have HF : Hid (q = false) := Lib.hid (by rw [HQ.out]; exact sfB_false HCK.out (by unfold sf1B; rw [hw, hv]; rfl))
          go_wp2_with fail
          refine (inRange_any _ _ _ _).mono ?_
          rintro e w' ⟨rfl, rfl⟩
          rw [hw]
          go_wp2_with fail
          refine (svc_any s.con _ N _ HR.out (by have := HV.out; omega) (by omega) (by omega)).mono ?_
          rintro e w' ⟨rfl, b⟩
          have HB2 := Lib.hid (HB.out.trans (b.mono HB.out.size))
          clear b
          rw [hv]
          go_wp2
          go_ret
          exact ⟨ret_bool HF.out.symm, HB2.out⟩
        · have HF : Hid (sf1B s N = true) := Lib.hid (by unfold sf1B; rw [hw, hv]; rfl)
          go_wp2_with fail
          refine (inRange_any _ _ _ _).mono ?_
          rintro e w' ⟨rfl, rfl⟩
          rw [hw]
          go_wp2_with fail
          refine (svc_any s.con _ N _ HR.out (by have := HV.out; omega) (by omega) (by omega)).mono ?_
          rintro e w' ⟨rfl, b⟩
          have HB2 := Lib.hid (HB.out.trans (b.mono HB.out.size))
          clear b
          rw [hv]
          go_wp2
          go_roundw
          case rel => exact ⟨k + 1, by omega, by go_num, Lib.hid (fun j s' hj hc => by by_cases e : j = k; (· subst e; rw [HCK.out] at hc; rw [← Option.some.inj hc]; exact HF.out); (· exact HE.out j s' (by omega) hc)), HB2⟩
          case measure => simp [intOf]; omega
    · obtain rfl : k = n := by omega
      have HF : Hid (decide ((k : Int) ≤ 4) = q) := Lib.hid (by rw [HQ.out, sfB_end (fun j s hj hc => HE.out j s (by have := HN.out; omega) hc), ← HN.out]; exact decide_eq_decide.2 (by omega))
      clear HE
      go_wp2
      go_ret
      exact ⟨ret_bool HF.out, HB.out⟩

set_option maxRecDepth 100000 in
set_option maxHeartbeats 8000000 in
theorem sSfC_any (v xv : Value) (ss : List Sft) (xs : List Int) (w : World) (h : RdSofts w v ss) (hx : RdInts w xv xs) (h1 : 1 ≤ xs.length) (h4 : xs.length ≤ 4) (ha : allB xs 0 5 = true) (hs : sfB ss xs.length = true) :
    Calls Try.prog 81 #[v, xv] w fun e w' => e = .returned (.int .i64 (sfW ss xs ss.length)) ∧ Below w.heap.size w w' := by
  have HC := Lib.hid h
  have HX := Lib.hid hx
  obtain ⟨a, cap, ev, hl, hm, _⟩ := h
  obtain ⟨ax, cx, ex, -⟩ := id hx
  have hcx := (rdInts_cap (ex ▸ hx)).2
  obtain ⟨hn4, hat⟩ := sfB_at hs
  obtain ⟨n, hn⟩ : ∃ n, n = ss.length := ⟨_, rfl⟩
  have HN := Lib.hid hn
  have HAT := Lib.hid hat
  have HFT := Lib.hid (fun (s : Sft) (hm : s ∈ ss) => fit_soft h1 h4 (small_of ha) (hat s hm).2)
  have HBD := Lib.hid (sfW_bd (xs := xs) fun s hm => (hat s hm).1)
  rw [ev] at HC ⊢
  rw [ex] at HX ⊢
  rw [← hn] at hl hn4 HC ⊢
  clear hn hat ev ex hx ha hs
  unfold maxLen at hm
  go_enter Try.func81, Try.ntmps81
  go_wp2
  go_loopw [5, 6] (fun q i wr => ∃ (j : Nat) (z : Int), j ≤ n ∧ i = .int .i64 j ∧ q = .int .i64 z ∧ Hid (z = sfW ss xs j) ∧ 0 ≤ z ∧ z ≤ 36 ∧ Hid (Below w.heap.size w wr)) (fun _ i _ => n - (intOf i).toNat)
  case atStart => exact ⟨0, 0, Nat.zero_le _, rfl, rfl, Lib.hid rfl, by omega, by omega, Lib.hid (Below.refl _ _)⟩
  case round =>
    obtain ⟨j, z, hj, rfl, rfl, HZ, hz0, hz1, HBE⟩ := hrel
    by_cases hlt : j < n
    · obtain ⟨b, off, s, x2, x3, x5, y2, y3, y5, rfl, hck, t0, t1, t2, t3, t4, t5, hr⟩ := rdSofts_at (HC.out.below HBE.out) hlt
      have HCK := Lib.hid hck
      have hft := HFT.out s (List.mem_of_getElem? hck)
      have hwt := (HAT.out s (List.mem_of_getElem? hck)).1
      have HSV := Lib.hid hft.1
      have HFI := Lib.hid hft.2
      have HV4 : Hid (s.con.vars.length ≤ 4) := Lib.hid (by have := hft.2.four; rwa [projL_length] at this)
      have R1 : Hid (RdCon wr.drew _ s.con) := Lib.hid hr.drew
      have R2 : Hid (RdInts wr.drew _ xs) := Lib.hid (HX.out.below HBE.out).drew
      have HBd : Hid (Below w.heap.size w wr.drew) := Lib.hid HBE.out.drew
      have HT0 := Lib.hid (show wr.drew.cell? ⟨b, off + j * 6, none⟩ = some _ from t0)
      have HT1 := Lib.hid (show wr.drew.cell? ⟨b, off + j * 6 + 1, none⟩ = some _ from t1)
      have HT2 := Lib.hid (show wr.drew.cell? ⟨b, off + j * 6 + 2, none⟩ = some _ from t2)
      have HT3 := Lib.hid (show wr.drew.cell? ⟨b, off + j * 6 + 3, none⟩ = some _ from t3)
      have HT4 := Lib.hid (show wr.drew.cell? ⟨b, off + j * 6 + 4, none⟩ = some _ from t4)
      have HT5 := Lib.hid (show wr.drew.cell? ⟨b, off + j * 6 + 5, none⟩ = some _ from t5)
      obtain ⟨bv, hbv⟩ : ∃ bv, bv = satB s.con (projL s.con xs) := ⟨_, rfl⟩
      have HSB := Lib.hid hbv
      clear hck hr hft hbv t5 HBE
      go_wp2_with fail
      go_region_with (first
        | (go_at_call 131; refine (project_any s.con _ _ xs _ R1.out R2.out HSV.out HV4.out).mono ?_; rintro e w8 ⟨v8, rfl, r8, b8⟩; have rc := Lib.hid (R1.out.below b8); have rx := Lib.hid r8; have z0 := (b8.cell (World.block_lt_of_cell? _ _ HT0.out)).trans HT0.out; have z1 := (b8.cell (World.block_lt_of_cell? _ _ HT1.out)).trans HT1.out; have z2 := (b8.cell (World.block_lt_of_cell? _ _ HT2.out)).trans HT2.out; have z3 := (b8.cell (World.block_lt_of_cell? _ _ HT3.out)).trans HT3.out; have z4 := (b8.cell (World.block_lt_of_cell? _ _ HT4.out)).trans HT4.out; have Z5 := Lib.hid ((b8.cell (World.block_lt_of_cell? _ _ HT5.out)).trans HT5.out); have B8 := Lib.hid (HBd.out.trans (b8.mono HBd.out.size)); clear r8 b8)
        | (go_at_call 130; refine (ssat_any s.con _ _ _ _ rc.out rx.out HFI.out).mono ?_; rintro e w9 ⟨rfl, b9⟩; have B9 := Lib.hid (B8.out.trans (b9.mono B8.out.size)); have n5 := (b9.cell (World.block_lt_of_cell? _ _ Z5.out)).trans Z5.out; rw [← HSB.out]; clear b9))
      all_goals clear HT0 HT1 HT2 HT3 HT4 HT5 R1 R2 t0 t1 t2 t3 t4
      all_goals cases bv
      all_goals first
        | (have HS := Lib.hid (sfW_no (xs := xs) HCK.out HSB.out.symm)
           have hbd := HBD.out (j + 1)
           rw [HS.out, ← HZ.out] at hbd
           go_wp2
           go_roundw
           case rel => exact ⟨j + 1, z + s.wt, by omega, by go_num, by go_num, Lib.hid (by rw [HS.out, HZ.out]), by omega, by omega, B9⟩
           case measure => simp [intOf]; omega)
        | (have HS := Lib.hid (sfW_yes (xs := xs) HCK.out HSB.out.symm)
           go_wp2
           go_roundw
           case rel => exact ⟨j + 1, z, by omega, by go_num, rfl, Lib.hid (by rw [HS.out, HZ.out]), by omega, by omega, B9⟩
           case measure => simp [intOf]; omega)
    · obtain rfl : j = n := by omega
      go_wp2
      go_ret
      exact ⟨ret_int (by rw [HZ.out]), HBE.out⟩

set_option maxRecDepth 100000 in
set_option maxHeartbeats 4000000 in
theorem sSoftCost_any (v xv : Value) (ss : List Sft) (xs : List Int) (w : World) (h : RdSofts w v ss) (hx : RdInts w xv xs) (hle : SoftsLe ss 1048576) :
    Calls Try.prog 30 #[v, xv] w fun e w' => e = .returned (.int .i64 (softN ss xs)) ∧ Below w.heap.size w w' := by
  have HC := Lib.hid h
  have HX := Lib.hid hx
  obtain ⟨a, cap, ev, hl, hm, _⟩ := h
  obtain ⟨ax, cx, ex, -⟩ := id hx
  have hcx := (rdInts_cap (ex ▸ hx)).2
  have HLE := Lib.hid hle
  obtain ⟨n, hn⟩ : ∃ n, n = xs.length := ⟨_, rfl⟩
  have HN := Lib.hid hn
  obtain ⟨z, hz⟩ : ∃ z, z = softN ss xs := ⟨_, rfl⟩
  have HZ := Lib.hid hz
  rw [← hz]
  obtain ⟨m, hm'⟩ : ∃ m, m = ss.length := ⟨_, rfl⟩
  rw [ev] at HC ⊢
  rw [ex] at HX ⊢
  rw [← hn] at hcx HX ⊢
  rw [← hm'] at hl HC ⊢
  clear hn ev ex hx hz hm' hle
  unfold maxLen at hm
  cases h1 : wiB n 1 4
  · have HF : Hid (z = -1) := Lib.hid (by rw [HZ.out]; unfold softN; rw [← HN.out, h1]; rfl)
    go_enter Try.func30, Try.ntmps30
    go_wp2_with fail
    refine (inRange_any _ _ _ _).mono ?_
    rintro e w' ⟨rfl, rfl⟩
    rw [h1]
    go_wp2
    go_ret
    exact ⟨ret_int HF.out.symm, Below.refl _ _⟩
  have hn := wiB_in h1
  have hn1 : 1 ≤ n := by omega
  have hn4 : n ≤ 4 := by omega
  clear hn
  cases h2 : allB xs 0 5
  · have HF : Hid (z = -1) := Lib.hid (by rw [HZ.out]; unfold softN; rw [← HN.out, h1, h2]; rfl)
    go_enter Try.func30, Try.ntmps30
    go_wp2_with fail
    refine (inRange_any _ _ _ _).mono ?_
    rintro e w' ⟨rfl, rfl⟩
    rw [h1]
    go_wp2_with fail
    refine (allInRange_any _ xs 0 5 _ HX.out).mono ?_
    rintro e w' ⟨rfl, rfl⟩
    rw [h2]
    go_wp2
    go_ret
    exact ⟨ret_int HF.out.symm, Below.refl _ _⟩
  have H2 := Lib.hid h2
  cases h3 : sfB ss n
  · have HF : Hid (z = -1) := Lib.hid (by rw [HZ.out]; unfold softN; rw [← HN.out, h1, h2, h3]; rfl)
    go_enter Try.func30, Try.ntmps30
    go_wp2_with fail
    refine (inRange_any _ _ _ _).mono ?_
    rintro e w' ⟨rfl, rfl⟩
    rw [h1]
    go_wp2_with fail
    refine (allInRange_any _ xs 0 5 _ HX.out).mono ?_
    rintro e w' ⟨rfl, rfl⟩
    rw [h2]
    go_wp2_with fail
    refine (sVS_any _ ss n _ HC.out HLE.out hn4).mono ?_
    rintro e w' ⟨rfl, b⟩
    have HB := Lib.hid b
    clear b
    rw [h3]
    go_wp2
    go_ret
    exact ⟨ret_int HF.out.symm, HB.out⟩
  · have HF : Hid (z = sfW ss xs ss.length) := Lib.hid (by rw [HZ.out]; unfold softN; rw [← HN.out, h1, h2, h3]; rfl)
    have H3 := Lib.hid h3
    go_enter Try.func30, Try.ntmps30
    go_wp2_with fail
    refine (inRange_any _ _ _ _).mono ?_
    rintro e w' ⟨rfl, rfl⟩
    rw [h1]
    go_wp2_with fail
    refine (allInRange_any _ xs 0 5 _ HX.out).mono ?_
    rintro e w' ⟨rfl, rfl⟩
    rw [h2]
    go_wp2_with fail
    refine (sVS_any _ ss n _ HC.out HLE.out hn4).mono ?_
    rintro e w' ⟨rfl, b⟩
    have HB := Lib.hid b
    have HC2 := Lib.hid (HC.out.below b)
    have HX2 := Lib.hid (HX.out.below b)
    clear b
    rw [h3]
    go_wp2_with fail
    refine (sSfC_any _ _ ss xs _ HC2.out HX2.out (by rw [← HN.out]; exact hn1) (by rw [← HN.out]; exact hn4) H2.out (by rw [← HN.out]; exact H3.out)).mono ?_
    rintro e w' ⟨rfl, b⟩
    have HB2 := Lib.hid (HB.out.trans (b.mono HB.out.size))
    clear b
    go_wp2
    go_ret
    exact ⟨ret_int HF.out.symm, HB2.out⟩
end Go.Proofs.Ytjdbfiiaadphhaa
