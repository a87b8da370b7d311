/- ValidClause, in both packages. -/
import Derived.Test.YtipapmmjfoaddaaGreatLit
import Derived.BigQuiet
import Derived.Lib.QuoteBits
namespace Go.Proofs.YtipapmmjfoaddaaGreat
open Go.ChangeShapes Go.WideShapes Go.ChangeAt Go.RowKit Go.Deep
set_option linter.unusedVariables false
set_option linter.unusedSimpArgs false

theorem wrap_nat {j : Nat} (h : j ≤ 9223372036854775807) : IntKind.i64.wrap (j : Int) = (j : Int) := Lib.wrap_i64_small j (by omega)

set_option maxRecDepth 100000 in
set_option maxHeartbeats 16000000 in
theorem svalidClause_any (v : Value) (ls : List Lit) (n : Int) (w : World) (h : RdLits w v ls) (hn1 : 1 ≤ n) (hn4 : n ≤ 4) :
    Calls Tryz.prog 81 #[v, .int .i64 n] w (BoolPost (clB ls n) w) := by
  unfold BoolPost
  have HC := Lib.hid h
  obtain ⟨a, cap, ev, hl, hm, _⟩ := h
  obtain ⟨m, hm'⟩ : ∃ m, m = ls.length := ⟨_, rfl⟩
  have HN := Lib.hid hm'
  rw [ev] at HC ⊢
  rw [← hm'] at hl HC ⊢
  clear hm' ev
  unfold maxLen at hm
  go_enter Tryz.func81, Tryz.ntmps81
  go_wp2
  go_loopw [5] (fun i wr => ∃ k : Nat, k ≤ m ∧ i = .int .i64 k ∧ Hid (∀ j, j < k → stB ls n j = true) ∧ Below w.heap.size w wr) (fun i _ => m - (intOf i).toNat)
  case atStart => exact ⟨0, Nat.zero_le _, rfl, Lib.hid (fun j hj => by omega), Below.refl _ _⟩
  case round =>
    obtain ⟨k, hk, rfl, HS, hbel⟩ := hrel
    by_cases hlt : k < m
    · obtain ⟨b, off, l, rfl, hck, k0, k1, k2⟩ := rdLits_at (HC.out.below hbel) hlt
      have HCK := Lib.hid hck
      have HB : Hid (Below w.heap.size w wr) := Lib.hid hbel
      have HKL : Hid (k < ls.length) := Lib.hid (by rw [← HN.out]; exact hlt)
      clear hck hbel
      cases h3 : wiB l.var 0 (n - 1)
      · have HF : Hid (clB ls n = false) := Lib.hid (clB_false HKL.out (by unfold stB; rw [HCK.out]; simp [litOk, h3]))
        have h3' : wiB l.var 0 (IntKind.i64.wrap (n - 1)) = false := by rw [wrap_n1 hn1 hn4]; exact h3
        go_wp2_with fail
        go_quiet ((go_at_call 45; exact Calls.quiet_of ((inRange_any _ _ _ _).mono (fun e w' ⟨he, hw'⟩ => ⟨he, 0, hw'.symm⟩))))
        all_goals go_wp2
        all_goals go_ret
        all_goals exact ⟨ret_bool HF.out.symm, below_drewN' HB.out _⟩
      have h3' : wiB l.var 0 (IntKind.i64.wrap (n - 1)) = true := by rw [wrap_n1 hn1 hn4]; exact h3
      cases h4 : wiB l.val 0 5
      · have HF : Hid (clB ls n = false) := Lib.hid (clB_false HKL.out (by unfold stB; rw [HCK.out]; simp [litOk, h4]))
        go_wp2_with fail
        go_quiet ((go_at_call 45; exact Calls.quiet_of ((inRange_any _ _ _ _).mono (fun e w' ⟨he, hw'⟩ => ⟨he, 0, hw'.symm⟩))))
        all_goals go_wp2
        all_goals go_ret
        all_goals exact ⟨ret_bool HF.out.symm, below_drewN' HB.out _⟩
      have HLO : Hid (litOk l n = true) := Lib.hid (by unfold litOk; rw [h3, h4]; rfl)
      by_cases hk0 : k = 0
      · subst hk0
        have hs1 : ∀ j, j < 1 → stB ls n j = true := by
          intro j hj
          obtain rfl : j = 0 := by omega
          rw [st_zero HCK.out]
          exact HLO.out
        have HS1 := Lib.hid hs1
        simp only [Nat.zero_mul, Nat.add_zero] at k0 k1 k2
        clear hs1
        go_wp2_with fail
        go_quiet ((go_at_call 45; exact Calls.quiet_of ((inRange_any _ _ _ _).mono (fun e w' ⟨he, hw'⟩ => ⟨he, 0, hw'.symm⟩))))
        all_goals go_wp2
        all_goals go_roundw
        all_goals first
          | exact ⟨1, by omega, by go_num, HS1, below_drewN' HB.out _⟩
          | (simp [intOf]; omega)
      · obtain ⟨j, hj⟩ : ∃ j, k = j + 1 := ⟨k - 1, by omega⟩
        have hjm : j < m := by omega
        have hw1 : IntKind.i64.wrap ((k : Int) - 1) = (j : Int) := by
          have : (k : Int) - 1 = (j : Int) := by omega
          rw [this]
          exact wrap_nat (by omega)
        have hk1 : (0 : Int) ≤ (k : Int) := by omega
        have hk2 : (k : Int) < (m : Int) := by omega
        have hj1 : (0 : Int) ≤ (j : Int) := by omega
        have hj2 : (j : Int) < (m : Int) := by omega
        have hgt : decide (0 < k) = true := decide_eq_true (by omega)
        obtain ⟨b', off', p, hab, hcp, m0, m1, m2⟩ := rdLits_at (HC.out.below HB.out) hjm
        injection hab with hab
        injection hab with hb' ho' _
        subst hb' ho'
        have HL := Lib.hid (literalLess_any p l wr.drew)
        have HST : Hid (stB ls n k = litLt p l) := Lib.hid (by rw [hj] at HCK ⊢; rw [st_succ HCK.out hcp, HLO.out]; rfl)
        have HBD : Hid (Below w.heap.size w wr.drew) := Lib.hid HB.out.drew
        have HKJ := Lib.hid hj
        clear h3 hk0 hcp hj
        cases h5 : litLt p l
        · rw [h5] at HL HST
          have HF : Hid (clB ls n = false) := Lib.hid (clB_false HKL.out HST.out)
          clear h5
          go_wp2_with fail
          go_region_held3 (fun w' => w'.cell? ⟨b, off + k * 3, none⟩ = some (.int .i64 l.var) ∧ w'.cell? ⟨b, off + k * 3 + 1, none⟩ = some (.int .i64 l.val) ∧ w'.cell? ⟨b, off + k * 3 + 2, none⟩ = some (.bool l.neg) ∧ w'.cell? ⟨b, off + j * 3, none⟩ = some (.int .i64 p.var) ∧ w'.cell? ⟨b, off + j * 3 + 1, none⟩ = some (.int .i64 p.val) ∧ w'.cell? ⟨b, off + j * 3 + 2, none⟩ = some (.bool p.neg)) (first | exact ⟨k0, k1, k2, m0, m1, m2⟩ | exact ⟨e0, e1, e2, e3, e4, e5⟩) (first | (go_at_call 45; refine (inRange_any _ _ _ _).mono ?_; rintro e w' ⟨he, rfl⟩; (first | rw [h3'] at he | rw [h4] at he); subst he) | (go_at_call 125; refine HL.out.mono ?_; rintro e w9 ⟨rfl, b9⟩; have B9 := Lib.hid (HBD.out.trans (b9.mono HBD.out.size)); have e0 := (b9.cell (World.block_lt_of_cell? wr.drew _ k0)).trans k0; have e1 := (b9.cell (World.block_lt_of_cell? wr.drew _ k1)).trans k1; have e2 := (b9.cell (World.block_lt_of_cell? wr.drew _ k2)).trans k2; have e3 := (b9.cell (World.block_lt_of_cell? wr.drew _ m0)).trans m0; have e4 := (b9.cell (World.block_lt_of_cell? wr.drew _ m1)).trans m1; have e5 := (b9.cell (World.block_lt_of_cell? wr.drew _ m2)).trans m2; clear b9))
          all_goals go_wp2
          all_goals go_ret
          all_goals exact ⟨ret_bool HF.out.symm, B9.out⟩
        · rw [h5] at HL HST
          have HS1 : Hid (∀ i, i < k + 1 → stB ls n i = true) := Lib.hid (fun i hi => by
            by_cases e : i = k
            · rw [e]; exact HST.out
            · exact HS.out i (by omega))
          clear h5
          go_wp2_with fail
          go_region_held3 (fun w' => w'.cell? ⟨b, off + k * 3, none⟩ = some (.int .i64 l.var) ∧ w'.cell? ⟨b, off + k * 3 + 1, none⟩ = some (.int .i64 l.val) ∧ w'.cell? ⟨b, off + k * 3 + 2, none⟩ = some (.bool l.neg) ∧ w'.cell? ⟨b, off + j * 3, none⟩ = some (.int .i64 p.var) ∧ w'.cell? ⟨b, off + j * 3 + 1, none⟩ = some (.int .i64 p.val) ∧ w'.cell? ⟨b, off + j * 3 + 2, none⟩ = some (.bool p.neg)) (first | exact ⟨k0, k1, k2, m0, m1, m2⟩ | exact ⟨e0, e1, e2, e3, e4, e5⟩) (first | (go_at_call 45; refine (inRange_any _ _ _ _).mono ?_; rintro e w' ⟨he, rfl⟩; (first | rw [h3'] at he | rw [h4] at he); subst he) | (go_at_call 125; refine HL.out.mono ?_; rintro e w9 ⟨rfl, b9⟩; have B9 := Lib.hid (HBD.out.trans (b9.mono HBD.out.size)); have e0 := (b9.cell (World.block_lt_of_cell? wr.drew _ k0)).trans k0; have e1 := (b9.cell (World.block_lt_of_cell? wr.drew _ k1)).trans k1; have e2 := (b9.cell (World.block_lt_of_cell? wr.drew _ k2)).trans k2; have e3 := (b9.cell (World.block_lt_of_cell? wr.drew _ m0)).trans m0; have e4 := (b9.cell (World.block_lt_of_cell? wr.drew _ m1)).trans m1; have e5 := (b9.cell (World.block_lt_of_cell? wr.drew _ m2)).trans m2; clear b9))
          all_goals go_wp2
          all_goals go_roundw
          all_goals first
            | exact ⟨k + 1, by omega, by go_num, HS1, B9.out⟩
            | (simp [intOf]; omega)
    · obtain rfl : k = m := by omega
      have HF : Hid (clB ls n = decide ((k : Int) ≤ 12)) := Lib.hid (by rw [clB_all (fun j hj => HS.out j (by rw [HN.out]; exact hj)), ← HN.out]; exact decide_eq_decide.2 (by omega))
      go_wp2
      go_ret
      exact ⟨ret_bool HF.out.symm, hbel⟩

end Go.Proofs.YtipapmmjfoaddaaGreat
