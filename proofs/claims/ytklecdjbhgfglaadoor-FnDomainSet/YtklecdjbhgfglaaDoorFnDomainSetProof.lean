/- For every input the Go function laws.FnDomainSet, as it stands at the commit, returns true, and its arguments read afterwards as they read before; the library's tables that it reads hold what the program's text lays. No other condition. -/
import Derived.Test.YtklecdjbhgfglaaDoorRows
import Derived.Test.YtklecdjbhgfglaaDoorTie
import Derived.Test.YtklecdjbhgfglaaDoorCards
import Derived.Test.YtklecdjbhgfglaaDoorDomSet
import Derived.LaidMore
import Derived.Stop.Joined
import Derived.SevenTiedAt
import Derived.WalkKit
import Derived.ProofKit
import Derived.OpenShut
import Derived.ShutString
import Derived.ChangeOld
import Derived.Below
namespace Go.Proofs.YtklecdjbhgfglaaDoor.fnDomainSet
open Go.ChangeShapes Go.WideShapes Go.ChangeAt Go.RowKit
open Go.ChangeMaps (open_string shut_string)
set_option linter.unusedVariables false

theorem own : ownKnob Tryd.prog.godebug = none := by kernel_rfl
theorem laidOut : laidOutB Tryd.prog = true := by kernel_rfl

def IsRow (k : IntKind) (w : World) (a : Option Addr) (len cap : Nat) (zs : List Int) : Prop :=
  (a = none ∧ len = 0 ∧ cap = 0 ∧ zs = []) ∨
  ∃ x, a = some x ∧ len ≤ cap ∧ cap ≤ maxLen ∧ zs.length = cap ∧ (∀ i, i < zs.length → w.cell? (x.add i) = some (.int k (zs.getD i 0))) ∧ ∀ n ∈ zs, (Lit.int k n).wf = true

set_option maxRecDepth 100000 in
set_option maxHeartbeats 4000000 in
theorem walk (a0 : Option Addr) (len0 cap0 : Nat) (z0 : List Int) (w : World) (hT : Tab64 w) (w0 : IsRow .u8 w a0 len0 cap0 z0) :
    Calls Tryd.prog 3 #[.slice a0 len0 cap0] w fun e w' => e = .returned (.bool true) ∧ Below w.heap.size w w' := by
  have hok := codeOk_of w a0 len0 cap0 z0 w0
  have hl0 := hok.1
  have hm0 := hok.2.1
  have HK := Lib.hid hok
  have HT := Lib.hid hT
  clear hok w0 hT
  unfold maxLen at hm0
  by_cases hbig : 1048576 < len0
  · go_enter Tryd.func3, Tryd.ntmps3
    go_wp2
    go_ret
    exact ⟨rfl, Below.refl _ _⟩
  go_enter Tryd.func3, Tryd.ntmps3
  go_wp2_with fail
  refine (drawValues_any a0 len0 cap0 w HK.out).mono ?_
  rintro e w1 ⟨d, rfl, hb1⟩
  have hT1 : Tab64 w1 := fun i hi => (hb1.cell (World.block_lt_of_cell? w _ (HT.out i hi))).trans (HT.out i hi)
  have HT1 := Lib.hid hT1
  clear hT1 HT HK
  go_wp2_with fail
  refine (iDomainValues_any d w1).mono ?_
  rintro e w2 ⟨v2, rfl, o2, b2⟩
  have hlen : (dvals d).length ≤ 6 := by unfold dvals; split; (· exact valsL_le _ _); (· simp)
  have hB2 : Below w.heap.size w w2 := hb1.trans (b2.mono hb1.size)
  have hT2 : Tab64 w2 := fun i hi => (b2.cell (World.block_lt_of_cell? w1 _ (HT1.out i hi))).trans (HT1.out i hi)
  have HT2 := Lib.hid hT2
  have HO2 := Lib.hid o2
  have HB2 := Lib.hid hB2
  clear hT2 HT1 o2 b2 hB2 hb1
  go_wp2_with fail
  refine (iBounds_any d w2 HT2.out).mono ?_
  rintro e w' ⟨rfl, rfl⟩
  unfold bndV
  clear HT2
  go_wp2_with fail
  refine (sDomainValues_any d _).mono ?_
  rintro e w3 ⟨v3, rfl, o3, b3⟩
  have HO3 := Lib.hid (own_below HO2.out b3)
  have HB3 := Lib.hid (HB2.out.trans (b3.mono HB2.out.size))
  have HW3 := Lib.hid o3
  clear o3 b3 HO2 HB2
  go_wp2_with fail
  refine (equalInts_any v2 v3 (dvals d) (dvals d) w3 (rdInts_of_owns HO3.out (by omega)) (rdInts_of_owns HW3.out (by omega))).mono ?_
  rintro e w4 ⟨rfl, k4, hw4⟩
  rw [decide_eq_true rfl]
  have HO4 : Hid (OwnInts w4 _ v2 (dvals d)) := Lib.hid (by rw [hw4]; exact HO3.out)
  have HB4 : Hid (Below w.heap.size w w4) := Lib.hid (by rw [hw4]; exact below_drewN HB3.out k4)
  clear hw4 HO3 HB3 HW3
  cases hv : wiB d 0 63
  · go_wp2_with (first
      | (go_at_call 14; refine (ivalid_any _ _).mono ?_; rintro e w' ⟨rfl, rfl⟩)
      | (go_at_call 15; refine (sValid_any _ _).mono ?_; rintro e w' ⟨rfl, rfl⟩)
      | (go_at_call 13; fail))
    refine (sDomainValues_any d _).mono ?_
    rintro e w5 ⟨v5, rfl, o5, b5⟩
    have HO5 := Lib.hid (own_below HO4.out b5)
    have HB5 := Lib.hid (HB4.out.trans (b5.mono HB4.out.size))
    have HW5 := Lib.hid o5
    clear o5 b5 HO4 HB4
    go_wp2_with fail
    refine (equalInts_any v2 v5 (dvals d) (dvals d) w5 (rdInts_of_owns HO5.out (by omega)) (rdInts_of_owns HW5.out (by omega))).mono ?_
    rintro e w6 ⟨rfl, k6, hw6⟩
    rw [decide_eq_true rfl]
    have HB6 : Hid (Below w.heap.size w w6) := Lib.hid (by rw [hw6]; exact below_drewN HB5.out k6)
    clear hw6
    go_wp2_with (first
      | (go_at_call 14; refine (ivalid_any _ _).mono ?_; rintro e w' ⟨rfl, rfl⟩)
      | (go_at_call 15; refine (sValid_any _ _).mono ?_; rintro e w' ⟨rfl, rfl⟩))
    go_ret
    exact ⟨rfl, HB6.out⟩
  have hvd := wiB_in hv
  obtain ⟨n, rfl⟩ := Int.eq_ofNat_of_zero_le hvd.1
  have hn64 : n < 64 := by omega
  go_wp2_with (first
    | (go_at_call 14; refine (ivalid_any _ _).mono ?_; rintro e w' ⟨rfl, rfl⟩)
    | (go_at_call 15; refine (sValid_any _ _).mono ?_; rintro e w' ⟨rfl, rfl⟩))
  obtain ⟨m, hm⟩ : ∃ m, m = (dvals n).length := ⟨_, rfl⟩
  obtain ⟨av, capv, hav⟩ : ∃ a cap, v2 = .slice a m cap := by rw [hm]; exact ownsRow_slice HO4.out
  have HR := Lib.hid (rdInts_of_owns HO4.out (by omega))
  rw [hav] at HR HO4 ⊢
  have HM := Lib.hid hm
  rw [← hm] at hlen
  clear hm hav
  go_loop [7] (fun v => ∃ k : Nat, k ≤ 8 ∧ v = .int .i64 ((k : Int) - 1)) (fun v => (7 - intOf v).toNat)
  case atStart => exact ⟨0, by omega, rfl⟩
  case round =>
    obtain ⟨k, hk, rfl⟩ := hrel
    by_cases hlt : k < 8
    · have HH := Lib.hid (has_mem n hn64 k hlt)
      cases hd : decide (((k : Int) - 1) ∈ dvals n)
      all_goals
        rw [hd] at HH
        have hh := HH.out
        go_wp2_with (first
          | (go_at_call 16; refine (iDomainHas_any _ _ _).mono ?_; rintro e w' ⟨rfl, rfl⟩)
          | (go_at_call 17; refine (contains_any _ (dvals n) _ _ HR.out).mono ?_; rintro e w' ⟨rfl, rfl⟩))
        go_round
        case rel => exact ⟨k + 1, by omega, by go_num⟩
        case measure => simp [intOf]; omega
    · obtain rfl : k = 8 := by omega
      have HS := Lib.hid (size_len n hn64)
      rw [← HM.out] at HS
      by_cases h0 : dvals n = []
      · obtain ⟨e1, e2, e3⟩ := low_none n hn64 h0
        have hm0 : m = 0 := by rw [HM.out, h0]; rfl
        subst hm0
        rw [e1, e2]
        have hs := e3
        clear h0 e1 e2
        go_wp2_with (go_at_call 18; refine (iDomainSize_any _ _).mono ?_; rintro e w' ⟨rfl, rfl⟩)
        go_ret
        exact ⟨rfl, HB4.out⟩
      · obtain ⟨e1, e2⟩ := low_head n hn64 h0
        have hpos : 0 < m := by rw [HM.out]; exact List.length_pos_iff.2 h0
        obtain ⟨b, off, hav, g⟩ : ∃ b off, av = some ⟨b, off, none⟩ ∧ ∀ i, i < m → w4.cell? ⟨b, off + i, none⟩ = some (.int .i64 ((dvals n)[i]?.getD 0)) := by
          obtain ⟨a', cap', ea, _, hr⟩ := HR.out
          simp at ea
          obtain ⟨rfl, em, rfl⟩ := ea
          rcases hr with hr | ⟨b, off, rfl, g⟩
          · omega
          · exact ⟨b, off, rfl, fun i hi => g i (by omega)⟩
        have c0 := g 0 hpos
        have c1 := g (m - 1) (by omega)
        rw [← e1] at c0
        rw [← HM.out] at e2
        rw [← e2] at c1
        obtain ⟨q, rfl⟩ : ∃ q, m = q + 1 := ⟨m - 1, by omega⟩
        simp only [Nat.add_sub_cancel, Nat.add_zero] at c0 c1
        have hs := HS.out
        have hl1 : (lowD n == lowD n) = true := by simp
        have hl2 : (highD n == highD n) = true := by simp
        rw [hav]
        clear g h0 e1 e2 HM HR HO4 hav
        go_wp2_with (go_at_call 18; refine (iDomainSize_any _ _).mono ?_; rintro e w' ⟨rfl, rfl⟩)
        go_ret
        exact ⟨rfl, HB4.out⟩

/-- The door's own heap meets the condition. -/
theorem door_met (os : Os) (args : Array Value) : laidMetH Tryd.prog Rows.fnDomainSetRow.laid ((World.doorLaid Tryd.prog 400 os).forCall (fun _ _ => 0) ⟨#[], args, []⟩).memory :=
  laidMetH_of_parts3 (fuel := 8) (laidMet_of_run' 8 (by kernel_rfl) (by kernel_rfl)) (by kernel_rfl) (by kernel_rfl)

set_option maxRecDepth 100000 in
theorem lifted (os : Os) (started : os.Started) (H : Type) (enc : TypeId × Value → H) :
    ReturnsInHanded {} Tryd.checked os 3 .any (fun w args => (Rows.fnDomainSetSpec.pre enc Tryd.prog Tryd.f3 [] false w args ∧ laidMetH Tryd.prog Rows.fnDomainSetRow.laid w) ∧ sizedMet enc Tryd.prog Tryd.f3 (OpenSpec.ofChange Rows.fnDomainSetSpec) false w args) (Rows.fnDomainSetSpec.post enc Tryd.prog Tryd.f3 false true false false) := by
  refine returnsInHanded_of_change_and (C := Tryd.checked) (X := fun w _ => laidMetH Tryd.prog Rows.fnDomainSetRow.laid w) (fun _ _ _ hh h => h.of_heap hh) own started (by kernel_rfl) Tryd.func3
    (ChangeSpec.witness_shaped (enc := enc) (C := Tryd.checked) (os := os) (X := fun w _ => laidMetH Tryd.prog Rows.fnDomainSetRow.laid w) false (World.doorLaid Tryd.prog 400 os) #[.slice none 0 0] 8 rfl (World.shaped_of_RefB (by kernel_rfl) (by kernel_rfl)) (by kernel_rfl) (by kernel_rfl) (by kernel_rfl) (door_met os _)) ?_
  intro W base args ds gs before hval0 hW _ _ hL _
  have hval : ∀ (j : Nat) t v, Tryd.f3.params[j]? = some t → args[j]? = some v → Value.okWide Tryd.prog W .any base t v := hval0
  have hW' := hW
  obtain ⟨p, q, hA0, hV, rfl, hfz, hnd⟩ := hW
  have hA : DataW.TrodAll enc Tryd.prog W 0 (fun _ => true) true Tryd.f3.params.toList args.toList ds p := hA0
  rw [Tryd.params3] at hA hval
  obtain ⟨v0, vs0, d0, ds0, p0, q0, hargs, rfl, rfl, h0, r0⟩ := trodAll_cons hA
  obtain ⟨rfl, rfl, rfl⟩ := trodAll_nil r0
  obtain rfl : args = #[v0] := by cases args; simp_all
  obtain ⟨rfl, rfl⟩ := trodVars_none hV
  obtain ⟨a0, len0, cap0, rfl⟩ := okWide_slice Tryd.underlying22 (hval 0 22 v0 rfl rfl)
  have k0 := h0
  have lt0 : ∀ x ∈ p0, x.block < W.heap.size := by obtain ⟨m, hm⟩ := k0; exact DataW.trod_lt m _ _ _ hm
  obtain ⟨z0, w0⟩ : ∃ zs, IsRow .u8 W a0 len0 cap0 zs := by
    obtain ⟨fuel, hf⟩ := h0
    rcases open_ints Tryd.underlying22 Tryd.underlying5 (by kernel_rfl) hf with ⟨hcs, _⟩ | ⟨x, l, c, zs, hcs, _, hl, hm, hz, _, hcell, hwz⟩
    · simp [Value.cells] at hcs
      obtain ⟨rfl, rfl, rfl⟩ := hcs
      exact ⟨[], .inl ⟨rfl, rfl, rfl, rfl⟩⟩
    · simp [Value.cells] at hcs
      obtain ⟨rfl, rfl, rfl⟩ := hcs
      exact ⟨zs, .inr ⟨_, rfl, hl, hm, by simpa using hz, hcell, hwz⟩⟩
  clear hA0 hval0
  refine (walk a0 len0 cap0 z0 W (tabs2 hL) w0).mono fun e W' ⟨he, bel⟩ => ?_
  subst he
  exact ⟨_, rfl, _, _, _, [], _, [], hW', trodAll_mk1 (shut_bool Tryd.underlying4 _), (trodAll_cons_mk (Below.trod laidOut (by kernel_rfl) (of_decide_eq_true (by kernel_rfl)) k0 bel lt0) trodAll_mk0), rfl, bel.frame _, fun h => by cases h⟩

theorem over : Rows.fnDomainSetRow.holds Tryd.pinned (OpenSpec.ofChange Rows.fnDomainSetSpec) :=
  OpenClaim.holds_of_wide 3 Tryd.f3 rfl rfl rfl rfl rfl rfl rfl ⟨rfl, rfl, rfl, rfl, rfl⟩ rfl rfl rfl rfl rfl (by kernel_rfl) Tryd.func3 (by kernel_rfl)
    (of_decide_eq_true (by kernel_rfl)) (by unfold Func.isWrapper; first | (rw [if_pos (by decide +kernel)]; kernel_rfl) | (rw [if_neg (by decide +kernel)]; exact ⟨rfl, rfl⟩))
    (fun os started H enc _ => lifted os started H enc)

/-- The given statement: the tied card. -/
theorem proved : Rows.FnDomainSetCardSaid :=
  Claim7.holds_tied_plain_at .later [] [.data, .data] true (true, "4bd811bb3720786d9da3eebe0e68a1977df6ff13830b3804b56daaaefb4e03b6") false
    over (fun _ h => by cases h) (by kernel_rfl) (fun _ h => by cases h) fnDomainSet_row_tie rfl ⟨rfl, rfl⟩ (by kernel_rfl) rfl
    (fun f fn hf hfn => by
      obtain rfl : f = 3 := Option.some.inj ((show Tryd.prog.funcNamed Rows.fnDomainSetRow.func = some 3 by kernel_rfl).symm.trans hf) |>.symm
      obtain rfl : fn = Tryd.f3 := (Option.some.inj (Tryd.func3.symm.trans hfn)).symm
      exact ⟨by kernel_rfl, fun j t ht => by
        rw [Tryd.params3] at ht
        have hm : t ∈ [22] := by simpa using Array.mem_of_getElem? ht
        have hall : ([22].all fun u => !Tryd.prog.wantsStandIn u) = true := by kernel_rfl
        exact (show Tryd.prog.wantsStandIn t = false by simpa using List.all_eq_true.1 hall t hm)⟩)
    (by kernel_rfl)
#print axioms proved
end Go.Proofs.YtklecdjbhgfglaaDoor.fnDomainSet
