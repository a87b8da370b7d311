/- Required energy, both packages. -/
import Derived.Test.YtelglccegkhfcaaEng
import Derived.Test.YtelglccegkhfcaaTup
import Derived.Deep.AppendLies
import Derived.BigQuiet
namespace Go.Proofs.Ytelglccegkhfcaa
open Go.ChangeShapes Go.WideShapes Go.ChangeAt Go.RowKit
set_option linter.unusedVariables false
set_option linter.unusedSimpArgs false

theorem vL_leE (d : Int) (k : Nat) : (vL d k).length ≤ k := by
  induction k with
  | zero => simp [vL]
  | succ k ih => simp only [vL, List.length_append]; split <;> simp <;> omega
set_option maxRecDepth 100000 in
set_option maxHeartbeats 1000000 in
theorem svalsE_any (d : Int) (w : World) (h1 : 0 ≤ d) (h2 : d ≤ 63) :
    Calls Try.prog 127 #[.int .i64 d] w (IntsPost (vL d 6) w) := by
  obtain ⟨i0, hi, hz0, hz1, hz2⟩ := info_parts Try.info3
  go_enter Try.func127, Try.ntmps127
  go_wp2
  go_loopw [3, 4] (fun v i wr => ∃ k : Nat, k ≤ 6 ∧ i = .int .i64 k ∧ wr.ownsRow w.heap.size 3 1 v (vL d k).length ((vL d k).map (Value.int .i64)) ∧ Below w.heap.size w wr) (fun _ i _ => 6 - (intOf i).toNat)
  case atStart =>
    exact ⟨0, by omega, rfl, ownsRow_made w 3, (Below.refl _ _).alloc (Nat.le_refl _) _⟩
  case round =>
    obtain ⟨k, hk, rfl, hown, hbel⟩ := hrel
    have hle := vL_leE d k
    have hsz := hbel.size
    by_cases hlt : k < 6
    · cases hh : hasB d k
      · have HS := Lib.hid (show vL d (k + 1) = vL d k ++ if hasB d k then [(k : Int)] else [] from rfl)
        rw [hh] at HS
        go_wp2_with (go_at_call 164; refine (shas_any _ _ _ h1 h2).mono ?_; rintro e w' ⟨rfl, rfl⟩)
        go_roundw
        case rel => exact ⟨k + 1, by omega, by go_num, by rw [HS.out]; simpa using hown, hbel⟩
        case measure => simp [intOf]; omega
      · have HS := Lib.hid (show vL d (k + 1) = vL d k ++ if hasB d k then [(k : Int)] else [] from rfl)
        rw [hh] at HS
        go_wp2_with (first
          | (go_at_call 164; refine (shas_any _ _ _ h1 h2).mono ?_; rintro e w' ⟨rfl, rfl⟩)
          | (at_builtin; refine wpList_append_own _ rfl _ _ 29 rfl w.heap.size 3 i0 (.int .i64 0) 1 8 Try.underlying29 hi hz0 hz1 hz2 rfl (by decide) _ _ _ rfl (hown.alloc _) ⟨wr.heap.size, 0, none⟩ 1 1 [.int .i64 k] rfl rfl (cell_one_new _ _ _) (by simp [Value.oneCell']) (by unfold maxLen; omega) (by omega) (by simp; omega) ?_; intro v' w1 hown' hgrow _))
        have hb1 : Below w.heap.size w w1 := ((hbel.alloc (by omega) _).grown hgrow (by simp; omega) (fun j e => (hown.lt j e).1))
        go_wp2
        go_roundw
        case rel => exact ⟨k + 1, by omega, by go_num, by rw [HS.out]; simpa using hown', hb1⟩
        case measure => simp [intOf]; omega
    · obtain rfl : k = 6 := by omega
      go_wp2
      go_ret
      exact ⟨_, rfl, hown, hbel⟩

set_option maxRecDepth 100000 in
set_option maxHeartbeats 2000000 in
theorem soverlap_any (a b c d : Int) (w : World) (h1 : 0 ≤ a) (h2 : a ≤ b) (h3 : b ≤ 1000) (h4 : 0 ≤ c) (h5 : c ≤ 1000) (h6 : 0 ≤ d) (h7 : d ≤ 1000) :
    Calls Try.prog 134 #[.int .i64 a, .int .i64 b, .int .i64 c, .int .i64 d] w fun e w' => e = .returned (.int .i64 (ovl a b c d)) ∧ w = w' := by
  have HF : Hid (ovl a b c d = max 0 (min b d - max a c)) := Lib.hid rfl
  have hx : -1000 ≤ min b d - max a c ∧ min b d - max a c ≤ 1000 := by omega
  go_enter Try.func134, Try.ntmps134
  go_wp2
  go_ret
  exact ⟨ret_int HF.out.symm, rfl⟩

theorem leS_step (t : Tsk) (lo hi : Int) {L : List Int} {q : Nat} {s : Int} (h : L[q]? = some s) : leS t lo hi (L.take (q + 1)) = min (leS t lo hi (L.take q)) (ovl s (s + t.du) lo hi) := by
  unfold leS
  rw [List.take_add_one, h]
  simp [minF_snoc]
set_option maxRecDepth 100000 in
set_option maxHeartbeats 4000000 in
theorem srequired_any (v : Value) (ts : List Tsk) (lo hi : Int) (w : World) (h : RdTsks w v ts) (ht : tksB ts = true) (h5 : 0 ≤ lo) (h6 : lo ≤ hi) (h8 : hi ≤ 11) :
    Calls Try.prog 92 #[v, .int .i64 lo, .int .i64 hi] w fun e w' => e = .returned (.int .i64 (reqN ts lo hi ts.length)) ∧ Below w.heap.size w w' := by
  have HC := Lib.hid h
  obtain ⟨a, cap, ev, hl, hm, _⟩ := h
  obtain ⟨n, hn⟩ : ∃ n, n = ts.length := ⟨_, rfl⟩
  have HN := Lib.hid hn
  have hn4 := (tksB_at ht).1
  have HT := Lib.hid (tksB_at ht).2
  have HBD := Lib.hid (reqN_bd (lo := lo) (hi := hi) ht h6)
  rw [ev] at HC ⊢
  rw [← hn] at hl hn4 HC HBD ⊢
  clear ev hn ht
  unfold maxLen at hm
  go_enter Try.func92, Try.ntmps92
  go_wp2
  go_loopw [7, 8] (fun s i wr => ∃ k : Nat, k ≤ n ∧ i = .int .i64 k ∧ s = .int .i64 (reqN ts lo hi k) ∧ Hid (Below w.heap.size w wr)) (fun _ i _ => n - (intOf i).toNat)
  case atStart => exact ⟨0, Nat.zero_le _, rfl, rfl, Lib.hid (Below.refl _ _)⟩
  case round =>
    obtain ⟨k, hk, rfl, rfl, HB⟩ := hrel
    have hbd := HBD.out k hk
    by_cases hlt : k < n
    · obtain ⟨b, off, t, rfl, hck, k0, k1, k2⟩ := rdTsks_at (HC.out.below HB.out) hlt
      have htk := HT.out k t hck
      obtain ⟨t1, t2, t3, t4, t5, t6⟩ := tkB_in htk
      have HNX : Hid (reqN ts lo hi (k + 1) = reqN ts lo hi k + leS t lo hi (vL t.st 6) * t.de) := Lib.hid (by
        rw [← enI_eq htk h6, ← tAt_of hck]; rfl)
      obtain ⟨sm, hsm⟩ : ∃ sm, sm = reqN ts lo hi k := ⟨_, rfl⟩
      rw [← hsm] at hbd HNX ⊢
      have HL6 : Hid (∀ (q : Nat) (s : Int), (vL t.st 6)[q]? = some s → 0 ≤ s ∧ s ≤ 5) := Lib.hid (fun q s hq => by
        have := vL_mem (List.mem_of_getElem? hq); omega)
      have HLB : Hid (∀ q : Nat, 0 ≤ leS t lo hi ((vL t.st 6).take q) ∧ leS t lo hi ((vL t.st 6).take q) ≤ t.du) := Lib.hid (fun q => minF_bd (by omega) (by omega) (by omega) (fun s _ => (ovl_bd (by omega)).1))
      have HMB : Hid (0 ≤ leS t lo hi (vL t.st 6) * t.de ∧ leS t lo hi (vL t.st 6) * t.de ≤ 54) := Lib.hid (by
        rw [← enI_eq htk h6]; exact enI_bd htk h6)
      have HTK := Lib.hid htk
      have HCK := Lib.hid hck
      clear htk hck hsm
      go_wp2_with fail
      refine (svalsE_any t.st _ (by omega) (by omega)).mono ?_
      rintro e w1 ⟨v1, rfl, o1, b1⟩
      have HR1 := Lib.hid (rdInts_of_own o1)
      obtain ⟨ua, un, uc, eu⟩ := own_slice o1
      subst eu
      have hun : un = (vL t.st 6).length := (rdInts_cap HR1.out).1
      have hcu := (rdInts_cap HR1.out).2
      have hul : un ≤ 6 := by rw [hun]; exact vL_leE _ _
      have HUN := Lib.hid hun
      have HB1 := Lib.hid (HB.out.trans (b1.mono HB.out.size))
      have HC1 := Lib.hid (HC.out.below HB1.out)
      have g1 := (b1.cell (World.block_lt_of_cell? _ _ k1)).trans k1
      have g2 := (b1.cell (World.block_lt_of_cell? _ _ k2)).trans k2
      have HG1 := Lib.hid g1
      have HG2 := Lib.hid g2
      obtain ⟨L, hL⟩ : ∃ L, L = vL t.st 6 := ⟨_, rfl⟩
      rw [← hL] at HR1 HUN HLB HMB HL6 HNX
      have HLV := Lib.hid hL
      clear o1 b1 k0 k1 k2 hun hL
      go_wp2_with fail
      go_loopw [10, 11] (fun z j wq => ∃ q : Nat, q ≤ un ∧ j = .int .i64 q ∧ z = .int .i64 (leS t lo hi (L.take q)) ∧ Hid (Below w1.heap.size w1 wq)) (fun _ j _ => un - (intOf j).toNat)
      case atStart => exact ⟨0, Nat.zero_le _, rfl, rfl, Lib.hid (Below.refl _ _)⟩
      case round =>
        obtain ⟨q, hq, rfl, rfl, HQ⟩ := hrel
        have hlb := HLB.out q
        by_cases hqu : q < un
        · obtain ⟨b2, o2, rfl, q2⟩ := rdInts_at (HR1.out.below HQ.out) hqu
          have p1 := (HQ.out.cell (World.block_lt_of_cell? _ _ HG1.out)).trans HG1.out
          obtain ⟨s, hs⟩ : ∃ s, L[q]? = some s := ⟨_, List.getElem?_eq_getElem (by have := HUN.out; omega)⟩
          rw [hs] at q2
          have q2 : wr.cell? ⟨b2, o2 + q, none⟩ = some (.int .i64 s) := q2
          have HQD := Lib.hid (fun k => below_drewN' HQ.out k)
          have hs5 := HL6.out q s hs
          have HST := Lib.hid (leS_step t lo hi hs)
          obtain ⟨z, hz⟩ : ∃ z, z = leS t lo hi (L.take q) := ⟨_, rfl⟩
          rw [← hz] at hlb HST ⊢
          have hov := ovl_bd (a := s) (b := s + t.du) (c := lo) (d := hi) (by omega)
          obtain ⟨ov, hov2⟩ : ∃ ov, ov = ovl s (s + t.du) lo hi := ⟨_, rfl⟩
          rw [← hov2] at hov HST
          have HOV := Lib.hid hov2
          clear hs hz hov2
          go_wp2_with fail
          go_quiet ((go_at_call 134; exact Calls.quiet_of ((soverlap_any s (s + t.du) lo hi _ (by omega) (by omega) (by omega) (by omega) (by omega) (by omega) (by omega)).mono (fun e w' ⟨he, hw'⟩ => ⟨he.trans (ret_int HOV.out.symm), 0, hw'.symm⟩))))
          all_goals go_wp2
          all_goals go_roundw
          all_goals first
            | exact ⟨q + 1, by omega, by go_num, by rw [HST.out], Lib.hid (HQD.out _)⟩
            | (simp [intOf]; omega)
        · obtain rfl : q = un := by omega
          have HTK2 : Hid (L.take q = L) := Lib.hid (List.take_of_length_le (by have := HUN.out; omega))
          rw [HTK2.out] at hlb ⊢
          have hmb := HMB.out
          obtain ⟨z, hz⟩ : ∃ z, z = leS t lo hi L := ⟨_, rfl⟩
          rw [← hz] at hlb hmb HNX ⊢
          have HB2 := Lib.hid (HB1.out.trans (HQ.out.mono HB1.out.size))
          have p2 := (HQ.out.cell (World.block_lt_of_cell? _ _ HG2.out)).trans HG2.out
          clear hz HMB HLB
          go_wp2
          go_roundw
          case rel => exact ⟨k + 1, by omega, by go_num, by rw [HNX.out], HB2⟩
          case measure => simp [intOf]; omega
    · obtain rfl : k = n := by omega
      go_wp2
      go_ret
      exact ⟨rfl, HB.out⟩

set_option maxRecDepth 100000 in
theorem method_te (t : Tsk) (w : World) : (method 317 38 (.agg #[.int .i64 t.st, .int .i64 t.du, .int .i64 t.de]) "loop.example/constraintsolver/impl.energy").run Try.prog w = .ok (133, .agg #[.int .i64 t.st, .int .i64 t.du, .int .i64 t.de]) w := by kernel_rfl
set_option maxRecDepth 100000 in
set_option maxHeartbeats 4000000 in
theorem itotal_any (v : Value) (ts : List Tsk) (lo hi : Int) (w : World) (h : RdTsks w v ts) (ht : tksB ts = true) (h5 : 0 ≤ lo) (h6 : lo ≤ hi) (h8 : hi ≤ 11) :
    Calls Try.prog 93 #[v, .int .i64 lo, .int .i64 hi] w fun e w' => e = .returned (.int .i64 (reqN ts lo hi ts.length)) ∧ Below w.heap.size w w' := by
  have HC := Lib.hid h
  obtain ⟨a, cap, ev, hl, hm, _⟩ := h
  obtain ⟨n, hn⟩ : ∃ n, n = ts.length := ⟨_, rfl⟩
  have HN := Lib.hid hn
  have hn4 := (tksB_at ht).1
  have HT := Lib.hid (tksB_at ht).2
  have HBD := Lib.hid (reqN_bd (lo := lo) (hi := hi) ht h6)
  rw [ev] at HC ⊢
  rw [← hn] at hl hn4 HC HBD ⊢
  clear ev hn ht
  unfold maxLen at hm
  go_enter Try.func93, Try.ntmps93
  go_wp2
  go_loopw [7, 12] (fun s i wr => ∃ k : Nat, k ≤ n ∧ i = .int .i64 k ∧ s = .int .i64 (reqN ts lo hi k) ∧ Hid (Below w.heap.size w wr)) (fun _ i _ => n - (intOf i).toNat)
  case atStart => exact ⟨0, Nat.zero_le _, rfl, rfl, Lib.hid (Below.refl _ _)⟩
  case round =>
    obtain ⟨k, hk, rfl, rfl, HB⟩ := hrel
    have hbd := HBD.out k hk
    by_cases hlt : k < n
    · obtain ⟨b, off, t, rfl, hck, k0, k1, k2⟩ := rdTsks_at (HC.out.below HB.out) hlt
      have htk := HT.out k t hck
      have HNX : Hid (reqN ts lo hi (k + 1) = reqN ts lo hi k + enI t lo hi) := Lib.hid (by
        rw [← tAt_of hck]; rfl)
      obtain ⟨sm, hsm⟩ : ∃ sm, sm = reqN ts lo hi k := ⟨_, rfl⟩
      rw [← hsm] at hbd HNX ⊢
      have heb := enI_bd (lo := lo) (hi := hi) htk h6
      obtain ⟨W1, hW1⟩ : ∃ W1, wr.alloc (.cells #[.int .i64 t.st, .int .i64 t.du, .int .i64 t.de] 38) = W1 := ⟨_, rfl⟩
      have hB1 : Below wr.heap.size wr W1 := by rw [← hW1]; exact (Below.refl _ _).alloc (Nat.le_refl _) _
      have bP : BlkT W1 wr.heap.size 38 (.int .i64 t.st) (.int .i64 t.du) (.int .i64 t.de) := by rw [← hW1]; exact BlkT.new _ _ _ _ _
      have HB1 := Lib.hid (HB.out.trans (hB1.mono HB.out.size))
      have HW := Lib.hid hW1
      have HE := Lib.hid (tenergy_any t lo hi W1 htk h5 h6 h8)
      obtain ⟨p0, p1, p2⟩ := bP.cell
      have hmt := method_te t W1
      obtain ⟨en, hen⟩ : ∃ en, en = enI t lo hi := ⟨_, rfl⟩
      rw [← hen] at heb HE HNX
      clear hck htk hB1 bP hW1 hsm hen
      go_wp2_with (first | rw [HW.out] | (go_at_call 133; refine HE.out.mono ?_; rintro e w9 ⟨rfl, b9⟩; have B9 := Lib.hid (HB1.out.trans (b9.mono HB1.out.size)); clear b9))
      go_roundw
      case rel => exact ⟨k + 1, by omega, by go_num, by rw [HNX.out], B9⟩
      case measure => simp [intOf]; omega
    · obtain rfl : k = n := by omega
      go_wp2
      go_ret
      exact ⟨rfl, HB.out⟩

theorem reqZ_no {ts : List Tsk} {lo hi : Int} (h : (tksB ts && (wiB lo 0 hi && !decide (hi > 11))) = false) : reqZ ts lo hi = -1 := by unfold reqZ; rw [h]; rfl
theorem reqZ_yes {ts : List Tsk} {lo hi : Int} (h : (tksB ts && (wiB lo 0 hi && !decide (hi > 11))) = true) : reqZ ts lo hi = reqN ts lo hi ts.length := by unfold reqZ; rw [h]; rfl
set_option maxRecDepth 100000 in
set_option maxHeartbeats 2000000 in
theorem sRequired_any (v : Value) (ts : List Tsk) (lo hi : Int) (w : World) (h : RdTsks w v ts) :
    Calls Try.prog 43 #[v, .int .i64 lo, .int .i64 hi] w fun e w' => e = .returned (.int .i64 (reqZ ts lo hi)) ∧ Below w.heap.size w w' := by
  have hV := svalidTasks_any v ts 0 w h
  unfold BoolPost at hV
  have HV := Lib.hid hV
  have HT := Lib.hid (fun (X : World) (hX : Below w.heap.size w X) (h0 : tksB ts = true) (h1 : 0 ≤ lo) (h2 : lo ≤ hi) (h3 : hi ≤ 11) => srequired_any v ts lo hi X (h.below hX) h0 h1 h2 h3)
  have HN := Lib.hid (reqZ_no (ts := ts) (lo := lo) (hi := hi))
  have HY := Lib.hid (reqZ_yes (ts := ts) (lo := lo) (hi := hi))
  obtain ⟨a, cap, ev, hl, hm, _⟩ := h
  obtain ⟨n, hn⟩ : ∃ n, n = ts.length := ⟨_, rfl⟩
  rw [ev] at HV HT ⊢
  rw [← hn] at HV HT hl HY ⊢
  clear ev hV hn
  unfold maxLen at hm
  cases h0 : tksB ts
  · rw [show vtB ts 0 = false by unfold vtB; rw [h0]; rfl] at HV
    have HF := Lib.hid (HN.out (by rw [h0]; rfl))
    go_enter Try.func43, Try.ntmps43
    go_wp2_with (go_at_call 72; refine HV.out.mono ?_; rintro e w1 ⟨rfl, b1⟩; have HB1 := Lib.hid b1; clear b1)
    go_ret
    exact ⟨ret_int HF.out.symm, HB1.out⟩
  rw [show vtB ts 0 = true by unfold vtB; rw [h0]; rfl] at HV
  cases h1 : wiB lo 0 hi
  · have HF := Lib.hid (HN.out (by rw [h0, h1]; rfl))
    go_enter Try.func43, Try.ntmps43
    go_wp2_with (first | (go_at_call 72; refine HV.out.mono ?_; rintro e w1 ⟨rfl, b1⟩; have HB1 := Lib.hid b1; clear b1) | (go_at_call 91; refine (inRange_any _ _ _ _).mono ?_; rintro e w' ⟨rfl, rfl⟩; rw [h1]))
    go_ret
    exact ⟨ret_int HF.out.symm, HB1.out⟩
  by_cases h2 : hi > 11
  · have HF := Lib.hid (HN.out (by rw [h0, h1, decide_eq_true h2]; rfl))
    go_enter Try.func43, Try.ntmps43
    go_wp2_with (first | (go_at_call 72; refine HV.out.mono ?_; rintro e w1 ⟨rfl, b1⟩; have HB1 := Lib.hid b1; clear b1) | (go_at_call 91; refine (inRange_any _ _ _ _).mono ?_; rintro e w' ⟨rfl, rfl⟩; rw [h1]))
    go_ret
    exact ⟨ret_int HF.out.symm, HB1.out⟩
  have hw := wiB_in h1
  have HF := Lib.hid (HY.out (by rw [h0, h1, decide_eq_false h2]; rfl))
  have HTT := Lib.hid (fun (X : World) (hX : Below w.heap.size w X) => HT.out X hX h0 hw.1 hw.2 (by omega))
  clear HT hw
  go_enter Try.func43, Try.ntmps43
  go_wp2_with (first | (go_at_call 72; refine HV.out.mono ?_; rintro e w1 ⟨rfl, b1⟩; have HB1 := Lib.hid b1; clear b1) | (go_at_call 91; refine (inRange_any _ _ _ _).mono ?_; rintro e w' ⟨rfl, rfl⟩; rw [h1]) | (go_at_call 92; refine (HTT.out _ HB1.out).mono ?_; rintro e w2 ⟨rfl, b2⟩; have HB2 := Lib.hid (HB1.out.trans (b2.mono HB1.out.size)); clear b2))
  go_ret
  exact ⟨ret_int HF.out.symm, HB2.out⟩
set_option maxRecDepth 100000 in
set_option maxHeartbeats 2000000 in
theorem iRequired_any (v : Value) (ts : List Tsk) (lo hi : Int) (w : World) (h : RdTsks w v ts) :
    Calls Try.prog 44 #[v, .int .i64 lo, .int .i64 hi] w fun e w' => e = .returned (.int .i64 (reqZ ts lo hi)) ∧ Below w.heap.size w w' := by
  have hV := iAreTasks_any v ts w h
  unfold BoolPost at hV
  have HV := Lib.hid hV
  have HT := Lib.hid (fun (X : World) (hX : Below w.heap.size w X) (h0 : tksB ts = true) (h1 : 0 ≤ lo) (h2 : lo ≤ hi) (h3 : hi ≤ 11) => itotal_any v ts lo hi X (h.below hX) h0 h1 h2 h3)
  have HN := Lib.hid (reqZ_no (ts := ts) (lo := lo) (hi := hi))
  have HY := Lib.hid (reqZ_yes (ts := ts) (lo := lo) (hi := hi))
  obtain ⟨a, cap, ev, hl, hm, _⟩ := h
  obtain ⟨n, hn⟩ : ∃ n, n = ts.length := ⟨_, rfl⟩
  rw [ev] at HV HT ⊢
  rw [← hn] at HV HT hl HY ⊢
  clear ev hV hn
  unfold maxLen at hm
  cases h0 : tksB ts
  · rw [show tksB ts = false by exact h0] at HV
    have HF := Lib.hid (HN.out (by rw [h0]; rfl))
    go_enter Try.func44, Try.ntmps44
    go_wp2_with (go_at_call 80; refine HV.out.mono ?_; rintro e w1 ⟨rfl, b1⟩; have HB1 := Lib.hid b1; clear b1)
    go_ret
    exact ⟨ret_int HF.out.symm, HB1.out⟩
  rw [show tksB ts = true by exact h0] at HV
  cases h1 : wiB lo 0 hi
  · have HF := Lib.hid (HN.out (by rw [h0, h1]; rfl))
    go_enter Try.func44, Try.ntmps44
    go_wp2_with (first | (go_at_call 80; refine HV.out.mono ?_; rintro e w1 ⟨rfl, b1⟩; have HB1 := Lib.hid b1; clear b1) | (go_at_call 81; refine (within_any _ _ _ _).mono ?_; rintro e w' ⟨rfl, rfl⟩; rw [h1]))
    go_ret
    exact ⟨ret_int HF.out.symm, HB1.out⟩
  by_cases h2 : hi > 11
  · have HF := Lib.hid (HN.out (by rw [h0, h1, decide_eq_true h2]; rfl))
    go_enter Try.func44, Try.ntmps44
    go_wp2_with (first | (go_at_call 80; refine HV.out.mono ?_; rintro e w1 ⟨rfl, b1⟩; have HB1 := Lib.hid b1; clear b1) | (go_at_call 81; refine (within_any _ _ _ _).mono ?_; rintro e w' ⟨rfl, rfl⟩; rw [h1]))
    go_ret
    exact ⟨ret_int HF.out.symm, HB1.out⟩
  have hw := wiB_in h1
  have HF := Lib.hid (HY.out (by rw [h0, h1, decide_eq_false h2]; rfl))
  have HTT := Lib.hid (fun (X : World) (hX : Below w.heap.size w X) => HT.out X hX h0 hw.1 hw.2 (by omega))
  clear HT hw
  go_enter Try.func44, Try.ntmps44
  go_wp2_with (first | (go_at_call 80; refine HV.out.mono ?_; rintro e w1 ⟨rfl, b1⟩; have HB1 := Lib.hid b1; clear b1) | (go_at_call 81; refine (within_any _ _ _ _).mono ?_; rintro e w' ⟨rfl, rfl⟩; rw [h1]) | (go_at_call 93; refine (HTT.out _ HB1.out).mono ?_; rintro e w2 ⟨rfl, b2⟩; have HB2 := Lib.hid (HB1.out.trans (b2.mono HB1.out.size)); clear b2))
  go_ret
  exact ⟨ret_int HF.out.symm, HB2.out⟩
end Go.Proofs.Ytelglccegkhfcaa
