/- Makespan, both packages. -/
import Derived.Test.YtelglccegkhfcaaMkp
namespace Go.Proofs.Ytelglccegkhfcaa
open Go.ChangeShapes Go.WideShapes Go.ChangeAt Go.RowKit Go.Deep Go.Shelf
set_option linter.unusedVariables false
set_option linter.unusedSimpArgs false

/-- A list of placed tasks that is read. -/
def RdPl (w : World) (v : Value) (n : Nat) (ps : List (Tsk × Int)) : Prop := ∃ g c, v = .slice (some ⟨g, 0, none⟩) n c ∧ n ≤ c ∧ c ≤ maxLen ∧ ∀ i p, ps[i]? = some p → i < n → w.cell? ⟨g, i * 4, none⟩ = some (.int .i64 p.1.st) ∧ w.cell? ⟨g, i * 4 + 1, none⟩ = some (.int .i64 p.1.du) ∧ w.cell? ⟨g, i * 4 + 2, none⟩ = some (.int .i64 p.1.de) ∧ w.cell? ⟨g, i * 4 + 3, none⟩ = some (.int .i64 p.2)
theorem RdPl.below {w w' : World} {v : Value} {n : Nat} {ps : List (Tsk × Int)} (h : RdPl w v n ps) (b : Below w.heap.size w w') : RdPl w' v n ps := by
  obtain ⟨g, c, e, h1, h2, h3⟩ := h
  refine ⟨g, c, e, h1, h2, fun i p hp hi => ?_⟩
  obtain ⟨k0, k1, k2, k3⟩ := h3 i p hp hi
  have k : ∀ (p : Addr) (x : Value), w.cell? p = some x → w'.cell? p = some x := fun p x hp => (b.cell (World.block_lt_of_cell? w _ hp)).trans hp
  exact ⟨k _ _ k0, k _ _ k1, k _ _ k2, k _ _ k3⟩
theorem rdPl_of_own {w : World} {B : Nat} {v : Value} {ps : List (Tsk × Int)} (h : w.ownsRow B 94 4 v ps.length (cells4 ps)) (h1 : 1 ≤ ps.length) : RdPl w v ps.length ps := by
  rcases h.2 with ⟨e, h0⟩ | ⟨g, cap, cur, e, _, _, q1, q2, _⟩
  · omega
  · rw [e] at h
    refine ⟨g, cap, e, q1, q2, fun i p hp hi => ?_⟩
    obtain ⟨k0, k1, k2, k3⟩ := cells4_at ps i p hp
    exact ⟨(h.cellAt _ (by omega)).trans k0, (h.cellAt _ (by omega)).trans k1, (h.cellAt _ (by omega)).trans k2, (h.cellAt _ (by omega)).trans k3⟩

set_option maxRecDepth 100000 in
theorem method_pc (a b c d : Int) (w : World) : (method 317 94 (.agg #[.int .i64 a, .int .i64 b, .int .i64 c, .int .i64 d]) "loop.example/constraintsolver/impl.compulsory").run Try.prog w = .ok (184, .agg #[.int .i64 a, .int .i64 b, .int .i64 c, .int .i64 d]) w := by kernel_rfl
/-- Starts within the values. -/
def PlOk (ts : List Tsk) (xs : List Int) (n : Nat) : Prop := ∀ i, i < n → tkB (tAt ts i) = true ∧ 0 ≤ xAt xs i ∧ xAt xs i ≤ 5
set_option maxRecDepth 100000 in
set_option maxHeartbeats 4000000 in
theorem lastEnd_any (v : Value) (ts : List Tsk) (xs : List Int) (n : Nat) (w : World) (h : RdPl w v n (plc ts xs n)) (hn4 : n ≤ 4) (hok : PlOk ts xs n) :
    Calls Try.prog 77 #[v] w fun e w' => e = .returned (.int .i64 (mksN ts xs n)) ∧ Below w.heap.size w w' := by
  have HP := Lib.hid h
  obtain ⟨g, c, ev, hl, hm, _⟩ := h
  rw [ev] at HP ⊢
  unfold maxLen at hm
  have HOK := Lib.hid hok
  have HBD : Hid (∀ k, k ≤ n → 0 ≤ mksN ts xs k ∧ mksN ts xs k ≤ 11) := Lib.hid (fun k => by
    induction k with
    | zero => intro _; simp [mksN]
    | succ k ih =>
      intro hk
      have := ih (by omega)
      have h2 := hok k (by omega)
      have h3 := tkB_in h2.1
      simp only [mksN]
      omega)
  clear ev hok
  go_enter Try.func77, Try.ntmps77
  go_wp2
  go_loopw [3, 10] (fun s i wr => ∃ k : Nat, k ≤ n ∧ i = .int .i64 k ∧ s = .int .i64 (mksN ts xs k) ∧ Hid (Below w.heap.size w wr)) (fun _ i _ => n - (intOf i).toNat)
  case atStart => exact ⟨0, Nat.zero_le _, rfl, rfl, Lib.hid (Below.refl _ _)⟩
  case round =>
    obtain ⟨k, hk, rfl, rfl, HB⟩ := hrel
    have hbd := HBD.out k hk
    by_cases hlt : k < n
    · obtain ⟨g', c', e', _, _, h3⟩ := HP.out.below HB.out
      simp at e'
      obtain ⟨rfl, rfl⟩ := e'
      obtain ⟨k0, k1, k2, k3⟩ := h3 k _ (plc_at hlt) hlt
      simp only at k0 k1 k2 k3
      have hok := HOK.out k hlt
      have hti := tkB_in hok.1
      have HNX : Hid (mksN ts xs (k + 1) = max (mksN ts xs k) (xAt xs k + (tAt ts k).du)) := Lib.hid rfl
      obtain ⟨t, ht⟩ : ∃ t, t = tAt ts k := ⟨_, rfl⟩
      obtain ⟨s, hs⟩ : ∃ s, s = xAt xs k := ⟨_, rfl⟩
      obtain ⟨mk, hmk⟩ : ∃ mk, mk = mksN ts xs k := ⟨_, rfl⟩
      rw [← ht] at k0 k1 k2 hti HNX
      rw [← hs] at k3 hok HNX
      rw [← hmk] at hbd HNX ⊢
      have hs5 := hok.2
      obtain ⟨W1, hW1⟩ : ∃ W1, wr.alloc (.cells #[.int .i64 t.st, .int .i64 t.du, .int .i64 t.de, .int .i64 s] 94) = W1 := ⟨_, rfl⟩
      have hB1 : Below wr.heap.size wr W1 := by rw [← hW1]; exact (Below.refl _ _).alloc (Nat.le_refl _) _
      have bP : BlkQ W1 wr.heap.size 94 (.int .i64 t.st) (.int .i64 t.du) (.int .i64 t.de) (.int .i64 s) := by rw [← hW1]; exact BlkQ.new _ _ _ _ _ _
      have HB1 := Lib.hid (HB.out.trans (hB1.mono HB.out.size))
      have HW := Lib.hid hW1
      have HE := Lib.hid (pcompulsory_any t s W1 (by omega) (by omega) (by omega) (by omega))
      obtain ⟨p0, p1, p2, p3⟩ := bP.cell
      have hmt := method_pc t.st t.du t.de s W1
      obtain ⟨u, hu⟩ : ∃ u, u = s + t.du := ⟨_, rfl⟩
      have hub : 0 ≤ u ∧ u ≤ 11 := by omega
      rw [← hu] at HE HNX
      clear ht hs hmk hB1 bP hW1 h3 hok hu
      go_wp2_with (first | rw [HW.out] | (go_at_call 184; refine HE.out.mono ?_; rintro e w9 ⟨rfl, b9⟩; have B9 := Lib.hid (HB1.out.trans (b9.mono HB1.out.size)); clear b9))
      go_roundw
      case rel => exact ⟨k + 1, by omega, by go_num, by rw [HNX.out], B9⟩
      case measure => simp [intOf]; omega
    · obtain rfl : k = n := by omega
      go_wp2
      go_ret
      exact ⟨rfl, HB.out⟩

set_option maxRecDepth 100000 in
set_option maxHeartbeats 4000000 in
theorem smakespan_any (tv xv : Value) (ts : List Tsk) (xs : List Int) (w : World) (h : RdTsks w tv ts) (hx : RdInts w xv xs) (hl4 : ts.length ≤ 4) (hxl : xs.length = ts.length) (hok : PlOk ts xs ts.length) :
    Calls Try.prog 78 #[tv, xv] w fun e w' => e = .returned (.int .i64 (mksN ts xs ts.length)) ∧ Below w.heap.size w w' := by
  have HC := Lib.hid h
  have HX := Lib.hid hx
  have HOK := Lib.hid hok
  obtain ⟨a, cap, ev, hl, hm, _⟩ := h
  obtain ⟨ax, cx, ex, -⟩ := id hx
  obtain ⟨n, hn⟩ : ∃ n, n = ts.length := ⟨_, rfl⟩
  have HN := Lib.hid hn
  rw [ev] at HC ⊢
  rw [ex, hxl] at HX ⊢
  rw [← hn] at hl HC HX hl4 HOK hok ⊢
  unfold maxLen at hm
  have hcx := (rdInts_cap HX.out).2
  have HBD : Hid (∀ k, k ≤ n → 0 ≤ mksN ts xs k ∧ mksN ts xs k ≤ 11) := Lib.hid (fun k => by
    induction k with
    | zero => intro _; simp [mksN]
    | succ k ih =>
      intro hk
      have := ih (by omega)
      have h2 := hok k (by omega)
      have h3 := tkB_in h2.1
      simp only [mksN]
      omega)
  clear ev ex hn hxl hx hok
  go_enter Try.func78, Try.ntmps78
  go_wp2
  go_loopw [5, 6] (fun s i wr => ∃ k : Nat, k ≤ n ∧ i = .int .i64 k ∧ s = .int .i64 (mksN ts xs k) ∧ Hid (Below w.heap.size w wr)) (fun _ i _ => n - (intOf i).toNat)
  case atStart => exact ⟨0, Nat.zero_le _, rfl, rfl, Lib.hid (Below.refl _ _)⟩
  case round =>
    obtain ⟨k, hk, rfl, rfl, HB⟩ := hrel
    have hbd := HBD.out k hk
    by_cases hlt : k < n
    · obtain ⟨b, off, t, rfl, hck, k0, k1, k2⟩ := rdTsks_at (HC.out.below HB.out) hlt
      have HTK : Hid (tAt ts k = t) := Lib.hid (tAt_of hck)
      have hok := HOK.out k hlt
      have hti := tkB_in hok.1
      have HNX : Hid (mksN ts xs (k + 1) = max (mksN ts xs k) (xAt xs k + (tAt ts k).du)) := Lib.hid rfl
      rw [HTK.out] at hti HNX
      obtain ⟨b2, o2, rfl, q2⟩ := rdInts_at (HX.out.below HB.out) hlt
      replace q2 : wr.cell? ⟨b2, o2 + k, none⟩ = some (.int .i64 (xAt xs k)) := q2
      obtain ⟨s, hs⟩ : ∃ s, s = xAt xs k := ⟨_, rfl⟩
      obtain ⟨mk, hmk⟩ : ∃ mk, mk = mksN ts xs k := ⟨_, rfl⟩
      rw [← hs] at q2 hok HNX
      rw [← hmk] at hbd HNX ⊢
      have hs5 := hok.2
      have HBQ := Lib.hid (fun q => below_drewN' HB.out q)
      have HBR := Lib.hid (fun q r => below_drewN' (below_drewN' HB.out q) r)
      clear hck hs hmk hok
      by_cases hgt : s + t.du > mk
      · have HM : Hid (mksN ts xs (k + 1) = s + t.du) := Lib.hid (by rw [HNX.out]; omega)
        go_wp2_with fail
        go_quiet (fail)
        go_wp2_with fail
        go_quiet (fail)
        go_wp2
        go_roundw
        case rel => exact ⟨k + 1, by omega, by go_num, by rw [HM.out], Lib.hid (by first | exact HBR.out _ _ | exact HBQ.out _)⟩
        case measure => simp [intOf]; omega
      · have HM : Hid (mksN ts xs (k + 1) = mk) := Lib.hid (by rw [HNX.out]; omega)
        go_wp2_with fail
        go_quiet (fail)
        go_wp2
        go_roundw
        case rel => exact ⟨k + 1, by omega, by go_num, by rw [HM.out], Lib.hid (HBQ.out _)⟩
        case measure => simp [intOf]; omega
    · obtain rfl : k = n := by omega
      go_wp2
      go_ret
      exact ⟨rfl, HB.out⟩

/-- Starts for the tasks. -/
def stB' (ts : List Tsk) (xs : List Int) : Bool := decide (xs.length = ts.length) && allB xs 0 5
theorem aplB_ok {ts : List Tsk} {xs : List Int} (h : aplB ts xs = true) : ts.length ≤ 4 ∧ 1 ≤ ts.length ∧ xs.length = ts.length ∧ PlOk ts xs ts.length := by
  unfold aplB at h
  rw [Bool.and_eq_true, Bool.and_eq_true, decide_eq_true_iff] at h
  obtain ⟨h1, h2, h3⟩ := h
  have h4 := tksB_at h1
  refine ⟨h4.1.2, h4.1.1, h2, fun i hi => ⟨?_, ?_⟩⟩
  · have e : ts[i]? = some ts[i] := List.getElem?_eq_getElem hi
    rw [tAt_of e]
    exact h4.2 i _ e
  · exact small_of h3 i (by omega)
set_option maxRecDepth 100000 in
theorem svalidStarts_any (tv xv : Value) (ts : List Tsk) (xs : List Int) (w : World) (h : RdTsks w tv ts) (hx : RdInts w xv xs) :
    Calls Try.prog 73 #[tv, xv] w fun e w' => e = .returned (.bool (stB' ts xs)) ∧ w = w' := by
  have HX := Lib.hid hx
  obtain ⟨a, cap, ev, hl, hm, _⟩ := h
  obtain ⟨ax, cx, ex, -⟩ := id hx
  rw [ev]
  rw [ex] at HX ⊢
  have HF : Hid (∀ n m, n = ts.length → m = xs.length → stB' ts xs = (decide (m = n) && allB xs 0 5)) := Lib.hid (fun n m h1 h2 => by unfold stB'; rw [h1, h2])
  obtain ⟨n, hn⟩ : ∃ n, n = ts.length := ⟨_, rfl⟩
  obtain ⟨m, hm2⟩ : ∃ m, m = xs.length := ⟨_, rfl⟩
  rw [HF.out n m hn hm2]
  rw [← hn] at hl ⊢
  rw [← hm2] at HX ⊢
  unfold maxLen at hm
  have hcx := (rdInts_cap HX.out).2
  clear ev ex hn hm2 HF hx
  by_cases h : m = n
  · subst h
    rw [decide_eq_true rfl]
    have q : ((m : Int) == (m : Int)) = true := by simp
    go_enter Try.func73, Try.ntmps73
    go_wp2_with (go_at_call 121; refine (allInRange_any _ xs _ _ _ HX.out).mono ?_; rintro e w' ⟨rfl, rfl⟩)
    go_ret
    exact ⟨rfl, rfl⟩
  · rw [decide_eq_false h]
    have q : ((m : Int) == (n : Int)) = false := by simp; omega
    go_enter Try.func73, Try.ntmps73
    go_wp2
    go_ret
    exact ⟨rfl, rfl⟩
theorem apl_1 {ts : List Tsk} {xs : List Int} (h : tksB ts = false) : aplB ts xs = false := by unfold aplB; rw [h]; rfl
theorem apl_2 {ts : List Tsk} {xs : List Int} (h : stB' ts xs = false) : aplB ts xs = false := by unfold aplB; unfold stB' at h; rw [h, Bool.and_false]
theorem apl_3 {ts : List Tsk} {xs : List Int} (h : tksB ts = true) (h2 : stB' ts xs = true) : aplB ts xs = true := by unfold aplB; unfold stB' at h2; rw [h, h2]; rfl
theorem mksZ_no {ts : List Tsk} {xs : List Int} (h : aplB ts xs = false) : mksZ ts xs = -1 := by unfold mksZ; rw [h]; rfl
theorem mksZ_yes {ts : List Tsk} {xs : List Int} (h : aplB ts xs = true) : mksZ ts xs = mksN ts xs ts.length := by unfold mksZ; rw [h]; rfl
set_option maxRecDepth 100000 in
set_option maxHeartbeats 2000000 in
theorem sMakespan_any (tv xv : Value) (ts : List Tsk) (xs : List Int) (w : World) (h : RdTsks w tv ts) (hx : RdInts w xv xs) :
    Calls Try.prog 30 #[tv, xv] w fun e w' => e = .returned (.int .i64 (mksZ ts xs)) ∧ Below w.heap.size w w' := by
  have hV := svalidTasks_any tv ts 0 w h
  unfold BoolPost at hV
  have HV := Lib.hid hV
  have HS := Lib.hid (fun (X : World) (b : Below w.heap.size w X) => svalidStarts_any tv xv ts xs X (h.below b) (hx.below b))
  have HM := Lib.hid (fun (X : World) (b : Below w.heap.size w X) (ha : aplB ts xs = true) => smakespan_any tv xv ts xs X (h.below b) (hx.below b) (aplB_ok ha).1 (aplB_ok ha).2.2.1 (aplB_ok ha).2.2.2)
  have HN := Lib.hid (mksZ_no (ts := ts) (xs := xs))
  have HY := Lib.hid (mksZ_yes (ts := ts) (xs := xs))
  obtain ⟨a, cap, ev, -⟩ := id h
  obtain ⟨ax, cx, ex, -⟩ := id hx
  rw [ev] at HV HS HM ⊢
  rw [ex] at HS HM ⊢
  clear hV ev ex h hx
  cases h0 : tksB ts
  · rw [show vtB ts 0 = false by unfold vtB; rw [h0]; rfl] at HV
    have HF := Lib.hid (HN.out (apl_1 h0))
    go_enter Try.func30, Try.ntmps30
    go_wp2_with (go_at_call 72; refine HV.out.mono ?_; rintro e w1 ⟨rfl, b1⟩; have HB1 := Lib.hid b1; clear b1)
    go_ret
    exact ⟨ret_int HF.out.symm, HB1.out⟩
  rw [show vtB ts 0 = true by unfold vtB; rw [h0]; rfl] at HV
  cases h1 : stB' ts xs
  · have HF := Lib.hid (HN.out (apl_2 h1))
    rw [h1] at HS
    go_enter Try.func30, Try.ntmps30
    go_wp2_with (first | (go_at_call 72; refine HV.out.mono ?_; rintro e w1 ⟨rfl, b1⟩; have HB1 := Lib.hid b1; clear b1) | (go_at_call 73; refine (HS.out _ HB1.out).mono ?_; rintro e w' ⟨rfl, rfl⟩))
    go_ret
    exact ⟨ret_int HF.out.symm, HB1.out⟩
  have HF := Lib.hid (HY.out (apl_3 h0 h1))
  have HM2 := Lib.hid (fun (X : World) (b : Below w.heap.size w X) => HM.out X b (apl_3 h0 h1))
  rw [h1] at HS
  go_enter Try.func30, Try.ntmps30
  go_wp2_with (first | (go_at_call 72; refine HV.out.mono ?_; rintro e w1 ⟨rfl, b1⟩; have HB1 := Lib.hid b1; clear b1) | (go_at_call 73; refine (HS.out _ HB1.out).mono ?_; rintro e w' ⟨rfl, rfl⟩) | (go_at_call 78; refine (HM2.out _ HB1.out).mono ?_; rintro e w2 ⟨rfl, b2⟩; have HB2 := Lib.hid (HB1.out.trans (b2.mono HB1.out.size)); clear b2))
  go_ret
  exact ⟨ret_int HF.out.symm, HB2.out⟩
set_option maxRecDepth 100000 in
set_option maxHeartbeats 2000000 in
theorem arePlaceable_any (tv xv : Value) (ts : List Tsk) (xs : List Int) (w : World) (h : RdTsks w tv ts) (hx : RdInts w xv xs) :
    Calls Try.prog 69 #[tv, xv] w (BoolPost (aplB ts xs) w) := by
  have hV := iAreTasks_any tv ts w h
  unfold BoolPost at hV
  have HV := Lib.hid hV
  have HS := Lib.hid (fun (X : World) (b : Below w.heap.size w X) (hn : ts.length ≤ 9223372036854775807) => isAssignment_any xv xs ts.length X (hx.below b) hn)
  obtain ⟨a, cap, ev, hl, hm, _⟩ := h
  obtain ⟨ax, cx, ex, -⟩ := id hx
  unfold BoolPost
  have HST : Hid ((decide (xs.length = ts.length) && allB xs 0 5) = stB' ts xs) := Lib.hid rfl
  have HY : Hid (aplB ts xs = (tksB ts && stB' ts xs)) := Lib.hid rfl
  unfold maxLen at hm
  rw [HST.out] at HS
  rw [ev] at HV ⊢
  rw [ex] at HS ⊢
  have HS := Lib.hid (fun (X : World) (b : Below w.heap.size w X) => HS.out X b (by omega))
  obtain ⟨n, hn⟩ : ∃ n, n = ts.length := ⟨_, rfl⟩
  rw [← hn] at HV HS hl ⊢
  clear hV ev ex hx hn
  cases h0 : tksB ts
  · rw [h0] at HV HY
    have HF : Hid (aplB ts xs = false) := Lib.hid HY.out
    go_enter Try.func69, Try.ntmps69
    go_wp2_with (go_at_call 80; refine HV.out.mono ?_; rintro e w1 ⟨rfl, b1⟩; have HB1 := Lib.hid b1; clear b1)
    go_ret
    exact ⟨ret_bool HF.out.symm, HB1.out⟩
  · rw [h0] at HV HY
    have HF : Hid (aplB ts xs = stB' ts xs) := Lib.hid (HY.out.trans (Bool.true_and _))
    go_enter Try.func69, Try.ntmps69
    go_wp2_with (first | (go_at_call 80; refine HV.out.mono ?_; rintro e w1 ⟨rfl, b1⟩; have HB1 := Lib.hid b1; clear b1) | (go_at_call 64; refine (HS.out _ HB1.out).mono ?_; rintro e w' ⟨rfl, rfl⟩))
    go_ret
    exact ⟨ret_bool HF.out.symm, HB1.out⟩
set_option maxRecDepth 100000 in
set_option maxHeartbeats 2000000 in
theorem iMakespan_any (tv xv : Value) (ts : List Tsk) (xs : List Int) (w : World) (h : RdTsks w tv ts) (hx : RdInts w xv xs) :
    Calls Try.prog 29 #[tv, xv] w fun e w' => e = .returned (.int .i64 (mksZ ts xs)) ∧ Below w.heap.size w w' := by
  have hV := arePlaceable_any tv xv ts xs w h hx
  unfold BoolPost at hV
  have HV := Lib.hid hV
  have HM := Lib.hid (fun (X : World) (b : Below w.heap.size w X) (ha : aplB ts xs = true) => placed_any tv xv ts xs X (h.below b) (hx.below b) (aplB_ok ha).1 (aplB_ok ha).2.2.1)
  have HL := Lib.hid (fun (X : World) (v : Value) (B : Nat) (ha : aplB ts xs = true) (ho : X.ownsRow B 94 4 v ts.length (cells4 (plc ts xs ts.length))) => lastEnd_any v ts xs ts.length X (by have q := rdPl_of_own (by rw [plc_length]; exact ho) (by rw [plc_length]; exact (aplB_ok ha).2.1); rw [plc_length] at q; exact q) (aplB_ok ha).1 (aplB_ok ha).2.2.2)
  have HN := Lib.hid (mksZ_no (ts := ts) (xs := xs))
  have HY := Lib.hid (mksZ_yes (ts := ts) (xs := xs))
  obtain ⟨a, cap, ev, -⟩ := id h
  obtain ⟨ax, cx, ex, -⟩ := id hx
  rw [ev] at HV HM ⊢
  rw [ex] at HV HM ⊢
  clear hV ev ex h hx
  cases h0 : aplB ts xs
  · rw [h0] at HV
    have HF := Lib.hid (HN.out h0)
    go_enter Try.func29, Try.ntmps29
    go_wp2_with (go_at_call 69; refine HV.out.mono ?_; rintro e w1 ⟨rfl, b1⟩; have HB1 := Lib.hid b1; clear b1)
    go_ret
    exact ⟨ret_int HF.out.symm, HB1.out⟩
  · rw [h0] at HV
    have HF := Lib.hid (HY.out h0)
    go_enter Try.func29, Try.ntmps29
    go_wp2_with (first | (go_at_call 69; refine HV.out.mono ?_; rintro e w1 ⟨rfl, b1⟩; have HB1 := Lib.hid b1; clear b1) | (go_at_call 70; refine (HM.out _ HB1.out h0).mono ?_; rintro e w2 ⟨v2, rfl, o2, b2⟩; have HO2 := Lib.hid o2; have HB2 := Lib.hid (HB1.out.trans (b2.mono HB1.out.size)); clear b2 o2) | (go_at_call 77; refine (HL.out _ _ _ h0 HO2.out).mono ?_; rintro e w3 ⟨rfl, b3⟩; have HB3 := Lib.hid (HB2.out.trans (b3.mono HB2.out.size)); clear b3))
    go_ret
    exact ⟨ret_int HF.out.symm, HB3.out⟩
end Go.Proofs.Ytelglccegkhfcaa
