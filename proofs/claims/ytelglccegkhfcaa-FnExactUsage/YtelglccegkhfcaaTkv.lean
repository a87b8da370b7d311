/- Valid tasks, both packages. -/
import Derived.Test.YtelglccegkhfcaaTkp
import Derived.Test.YtelglccegkhfcaaVcC
namespace Go.Proofs.Ytelglccegkhfcaa
open Go.ChangeShapes Go.WideShapes Go.ChangeAt Go.RowKit Go.Deep
set_option linter.unusedVariables false
set_option linter.unusedSimpArgs false

theorem belowT1 (w : World) (o1 : Obj) : Below w.heap.size w (w.alloc o1) := (Below.refl _ _).alloc (Nat.le_refl _) _
set_option maxRecDepth 100000 in
set_option maxHeartbeats 2000000 in
theorem isTask_any (t : Tsk) (w : World) :
    Calls Try.prog 125 #[.agg #[.int .i64 t.st, .int .i64 t.du, .int .i64 t.de]] w (BoolPost (tkB t) w) := by
  unfold BoolPost tkB
  cases h1 : wiB t.st 0 63
  · go_enter Try.func125, Try.ntmps125
    go_wp2_with fail
    refine (ivalid_any _ _).mono ?_
    rintro e w' ⟨rfl, rfl⟩
    rw [h1]
    go_wp2
    go_ret
    exact ⟨rfl, belowT1 _ _⟩
  by_cases h2 : t.st = 0
  · have q : (t.st != 0) = false := by simp [h2]
    rw [decide_eq_true h2]
    clear h2
    go_enter Try.func125, Try.ntmps125
    go_wp2_with fail
    refine (ivalid_any _ _).mono ?_
    rintro e w' ⟨rfl, rfl⟩
    rw [h1]
    go_wp2
    go_ret
    exact ⟨rfl, belowT1 _ _⟩
  have q : (t.st != 0) = true := by simp [h2]
  rw [decide_eq_false h2]
  cases h3 : wiB t.du 1 6
  · go_enter Try.func125, Try.ntmps125
    go_wp2_with fail
    refine (ivalid_any _ _).mono ?_
    rintro e w' ⟨rfl, rfl⟩
    rw [h1]
    go_wp2_with fail
    refine (within_any _ _ _ _).mono ?_
    rintro e w' ⟨rfl, rfl⟩
    rw [h3]
    go_wp2
    go_ret
    exact ⟨rfl, belowT1 _ _⟩
  go_enter Try.func125, Try.ntmps125
  go_wp2_with fail
  refine (ivalid_any _ _).mono ?_
  rintro e w' ⟨rfl, rfl⟩
  rw [h1]
  go_wp2_with fail
  refine (within_any _ _ _ _).mono ?_
  rintro e w' ⟨rfl, rfl⟩
  rw [h3]
  go_wp2_with fail
  refine (within_any _ _ _ _).mono ?_
  rintro e w' ⟨rfl, rfl⟩
  go_wp2
  go_ret
  exact ⟨rfl, belowT1 _ _⟩

set_option maxRecDepth 100000 in
set_option maxHeartbeats 4000000 in
theorem iAreTasks_any (v : Value) (ts : List Tsk) (w : World) (h : RdTsks w v ts) :
    Calls Try.prog 80 #[v] w (BoolPost (tksB ts) w) := by
  have HC := Lib.hid h
  obtain ⟨a, cap, ev, hl, hm, _⟩ := h
  obtain ⟨n, hn⟩ : ∃ n, n = ts.length := ⟨_, rfl⟩
  have HN := Lib.hid hn
  rw [ev] at HC ⊢
  rw [← hn] at hl HC ⊢
  clear ev hn
  unfold maxLen at hm
  unfold BoolPost
  go_enter Try.func80, Try.ntmps80
  go_wp2
  go_loopw [7] (fun i wr => ∃ k : Nat, k ≤ n ∧ i = .int .i64 k ∧ Hid (∀ (j : Nat) (t : Tsk), j < k → ts[j]? = some t → tkB t = true) ∧ Hid (Below w.heap.size w wr)) (fun i _ => n - (intOf i).toNat)
  case atStart => exact ⟨0, Nat.zero_le _, rfl, Lib.hid (fun j t hj => by omega), Lib.hid (Below.refl _ _)⟩
  case round =>
    obtain ⟨k, hk, rfl, HS, HB⟩ := hrel
    by_cases hlt : k < n
    · obtain ⟨b, off, t, rfl, hck, k0, k1, k2⟩ := rdTsks_at (HC.out.below HB.out) hlt
      have HCK := Lib.hid hck
      obtain ⟨W1, hW1⟩ : ∃ W1, wr.alloc (.cells #[.int .i64 t.st, .int .i64 t.du, .int .i64 t.de] 38) = W1 := ⟨_, rfl⟩
      have hB1 : Below wr.heap.size wr W1 := by rw [← hW1]; exact (Below.refl _ _).alloc (Nat.le_refl _) _
      have bP : BlkT W1 wr.heap.size 38 (.int .i64 t.st) (.int .i64 t.du) (.int .i64 t.de) := by rw [← hW1]; exact BlkT.new _ _ _ _ _
      have HB1 := Lib.hid (HB.out.trans (hB1.mono HB.out.size))
      have HW := Lib.hid hW1
      have HE := Lib.hid (isTask_any t W1)
      unfold BoolPost at HE
      obtain ⟨p0, p1, p2⟩ := bP.cell
      clear hck hB1 bP hW1
      cases h3 : tkB t
      · have HF : Hid (tksB ts = false) := Lib.hid (tksB_false HCK.out h3)
        rw [h3] at HE
        go_wp2_with (first | rw [HW.out] | (go_at_call 125; refine HE.out.mono ?_; rintro e w9 ⟨rfl, b9⟩; have B9 := Lib.hid (HB1.out.trans (b9.mono HB1.out.size)); clear b9))
        go_ret
        exact ⟨ret_bool HF.out.symm, B9.out⟩
      · have HF := Lib.hid h3
        rw [h3] at HE
        go_wp2_with (first | rw [HW.out] | (go_at_call 125; refine HE.out.mono ?_; rintro e w9 ⟨rfl, b9⟩; have B9 := Lib.hid (HB1.out.trans (b9.mono HB1.out.size)); clear b9))
        go_roundw
        case rel => exact ⟨k + 1, by omega, by go_num, Lib.hid (fun i l hi hl => by by_cases e : i = k; (· subst e; rw [HCK.out] at hl; obtain rfl := Option.some.inj hl; exact HF.out); (· exact HS.out i l (by omega) hl)), B9⟩
        case measure => simp [intOf]; omega
    · obtain rfl : k = n := by omega
      have HF : Hid (tksB ts = wiB k 1 4) := Lib.hid (by rw [tksB_end (fun j t hj => HS.out j t (by have := HN.out; have := (List.getElem?_eq_some_iff.1 hj).1; omega) hj), ← HN.out])
      clear HS
      go_wp2_with fail
      refine (within_any _ _ _ _).mono ?_
      rintro e w' ⟨rfl, rfl⟩
      go_wp2
      go_ret
      exact ⟨ret_bool HF.out.symm, HB.out⟩
theorem vtB_false {ts : List Tsk} {cp : Int} {k : Nat} {t : Tsk} (h : ts[k]? = some t) (hb : tkB t = false) : vtB ts cp = false := by
  unfold vtB
  rw [tksB_false h hb]
  rfl
theorem tkB_1 {t : Tsk} (h : wiB t.st 0 63 = false) : tkB t = false := by unfold tkB; rw [h]; rfl
theorem tkB_2 {t : Tsk} (h : t.st = 0) : tkB t = false := by unfold tkB; rw [decide_eq_true h]; simp
theorem tkB_3 {t : Tsk} (h : wiB t.du 1 6 = false) : tkB t = false := by unfold tkB; rw [h]; simp
theorem tkB_4 {t : Tsk} (h : wiB t.de 0 9 = false) : tkB t = false := by unfold tkB; rw [h]; simp
theorem tkB_5 {t : Tsk} (h1 : wiB t.st 0 63 = true) (h2 : ¬ t.st = 0) (h3 : wiB t.du 1 6 = true) (h4 : wiB t.de 0 9 = true) : tkB t = true := by unfold tkB; rw [h1, decide_eq_false h2, h3, h4]; rfl
set_option maxRecDepth 100000 in
set_option maxHeartbeats 4000000 in
theorem svalidTasks_any (v : Value) (ts : List Tsk) (cp : Int) (w : World) (h : RdTsks w v ts) :
    Calls Try.prog 72 #[v, .int .i64 cp] w (BoolPost (vtB ts cp) w) := by
  have HC := Lib.hid h
  obtain ⟨a, cap, ev, hl, hm, _⟩ := h
  obtain ⟨n, hn⟩ : ∃ n, n = ts.length := ⟨_, rfl⟩
  have HN := Lib.hid hn
  rw [ev] at HC ⊢
  rw [← hn] at hl HC ⊢
  clear ev hn
  unfold maxLen at hm
  unfold BoolPost
  go_enter Try.func72, Try.ntmps72
  go_wp2
  go_loopw [5] (fun i wr => ∃ k : Nat, k ≤ n ∧ i = .int .i64 k ∧ Hid (∀ (j : Nat) (t : Tsk), j < k → ts[j]? = some t → tkB t = true) ∧ Hid (Below w.heap.size w wr)) (fun i _ => n - (intOf i).toNat)
  case atStart => exact ⟨0, Nat.zero_le _, rfl, Lib.hid (fun j t hj => by omega), Lib.hid (Below.refl _ _)⟩
  case round =>
    obtain ⟨k, hk, rfl, HS, HB⟩ := hrel
    by_cases hlt : k < n
    · obtain ⟨b, off, t, rfl, hck, k0, k1, k2⟩ := rdTsks_at (HC.out.below HB.out) hlt
      have HCK := Lib.hid hck
      obtain ⟨W1, hW1⟩ : ∃ W1, wr.alloc (.cells #[.int .i64 t.st, .int .i64 t.du, .int .i64 t.de] 38) = W1 := ⟨_, rfl⟩
      have hB1 : Below wr.heap.size wr W1 := by rw [← hW1]; exact (Below.refl _ _).alloc (Nat.le_refl _) _
      have bP : BlkT W1 wr.heap.size 38 (.int .i64 t.st) (.int .i64 t.du) (.int .i64 t.de) := by rw [← hW1]; exact BlkT.new _ _ _ _ _
      have HB1 := Lib.hid (HB.out.trans (hB1.mono HB.out.size))
      have HW := Lib.hid hW1
      obtain ⟨p0, p1, p2⟩ := bP.cell
      clear hck hB1 bP hW1
      cases h1 : wiB t.st 0 63
      · have HF : Hid (vtB ts cp = false) := Lib.hid (vtB_false HCK.out (tkB_1 h1))
        go_wp2_with (first | rw [HW.out] | (go_at_call 120; refine (svalid_any _ _).mono ?_; rintro e w' ⟨rfl, rfl⟩; rw [h1]))
        go_ret
        exact ⟨ret_bool HF.out.symm, HB1.out⟩
      by_cases h2 : t.st = 0
      · have HF : Hid (vtB ts cp = false) := Lib.hid (vtB_false HCK.out (tkB_2 h2))
        have q : (t.st == 0) = true := by simp [h2]
        clear h2
        go_wp2_with (first | rw [HW.out] | (go_at_call 120; refine (svalid_any _ _).mono ?_; rintro e w' ⟨rfl, rfl⟩; rw [h1]))
        go_ret
        exact ⟨ret_bool HF.out.symm, HB1.out⟩
      have H2 := Lib.hid h2
      have q : (t.st == 0) = false := by simp [h2]
      clear h2
      cases h3 : wiB t.du 1 6
      · have HF : Hid (vtB ts cp = false) := Lib.hid (vtB_false HCK.out (tkB_3 h3))
        go_wp2_with (first | rw [HW.out] | (go_at_call 120; refine (svalid_any _ _).mono ?_; rintro e w' ⟨rfl, rfl⟩; rw [h1]) | (go_at_call 91; refine (inRange_any _ _ _ _).mono ?_; rintro e w' ⟨rfl, rfl⟩; rw [h3]))
        go_ret
        exact ⟨ret_bool HF.out.symm, HB1.out⟩
      cases h4 : wiB t.de 0 9
      · have HF : Hid (vtB ts cp = false) := Lib.hid (vtB_false HCK.out (tkB_4 h4))
        go_wp2_with (first | rw [HW.out] | (go_at_call 120; refine (svalid_any _ _).mono ?_; rintro e w' ⟨rfl, rfl⟩; rw [h1]) | (go_at_call 91; refine (inRange_any _ _ _ _).mono ?_; rintro e w' ⟨rfl, rfl⟩; first | rw [h3] | rw [h4]))
        go_ret
        exact ⟨ret_bool HF.out.symm, HB1.out⟩
      · have HF := Lib.hid (tkB_5 h1 H2.out h3 h4)
        go_wp2_with (first | rw [HW.out] | (go_at_call 120; refine (svalid_any _ _).mono ?_; rintro e w' ⟨rfl, rfl⟩; rw [h1]) | (go_at_call 91; refine (inRange_any _ _ _ _).mono ?_; rintro e w' ⟨rfl, rfl⟩; first | rw [h3] | rw [h4]))
        go_roundw
        case rel => exact ⟨k + 1, by omega, by go_num, Lib.hid (fun i l hi hl => by by_cases e : i = k; (· subst e; rw [HCK.out] at hl; obtain rfl := Option.some.inj hl; exact HF.out); (· exact HS.out i l (by omega) hl)), HB1⟩
        case measure => simp [intOf]; omega
    · obtain rfl : k = n := by omega
      have HF : Hid (vtB ts cp = (wiB k 1 4 && wiB cp 0 9)) := Lib.hid (by unfold vtB; rw [tksB_end (fun j t hj => HS.out j t (by have := HN.out; have := (List.getElem?_eq_some_iff.1 hj).1; omega) hj), ← HN.out])
      clear HS
      cases h1 : wiB k 1 4
      · go_wp2_with (go_at_call 91; refine (inRange_any _ _ _ _).mono ?_; rintro e w' ⟨rfl, rfl⟩; rw [h1])
        go_ret
        exact ⟨ret_bool (by rw [HF.out, h1]; rfl), HB.out⟩
      · cases h2 : wiB cp 0 9
        all_goals go_wp2_with (go_at_call 91; refine (inRange_any _ _ _ _).mono ?_; rintro e w' ⟨rfl, rfl⟩; first | rw [h1] | rw [h2])
        all_goals go_ret
        all_goals exact ⟨ret_bool (by rw [HF.out, h1, h2]; rfl), HB.out⟩

set_option maxRecDepth 100000 in
theorem sValidTasks_any (v : Value) (ts : List Tsk) (cp : Int) (w : World) (h : RdTsks w v ts) :
    Calls Try.prog 32 #[v, .int .i64 cp] w (BoolPost (vtB ts cp) w) := by
  have hB := svalidTasks_any v ts cp w h
  unfold BoolPost at hB ⊢
  have HE := Lib.hid hB
  clear hB
  obtain ⟨a, cap, ev, hl, hm, _⟩ := h
  subst ev
  go_enter Try.func32, Try.ntmps32
  go_wp2_with (go_at_call 72; refine HE.out.mono ?_; rintro e w' ⟨rfl, b⟩; have B := Lib.hid b; clear b)
  go_ret
  exact ⟨rfl, B.out⟩
set_option maxRecDepth 100000 in
theorem iValidTasks_any (v : Value) (ts : List Tsk) (cp : Int) (w : World) (h : RdTsks w v ts) :
    Calls Try.prog 34 #[v, .int .i64 cp] w (BoolPost (vtB ts cp) w) := by
  have hB := iAreTasks_any v ts w h
  unfold BoolPost vtB at *
  have HE := Lib.hid hB
  clear hB
  obtain ⟨a, cap, ev, hl, hm, _⟩ := h
  subst ev
  cases h1 : tksB ts
  · rw [h1] at HE
    go_enter Try.func34, Try.ntmps34
    go_wp2_with (go_at_call 80; refine HE.out.mono ?_; rintro e w' ⟨rfl, b⟩; have B := Lib.hid b; clear b)
    go_ret
    exact ⟨rfl, B.out⟩
  · rw [h1] at HE
    go_enter Try.func34, Try.ntmps34
    go_wp2_with (first | (go_at_call 80; refine HE.out.mono ?_; rintro e w' ⟨rfl, b⟩; have B := Lib.hid b; clear b) | (go_at_call 81; refine (within_any _ _ _ _).mono ?_; rintro e w' ⟨rfl, rfl⟩))
    go_ret
    exact ⟨ret_bool rfl, B.out⟩
end Go.Proofs.Ytelglccegkhfcaa
