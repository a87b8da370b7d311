/- Lists of clauses as proofs: which are valid, both packages. -/
import Derived.Test.YtipapmmjfoaddaaGreatClz
import Derived.Test.YtipapmmjfoaddaaGreatLitW
import Derived.Test.YtipapmmjfoaddaaGreatLitX
namespace Go.Proofs.YtipapmmjfoaddaaGreat
open Go.ChangeShapes Go.WideShapes Go.ChangeAt Go.RowKit Go.Deep Go.Shelf
set_option linter.unusedVariables false
set_option linter.unusedSimpArgs false

/-- At most 200 steps, all of them clauses for n variables. -/
def prfB (cls : List (List Lit)) (n : Int) : Bool := decide (cls.length ≤ 200) && cls.all fun c => clB c n
theorem all_of {cls : List (List Lit)} {n : Int} (h : ∀ j c, j < cls.length → cls[j]? = some c → clB c n = true) : (cls.all fun c => clB c n) = true := by
  rw [List.all_eq_true]
  intro c hc
  obtain ⟨j, hj, e⟩ := List.mem_iff_getElem.1 hc
  exact h j c hj (by rw [List.getElem?_eq_getElem hj, e])
theorem all_not {cls : List (List Lit)} {n : Int} {j : Nat} {c : List Lit} (hc : cls[j]? = some c) (h : clB c n = false) : (cls.all fun c => clB c n) = false := by
  cases hx : (cls.all fun c => clB c n)
  · rfl
  · rw [List.all_eq_true] at hx
    have := hx c (List.mem_of_getElem? hc)
    rw [h] at this
    cases this
theorem prfB_parts {cls : List (List Lit)} {n : Nat} (h : prfB cls n = true) : cls.length ≤ 200 ∧ ∀ c ∈ cls, clB c n = true := by
  unfold prfB at h
  rw [Bool.and_eq_true, List.all_eq_true] at h
  exact ⟨of_decide_eq_true h.1, h.2⟩

set_option maxRecDepth 100000 in
set_option maxHeartbeats 4000000 in
theorem svalidProof_any (v : Value) (cls : List (List Lit)) (n : Int) (w : World) (h : RdClz w v cls) (h1 : 1 ≤ n) (h4 : n ≤ 4) :
    Calls Tryz.prog 74 #[v, .int .i64 n] w (BoolPost (prfB cls n) w) := by
  have HC := Lib.hid h
  obtain ⟨a, cap, ev, -⟩ := h
  rw [ev] at HC ⊢
  clear ev
  obtain ⟨k, hk⟩ : ∃ k, k = cls.length := ⟨_, rfl⟩
  rw [← hk] at HC ⊢
  have HK := Lib.hid hk
  have hl := rdClz_len HC.out
  have hl1 := hl.2.1
  have hl2 := hl.2.2
  clear hk hl
  go_enter Tryz.func74, Tryz.ntmps74
  go_wp2
  go_loopw [5] (fun i wr => ∃ j : Nat, j ≤ k ∧ i = .int .i64 j ∧ Hid (∀ q c, q < j → cls[q]? = some c → clB c n = true) ∧ Hid (Below w.heap.size w wr)) (fun i _ => k - (intOf i).toNat)
  case atStart => exact ⟨0, Nat.zero_le _, rfl, Lib.hid (fun q c hq => by omega), Lib.hid (Below.refl _ _)⟩
  case round =>
    obtain ⟨j, hj, rfl, HA, HB⟩ := hrel
    by_cases hlt : j < k
    · obtain ⟨b, o, u, c, rfl, hd, q, r⟩ := rdClz_at (HC.out.below HB.out) hlt
      have HD := Lib.hid hd
      have HE := Lib.hid (svalidClause_any u c n wr r h1 h4)
      obtain ⟨x, y, e, -⟩ := r
      rw [e] at q HE
      clear e hd
      cases hv : clB c n
      · have HF : Hid (prfB cls n = false) := Lib.hid (by unfold prfB; rw [all_not HD.out hv, Bool.and_false])
        rw [hv] at HE
        go_wp2_with fail
        refine HE.out.mono ?_
        rintro e w2 ⟨rfl, b2⟩
        have HB2 := Lib.hid (HB.out.trans (b2.mono HB.out.size))
        clear b2 q
        go_wp2
        go_ret
        exact ⟨ret_bool HF.out.symm, HB2.out⟩
      · rw [hv] at HE
        have HA2 : Hid (∀ q c, q < j + 1 → cls[q]? = some c → clB c n = true) := Lib.hid (fun q c' hq hc => by
          by_cases e : q = j
          · subst e
            rw [HD.out] at hc
            obtain rfl := Option.some.inj hc
            exact hv
          · exact HA.out q c' (by omega) hc)
        clear hv
        go_wp2_with fail
        refine HE.out.mono ?_
        rintro e w2 ⟨rfl, b2⟩
        have HB2 := Lib.hid (HB.out.trans (b2.mono HB.out.size))
        clear b2 q
        go_wp2
        go_roundw
        all_goals first
          | exact ⟨j + 1, by omega, by go_num, HA2, HB2⟩
          | (simp [intOf]; omega)
    · obtain rfl : j = k := by omega
      have HF : Hid (prfB cls n = decide ((j : Int) ≤ 200)) := Lib.hid (by
        unfold prfB
        rw [all_of (fun q c hq hc => HA.out q c (by have := HK.out; omega) hc), Bool.and_true, ← HK.out]
        by_cases h : j ≤ 200
        · rw [decide_eq_true h, decide_eq_true (by omega)]
        · rw [decide_eq_false h, decide_eq_false (by omega)])
      go_wp2
      go_ret
      exact ⟨ret_bool HF.out.symm, HB.out⟩

set_option maxRecDepth 100000 in
set_option maxHeartbeats 1000000 in
theorem isProof1_any (cv : Value) (c : List Lit) (B n : Nat) (w : World) (h : RdLits w cv c) (hb : w.cell? ⟨B, 0, none⟩ = some (.int .i64 n)) (h1 : 1 ≤ n) (h4 : n ≤ 4) :
    Calls Tryz.prog 117 #[cv, .pointer (some ⟨B, 0, none⟩)] w (BoolPost (!clB c n) w) := by
  have HE := Lib.hid (iValidClause_any cv c n w h)
  have hvc : vclB c n = clB c n := by unfold vclB; rw [wiB_true (by omega) (by omega)]; rfl
  rw [hvc] at HE
  obtain ⟨x, y, e, -⟩ := h
  rw [e] at HE ⊢
  clear e hvc
  cases hv : clB c n
  · rw [hv] at HE
    go_enter Tryz.func117, Tryz.ntmps117
    go_wp2_with fail
    refine HE.out.mono ?_
    rintro e w2 ⟨rfl, b2⟩
    have HB2 := Lib.hid b2
    clear b2 hb
    go_wp2
    go_ret
    exact ⟨rfl, HB2.out⟩
  · rw [hv] at HE
    go_enter Tryz.func117, Tryz.ntmps117
    go_wp2_with fail
    refine HE.out.mono ?_
    rintro e w2 ⟨rfl, b2⟩
    have HB2 := Lib.hid b2
    clear b2 hb
    go_wp2
    go_ret
    exact ⟨rfl, HB2.out⟩

/-- Where the first clause is that is not valid. -/
def badI (cls : List (List Lit)) (n : Int) : Int := match cls.findIdx? (fun c => !clB c n) with | none => -1 | some v => (v : Nat)
theorem badI_none {cls : List (List Lit)} {n : Int} (h : ∀ q c, q < cls.length → cls[q]? = some c → clB c n = true) : badI cls n = -1 ∧ (cls.all fun c => clB c n) = true := by
  refine ⟨?_, all_of h⟩
  unfold badI
  rw [List.findIdx?_eq_none_iff.2 (fun x hx => ?_)]
  obtain ⟨j, hj, rfl⟩ := List.mem_iff_getElem.1 hx
  rw [h j _ hj (List.getElem?_eq_getElem hj)]
  rfl
theorem badI_some {cls : List (List Lit)} {n : Int} {k : Nat} {c : List Lit} (hc : cls[k]? = some c) (h : ∀ q c, q < k → cls[q]? = some c → clB c n = true) (hv : clB c n = false) : badI cls n = (k : Nat) ∧ (cls.all fun c => clB c n) = false := by
  refine ⟨?_, all_not hc hv⟩
  obtain ⟨hk, e⟩ := List.getElem?_eq_some_iff.1 hc
  unfold badI
  rw [List.findIdx?_eq_some_iff_getElem.2 ⟨hk, by rw [e, hv]; rfl, fun q hq => by rw [h q _ hq (List.getElem?_eq_getElem (by omega))]; simp⟩]
theorem badI_cases (cls : List (List Lit)) (n : Int) : (badI cls n = -1 ∧ (cls.all fun c => clB c n) = true) ∨ (∃ k : Nat, badI cls n = (k : Nat) ∧ (cls.all fun c => clB c n) = false) := by
  unfold badI
  rcases h : cls.findIdx? (fun c => !clB c n) with _ | k
  · refine .inl ⟨rfl, ?_⟩
    rw [List.findIdx?_eq_none_iff] at h
    rw [List.all_eq_true]
    intro c hc
    have := h c hc
    simpa using this
  · refine .inr ⟨k, rfl, ?_⟩
    rw [List.findIdx?_eq_some_iff_getElem] at h
    obtain ⟨hk, h1, _⟩ := h
    exact all_not (List.getElem?_eq_getElem hk) (by simpa using h1)

set_option maxRecDepth 100000 in
set_option maxHeartbeats 4000000 in
theorem proofIx_any (v : Value) (cls : List (List Lit)) (B n : Nat) (w : World) (h : RdClz w v cls) (hb : w.cell? ⟨B, 0, none⟩ = some (.int .i64 n)) (h1 : 1 ≤ n) (h4 : n ≤ 4) :
    Calls Tryz.prog 154 #[v, .func (.func 117) #[] #[.pointer (some ⟨B, 0, none⟩)]] w fun e w' => e = .returned (.int .i64 (badI cls n)) ∧ Below w.heap.size w w' := by
  have HC := Lib.hid h
  have hBl := World.block_lt_of_cell? _ _ hb
  have HBX := Lib.hid (fun (X : World) (h : Below w.heap.size w X) => (h.cell (p := ⟨B, 0, none⟩) hBl).trans hb)
  obtain ⟨a, cap, ev, -⟩ := h
  rw [ev] at HC ⊢
  clear ev
  obtain ⟨k, hk⟩ : ∃ k, k = cls.length := ⟨_, rfl⟩
  rw [← hk] at HC ⊢
  have HK := Lib.hid hk
  have hl := rdClz_len HC.out
  have hl1 := hl.2.1
  have hl2 := hl.2.2
  clear hk hl hb hBl
  go_enter Tryz.func154, Tryz.ntmps154
  go_wp2
  go_loopw [8] (fun i wr => ∃ j : Nat, j ≤ k ∧ i = .int .i64 j ∧ Hid (∀ q c, q < j → cls[q]? = some c → clB c n = true) ∧ Hid (Below w.heap.size w wr)) (fun i _ => k - (intOf i).toNat)
  case atStart => exact ⟨0, Nat.zero_le _, rfl, Lib.hid (fun q c hq => by omega), Lib.hid (Below.refl _ _)⟩
  case round =>
    obtain ⟨j, hj, rfl, HA, HB⟩ := hrel
    by_cases hlt : j < k
    · obtain ⟨b, o, u, c, rfl, hd, q, r⟩ := rdClz_at (HC.out.below HB.out) hlt
      have HD := Lib.hid hd
      have HE := Lib.hid (isProof1_any u c B n wr r (HBX.out _ HB.out) h1 h4)
      obtain ⟨x, y, e, -⟩ := r
      rw [e] at q HE
      clear e hd
      cases hv : clB c n
      · have HF := Lib.hid (badI_some HD.out HA.out hv)
        rw [hv] at HE
        go_wp2_with fail
        refine HE.out.mono ?_
        rintro e w2 ⟨rfl, b2⟩
        have HB2 := Lib.hid (HB.out.trans (b2.mono HB.out.size))
        clear b2 q
        go_wp2
        go_ret
        exact ⟨ret_int HF.out.1.symm, HB2.out⟩
      · rw [hv] at HE
        have HA2 : Hid (∀ q c, q < j + 1 → cls[q]? = some c → clB c n = true) := Lib.hid (fun q c' hq hc => by
          by_cases e : q = j
          · subst e
            rw [HD.out] at hc
            obtain rfl := Option.some.inj hc
            exact hv
          · exact HA.out q c' (by omega) hc)
        clear hv
        go_wp2_with fail
        refine HE.out.mono ?_
        rintro e w2 ⟨rfl, b2⟩
        have HB2 := Lib.hid (HB.out.trans (b2.mono HB.out.size))
        clear b2 q
        go_wp2
        go_roundw
        all_goals first
          | exact ⟨j + 1, by omega, by go_num, HA2, HB2⟩
          | (simp [intOf]; omega)
    · obtain rfl : j = k := by omega
      have HF := Lib.hid (badI_none (cls := cls) (n := n) (fun q c hq hc => HA.out q c (by have := HK.out; omega) hc))
      go_wp2
      go_ret
      exact ⟨ret_int HF.out.1.symm, HB.out⟩

set_option maxRecDepth 100000 in
set_option maxHeartbeats 4000000 in
theorem proofCf_any (v : Value) (cls : List (List Lit)) (B n : Nat) (w : World) (h : RdClz w v cls) (hb : w.cell? ⟨B, 0, none⟩ = some (.int .i64 n)) (h1 : 1 ≤ n) (h4 : n ≤ 4) :
    Calls Tryz.prog 116 #[v, .func (.func 117) #[] #[.pointer (some ⟨B, 0, none⟩)]] w (BoolPost (!(cls.all fun c => clB c n)) w) := by
  have HI := Lib.hid (proofIx_any v cls B n w h hb h1 h4)
  obtain ⟨a, cap, ev, -⟩ := h
  rw [ev] at HI ⊢
  clear ev hb
  obtain ⟨r, hr⟩ : ∃ r, r = !(cls.all fun c => clB c n) := ⟨_, rfl⟩
  rw [← hr]
  have hbr : decide (badI cls n ≥ 0) = r := by
    rw [hr]
    rcases badI_cases cls n with ⟨e1, e2⟩ | ⟨q, e1, e2⟩
    · rw [e1, e2]; rfl
    · rw [e1, e2, decide_eq_true (by omega)]; rfl
  obtain ⟨bi, hbi⟩ : ∃ bi, bi = badI cls n := ⟨_, rfl⟩
  rw [← hbi] at HI hbr
  clear hr hbi
  go_enter Tryz.func116, Tryz.ntmps116
  go_wp2_with fail
  refine HI.out.mono ?_
  rintro e w2 ⟨rfl, b2⟩
  have HB2 := Lib.hid b2
  clear b2
  go_wp2
  go_ret
  exact ⟨rfl, HB2.out⟩

set_option maxRecDepth 100000 in
set_option maxHeartbeats 4000000 in
theorem isProof_any (v : Value) (cls : List (List Lit)) (n : Nat) (w : World) (h : RdClz w v cls) (h1 : 1 ≤ n) (h4 : n ≤ 4) :
    Calls Tryz.prog 76 #[v, .int .i64 n] w (BoolPost (prfB cls n) w) := by
  obtain ⟨W1, hW1⟩ : ∃ W1, w.alloc (.cells #[.int .i64 n] 3) = W1 := ⟨_, rfl⟩
  have B1 : Below w.heap.size w W1 := by rw [← hW1]; exact (Below.refl _ _).alloc (Nat.le_refl _) _
  have q1 : Boxed W1 w.heap.size 3 (.int .i64 n) := by rw [← hW1]; exact World.alloc_heap_new _ _
  have HI := Lib.hid (proofCf_any v cls w.heap.size n W1 (h.below B1) q1.cell h1 h4)
  obtain ⟨a, cap, ev, hcl, hcm, -⟩ := id h
  rw [ev] at HI ⊢
  unfold maxLen at hcm
  obtain ⟨k, hk⟩ : ∃ k, k = cls.length := ⟨_, rfl⟩
  rw [← hk] at HI hcl ⊢
  have HK := Lib.hid hk
  have HB1 := Lib.hid B1
  have HW := Lib.hid hW1
  clear ev h B1 q1 hW1 hk
  by_cases hk2 : (k : Int) ≤ 200
  · have HF : Hid (prfB cls n = (cls.all fun c => clB c n)) := Lib.hid (by unfold prfB; rw [← HK.out, decide_eq_true (by omega)]; rfl)
    obtain ⟨r, hr⟩ : ∃ r, r = (cls.all fun c => clB c n) := ⟨_, rfl⟩
    rw [← hr] at HI HF
    clear hr
    go_enter Tryz.func76, Tryz.ntmps76
    go_wp2_with fail
    rw [HW.out]
    refine HI.out.mono ?_
    rintro e w2 ⟨rfl, b2⟩
    have HB2 := Lib.hid (HB1.out.trans (b2.mono HB1.out.size))
    clear b2
    cases r
    · go_wp2
      go_ret
      exact ⟨ret_bool HF.out.symm, HB2.out⟩
    · go_wp2
      go_ret
      exact ⟨ret_bool HF.out.symm, HB2.out⟩
  · have HF : Hid (prfB cls n = false) := Lib.hid (by unfold prfB; rw [← HK.out, decide_eq_false (by omega)]; rfl)
    go_enter Tryz.func76, Tryz.ntmps76
    go_wp2
    rw [HW.out]
    go_ret
    exact ⟨ret_bool HF.out.symm, HB1.out⟩
end Go.Proofs.YtipapmmjfoaddaaGreat
