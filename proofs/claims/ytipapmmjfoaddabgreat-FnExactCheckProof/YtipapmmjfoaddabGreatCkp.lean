/- CheckProof, both packages. The law of CheckProof. -/
import Derived.Test.YtipapmmjfoaddabGreatImp
import Derived.Test.YtipapmmjfoaddabGreatLitM
import Derived.Test.YtipapmmjfoaddabGreatMkC
import Derived.Deep.RegionHeld3

/-! CheckProof, both packages. -/
namespace Go.Proofs.YtipapmmjfoaddabGreat
open Go.ChangeShapes Go.WideShapes Go.ChangeAt Go.RowKit Go.Deep Go.Shelf
set_option linter.unusedVariables false
set_option linter.unusedSimpArgs false

/-- Is there a last clause, and is it empty? -/
def lastB (cls : List (List Lit)) : Bool := decide (0 < cls.length) && decide ((cls[cls.length - 1]?.getD []).length = 0)
/-- Is step i implied by the steps before? -/
def stpB (m : Mod) (cls : List (List Lit)) (i : Nat) : Bool := emptyB (clfL m.cons (cls.take i) (restL m.doms ((cls[i]?.getD []).map ngL)))
/-- What CheckProof answers. -/
def ckpB (m : Mod) (cls : List (List Lit)) : Bool := (vmB m && prfB cls m.doms.length) && (lastB cls && (List.range cls.length).all (stpB m cls))
theorem stps_all {m : Mod} {cls : List (List Lit)} (h : ∀ i, i < cls.length → stpB m cls i = true) : (List.range cls.length).all (stpB m cls) = true := by
  rw [List.all_eq_true]
  exact fun i hi => h i (List.mem_range.1 hi)
theorem stps_not {m : Mod} {cls : List (List Lit)} {i : Nat} (hi : i < cls.length) (h : stpB m cls i = false) : (List.range cls.length).all (stpB m cls) = false := by
  cases hx : (List.range cls.length).all (stpB m cls)
  · rfl
  · rw [List.all_eq_true] at hx
    have := hx i (List.mem_range.2 hi)
    rw [h] at this
    cases this
theorem rdClz_take {w : World} {a : Option Addr} {n cap : Nat} {d : List (List Lit)} (h : RdClz w (.slice a n cap) d) {i : Nat} (hi : i ≤ n) : RdClz w (.slice a i cap) (d.take i) := by
  have hl := rdClz_len h
  obtain ⟨a', c', e, h1, h2, h3⟩ := h
  injection e with e0 e1 e2
  subst e0 e2
  have ht : (d.take i).length = i := by rw [List.length_take]; omega
  refine ⟨a, cap, by rw [ht], by omega, h2, ?_⟩
  rcases h3 with h3 | ⟨b, off, ea, h3⟩
  · exact .inl (by omega)
  · refine .inr ⟨b, off, ea, fun j hj => ?_⟩
    obtain ⟨u, hu, hr⟩ := h3 j (by omega)
    refine ⟨u, hu, ?_⟩
    rw [List.getElem?_take_of_lt (by omega)]
    exact hr

set_option maxRecDepth 100000 in
set_option maxHeartbeats 8000000 in
theorem iCheckProof_any (m : Mod) (v cv : Value) (cls : List (List Lit)) (w : World) (h : RdModel w v m) (hm : ModLe m 1048576) (hc : RdClz w cv cls) :
    Calls Tryz.prog 9 #[v, cv] w (BoolPost (ckpB m cls) w) := by
  obtain ⟨a1, a2, c1, c2, rfl, g1, g2⟩ := rdModel_slices h
  obtain ⟨ca, cc, ecv, -⟩ := id hc
  obtain ⟨W1, hW1⟩ : ∃ W1, w.alloc (.cells #[.slice a1 m.doms.length c1, .slice a2 m.cons.length c2] 32) = W1 := ⟨_, rfl⟩
  have B1 : Below w.heap.size w W1 := by rw [← hW1]; exact (Below.refl _ _).alloc (Nat.le_refl _) _
  have bP : Blk2 W1 w.heap.size 32 (.slice a1 m.doms.length c1) (.slice a2 m.cons.length c2) := by rw [← hW1]; exact Blk2.new w _ _ _
  have HM := Lib.hid (h.below B1)
  have HCZ := Lib.hid (hc.below B1)
  rw [ecv] at HCZ ⊢
  obtain ⟨k, hk⟩ : ∃ k, k = cls.length := ⟨_, rfl⟩
  rw [← hk] at HCZ ⊢
  have HK := Lib.hid hk
  have hl := rdClz_len HCZ.out
  have hl1 := hl.2.1
  have hl2 := hl.2.2
  have hc1 := (rdInts_cap g1).2
  have HB1 := Lib.hid B1
  have HW := Lib.hid hW1
  have HP := Lib.hid bP
  have HLE := Lib.hid hm
  clear h hc g1 g2 hW1 B1 bP hm ecv hl hk
  obtain ⟨p0, p1⟩ := HP.out.cell
  go_enter Tryz.func9, Tryz.ntmps9
  go_wp2_with fail
  rw [HW.out]
  refine (ivm_any m _ W1 HM.out HLE.out).mono ?_
  rintro e w2 ⟨rfl, b2⟩
  have HB2 := Lib.hid (HB1.out.trans (b2.mono HB1.out.size))
  have HM2 := Lib.hid (HM.out.below b2)
  have HCZ2 := Lib.hid (HCZ.out.below b2)
  have HP2 := Lib.hid (HP.out.below b2)
  clear p0 p1 b2 HM HCZ HP HB1 HW
  obtain ⟨p0, p1⟩ := HP2.out.cell
  cases hv : vmB m
  · have HF : Hid (ckpB m cls = false) := Lib.hid (by unfold ckpB; rw [hv]; rfl)
    go_wp2
    go_ret
    exact ⟨ret_bool HF.out.symm, HB2.out⟩
  obtain ⟨s1, s2, s3, s4⟩ := doms_small' hv
  go_wp2_with fail
  refine (isProof_any _ cls m.doms.length w2 HCZ2.out s3 s2).mono ?_
  rintro e w3 ⟨rfl, b3⟩
  have HB3 := Lib.hid (HB2.out.trans (b3.mono HB2.out.size))
  have HM3 := Lib.hid (HM2.out.below b3)
  have HCZ3 := Lib.hid (HCZ2.out.below b3)
  have HP3 := Lib.hid (HP2.out.below b3)
  clear p0 p1 b3 HM2 HCZ2 HP2
  obtain ⟨p0, p1⟩ := HP3.out.cell
  cases hp : prfB cls m.doms.length
  · have HF : Hid (ckpB m cls = false) := Lib.hid (by unfold ckpB; rw [hv, hp]; rfl)
    go_wp2
    go_ret
    exact ⟨ret_bool HF.out.symm, HB3.out⟩
  have HLL := Lib.hid (prfB_parts hp)
  have HON := Lib.hid (prf_on hp)
  have hk200 : k ≤ 200 := by have := HLL.out.1; have := HK.out; omega
  by_cases hk0 : k = 0
  · have HF : Hid (ckpB m cls = false) := Lib.hid (by unfold ckpB lastB; rw [← HK.out, hk0]; simp)
    have hk1 : ((k : Int) == 0) = true := by rw [hk0]; rfl
    clear hk0
    go_wp2
    go_ret
    exact ⟨ret_bool HF.out.symm, HB3.out⟩
  obtain ⟨j, hj⟩ : ∃ j, k = j + 1 := ⟨k - 1, by omega⟩
  have HJ := Lib.hid hj
  have hjk : j < k := by omega
  have hk1 : ((k : Int) == 0) = false := by simp; omega
  have hw1 : IntKind.i64.wrap ((k : Int) - 1) = (j : Int) := by
    have : (k : Int) - 1 = (j : Int) := by omega
    rw [this]
    exact Lib.wrap_i64_small j (by omega)
  have hw2 : (k : Int) - 1 = (j : Int) := by omega
  obtain ⟨b, o, u, c, rfl, hls, q, r⟩ := rdClz_at HCZ3.out hjk
  obtain ⟨xa, xc, ex, -⟩ := r
  rw [ex] at q
  have HLS := Lib.hid hls
  clear ex hls hk0 hj hp
  by_cases hc0 : c.length = 0
  · have hg : decide (0 < c.length) = false := by rw [hc0]; rfl
    have HLB : Hid (lastB cls = true) := Lib.hid (by unfold lastB; rw [← HK.out, show k - 1 = j by have := HJ.out; omega, HLS.out]; simp [hc0]; omega)
    have HCK := Lib.hid (checkerOf_any m _ w3 w3 HM3.out (Below.refl _ _) hv)
    have HIM := Lib.hid (fun (D : Nat) (pv dv cv' : Value) (P : List (Value × Nat × Value)) (vals : List Value) (i : Nat) (Y : World) (lv : Value) (c : List Lit) (hY : Chk w3 m.cons m.doms D pv dv cv' P vals (cls.take i) Y) (hc : c ∈ cls) (hr : RdLits Y lv c) => implies_any hY (n := m.doms.length) (fun ls hl => HON.out ls (List.mem_of_mem_take hl)) hr (HON.out c hc) (clB_len (HLL.out.2 c hc)) ⟨rfl, s1⟩ (fun c hc => okC_mem hv hc) s4 s3 s2)
    have HF : Hid (ckpB m cls = (List.range cls.length).all (stpB m cls)) := Lib.hid (by unfold ckpB; rw [hv, HLB.out, show prfB cls m.doms.length = true from by unfold prfB; rw [decide_eq_true HLL.out.1, List.all_eq_true.2 HLL.out.2]; rfl]; rfl)
    clear s1 s2 s3 s4 hv hc0
    go_wp2_with fail
    refine HCK.out.mono ?_
    rintro e w4 ⟨D, pv, dv, P, rfl, hck, b4⟩
    have HC4 := Lib.hid hck
    clear hck b4 p0 p1 q hw1 hw2 hg hk1
    go_wp2
    go_loopw [36] (fun i wr => ∃ j : Nat, j ≤ k ∧ i = .int .i64 j ∧ Hid (∀ q, q < j → stpB m cls q = true) ∧ Hid (∃ cv' vals, Chk w3 m.cons m.doms D pv dv cv' P vals (cls.take j) wr)) (fun i _ => k - (intOf i).toNat)
    case atStart => exact ⟨0, Nat.zero_le _, rfl, Lib.hid (fun q hq => by omega), Lib.hid ⟨_, _, HC4.out⟩⟩
    case round =>
      obtain ⟨i, hi, rfl, HA, HC⟩ := hrel
      obtain ⟨cv', vals, hck⟩ := HC.out
      have HCK2 := Lib.hid hck
      clear hck HC
      by_cases hlt : i < k
      · obtain ⟨b', o', u', c', e', hls', q', r'⟩ := rdClz_at HCZ3.out hlt
        simp at e'
        obtain ⟨rfl, rfl⟩ := e'
        have hq := (HCK2.out.b.cell (p := ⟨b, o + i, none⟩) (World.block_lt_of_cell? _ _ q')).trans q'
        have hmem := List.mem_of_getElem? hls'
        have HE := Lib.hid (HIM.out D pv dv cv' P vals i wr u' c' HCK2.out hmem (r'.below HCK2.out.b))
        have HAD := Lib.hid (fun (Y : World) (hY : Chk w3 m.cons m.doms D pv dv cv' P vals (cls.take i) Y) => add_any hY (r'.below hY.b) (by have := clB_len (HLL.out.2 c' hmem); omega) (by have := HLL.out.1; rw [List.length_take]; omega))
        have HTK : Hid (cls.take (i + 1) = cls.take i ++ [c']) := Lib.hid (by rw [List.take_add_one, hls']; rfl)
        have HSB : Hid (stpB m cls i = emptyB (clfL m.cons (cls.take i) (restL m.doms (c'.map ngL)))) := Lib.hid (by unfold stpB; rw [hls']; rfl)
        obtain ⟨xa', xc', ex', -⟩ := r'
        rw [ex'] at hq HE HAD
        rw [← HSB.out] at HE
        clear q' ex' hls' hmem
        cases hsb : stpB m cls i
        · rw [hsb] at HE
          have HF2 : Hid (ckpB m cls = false) := Lib.hid (by rw [HF.out]; exact stps_not (by have := HK.out; omega) hsb)
          clear hsb
          go_wp2_with fail
          refine HE.out.mono ?_
          rintro e w5 ⟨rfl, c5, f5⟩
          have HB5 : Hid (Below w.heap.size w w5) := Lib.hid (HB3.out.trans (c5.b.mono HB3.out.size))
          clear c5 f5 hq
          go_wp2
          go_ret
          exact ⟨ret_bool HF2.out.symm, HB5.out⟩
        · rw [hsb] at HE
          have HA2 : Hid (∀ q, q < i + 1 → stpB m cls q = true) := Lib.hid (fun q hq => by
            by_cases e : q = i
            · subst e; exact hsb
            · exact HA.out q (by omega))
          clear hsb
          go_wp2_with fail
          refine HE.out.mono ?_
          rintro e w5 ⟨rfl, c5, f5⟩
          have HC5 := Lib.hid c5
          clear c5 f5 hq
          go_wp2_with fail
          refine (HAD.out w5 HC5.out).mono ?_
          rintro e w6 ⟨⟨uu, rfl⟩, cv2, u2, hck6, -⟩
          have HC6 : Hid (∃ cv' vals, Chk w3 m.cons m.doms D pv dv cv' P vals (cls.take (i + 1)) w6) := Lib.hid ⟨_, _, by rw [HTK.out]; exact hck6⟩
          clear hck6
          go_wp2
          go_roundw
          all_goals first
            | exact ⟨i + 1, by omega, by go_num, HA2, HC6⟩
            | (simp [intOf]; omega)
      · obtain rfl : i = k := by omega
        have HF2 : Hid (ckpB m cls = true) := Lib.hid (by rw [HF.out]; exact stps_all (fun q hq => HA.out q (by have := HK.out; omega)))
        go_wp2
        go_ret
        exact ⟨ret_bool HF2.out.symm, HB3.out.trans (HCK2.out.b.mono HB3.out.size)⟩
  · have hg : decide (0 < c.length) = true := by simp; omega
    have HF : Hid (ckpB m cls = false) := Lib.hid (by unfold ckpB lastB; rw [← HK.out, show k - 1 = j by have := HJ.out; omega, HLS.out]; simp [hc0])
    clear s1 s2 s3 s4 hv hc0
    go_wp2
    go_ret
    exact ⟨ret_bool HF.out.symm, HB3.out⟩

set_option maxRecDepth 100000 in
set_option maxHeartbeats 8000000 in
theorem sCheckProof_any (m : Mod) (v cv : Value) (cls : List (List Lit)) (w : World) (h : RdModel w v m) (hm : ModLe m 1048576) (hc : RdClz w cv cls) :
    Calls Tryz.prog 6 #[v, cv] w (BoolPost (ckpB m cls) w) := by
  obtain ⟨a1, a2, c1, c2, rfl, g1, g2⟩ := rdModel_slices h
  obtain ⟨ca, cc, ecv, -⟩ := id hc
  obtain ⟨W1, hW1⟩ : ∃ W1, w.alloc (.cells #[.slice a1 m.doms.length c1, .slice a2 m.cons.length c2] 32) = W1 := ⟨_, rfl⟩
  have B1 : Below w.heap.size w W1 := by rw [← hW1]; exact (Below.refl _ _).alloc (Nat.le_refl _) _
  have bP : Blk2 W1 w.heap.size 32 (.slice a1 m.doms.length c1) (.slice a2 m.cons.length c2) := by rw [← hW1]; exact Blk2.new w _ _ _
  have HM := Lib.hid (h.below B1)
  have HCZ := Lib.hid (hc.below B1)
  rw [ecv] at HCZ ⊢
  obtain ⟨k, hk⟩ : ∃ k, k = cls.length := ⟨_, rfl⟩
  rw [← hk] at HCZ ⊢
  have HK := Lib.hid hk
  have hl := rdClz_len HCZ.out
  have hl1 := hl.2.1
  have hl2 := hl.2.2
  have hc1 := (rdInts_cap g1).2
  have HB1 := Lib.hid B1
  have HW := Lib.hid hW1
  have HP := Lib.hid bP
  have HLE := Lib.hid hm
  clear h hc g1 g2 hW1 B1 bP hm ecv hl hk
  obtain ⟨p0, p1⟩ := HP.out.cell
  go_enter Tryz.func6, Tryz.ntmps6
  go_wp2_with fail
  rw [HW.out]
  refine (svm_any m _ W1 HM.out HLE.out).mono ?_
  rintro e w2 ⟨rfl, b2⟩
  have HB2 := Lib.hid (HB1.out.trans (b2.mono HB1.out.size))
  have HM2 := Lib.hid (HM.out.below b2)
  have HCZ2 := Lib.hid (HCZ.out.below b2)
  have HP2 := Lib.hid (HP.out.below b2)
  clear p0 p1 b2 HM HCZ HP HB1 HW
  obtain ⟨p0, p1⟩ := HP2.out.cell
  cases hv : vmB m
  · have HF : Hid (ckpB m cls = false) := Lib.hid (by unfold ckpB; rw [hv]; rfl)
    go_wp2
    go_ret
    exact ⟨ret_bool HF.out.symm, HB2.out⟩
  obtain ⟨s1, s2, s3, s4⟩ := doms_small' hv
  go_wp2_with fail
  refine (svalidProof_any _ cls m.doms.length w2 HCZ2.out (by omega) (by omega)).mono ?_
  rintro e w3 ⟨rfl, b3⟩
  have HB3 := Lib.hid (HB2.out.trans (b3.mono HB2.out.size))
  have HM3 := Lib.hid (HM2.out.below b3)
  have HCZ3 := Lib.hid (HCZ2.out.below b3)
  have HP3 := Lib.hid (HP2.out.below b3)
  clear p0 p1 b3 HM2 HCZ2 HP2
  obtain ⟨p0, p1⟩ := HP3.out.cell
  cases hp : prfB cls m.doms.length
  · have HF : Hid (ckpB m cls = false) := Lib.hid (by unfold ckpB; rw [hv, hp]; rfl)
    go_wp2
    go_ret
    exact ⟨ret_bool HF.out.symm, HB3.out⟩
  have HLL := Lib.hid (prfB_parts hp)
  have HON := Lib.hid (prf_on hp)
  have hk200 : k ≤ 200 := by have := HLL.out.1; have := HK.out; omega
  by_cases hk0 : k = 0
  · have HF : Hid (ckpB m cls = false) := Lib.hid (by unfold ckpB lastB; rw [← HK.out, hk0]; simp)
    have hk1 : ((k : Int) == 0) = true := by rw [hk0]; rfl
    clear hk0
    go_wp2
    go_ret
    exact ⟨ret_bool HF.out.symm, HB3.out⟩
  obtain ⟨j, hj⟩ : ∃ j, k = j + 1 := ⟨k - 1, by omega⟩
  have HJ := Lib.hid hj
  have hjk : j < k := by omega
  have hk1 : ((k : Int) == 0) = false := by simp; omega
  have hw1 : IntKind.i64.wrap ((k : Int) - 1) = (j : Int) := by
    have : (k : Int) - 1 = (j : Int) := by omega
    rw [this]
    exact Lib.wrap_i64_small j (by omega)
  have hw2 : (k : Int) - 1 = (j : Int) := by omega
  obtain ⟨b, o, u, c, rfl, hls, q, r⟩ := rdClz_at HCZ3.out hjk
  obtain ⟨xa, xc, ex, -⟩ := r
  rw [ex] at q
  have HLS := Lib.hid hls
  clear ex hls hk0 hj hp
  by_cases hc0 : c.length = 0
  · have hg : decide (0 < c.length) = false := by rw [hc0]; rfl
    have HLB : Hid (lastB cls = true) := Lib.hid (by unfold lastB; rw [← HK.out, show k - 1 = j by have := HJ.out; omega, HLS.out]; simp [hc0]; omega)
    have HIM := Lib.hid (fun (i : Nat) (Y : World) (lv : Value) (c : List Lit) (hi : i ≤ k) (hb : Below w3.heap.size w3 Y) (hc : c ∈ cls) (hr : RdLits Y lv c) => simpliedBy_any m _ (.slice (some ⟨b, o, none⟩) i cc) lv (cls.take i) c Y (HM3.out.below hb) (rdClz_take (HCZ3.out.below hb) hi) hr hv (fun ls hl => HON.out ls (List.mem_of_mem_take hl)) (HON.out c hc))
    have HF : Hid (ckpB m cls = (List.range cls.length).all (stpB m cls)) := Lib.hid (by unfold ckpB; rw [hv, HLB.out, show prfB cls m.doms.length = true from by unfold prfB; rw [decide_eq_true HLL.out.1, List.all_eq_true.2 HLL.out.2]; rfl]; rfl)
    clear s1 s2 s3 s4 hv hc0
    go_wp2
    clear p0 p1 q hw1 hw2 hg hk1
    go_loopw [5] (fun i wr => ∃ j : Nat, j ≤ k ∧ i = .int .i64 j ∧ Hid (∀ q, q < j → stpB m cls q = true) ∧ Hid (Below w3.heap.size w3 wr)) (fun i _ => k - (intOf i).toNat)
    case atStart => exact ⟨0, Nat.zero_le _, rfl, Lib.hid (fun q hq => by omega), Lib.hid (Below.refl _ _)⟩
    case round =>
      obtain ⟨i, hi, rfl, HA, HBW⟩ := hrel
      by_cases hlt : i < k
      · obtain ⟨b', o', u', c', e', hls', q', r'⟩ := rdClz_at (HCZ3.out.below HBW.out) hlt
        simp at e'
        obtain ⟨rfl, rfl⟩ := e'
        obtain ⟨p0, p1⟩ := (HP3.out.below HBW.out).cell
        have hmem := List.mem_of_getElem? hls'
        have HE := Lib.hid (HIM.out i wr.drew u' c' hi HBW.out.drew hmem (r'.below (Below.refl _ _).drew))
        have HSB : Hid (stpB m cls i = emptyB (clfL m.cons (cls.take i) (restL m.doms (c'.map ngL)))) := Lib.hid (by unfold stpB; rw [hls']; rfl)
        obtain ⟨xa', xc', ex', -⟩ := r'
        rw [ex'] at q' HE
        rw [← HSB.out] at HE
        have HQ := Lib.hid q'
        have HQL := Lib.hid (World.block_lt_of_cell? _ _ q')
        have HPW := Lib.hid (HP3.out.below HBW.out)
        have hicc : i ≤ cc := by omega
        clear ex' hls' hmem
        cases hsb : stpB m cls i
        · rw [hsb] at HE
          have HF2 : Hid (ckpB m cls = false) := Lib.hid (by rw [HF.out]; exact stps_not (by have := HK.out; omega) hsb)
          clear hsb
          go_wp2_with fail
          go_region_held3 (fun w' => w'.cell? ⟨b, o + i, none⟩ = some (.slice xa' c'.length xc') ∧ w'.cell? ⟨w.heap.size, 0, none⟩ = some (.slice a1 m.doms.length c1) ∧ w'.cell? ⟨w.heap.size, 1, none⟩ = some (.slice a2 m.cons.length c2)) (first | go_keep | exact ⟨y0, z0, z1⟩ | exact ⟨q', p0, p1⟩) (first
            | (go_at_call 17; refine HE.out.mono ?_; rintro e X ⟨rfl, bX⟩; have HBX : Hid (Below wr.heap.size wr X) := Lib.hid ((show Below wr.heap.size wr wr.drew from (Below.refl _ _).drew).trans bX); have y0 := (HBX.out.cell (p := ⟨b, o + i, none⟩) HQL.out).trans HQ.out; obtain ⟨z0, z1⟩ := (HPW.out.below HBX.out).cell; clear bX))
          clear q' p0 p1 y0 z0 z1
          go_wp2
          go_ret
          exact ⟨ret_bool HF2.out.symm, HB3.out.trans ((HBW.out.trans (HBX.out.mono HBW.out.size)).mono HB3.out.size)⟩
        · rw [hsb] at HE
          have HA2 : Hid (∀ q, q < i + 1 → stpB m cls q = true) := Lib.hid (fun q hq => by
            by_cases e : q = i
            · subst e; exact hsb
            · exact HA.out q (by omega))
          clear hsb
          go_wp2_with fail
          go_region_held3 (fun w' => w'.cell? ⟨b, o + i, none⟩ = some (.slice xa' c'.length xc') ∧ w'.cell? ⟨w.heap.size, 0, none⟩ = some (.slice a1 m.doms.length c1) ∧ w'.cell? ⟨w.heap.size, 1, none⟩ = some (.slice a2 m.cons.length c2)) (first | go_keep | exact ⟨y0, z0, z1⟩ | exact ⟨q', p0, p1⟩) (first
            | (go_at_call 17; refine HE.out.mono ?_; rintro e X ⟨rfl, bX⟩; have HBX : Hid (Below wr.heap.size wr X) := Lib.hid ((show Below wr.heap.size wr wr.drew from (Below.refl _ _).drew).trans bX); have y0 := (HBX.out.cell (p := ⟨b, o + i, none⟩) HQL.out).trans HQ.out; obtain ⟨z0, z1⟩ := (HPW.out.below HBX.out).cell; clear bX))
          have HBN := Lib.hid (HBW.out.trans (HBX.out.mono HBW.out.size))
          clear q' p0 p1 y0 z0 z1
          go_wp2
          go_roundw
          all_goals first
            | exact ⟨i + 1, by omega, by go_num, HA2, HBN⟩
            | (simp [intOf]; omega)
      · obtain rfl : i = k := by omega
        have HF2 : Hid (ckpB m cls = true) := Lib.hid (by rw [HF.out]; exact stps_all (fun q hq => HA.out q (by have := HK.out; omega)))
        go_wp2
        go_ret
        exact ⟨ret_bool HF2.out.symm, HB3.out.trans (HBW.out.mono HB3.out.size)⟩
  · have hg : decide (0 < c.length) = true := by simp; omega
    have HF : Hid (ckpB m cls = false) := Lib.hid (by unfold ckpB lastB; rw [← HK.out, show k - 1 = j by have := HJ.out; omega, HLS.out]; simp [hc0])
    clear s1 s2 s3 s4 hv hc0
    go_wp2
    go_ret
    exact ⟨ret_bool HF.out.symm, HB3.out⟩
end Go.Proofs.YtipapmmjfoaddabGreat

/-! The law of CheckProof. -/
namespace Go.Proofs.YtipapmmjfoaddabGreat
open Go.ChangeShapes Go.WideShapes Go.ChangeAt Go.RowKit
set_option linter.unusedVariables false
set_option linter.unusedSimpArgs false

set_option maxRecDepth 100000 in
set_option maxHeartbeats 16000000 in
theorem law_ck (v0 : Value) (v1 : Value) (x0 : Mod) (x1 : List (List Lit)) (w : World) (h0 : RdModel w v0 x0) (h1 : RdClz w v1 x1) :
    Calls Tryz.prog 3 #[v0, v1] w (SamePostB w) := by
  obtain ⟨a0_1, a0_2, c0_1, c0_2, rfl, _⟩ := rdModel_slices h0
  obtain ⟨a1, c1, ev1, -⟩ := id h1
  rw [ev1] at h1 ⊢
  have hc1 := (rdClz_len h1).2.1
  have hd1 := (rdClz_len h1).2.2
  obtain ⟨W1, hW1⟩ : ∃ W1, w.alloc (.cells #[.slice a0_1 x0.doms.length c0_1, .slice a0_2 x0.cons.length c0_2] 25) = W1 := ⟨_, rfl⟩
  have B1 : Below w.heap.size w W1 := by rw [← hW1]; exact (Below.refl _ _).alloc (Nat.le_refl _) _
  have bP0 : Blk2 W1 w.heap.size 25 (.slice a0_1 x0.doms.length c0_1) (.slice a0_2 x0.cons.length c0_2) := by rw [← hW1]; exact Blk2.new w _ _ _ 
  have HW := Lib.hid hW1
  have HB_1 := Lib.hid B1
  have HP0_1 := Lib.hid bP0
  have HA0_1 := Lib.hid (h0.below B1)
  have HA1_1 := Lib.hid (h1.below B1)
  clear hW1 B1 bP0 h0 h1 ev1
  go_enter Tryz.func3, Tryz.ntmps3
  go_wp2_with fail
  rw [HW.out]
  refine (szModel_any _ x0 1048576 W1 HA0_1.out (by omega) (by omega)).mono ?_
  rintro e w2 ⟨r, rfl, _, _, hq, b⟩
  have HQ := Lib.hid hq
  clear hq HW
  have HB_2 := Lib.hid (HB_1.out.trans (b.mono HB_1.out.size))
  have HA0_2 := Lib.hid (HA0_1.out.below b)
  have HA1_2 := Lib.hid (HA1_1.out.below b)
  have HP0_2 := Lib.hid (HP0_1.out.below b)
  clear b HB_1 HA0_1 HA1_1 HP0_1
  by_cases hr : r < 0
  · go_wp2
    go_ret
    exact ⟨rfl, HB_2.out⟩
  have HL0 : Hid (ModLe x0 1048576) := Lib.hid (HQ.out (by omega))
  clear HQ
  go_wp2_with fail
  refine (szLiteralSS_any _ x1 r w2 HA1_2.out (by omega) (by omega)).mono ?_
  rintro e w' ⟨r1, rfl, _, _, hq, rfl⟩
  have HQ := Lib.hid hq
  clear hq
  by_cases hr1 : r1 < 0
  · go_wp2
    go_ret
    exact ⟨rfl, HB_2.out⟩
  have HL1 : Hid (ClzLe x1 1048576) := Lib.hid ((HQ.out (by omega)).mono (by omega))
  clear HQ
  obtain ⟨p0_0, p0_1⟩ := HP0_2.out.cell
  go_wp2_with fail
  refine (toModel_sh _ x0 w2 HA0_2.out HL0.out).mono ?_
  rintro e wc0 ⟨uc0, rfl, rc, -, b⟩
  have Rc0_3 := Lib.hid rc
  clear rc
  clear p0_0 p0_1
  have HB_3 := Lib.hid (HB_2.out.trans (b.mono HB_2.out.size))
  have HA0_3 := Lib.hid (HA0_2.out.below b)
  have HA1_3 := Lib.hid (HA1_2.out.below b)
  have HP0_3 := Lib.hid (HP0_2.out.below b)
  clear b HB_2 HA0_2 HA1_2 HP0_2
  go_wp2_with fail
  refine (toLiteralSS_sh _ x1 wc0 HA1_3.out HL1.out).mono ?_
  rintro e wc1 ⟨uc1, rfl, rc, -, b⟩
  have Rc1_4 := Lib.hid rc
  clear rc
  have HB_4 := Lib.hid (HB_3.out.trans (b.mono HB_3.out.size))
  have HA0_4 := Lib.hid (HA0_3.out.below b)
  have HA1_4 := Lib.hid (HA1_3.out.below b)
  have HP0_4 := Lib.hid (HP0_3.out.below b)
  have Rc0_4 := Lib.hid (Rc0_3.out.below b)
  clear b HB_3 HA0_3 HA1_3 HP0_3 Rc0_3
  go_wp2_with fail
  refine (sCheckProof_any x0 _ _ x1 wc1 Rc0_4.out HL0.out Rc1_4.out).mono ?_
  rintro e w4 ⟨rfl, b⟩
  obtain ⟨ys, hys⟩ : ∃ ys, ys = ckpB x0 x1 := ⟨_, rfl⟩
  rw [← hys]
  have HYS := Lib.hid hys
  clear hys
  clear Rc0_4
  clear Rc1_4
  have HB_5 := Lib.hid (HB_4.out.trans (b.mono HB_4.out.size))
  have HA0_5 := Lib.hid (HA0_4.out.below b)
  have HA1_5 := Lib.hid (HA1_4.out.below b)
  have HP0_5 := Lib.hid (HP0_4.out.below b)
  clear b HB_4 HA0_4 HA1_4 HP0_4
  have KA0 := HA0_5
  have KA1 := HA1_5
  have KP0 := HP0_5
  have KB := HB_5
  clear HB_5 HA0_5 HA1_5 HP0_5
  have B4_5 := Lib.hid (Below.refl w4.heap.size w4)
  obtain ⟨p0_0, p0_1⟩ := (KP0.out.below B4_5.out).cell
  have hsz : w4.heap.size ≤ w4.heap.size := B4_5.out.size
  go_wp2_with fail
  refine (toModel_sh _ x0 w4 (KA0.out.below B4_5.out) HL0.out).mono ?_
  rintro e wx0 ⟨ux0, rfl, rc, sh, b⟩
  obtain ⟨lo0, hlo0⟩ : ∃ q, q = w4.heap.size := ⟨_, rfl⟩
  obtain ⟨hi0, hhi0⟩ : ∃ q, q = wx0.heap.size := ⟨_, rfl⟩
  have HZ0 : Hid (w4.heap.size ≤ lo0 ∧ lo0 ≤ hi0) := Lib.hid (by rw [hlo0, hhi0]; exact ⟨hsz, b.size⟩)
  have RX0_6 := Lib.hid rc
  have SX0_6 := Lib.hid sh
  obtain ⟨ya0_1, ya0_2, yc0_1, yc0_2, eu0, _⟩ := rdModel_slices rc
  subst eu0
  clear p0_0 p0_1
  clear rc sh hsz
  have B4_6 := Lib.hid (B4_5.out.trans (b.mono B4_5.out.size))
  clear b B4_5
  have Z0_6 : Hid (hi0 ≤ wx0.heap.size) := Lib.hid (Nat.le_of_eq hhi0)
  rw [← hlo0, ← hhi0] at SX0_6
  go_wp2_with fail
  obtain ⟨WX0, hWX⟩ : ∃ q, wx0.alloc (.cells #[.slice ya0_1 x0.doms.length yc0_1, .slice ya0_2 x0.cons.length yc0_2] 32) = q := ⟨_, rfl⟩
  have b : Below wx0.heap.size wx0 WX0 := by rw [← hWX]; exact (Below.refl _ _).alloc (Nat.le_refl _) _
  have bX : Blk2 WX0 wx0.heap.size 32 (.slice ya0_1 x0.doms.length yc0_1) (.slice ya0_2 x0.cons.length yc0_2) := by rw [← hWX]; exact Blk2.new wx0 _ _ _ 
  rw [hWX]
  have hxs : WX0.heap.size = wx0.heap.size + 1 := by rw [← hWX, World.size_alloc]
  have HX0_7 := Lib.hid bX
  clear hWX bX
  have B4_7 := Lib.hid (B4_6.out.trans (b.mono B4_6.out.size))
  have RX0_7 := Lib.hid (RX0_6.out.below b)
  have SX0_7 := Lib.hid (SX0_6.out.below b)
  have Z0_7 := Lib.hid (Nat.le_trans Z0_6.out b.size)
  clear b B4_6 RX0_6 SX0_6 Z0_6
  rw [← hhi0] at HX0_7 hxs ⊢
  have HXS0 := Lib.hid hxs
  clear hxs
  clear hlo0 hhi0
  have hsz : w4.heap.size ≤ WX0.heap.size := B4_7.out.size
  go_wp2_with fail
  refine (toLiteralSS_sh _ x1 WX0 (KA1.out.below B4_7.out) HL1.out).mono ?_
  rintro e wx1 ⟨ux1, rfl, rc, sh, b⟩
  obtain ⟨lo1, hlo1⟩ : ∃ q, q = WX0.heap.size := ⟨_, rfl⟩
  obtain ⟨hi1, hhi1⟩ : ∃ q, q = wx1.heap.size := ⟨_, rfl⟩
  have HZ1 : Hid (w4.heap.size ≤ lo1 ∧ lo1 ≤ hi1) := Lib.hid (by rw [hlo1, hhi1]; exact ⟨hsz, b.size⟩)
  have RX1_8 := Lib.hid rc
  have SX1_8 := Lib.hid sh
  obtain ⟨ya1, yc1, eu1, -⟩ := id rc
  subst eu1
  clear rc sh hsz
  have B4_8 := Lib.hid (B4_7.out.trans (b.mono B4_7.out.size))
  have RX0_8 := Lib.hid (RX0_7.out.below b)
  have SX0_8 := Lib.hid (SX0_7.out.below b)
  have Z0_8 := Lib.hid (Nat.le_trans Z0_7.out b.size)
  have HX0_8 := Lib.hid (HX0_7.out.below b)
  clear b B4_7 RX0_7 SX0_7 Z0_7 HX0_7
  have Z1_8 : Hid (hi1 ≤ wx1.heap.size) := Lib.hid (Nat.le_of_eq hhi1)
  rw [← hlo1, ← hhi1] at SX1_8
  clear hlo1 hhi1
  obtain ⟨x0_0, x0_1⟩ := HX0_8.out.cell
  go_wp2_with fail
  refine (iCheckProof_any x0 _ _ x1 wx1 RX0_8.out HL0.out RX1_8.out).mono ?_
  rintro e w7 ⟨rfl, b⟩
  rw [← HYS.out]
  clear x0_0 x0_1
  clear Z0_8
  clear Z1_8
  have B4_9 := Lib.hid (B4_8.out.trans (b.mono B4_8.out.size))
  have RX0_9 := Lib.hid (RX0_8.out.below b)
  have SX0_9 := Lib.hid (SX0_8.out.below b)
  have HX0_9 := Lib.hid (HX0_8.out.below b)
  have RX1_9 := Lib.hid (RX1_8.out.below b)
  have SX1_9 := Lib.hid (SX1_8.out.below b)
  clear b B4_8 RX0_8 SX0_8 HX0_8 RX1_8 SX1_8
  cases ys
  all_goals
    obtain ⟨x0_0, x0_1⟩ := HX0_9.out.cell
    obtain ⟨p0_0, p0_1⟩ := (KP0.out.below B4_9.out).cell
    have B4_10 := Lib.hid (B4_9.out.drew)
    have RX0_10 := Lib.hid (RX0_9.out.below (Below.refl _ w7).drew)
    have SX0_10 := Lib.hid (SX0_9.out.below (Below.refl _ w7).drew)
    have HX0_10 := Lib.hid (HX0_9.out.below (Below.refl _ w7).drew)
    have RX1_10 := Lib.hid (RX1_9.out.below (Below.refl _ w7).drew)
    have SX1_10 := Lib.hid (SX1_9.out.below (Below.refl _ w7).drew)
    clear B4_9 RX0_9 SX0_9 HX0_9 RX1_9 SX1_9
    go_wp2
    go_region_held3 (fun w' => w'.cell? ⟨hi0, 0, none⟩ = some (.slice ya0_1 x0.doms.length yc0_1) ∧ w'.cell? ⟨hi0, 1, none⟩ = some (.slice ya0_2 x0.cons.length yc0_2) ∧ w'.cell? ⟨w.heap.size, 0, none⟩ = some (.slice a0_1 x0.doms.length c0_1) ∧ w'.cell? ⟨w.heap.size, 1, none⟩ = some (.slice a0_2 x0.cons.length c0_2)) (first | go_keep | exact ⟨y0_0, y0_1, r0_0, r0_1⟩ | exact ⟨z0_0, z0_1, q0_0, q0_1⟩ | exact ⟨x0_0, x0_1, p0_0, p0_1⟩) (first | (go_at_call 7; refine (toModel_sh _ x0 _ (KA0.out.below B4_10.out) HL0.out).mono ?_; rintro e w8 ⟨vq, rfl, rc, -, b⟩; have RQ := Lib.hid rc; have B4_11 := Lib.hid (B4_10.out.trans (b.mono B4_10.out.size)); have RX0_11 := Lib.hid (RX0_10.out.below b); have SX0_11 := Lib.hid (SX0_10.out.below b); have HX0_11 := Lib.hid (HX0_10.out.below b); have RX1_11 := Lib.hid (RX1_10.out.below b); have SX1_11 := Lib.hid (SX1_10.out.below b); obtain ⟨z0_0, z0_1⟩ := HX0_11.out.cell; obtain ⟨q0_0, q0_1⟩ := (KP0.out.below B4_11.out).cell; clear b rc) | (go_at_call 10; refine (eqModel_same _ _ x0 _ RX0_11.out RQ.out).mono ?_; rintro e w9 ⟨rfl, b⟩; have B4_12 := Lib.hid (B4_11.out.trans (b.mono B4_11.out.size)); have RX0_12 := Lib.hid (RX0_11.out.below b); have SX0_12 := Lib.hid (SX0_11.out.below b); have HX0_12 := Lib.hid (HX0_11.out.below b); have RX1_12 := Lib.hid (RX1_11.out.below b); have SX1_12 := Lib.hid (SX1_11.out.below b); obtain ⟨y0_0, y0_1⟩ := HX0_12.out.cell; obtain ⟨r0_0, r0_1⟩ := (KP0.out.below B4_12.out).cell; clear b))
    clear RQ x0_0 x0_1 p0_0 p0_1 z0_0 z0_1 q0_0 q0_1 y0_0 y0_1 r0_0 r0_1
    clear B4_10 B4_11 RX0_10 RX0_11 SX0_10 SX0_11 HX0_10 HX0_11 RX1_10 RX1_11 SX1_10 SX1_11
    go_wp2_with fail
    refine (toLiteralSS_sh _ x1 w9 (KA1.out.below B4_12.out) HL1.out).mono ?_
    rintro e w10 ⟨vq1, rfl, rc, -, b⟩
    obtain ⟨qa1, qc1, eq1, -⟩ := id rc
    subst eq1
    have RQ_13 := Lib.hid rc
    clear rc
    have B4_13 := Lib.hid (B4_12.out.trans (b.mono B4_12.out.size))
    have RX0_13 := Lib.hid (RX0_12.out.below b)
    have SX0_13 := Lib.hid (SX0_12.out.below b)
    have HX0_13 := Lib.hid (HX0_12.out.below b)
    have RX1_13 := Lib.hid (RX1_12.out.below b)
    have SX1_13 := Lib.hid (SX1_12.out.below b)
    clear b B4_12 RX0_12 SX0_12 HX0_12 RX1_12 SX1_12
    go_wp2_with fail
    refine (eqLiteralSS_sameB _ _ x1 w10 RX1_13.out RQ_13.out).mono ?_
    rintro e w11 ⟨rfl, b⟩
    clear RQ_13
    have B4_14 := Lib.hid (B4_13.out.trans (b.mono B4_13.out.size))
    have RX0_14 := Lib.hid (RX0_13.out.below b)
    have SX0_14 := Lib.hid (SX0_13.out.below b)
    have HX0_14 := Lib.hid (HX0_13.out.below b)
    have RX1_14 := Lib.hid (RX1_13.out.below b)
    have SX1_14 := Lib.hid (SX1_13.out.below b)
    clear b B4_13 RX0_13 SX0_13 HX0_13 RX1_13 SX1_13
    go_wp2
    go_ret
    exact ⟨rfl, KB.out.trans (B4_14.out.mono KB.out.size)⟩
end Go.Proofs.YtipapmmjfoaddabGreat
