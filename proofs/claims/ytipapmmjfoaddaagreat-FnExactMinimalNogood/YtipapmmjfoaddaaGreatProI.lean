/- The program's Propagate. -/
import Derived.Test.YtipapmmjfoaddaaGreatEnI
namespace Go.Proofs.YtipapmmjfoaddaaGreat
open Go.ChangeShapes Go.WideShapes Go.ChangeAt Go.RowKit
set_option linter.unusedVariables false
set_option linter.unusedSimpArgs false

theorem proL_length {cs : List Con} {d : List Int} (h : OkD cs d.length d) : (proL cs d).length = d.length := by
  rcases proL_res h with ⟨_, o, _⟩ | ⟨e, _⟩
  · exact o.len
  · rw [e]; simp
theorem proM_le (m : Mod) : (proM m).length ≤ 1048576 := by
  unfold proM
  split
  · rename_i hv
    obtain ⟨s1, s2, s3, s4⟩ := doms_small' hv
    rw [proL_length (okD_of s1 (fun c hc => okC_mem hv hc))]
    omega
  · simp

set_option maxRecDepth 100000 in
set_option maxHeartbeats 4000000 in
theorem iPropagate_any (m : Mod) (v : Value) (w : World) (h : RdModel w v m) (hm : ModLe m 1048576) :
    Calls Tryz.prog 21 #[v] w (IntsPost (proM m) w) := by
  obtain ⟨a1, a2, c1, c2, rfl, g1, g2⟩ := rdModel_slices h
  obtain ⟨W1, hW1⟩ : ∃ W1, w.alloc (.cells #[.slice a1 m.doms.length c1, .slice a2 m.cons.length c2] 30) = W1 := ⟨_, rfl⟩
  have B1 : Below w.heap.size w W1 := by rw [← hW1]; exact (Below.refl _ _).alloc (Nat.le_refl _) _
  have bP : Blk2 W1 w.heap.size 30 (.slice a1 m.doms.length c1) (.slice a2 m.cons.length c2) := by rw [← hW1]; exact Blk2.new w _ _ _
  have HM := Lib.hid (h.below B1)
  have H1 := Lib.hid (g1.below B1)
  have H2 := Lib.hid (g2.below B1)
  have HB1 := Lib.hid B1
  have HW := Lib.hid hW1
  have HP := Lib.hid bP
  have HLE := Lib.hid hm
  clear h g1 g2 hW1 B1 bP hm
  obtain ⟨p0, p1⟩ := HP.out.cell
  go_enter Tryz.func21, Tryz.ntmps21
  go_wp2_with fail
  rw [HW.out]
  refine (ivm_any m _ W1 HM.out HLE.out).mono ?_
  rintro e w2 ⟨rfl, b2⟩
  have HB2 := Lib.hid (HB1.out.trans (b2.mono HB1.out.size))
  have H12 := Lib.hid (H1.out.below b2)
  have H22 := Lib.hid (H2.out.below b2)
  have HP2 := Lib.hid (HP.out.below b2)
  clear p0 p1 b2 HM H1 H2 HP HB1 HW
  obtain ⟨p0, p1⟩ := HP2.out.cell
  cases hv : vmB m
  · have HF : Hid (proM m = []) := Lib.hid (by unfold proM; rw [hv]; rfl)
    go_wp2
    go_ret
    exact ⟨_, rfl, by rw [HF.out]; exact World.ownsRow_nil _ _ _ _, HB2.out⟩
  obtain ⟨s1, s2, s3, s4⟩ := doms_small' hv
  have HF : Hid (proM m = proL m.cons m.doms) := Lib.hid (by unfold proM; rw [hv]; rfl)
  have HC : Hid (Calls Tryz.prog 52 #[.slice a2 m.cons.length c2] w2.drew (fun e X => ∃ pv P, e = .returned (.agg #[pv]) ∧ X.ownsRow w2.heap.size 113 2 pv P.length (flatP P) ∧ PrOf X m.cons P ∧ Below w2.heap.size w2 X ∧ Blk2 X w.heap.size 30 (.slice a1 m.doms.length c1) (.slice a2 m.cons.length c2))) := by
    refine Lib.hid ((engineOf_any _ m.cons w2.drew (H22.out.below (Below.refl _ _).drew) s4 (fun c hc => (okC_mem hv hc).kind)).mono ?_)
    rintro e X ⟨pv, P, rfl, ho, hpo, b'⟩
    have bb : Below w2.heap.size w2 X := (show Below w2.heap.size w2 w2.drew from (Below.refl _ _).drew).trans b'
    exact ⟨pv, P, rfl, ho, ⟨hpo.1, fun i c p hc hp => ⟨(hpo.2 i c p hc hp).1, (hpo.2 i c p hc hp).2.below b'⟩⟩, bb, HP2.out.below bb⟩
  have HPR := Lib.hid (fun (X : World) (pv : Value) (P : List (Value × Nat × Value)) (ho : X.ownsRow w2.heap.size 113 2 pv P.length (flatP P)) (hpo : PrOf X m.cons P) (hb : Below w2.heap.size w2 X) => ipropagate_any m.cons P pv (.slice a1 m.doms.length c1) w2.heap.size m.doms X ho hpo s4 (fun c hc => okC_mem hv hc) (H12.out.below hb) s3 s2 s1)
  clear s1 s2 s3 s4
  go_wp2
  go_region_held3 (fun w' => w'.cell? ⟨w.heap.size, 0, none⟩ = some (.slice a1 m.doms.length c1) ∧ w'.cell? ⟨w.heap.size, 1, none⟩ = some (.slice a2 m.cons.length c2)) (first | go_keep | exact ⟨y0, y1⟩ | exact ⟨z0, z1⟩ | exact ⟨p0, p1⟩) (first
    | (go_at_call 52; refine HC.out.mono ?_; rintro e X ⟨pv, P, rfl, ho, hpo, bX, kX⟩; obtain ⟨z0, z1⟩ := kX.cell; have HO := Lib.hid ho; have HPO := Lib.hid hpo; have HBX := Lib.hid bX; have HKX := Lib.hid kX; clear ho hpo bX kX)
    | (go_at_call 60; refine (HPR.out X pv P HO.out HPO.out HBX.out).mono ?_; rintro e Y ⟨v', rfl, o', b'⟩; obtain ⟨y0, y1⟩ := (HKX.out.below b').cell; have HOY := Lib.hid o'; have HBY := Lib.hid b'; clear o' b'))
  go_wp2
  go_ret
  exact ⟨_, rfl, by rw [HF.out]; exact own_mono HOY.out (Nat.le_trans HB2.out.size HBX.out.size), HB2.out.trans ((HBX.out.mono HB2.out.size).trans (HBY.out.mono (Nat.le_trans HB2.out.size HBX.out.size)))⟩
end Go.Proofs.YtipapmmjfoaddaaGreat
