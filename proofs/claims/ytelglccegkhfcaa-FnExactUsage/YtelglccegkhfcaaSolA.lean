/- The program's choice of a rule. The program's test of a constraint at an assignment; the reference's projection. What a solution is; the reference's projection. The program's test of a solution, and its list of violated constraints. -/
import Derived.Test.YtelglccegkhfcaaSatK
import Derived.Laws.EntriesVeiled
import Derived.Maps.AppendAt

/-! The program's choice of a rule. -/
namespace Go.Proofs.Ytelglccegkhfcaa
open Go.ChangeShapes Go.WideShapes Go.ChangeAt Go.RowKit
set_option linter.unusedVariables false
set_option linter.unusedSimpArgs false

set_option maxRecDepth 100000 in
set_option maxHeartbeats 2000000 in
theorem test1 (c : Con) (cv : Value) (w : World) (h : RdCon w cv c) (hk : c.kind = 1) :
    Calls Try.prog 124 #[cv] w (fun e w' => e = .returned (.func (.func 154) #[cv] #[]) ∧ Below w.heap.size w w') := by
  obtain ⟨a2, a3, a5, c2, c3, c5, rfl, -⟩ := rdCon_slices h
  rw [hk]
  obtain ⟨n2, n3, n5, bd, e2, e3, e5, e6⟩ : ∃ n2 n3 n5 bd, n2 = c.vars.length ∧ n3 = c.args.length ∧ n5 = c.rows.length ∧ bd = c.bound := ⟨_, _, _, _, rfl, rfl, rfl, rfl⟩
  rw [← e2, ← e3, ← e5, ← e6]
  clear h hk e2 e3 e5 e6
  go_enter Try.func124, Try.ntmps124
  go_wp2
  go_ret
  exact ⟨rfl, ((Below.refl w.heap.size w).alloc (Nat.le_refl _) _).alloc (Nat.le_of_lt (by rw [World.size_alloc]; exact Nat.lt_succ_self _)) _⟩

set_option maxRecDepth 100000 in
set_option maxHeartbeats 2000000 in
theorem test2 (c : Con) (cv : Value) (w : World) (h : RdCon w cv c) (hk : c.kind = 2) :
    Calls Try.prog 124 #[cv] w (fun e w' => e = .returned (.func (.func 155) #[cv] #[]) ∧ Below w.heap.size w w') := by
  obtain ⟨a2, a3, a5, c2, c3, c5, rfl, -⟩ := rdCon_slices h
  rw [hk]
  obtain ⟨n2, n3, n5, bd, e2, e3, e5, e6⟩ : ∃ n2 n3 n5 bd, n2 = c.vars.length ∧ n3 = c.args.length ∧ n5 = c.rows.length ∧ bd = c.bound := ⟨_, _, _, _, rfl, rfl, rfl, rfl⟩
  rw [← e2, ← e3, ← e5, ← e6]
  clear h hk e2 e3 e5 e6
  go_enter Try.func124, Try.ntmps124
  go_wp2
  go_ret
  exact ⟨rfl, ((Below.refl w.heap.size w).alloc (Nat.le_refl _) _).alloc (Nat.le_of_lt (by rw [World.size_alloc]; exact Nat.lt_succ_self _)) _⟩

set_option maxRecDepth 100000 in
set_option maxHeartbeats 2000000 in
theorem test3 (c : Con) (cv : Value) (w : World) (h : RdCon w cv c) (hk : c.kind = 3) :
    Calls Try.prog 124 #[cv] w (fun e w' => e = .returned (.func (.func 156) #[cv] #[]) ∧ Below w.heap.size w w') := by
  obtain ⟨a2, a3, a5, c2, c3, c5, rfl, -⟩ := rdCon_slices h
  rw [hk]
  obtain ⟨n2, n3, n5, bd, e2, e3, e5, e6⟩ : ∃ n2 n3 n5 bd, n2 = c.vars.length ∧ n3 = c.args.length ∧ n5 = c.rows.length ∧ bd = c.bound := ⟨_, _, _, _, rfl, rfl, rfl, rfl⟩
  rw [← e2, ← e3, ← e5, ← e6]
  clear h hk e2 e3 e5 e6
  go_enter Try.func124, Try.ntmps124
  go_wp2
  go_ret
  exact ⟨rfl, ((Below.refl w.heap.size w).alloc (Nat.le_refl _) _).alloc (Nat.le_of_lt (by rw [World.size_alloc]; exact Nat.lt_succ_self _)) _⟩

set_option maxRecDepth 100000 in
set_option maxHeartbeats 2000000 in
theorem test4 (c : Con) (cv : Value) (w : World) (h : RdCon w cv c) (hk : c.kind = 4) :
    Calls Try.prog 124 #[cv] w (fun e w' => e = .returned (.func (.func 157) #[cv] #[]) ∧ Below w.heap.size w w') := by
  obtain ⟨a2, a3, a5, c2, c3, c5, rfl, -⟩ := rdCon_slices h
  rw [hk]
  obtain ⟨n2, n3, n5, bd, e2, e3, e5, e6⟩ : ∃ n2 n3 n5 bd, n2 = c.vars.length ∧ n3 = c.args.length ∧ n5 = c.rows.length ∧ bd = c.bound := ⟨_, _, _, _, rfl, rfl, rfl, rfl⟩
  rw [← e2, ← e3, ← e5, ← e6]
  clear h hk e2 e3 e5 e6
  go_enter Try.func124, Try.ntmps124
  go_wp2
  go_ret
  exact ⟨rfl, ((Below.refl w.heap.size w).alloc (Nat.le_refl _) _).alloc (Nat.le_of_lt (by rw [World.size_alloc]; exact Nat.lt_succ_self _)) _⟩

set_option maxRecDepth 100000 in
set_option maxHeartbeats 2000000 in
theorem test5 (c : Con) (cv : Value) (w : World) (h : RdCon w cv c) (hk : c.kind = 5) :
    Calls Try.prog 124 #[cv] w (fun e w' => e = .returned (.func (.func 158) #[cv] #[]) ∧ Below w.heap.size w w') := by
  obtain ⟨a2, a3, a5, c2, c3, c5, rfl, -⟩ := rdCon_slices h
  rw [hk]
  obtain ⟨n2, n3, n5, bd, e2, e3, e5, e6⟩ : ∃ n2 n3 n5 bd, n2 = c.vars.length ∧ n3 = c.args.length ∧ n5 = c.rows.length ∧ bd = c.bound := ⟨_, _, _, _, rfl, rfl, rfl, rfl⟩
  rw [← e2, ← e3, ← e5, ← e6]
  clear h hk e2 e3 e5 e6
  go_enter Try.func124, Try.ntmps124
  go_wp2
  go_ret
  exact ⟨rfl, ((Below.refl w.heap.size w).alloc (Nat.le_refl _) _).alloc (Nat.le_of_lt (by rw [World.size_alloc]; exact Nat.lt_succ_self _)) _⟩

set_option maxRecDepth 100000 in
set_option maxHeartbeats 2000000 in
theorem test6 (c : Con) (cv : Value) (w : World) (h : RdCon w cv c) (hk : c.kind = 6) :
    Calls Try.prog 124 #[cv] w (fun e w' => e = .returned (.func (.func 159) #[cv] #[]) ∧ Below w.heap.size w w') := by
  obtain ⟨a2, a3, a5, c2, c3, c5, rfl, -⟩ := rdCon_slices h
  rw [hk]
  obtain ⟨n2, n3, n5, bd, e2, e3, e5, e6⟩ : ∃ n2 n3 n5 bd, n2 = c.vars.length ∧ n3 = c.args.length ∧ n5 = c.rows.length ∧ bd = c.bound := ⟨_, _, _, _, rfl, rfl, rfl, rfl⟩
  rw [← e2, ← e3, ← e5, ← e6]
  clear h hk e2 e3 e5 e6
  go_enter Try.func124, Try.ntmps124
  go_wp2
  go_ret
  exact ⟨rfl, ((Below.refl w.heap.size w).alloc (Nat.le_refl _) _).alloc (Nat.le_of_lt (by rw [World.size_alloc]; exact Nat.lt_succ_self _)) _⟩

set_option maxRecDepth 100000 in
set_option maxHeartbeats 2000000 in
theorem test7 (c : Con) (cv : Value) (w : World) (h : RdCon w cv c) (hk : c.kind = 7) :
    Calls Try.prog 124 #[cv] w (fun e w' => e = .returned (.func (.func 160) #[cv] #[]) ∧ Below w.heap.size w w') := by
  obtain ⟨a2, a3, a5, c2, c3, c5, rfl, -⟩ := rdCon_slices h
  rw [hk]
  obtain ⟨n2, n3, n5, bd, e2, e3, e5, e6⟩ : ∃ n2 n3 n5 bd, n2 = c.vars.length ∧ n3 = c.args.length ∧ n5 = c.rows.length ∧ bd = c.bound := ⟨_, _, _, _, rfl, rfl, rfl, rfl⟩
  rw [← e2, ← e3, ← e5, ← e6]
  clear h hk e2 e3 e5 e6
  go_enter Try.func124, Try.ntmps124
  go_wp2
  go_ret
  exact ⟨rfl, ((Below.refl w.heap.size w).alloc (Nat.le_refl _) _).alloc (Nat.le_of_lt (by rw [World.size_alloc]; exact Nat.lt_succ_self _)) _⟩

set_option maxRecDepth 100000 in
set_option maxHeartbeats 2000000 in
theorem test8 (c : Con) (cv : Value) (w : World) (h : RdCon w cv c) (hk : c.kind = 8) :
    Calls Try.prog 124 #[cv] w (fun e w' => e = .returned (.func (.func 106) #[cv] #[]) ∧ Below w.heap.size w w') := by
  obtain ⟨a2, a3, a5, c2, c3, c5, rfl, -⟩ := rdCon_slices h
  rw [hk]
  obtain ⟨n2, n3, n5, bd, e2, e3, e5, e6⟩ : ∃ n2 n3 n5 bd, n2 = c.vars.length ∧ n3 = c.args.length ∧ n5 = c.rows.length ∧ bd = c.bound := ⟨_, _, _, _, rfl, rfl, rfl, rfl⟩
  rw [← e2, ← e3, ← e5, ← e6]
  clear h hk e2 e3 e5 e6
  go_enter Try.func124, Try.ntmps124
  go_wp2
  go_ret
  exact ⟨rfl, ((Below.refl w.heap.size w).alloc (Nat.le_refl _) _).alloc (Nat.le_of_lt (by rw [World.size_alloc]; exact Nat.lt_succ_self _)) _⟩

set_option maxRecDepth 100000 in
set_option maxHeartbeats 2000000 in
theorem test9 (c : Con) (cv : Value) (w : World) (h : RdCon w cv c) (hk : c.kind = 9) :
    Calls Try.prog 124 #[cv] w (fun e w' => e = .returned (.func (.func 161) #[cv] #[]) ∧ Below w.heap.size w w') := by
  obtain ⟨a2, a3, a5, c2, c3, c5, rfl, -⟩ := rdCon_slices h
  rw [hk]
  obtain ⟨n2, n3, n5, bd, e2, e3, e5, e6⟩ : ∃ n2 n3 n5 bd, n2 = c.vars.length ∧ n3 = c.args.length ∧ n5 = c.rows.length ∧ bd = c.bound := ⟨_, _, _, _, rfl, rfl, rfl, rfl⟩
  rw [← e2, ← e3, ← e5, ← e6]
  clear h hk e2 e3 e5 e6
  go_enter Try.func124, Try.ntmps124
  go_wp2
  go_ret
  exact ⟨rfl, ((Below.refl w.heap.size w).alloc (Nat.le_refl _) _).alloc (Nat.le_of_lt (by rw [World.size_alloc]; exact Nat.lt_succ_self _)) _⟩

end Go.Proofs.Ytelglccegkhfcaa

/-! The program's test of a constraint at an assignment; the reference's projection. -/
namespace Go.Proofs.Ytelglccegkhfcaa
open Go.ChangeShapes Go.WideShapes Go.ChangeAt Go.RowKit
set_option linter.unusedVariables false
set_option linter.unusedSimpArgs false

/-- The values of the variables of c. -/
def projL (c : Con) (xs : List Int) : List Int := c.vars.map fun v => xs[v.toNat]?.getD 0
theorem projL_length (c : Con) (xs : List Int) : (projL c xs).length = c.vars.length := by simp [projL]
theorem projL_at (c : Con) (xs : List Int) {k : Nat} (hk : k < c.vars.length) : (projL c xs)[k]?.getD 0 = xs[(c.vars[k]?.getD 0).toNat]?.getD 0 := by
  simp [projL, hk]

/-- The rule that the program picks answers as the one test does. -/
theorem pick_any (c : Con) (cv : Value) (x : List Int) (w : World) (h : RdCon w cv c) (f : Fit c x) :
    ∃ F : Nat, (F = 154 ∨ F = 155 ∨ F = 156 ∨ F = 157 ∨ F = 158 ∨ F = 159 ∨ F = 160 ∨ F = 106 ∨ F = 161) ∧ (Calls Try.prog 124 #[cv] w (fun e w' => e = .returned (.func (.func F) #[cv] #[]) ∧ Below w.heap.size w w')) ∧
      ∀ (xv : Value) (w' : World), RdCon w' cv c → RdInts w' xv x → Calls Try.prog F #[cv, xv] w' (BoolPost (satB c x) w') := by
  obtain ⟨hk, hl, h1, h4, hs, ha⟩ := f
  unfold satB
  rcases kind_cases hk with ⟨k, e1, e2⟩ | ⟨k, e1, e2, e3⟩ | k | ⟨k, e1, e2⟩ | ⟨k, e1⟩ | ⟨k, e1⟩ | ⟨k, e1, e2, e3⟩ | ⟨k, e1, e2⟩ | k
  · exact ⟨_, .inl rfl, test1 c cv w h k, fun xv w' h' hx => by rw [if_pos k]; exact isat1 c cv xv x w' h' hx (by omega) h4 e2 hs⟩
  · exact ⟨_, .inr (.inl rfl), test2 c cv w h k, fun xv w' h' hx => by rw [if_neg (by omega), if_pos k]; exact isat2 c cv xv x w' h' hx e2 (by omega) e3 hs⟩
  · exact ⟨_, .inr (.inr (.inl rfl)), test3 c cv w h k, fun xv w' h' hx => by rw [if_neg (by omega), if_neg (by omega), if_pos k]; exact isat3 c cv xv x w' h' hx ha⟩
  · exact ⟨_, .inr (.inr (.inr (.inl rfl))), test4 c cv w h k, fun xv w' h' hx => by rw [if_neg (by omega), if_neg (by omega), if_neg (by omega), if_pos k]; exact isat4 c cv xv x w' h' hx e2 (by omega) hs⟩
  · exact ⟨_, .inr (.inr (.inr (.inr (.inl rfl)))), test5 c cv w h k, fun xv w' h' hx => by rw [if_neg (by omega), if_neg (by omega), if_neg (by omega), if_neg (by omega), if_pos k]; exact isat5 c cv xv x w' h' hx⟩
  · exact ⟨_, .inr (.inr (.inr (.inr (.inr (.inl rfl))))), test6 c cv w h k, fun xv w' h' hx => by rw [if_neg (by omega), if_neg (by omega), if_neg (by omega), if_neg (by omega), if_neg (by omega), if_pos k]; exact isat6 c cv xv x w' h' hx e1 h4⟩
  · exact ⟨_, .inr (.inr (.inr (.inr (.inr (.inr (.inl rfl)))))), test7 c cv w h k, fun xv w' h' hx => by rw [if_neg (by omega), if_neg (by omega), if_neg (by omega), if_neg (by omega), if_neg (by omega), if_neg (by omega), if_pos k, cap_eq e2 (by omega) hs e3]; exact isat7 c cv xv x w' h' hx (by omega) h4 e2 hs h1⟩
  · exact ⟨_, .inr (.inr (.inr (.inr (.inr (.inr (.inr (.inl rfl))))))), test8 c cv w h k, fun xv w' h' hx => by rw [if_neg (by omega), if_neg (by omega), if_neg (by omega), if_neg (by omega), if_neg (by omega), if_neg (by omega), if_neg (by omega), if_pos k]; exact isat8 c cv xv x w' h' hx e1 (Nat.le_trans h4 (by decide)) e2 hs⟩
  · exact ⟨_, .inr (.inr (.inr (.inr (.inr (.inr (.inr (.inr (rfl)))))))), test9 c cv w h k, fun xv w' h' hx => by rw [if_neg (by omega), if_neg (by omega), if_neg (by omega), if_neg (by omega), if_neg (by omega), if_neg (by omega), if_neg (by omega), if_neg (by omega), circ_eq x h1 h4 hs]; exact isat9 c cv xv x w' h' hx h1 h4 hs⟩

set_option maxRecDepth 100000 in
set_option maxHeartbeats 4000000 in
theorem isatisfies_any (c : Con) (cv xv : Value) (xs : List Int) (w : World) (h : RdCon w cv c) (hx : RdInts w xv xs) (hvars : Small c.vars 0 (xs.length - 1)) (f : Fit c (projL c xs)) :
    Calls Try.prog 76 #[cv, xv] w (BoolPost (satB c (projL c xs)) w) := by
  obtain ⟨a2, a3, a5, c2, c3, c5, rfl, h2, -⟩ := rdCon_slices h
  obtain ⟨ax, cx, ev, -⟩ := id hx
  rw [ev] at hx ⊢
  obtain ⟨W1, hW1⟩ : ∃ W1, w.alloc (.cells #[.int .i64 c.kind, .slice a2 c.vars.length c2, .slice a3 c.args.length c3, .int .i64 c.bound, .slice a5 c.rows.length c5] 97) = W1 := ⟨_, rfl⟩
  have B1 : Below w.heap.size w W1 := by rw [← hW1]; exact (Below.refl _ _).alloc (Nat.le_refl _) _
  have bP : Blk5 W1 w.heap.size 97 (.int .i64 c.kind) (.slice a2 c.vars.length c2) (.slice a3 c.args.length c3) (.int .i64 c.bound) (.slice a5 c.rows.length c5) := by rw [← hW1]; exact Blk5.new w _ _ _ _ _ _
  have HC := Lib.hid (h.below B1)
  have HX := Lib.hid (hx.below B1)
  have HV := Lib.hid (h2.below B1)
  have HB1 := Lib.hid B1
  have HW := Lib.hid hW1
  have HF := Lib.hid f
  have HVS := Lib.hid hvars
  obtain ⟨n, hn⟩ : ∃ n, n = c.vars.length := ⟨_, rfl⟩
  obtain ⟨m, hm⟩ : ∃ m, m = xs.length := ⟨_, rfl⟩
  have HN := Lib.hid hn
  have HM := Lib.hid hm
  have hn4 : n ≤ 4 := by have := f.four; rw [projL_length] at this; omega
  rw [← hn] at HV bP HW HC ⊢
  rw [← hm] at HX ⊢
  have hcv := (rdInts_cap HV.out).2
  have hcx := (rdInts_cap HX.out).2
  have HP := Lib.hid bP
  have hz1 : w.heap.size < W1.heap.size := bP.lt
  clear h hx h2 hW1 B1 bP ev hn hm f hvars
  obtain ⟨p0, p1, p2, p3, p4⟩ := HP.out.cell
  obtain ⟨i0, hi, hz0, hz1', hz2⟩ := info_parts Try.info3
  obtain ⟨ys, hys⟩ : ∃ ys, ys = projL c xs := ⟨_, rfl⟩
  have HY := Lib.hid hys
  have HYL : Hid (ys.length = n) := Lib.hid (by rw [hys, projL_length, HN.out])
  rw [← hys] at HF ⊢
  clear hys
  go_enter Try.func76, Try.ntmps76
  go_wp2_with (at_make; rw [HW.out]; refine wpList_make_full _ rfl _ _ 29 rfl W1.heap.size 3 i0 (.int .i64 0) 1 Try.underlying29 hi hz0 hz1' .i64 .i64 _ _ n rfl rfl rfl rfl (by rw [hz2]; omega) (by unfold maxLen; omega) (Nat.le_refl _) ?_; intro w1 hown hgrow; have hb1 := below_of_grown hgrow; obtain ⟨s0, s1, s2, s3, s4⟩ := (HP.out.below hb1).cell)
  rw [madeInts] at hown
  obtain ⟨g, hg⟩ : ∃ g, g = W1.heap.size := ⟨_, rfl⟩
  rw [← hg] at hown hz1 ⊢
  have HG := Lib.hid hg
  have HO : Hid (w1.ownsRow g 3 1 (.slice (some ⟨g, 0, none⟩) n n) n ((fillI ys 0).map (Value.int .i64))) := Lib.hid (by rw [show fillI ys 0 = List.replicate n 0 from by simp [fillI, HYL.out]]; exact hown)
  have HB2 := Lib.hid hb1
  clear hown hgrow hg hb1 p0 p1 p2 p3 p4
  go_loopw [15] (fun i wr => ∃ k : Nat, k ≤ n ∧ i = .int .i64 k ∧ Hid (wr.ownsRow g 3 1 (.slice (some ⟨g, 0, none⟩) n n) n ((fillI ys k).map (Value.int .i64))) ∧ Hid (Below W1.heap.size W1 wr)) (fun i _ => n - (intOf i).toNat)
  case atStart => exact ⟨0, Nat.zero_le _, rfl, HO, HB2⟩
  case round =>
    obtain ⟨k, hk, rfl, HR, HBE⟩ := hrel
    clear s0 s1 s2 s3 s4
    by_cases hlt : k < n
    · obtain ⟨b, off, rfl, q1⟩ := rdInts_at (HV.out.below HBE.out) hlt
      have v1 := HVS.out k (by have := HN.out; omega)
      obtain ⟨z, hz⟩ : ∃ z : Nat, c.vars[k]?.getD 0 = (z : Int) := ⟨(c.vars[k]?.getD 0).toNat, by omega⟩
      have hzm : z < m := by have := HM.out; omega
      obtain ⟨b2, o2, rfl, q2⟩ := rdInts_at (HX.out.below HBE.out) hzm
      rw [hz] at q1
      have HYK : Hid (ys[k]?.getD 0 = xs[z]?.getD 0) := Lib.hid (by rw [HY.out, projL_at c xs (by have := HN.out; omega), hz]; rfl)
      clear v1 hz
      have hc := HR.out.cellAt k (by omega)
      have hf := HR.out.frozenAt k
      obtain ⟨z0, hz0⟩ : ∃ z0, (fillI ys k)[k]? = some z0 := ⟨_, List.getElem?_eq_getElem (by rw [fillI_length _ _ (by have := HYL.out; omega)]; have := HYL.out; omega)⟩
      rw [List.getElem?_map, hz0] at hc
      simp only [Option.map_some] at hc
      clear hz0
      have HS := Lib.hid (HR.out.stored k (.int .i64 (xs[z]?.getD 0)))
      have HT := Lib.hid (fillI_step ys k (by have := HYL.out; omega))
      go_wp2
      go_roundw
      case rel =>
        refine ⟨k + 1, by omega, by go_num, Lib.hid ?_, Lib.hid (HBE.out.setCell (p := ⟨g, k, none⟩) (by have := HG.out; show W1.heap.size ≤ g; omega) _)⟩
        rw [← HT.out, List.map_set, HYK.out]
        exact HS.out.1
      case measure => simp [intOf]; omega
    · obtain rfl : k = n := by omega
      have e : fillI ys k = ys := by unfold fillI; have := HYL.out; rw [this, ← this]; simp
      have HFI := Lib.hid (rdInts_of_owns (xs := ys) (by rw [← e]; exact HR.out) HYL.out (Nat.le_refl _) (by unfold maxLen; omega))
      have HBw : Hid (Below w.heap.size w wr) := Lib.hid (HB1.out.trans (HBE.out.mono HB1.out.size))
      obtain ⟨p0, p1, p2, p3, p4⟩ := (HP.out.below HBE.out).cell
      obtain ⟨F, hD, hT, hF⟩ := pick_any c _ ys wr (HC.out.below HBE.out) HF.out
      have HTT := Lib.hid hT
      have HFF := Lib.hid hF
      have HDD := Lib.hid hD
      clear e hT hF hD
      go_wp2_with fail
      refine HTT.out.mono ?_
      rintro e w5 ⟨rfl, b5⟩
      have HB5 := Lib.hid (HBw.out.trans (b5.mono HBw.out.size))
      have R1 := Lib.hid ((HC.out.below HBE.out).below b5)
      have R2 := Lib.hid (HFI.out.below b5)
      clear b5 HTT
      rcases HDD.out with rfl | rfl | rfl | rfl | rfl | rfl | rfl | rfl | rfl
      all_goals
        go_wp2_with fail
        refine (HFF.out _ _ R1.out R2.out).mono ?_
        rintro e w6 ⟨rfl, b6⟩
        have HB6 := Lib.hid (HB5.out.trans (b6.mono HB5.out.size))
        clear b6
        go_wp2
        go_ret
        exact ⟨rfl, HB6.out⟩
end Go.Proofs.Ytelglccegkhfcaa

/-! What a solution is; the reference's projection. -/
namespace Go.Proofs.Ytelglccegkhfcaa
open Go.ChangeShapes Go.WideShapes Go.ChangeAt Go.RowKit
set_option linter.unusedVariables false
set_option linter.unusedSimpArgs false

/-- A slice literal without elements. -/
theorem ownsRow_made (w : World) (e : TypeId) : (w.alloc (.cells #[] e)).ownsRow w.heap.size e 1 (.slice (some ⟨w.heap.size, 0, none⟩) 0 0) 0 [] := by
  refine ⟨by simp, .inr ⟨w.heap.size, 0, #[], rfl, Nat.le_refl _, ?_, by simp, by simp, by simp, by simp⟩⟩
  exact (MapKept.heap_alloc w _).1
theorem rdInts_of_own {w : World} {B : Nat} {v : Value} {xs : List Int} (h : w.ownsRow B 3 1 v xs.length (xs.map (Value.int .i64))) : RdInts w v xs := by
  rcases h.2 with ⟨e, h0⟩ | ⟨g, cap, cur, e, _, _, h1, h2, _⟩
  · have hx : xs = [] := List.eq_nil_of_length_eq_zero h0
    subst hx
    exact ⟨none, 0, by rw [e]; rfl, by simp, by unfold maxLen; omega, .inl rfl⟩
  · rw [e] at h ⊢
    refine ⟨some ⟨g, 0, none⟩, cap, rfl, h1, h2, .inr ⟨g, 0, rfl, fun i hi => ?_⟩⟩
    rw [Nat.zero_add, h.cellAt i (by omega)]
    simp [hi]

/-- What project leaves. -/
def ProjPost (ys : List Int) (w : World) (e : Ending) (w' : World) : Prop := ∃ v, e = .returned v ∧ RdInts w' v ys ∧ Below w.heap.size w w'
theorem take_step (ys : List Int) (k : Nat) (h : k < ys.length) : ys.take (k + 1) = ys.take k ++ [ys[k]?.getD 0] := by
  rw [List.take_succ_eq_append_getElem h, List.getElem?_eq_getElem h]; rfl

/-- Every value lies in its domain. -/
def insB (ds xs : List Int) : Bool := decide (∀ i, i < xs.length → hasB (ds[i]?.getD 0) (xs[i]?.getD 0) = true)
def satsB (cs : List Con) (xs : List Int) : Bool := cs.all fun c => satB c (projL c xs)
theorem satsB_true {cs : List Con} {xs : List Int} (h : ∀ (j : Nat) (c : Con), j < cs.length → cs[j]? = some c → satB c (projL c xs) = true) : satsB cs xs = true := by
  unfold satsB
  rw [List.all_eq_true]
  intro x hx
  obtain ⟨j, hj, rfl⟩ := List.mem_iff_getElem.1 hx
  exact h j _ hj (List.getElem?_eq_getElem hj)
theorem satsB_false {cs : List Con} {xs : List Int} {j : Nat} {c : Con} (hc : cs[j]? = some c) (h : satB c (projL c xs) = false) : satsB cs xs = false := by
  unfold satsB
  rw [List.all_eq_false]
  exact ⟨c, List.mem_of_getElem? hc, by simp [h]⟩
/-- The values are a solution of the valid model. -/
def solB (m : Mod) (xs : List Int) : Bool := vmB m && decide (xs.length = m.doms.length) && (insB m.doms xs && satsB m.cons xs)

/-- What a valid model and an assignment within 0..5 give for each constraint. -/
theorem fit_of {m : Mod} {xs : List Int} (hm : vmB m = true) (hl : xs.length = m.doms.length) (hs : Small xs 0 5) {c : Con} (hc : c ∈ m.cons) : Small c.vars 0 (xs.length - 1) ∧ Fit c (projL c xs) := by
  unfold vmB at hm
  simp only [Bool.and_eq_true] at hm
  obtain ⟨⟨⟨h1, _⟩, _⟩, h4⟩ := hm
  unfold consB at h4
  rw [List.all_eq_true] at h4
  have hv := h4 c hc
  unfold vcB at hv
  simp only [Bool.and_eq_true] at hv
  obtain ⟨⟨⟨e1, e2⟩, _⟩, e4⟩ := hv
  have w1 := wiB_in h1
  have w2 := wiB_in e1
  have sv : Small c.vars 0 (xs.length - 1) := by rw [hl]; exact small_of e2
  have sp : Small (projL c xs) 0 5 := by
    intro j hj
    rw [projL_length] at hj
    rw [projL_at c xs hj]
    have := sv j hj
    exact hs _ (by omega)
  refine ⟨sv, e4, projL_length c xs, by rw [projL_length]; omega, by rw [projL_length]; omega, sp, ?_⟩
  exact allB_true fun j hj => by have := sp j hj; exact wiB_true this.1 this.2
theorem small_of_ins {ds xs : List Int} (h : insB ds xs = true) : Small xs 0 5 := by
  intro j hj
  have := of_decide_eq_true h j hj
  unfold hasB at this
  have := of_decide_eq_true this
  exact ⟨this.1, this.2.1⟩
theorem doms_small {m : Mod} (hm : vmB m = true) : Small m.doms 0 63 ∧ m.doms.length ≤ 4 ∧ 1 ≤ m.doms.length ∧ m.cons.length ≤ 6 := by
  unfold vmB at hm
  simp only [Bool.and_eq_true] at hm
  obtain ⟨⟨⟨h1, h2⟩, h3⟩, h4⟩ := hm
  have := wiB_in h1
  exact ⟨small_of h2, by omega, by omega, of_decide_eq_true h3⟩

end Go.Proofs.Ytelglccegkhfcaa

/-! The program's test of a solution, and its list of violated constraints. -/
namespace Go.Proofs.Ytelglccegkhfcaa
open Go.ChangeShapes Go.WideShapes Go.ChangeAt Go.RowKit
set_option linter.unusedVariables false
set_option linter.unusedSimpArgs false

/-- The violated ones among the first k constraints. -/
def violS (cs : List Con) (xs : List Int) : Nat → List Int
  | 0 => []
  | k + 1 => violS cs xs k ++ (match cs[k]? with | some c => if satB c (projL c xs) then [] else [(k : Int)] | none => [])
theorem violS_le (cs : List Con) (xs : List Int) (k : Nat) : (violS cs xs k).length ≤ k := by
  induction k with
  | zero => simp [violS]
  | succ k ih => simp only [violS, List.length_append]; split <;> (try split) <;> simp <;> omega
theorem violS_yes {cs : List Con} {xs : List Int} {k : Nat} {c : Con} (hc : cs[k]? = some c) (h : satB c (projL c xs) = true) : violS cs xs (k + 1) = violS cs xs k := by
  rw [violS, hc]; simp [h]
theorem violS_no {cs : List Con} {xs : List Int} {k : Nat} {c : Con} (hc : cs[k]? = some c) (h : satB c (projL c xs) = false) : violS cs xs (k + 1) = violS cs xs k ++ [(k : Int)] := by
  rw [violS, hc]; simp [h]
theorem violS_nil (cs : List Con) (xs : List Int) (k : Nat) (hk : k ≤ cs.length) : ((violS cs xs k).length = 0 ↔ ∀ (j : Nat) (c : Con), j < k → cs[j]? = some c → satB c (projL c xs) = true) := by
  induction k with
  | zero => simp [violS]
  | succ k ih =>
    have i := ih (by omega)
    have hc : cs[k]? = some cs[k] := List.getElem?_eq_getElem (by omega)
    cases hs : satB cs[k] (projL cs[k] xs)
    · rw [violS_no hc hs]
      constructor
      · intro h; simp at h
      · intro h; have := h k _ (by omega) hc; rw [hs] at this; cases this
    · rw [violS_yes hc hs, i]
      constructor
      · intro h j c hj hc'
        by_cases e : j = k
        · subst e; rw [hc] at hc'; rw [← Option.some.inj hc']; exact hs
        · exact h j c (by omega) hc'
      · intro h j c hj hc'; exact h j c (by omega) hc'
/-- What Violated returns. -/
def violL (m : Mod) (xs : List Int) : List Int := if vmB m && (decide (xs.length = m.doms.length) && allB xs 0 5) then violS m.cons xs m.cons.length else []

set_option maxRecDepth 100000 in
theorem isAssignment_any (xv : Value) (xs : List Int) (n : Nat) (w : World) (hx : RdInts w xv xs) (hn : n ≤ 9223372036854775807) :
    Calls Try.prog 64 #[xv, .int .i64 n] w fun e w' => e = .returned (.bool (decide (xs.length = n) && allB xs 0 5)) ∧ w = w' := by
  have HX := Lib.hid hx
  obtain ⟨ax, cx, e2, -⟩ := id hx
  rw [e2] at HX ⊢
  have hc := (rdInts_cap HX.out).2
  clear e2 hx
  by_cases hl : xs.length = n
  · have hd : ((xs.length : Int) == (n : Int)) = true := by simp [hl]
    have HL := Lib.hid hl
    clear hl
    go_enter Try.func64, Try.ntmps64
    go_wp2_with fail
    refine (allWithin_any _ xs _ _ _ HX.out).mono ?_
    rintro e w' ⟨rfl, rfl⟩
    go_wp2
    go_ret
    exact ⟨ret_bool (by rw [decide_eq_true HL.out]; simp), rfl⟩
  · have hd : ((xs.length : Int) == (n : Int)) = false := by simp; omega
    have HL := Lib.hid hl
    clear hl
    go_enter Try.func64, Try.ntmps64
    go_wp2
    go_ret
    exact ⟨ret_bool (by rw [decide_eq_false HL.out]; simp), rfl⟩

theorem own_mono {w : World} {B B' : Nat} {e : TypeId} {k : Nat} {v : Value} {n : Nat} {xs : List Value} (h : w.ownsRow B e k v n xs) (hb : B' ≤ B) : w.ownsRow B' e k v n xs :=
  ⟨h.1, h.2.imp id fun ⟨g, cap, cur, e, hg, r⟩ => ⟨g, cap, cur, e, Nat.le_trans hb hg, r⟩⟩
theorem own_below {w w' : World} {B : Nat} {e : TypeId} {k : Nat} {v : Value} {n : Nat} {xs : List Value} (h : w.ownsRow B e k v n xs) (b : Below w.heap.size w w') : w'.ownsRow B e k v n xs := by
  refine World.ownsRow.kept h (show w.grownBy w' none from ⟨b.os, b.tape, b.output, b.size, fun q hq _ => b.block q hq⟩) ?_
  rcases h.2 with ⟨e, _⟩ | ⟨g, cap, cur, e, _⟩
  · exact .inl (by rw [e]; rfl)
  · exact .inr (by rw [e]; simp [Value.ownBlock])
theorem own_slice {w : World} {B : Nat} {e : TypeId} {k : Nat} {v : Value} {n : Nat} {xs : List Value} (h : w.ownsRow B e k v n xs) : ∃ a n' c, v = .slice a n' c := by
  rcases h.2 with ⟨e, _⟩ | ⟨g, cap, cur, e, _⟩
  · exact ⟨_, _, _, e⟩
  · exact ⟨_, _, _, e⟩
/-- A slice of integers of the call's own, which reads ys. -/
def IntsPost (ys : List Int) (w : World) (e : Ending) (w' : World) : Prop := ∃ v, e = .returned v ∧ w'.ownsRow w.heap.size 3 1 v ys.length (ys.map (Value.int .i64)) ∧ Below w.heap.size w w'

set_option maxRecDepth 100000 in
set_option maxHeartbeats 4000000 in
theorem iViolated_any (m : Mod) (v xv : Value) (xs : List Int) (w : World) (h : RdModel w v m) (hx : RdInts w xv xs) (hm : ModLe m 1048576) :
    Calls Try.prog 26 #[v, xv] w (IntsPost (violL m xs) w) := by
  obtain ⟨a1, a2, c1, c2, rfl, h1, h2⟩ := rdModel_slices h
  obtain ⟨ax, cx, ev, -⟩ := id hx
  rw [ev] at hx ⊢
  obtain ⟨W1, hW1⟩ : ∃ W1, w.alloc (.cells #[.slice a1 m.doms.length c1, .slice a2 m.cons.length c2] 43) = W1 := ⟨_, rfl⟩
  have B1 : Below w.heap.size w W1 := by rw [← hW1]; exact (Below.refl _ _).alloc (Nat.le_refl _) _
  have bP : Blk2 W1 w.heap.size 43 (.slice a1 m.doms.length c1) (.slice a2 m.cons.length c2) := by rw [← hW1]; exact Blk2.new w _ _ _
  have HM := Lib.hid (h.below B1)
  have HX := Lib.hid (hx.below B1)
  have I2 := Lib.hid (h2.below B1)
  have HB1 := Lib.hid B1
  have HW := Lib.hid hW1
  have HP := Lib.hid bP
  have hc1 := (rdInts_cap (h1.below B1)).2
  have hc2 := (rdCons_cap (h2.below B1)).2
  have hc3 := (rdInts_cap (hx.below B1)).2
  have HLE := Lib.hid hm
  clear h h1 h2 hx hW1 B1 bP ev hm
  obtain ⟨p0, p1⟩ := HP.out.cell
  obtain ⟨i0, hi, hz0, hz1, hz2⟩ := info_parts Try.info3
  go_enter Try.func26, Try.ntmps26
  go_wp2_with fail
  rw [HW.out]
  refine (ivm_any m _ W1 HM.out HLE.out).mono ?_
  rintro e w2 ⟨rfl, b2⟩
  have HB2 := Lib.hid (HB1.out.trans (b2.mono HB1.out.size))
  have HX2 := Lib.hid (HX.out.below b2)
  have I22 := Lib.hid (I2.out.below b2)
  have HP2 := Lib.hid (HP.out.below b2)
  clear p0 p1 b2 HX I2 HP HB1 HM
  obtain ⟨p0, p1⟩ := HP2.out.cell
  cases hv : vmB m
  · have HF : Hid (violL m xs = []) := Lib.hid (by unfold violL; rw [hv]; rfl)
    go_wp2
    go_ret
    exact ⟨_, rfl, by rw [HF.out]; exact World.ownsRow_nil _ _ _ _, HB2.out⟩
  go_wp2_with fail
  refine (isAssignment_any _ xs m.doms.length w2 HX2.out (by omega)).mono ?_
  rintro e w2' ⟨rfl, rfl⟩
  cases ha : (decide (xs.length = m.doms.length) && allB xs 0 5)
  · have HF : Hid (violL m xs = []) := Lib.hid (by unfold violL; rw [hv, ha]; rfl)
    go_wp2
    go_ret
    exact ⟨_, rfl, by rw [HF.out]; exact World.ownsRow_nil _ _ _ _, HB2.out⟩
  have HF : Hid (violL m xs = violS m.cons xs m.cons.length) := Lib.hid (by unfold violL; rw [hv, ha]; rfl)
  have ha2 := Bool.and_eq_true_iff.1 ha
  have HFT := Lib.hid (fun (c : Con) (hc : c ∈ m.cons) => fit_of hv (of_decide_eq_true ha2.1) (small_of ha2.2) hc)
  have hk6 := (doms_small hv).2.2.2
  clear ha2
  obtain ⟨k2, hk2⟩ : ∃ k2, k2 = m.cons.length := ⟨_, rfl⟩
  rw [← hk2] at HP2 I22 p1 hc2 hk6 HF ⊢
  have HN2 := Lib.hid hk2
  clear hk2
  go_wp2
  go_loopw [5, 22] (fun u i wr => ∃ j : Nat, j ≤ k2 ∧ i = .int .i64 j ∧ Hid (wr.ownsRow w2.heap.size 3 1 u (violS m.cons xs j).length ((violS m.cons xs j).map (Value.int .i64))) ∧ Hid (Below w2.heap.size w2 wr)) (fun _ i _ => k2 - (intOf i).toNat)
  case atStart => exact ⟨0, Nat.zero_le _, rfl, Lib.hid (World.ownsRow_nil _ _ _ _), Lib.hid (Below.refl _ _)⟩
  case round =>
    obtain ⟨j, hj, rfl, HO, HBE⟩ := hrel
    by_cases hlt : j < k2
    · obtain ⟨b, off, c, x2, x3, x5, y2, y3, y5, rfl, hck, t0, t1, t2, t3, t4, hr⟩ := rdCons_at (I22.out.below HBE.out) hlt
      have HCK := Lib.hid hck
      have hft := HFT.out c (List.mem_of_getElem? hck)
      have HSV := Lib.hid hft.1
      have HFI := Lib.hid hft.2
      obtain ⟨W3, hW3⟩ : ∃ W3, wr.alloc (.cells #[.int .i64 c.kind, .slice x2 c.vars.length y2, .slice x3 c.args.length y3, .int .i64 c.bound, .slice x5 c.rows.length y5] 97) = W3 := ⟨_, rfl⟩
      have B3 : Below wr.heap.size wr W3 := by rw [← hW3]; exact (Below.refl _ _).alloc (Nat.le_refl _) _
      have HW3 := Lib.hid hW3
      have R1 := Lib.hid (hr.below B3)
      have R2 := Lib.hid ((HX2.out.below HBE.out).below B3)
      have HBE3 := Lib.hid (HBE.out.trans (B3.mono HBE.out.size))
      have HO3 : Hid (W3.ownsRow w2.heap.size 3 1 _ (violS m.cons xs j).length ((violS m.cons xs j).map (Value.int .i64))) := Lib.hid (by rw [← hW3]; exact HO.out.alloc _)
      have hle := violS_le m.cons xs j
      clear hck hr hft hW3 B3 HO HBE
      cases hs : satB c (projL c xs)
      · have HS := Lib.hid (violS_no HCK.out hs)
        go_wp2_with fail
        rw [HW3.out]
        refine (isatisfies_any c _ _ xs W3 R1.out R2.out HSV.out HFI.out).mono ?_
        rintro e w5 ⟨rfl, b5⟩
        rw [hs]
        have HBE5 := HBE3.out.trans (b5.mono HBE3.out.size)
        have hown := own_below HO3.out b5
        have hsz := HBE5.size
        clear b5
        go_wp2_with (at_builtin; refine wpList_append_own _ rfl _ _ 29 rfl w2.heap.size 3 i0 (.int .i64 0) 1 8 Try.underlying29 hi hz0 hz1 hz2 rfl (by decide) _ _ _ rfl (hown.alloc _) ⟨w5.heap.size, 0, none⟩ 1 1 [.int .i64 j] rfl rfl (cell_one_new _ _ _) (by simp [Value.oneCell']) (by unfold maxLen; omega) (by omega) (by simp; omega) ?_; intro v' w6 hown' hgrow _)
        have hb7 : Below w2.heap.size w2 w6 := ((HBE5.alloc (by omega) _).grown hgrow (by simp; omega) (fun q e => (hown.lt q e).1))
        go_wp2
        go_roundw
        case rel => exact ⟨j + 1, by omega, by go_num, Lib.hid (by rw [HS.out, List.length_append, List.map_append]; exact hown'), Lib.hid hb7⟩
        case measure => simp [intOf]; omega
      · have HS := Lib.hid (violS_yes HCK.out hs)
        go_wp2_with fail
        rw [HW3.out]
        refine (isatisfies_any c _ _ xs W3 R1.out R2.out HSV.out HFI.out).mono ?_
        rintro e w5 ⟨rfl, b5⟩
        rw [hs]
        have HBE5 := Lib.hid (HBE3.out.trans (b5.mono HBE3.out.size))
        have HO5 := Lib.hid (own_below HO3.out b5)
        clear b5
        go_wp2
        go_roundw
        case rel => exact ⟨j + 1, by omega, by go_num, Lib.hid (by rw [HS.out]; exact HO5.out), HBE5⟩
        case measure => simp [intOf]; omega
    · obtain rfl : j = k2 := by omega
      go_wp2
      go_ret
      exact ⟨_, rfl, by rw [HF.out]; exact own_mono HO.out HB2.out.size, HB2.out.trans (HBE.out.mono HB2.out.size)⟩
end Go.Proofs.Ytelglccegkhfcaa
