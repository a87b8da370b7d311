/- The program's choice of a rule. The program's test of a constraint at an assignment; the reference's projection. What a solution is; the reference's projection. The program's test of a solution, and its list of violated constraints. -/
import Derived.Test.YtipapmmjfoaddaaSatK
import Derived.Laws.EntriesVeiled
import Derived.Maps.AppendAt

/-! The program's choice of a rule. -/
namespace Go.Proofs.Ytipapmmjfoaddaa
open Go.ChangeShapes Go.WideShapes Go.ChangeAt Go.RowKit
set_option linter.unusedVariables false
set_option linter.unusedSimpArgs false

set_option maxRecDepth 100000 in
set_option maxHeartbeats 2000000 in
theorem test1 (c : Con) (cv : Value) (w : World) (h : RdCon w cv c) (hk : c.kind = 1) :
    Calls Try.prog 85 #[cv] w (fun e w' => e = .returned (.func (.func 101) #[cv] #[]) ∧ Below w.heap.size w w') := by
  obtain ⟨a2, a3, a5, c2, c3, c5, rfl, -⟩ := rdCon_slices h
  rw [hk]
  obtain ⟨n2, n3, n5, bd, e2, e3, e5, e6⟩ : ∃ n2 n3 n5 bd, n2 = c.vars.length ∧ n3 = c.args.length ∧ n5 = c.rows.length ∧ bd = c.bound := ⟨_, _, _, _, rfl, rfl, rfl, rfl⟩
  rw [← e2, ← e3, ← e5, ← e6]
  clear h hk e2 e3 e5 e6
  go_enter Try.func85, Try.ntmps85
  go_wp2
  go_ret
  exact ⟨rfl, ((Below.refl w.heap.size w).alloc (Nat.le_refl _) _).alloc (Nat.le_of_lt (by rw [World.size_alloc]; exact Nat.lt_succ_self _)) _⟩

set_option maxRecDepth 100000 in
set_option maxHeartbeats 2000000 in
theorem test2 (c : Con) (cv : Value) (w : World) (h : RdCon w cv c) (hk : c.kind = 2) :
    Calls Try.prog 85 #[cv] w (fun e w' => e = .returned (.func (.func 102) #[cv] #[]) ∧ Below w.heap.size w w') := by
  obtain ⟨a2, a3, a5, c2, c3, c5, rfl, -⟩ := rdCon_slices h
  rw [hk]
  obtain ⟨n2, n3, n5, bd, e2, e3, e5, e6⟩ : ∃ n2 n3 n5 bd, n2 = c.vars.length ∧ n3 = c.args.length ∧ n5 = c.rows.length ∧ bd = c.bound := ⟨_, _, _, _, rfl, rfl, rfl, rfl⟩
  rw [← e2, ← e3, ← e5, ← e6]
  clear h hk e2 e3 e5 e6
  go_enter Try.func85, Try.ntmps85
  go_wp2
  go_ret
  exact ⟨rfl, ((Below.refl w.heap.size w).alloc (Nat.le_refl _) _).alloc (Nat.le_of_lt (by rw [World.size_alloc]; exact Nat.lt_succ_self _)) _⟩

set_option maxRecDepth 100000 in
set_option maxHeartbeats 2000000 in
theorem test3 (c : Con) (cv : Value) (w : World) (h : RdCon w cv c) (hk : c.kind = 3) :
    Calls Try.prog 85 #[cv] w (fun e w' => e = .returned (.func (.func 103) #[cv] #[]) ∧ Below w.heap.size w w') := by
  obtain ⟨a2, a3, a5, c2, c3, c5, rfl, -⟩ := rdCon_slices h
  rw [hk]
  obtain ⟨n2, n3, n5, bd, e2, e3, e5, e6⟩ : ∃ n2 n3 n5 bd, n2 = c.vars.length ∧ n3 = c.args.length ∧ n5 = c.rows.length ∧ bd = c.bound := ⟨_, _, _, _, rfl, rfl, rfl, rfl⟩
  rw [← e2, ← e3, ← e5, ← e6]
  clear h hk e2 e3 e5 e6
  go_enter Try.func85, Try.ntmps85
  go_wp2
  go_ret
  exact ⟨rfl, ((Below.refl w.heap.size w).alloc (Nat.le_refl _) _).alloc (Nat.le_of_lt (by rw [World.size_alloc]; exact Nat.lt_succ_self _)) _⟩

set_option maxRecDepth 100000 in
set_option maxHeartbeats 2000000 in
theorem test4 (c : Con) (cv : Value) (w : World) (h : RdCon w cv c) (hk : c.kind = 4) :
    Calls Try.prog 85 #[cv] w (fun e w' => e = .returned (.func (.func 104) #[cv] #[]) ∧ Below w.heap.size w w') := by
  obtain ⟨a2, a3, a5, c2, c3, c5, rfl, -⟩ := rdCon_slices h
  rw [hk]
  obtain ⟨n2, n3, n5, bd, e2, e3, e5, e6⟩ : ∃ n2 n3 n5 bd, n2 = c.vars.length ∧ n3 = c.args.length ∧ n5 = c.rows.length ∧ bd = c.bound := ⟨_, _, _, _, rfl, rfl, rfl, rfl⟩
  rw [← e2, ← e3, ← e5, ← e6]
  clear h hk e2 e3 e5 e6
  go_enter Try.func85, Try.ntmps85
  go_wp2
  go_ret
  exact ⟨rfl, ((Below.refl w.heap.size w).alloc (Nat.le_refl _) _).alloc (Nat.le_of_lt (by rw [World.size_alloc]; exact Nat.lt_succ_self _)) _⟩

set_option maxRecDepth 100000 in
set_option maxHeartbeats 2000000 in
theorem test5 (c : Con) (cv : Value) (w : World) (h : RdCon w cv c) (hk : c.kind = 5) :
    Calls Try.prog 85 #[cv] w (fun e w' => e = .returned (.func (.func 105) #[cv] #[]) ∧ Below w.heap.size w w') := by
  obtain ⟨a2, a3, a5, c2, c3, c5, rfl, -⟩ := rdCon_slices h
  rw [hk]
  obtain ⟨n2, n3, n5, bd, e2, e3, e5, e6⟩ : ∃ n2 n3 n5 bd, n2 = c.vars.length ∧ n3 = c.args.length ∧ n5 = c.rows.length ∧ bd = c.bound := ⟨_, _, _, _, rfl, rfl, rfl, rfl⟩
  rw [← e2, ← e3, ← e5, ← e6]
  clear h hk e2 e3 e5 e6
  go_enter Try.func85, Try.ntmps85
  go_wp2
  go_ret
  exact ⟨rfl, ((Below.refl w.heap.size w).alloc (Nat.le_refl _) _).alloc (Nat.le_of_lt (by rw [World.size_alloc]; exact Nat.lt_succ_self _)) _⟩

set_option maxRecDepth 100000 in
set_option maxHeartbeats 2000000 in
theorem test6 (c : Con) (cv : Value) (w : World) (h : RdCon w cv c) (hk : c.kind = 6) :
    Calls Try.prog 85 #[cv] w (fun e w' => e = .returned (.func (.func 106) #[cv] #[]) ∧ Below w.heap.size w w') := by
  obtain ⟨a2, a3, a5, c2, c3, c5, rfl, -⟩ := rdCon_slices h
  rw [hk]
  obtain ⟨n2, n3, n5, bd, e2, e3, e5, e6⟩ : ∃ n2 n3 n5 bd, n2 = c.vars.length ∧ n3 = c.args.length ∧ n5 = c.rows.length ∧ bd = c.bound := ⟨_, _, _, _, rfl, rfl, rfl, rfl⟩
  rw [← e2, ← e3, ← e5, ← e6]
  clear h hk e2 e3 e5 e6
  go_enter Try.func85, Try.ntmps85
  go_wp2
  go_ret
  exact ⟨rfl, ((Below.refl w.heap.size w).alloc (Nat.le_refl _) _).alloc (Nat.le_of_lt (by rw [World.size_alloc]; exact Nat.lt_succ_self _)) _⟩

set_option maxRecDepth 100000 in
set_option maxHeartbeats 2000000 in
theorem test7 (c : Con) (cv : Value) (w : World) (h : RdCon w cv c) (hk : c.kind = 7) :
    Calls Try.prog 85 #[cv] w (fun e w' => e = .returned (.func (.func 107) #[cv] #[]) ∧ Below w.heap.size w w') := by
  obtain ⟨a2, a3, a5, c2, c3, c5, rfl, -⟩ := rdCon_slices h
  rw [hk]
  obtain ⟨n2, n3, n5, bd, e2, e3, e5, e6⟩ : ∃ n2 n3 n5 bd, n2 = c.vars.length ∧ n3 = c.args.length ∧ n5 = c.rows.length ∧ bd = c.bound := ⟨_, _, _, _, rfl, rfl, rfl, rfl⟩
  rw [← e2, ← e3, ← e5, ← e6]
  clear h hk e2 e3 e5 e6
  go_enter Try.func85, Try.ntmps85
  go_wp2
  go_ret
  exact ⟨rfl, ((Below.refl w.heap.size w).alloc (Nat.le_refl _) _).alloc (Nat.le_of_lt (by rw [World.size_alloc]; exact Nat.lt_succ_self _)) _⟩

set_option maxRecDepth 100000 in
set_option maxHeartbeats 2000000 in
theorem test8 (c : Con) (cv : Value) (w : World) (h : RdCon w cv c) (hk : c.kind = 8) :
    Calls Try.prog 85 #[cv] w (fun e w' => e = .returned (.func (.func 108) #[cv] #[]) ∧ Below w.heap.size w w') := by
  obtain ⟨a2, a3, a5, c2, c3, c5, rfl, -⟩ := rdCon_slices h
  rw [hk]
  obtain ⟨n2, n3, n5, bd, e2, e3, e5, e6⟩ : ∃ n2 n3 n5 bd, n2 = c.vars.length ∧ n3 = c.args.length ∧ n5 = c.rows.length ∧ bd = c.bound := ⟨_, _, _, _, rfl, rfl, rfl, rfl⟩
  rw [← e2, ← e3, ← e5, ← e6]
  clear h hk e2 e3 e5 e6
  go_enter Try.func85, Try.ntmps85
  go_wp2
  go_ret
  exact ⟨rfl, ((Below.refl w.heap.size w).alloc (Nat.le_refl _) _).alloc (Nat.le_of_lt (by rw [World.size_alloc]; exact Nat.lt_succ_self _)) _⟩

set_option maxRecDepth 100000 in
set_option maxHeartbeats 2000000 in
theorem test9 (c : Con) (cv : Value) (w : World) (h : RdCon w cv c) (hk : c.kind = 9) :
    Calls Try.prog 85 #[cv] w (fun e w' => e = .returned (.func (.func 109) #[cv] #[]) ∧ Below w.heap.size w w') := by
  obtain ⟨a2, a3, a5, c2, c3, c5, rfl, -⟩ := rdCon_slices h
  rw [hk]
  obtain ⟨n2, n3, n5, bd, e2, e3, e5, e6⟩ : ∃ n2 n3 n5 bd, n2 = c.vars.length ∧ n3 = c.args.length ∧ n5 = c.rows.length ∧ bd = c.bound := ⟨_, _, _, _, rfl, rfl, rfl, rfl⟩
  rw [← e2, ← e3, ← e5, ← e6]
  clear h hk e2 e3 e5 e6
  go_enter Try.func85, Try.ntmps85
  go_wp2
  go_ret
  exact ⟨rfl, ((Below.refl w.heap.size w).alloc (Nat.le_refl _) _).alloc (Nat.le_of_lt (by rw [World.size_alloc]; exact Nat.lt_succ_self _)) _⟩

end Go.Proofs.Ytipapmmjfoaddaa

/-! The program's test of a constraint at an assignment; the reference's projection. -/
namespace Go.Proofs.Ytipapmmjfoaddaa
open Go.ChangeShapes Go.WideShapes Go.ChangeAt Go.RowKit
set_option linter.unusedVariables false
set_option linter.unusedSimpArgs false

/-- The values of the variables of c. -/
def projL (c : Con) (xs : List Int) : List Int := c.vars.map fun v => xs[v.toNat]?.getD 0
theorem projL_length (c : Con) (xs : List Int) : (projL c xs).length = c.vars.length := by simp [projL]
theorem projL_at (c : Con) (xs : List Int) {k : Nat} (hk : k < c.vars.length) : (projL c xs)[k]?.getD 0 = xs[(c.vars[k]?.getD 0).toNat]?.getD 0 := by
  simp [projL, hk]

/-- The rule that the program picks answers as the one test does. -/
theorem pick_any (c : Con) (cv : Value) (x : List Int) (w : World) (h : RdCon w cv c) (f : Fit c x) :
    ∃ F : Nat, (F = 101 ∨ F = 102 ∨ F = 103 ∨ F = 104 ∨ F = 105 ∨ F = 106 ∨ F = 107 ∨ F = 108 ∨ F = 109) ∧ (Calls Try.prog 85 #[cv] w (fun e w' => e = .returned (.func (.func F) #[cv] #[]) ∧ Below w.heap.size w w')) ∧
      ∀ (xv : Value) (w' : World), RdCon w' cv c → RdInts w' xv x → Calls Try.prog F #[cv, xv] w' (BoolPost (satB c x) w') := by
  obtain ⟨hk, hl, h1, h4, hs, ha⟩ := f
  unfold satB
  rcases kind_cases hk with ⟨k, e1, e2⟩ | ⟨k, e1, e2, e3⟩ | k | ⟨k, e1, e2⟩ | ⟨k, e1⟩ | ⟨k, e1⟩ | ⟨k, e1, e2, e3⟩ | ⟨k, e1, e2⟩ | k
  · exact ⟨_, .inl rfl, test1 c cv w h k, fun xv w' h' hx => by rw [if_pos k]; exact isat1 c cv xv x w' h' hx (by omega) h4 e2 hs⟩
  · exact ⟨_, .inr (.inl rfl), test2 c cv w h k, fun xv w' h' hx => by rw [if_neg (by omega), if_pos k]; exact isat2 c cv xv x w' h' hx e2 (by omega) e3 hs⟩
  · exact ⟨_, .inr (.inr (.inl rfl)), test3 c cv w h k, fun xv w' h' hx => by rw [if_neg (by omega), if_neg (by omega), if_pos k]; exact isat3 c cv xv x w' h' hx ha⟩
  · exact ⟨_, .inr (.inr (.inr (.inl rfl))), test4 c cv w h k, fun xv w' h' hx => by rw [if_neg (by omega), if_neg (by omega), if_neg (by omega), if_pos k]; exact isat4 c cv xv x w' h' hx e2 (by omega) hs⟩
  · exact ⟨_, .inr (.inr (.inr (.inr (.inl rfl)))), test5 c cv w h k, fun xv w' h' hx => by rw [if_neg (by omega), if_neg (by omega), if_neg (by omega), if_neg (by omega), if_pos k]; exact isat5 c cv xv x w' h' hx⟩
  · exact ⟨_, .inr (.inr (.inr (.inr (.inr (.inl rfl))))), test6 c cv w h k, fun xv w' h' hx => by rw [if_neg (by omega), if_neg (by omega), if_neg (by omega), if_neg (by omega), if_neg (by omega), if_pos k]; exact isat6 c cv xv x w' h' hx e1 h4⟩
  · exact ⟨_, .inr (.inr (.inr (.inr (.inr (.inr (.inl rfl)))))), test7 c cv w h k, fun xv w' h' hx => by rw [if_neg (by omega), if_neg (by omega), if_neg (by omega), if_neg (by omega), if_neg (by omega), if_neg (by omega), if_pos k, cap_eq e2 (by omega) hs e3]; exact isat7 c cv xv x w' h' hx (by omega) h4 e2 hs h1⟩
  · exact ⟨_, .inr (.inr (.inr (.inr (.inr (.inr (.inr (.inl rfl))))))), test8 c cv w h k, fun xv w' h' hx => by rw [if_neg (by omega), if_neg (by omega), if_neg (by omega), if_neg (by omega), if_neg (by omega), if_neg (by omega), if_neg (by omega), if_pos k]; exact isat8 c cv xv x w' h' hx e1 h4 e2 hs⟩
  · exact ⟨_, .inr (.inr (.inr (.inr (.inr (.inr (.inr (.inr (rfl)))))))), test9 c cv w h k, fun xv w' h' hx => by rw [if_neg (by omega), if_neg (by omega), if_neg (by omega), if_neg (by omega), if_neg (by omega), if_neg (by omega), if_neg (by omega), if_neg (by omega), circ_eq x h1 h4 hs]; exact isat9 c cv xv x w' h' hx h1 h4 hs⟩

end Go.Proofs.Ytipapmmjfoaddaa

/-! What a solution is; the reference's projection. -/
namespace Go.Proofs.Ytipapmmjfoaddaa
open Go.ChangeShapes Go.WideShapes Go.ChangeAt Go.RowKit
set_option linter.unusedVariables false
set_option linter.unusedSimpArgs false

/-- A slice literal without elements. -/
theorem ownsRow_made (w : World) (e : TypeId) : (w.alloc (.cells #[] e)).ownsRow w.heap.size e 1 (.slice (some ⟨w.heap.size, 0, none⟩) 0 0) 0 [] := by
  refine ⟨by simp, .inr ⟨w.heap.size, 0, #[], rfl, Nat.le_refl _, ?_, by simp, by simp, by simp, by simp⟩⟩
  exact (MapKept.heap_alloc w _).1
theorem rdInts_of_own {w : World} {B : Nat} {v : Value} {xs : List Int} (h : w.ownsRow B 3 1 v xs.length (xs.map (Value.int .i64))) : RdInts w v xs := by
  rcases h.2 with ⟨e, h0⟩ | ⟨g, cap, cur, e, _, _, h1, h2, _⟩
  · have hx : xs = [] := List.eq_nil_of_length_eq_zero h0
    subst hx
    exact ⟨none, 0, by rw [e]; rfl, by simp, by unfold maxLen; omega, .inl rfl⟩
  · rw [e] at h ⊢
    refine ⟨some ⟨g, 0, none⟩, cap, rfl, h1, h2, .inr ⟨g, 0, rfl, fun i hi => ?_⟩⟩
    rw [Nat.zero_add, h.cellAt i (by omega)]
    simp [hi]

/-- What project leaves. -/
def ProjPost (ys : List Int) (w : World) (e : Ending) (w' : World) : Prop := ∃ v, e = .returned v ∧ RdInts w' v ys ∧ Below w.heap.size w w'
theorem take_step (ys : List Int) (k : Nat) (h : k < ys.length) : ys.take (k + 1) = ys.take k ++ [ys[k]?.getD 0] := by
  rw [List.take_succ_eq_append_getElem h, List.getElem?_eq_getElem h]; rfl

/-- Every value lies in its domain. -/
def insB (ds xs : List Int) : Bool := decide (∀ i, i < xs.length → hasB (ds[i]?.getD 0) (xs[i]?.getD 0) = true)
def satsB (cs : List Con) (xs : List Int) : Bool := cs.all fun c => satB c (projL c xs)
theorem satsB_true {cs : List Con} {xs : List Int} (h : ∀ (j : Nat) (c : Con), j < cs.length → cs[j]? = some c → satB c (projL c xs) = true) : satsB cs xs = true := by
  unfold satsB
  rw [List.all_eq_true]
  intro x hx
  obtain ⟨j, hj, rfl⟩ := List.mem_iff_getElem.1 hx
  exact h j _ hj (List.getElem?_eq_getElem hj)
theorem satsB_false {cs : List Con} {xs : List Int} {j : Nat} {c : Con} (hc : cs[j]? = some c) (h : satB c (projL c xs) = false) : satsB cs xs = false := by
  unfold satsB
  rw [List.all_eq_false]
  exact ⟨c, List.mem_of_getElem? hc, by simp [h]⟩
/-- The values are a solution of the valid model. -/
def solB (m : Mod) (xs : List Int) : Bool := vmB m && decide (xs.length = m.doms.length) && (insB m.doms xs && satsB m.cons xs)

/-- What a valid model and an assignment within 0..5 give for each constraint. -/
theorem fit_of {m : Mod} {xs : List Int} (hm : vmB m = true) (hl : xs.length = m.doms.length) (hs : Small xs 0 5) {c : Con} (hc : c ∈ m.cons) : Small c.vars 0 (xs.length - 1) ∧ Fit c (projL c xs) := by
  unfold vmB at hm
  simp only [Bool.and_eq_true] at hm
  obtain ⟨⟨⟨h1, _⟩, _⟩, h4⟩ := hm
  unfold consB at h4
  rw [List.all_eq_true] at h4
  have hv := h4 c hc
  unfold vcB at hv
  simp only [Bool.and_eq_true] at hv
  obtain ⟨⟨⟨e1, e2⟩, _⟩, e4⟩ := hv
  have w1 := wiB_in h1
  have w2 := wiB_in e1
  have sv : Small c.vars 0 (xs.length - 1) := by rw [hl]; exact small_of e2
  have sp : Small (projL c xs) 0 5 := by
    intro j hj
    rw [projL_length] at hj
    rw [projL_at c xs hj]
    have := sv j hj
    exact hs _ (by omega)
  refine ⟨sv, e4, projL_length c xs, by rw [projL_length]; omega, by rw [projL_length]; omega, sp, ?_⟩
  exact allB_true fun j hj => by have := sp j hj; exact wiB_true this.1 this.2
theorem small_of_ins {ds xs : List Int} (h : insB ds xs = true) : Small xs 0 5 := by
  intro j hj
  have := of_decide_eq_true h j hj
  unfold hasB at this
  have := of_decide_eq_true this
  exact ⟨this.1, this.2.1⟩
theorem doms_small {m : Mod} (hm : vmB m = true) : Small m.doms 0 63 ∧ m.doms.length ≤ 4 ∧ 1 ≤ m.doms.length ∧ m.cons.length ≤ 6 := by
  unfold vmB at hm
  simp only [Bool.and_eq_true] at hm
  obtain ⟨⟨⟨h1, h2⟩, h3⟩, h4⟩ := hm
  have := wiB_in h1
  exact ⟨small_of h2, by omega, by omega, of_decide_eq_true h3⟩

end Go.Proofs.Ytipapmmjfoaddaa

/-! The program's test of a solution, and its list of violated constraints. -/
namespace Go.Proofs.Ytipapmmjfoaddaa
open Go.ChangeShapes Go.WideShapes Go.ChangeAt Go.RowKit
set_option linter.unusedVariables false
set_option linter.unusedSimpArgs false

/-- The violated ones among the first k constraints. -/
def violS (cs : List Con) (xs : List Int) : Nat → List Int
  | 0 => []
  | k + 1 => violS cs xs k ++ (match cs[k]? with | some c => if satB c (projL c xs) then [] else [(k : Int)] | none => [])
theorem violS_le (cs : List Con) (xs : List Int) (k : Nat) : (violS cs xs k).length ≤ k := by
  induction k with
  | zero => simp [violS]
  | succ k ih => simp only [violS, List.length_append]; split <;> (try split) <;> simp <;> omega
theorem violS_yes {cs : List Con} {xs : List Int} {k : Nat} {c : Con} (hc : cs[k]? = some c) (h : satB c (projL c xs) = true) : violS cs xs (k + 1) = violS cs xs k := by
  rw [violS, hc]; simp [h]
theorem violS_no {cs : List Con} {xs : List Int} {k : Nat} {c : Con} (hc : cs[k]? = some c) (h : satB c (projL c xs) = false) : violS cs xs (k + 1) = violS cs xs k ++ [(k : Int)] := by
  rw [violS, hc]; simp [h]
theorem violS_nil (cs : List Con) (xs : List Int) (k : Nat) (hk : k ≤ cs.length) : ((violS cs xs k).length = 0 ↔ ∀ (j : Nat) (c : Con), j < k → cs[j]? = some c → satB c (projL c xs) = true) := by
  induction k with
  | zero => simp [violS]
  | succ k ih =>
    have i := ih (by omega)
    have hc : cs[k]? = some cs[k] := List.getElem?_eq_getElem (by omega)
    cases hs : satB cs[k] (projL cs[k] xs)
    · rw [violS_no hc hs]
      constructor
      · intro h; simp at h
      · intro h; have := h k _ (by omega) hc; rw [hs] at this; cases this
    · rw [violS_yes hc hs, i]
      constructor
      · intro h j c hj hc'
        by_cases e : j = k
        · subst e; rw [hc] at hc'; rw [← Option.some.inj hc']; exact hs
        · exact h j c (by omega) hc'
      · intro h j c hj hc'; exact h j c (by omega) hc'
/-- What Violated returns. -/
def violL (m : Mod) (xs : List Int) : List Int := if vmB m && (decide (xs.length = m.doms.length) && allB xs 0 5) then violS m.cons xs m.cons.length else []

set_option maxRecDepth 100000 in
theorem isAssignment_any (xv : Value) (xs : List Int) (n : Nat) (w : World) (hx : RdInts w xv xs) (hn : n ≤ 9223372036854775807) :
    Calls Try.prog 46 #[xv, .int .i64 n] w fun e w' => e = .returned (.bool (decide (xs.length = n) && allB xs 0 5)) ∧ w = w' := by
  have HX := Lib.hid hx
  obtain ⟨ax, cx, e2, -⟩ := id hx
  rw [e2] at HX ⊢
  have hc := (rdInts_cap HX.out).2
  clear e2 hx
  by_cases hl : xs.length = n
  · have hd : ((xs.length : Int) == (n : Int)) = true := by simp [hl]
    have HL := Lib.hid hl
    clear hl
    go_enter Try.func46, Try.ntmps46
    go_wp2_with fail
    refine (allWithin_any _ xs _ _ _ HX.out).mono ?_
    rintro e w' ⟨rfl, rfl⟩
    go_wp2
    go_ret
    exact ⟨ret_bool (by rw [decide_eq_true HL.out]; simp), rfl⟩
  · have hd : ((xs.length : Int) == (n : Int)) = false := by simp; omega
    have HL := Lib.hid hl
    clear hl
    go_enter Try.func46, Try.ntmps46
    go_wp2
    go_ret
    exact ⟨ret_bool (by rw [decide_eq_false HL.out]; simp), rfl⟩

theorem own_mono {w : World} {B B' : Nat} {e : TypeId} {k : Nat} {v : Value} {n : Nat} {xs : List Value} (h : w.ownsRow B e k v n xs) (hb : B' ≤ B) : w.ownsRow B' e k v n xs :=
  ⟨h.1, h.2.imp id fun ⟨g, cap, cur, e, hg, r⟩ => ⟨g, cap, cur, e, Nat.le_trans hb hg, r⟩⟩
theorem own_below {w w' : World} {B : Nat} {e : TypeId} {k : Nat} {v : Value} {n : Nat} {xs : List Value} (h : w.ownsRow B e k v n xs) (b : Below w.heap.size w w') : w'.ownsRow B e k v n xs := by
  refine World.ownsRow.kept h (show w.grownBy w' none from ⟨b.os, b.tape, b.output, b.size, fun q hq _ => b.block q hq⟩) ?_
  rcases h.2 with ⟨e, _⟩ | ⟨g, cap, cur, e, _⟩
  · exact .inl (by rw [e]; rfl)
  · exact .inr (by rw [e]; simp [Value.ownBlock])
theorem own_slice {w : World} {B : Nat} {e : TypeId} {k : Nat} {v : Value} {n : Nat} {xs : List Value} (h : w.ownsRow B e k v n xs) : ∃ a n' c, v = .slice a n' c := by
  rcases h.2 with ⟨e, _⟩ | ⟨g, cap, cur, e, _⟩
  · exact ⟨_, _, _, e⟩
  · exact ⟨_, _, _, e⟩
/-- A slice of integers of the call's own, which reads ys. -/
def IntsPost (ys : List Int) (w : World) (e : Ending) (w' : World) : Prop := ∃ v, e = .returned v ∧ w'.ownsRow w.heap.size 3 1 v ys.length (ys.map (Value.int .i64)) ∧ Below w.heap.size w w'

end Go.Proofs.Ytipapmmjfoaddaa
