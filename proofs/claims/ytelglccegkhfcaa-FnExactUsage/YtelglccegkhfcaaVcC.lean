/- Both packages' ValidConstraint return one and the same test of the constraint as data. The law of ValidConstraint. -/
import Derived.Test.YtelglccegkhfcaaSVcA
import Derived.Test.YtelglccegkhfcaaSVcB
import Derived.Test.YtelglccegkhfcaaSVcC
import Derived.Test.YtelglccegkhfcaaIVd
import Derived.Test.YtelglccegkhfcaaToE
import Derived.Deep.RegionWith

/-! Both packages' ValidConstraint return one and the same test of the constraint as data. -/
namespace Go.Proofs.Ytelglccegkhfcaa
open Go.ChangeShapes Go.WideShapes Go.ChangeAt Go.RowKit
set_option linter.unusedVariables false
set_option linter.unusedSimpArgs false

/-- The requirements of the kind. -/
def kindB (c : Con) : Bool :=
  if c.kind = 1 then ((c.args.length : Int) == (c.vars.length : Int)) && allB c.args (-9) 9 && wiB c.bound (-999) 999 && ((c.rows.length : Int) == 0)
  else if c.kind = 2 then ((c.vars.length : Int) == 2) && ((c.args.length : Int) == 1) && allB c.args (-9) 9 && (c.bound == 0) && ((c.rows.length : Int) == 0)
  else if c.kind = 3 then ((c.args.length : Int) == 0) && (c.bound == 0) && ((c.rows.length : Int) == 0)
  else if c.kind = 4 then ((c.vars.length : Int) == 2) && wiB (c.args.length : Int) 1 6 && allB c.args 0 5 && (c.bound == 0) && ((c.rows.length : Int) == 0)
  else if c.kind = 5 then ((c.args.length : Int) == 0) && (c.bound == 0) && (rowsB c.rows c.vars.length 0 5 && wiB c.rows.length 1 8)
  else if c.kind = 6 then ((c.args.length : Int) == 1) && allB c.args 0 5 && wiB c.bound 0 4 && ((c.rows.length : Int) == 0)
  else if c.kind = 7 then ((c.args.length : Int) == 2 * (c.vars.length : Int)) && allB c.args 0 9 && wiB c.bound 0 9 && ((c.rows.length : Int) == 0)
  else if c.kind = 8 then (rowsB c.rows 6 (-1) (c.rows.length - 1) && wiB c.rows.length 1 8) && allB c.args 0 (c.rows.length - 1) && dstB c.args && (c.bound == 0)
  else if c.kind = 9 then ((c.args.length : Int) == 0) && (c.bound == 0) && ((c.rows.length : Int) == 0)
  else false
/-- The constraint is valid for n variables. -/
def vcB (c : Con) (n : Int) : Bool := (wiB c.vars.length 1 n && allB c.vars 0 (n - 1) && dstB c.vars) && kindB c

theorem rdCon_open {w : World} {v : Value} {c : Con} (h : RdCon w v c) : ∃ a2 a3 a5 c2 c3 c5, v = .agg #[.int .i64 c.kind, .slice a2 c.vars.length c2, .slice a3 c.args.length c3, .int .i64 c.bound, .slice a5 c.rows.length c5] ∧
    RdInts w (.slice a2 c.vars.length c2) c.vars ∧ RdInts w (.slice a3 c.args.length c3) c.args ∧ RdRows w (.slice a5 c.rows.length c5) c.rows ∧ c.args.length ≤ 9223372036854775807 ∧ c.rows.length ≤ 9223372036854775807 := by
  obtain ⟨u2, u3, u5, rfl, h2, h3, h5⟩ := h
  have g2 := h2; have g3 := h3; have g5 := h5
  obtain ⟨a2, c2, rfl, l2, m2, _⟩ := g2
  obtain ⟨a3, c3, rfl, l3, m3, _⟩ := g3
  obtain ⟨a5, c5, rfl, l5, m5, _⟩ := g5
  unfold maxLen at m3 m5
  exact ⟨a2, a3, a5, c2, c3, c5, rfl, h2, h3, h5, by omega, by omega⟩

theorem boolPost_of {b b' : Bool} {w : World} {P : Program} {f : FuncId} {args : Array Value} (h : Calls P f args w (BoolPost b w)) (e : b = b') : Calls P f args w (BoolPost b' w) := by rw [← e]; exact h

/-! ### Distinct numbers below n are at most n -/
theorem nodup_bound (n : Nat) : ∀ xs : List Int, xs.Nodup → (∀ x ∈ xs, 0 ≤ x ∧ x < n) → xs.length ≤ n := by
  induction n with
  | zero =>
    intro xs _ h
    cases xs with
    | nil => simp
    | cons x r => have := h x (by simp); omega
  | succ n ih =>
    intro xs hd h
    have h1 := ih (xs.filter (fun x => decide (x ≠ (n : Int)))) (hd.sublist List.filter_sublist) (fun x hx => by
      have := List.mem_filter.1 hx
      have h2 := h x this.1
      have h3 : x ≠ (n : Int) := by simpa using this.2
      omega)
    have h2 := List.length_eq_countP_add_countP (fun x : Int => decide (x ≠ (n : Int))) (l := xs)
    have h3 : xs.countP (fun x => decide (x ≠ (n : Int))) = (xs.filter (fun x => decide (x ≠ (n : Int)))).length := List.countP_eq_length_filter
    have h4 : xs.countP (fun a => decide (¬ decide (a ≠ (n : Int)) = true)) ≤ 1 := by
      have e : xs.countP (fun a => decide (¬ decide (a ≠ (n : Int)) = true)) = xs.count (n : Int) := by
        rw [List.count_eq_countP]
        apply List.countP_congr
        intro x _
        simp
      rw [e]
      exact List.nodup_iff_count.1 hd _
    omega

theorem dst_nodup {xs : List Int} (h : dstB xs = true) : xs.Nodup := by
  have h := of_decide_eq_true h
  rw [List.Nodup, List.pairwise_iff_getElem]
  intro i j hi hj hij
  have := h j hj i hij
  simp [hi, hj] at this
  exact fun e => this e.symm

theorem front_eq (vars : List Int) (n : Nat) : (wiB vars.length 1 n && allB vars 0 (n - 1) && dstB vars) = (!((vars.length : Int) == 0) && (allB vars 0 (n - 1) && dstB vars)) := by
  cases h1 : allB vars 0 (n - 1)
  · simp
  · cases h2 : dstB vars
    · simp
    · simp only [Bool.and_true]
      have hle : vars.length ≤ n := nodup_bound n vars (dst_nodup h2) (fun x hx => by
        obtain ⟨j, hj, rfl⟩ := List.mem_iff_getElem.1 hx
        have := allB_at h1 hj
        simp [hj] at this
        omega)
      by_cases hz : vars.length = 0
      · rw [show ((vars.length : Int) == 0) = true from beq_iff_eq.2 (by omega), wiB_false1 (by omega)]; rfl
      · rw [show ((vars.length : Int) == 0) = false from beq_eq_false_iff_ne.2 (by omega), wiB_true (by omega) (by omega)]; rfl

theorem one_eq (args : List Int) (r : Bool) : (((args.length : Int) == 1) && wiB (args[0]?.getD 0) 0 5 && r) = (((args.length : Int) == 1) && allB args 0 5 && r) := by
  match args with
  | [] => simp
  | [x] => simp [allB]
  | x :: y :: r => 
    have : (((x :: y :: r).length : Int) == 1) = false := by simp; omega
    rw [this]; simp

theorem ivc_any (c : Con) (v : Value) (n : Int) (w : World) (h : RdCon w v c) (hk : c.vars.length ≤ 2305843009213693952) :
    Calls Try.prog 123 #[v, .int .i64 n] w (BoolPost (wiB n 1 4 && vcB c n) w) := by
  obtain ⟨a2, a3, a5, c2, c3, c5, rfl, h2, h3, h5, ha, hr⟩ := rdCon_open h
  obtain ⟨kind, vars, args, bound, rows⟩ := c
  dsimp only at *
  cases hn : wiB n 1 4
  · exact boolPost_of (ivc_n kind n a2 a3 a5 _ c2 _ c3 _ c5 vars args bound rows w hk ha hr h2 h3 h5 hn) rfl
  · have hb := wiB_in hn
    obtain ⟨m, rfl⟩ := Int.eq_ofNat_of_zero_le (show 0 ≤ n from by omega)
    have fe := front_eq vars m
    cases hz : ((vars.length : Int) == 0)
    · rw [hz] at fe
      cases hf : (allB vars 0 (m - 1) && dstB vars)
      · rw [hf] at fe
        exact boolPost_of (ivc_d kind m a2 a3 a5 _ c2 _ c3 _ c5 vars args bound rows w hk ha hr h2 h3 h5 hn hz hf (by omega)) (by unfold vcB; rw [fe]; rfl)
      · rw [hf] at fe
        have fin : vcB ⟨kind, vars, args, bound, rows⟩ m = kindB ⟨kind, vars, args, bound, rows⟩ := by unfold vcB; rw [fe]; rfl
        rw [fin]
        by_cases e1 : kind = 1
        · subst e1; exact boolPost_of (ivc_1 m a2 a3 a5 _ c2 _ c3 _ c5 vars args bound rows w hk ha hr h2 h3 h5 hn hz hf (by omega)) (by simp [kindB])
        by_cases e2 : kind = 2
        · subst e2; exact boolPost_of (ivc_2 m a2 a3 a5 _ c2 _ c3 _ c5 vars args bound rows w hk ha hr h2 h3 h5 hn hz hf (by omega)) (by simp [kindB])
        by_cases e3 : kind = 3
        · subst e3; exact boolPost_of (ivc_3 m a2 a3 a5 _ c2 _ c3 _ c5 vars args bound rows w hk ha hr h2 h3 h5 hn hz hf (by omega)) (by simp [kindB])
        by_cases e4 : kind = 4
        · subst e4; exact boolPost_of (ivc_4 m a2 a3 a5 _ c2 _ c3 _ c5 vars args bound rows w hk ha hr h2 h3 h5 hn hz hf (by omega)) (by simp [kindB])
        by_cases e5 : kind = 5
        · subst e5; exact boolPost_of (ivc_5 m a2 a3 a5 _ c2 _ c3 _ c5 vars args bound rows w hk ha hr h2 h3 h5 hn hz hf (by omega)) (by simp [kindB])
        by_cases e6 : kind = 6
        · subst e6
          refine boolPost_of (ivc_6 m a2 a3 a5 _ c2 _ c3 _ c5 vars args bound rows w hk ha hr h2 h3 h5 hn hz hf (by omega)) ?_
          have := one_eq args (wiB bound 0 4 && ((rows.length : Int) == 0))
          simp only [kindB]
          simp only [← Bool.and_assoc] at this
          rw [this]
          simp
        by_cases e7 : kind = 7
        · subst e7; exact boolPost_of (ivc_7 m a2 a3 a5 _ c2 _ c3 _ c5 vars args bound rows w hk ha hr h2 h3 h5 hn hz hf (by omega)) (by simp [kindB])
        by_cases e8 : kind = 8
        · subst e8; exact boolPost_of (ivc_8 m a2 a3 a5 _ c2 _ c3 _ c5 vars args bound rows w hk ha hr h2 h3 h5 hn hz hf (by omega)) (by simp [kindB, Bool.and_assoc])
        by_cases e9 : kind = 9
        · subst e9; exact boolPost_of (ivc_9 m a2 a3 a5 _ c2 _ c3 _ c5 vars args bound rows w hk ha hr h2 h3 h5 hn hz hf (by omega)) (by simp [kindB])
        exact boolPost_of (ivc_0 kind m a2 a3 a5 _ c2 _ c3 _ c5 vars args bound rows w hk ha hr h2 h3 h5 hn hz hf (by omega) (by simp [e1]) (by simp [e2]) (by simp [e3]) (by simp [e4]) (by simp [e5]) (by simp [e6]) (by simp [e7]) (by simp [e8]) (by simp [e9])) (by simp [kindB, e1, e2, e3, e4, e5, e6, e7, e8, e9])
    · rw [hz] at fe
      exact boolPost_of (ivc_k kind m a2 a3 a5 _ c2 _ c3 _ c5 vars args bound rows w hk ha hr h2 h3 h5 hn hz) (by unfold vcB; rw [fe]; rfl)
end Go.Proofs.Ytelglccegkhfcaa

/-! The law of ValidConstraint. -/
namespace Go.Proofs.Ytelglccegkhfcaa
open Go.ChangeShapes Go.WideShapes Go.ChangeAt Go.RowKit
set_option linter.unusedVariables false
set_option linter.unusedSimpArgs false

theorem RdCon.drew {w : World} {v : Value} {c : Con} (h : RdCon w v c) : RdCon w.drew v c := h
theorem Blk5.drew {w : World} {b : Nat} {t : TypeId} {u0 u1 u2 u3 u4 : Value} (h : Blk5 w b t u0 u1 u2 u3 u4) : Blk5 w.drew b t u0 u1 u2 u3 u4 := h

end Go.Proofs.Ytelglccegkhfcaa
