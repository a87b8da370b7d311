/- The program's choice of a rule. -/
import Derived.Test.YtkmdkbnphmadpaaSatK
import Derived.Laws.EntriesVeiled
namespace Go.Proofs.Ytkmdkbnphmadpaa
open Go.ChangeShapes Go.WideShapes Go.ChangeAt Go.RowKit
set_option linter.unusedVariables false
set_option linter.unusedSimpArgs false

set_option maxRecDepth 100000 in
set_option maxHeartbeats 2000000 in
theorem test1 (c : Con) (cv : Value) (w : World) (h : RdCon w cv c) (hk : c.kind = 1) :
    Calls Try.prog 121 #[cv] w (fun e w' => e = .returned (.func (.func 140) #[cv] #[]) ∧ Below w.heap.size w w') := by
  obtain ⟨a2, a3, a5, c2, c3, c5, rfl, -⟩ := rdCon_slices h
  rw [hk]
  obtain ⟨n2, n3, n5, bd, e2, e3, e5, e6⟩ : ∃ n2 n3 n5 bd, n2 = c.vars.length ∧ n3 = c.args.length ∧ n5 = c.rows.length ∧ bd = c.bound := ⟨_, _, _, _, rfl, rfl, rfl, rfl⟩
  rw [← e2, ← e3, ← e5, ← e6]
  clear h hk e2 e3 e5 e6
  go_enter Try.func121, Try.ntmps121
  go_wp2
  go_ret
  exact ⟨rfl, ((Below.refl w.heap.size w).alloc (Nat.le_refl _) _).alloc (Nat.le_of_lt (by rw [World.size_alloc]; exact Nat.lt_succ_self _)) _⟩

set_option maxRecDepth 100000 in
set_option maxHeartbeats 2000000 in
theorem test2 (c : Con) (cv : Value) (w : World) (h : RdCon w cv c) (hk : c.kind = 2) :
    Calls Try.prog 121 #[cv] w (fun e w' => e = .returned (.func (.func 141) #[cv] #[]) ∧ Below w.heap.size w w') := by
  obtain ⟨a2, a3, a5, c2, c3, c5, rfl, -⟩ := rdCon_slices h
  rw [hk]
  obtain ⟨n2, n3, n5, bd, e2, e3, e5, e6⟩ : ∃ n2 n3 n5 bd, n2 = c.vars.length ∧ n3 = c.args.length ∧ n5 = c.rows.length ∧ bd = c.bound := ⟨_, _, _, _, rfl, rfl, rfl, rfl⟩
  rw [← e2, ← e3, ← e5, ← e6]
  clear h hk e2 e3 e5 e6
  go_enter Try.func121, Try.ntmps121
  go_wp2
  go_ret
  exact ⟨rfl, ((Below.refl w.heap.size w).alloc (Nat.le_refl _) _).alloc (Nat.le_of_lt (by rw [World.size_alloc]; exact Nat.lt_succ_self _)) _⟩

set_option maxRecDepth 100000 in
set_option maxHeartbeats 2000000 in
theorem test3 (c : Con) (cv : Value) (w : World) (h : RdCon w cv c) (hk : c.kind = 3) :
    Calls Try.prog 121 #[cv] w (fun e w' => e = .returned (.func (.func 142) #[cv] #[]) ∧ Below w.heap.size w w') := by
  obtain ⟨a2, a3, a5, c2, c3, c5, rfl, -⟩ := rdCon_slices h
  rw [hk]
  obtain ⟨n2, n3, n5, bd, e2, e3, e5, e6⟩ : ∃ n2 n3 n5 bd, n2 = c.vars.length ∧ n3 = c.args.length ∧ n5 = c.rows.length ∧ bd = c.bound := ⟨_, _, _, _, rfl, rfl, rfl, rfl⟩
  rw [← e2, ← e3, ← e5, ← e6]
  clear h hk e2 e3 e5 e6
  go_enter Try.func121, Try.ntmps121
  go_wp2
  go_ret
  exact ⟨rfl, ((Below.refl w.heap.size w).alloc (Nat.le_refl _) _).alloc (Nat.le_of_lt (by rw [World.size_alloc]; exact Nat.lt_succ_self _)) _⟩

set_option maxRecDepth 100000 in
set_option maxHeartbeats 2000000 in
theorem test4 (c : Con) (cv : Value) (w : World) (h : RdCon w cv c) (hk : c.kind = 4) :
    Calls Try.prog 121 #[cv] w (fun e w' => e = .returned (.func (.func 143) #[cv] #[]) ∧ Below w.heap.size w w') := by
  obtain ⟨a2, a3, a5, c2, c3, c5, rfl, -⟩ := rdCon_slices h
  rw [hk]
  obtain ⟨n2, n3, n5, bd, e2, e3, e5, e6⟩ : ∃ n2 n3 n5 bd, n2 = c.vars.length ∧ n3 = c.args.length ∧ n5 = c.rows.length ∧ bd = c.bound := ⟨_, _, _, _, rfl, rfl, rfl, rfl⟩
  rw [← e2, ← e3, ← e5, ← e6]
  clear h hk e2 e3 e5 e6
  go_enter Try.func121, Try.ntmps121
  go_wp2
  go_ret
  exact ⟨rfl, ((Below.refl w.heap.size w).alloc (Nat.le_refl _) _).alloc (Nat.le_of_lt (by rw [World.size_alloc]; exact Nat.lt_succ_self _)) _⟩

set_option maxRecDepth 100000 in
set_option maxHeartbeats 2000000 in
theorem test5 (c : Con) (cv : Value) (w : World) (h : RdCon w cv c) (hk : c.kind = 5) :
    Calls Try.prog 121 #[cv] w (fun e w' => e = .returned (.func (.func 144) #[cv] #[]) ∧ Below w.heap.size w w') := by
  obtain ⟨a2, a3, a5, c2, c3, c5, rfl, -⟩ := rdCon_slices h
  rw [hk]
  obtain ⟨n2, n3, n5, bd, e2, e3, e5, e6⟩ : ∃ n2 n3 n5 bd, n2 = c.vars.length ∧ n3 = c.args.length ∧ n5 = c.rows.length ∧ bd = c.bound := ⟨_, _, _, _, rfl, rfl, rfl, rfl⟩
  rw [← e2, ← e3, ← e5, ← e6]
  clear h hk e2 e3 e5 e6
  go_enter Try.func121, Try.ntmps121
  go_wp2
  go_ret
  exact ⟨rfl, ((Below.refl w.heap.size w).alloc (Nat.le_refl _) _).alloc (Nat.le_of_lt (by rw [World.size_alloc]; exact Nat.lt_succ_self _)) _⟩

set_option maxRecDepth 100000 in
set_option maxHeartbeats 2000000 in
theorem test6 (c : Con) (cv : Value) (w : World) (h : RdCon w cv c) (hk : c.kind = 6) :
    Calls Try.prog 121 #[cv] w (fun e w' => e = .returned (.func (.func 145) #[cv] #[]) ∧ Below w.heap.size w w') := by
  obtain ⟨a2, a3, a5, c2, c3, c5, rfl, -⟩ := rdCon_slices h
  rw [hk]
  obtain ⟨n2, n3, n5, bd, e2, e3, e5, e6⟩ : ∃ n2 n3 n5 bd, n2 = c.vars.length ∧ n3 = c.args.length ∧ n5 = c.rows.length ∧ bd = c.bound := ⟨_, _, _, _, rfl, rfl, rfl, rfl⟩
  rw [← e2, ← e3, ← e5, ← e6]
  clear h hk e2 e3 e5 e6
  go_enter Try.func121, Try.ntmps121
  go_wp2
  go_ret
  exact ⟨rfl, ((Below.refl w.heap.size w).alloc (Nat.le_refl _) _).alloc (Nat.le_of_lt (by rw [World.size_alloc]; exact Nat.lt_succ_self _)) _⟩

set_option maxRecDepth 100000 in
set_option maxHeartbeats 2000000 in
theorem test7 (c : Con) (cv : Value) (w : World) (h : RdCon w cv c) (hk : c.kind = 7) :
    Calls Try.prog 121 #[cv] w (fun e w' => e = .returned (.func (.func 146) #[cv] #[]) ∧ Below w.heap.size w w') := by
  obtain ⟨a2, a3, a5, c2, c3, c5, rfl, -⟩ := rdCon_slices h
  rw [hk]
  obtain ⟨n2, n3, n5, bd, e2, e3, e5, e6⟩ : ∃ n2 n3 n5 bd, n2 = c.vars.length ∧ n3 = c.args.length ∧ n5 = c.rows.length ∧ bd = c.bound := ⟨_, _, _, _, rfl, rfl, rfl, rfl⟩
  rw [← e2, ← e3, ← e5, ← e6]
  clear h hk e2 e3 e5 e6
  go_enter Try.func121, Try.ntmps121
  go_wp2
  go_ret
  exact ⟨rfl, ((Below.refl w.heap.size w).alloc (Nat.le_refl _) _).alloc (Nat.le_of_lt (by rw [World.size_alloc]; exact Nat.lt_succ_self _)) _⟩

set_option maxRecDepth 100000 in
set_option maxHeartbeats 2000000 in
theorem test8 (c : Con) (cv : Value) (w : World) (h : RdCon w cv c) (hk : c.kind = 8) :
    Calls Try.prog 121 #[cv] w (fun e w' => e = .returned (.func (.func 147) #[cv] #[]) ∧ Below w.heap.size w w') := by
  obtain ⟨a2, a3, a5, c2, c3, c5, rfl, -⟩ := rdCon_slices h
  rw [hk]
  obtain ⟨n2, n3, n5, bd, e2, e3, e5, e6⟩ : ∃ n2 n3 n5 bd, n2 = c.vars.length ∧ n3 = c.args.length ∧ n5 = c.rows.length ∧ bd = c.bound := ⟨_, _, _, _, rfl, rfl, rfl, rfl⟩
  rw [← e2, ← e3, ← e5, ← e6]
  clear h hk e2 e3 e5 e6
  go_enter Try.func121, Try.ntmps121
  go_wp2
  go_ret
  exact ⟨rfl, ((Below.refl w.heap.size w).alloc (Nat.le_refl _) _).alloc (Nat.le_of_lt (by rw [World.size_alloc]; exact Nat.lt_succ_self _)) _⟩

set_option maxRecDepth 100000 in
set_option maxHeartbeats 2000000 in
theorem test9 (c : Con) (cv : Value) (w : World) (h : RdCon w cv c) (hk : c.kind = 9) :
    Calls Try.prog 121 #[cv] w (fun e w' => e = .returned (.func (.func 148) #[cv] #[]) ∧ Below w.heap.size w w') := by
  obtain ⟨a2, a3, a5, c2, c3, c5, rfl, -⟩ := rdCon_slices h
  rw [hk]
  obtain ⟨n2, n3, n5, bd, e2, e3, e5, e6⟩ : ∃ n2 n3 n5 bd, n2 = c.vars.length ∧ n3 = c.args.length ∧ n5 = c.rows.length ∧ bd = c.bound := ⟨_, _, _, _, rfl, rfl, rfl, rfl⟩
  rw [← e2, ← e3, ← e5, ← e6]
  clear h hk e2 e3 e5 e6
  go_enter Try.func121, Try.ntmps121
  go_wp2
  go_ret
  exact ⟨rfl, ((Below.refl w.heap.size w).alloc (Nat.le_refl _) _).alloc (Nat.le_of_lt (by rw [World.size_alloc]; exact Nat.lt_succ_self _)) _⟩

end Go.Proofs.Ytkmdkbnphmadpaa
