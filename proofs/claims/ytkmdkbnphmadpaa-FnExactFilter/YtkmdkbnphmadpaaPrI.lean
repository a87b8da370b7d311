/- The program's propagator of a constraint. -/
import Derived.Test.YtkmdkbnphmadpaaFilS
namespace Go.Proofs.Ytkmdkbnphmadpaa
open Go.ChangeShapes Go.WideShapes Go.ChangeAt Go.RowKit
set_option linter.unusedVariables false
set_option linter.unusedSimpArgs false

/-- The rules' tests. -/
def isTest (F : Nat) : Prop := F = 140 ∨ F = 141 ∨ F = 142 ∨ F = 143 ∨ F = 144 ∨ F = 145 ∨ F = 146 ∨ F = 147 ∨ F = 148
/-- The rule that the program picks answers as the one test does, at every tuple. -/
theorem pick_all (c : Con) (hk : kindB c = true) : ∃ F : Nat, isTest F ∧
    (∀ (cv : Value) (w : World), RdCon w cv c → Calls Try.prog 121 #[cv] w (fun e w' => e = .returned (.func (.func F) #[cv] #[]) ∧ Below w.heap.size w w')) ∧
    ∀ (cv xv : Value) (x : List Int) (w : World), Fit c x → RdCon w cv c → RdInts w xv x → Calls Try.prog F #[cv, xv] w (BoolPost (satB c x) w) := by
  unfold satB isTest
  rcases kind_cases hk with ⟨k, e1, e2⟩ | ⟨k, e1, e2, e3⟩ | k | ⟨k, e1, e2⟩ | ⟨k, e1⟩ | ⟨k, e1⟩ | ⟨k, e1, e2, e3⟩ | ⟨k, e1, e2⟩ | k
  · exact ⟨_, .inl rfl, fun cv w h => test1 c cv w h k, fun cv xv x w' f h' hx => by rw [if_pos k]; exact isat1 c cv xv x w' h' hx (by have := f.len; omega) f.four e2 f.small⟩
  · exact ⟨_, .inr (.inl rfl), fun cv w h => test2 c cv w h k, fun cv xv x w' f h' hx => by rw [if_neg (by omega), if_pos k]; exact isat2 c cv xv x w' h' hx e2 (by have := f.len; omega) e3 f.small⟩
  · exact ⟨_, .inr (.inr (.inl rfl)), fun cv w h => test3 c cv w h k, fun cv xv x w' f h' hx => by rw [if_neg (by omega), if_neg (by omega), if_pos k]; exact isat3 c cv xv x w' h' hx f.all⟩
  · exact ⟨_, .inr (.inr (.inr (.inl rfl))), fun cv w h => test4 c cv w h k, fun cv xv x w' f h' hx => by rw [if_neg (by omega), if_neg (by omega), if_neg (by omega), if_pos k]; exact isat4 c cv xv x w' h' hx e2 (by have := f.len; omega) f.small⟩
  · exact ⟨_, .inr (.inr (.inr (.inr (.inl rfl)))), fun cv w h => test5 c cv w h k, fun cv xv x w' f h' hx => by rw [if_neg (by omega), if_neg (by omega), if_neg (by omega), if_neg (by omega), if_pos k]; exact isat5 c cv xv x w' h' hx⟩
  · exact ⟨_, .inr (.inr (.inr (.inr (.inr (.inl rfl))))), fun cv w h => test6 c cv w h k, fun cv xv x w' f h' hx => by rw [if_neg (by omega), if_neg (by omega), if_neg (by omega), if_neg (by omega), if_neg (by omega), if_pos k]; exact isat6 c cv xv x w' h' hx e1 f.four⟩
  · exact ⟨_, .inr (.inr (.inr (.inr (.inr (.inr (.inl rfl)))))), fun cv w h => test7 c cv w h k, fun cv xv x w' f h' hx => by rw [if_neg (by omega), if_neg (by omega), if_neg (by omega), if_neg (by omega), if_neg (by omega), if_neg (by omega), if_pos k, cap_eq (by have := f.len; omega) (by have := f.len; omega) f.small e3]; exact isat7 c cv xv x w' h' hx (by have := f.len; omega) f.four e2 f.small f.one⟩
  · exact ⟨_, .inr (.inr (.inr (.inr (.inr (.inr (.inr (.inl rfl))))))), fun cv w h => test8 c cv w h k, fun cv xv x w' f h' hx => by rw [if_neg (by omega), if_neg (by omega), if_neg (by omega), if_neg (by omega), if_neg (by omega), if_neg (by omega), if_neg (by omega), if_pos k]; exact isat8 c cv xv x w' h' hx e1 f.four e2 f.small⟩
  · exact ⟨_, .inr (.inr (.inr (.inr (.inr (.inr (.inr (.inr rfl))))))), fun cv w h => test9 c cv w h k, fun cv xv x w' f h' hx => by rw [if_neg (by omega), if_neg (by omega), if_neg (by omega), if_neg (by omega), if_neg (by omega), if_neg (by omega), if_neg (by omega), if_neg (by omega), circ_eq x f.one f.four f.small]; exact isat9 c cv xv x w' h' hx f.one f.four f.small⟩

set_option maxRecDepth 100000 in
set_option maxHeartbeats 2000000 in
theorem icopyInts_any (v : Value) (xs : List Int) (w : World) (h : RdInts w v xs) (h0 : 1 ≤ xs.length) (hx : xs.length ≤ 1048576) :
    Calls Try.prog 83 #[v] w (IntsPost xs w) := by
  obtain ⟨a, cap, rfl, hl, hm, hx3⟩ := h
  obtain ⟨b, off, rfl, hcell⟩ : ∃ b off, a = some ⟨b, off, none⟩ ∧ ∀ i, i < xs.length → w.cell? ⟨b, off + i, none⟩ = some (.int .i64 (xs[i]?.getD 0)) := by
    rcases hx3 with h | h
    · omega
    · exact h
  have HC := Lib.hid hcell
  obtain ⟨n, hn⟩ : ∃ n, n = xs.length := ⟨_, rfl⟩
  have HN := Lib.hid hn
  rw [← hn] at hl h0 hx ⊢
  unfold maxLen at hm
  clear hcell hx3 hn
  obtain ⟨i0, hi, hz0, hz1, hz2⟩ := info_parts Try.info3
  have hmade := World.ownsRow_nil w w.heap.size 3 1
  go_enter Try.func83, Try.ntmps83
  go_wp2_with (at_builtin; refine wpList_append_own _ rfl _ _ 22 rfl w.heap.size 3 i0 (.int .i64 0) 1 8 Try.underlying22 hi hz0 hz1 hz2 rfl (by decide) _ 0 [] rfl hmade ⟨b, off, none⟩ n cap (xs.map (Value.int .i64)) rfl (by rw [List.length_map, HN.out]; omega) (fun j u hu => ?_) (fun u hu => ?_) (by unfold maxLen; omega) (by omega) (Nat.le_refl _) ?_)
  · have hj : j < xs.length := by have := (List.getElem?_eq_some_iff.1 hu).1; simpa using this
    rw [addr_add, HC.out j hj]
    rw [List.getElem?_map, List.getElem?_eq_getElem hj] at hu
    rw [List.getElem?_eq_getElem hj]
    simpa using hu
  · obtain ⟨x, _, rfl⟩ := List.mem_map.1 hu
    rfl
  · intro v' w' hown hgrow _
    have hb : Below w.heap.size w w' := (Below.refl _ w).grown hgrow (Nat.le_refl _) (fun q e => by simp [Value.ownBlock] at e)
    have HO := Lib.hid (show w'.ownsRow w.heap.size 3 1 v' xs.length (xs.map (Value.int .i64)) by rw [← HN.out]; simpa using hown)
    have HB := Lib.hid hb
    clear hown hgrow hb
    go_wp2
    go_ret
    exact ⟨_, rfl, HO.out, HB.out⟩
end Go.Proofs.Ytkmdkbnphmadpaa
