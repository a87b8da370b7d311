/- The laws' own copies of literals and clauses, and their tests of equality. -/
import Derived.Test.YtipapmmjfoaddaaGreatLit
import Derived.Deep.RegionHeld3
namespace Go.Proofs.YtipapmmjfoaddaaGreat
open Go.ChangeShapes Go.WideShapes Go.ChangeAt Go.RowKit Go.Deep
set_option linter.unusedVariables false
set_option linter.unusedSimpArgs false

/-- A block of three cells. -/
def Blk3 (w : World) (b : Nat) (t : TypeId) (u0 u1 u2 : Value) : Prop := w.heap[b]? = some (.cells #[u0, u1, u2] t (0, 0))
section
variable {w w' : World} {b : Nat} {t : TypeId} {u0 u1 u2 : Value}
theorem Blk3.cell (h : Blk3 w b t u0 u1 u2) : w.cell? ⟨b, 0, none⟩ = some u0 ∧ w.cell? ⟨b, 1, none⟩ = some u1 ∧ w.cell? ⟨b, 2, none⟩ = some u2 := by
  simp [World.cell?, show w.heap[b]? = _ from h]
theorem Blk3.frozen (h : Blk3 w b t u0 u1 u2) : w.frozen? ⟨b, 0, none⟩ = false ∧ w.frozen? ⟨b, 1, none⟩ = false ∧ w.frozen? ⟨b, 2, none⟩ = false := by
  simp [World.frozen?, show w.heap[b]? = _ from h]
theorem Blk3.lt (h : Blk3 w b t u0 u1 u2) : b < w.heap.size := (Array.getElem?_eq_some_iff.1 h).1
theorem Blk3.below (h : Blk3 w b t u0 u1 u2) (hb : Below w.heap.size w w') : Blk3 w' b t u0 u1 u2 := (hb.block b h.lt).trans h
theorem Blk3.new (w : World) (t : TypeId) (u0 u1 u2 : Value) : Blk3 (w.alloc (.cells #[u0, u1, u2] t)) w.heap.size t u0 u1 u2 := World.alloc_heap_new w _
theorem Blk3.alloc (h : Blk3 w b t u0 u1 u2) (o : Obj) : Blk3 (w.alloc o) b t u0 u1 u2 := (Below.heap_alloc w o b h.lt).trans h
end

/-- A literal as a value. -/
def Lit.v (l : Lit) : Value := .agg #[.int .i64 l.var, .int .i64 l.val, .bool l.neg]

theorem below3 (w : World) (o1 o2 o3 : Obj) : Below w.heap.size w (((w.alloc o1).alloc o2).alloc o3) := (((Below.refl _ _).alloc (Nat.le_refl _) _).alloc (by simp) _).alloc (by simp; omega) _
theorem below2 (w : World) (o1 o2 : Obj) : Below w.heap.size w ((w.alloc o1).alloc o2) := ((Below.refl _ _).alloc (Nat.le_refl _) _).alloc (by simp) _
set_option maxRecDepth 100000 in
set_option maxHeartbeats 2000000 in
theorem toLiteral_any (a b : Int) (c : Bool) (w : World) :
    Calls Tryz.prog 69 #[.agg #[.int .i64 a, .int .i64 b, .bool c]] w fun e w' => e = .returned (.agg #[.int .i64 a, .int .i64 b, .bool c]) ∧ Below w.heap.size w w' := by
  go_enter Tryz.func69, Tryz.ntmps69
  go_wp2
  first
    | (go_ret; exact ⟨rfl, below3 _ _ _ _⟩)
    | refine bodyPost_ret (v := .agg #[.int .i64 a, .int .i64 b, .bool c]) (by simp [results, Tryz.results69, go_sem]) rfl ⟨rfl, below3 _ _ _ _⟩

set_option maxRecDepth 100000 in
set_option maxHeartbeats 2000000 in
theorem eqLiteral_any (l k : Lit) (w : World) :
    Calls Tryz.prog 73 #[.agg #[.int .i64 l.var, .int .i64 l.val, .bool l.neg], .agg #[.int .i64 k.var, .int .i64 k.val, .bool k.neg]] w fun e w' => e = .returned (.bool (decide (l = k))) ∧ Below w.heap.size w w' := by
  obtain ⟨a, b, c⟩ := l
  obtain ⟨x, y, z⟩ := k
  show Calls Tryz.prog 73 #[.agg #[.int .i64 a, .int .i64 b, .bool c], .agg #[.int .i64 x, .int .i64 y, .bool z]] w _
  by_cases h1 : a = x
  · by_cases h2 : b = y
    · by_cases h3 : c = z
      · subst h1 h2 h3
        rw [decide_eq_true rfl]
        have q1 : (a != a) = false := by simp
        have q2 : (b != b) = false := by simp
        have q3 : (c != c) = false := by simp
        go_enter Tryz.func73, Tryz.ntmps73
        go_wp2
        go_ret
        exact ⟨rfl, below2 _ _ _⟩
      · rw [decide_eq_false (fun e => h3 (by injection e))]
        subst h1 h2
        have q1 : (a != a) = false := by simp
        have q2 : (b != b) = false := by simp
        cases c <;> cases z <;> simp at h3
        all_goals go_enter Tryz.func73, Tryz.ntmps73
        all_goals go_wp2
        all_goals go_ret
        all_goals exact ⟨rfl, below2 _ _ _⟩
    · rw [decide_eq_false (fun e => h2 (by injection e))]
      subst h1
      have q1 : (a != a) = false := by simp
      have q2 : (b != y) = true := by simp [h2]
      go_enter Tryz.func73, Tryz.ntmps73
      go_wp2
      go_ret
      exact ⟨rfl, below2 _ _ _⟩
  · rw [decide_eq_false (fun e => h1 (by injection e))]
    have q1 : (a != x) = true := by simp [h1]
    go_enter Tryz.func73, Tryz.ntmps73
    go_wp2
    go_ret
    exact ⟨rfl, below2 _ _ _⟩

/-- The order of literals. -/
def litLt (l k : Lit) : Bool := if l.var = k.var then (if l.val = k.val then !l.neg && k.neg else decide (l.val < k.val)) else decide (l.var < k.var)
set_option maxRecDepth 100000 in
set_option maxHeartbeats 2000000 in
theorem literalLess_any (l k : Lit) (w : World) :
    Calls Tryz.prog 125 #[.agg #[.int .i64 l.var, .int .i64 l.val, .bool l.neg], .agg #[.int .i64 k.var, .int .i64 k.val, .bool k.neg]] w fun e w' => e = .returned (.bool (litLt l k)) ∧ Below w.heap.size w w' := by
  obtain ⟨a, b, c⟩ := l
  obtain ⟨x, y, z⟩ := k
  show Calls Tryz.prog 125 #[.agg #[.int .i64 a, .int .i64 b, .bool c], .agg #[.int .i64 x, .int .i64 y, .bool z]] w _
  by_cases h1 : a = x
  · by_cases h2 : b = y
    · have e : litLt ⟨a, b, c⟩ ⟨x, y, z⟩ = (!c && z) := by simp [litLt, h1, h2]
      rw [e]
      subst h1 h2
      have q1 : (a != a) = false := by simp
      have q2 : (b != b) = false := by simp
      clear e
      cases c
      all_goals go_enter Tryz.func125, Tryz.ntmps125
      all_goals go_wp2
      all_goals go_ret
      all_goals exact ⟨rfl, below2 _ _ _⟩
    · have e : litLt ⟨a, b, c⟩ ⟨x, y, z⟩ = decide (b < y) := by simp [litLt, h1, h2]
      rw [e]
      subst h1
      have q1 : (a != a) = false := by simp
      have q2 : (b != y) = true := by simp [h2]
      clear e
      go_enter Tryz.func125, Tryz.ntmps125
      go_wp2
      go_ret
      exact ⟨rfl, below2 _ _ _⟩
  · have e : litLt ⟨a, b, c⟩ ⟨x, y, z⟩ = decide (a < x) := by simp [litLt, h1]
    rw [e]
    have q1 : (a != x) = true := by simp [h1]
    clear e
    go_enter Tryz.func125, Tryz.ntmps125
    go_wp2
    go_ret
    exact ⟨rfl, below2 _ _ _⟩
def cmpB (a b : Bool) : Int := if a = b then 0 else if b then -1 else 1
set_option maxRecDepth 100000 in
theorem compareBools_any (a b : Bool) (w : World) : Calls Tryz.prog 160 #[.bool a, .bool b] w fun e w' => e = .returned (.int .i64 (cmpB a b)) ∧ w = w' := by
  cases a <;> cases b
  all_goals go_enter Tryz.func160, Tryz.ntmps160
  all_goals go_wp2
  all_goals go_ret
  all_goals exact ⟨rfl, rfl⟩

/-- A literal for n variables. -/
def litOk (l : Lit) (n : Int) : Bool := wiB l.var 0 (n - 1) && wiB l.val 0 5
theorem below1 (w : World) (o1 : Obj) : Below w.heap.size w (w.alloc o1) := (Below.refl _ _).alloc (Nat.le_refl _) _
set_option maxRecDepth 100000 in
theorem isLiteral_any (l : Lit) (n : Int) (w : World) (h1 : 1 ≤ n) (h2 : n ≤ 4) :
    Calls Tryz.prog 128 #[.agg #[.int .i64 l.var, .int .i64 l.val, .bool l.neg], .int .i64 n] w fun e w' => e = .returned (.bool (litOk l n)) ∧ Below w.heap.size w w' := by
  unfold litOk
  cases h3 : wiB l.var 0 (n - 1)
  all_goals go_enter Tryz.func128, Tryz.ntmps128
  all_goals go_wp2_with fail
  all_goals refine (within_any _ _ _ _).mono ?_
  all_goals rintro e w' ⟨rfl, rfl⟩
  all_goals rw [h3]
  · go_wp2
    go_ret
    exact ⟨rfl, below1 _ _⟩
  · go_wp2_with fail
    refine (isValue_any _ _).mono ?_
    rintro e w' ⟨rfl, rfl⟩
    go_wp2
    go_ret
    exact ⟨rfl, below1 _ _⟩
def cmpI (a b : Int) : Int := if a < b then -1 else if a > b then 1 else 0
set_option maxRecDepth 100000 in
theorem cmpInt_any (a b : Int) (w : World) : Calls Tryz.prog 159 #[.int .i64 a, .int .i64 b] w fun e w' => e = .returned (.int .i64 (cmpI a b)) ∧ w = w' := by
  by_cases h1 : a < b
  · rw [show cmpI a b = -1 from if_pos h1]
    go_enter Tryz.func159, Tryz.ntmps159
    go_wp2_with (go_at_call 182; go_in)
    go_ret
    exact ⟨rfl, rfl⟩
  · by_cases h2 : a > b
    · rw [show cmpI a b = 1 by unfold cmpI; rw [if_neg h1, if_pos h2]]
      go_enter Tryz.func159, Tryz.ntmps159
      go_wp2_with (go_at_call 182; go_in)
      go_ret
      exact ⟨rfl, rfl⟩
    · rw [show cmpI a b = 0 by unfold cmpI; rw [if_neg h1, if_neg h2]]
      go_enter Tryz.func159, Tryz.ntmps159
      go_wp2_with (go_at_call 182; go_in)
      go_ret
      exact ⟨rfl, rfl⟩
/-- The first that is not 0. -/
def orI (x y z : Int) : Int := if x ≠ 0 then x else if y ≠ 0 then y else z
set_option maxRecDepth 100000 in
theorem cmpOr_any (g : Nat) (x y z : Int) (w : World) (h0 : w.cell? ⟨g, 0, none⟩ = some (.int .i64 x)) (h1 : w.cell? ⟨g, 1, none⟩ = some (.int .i64 y)) (h2 : w.cell? ⟨g, 2, none⟩ = some (.int .i64 z)) :
    Calls Tryz.prog 158 #[.slice (some ⟨g, 0, none⟩) 3 3] w fun e w' => e = .returned (.int .i64 (orI x y z)) ∧ w = w' := by
  go_enter Tryz.func158, Tryz.ntmps158
  go_wp2
  go_loopw [8] (fun i wr => ∃ k : Nat, k ≤ 3 ∧ i = .int .i64 k ∧ (1 ≤ k → x = 0) ∧ (2 ≤ k → y = 0) ∧ (3 ≤ k → z = 0) ∧ wr = w) (fun i _ => 3 - (intOf i).toNat)
  case atStart => exact ⟨0, by omega, rfl, by omega, by omega, by omega, rfl⟩
  case round =>
    obtain ⟨k, hk, rfl, k1, k2, k3, rfl⟩ := hrel
    rcases (show k = 0 ∨ k = 1 ∨ k = 2 ∨ k = 3 by omega) with rfl | rfl | rfl | rfl
    · by_cases hx : x = 0
      · have q : (x != 0) = false := by simp [hx]
        go_wp2
        go_roundw
        case rel => exact ⟨1, by omega, by go_num, fun _ => hx, by omega, by omega, trivial⟩
        case measure => simp [intOf]
      · have q : (x != 0) = true := by simp [hx]
        go_wp2
        go_ret
        exact ⟨by unfold orI; rw [if_pos hx]; rfl, rfl⟩
    · by_cases hx : y = 0
      · have q : (y != 0) = false := by simp [hx]
        go_wp2
        go_roundw
        case rel => exact ⟨2, by omega, by go_num, fun _ => k1 (by omega), fun _ => hx, by omega, trivial⟩
        case measure => simp [intOf]
      · have q : (y != 0) = true := by simp [hx]
        go_wp2
        go_ret
        exact ⟨by unfold orI; rw [if_neg (by simp [k1 (by omega)]), if_pos hx]; rfl, rfl⟩
    · by_cases hx : z = 0
      · have q : (z != 0) = false := by simp [hx]
        go_wp2
        go_roundw
        case rel => exact ⟨3, by omega, by go_num, fun _ => k1 (by omega), fun _ => k2 (by omega), fun _ => hx, trivial⟩
        case measure => simp [intOf]
      · have q : (z != 0) = true := by simp [hx]
        go_wp2
        go_ret
        exact ⟨by unfold orI; rw [if_neg (by simp [k1 (by omega)]), if_neg (by simp [k2 (by omega)])]; rfl, rfl⟩
    · go_wp2
      go_ret
      exact ⟨by unfold orI; rw [if_neg (by simp [k1 (by omega)]), if_neg (by simp [k2 (by omega)]), k3 (by omega)]; rfl, rfl⟩
/-- The order as a number. -/
def litCmp (l k : Lit) : Int := orI (cmpI l.var k.var) (cmpI l.val k.val) (cmpB l.neg k.neg)
theorem litCmp_lt (l k : Lit) : decide (litCmp l k ≥ 0) = !litLt l k := by
  obtain ⟨a, b, c⟩ := l
  obtain ⟨x, y, z⟩ := k
  unfold litCmp litLt orI cmpI
  simp only
  by_cases h1 : a < x
  · rw [if_pos h1, if_pos (by omega), if_neg (by omega), decide_eq_true h1]; rfl
  · by_cases h2 : a > x
    · rw [if_neg h1, if_pos h2, if_pos (by omega), if_neg (by omega), decide_eq_false h1]; rfl
    · obtain rfl : a = x := by omega
      rw [if_neg h1, if_neg h2, if_neg (by omega), if_pos rfl]
      by_cases h3 : b < y
      · rw [if_pos h3, if_pos (by omega), if_neg (by omega), decide_eq_true h3]; rfl
      · by_cases h4 : b > y
        · rw [if_neg h3, if_pos h4, if_pos (by omega), if_neg (by omega), decide_eq_false h3]; rfl
        · obtain rfl : b = y := by omega
          rw [if_neg h3, if_neg h4, if_neg (by omega), if_pos rfl]
          cases c <;> cases z <;> rfl

set_option maxRecDepth 100000 in
set_option maxHeartbeats 8000000 in
theorem compareLiterals_any (l k : Lit) (w : World) :
    Calls Tryz.prog 129 #[.agg #[.int .i64 l.var, .int .i64 l.val, .bool l.neg], .agg #[.int .i64 k.var, .int .i64 k.val, .bool k.neg]] w fun e w' => e = .returned (.int .i64 (litCmp l k)) ∧ Below w.heap.size w w' := by
  obtain ⟨a, b, c⟩ := l
  obtain ⟨x, y, z⟩ := k
  show Calls Tryz.prog 129 #[.agg #[.int .i64 a, .int .i64 b, .bool c], .agg #[.int .i64 x, .int .i64 y, .bool z]] w _
  have HF : Hid (litCmp ⟨a, b, c⟩ ⟨x, y, z⟩ = orI (cmpI a x) (cmpI b y) (cmpB c z)) := Lib.hid rfl
  obtain ⟨W, hW⟩ : ∃ W, (w.alloc (.cells #[.int .i64 a, .int .i64 b, .bool c] 91)).alloc (.cells #[.int .i64 x, .int .i64 y, .bool z] 91) = W := ⟨_, rfl⟩
  have bel : Below w.heap.size w W := by rw [← hW]; exact below2 _ _ _
  have q0 : Blk3 W w.heap.size 91 (.int .i64 a) (.int .i64 b) (.bool c) := by rw [← hW]; exact (Blk3.new _ _ _ _ _).alloc _
  have q1 : Blk3 W (w.heap.size + 1) 91 (.int .i64 x) (.int .i64 y) (.bool z) := by
    have := Blk3.new (w.alloc (.cells #[.int .i64 a, .int .i64 b, .bool c] 91)) 91 (.int .i64 x) (.int .i64 y) (.bool z)
    rw [World.size_alloc] at this
    rw [← hW]
    exact this
  have HB := Lib.hid bel
  have HW := Lib.hid hW
  obtain ⟨c0, c1, c2⟩ := q0.cell
  obtain ⟨d0, d1, d2⟩ := q1.cell
  have HN := Lib.hid (Blk3.new W 3 (.int .i64 (cmpI a x)) (.int .i64 (cmpI b y)) (.int .i64 (cmpB c z))).cell
  clear q0 q1 bel hW
  go_enter Tryz.func129, Tryz.ntmps129
  go_wp2
  rw [HW.out]
  go_region_held3 (fun w' => w'.cell? ⟨w.heap.size, 0, none⟩ = some (.int .i64 a) ∧ w'.cell? ⟨w.heap.size, 1, none⟩ = some (.int .i64 b) ∧ w'.cell? ⟨w.heap.size, 2, none⟩ = some (.bool c) ∧ w'.cell? ⟨w.heap.size + 1, 0, none⟩ = some (.int .i64 x) ∧ w'.cell? ⟨w.heap.size + 1, 1, none⟩ = some (.int .i64 y) ∧ w'.cell? ⟨w.heap.size + 1, 2, none⟩ = some (.bool z)) (first | exact ⟨c0, c1, c2, d0, d1, d2⟩ | go_keep) (first | (go_at_call 159; refine (cmpInt_any _ _ _).mono ?_; rintro e w' ⟨rfl, rfl⟩) | (go_at_call 160; refine (compareBools_any _ _ _).mono ?_; rintro e w' ⟨rfl, rfl⟩) | (go_at_call 158; refine (cmpOr_any W.heap.size (cmpI a x) (cmpI b y) (cmpB c z) (W.alloc (.cells #[.int .i64 (cmpI a x), .int .i64 (cmpI b y), .int .i64 (cmpB c z)] 3)).drew HN.out.1 HN.out.2.1 HN.out.2.2).mono ?_; rintro e w' ⟨rfl, rfl⟩))
  all_goals go_wp2
  all_goals go_ret
  all_goals exact ⟨by rw [HF.out]; rfl, (HB.out.alloc HB.out.size _).drew⟩
end Go.Proofs.YtipapmmjfoaddaaGreat
