/- The program's sorted merge. -/
import Derived.Test.YtolfjkdkbiicmaaLitDf
namespace Go.Proofs.Ytolfjkdkbiicmaa
open Go.ChangeShapes Go.WideShapes Go.ChangeAt Go.RowKit Go.Deep Go.Shelf
set_option linter.unusedVariables false
set_option linter.unusedSimpArgs false

/-- The activation inside the regions of merged. -/
def mgAct (z0 z1 z2 z3 z4 z5 z6 z7 z8 z9 z10 z11 z12 z13 z14 z15 z16 z17 z18 z19 z20 z21 z22 z23 z24 z25 z26 z27 z28 z29 z30 z31 z32 z33 z34 z35 z36 z37 z38 z39 z40 z41 z42 z43 z44 z45 z46 z47 z48 z49 z50 z51 : Value) : Act := { tmps := #[z0, z1, z2, z3, z4, z5, z6, z7, z8, z9, z10, z11, z12, z13, z14, z15, z16, z17, z18, z19, z20, z21, z22, z23, z24, z25, z26, z27, z28, z29, z30, z31, z32, z33, z34, z35, z36, z37, z38, z39, z40, z41, z42, z43, z44, z45, z46, z47, z48, z49, z50, z51], defers := [] }
theorem litCmp_zero (x y : Lit) : litCmp x y = 0 ↔ x = y := by
  obtain ⟨a, b, c⟩ := x
  obtain ⟨p, q, r⟩ := y
  unfold litCmp orI cmpI
  simp only
  by_cases h1 : a < p
  · rw [if_pos h1, if_pos (by omega)]
    exact ⟨fun h => by omega, fun h => by injection h; omega⟩
  · by_cases h2 : a > p
    · rw [if_neg h1, if_pos h2, if_pos (by omega)]
      exact ⟨fun h => by omega, fun h => by injection h; omega⟩
    · obtain rfl : a = p := by omega
      rw [if_neg h1, if_neg h2, if_neg (by omega)]
      by_cases h3 : b < q
      · rw [if_pos h3, if_pos (by omega)]
        exact ⟨fun h => by omega, fun h => by injection h; omega⟩
      · by_cases h4 : b > q
        · rw [if_neg h3, if_pos h4, if_pos (by omega)]
          exact ⟨fun h => by omega, fun h => by injection h; omega⟩
        · obtain rfl : b = q := by omega
          rw [if_neg h3, if_neg h4, if_neg (by omega)]
          cases c <;> cases r <;> simp [cmpB]
theorem litCmp_pos (x y : Lit) : decide (litCmp x y > 0) = litLt y x := by
  have h1 := litCmp_lt x y
  have h2 := litCmp_zero x y
  cases hxy : litLt x y
  · rw [hxy] at h1
    have h3 : litCmp x y ≥ 0 := of_decide_eq_true h1
    rcases litLt_total x y hxy with e | e
    · rw [e, litLt_irrefl, decide_eq_false_iff_not, (litCmp_zero y y).2 rfl]
      omega
    · rw [e, decide_eq_true_iff]
      have : litCmp x y ≠ 0 := fun h => by
        have := h2.1 h
        rw [this, litLt_irrefl] at e
        cases e
      omega
  · rw [hxy] at h1
    have h3 : ¬ litCmp x y ≥ 0 := of_decide_eq_false h1
    have h4 : litLt y x = false := by
      cases e : litLt y x
      · rfl
      · have := litLt_trans hxy e
        rw [litLt_irrefl] at this
        cases this
    rw [h4, decide_eq_false_iff_not]
    omega
/-- The merge. -/
def mgL : List Lit → List Lit → List Lit
  | [], b => b
  | x :: a, [] => x :: a
  | x :: a, y :: b => if litLt y x = true then y :: mgL (x :: a) b else if x = y then x :: mgL a b else x :: mgL a (y :: b)
termination_by a b => a.length + b.length
theorem mgL_nil (a : List Lit) : mgL a [] = a := by cases a <;> simp [mgL]
theorem mem_mgL (z : Lit) : ∀ (a b : List Lit), z ∈ mgL a b ↔ z ∈ a ∨ z ∈ b
  | [], b => by simp [mgL]
  | x :: a, [] => by simp [mgL]
  | x :: a, y :: b => by
    rw [mgL]
    split
    · rw [List.mem_cons, mem_mgL z (x :: a) b, List.mem_cons, List.mem_cons]
      exact ⟨fun h => by rcases h with h | h | h; (· exact .inr (.inl h)); (· exact .inl h); (· exact .inr (.inr h)), fun h => by rcases h with h | h | h; (· exact .inr (.inl h)); (· exact .inl h); (· exact .inr (.inr h))⟩
    · split
      · rename_i h1 h2
        subst h2
        rw [List.mem_cons, mem_mgL z a b, List.mem_cons, List.mem_cons]
        exact ⟨fun h => by rcases h with h | h | h; (· exact .inl (.inl h)); (· exact .inl (.inr h)); (· exact .inr (.inr h)), fun h => by rcases h with (h | h) | h | h; (· exact .inl h); (· exact .inr (.inl h)); (· exact .inl h); (· exact .inr (.inr h))⟩
      · simp only [List.mem_cons, mem_mgL z a (y :: b), or_assoc]
termination_by a b => a.length + b.length
theorem asc_mgL : ∀ (a b : List Lit), Asc a → Asc b → Asc (mgL a b)
  | [], b, _, h => by rw [mgL]; exact h
  | x :: a, [], h, _ => by rw [mgL]; exact h
  | x :: a, y :: b, ha, hb => by
    have pa := List.pairwise_cons.1 ha
    have pb := List.pairwise_cons.1 hb
    rw [mgL]
    split
    · rename_i h1
      refine List.pairwise_cons.2 ⟨fun z hz => ?_, asc_mgL (x :: a) b ha pb.2⟩
      rcases (mem_mgL z (x :: a) b).1 hz with hz | hz
      · rcases List.mem_cons.1 hz with rfl | hz
        · exact h1
        · exact litLt_trans h1 (pa.1 z hz)
      · exact pb.1 z hz
    · split
      · rename_i h1 h2
        subst h2
        refine List.pairwise_cons.2 ⟨fun z hz => ?_, asc_mgL a b pa.2 pb.2⟩
        rcases (mem_mgL z a b).1 hz with hz | hz
        · exact pa.1 z hz
        · exact pb.1 z hz
      · rename_i h1 h2
        have hxy : litLt x y = true := by
          rcases litLt_total y x (by simpa using h1) with e | e
          · exact absurd e.symm h2
          · exact e
        refine List.pairwise_cons.2 ⟨fun z hz => ?_, asc_mgL a (y :: b) pa.2 hb⟩
        rcases (mem_mgL z a (y :: b)).1 hz with hz | hz
        · exact pa.1 z hz
        · rcases List.mem_cons.1 hz with rfl | hz
          · exact hxy
          · exact litLt_trans hxy (pb.1 z hz)
termination_by a b => a.length + b.length
theorem asc_unique : ∀ (a b : List Lit), Asc a → Asc b → (∀ z, z ∈ a ↔ z ∈ b) → a = b
  | [], [], _, _, _ => rfl
  | [], y :: b, _, _, h => by have := (h y).2 (List.mem_cons_self ..); cases this
  | x :: a, [], _, _, h => by have := (h x).1 (List.mem_cons_self ..); cases this
  | x :: a, y :: b, ha, hb, h => by
    have pa := List.pairwise_cons.1 ha
    have pb := List.pairwise_cons.1 hb
    have hxy : x = y := by
      rcases List.mem_cons.1 ((h x).1 (List.mem_cons_self ..)) with e | e
      · exact e
      · rcases List.mem_cons.1 ((h y).2 (List.mem_cons_self ..)) with f | f
        · exact f.symm
        · have := litLt_trans (pb.1 x e) (pa.1 y f)
          rw [litLt_irrefl] at this
          cases this
    subst hxy
    rw [asc_unique a b pa.2 pb.2 (fun z => ?_)]
    constructor
    · intro hz
      rcases List.mem_cons.1 ((h z).1 (List.mem_cons_of_mem _ hz)) with e | e
      · have := pa.1 z hz
        rw [e, litLt_irrefl] at this
        cases this
      · exact e
    · intro hz
      rcases List.mem_cons.1 ((h z).2 (List.mem_cons_of_mem _ hz)) with e | e
      · have := pb.1 z hz
        rw [e, litLt_irrefl] at this
        cases this
      · exact e
theorem mgL_mrgL {a b : List Lit} (ha : Asc a) (hb : Asc b) : mgL a b = mrgL a b :=
  asc_unique _ _ (asc_mgL a b ha hb) (asc_mrgL b a ha) (fun z => by rw [mem_mgL, mem_mrgL])

section
set_option maxRecDepth 100000
theorem index_lits0 (w : World) (b off n c : Nat) (hj : 0 < n) : (Instr.indexAt 41 (.slice (some ⟨b, off, none⟩) n c) (.int .i64 0)).run Try.prog w = .ok (.pointer (some ⟨b, off, none⟩)) w := by
  go_simp
theorem slice_one (w : World) (b off n c : Nat) (h1 : 0 < n) (h2 : n ≤ c ∧ c ≤ 9223372036854775807) : (Instr.sliceAt 41 (.slice (some ⟨b, off, none⟩) n c) (some (.int .i64 1)) none none).run Try.prog w = .ok (.slice (some (if c = 1 then ⟨b, off, none⟩ else ⟨b, off + 3, none⟩)) (n - 1) (c - 1)) w := by
  obtain ⟨h2, h3⟩ := h2
  by_cases h : c = 1
  · rw [if_pos h]
    go_simp
    intro h'
    omega
  · rw [if_neg h]
    go_simp
    intro h'
    omega
end
theorem RdLits.tail {w : World} {b off n c : Nat} {x : Lit} {xs : List Lit} (h : RdLits w (.slice (some ⟨b, off, none⟩) n c) (x :: xs)) : RdLits w (.slice (some (if c = 1 then ⟨b, off, none⟩ else ⟨b, off + 3, none⟩)) (n - 1) (c - 1)) xs := by
  obtain ⟨a, cap, e, h1, h2, h3⟩ := h
  simp at e
  obtain ⟨rfl, rfl, rfl⟩ := e
  simp only [List.length_cons] at h1 h3 ⊢
  unfold maxLen at h2
  refine ⟨_, c - 1, rfl, by omega, by unfold maxLen; omega, ?_⟩
  by_cases h0 : xs.length = 0
  · exact .inl h0
  · rw [if_neg (by omega)]
    rcases h3 with h3 | ⟨b', off', e, h3⟩
    · omega
    · cases e
      refine .inr ⟨b, off + 3, rfl, fun i l hi => ?_⟩
      have := h3 (i + 1) l (by simpa using hi)
      rw [show off + 3 + i * 3 = off + (i + 1) * 3 from by omega]
      exact this

theorem OwnC.slice {w : World} {B : Nat} {v : Value} {m : Nat} {ls : List Lit} (h : OwnC w B v m ls) : ∃ a c, v = .slice a m c := by
  obtain ⟨a, c, e, _⟩ := h.form
  exact ⟨a, c, e⟩
theorem OwnC.slice3 {w : World} {B : Nat} {v : Value} {m : Nat} {ls : List Lit} (h : OwnC w B v m ls) : ∃ a n c, v = .slice a n c := by
  obtain ⟨a, c, e, _⟩ := h.form
  exact ⟨a, m, c, e⟩
set_option maxRecDepth 100000 in
/-- append of a clause to a clause, perhaps nil, of the call's own. -/
theorem run_append_litsC (w : World) (ty : TypeId) (B : Nat) (v y : Value) (xs ys : List Lit) (hv : OwnC w B v xs.length xs) (hy : RdLits w y ys) (hB : B ≤ w.heap.size) (h1 : xs.length ≤ 1048576) (h2 : ys.length ≤ 1048576) :
    ∃ v' w', (Builtin.append_ #[41, 41] ty #[v, y]).run Try.prog w = .ok v' w' ∧ OwnC w' B v' (xs ++ ys).length (xs ++ ys) ∧ w.grownBy w' v.ownBlock := by
  obtain ⟨a, cap, rfl, r1, r2, r3⟩ := hy
  obtain ⟨va, vc, rfl⟩ := hv.slice
  obtain ⟨i0, hi, hz0, hz1, hz2⟩ := info_parts Try.infoLit
  cases a with
  | none =>
    have hys : ys = [] := by
      rcases r3 with h | ⟨b, off, e, _⟩
      · exact List.eq_nil_of_length_eq_zero h
      · cases e
    subst hys
    refine ⟨.slice va xs.length vc, w, ?_, by rw [List.append_nil]; exact hv, ⟨rfl, rfl, rfl, Nat.le_refl _, fun _ _ _ => rfl⟩⟩
    have hle : xs.length ≤ vc := by
      obtain ⟨_, _, e, hle, _⟩ := hv.form
      injection e with _ _ e
      rw [e]
      exact hle
    cases va
    all_goals go_simp
  | some ad =>
    have hnews : ∀ j u, (cellsL ys)[j]? = some u → w.cell? (ad.add j) = some u := by
      rcases r3 with h | ⟨b, off, e, h⟩
      · intro j u hu
        rw [List.eq_nil_of_length_eq_zero h] at hu
        simp [cellsL] at hu
      · cases e
        exact cellsL_reads ys h
    obtain ⟨v', w', hr, h3, h4, h5⟩ := run_append_own (P := Try.prog) w B 41 ty 47 i0 (.agg #[.int .i64 0, .int .i64 0, .bool false]) 3 24 Try.underlying41 hi hz0 hz1 hz2 rfl (by decide) _ xs.length (cellsL xs) hv.2 ad ys.length cap (cellsL ys) (cellsL_length ys) hnews (cellsL_one ys) (by unfold maxLen; omega) (by omega) hB
    rw [← cellsL_append, ← List.length_append] at h3
    exact ⟨v', w', hr, ⟨rfl, h3⟩, h4⟩
theorem wp_append_litsC {w : World} {o : Oper} {a : Act} {K : Act → World → Prop} {Q : Exit → Act → World → Prop} (s x : Operand)
    (ho : o.op = .call { callee := .builtin .append, args := #[s, x], argTypes := #[41, 41] }) (B : Nat) (v y : Value) (xs ys : List Lit) (hs : a.eval s = v) (hx : a.eval x = y) (hv : OwnC w B v xs.length xs) (hy : RdLits w y ys) (hB : B ≤ w.heap.size) (h1 : xs.length ≤ 1048576) (h2 : ys.length ≤ 1048576)
    (h : ∀ v' w', OwnC w' B v' (xs ++ ys).length (xs ++ ys) → w.grownBy w' v.ownBlock → K (a.put o.dst v') w') : o.wp Try.prog a w K Q := by
  obtain ⟨v', w', hr, h3, h4⟩ := run_append_litsC w o.type B v y xs ys hv hy hB h1 h2
  unfold Oper.wp execOp
  simp only [ho, resolve, invoke, builtin, Sem.run_bind, Sem.run_pure, Result.andThen_ok, List.map_toArray, List.map_cons, List.map_nil, hs, hx, hr]
  exact h v' w' h3 h4
theorem wpList_append_litsC {w : World} {ops : Array Oper} {rest : List Oper} {o : Oper} {a : Act} {Q : Exit → Act → World → Prop} (hgd : o.guard = none) (s x : Operand)
    (ho : o.op = .call { callee := .builtin .append, args := #[s, x], argTypes := #[41, 41] }) (B : Nat) (v y : Value) (xs ys : List Lit) (hs : a.eval s = v) (hx : a.eval x = y) (hv : OwnC w B v xs.length xs) (hy : RdLits w y ys) (hB : B ≤ w.heap.size) (h1 : xs.length ≤ 1048576) (h2 : ys.length ≤ 1048576)
    (h : ∀ v' w', OwnC w' B v' (xs ++ ys).length (xs ++ ys) → w.grownBy w' v.ownBlock → wpList Try.prog ops Q rest (a.put o.dst v') w') : wpList Try.prog ops Q (o :: rest) a w :=
  wpList_plain hgd fun _ hK => wp_append_litsC s x ho B v y xs ys hs hx hv hy hB h1 h2 fun v' w' h3 h4 => hK _ _ (h v' w' h3 h4)
theorem step_append_litsC {w : World} {ops : Array Oper} {o : Oper} {a : Act} {K : Act → World → Prop} {Q : Exit → Act → World → Prop} {E : Prop} (hgd : o.guard = none) (s x : Operand)
    (ho : o.op = .call { callee := .builtin .append, args := #[s, x], argTypes := #[41, 41] }) (B : Nat) (v y : Value) (xs ys : List Lit) (hs : a.eval s = v) (hx : a.eval x = y) (hv : OwnC w B v xs.length xs) (hy : RdLits w y ys) (hB : B ≤ w.heap.size) (h1 : xs.length ≤ 1048576) (h2 : ys.length ≤ 1048576)
    (h : ∀ v' w', OwnC w' B v' (xs ++ ys).length (xs ++ ys) → w.grownBy w' v.ownBlock → K (a.put o.dst v') w') : if Region.wanted o (yielded ops a.tmps) = true then Oper.wp Try.prog o a w K Q else E := by
  have hw : Region.wanted o (yielded ops a.tmps) = true := by simp [Region.wanted, hgd]
  rw [if_pos hw]
  exact wp_append_litsC s x ho B v y xs ys hs hx hv hy hB h1 h2 h
/-- What lies below B stays while a clause of the call's own grows. -/
theorem mg_keep {B b o m : Nat} {l : Lit} {w w1 w' : World} {v : Value} {ls : List Lit} (h : LitAt b o l w) (hg : w.grownBy w' v.ownBlock) (hv : OwnC w1 B v m ls) (hb : b < B) : LitAt b o l w' := by
  have k : ∀ (q : Nat) (u : Value), w.cell? ⟨b, q, none⟩ = some u → w'.cell? ⟨b, q, none⟩ = some u := fun q u hq => hg.cell hq (fun e => by have := (hv.2.lt b e.symm).1; omega)
  exact ⟨k _ _ h.1, k _ _ h.2.1, k _ _ h.2.2⟩
/-- The length of a slice. -/
def lenOf : Value → Nat
  | .slice _ n _ => n
  | _ => 0

set_option maxRecDepth 100000 in
set_option maxHeartbeats 32000000 in
theorem merged_any (av bv : Value) (la lb : List Lit) (w : World) (ha : RdLits w av la) (hb : RdLits w bv lb) (h12 : la.length + lb.length ≤ 1000) :
    Calls Try.prog 131 #[av, bv, .func (.func 96) #[] #[]] w fun e w' => ∃ v', e = .returned v' ∧ OwnC w' w.heap.size v' (mgL la lb).length (mgL la lb) ∧ Below w.heap.size w w' := by
  have HA := Lib.hid ha
  have HB := Lib.hid hb
  obtain ⟨aA, ca0, ea, ha1, ha2, _⟩ := ha
  obtain ⟨bA, cb0, eb, hb1, hb2, _⟩ := hb
  rw [ea] at HA ⊢
  rw [eb] at HB ⊢
  clear ea eb
  go_enter Try.func131, Try.ntmps131
  go_wp2_with fail
  go_loopw [0, 1, 7] (fun a b q wr => ∃ (xs ys outL : List Lit), Hid (RdLits w a xs) ∧ Hid (RdLits w b ys) ∧ Hid (OwnC wr w.heap.size q outL.length outL) ∧ Hid (outL ++ mgL xs ys = mgL la lb) ∧ Hid (outL.length + xs.length + ys.length ≤ 1000) ∧ Hid (Below w.heap.size w wr) ∧ (∃ ad n c, a = .slice ad n c) ∧ ∃ bd n c, b = .slice bd n c) (fun a b _ _ => lenOf a + lenOf b)
  case atStart => exact ⟨la, lb, [], HA, HB, Lib.hid ⟨rfl, World.ownsRow_nil _ _ _ _⟩, Lib.hid rfl, Lib.hid (by simpa using h12), Lib.hid (Below.refl _ _), ⟨_, _, _, rfl⟩, ⟨_, _, _, rfl⟩⟩
  case round =>
    obtain ⟨xs, ys, outL, HXS, HYS, HOC, HEQ, HLE, HBW, ⟨ad, na, ca, rfl⟩, bd, nb, cb, rfl⟩ := hrel
    obtain ⟨hxl, hca⟩ := rdLits_len HXS.out
    obtain ⟨hyl, hcb⟩ := rdLits_len HYS.out
    obtain ⟨vla, vlc, evl⟩ := HOC.out.slice
    subst evl
    have HXL := Lib.hid hxl
    have HYL := Lib.hid hyl
    clear hxl hyl
    by_cases hna : 0 < na
    · by_cases hnb : 0 < nb
      · obtain ⟨ga, oa, x, rfl, hx0, k0, k1, k2⟩ := rdLits_at (HXS.out.below HBW.out) hna
        obtain ⟨gb, ob, y, rfl, hy0, l0, l1, l2⟩ := rdLits_at (HYS.out.below HBW.out) hnb
        obtain ⟨xs', rfl⟩ : ∃ r, xs = x :: r := by cases xs with | nil => simp at hx0 | cons z r => simp at hx0; exact ⟨r, by rw [hx0]⟩
        obtain ⟨ys', rfl⟩ : ∃ r, ys = y :: r := by cases ys with | nil => simp at hy0 | cons z r => simp at hy0; exact ⟨r, by rw [hy0]⟩
        rw [Nat.zero_mul, Nat.add_zero] at k0 k1 k2 l0 l1 l2
        have HGA : Hid (ga < w.heap.size) := Lib.hid (by
          obtain ⟨_, _, _, ee, _, q0, _⟩ := rdLits_at HXS.out hna
          cases ee
          exact World.block_lt_of_cell? w _ q0)
        have HGB : Hid (gb < w.heap.size) := Lib.hid (by
          obtain ⟨_, _, _, ee, _, q0, _⟩ := rdLits_at HYS.out hnb
          cases ee
          exact World.block_lt_of_cell? w _ q0)
        have HBD := Lib.hid HBW.out.drew
        have HE := Lib.hid (compareLiterals_any x y wr.drew)
        have HP := Lib.hid (litCmp_pos x y)
        have HZ := Lib.hid (litCmp_zero x y)
        obtain ⟨q, hq⟩ : ∃ q, q = litCmp x y := ⟨_, rfl⟩
        rw [← hq] at HE HP HZ
        have HYT := Lib.hid HYS.out.tail
        have HXT := Lib.hid HXS.out.tail
        have hna1 : (0 : Int) < na := by omega
        have hnb1 : (0 : Int) < nb := by omega
        clear hx0 hy0 hq
        cases h5 : litLt y x
        · rw [h5] at HP
          have h6 : decide (0 < q) = false := HP.out
          by_cases h7 : q = 0
          · have hxy := HZ.out.1 h7
            subst h7
            have HEQ2 : Hid ((outL ++ [x]) ++ mgL xs' ys' = mgL la lb) := Lib.hid (by rw [← HEQ.out, mgL, if_neg (by rw [h5]; exact Bool.false_ne_true), if_pos hxy, List.append_assoc]; rfl)
            clear h5 hxy
            go_wp2_with fail
            go_region_held3 (fun w' => w'.cell? ⟨ga, oa, none⟩ = some (.int .i64 x.var) ∧ w'.cell? ⟨ga, oa + 1, none⟩ = some (.int .i64 x.val) ∧ w'.cell? ⟨ga, oa + 2, none⟩ = some (.bool x.neg) ∧ w'.cell? ⟨gb, ob, none⟩ = some (.int .i64 y.var) ∧ w'.cell? ⟨gb, ob + 1, none⟩ = some (.int .i64 y.val) ∧ w'.cell? ⟨gb, ob + 2, none⟩ = some (.bool y.neg)) (first | exact ⟨k0, k1, k2, l0, l1, l2⟩ | exact ⟨e0, e1, e2, e3, e4, e5⟩) (first | (go_at_call 96; refine HE.out.mono ?_; rintro e w9 ⟨rfl, b9⟩; have B9 := Lib.hid (HBD.out.trans (b9.mono HBD.out.size)); have HOC9 := Lib.hid ((HOC.out.below (Below.refl _ _).drew).below b9); have e0 := (b9.cell (World.block_lt_of_cell? wr.drew _ k0)).trans k0; have e1 := (b9.cell (World.block_lt_of_cell? wr.drew _ k1)).trans k1; have e2 := (b9.cell (World.block_lt_of_cell? wr.drew _ k2)).trans k2; have e3 := (b9.cell (World.block_lt_of_cell? wr.drew _ l0)).trans l0; have e4 := (b9.cell (World.block_lt_of_cell? wr.drew _ l1)).trans l1; have e5 := (b9.cell (World.block_lt_of_cell? wr.drew _ l2)).trans l2; clear b9))
            all_goals go_wp2_with fail
            have HO9 := Lib.hid (HOC9.out.below (Below.refl _ _).drew)
            have HS9 : Hid (w.heap.size ≤ w9.drew.heap.size) := Lib.hid B9.out.drew.size
            have hS : LitAt ga oa x w9.drew := ⟨e0, e1, e2⟩
            refine region_z (LitAt ga oa x) (fun _ => false) rfl ?_
            change wpAnyZ Try.prog .any _ _ _ _ 10 _ (mgAct _ _ _ _ _ _ _ _ _ _ _ _ _ _ _ _ _ _ _ _ _ _ _ _ _ _ _ _ _ _ _ _ _ _ _ _ _ _ _ _ _ _ _ _ _ _ _ _ _ _ _ _) w9.drew
            refine wpAnyZ_takeW (i := 0) (v := .slice vla outL.length vlc) rfl (by kernel_rfl) (by kernel_rfl) (by kernel_rfl) (fun _ _ _ h => h) (.inl ⟨rfl, fun w' hw' => rfl⟩) ?_
            change wpAnyZ Try.prog .any _ _ _ _ 9 _ (mgAct _ _ _ _ _ _ _ _ _ _ _ _ _ _ _ _ _ _ _ _ _ _ _ _ _ _ _ _ _ _ _ _ _ _ _ (.slice vla outL.length vlc) _ _ _ _ _ _ _ _ _ _ _ _ _ _ _ _) w9.drew
            refine wpAnyZ_takeW (i := 1) (v := .slice (some ⟨ga, oa, none⟩) na ca) rfl (by kernel_rfl) (by kernel_rfl) (by kernel_rfl) (fun _ _ _ h => h) (.inl ⟨rfl, fun w' hw' => rfl⟩) ?_
            change wpAnyZ Try.prog .any _ _ _ _ 8 _ (mgAct _ _ _ _ _ _ _ _ _ _ _ _ _ _ _ _ _ _ _ _ _ _ _ _ _ _ _ _ _ _ _ _ _ _ _ (.slice vla outL.length vlc) (.slice (some ⟨ga, oa, none⟩) na ca) _ _ _ _ _ _ _ _ _ _ _ _ _ _ _) w9.drew
            refine wpAnyZ_takeW (i := 2) (v := .pointer (some ⟨ga, oa, none⟩)) rfl (by kernel_rfl) (by kernel_rfl) (by kernel_rfl) (fun _ _ _ h => h) (.inl ⟨rfl, fun w' hw' => exec_index rfl rfl rfl (index_lits0 w' _ _ _ _ hna)⟩) ?_
            change wpAnyZ Try.prog .any _ _ _ _ 7 _ (mgAct _ _ _ _ _ _ _ _ _ _ _ _ _ _ _ _ _ _ _ _ _ _ _ _ _ _ _ _ _ _ _ _ _ _ _ (.slice vla outL.length vlc) (.slice (some ⟨ga, oa, none⟩) na ca) (.pointer (some ⟨ga, oa, none⟩)) _ _ _ _ _ _ _ _ _ _ _ _ _ _) w9.drew
            refine wpAnyZ_take (i := 3) (v := .agg #[.int .i64 x.var, .int .i64 x.val, .bool x.neg]) rfl (by kernel_rfl) (by kernel_rfl) (by kernel_rfl) (by kernel_rfl) (fun _ _ _ h => h) (.inl ⟨rfl, fun w' hw' => exec_load rfl rfl (load_litO w' _ _ _ _ _ hw'.1 hw'.2.1 hw'.2.2)⟩) hS ?_
            change wpAnyZ Try.prog .any _ _ _ _ 6 _ (mgAct _ _ _ _ _ _ _ _ _ _ _ _ _ _ _ _ _ _ _ _ _ _ _ _ _ _ _ _ _ _ _ _ _ _ _ (.slice vla outL.length vlc) (.slice (some ⟨ga, oa, none⟩) na ca) (.pointer (some ⟨ga, oa, none⟩)) (.agg #[.int .i64 x.var, .int .i64 x.val, .bool x.neg]) _ _ _ _ _ _ _ _ _ _ _ _ _) w9.drew
            refine wpAnyZ_takeW (i := 6) (v := .slice (some ⟨ga, oa, none⟩) na ca) rfl (by kernel_rfl) (by kernel_rfl) (by kernel_rfl) (fun _ _ _ h => h) (.inl ⟨rfl, fun w' hw' => rfl⟩) ?_
            change wpAnyZ Try.prog .any _ _ _ _ 5 _ (mgAct _ _ _ _ _ _ _ _ _ _ _ _ _ _ _ _ _ _ _ _ _ _ _ _ _ _ _ _ _ _ _ _ _ _ _ (.slice vla outL.length vlc) (.slice (some ⟨ga, oa, none⟩) na ca) (.pointer (some ⟨ga, oa, none⟩)) (.agg #[.int .i64 x.var, .int .i64 x.val, .bool x.neg]) _ _ (.slice (some ⟨ga, oa, none⟩) na ca) _ _ _ _ _ _ _ _ _ _) w9.drew
            refine wpAnyZ_takeW (i := 7) (v := .slice (some (if ca = 1 then ⟨ga, oa, none⟩ else ⟨ga, oa + 3, none⟩)) (na - 1) (ca - 1)) rfl (by kernel_rfl) (by kernel_rfl) (by kernel_rfl) (fun _ _ _ h => h) (.inl ⟨rfl, fun w' hw' => exec_slice1 rfl rfl rfl (slice_one w' _ _ _ _ hna hca)⟩) ?_
            change wpAnyZ Try.prog .any _ _ _ _ 4 _ (mgAct _ _ _ _ _ _ _ _ _ _ _ _ _ _ _ _ _ _ _ _ _ _ _ _ _ _ _ _ _ _ _ _ _ _ _ (.slice vla outL.length vlc) (.slice (some ⟨ga, oa, none⟩) na ca) (.pointer (some ⟨ga, oa, none⟩)) (.agg #[.int .i64 x.var, .int .i64 x.val, .bool x.neg]) _ _ (.slice (some ⟨ga, oa, none⟩) na ca) (.slice (some (if ca = 1 then ⟨ga, oa, none⟩ else ⟨ga, oa + 3, none⟩)) (na - 1) (ca - 1)) _ _ _ _ _ _ _ _ _) w9.drew
            refine wpAnyZ_one (i := 4) (by kernel_rfl) rfl (fun K' hK' => ?_)
            refine step_value _ (w9.drew.alloc (.cells #[.int .i64 x.var, .int .i64 x.val, .bool x.neg] 47)) rfl _ (exec_build1 rfl rfl (build_one w9.drew _ _ _)) ?_
            refine hK'.out _ _ (fun _ h => litAt_below h (below1 _ _)) ?_
            clear hK' K'
            change wpAnyZ Try.prog .any _ _ _ _ 3 _ (mgAct _ _ _ _ _ _ _ _ _ _ _ _ _ _ _ _ _ _ _ _ _ _ _ _ _ _ _ _ _ _ _ _ _ _ _ (.slice vla outL.length vlc) (.slice (some ⟨ga, oa, none⟩) na ca) (.pointer (some ⟨ga, oa, none⟩)) (.agg #[.int .i64 x.var, .int .i64 x.val, .bool x.neg]) (.slice (some ⟨w9.drew.heap.size, 0, none⟩) 1 1) _ (.slice (some ⟨ga, oa, none⟩) na ca) (.slice (some (if ca = 1 then ⟨ga, oa, none⟩ else ⟨ga, oa + 3, none⟩)) (na - 1) (ca - 1)) _ _ _ _ _ _ _ _ _) (w9.drew.alloc (.cells #[.int .i64 x.var, .int .i64 x.val, .bool x.neg] 47))
            refine wpAnyZ_one (i := 5) (by kernel_rfl) rfl (fun K' hK' => ?_)
            refine step_append_litsC rfl _ _ rfl w.heap.size _ _ outL [x] rfl rfl (HO9.out.below (below1 _ _)) (ownL_one w9.drew w9.drew.heap.size (Nat.le_refl _) x).rd (by rw [World.size_alloc]; exact Nat.le_succ_of_le HS9.out) (by have := HLE.out; omega) (by simp) ?_
            intro v8 w8 own8 grow8
            refine hK'.out _ _ (fun _ h => mg_keep h grow8 HO9.out HGA.out) ?_
            clear hK' K'
            change wpAnyZ Try.prog .any _ _ _ _ 2 _ (mgAct _ _ _ _ _ _ _ _ _ _ _ _ _ _ _ _ _ _ _ _ _ _ _ _ _ _ _ _ _ _ _ _ _ _ _ (.slice vla outL.length vlc) (.slice (some ⟨ga, oa, none⟩) na ca) (.pointer (some ⟨ga, oa, none⟩)) (.agg #[.int .i64 x.var, .int .i64 x.val, .bool x.neg]) (.slice (some ⟨w9.drew.heap.size, 0, none⟩) 1 1) (v8) (.slice (some ⟨ga, oa, none⟩) na ca) (.slice (some (if ca = 1 then ⟨ga, oa, none⟩ else ⟨ga, oa + 3, none⟩)) (na - 1) (ca - 1)) _ _ _ _ _ _ _ _ _) w8
            refine wpAnyZ_takeW (i := 8) (v := v8) rfl (by kernel_rfl) (by kernel_rfl) (by kernel_rfl) (fun _ _ _ h => h) (.inl ⟨rfl, fun w' hw' => rfl⟩) ?_
            change wpAnyZ Try.prog .any _ _ _ _ 1 _ (mgAct _ _ _ _ _ _ _ (v8) _ _ _ _ _ _ _ _ _ _ _ _ _ _ _ _ _ _ _ _ _ _ _ _ _ _ _ (.slice vla outL.length vlc) (.slice (some ⟨ga, oa, none⟩) na ca) (.pointer (some ⟨ga, oa, none⟩)) (.agg #[.int .i64 x.var, .int .i64 x.val, .bool x.neg]) (.slice (some ⟨w9.drew.heap.size, 0, none⟩) 1 1) (v8) (.slice (some ⟨ga, oa, none⟩) na ca) (.slice (some (if ca = 1 then ⟨ga, oa, none⟩ else ⟨ga, oa + 3, none⟩)) (na - 1) (ca - 1)) _ _ _ _ _ _ _ _ _) w8
            refine wpAnyZ_takeW (i := 9) (v := .slice (some (if ca = 1 then ⟨ga, oa, none⟩ else ⟨ga, oa + 3, none⟩)) (na - 1) (ca - 1)) rfl (by kernel_rfl) (by kernel_rfl) (by kernel_rfl) (fun _ _ _ h => h) (.inl ⟨rfl, fun w' hw' => rfl⟩) ?_
            change wpAnyZ Try.prog .any _ _ _ _ 0 _ (mgAct (.slice (some (if ca = 1 then ⟨ga, oa, none⟩ else ⟨ga, oa + 3, none⟩)) (na - 1) (ca - 1)) _ _ _ _ _ _ (v8) _ _ _ _ _ _ _ _ _ _ _ _ _ _ _ _ _ _ _ _ _ _ _ _ _ _ _ (.slice vla outL.length vlc) (.slice (some ⟨ga, oa, none⟩) na ca) (.pointer (some ⟨ga, oa, none⟩)) (.agg #[.int .i64 x.var, .int .i64 x.val, .bool x.neg]) (.slice (some ⟨w9.drew.heap.size, 0, none⟩) 1 1) (v8) (.slice (some ⟨ga, oa, none⟩) na ca) (.slice (some (if ca = 1 then ⟨ga, oa, none⟩ else ⟨ga, oa + 3, none⟩)) (na - 1) (ca - 1)) _ _ _ _ _ _ _ _ _) w8
            refine wpAnyZ_done (by kernel_rfl) ?_ _
            unfold mgAct
            have HO8 := Lib.hid own8
            have HB8 : Hid (Below w.heap.size w w8) := Lib.hid ((B9.out.drew.alloc HS9.out _).grown grow8 (by rw [World.size_alloc]; exact Nat.le_succ_of_le HS9.out) (fun q e => (HO9.out.2.lt q e).1))
            clear own8 grow8 hS
            have hsl := fun w' => slice_one w' gb ob nb cb hnb hcb
            go_wp2
            go_roundw
            all_goals first
              | exact ⟨xs', ys', outL ++ [x], HXT, HYT, HO8, HEQ2, Lib.hid (by have := HLE.out; simp at this ⊢; omega), HB8, ⟨_, _, _, rfl⟩, ⟨_, _, _, rfl⟩⟩
              | (simp [lenOf]; omega)
          · have hxy : ¬ x = y := fun e => h7 (HZ.out.2 e)
            have HEQ2 : Hid ((outL ++ [x]) ++ mgL xs' (y :: ys') = mgL la lb) := Lib.hid (by rw [← HEQ.out, mgL, if_neg (by rw [h5]; exact Bool.false_ne_true), if_neg hxy, List.append_assoc]; rfl)
            have h8 : (q == 0) = false := by simpa using h7
            clear h5 hxy
            go_wp2_with fail
            go_region_held3 (fun w' => w'.cell? ⟨ga, oa, none⟩ = some (.int .i64 x.var) ∧ w'.cell? ⟨ga, oa + 1, none⟩ = some (.int .i64 x.val) ∧ w'.cell? ⟨ga, oa + 2, none⟩ = some (.bool x.neg) ∧ w'.cell? ⟨gb, ob, none⟩ = some (.int .i64 y.var) ∧ w'.cell? ⟨gb, ob + 1, none⟩ = some (.int .i64 y.val) ∧ w'.cell? ⟨gb, ob + 2, none⟩ = some (.bool y.neg)) (first | exact ⟨k0, k1, k2, l0, l1, l2⟩ | exact ⟨e0, e1, e2, e3, e4, e5⟩) (first | (go_at_call 96; refine HE.out.mono ?_; rintro e w9 ⟨rfl, b9⟩; have B9 := Lib.hid (HBD.out.trans (b9.mono HBD.out.size)); have HOC9 := Lib.hid ((HOC.out.below (Below.refl _ _).drew).below b9); have e0 := (b9.cell (World.block_lt_of_cell? wr.drew _ k0)).trans k0; have e1 := (b9.cell (World.block_lt_of_cell? wr.drew _ k1)).trans k1; have e2 := (b9.cell (World.block_lt_of_cell? wr.drew _ k2)).trans k2; have e3 := (b9.cell (World.block_lt_of_cell? wr.drew _ l0)).trans l0; have e4 := (b9.cell (World.block_lt_of_cell? wr.drew _ l1)).trans l1; have e5 := (b9.cell (World.block_lt_of_cell? wr.drew _ l2)).trans l2; clear b9))
            all_goals go_wp2_with fail
            have HO9 := Lib.hid (HOC9.out.below (Below.refl _ _).drew)
            have HS9 : Hid (w.heap.size ≤ w9.drew.heap.size) := Lib.hid B9.out.drew.size
            have hS : LitAt ga oa x w9.drew := ⟨e0, e1, e2⟩
            refine region_z (LitAt ga oa x) (fun _ => false) rfl ?_
            change wpAnyZ Try.prog .any _ _ _ _ 10 _ (mgAct _ _ _ _ _ _ _ _ _ _ _ _ _ _ _ _ _ _ _ _ _ _ _ _ _ _ _ _ _ _ _ _ _ _ _ _ _ _ _ _ _ _ _ _ _ _ _ _ _ _ _ _) w9.drew
            refine wpAnyZ_takeW (i := 0) (v := .slice vla outL.length vlc) rfl (by kernel_rfl) (by kernel_rfl) (by kernel_rfl) (fun _ _ _ h => h) (.inl ⟨rfl, fun w' hw' => rfl⟩) ?_
            change wpAnyZ Try.prog .any _ _ _ _ 9 _ (mgAct _ _ _ _ _ _ _ _ _ _ _ _ _ _ _ _ _ _ _ _ _ _ _ _ _ _ _ _ _ _ _ _ _ _ _ (.slice vla outL.length vlc) _ _ _ _ _ _ _ _ _ _ _ _ _ _ _ _) w9.drew
            refine wpAnyZ_takeW (i := 1) (v := .slice (some ⟨ga, oa, none⟩) na ca) rfl (by kernel_rfl) (by kernel_rfl) (by kernel_rfl) (fun _ _ _ h => h) (.inl ⟨rfl, fun w' hw' => rfl⟩) ?_
            change wpAnyZ Try.prog .any _ _ _ _ 8 _ (mgAct _ _ _ _ _ _ _ _ _ _ _ _ _ _ _ _ _ _ _ _ _ _ _ _ _ _ _ _ _ _ _ _ _ _ _ (.slice vla outL.length vlc) (.slice (some ⟨ga, oa, none⟩) na ca) _ _ _ _ _ _ _ _ _ _ _ _ _ _ _) w9.drew
            refine wpAnyZ_takeW (i := 2) (v := .pointer (some ⟨ga, oa, none⟩)) rfl (by kernel_rfl) (by kernel_rfl) (by kernel_rfl) (fun _ _ _ h => h) (.inl ⟨rfl, fun w' hw' => exec_index rfl rfl rfl (index_lits0 w' _ _ _ _ hna)⟩) ?_
            change wpAnyZ Try.prog .any _ _ _ _ 7 _ (mgAct _ _ _ _ _ _ _ _ _ _ _ _ _ _ _ _ _ _ _ _ _ _ _ _ _ _ _ _ _ _ _ _ _ _ _ (.slice vla outL.length vlc) (.slice (some ⟨ga, oa, none⟩) na ca) (.pointer (some ⟨ga, oa, none⟩)) _ _ _ _ _ _ _ _ _ _ _ _ _ _) w9.drew
            refine wpAnyZ_take (i := 3) (v := .agg #[.int .i64 x.var, .int .i64 x.val, .bool x.neg]) rfl (by kernel_rfl) (by kernel_rfl) (by kernel_rfl) (by kernel_rfl) (fun _ _ _ h => h) (.inl ⟨rfl, fun w' hw' => exec_load rfl rfl (load_litO w' _ _ _ _ _ hw'.1 hw'.2.1 hw'.2.2)⟩) hS ?_
            change wpAnyZ Try.prog .any _ _ _ _ 6 _ (mgAct _ _ _ _ _ _ _ _ _ _ _ _ _ _ _ _ _ _ _ _ _ _ _ _ _ _ _ _ _ _ _ _ _ _ _ (.slice vla outL.length vlc) (.slice (some ⟨ga, oa, none⟩) na ca) (.pointer (some ⟨ga, oa, none⟩)) (.agg #[.int .i64 x.var, .int .i64 x.val, .bool x.neg]) _ _ _ _ _ _ _ _ _ _ _ _ _) w9.drew
            refine wpAnyZ_takeW (i := 6) (v := .slice (some ⟨ga, oa, none⟩) na ca) rfl (by kernel_rfl) (by kernel_rfl) (by kernel_rfl) (fun _ _ _ h => h) (.inl ⟨rfl, fun w' hw' => rfl⟩) ?_
            change wpAnyZ Try.prog .any _ _ _ _ 5 _ (mgAct _ _ _ _ _ _ _ _ _ _ _ _ _ _ _ _ _ _ _ _ _ _ _ _ _ _ _ _ _ _ _ _ _ _ _ (.slice vla outL.length vlc) (.slice (some ⟨ga, oa, none⟩) na ca) (.pointer (some ⟨ga, oa, none⟩)) (.agg #[.int .i64 x.var, .int .i64 x.val, .bool x.neg]) _ _ (.slice (some ⟨ga, oa, none⟩) na ca) _ _ _ _ _ _ _ _ _ _) w9.drew
            refine wpAnyZ_takeW (i := 7) (v := .slice (some (if ca = 1 then ⟨ga, oa, none⟩ else ⟨ga, oa + 3, none⟩)) (na - 1) (ca - 1)) rfl (by kernel_rfl) (by kernel_rfl) (by kernel_rfl) (fun _ _ _ h => h) (.inl ⟨rfl, fun w' hw' => exec_slice1 rfl rfl rfl (slice_one w' _ _ _ _ hna hca)⟩) ?_
            change wpAnyZ Try.prog .any _ _ _ _ 4 _ (mgAct _ _ _ _ _ _ _ _ _ _ _ _ _ _ _ _ _ _ _ _ _ _ _ _ _ _ _ _ _ _ _ _ _ _ _ (.slice vla outL.length vlc) (.slice (some ⟨ga, oa, none⟩) na ca) (.pointer (some ⟨ga, oa, none⟩)) (.agg #[.int .i64 x.var, .int .i64 x.val, .bool x.neg]) _ _ (.slice (some ⟨ga, oa, none⟩) na ca) (.slice (some (if ca = 1 then ⟨ga, oa, none⟩ else ⟨ga, oa + 3, none⟩)) (na - 1) (ca - 1)) _ _ _ _ _ _ _ _ _) w9.drew
            refine wpAnyZ_one (i := 4) (by kernel_rfl) rfl (fun K' hK' => ?_)
            refine step_value _ (w9.drew.alloc (.cells #[.int .i64 x.var, .int .i64 x.val, .bool x.neg] 47)) rfl _ (exec_build1 rfl rfl (build_one w9.drew _ _ _)) ?_
            refine hK'.out _ _ (fun _ h => litAt_below h (below1 _ _)) ?_
            clear hK' K'
            change wpAnyZ Try.prog .any _ _ _ _ 3 _ (mgAct _ _ _ _ _ _ _ _ _ _ _ _ _ _ _ _ _ _ _ _ _ _ _ _ _ _ _ _ _ _ _ _ _ _ _ (.slice vla outL.length vlc) (.slice (some ⟨ga, oa, none⟩) na ca) (.pointer (some ⟨ga, oa, none⟩)) (.agg #[.int .i64 x.var, .int .i64 x.val, .bool x.neg]) (.slice (some ⟨w9.drew.heap.size, 0, none⟩) 1 1) _ (.slice (some ⟨ga, oa, none⟩) na ca) (.slice (some (if ca = 1 then ⟨ga, oa, none⟩ else ⟨ga, oa + 3, none⟩)) (na - 1) (ca - 1)) _ _ _ _ _ _ _ _ _) (w9.drew.alloc (.cells #[.int .i64 x.var, .int .i64 x.val, .bool x.neg] 47))
            refine wpAnyZ_one (i := 5) (by kernel_rfl) rfl (fun K' hK' => ?_)
            refine step_append_litsC rfl _ _ rfl w.heap.size _ _ outL [x] rfl rfl (HO9.out.below (below1 _ _)) (ownL_one w9.drew w9.drew.heap.size (Nat.le_refl _) x).rd (by rw [World.size_alloc]; exact Nat.le_succ_of_le HS9.out) (by have := HLE.out; omega) (by simp) ?_
            intro v8 w8 own8 grow8
            refine hK'.out _ _ (fun _ h => mg_keep h grow8 HO9.out HGA.out) ?_
            clear hK' K'
            change wpAnyZ Try.prog .any _ _ _ _ 2 _ (mgAct _ _ _ _ _ _ _ _ _ _ _ _ _ _ _ _ _ _ _ _ _ _ _ _ _ _ _ _ _ _ _ _ _ _ _ (.slice vla outL.length vlc) (.slice (some ⟨ga, oa, none⟩) na ca) (.pointer (some ⟨ga, oa, none⟩)) (.agg #[.int .i64 x.var, .int .i64 x.val, .bool x.neg]) (.slice (some ⟨w9.drew.heap.size, 0, none⟩) 1 1) (v8) (.slice (some ⟨ga, oa, none⟩) na ca) (.slice (some (if ca = 1 then ⟨ga, oa, none⟩ else ⟨ga, oa + 3, none⟩)) (na - 1) (ca - 1)) _ _ _ _ _ _ _ _ _) w8
            refine wpAnyZ_takeW (i := 8) (v := v8) rfl (by kernel_rfl) (by kernel_rfl) (by kernel_rfl) (fun _ _ _ h => h) (.inl ⟨rfl, fun w' hw' => rfl⟩) ?_
            change wpAnyZ Try.prog .any _ _ _ _ 1 _ (mgAct _ _ _ _ _ _ _ (v8) _ _ _ _ _ _ _ _ _ _ _ _ _ _ _ _ _ _ _ _ _ _ _ _ _ _ _ (.slice vla outL.length vlc) (.slice (some ⟨ga, oa, none⟩) na ca) (.pointer (some ⟨ga, oa, none⟩)) (.agg #[.int .i64 x.var, .int .i64 x.val, .bool x.neg]) (.slice (some ⟨w9.drew.heap.size, 0, none⟩) 1 1) (v8) (.slice (some ⟨ga, oa, none⟩) na ca) (.slice (some (if ca = 1 then ⟨ga, oa, none⟩ else ⟨ga, oa + 3, none⟩)) (na - 1) (ca - 1)) _ _ _ _ _ _ _ _ _) w8
            refine wpAnyZ_takeW (i := 9) (v := .slice (some (if ca = 1 then ⟨ga, oa, none⟩ else ⟨ga, oa + 3, none⟩)) (na - 1) (ca - 1)) rfl (by kernel_rfl) (by kernel_rfl) (by kernel_rfl) (fun _ _ _ h => h) (.inl ⟨rfl, fun w' hw' => rfl⟩) ?_
            change wpAnyZ Try.prog .any _ _ _ _ 0 _ (mgAct (.slice (some (if ca = 1 then ⟨ga, oa, none⟩ else ⟨ga, oa + 3, none⟩)) (na - 1) (ca - 1)) _ _ _ _ _ _ (v8) _ _ _ _ _ _ _ _ _ _ _ _ _ _ _ _ _ _ _ _ _ _ _ _ _ _ _ (.slice vla outL.length vlc) (.slice (some ⟨ga, oa, none⟩) na ca) (.pointer (some ⟨ga, oa, none⟩)) (.agg #[.int .i64 x.var, .int .i64 x.val, .bool x.neg]) (.slice (some ⟨w9.drew.heap.size, 0, none⟩) 1 1) (v8) (.slice (some ⟨ga, oa, none⟩) na ca) (.slice (some (if ca = 1 then ⟨ga, oa, none⟩ else ⟨ga, oa + 3, none⟩)) (na - 1) (ca - 1)) _ _ _ _ _ _ _ _ _) w8
            refine wpAnyZ_done (by kernel_rfl) ?_ _
            unfold mgAct
            have HO8 := Lib.hid own8
            have HB8 : Hid (Below w.heap.size w w8) := Lib.hid ((B9.out.drew.alloc HS9.out _).grown grow8 (by rw [World.size_alloc]; exact Nat.le_succ_of_le HS9.out) (fun q e => (HO9.out.2.lt q e).1))
            clear own8 grow8 hS
            go_wp2
            go_roundw
            all_goals first
              | exact ⟨xs', y :: ys', outL ++ [x], HXT, HYS, HO8, HEQ2, Lib.hid (by have := HLE.out; simp at this ⊢; omega), HB8, ⟨_, _, _, rfl⟩, ⟨_, _, _, rfl⟩⟩
              | (simp [lenOf]; omega)
        · rw [h5] at HP
          have h6 : decide (0 < q) = true := HP.out
          have HEQ2 : Hid ((outL ++ [y]) ++ mgL (x :: xs') ys' = mgL la lb) := Lib.hid (by rw [← HEQ.out, mgL, if_pos h5, List.append_assoc]; rfl)
          clear h5
          go_wp2_with fail
          go_region_held3 (fun w' => w'.cell? ⟨ga, oa, none⟩ = some (.int .i64 x.var) ∧ w'.cell? ⟨ga, oa + 1, none⟩ = some (.int .i64 x.val) ∧ w'.cell? ⟨ga, oa + 2, none⟩ = some (.bool x.neg) ∧ w'.cell? ⟨gb, ob, none⟩ = some (.int .i64 y.var) ∧ w'.cell? ⟨gb, ob + 1, none⟩ = some (.int .i64 y.val) ∧ w'.cell? ⟨gb, ob + 2, none⟩ = some (.bool y.neg)) (first | exact ⟨k0, k1, k2, l0, l1, l2⟩ | exact ⟨e0, e1, e2, e3, e4, e5⟩) (first | (go_at_call 96; refine HE.out.mono ?_; rintro e w9 ⟨rfl, b9⟩; have B9 := Lib.hid (HBD.out.trans (b9.mono HBD.out.size)); have HOC9 := Lib.hid ((HOC.out.below (Below.refl _ _).drew).below b9); have e0 := (b9.cell (World.block_lt_of_cell? wr.drew _ k0)).trans k0; have e1 := (b9.cell (World.block_lt_of_cell? wr.drew _ k1)).trans k1; have e2 := (b9.cell (World.block_lt_of_cell? wr.drew _ k2)).trans k2; have e3 := (b9.cell (World.block_lt_of_cell? wr.drew _ l0)).trans l0; have e4 := (b9.cell (World.block_lt_of_cell? wr.drew _ l1)).trans l1; have e5 := (b9.cell (World.block_lt_of_cell? wr.drew _ l2)).trans l2; clear b9))
          all_goals go_wp2_with fail
          have HO9 := Lib.hid (HOC9.out.below (Below.refl _ _).drew)
          have HS9 : Hid (w.heap.size ≤ w9.drew.heap.size) := Lib.hid B9.out.drew.size
          have hS : LitAt gb ob y w9.drew := ⟨e3, e4, e5⟩
          refine region_z (LitAt gb ob y) (fun _ => false) rfl ?_
          change wpAnyZ Try.prog .any _ _ _ _ 10 _ (mgAct _ _ _ _ _ _ _ _ _ _ _ _ _ _ _ _ _ _ _ _ _ _ _ _ _ _ _ _ _ _ _ _ _ _ _ _ _ _ _ _ _ _ _ _ _ _ _ _ _ _ _ _) w9.drew
          refine wpAnyZ_takeW (i := 0) (v := .slice vla outL.length vlc) rfl (by kernel_rfl) (by kernel_rfl) (by kernel_rfl) (fun _ _ _ h => h) (.inl ⟨rfl, fun w' hw' => rfl⟩) ?_
          change wpAnyZ Try.prog .any _ _ _ _ 9 _ (mgAct _ _ _ _ _ _ _ _ _ _ _ _ _ _ _ _ _ _ _ _ _ _ _ _ _ _ _ (.slice vla outL.length vlc) _ _ _ _ _ _ _ _ _ _ _ _ _ _ _ _ _ _ _ _ _ _ _ _) w9.drew
          refine wpAnyZ_takeW (i := 1) (v := .slice (some ⟨gb, ob, none⟩) nb cb) rfl (by kernel_rfl) (by kernel_rfl) (by kernel_rfl) (fun _ _ _ h => h) (.inl ⟨rfl, fun w' hw' => rfl⟩) ?_
          change wpAnyZ Try.prog .any _ _ _ _ 8 _ (mgAct _ _ _ _ _ _ _ _ _ _ _ _ _ _ _ _ _ _ _ _ _ _ _ _ _ _ _ (.slice vla outL.length vlc) (.slice (some ⟨gb, ob, none⟩) nb cb) _ _ _ _ _ _ _ _ _ _ _ _ _ _ _ _ _ _ _ _ _ _ _) w9.drew
          refine wpAnyZ_takeW (i := 2) (v := .pointer (some ⟨gb, ob, none⟩)) rfl (by kernel_rfl) (by kernel_rfl) (by kernel_rfl) (fun _ _ _ h => h) (.inl ⟨rfl, fun w' hw' => exec_index rfl rfl rfl (index_lits0 w' _ _ _ _ hnb)⟩) ?_
          change wpAnyZ Try.prog .any _ _ _ _ 7 _ (mgAct _ _ _ _ _ _ _ _ _ _ _ _ _ _ _ _ _ _ _ _ _ _ _ _ _ _ _ (.slice vla outL.length vlc) (.slice (some ⟨gb, ob, none⟩) nb cb) (.pointer (some ⟨gb, ob, none⟩)) _ _ _ _ _ _ _ _ _ _ _ _ _ _ _ _ _ _ _ _ _ _) w9.drew
          refine wpAnyZ_take (i := 3) (v := .agg #[.int .i64 y.var, .int .i64 y.val, .bool y.neg]) rfl (by kernel_rfl) (by kernel_rfl) (by kernel_rfl) (by kernel_rfl) (fun _ _ _ h => h) (.inl ⟨rfl, fun w' hw' => exec_load rfl rfl (load_litO w' _ _ _ _ _ hw'.1 hw'.2.1 hw'.2.2)⟩) hS ?_
          change wpAnyZ Try.prog .any _ _ _ _ 6 _ (mgAct _ _ _ _ _ _ _ _ _ _ _ _ _ _ _ _ _ _ _ _ _ _ _ _ _ _ _ (.slice vla outL.length vlc) (.slice (some ⟨gb, ob, none⟩) nb cb) (.pointer (some ⟨gb, ob, none⟩)) (.agg #[.int .i64 y.var, .int .i64 y.val, .bool y.neg]) _ _ _ _ _ _ _ _ _ _ _ _ _ _ _ _ _ _ _ _ _) w9.drew
          refine wpAnyZ_takeW (i := 6) (v := .slice (some ⟨gb, ob, none⟩) nb cb) rfl (by kernel_rfl) (by kernel_rfl) (by kernel_rfl) (fun _ _ _ h => h) (.inl ⟨rfl, fun w' hw' => rfl⟩) ?_
          change wpAnyZ Try.prog .any _ _ _ _ 5 _ (mgAct _ _ _ _ _ _ _ _ _ _ _ _ _ _ _ _ _ _ _ _ _ _ _ _ _ _ _ (.slice vla outL.length vlc) (.slice (some ⟨gb, ob, none⟩) nb cb) (.pointer (some ⟨gb, ob, none⟩)) (.agg #[.int .i64 y.var, .int .i64 y.val, .bool y.neg]) _ _ (.slice (some ⟨gb, ob, none⟩) nb cb) _ _ _ _ _ _ _ _ _ _ _ _ _ _ _ _ _ _) w9.drew
          refine wpAnyZ_takeW (i := 7) (v := .slice (some (if cb = 1 then ⟨gb, ob, none⟩ else ⟨gb, ob + 3, none⟩)) (nb - 1) (cb - 1)) rfl (by kernel_rfl) (by kernel_rfl) (by kernel_rfl) (fun _ _ _ h => h) (.inl ⟨rfl, fun w' hw' => exec_slice1 rfl rfl rfl (slice_one w' _ _ _ _ hnb hcb)⟩) ?_
          change wpAnyZ Try.prog .any _ _ _ _ 4 _ (mgAct _ _ _ _ _ _ _ _ _ _ _ _ _ _ _ _ _ _ _ _ _ _ _ _ _ _ _ (.slice vla outL.length vlc) (.slice (some ⟨gb, ob, none⟩) nb cb) (.pointer (some ⟨gb, ob, none⟩)) (.agg #[.int .i64 y.var, .int .i64 y.val, .bool y.neg]) _ _ (.slice (some ⟨gb, ob, none⟩) nb cb) (.slice (some (if cb = 1 then ⟨gb, ob, none⟩ else ⟨gb, ob + 3, none⟩)) (nb - 1) (cb - 1)) _ _ _ _ _ _ _ _ _ _ _ _ _ _ _ _ _) w9.drew
          refine wpAnyZ_one (i := 4) (by kernel_rfl) rfl (fun K' hK' => ?_)
          refine step_value _ (w9.drew.alloc (.cells #[.int .i64 y.var, .int .i64 y.val, .bool y.neg] 47)) rfl _ (exec_build1 rfl rfl (build_one w9.drew _ _ _)) ?_
          refine hK'.out _ _ (fun _ h => litAt_below h (below1 _ _)) ?_
          clear hK' K'
          change wpAnyZ Try.prog .any _ _ _ _ 3 _ (mgAct _ _ _ _ _ _ _ _ _ _ _ _ _ _ _ _ _ _ _ _ _ _ _ _ _ _ _ (.slice vla outL.length vlc) (.slice (some ⟨gb, ob, none⟩) nb cb) (.pointer (some ⟨gb, ob, none⟩)) (.agg #[.int .i64 y.var, .int .i64 y.val, .bool y.neg]) (.slice (some ⟨w9.drew.heap.size, 0, none⟩) 1 1) _ (.slice (some ⟨gb, ob, none⟩) nb cb) (.slice (some (if cb = 1 then ⟨gb, ob, none⟩ else ⟨gb, ob + 3, none⟩)) (nb - 1) (cb - 1)) _ _ _ _ _ _ _ _ _ _ _ _ _ _ _ _ _) (w9.drew.alloc (.cells #[.int .i64 y.var, .int .i64 y.val, .bool y.neg] 47))
          refine wpAnyZ_one (i := 5) (by kernel_rfl) rfl (fun K' hK' => ?_)
          refine step_append_litsC rfl _ _ rfl w.heap.size _ _ outL [y] rfl rfl (HO9.out.below (below1 _ _)) (ownL_one w9.drew w9.drew.heap.size (Nat.le_refl _) y).rd (by rw [World.size_alloc]; exact Nat.le_succ_of_le HS9.out) (by have := HLE.out; omega) (by simp) ?_
          intro v8 w8 own8 grow8
          refine hK'.out _ _ (fun _ h => mg_keep h grow8 HO9.out HGB.out) ?_
          clear hK' K'
          change wpAnyZ Try.prog .any _ _ _ _ 2 _ (mgAct _ _ _ _ _ _ _ _ _ _ _ _ _ _ _ _ _ _ _ _ _ _ _ _ _ _ _ (.slice vla outL.length vlc) (.slice (some ⟨gb, ob, none⟩) nb cb) (.pointer (some ⟨gb, ob, none⟩)) (.agg #[.int .i64 y.var, .int .i64 y.val, .bool y.neg]) (.slice (some ⟨w9.drew.heap.size, 0, none⟩) 1 1) (v8) (.slice (some ⟨gb, ob, none⟩) nb cb) (.slice (some (if cb = 1 then ⟨gb, ob, none⟩ else ⟨gb, ob + 3, none⟩)) (nb - 1) (cb - 1)) _ _ _ _ _ _ _ _ _ _ _ _ _ _ _ _ _) w8
          refine wpAnyZ_takeW (i := 8) (v := v8) rfl (by kernel_rfl) (by kernel_rfl) (by kernel_rfl) (fun _ _ _ h => h) (.inl ⟨rfl, fun w' hw' => rfl⟩) ?_
          change wpAnyZ Try.prog .any _ _ _ _ 1 _ (mgAct _ _ _ _ _ _ _ (v8) _ _ _ _ _ _ _ _ _ _ _ _ _ _ _ _ _ _ _ (.slice vla outL.length vlc) (.slice (some ⟨gb, ob, none⟩) nb cb) (.pointer (some ⟨gb, ob, none⟩)) (.agg #[.int .i64 y.var, .int .i64 y.val, .bool y.neg]) (.slice (some ⟨w9.drew.heap.size, 0, none⟩) 1 1) (v8) (.slice (some ⟨gb, ob, none⟩) nb cb) (.slice (some (if cb = 1 then ⟨gb, ob, none⟩ else ⟨gb, ob + 3, none⟩)) (nb - 1) (cb - 1)) _ _ _ _ _ _ _ _ _ _ _ _ _ _ _ _ _) w8
          refine wpAnyZ_takeW (i := 9) (v := .slice (some (if cb = 1 then ⟨gb, ob, none⟩ else ⟨gb, ob + 3, none⟩)) (nb - 1) (cb - 1)) rfl (by kernel_rfl) (by kernel_rfl) (by kernel_rfl) (fun _ _ _ h => h) (.inl ⟨rfl, fun w' hw' => rfl⟩) ?_
          change wpAnyZ Try.prog .any _ _ _ _ 0 _ (mgAct _ (.slice (some (if cb = 1 then ⟨gb, ob, none⟩ else ⟨gb, ob + 3, none⟩)) (nb - 1) (cb - 1)) _ _ _ _ _ (v8) _ _ _ _ _ _ _ _ _ _ _ _ _ _ _ _ _ _ _ (.slice vla outL.length vlc) (.slice (some ⟨gb, ob, none⟩) nb cb) (.pointer (some ⟨gb, ob, none⟩)) (.agg #[.int .i64 y.var, .int .i64 y.val, .bool y.neg]) (.slice (some ⟨w9.drew.heap.size, 0, none⟩) 1 1) (v8) (.slice (some ⟨gb, ob, none⟩) nb cb) (.slice (some (if cb = 1 then ⟨gb, ob, none⟩ else ⟨gb, ob + 3, none⟩)) (nb - 1) (cb - 1)) _ _ _ _ _ _ _ _ _ _ _ _ _ _ _ _ _) w8
          refine wpAnyZ_done (by kernel_rfl) ?_ _
          unfold mgAct
          have HO8 := Lib.hid own8
          have HB8 : Hid (Below w.heap.size w w8) := Lib.hid ((B9.out.drew.alloc HS9.out _).grown grow8 (by rw [World.size_alloc]; exact Nat.le_succ_of_le HS9.out) (fun q e => (HO9.out.2.lt q e).1))
          clear own8 grow8 hS
          go_wp2
          go_roundw
          all_goals first
            | exact ⟨x :: xs', ys', outL ++ [y], HXS, HYT, HO8, HEQ2, Lib.hid (by have := HLE.out; simp at this ⊢; omega), HB8, ⟨_, _, _, rfl⟩, ⟨_, _, _, rfl⟩⟩
            | (simp [lenOf]; omega)
      · obtain rfl : nb = 0 := by omega
        have hy0 : ys = [] := List.eq_nil_of_length_eq_zero HYL.out
        have HFIN : Hid ((outL ++ xs) ++ ys = mgL la lb) := Lib.hid (by rw [← HEQ.out, hy0, mgL_nil, List.append_nil])
        clear hy0
        go_wp2_with (at_builtin; first | (refine wpList_append_litsC rfl _ _ rfl w.heap.size _ _ outL xs rfl rfl HOC.out (HXS.out.below HBW.out) HBW.out.size (by have := HLE.out; omega) (by have := HLE.out; omega) ?_; intro v10 w10 own10 grow10; have HB10 := Lib.hid (HBW.out.grown grow10 HBW.out.size (fun q e => (HOC.out.2.lt q e).1)); obtain ⟨a10, n10, c10, e10⟩ := own10.slice3; subst e10; have HO10 := Lib.hid own10; clear own10 grow10) | (refine wpList_append_litsC rfl _ _ rfl w.heap.size _ _ (outL ++ xs) ys rfl rfl HO10.out (HYS.out.below HB10.out) HB10.out.size (by have := HLE.out; rw [List.length_append]; omega) (by have := HLE.out; omega) ?_; intro v11 w11 own11 grow11; have HB11 := Lib.hid (HB10.out.grown grow11 HB10.out.size (fun q e => (HO10.out.2.lt q e).1)); obtain ⟨a11, n11, c11, e11⟩ := own11.slice3; subst e11; have HO11 := Lib.hid own11; clear own11 grow11))
        go_ret
        refine ⟨_, rfl, ?_, HB11.out⟩
        have := HO11.out
        rw [HFIN.out] at this
        exact this
    · obtain rfl : na = 0 := by omega
      have hx0 : xs = [] := List.eq_nil_of_length_eq_zero HXL.out
      have HFIN : Hid ((outL ++ xs) ++ ys = mgL la lb) := Lib.hid (by rw [← HEQ.out, hx0, List.append_nil, mgL])
      clear hx0
      go_wp2_with (at_builtin; first | (refine wpList_append_litsC rfl _ _ rfl w.heap.size _ _ outL xs rfl rfl HOC.out (HXS.out.below HBW.out) HBW.out.size (by have := HLE.out; omega) (by have := HLE.out; omega) ?_; intro v10 w10 own10 grow10; have HB10 := Lib.hid (HBW.out.grown grow10 HBW.out.size (fun q e => (HOC.out.2.lt q e).1)); obtain ⟨a10, n10, c10, e10⟩ := own10.slice3; subst e10; have HO10 := Lib.hid own10; clear own10 grow10) | (refine wpList_append_litsC rfl _ _ rfl w.heap.size _ _ (outL ++ xs) ys rfl rfl HO10.out (HYS.out.below HB10.out) HB10.out.size (by have := HLE.out; rw [List.length_append]; omega) (by have := HLE.out; omega) ?_; intro v11 w11 own11 grow11; have HB11 := Lib.hid (HB10.out.grown grow11 HB10.out.size (fun q e => (HO10.out.2.lt q e).1)); obtain ⟨a11, n11, c11, e11⟩ := own11.slice3; subst e11; have HO11 := Lib.hid own11; clear own11 grow11))
      go_ret
      refine ⟨_, rfl, ?_, HB11.out⟩
      have := HO11.out
      rw [HFIN.out] at this
      exact this
end Go.Proofs.Ytolfjkdkbiicmaa
