/- Clauses as plain data: the order of literals, the sorted union, what is in a clause. -/
import Derived.Test.YtipapmmjfoaddaaGreatLit
namespace Go.Proofs.YtipapmmjfoaddaaGreat
set_option linter.unusedVariables false
set_option linter.unusedSimpArgs false

theorem litLt_iff (a b : Lit) : litLt a b = true ↔ a.var < b.var ∨ (a.var = b.var ∧ (a.val < b.val ∨ (a.val = b.val ∧ a.neg = false ∧ b.neg = true))) := by
  unfold litLt
  by_cases h1 : a.var = b.var
  · rw [if_pos h1]
    by_cases h2 : a.val = b.val
    · rw [if_pos h2, Bool.and_eq_true, Bool.not_eq_true']
      exact ⟨fun h => .inr ⟨h1, .inr ⟨h2, h⟩⟩, fun h => by rcases h with h | ⟨_, h | ⟨_, h⟩⟩; (· omega); (· omega); (· exact h)⟩
    · rw [if_neg h2, decide_eq_true_iff]
      exact ⟨fun h => .inr ⟨h1, .inl h⟩, fun h => by rcases h with h | ⟨_, h | ⟨h, _⟩⟩; (· omega); (· exact h); (· exact absurd h h2)⟩
  · rw [if_neg h1, decide_eq_true_iff]
    exact ⟨fun h => .inl h, fun h => by rcases h with h | ⟨h, _⟩; (· exact h); (· exact absurd h h1)⟩
theorem litLt_trans {a b c : Lit} (h1 : litLt a b = true) (h2 : litLt b c = true) : litLt a c = true := by
  rw [litLt_iff] at *
  rcases h1 with h1 | ⟨h1, h1' | ⟨h1', h1n⟩⟩ <;> rcases h2 with h2 | ⟨h2, h2' | ⟨h2', h2n⟩⟩
  all_goals first
    | exact .inl (by omega)
    | exact .inr ⟨by omega, .inl (by omega)⟩
    | (exfalso; rw [h1n.2] at h2n; cases h2n.1)
theorem litLt_irrefl (a : Lit) : litLt a a = false := by
  obtain ⟨a1, a2, a3⟩ := a
  cases a3 <;> simp [litLt]
theorem litLt_total (a b : Lit) (h : litLt a b = false) : a = b ∨ litLt b a = true := by
  have h' : ¬ litLt a b = true := by rw [h]; exact Bool.false_ne_true
  rw [litLt_iff] at h' ⊢
  by_cases h1 : a.var < b.var
  · exact absurd (.inl h1) h'
  by_cases h2 : b.var < a.var
  · exact .inr (.inl h2)
  have e1 : a.var = b.var := by omega
  by_cases h3 : a.val < b.val
  · exact absurd (.inr ⟨e1, .inl h3⟩) h'
  by_cases h4 : b.val < a.val
  · exact .inr (.inr ⟨e1.symm, .inl h4⟩)
  have e2 : a.val = b.val := by omega
  cases ha : a.neg
  · cases hb : b.neg
    · exact .inl (Lit.ext' e1 e2 (by rw [ha, hb]))
    · exact absurd (.inr ⟨e1, .inr ⟨e2, ha, hb⟩⟩) h'
  · cases hb : b.neg
    · exact .inr (.inr ⟨e1.symm, .inr ⟨e2.symm, rfl, rfl⟩⟩)
    · exact .inl (Lit.ext' e1 e2 (by rw [ha, hb]))

/-- Strictly ascending. -/
def Asc (ls : List Lit) : Prop := ls.Pairwise (fun a b => litLt a b = true)
theorem asc_of_step : ∀ (ls : List Lit), (∀ i a b, ls[i]? = some a → ls[i + 1]? = some b → litLt a b = true) → Asc ls
  | [], _ => List.Pairwise.nil
  | [a], _ => List.pairwise_singleton _ _
  | a :: b :: rest, h => by
    have ih : Asc (b :: rest) := asc_of_step (b :: rest) (fun i x y hx hy => h (i + 1) x y (by simpa using hx) (by simpa using hy))
    have hab : litLt a b = true := h 0 a b rfl rfl
    refine List.pairwise_cons.2 ⟨fun c hc => ?_, ih⟩
    rcases List.mem_cons.1 hc with rfl | hc
    · exact hab
    · exact litLt_trans hab ((List.pairwise_cons.1 ih).1 c hc)
theorem clB_asc {ls : List Lit} {n : Int} (h : clB ls n = true) : Asc ls := by
  unfold clB at h
  rw [Bool.and_eq_true] at h
  refine asc_of_step ls (fun i a b ha hb => ?_)
  have hi : i + 1 < ls.length := (List.getElem?_eq_some_iff.1 hb).1
  have := List.all_eq_true.1 h.2 (i + 1) (List.mem_range.2 hi)
  rw [st_succ hb ha, Bool.and_eq_true] at this
  exact this.2
theorem clB_lit {ls : List Lit} {n : Int} (h : clB ls n = true) {l : Lit} (hl : l ∈ ls) : litOk l n = true := by
  unfold clB at h
  rw [Bool.and_eq_true] at h
  obtain ⟨i, hi⟩ := List.getElem?_of_mem hl
  have hlt : i < ls.length := (List.getElem?_eq_some_iff.1 hi).1
  have := List.all_eq_true.1 h.2 i (List.mem_range.2 hlt)
  unfold stB at this
  rw [hi] at this
  simp only [Bool.and_eq_true] at this
  exact this.1
theorem clB_len {ls : List Lit} {n : Int} (h : clB ls n = true) : ls.length ≤ 12 := by
  unfold clB at h
  rw [Bool.and_eq_true] at h
  exact of_decide_eq_true h.1

/-- Put into its place. -/
def insL : List Lit → Lit → List Lit
  | [], b => [b]
  | a :: rest, b => if litLt a b = true then a :: insL rest b else if a = b then a :: rest else b :: a :: rest
theorem mem_insL (x : Lit) : ∀ (ls : List Lit) (b : Lit), x ∈ insL ls b ↔ x ∈ ls ∨ x = b
  | [], b => by simp [insL]
  | a :: rest, b => by
    unfold insL
    split
    · rw [List.mem_cons, mem_insL x rest b, List.mem_cons, or_assoc]
    · split
      · rename_i h1 h2
        subst h2
        simp
        intro e
        exact .inl e
      · rw [List.mem_cons, List.mem_cons]
        exact ⟨fun h => by rcases h with h | h | h; exact .inr h; exact .inl (.inl h); exact .inl (.inr h), fun h => by rcases h with (h | h) | h; exact .inr (.inl h); exact .inr (.inr h); exact .inl h⟩
theorem asc_insL : ∀ (ls : List Lit) (b : Lit), Asc ls → Asc (insL ls b)
  | [], b, _ => List.pairwise_singleton _ _
  | a :: rest, b, h => by
    have hp := List.pairwise_cons.1 h
    unfold insL
    split
    · rename_i h1
      refine List.pairwise_cons.2 ⟨fun c hc => ?_, asc_insL rest b hp.2⟩
      rcases (mem_insL c rest b).1 hc with hc | rfl
      · exact hp.1 c hc
      · exact h1
    · split
      · exact h
      · rename_i h1 h2
        have hba : litLt b a = true := by
          rcases litLt_total a b (by simpa using h1) with e | e
          · exact absurd e h2
          · exact e
        refine List.pairwise_cons.2 ⟨fun c hc => ?_, h⟩
        rcases List.mem_cons.1 hc with rfl | hc
        · exact hba
        · exact litLt_trans hba (hp.1 c hc)
theorem insL_len : ∀ (ls : List Lit) (b : Lit), Asc ls → (insL ls b).length = if b ∈ ls then ls.length else ls.length + 1
  | [], b, _ => by simp [insL]
  | a :: rest, b, h => by
    have hp := List.pairwise_cons.1 h
    unfold insL
    split
    · rename_i h1
      have hne : b ≠ a := fun e => by subst e; rw [litLt_irrefl] at h1; cases h1
      rw [List.length_cons, insL_len rest b hp.2]
      by_cases hm : b ∈ rest
      · rw [if_pos hm, if_pos (List.mem_cons_of_mem _ hm), List.length_cons]
      · rw [if_neg hm, if_neg (fun e => by rcases List.mem_cons.1 e with e | e; exact hne e; exact hm e), List.length_cons]
    · split
      · rename_i h1 h2
        subst h2
        rw [if_pos (List.mem_cons_self ..)]
      · rename_i h1 h2
        have hnm : b ∉ a :: rest := fun e => by
          rcases List.mem_cons.1 e with e | e
          · exact h2 e.symm
          · exact h1 (hp.1 b e)
        rw [if_neg hnm, List.length_cons]
/-- The sorted union. -/
def mrgL (out : List Lit) (bs : List Lit) : List Lit := bs.foldl insL out
theorem mem_mrgL (x : Lit) : ∀ (bs out : List Lit), x ∈ mrgL out bs ↔ x ∈ out ∨ x ∈ bs
  | [], out => by simp [mrgL]
  | b :: bs, out => by
    show x ∈ mrgL (insL out b) bs ↔ _
    rw [mem_mrgL x bs, mem_insL, List.mem_cons, or_assoc]
theorem asc_mrgL : ∀ (bs out : List Lit), Asc out → Asc (mrgL out bs)
  | [], out, h => h
  | b :: bs, out, h => asc_mrgL bs (insL out b) (asc_insL out b h)
theorem mrgL_ge : ∀ (bs out : List Lit), Asc out → out.length ≤ (mrgL out bs).length
  | [], out, h => Nat.le_refl _
  | b :: bs, out, h => by
    have h1 := mrgL_ge bs (insL out b) (asc_insL out b h)
    have h2 := insL_len out b h
    show out.length ≤ (mrgL (insL out b) bs).length
    split at h2 <;> omega
theorem mrgL_le : ∀ (bs out : List Lit), Asc out → (mrgL out bs).length ≤ out.length + bs.length
  | [], out, h => Nat.le_refl _
  | b :: bs, out, h => by
    have h1 := mrgL_le bs (insL out b) (asc_insL out b h)
    have h2 := insL_len out b h
    show (mrgL (insL out b) bs).length ≤ _
    rw [List.length_cons]
    split at h2 <;> omega
theorem insL_in : ∀ (ls : List Lit) (b : Lit), Asc ls → b ∈ ls → insL ls b = ls
  | [], b, _, h => by cases h
  | a :: rest, b, h, hb => by
    have hp := List.pairwise_cons.1 h
    unfold insL
    split
    · rename_i h1
      rcases List.mem_cons.1 hb with rfl | hb
      · rw [litLt_irrefl] at h1; cases h1
      · rw [insL_in rest b hp.2 hb]
    · split
      · rfl
      · rename_i h1 h2
        rcases List.mem_cons.1 hb with e | hb
        · exact absurd e.symm h2
        · exact absurd (hp.1 b hb) h1
theorem mrgL_same (bs : List Lit) : ∀ (out : List Lit), Asc out → (∀ x ∈ bs, x ∈ out) → mrgL out bs = out := by
  induction bs with
  | nil => intro out _ _; rfl
  | cons b bs ih =>
    intro out h hs
    show mrgL (insL out b) bs = out
    rw [insL_in out b h (hs b (List.mem_cons_self ..))]
    exact ih out h (fun x hx => hs x (List.mem_cons_of_mem _ hx))
theorem mrgL_len_iff (bs out : List Lit) (h : Asc out) : decide ((mrgL out bs).length = out.length) = bs.all (fun l => decide (l ∈ out)) := by
  by_cases hs : ∀ x ∈ bs, x ∈ out
  · rw [mrgL_same bs out h hs, decide_eq_true rfl]
    exact (List.all_eq_true.2 (fun x hx => decide_eq_true (hs x hx))).symm
  · have hall : bs.all (fun l => decide (l ∈ out)) = false := by
      rw [List.all_eq_false]
      simp only [Classical.not_forall] at hs
      obtain ⟨x, hx, hn⟩ := hs
      exact ⟨x, hx, by simp [hn]⟩
    rw [hall, decide_eq_false_iff_not]
    intro e
    apply hs
    intro x hx
    -- a list that grew by nothing holds no new member
    have key : ∀ (bs out : List Lit), Asc out → (mrgL out bs).length = out.length → ∀ x ∈ bs, x ∈ out := by
      intro bs
      induction bs with
      | nil => intro out _ _ x hx; cases hx
      | cons b bs ih =>
        intro out h e x hx
        have e' : (mrgL (insL out b) bs).length = out.length := e
        have h1 := mrgL_ge bs (insL out b) (asc_insL out b h)
        have h2 := insL_len out b h
        by_cases hb : b ∈ out
        · have h3 := insL_in out b h hb
          rw [h3] at e'
          rcases List.mem_cons.1 hx with rfl | hx
          · exact hb
          · exact ih out h e' x hx
        · rw [if_neg hb] at h2
          omega
    exact key bs out h e x hx

/-- An assignment satisfies one of the literals. -/
def hoB (ls : List Lit) (xs : List Int) : Bool := ls.any (fun l => (decide (xs[l.var.toNat]?.getD 0 = l.val)) != l.neg)
def chB (ls : List Lit) (xs : List Int) : Bool := wiB xs.length 1 4 && allB xs 0 5 && clB ls xs.length && hoB ls xs
/-- Every literal of a is in b. -/
def suB (n : Int) (a b : List Lit) : Bool := vclB a n && vclB b n && a.all (fun l => decide (l ∈ b))
end Go.Proofs.YtipapmmjfoaddaaGreat
