/- Greatest common fixpoints of steps that only remove values: plain facts. -/
import Derived.Test.YtipapmmjfoaddaaPropP
namespace Go.Proofs.Ytipapmmjfoaddaa
open Go.ChangeShapes Go.WideShapes Go.ChangeAt Go.RowKit
set_option linter.unusedVariables false
set_option linter.unusedSimpArgs false

/-- Domains of n variables. -/
structure DomN (n : Nat) (d : List Int) : Prop where
  len : d.length = n
  small : Small d 0 63
/-- A step that only removes values, and of fewer values leaves fewer. -/
structure StepD (n : Nat) (f : List Int → List Int) : Prop where
  ok : ∀ d, DomN n d → DomN n (f d)
  le : ∀ d, DomN n d → leD (f d) d
  mono : ∀ e d, DomN n e → DomN n d → leD e d → leD (f e) (f d)
/-- No step changes e. -/
def FixF (fs : List (List Int → List Int)) (e : List Int) : Prop := ∀ f ∈ fs, f e = e
/-- r is the greatest fixpoint within d, or, where every fixpoint has an empty domain, none at all. -/
def ResF (fs : List (List Int → List Int)) (n : Nat) (d r : List Int) : Prop :=
  (FixF fs r ∧ DomN n r ∧ emptyB r = false ∧ leD r d ∧ ∀ e, DomN n e → FixF fs e → emptyB e = false → leD e d → leD e r) ∨
  (r = List.replicate n 0 ∧ ∀ e, DomN n e → FixF fs e → emptyB e = false → ¬ leD e d)
theorem DomN.okD {n : Nat} {d : List Int} (h : DomN n d) : OkD [] n d := ⟨h.len, h.small, fun c hc => by simp at hc⟩
theorem OkD.domN {cs : List Con} {n : Nat} {d : List Int} (h : OkD cs n d) : DomN n d := ⟨h.len, h.small⟩
theorem emptyN_le {n : Nat} {e x : List Int} (he : DomN n e) (hx : DomN n x) (h : leD e x) (hq : emptyB x = true) : emptyB e = true := empty_le he.okD hx.okD h hq
theorem resF_unique {fs : List (List Int → List Int)} {n : Nat} {d r r' : List Int} (h : ResF fs n d r) (k : ResF fs n d r') : r = r' := by
  rcases h with ⟨f, o, ne, l, g⟩ | ⟨e, g⟩
  · rcases k with ⟨f', o', ne', l', g'⟩ | ⟨e', g'⟩
    · exact leD.antisymm (o.len.trans o'.len.symm) o.small o'.small (g' r o f ne l) (g r' o' f' ne' l')
    · exact absurd l (g' r o f ne)
  · rcases k with ⟨f', o', ne', l', g'⟩ | ⟨e', _⟩
    · exact absurd l' (g r' o' f' ne')
    · rw [e, e']
/-- What stands while steps are taken. -/
structure RunF (fs : List (List Int → List Int)) (n : Nat) (d x : List Int) : Prop where
  ok : DomN n x
  le : leD x d
  low : ∀ e, DomN n e → FixF fs e → emptyB e = false → leD e d → leD e x
theorem RunF.start {fs : List (List Int → List Int)} {n : Nat} {d : List Int} (h : DomN n d) : RunF fs n d d := ⟨h, leD.refl _, fun _ _ _ _ h => h⟩
theorem RunF.step {fs : List (List Int → List Int)} {n : Nat} {d x : List Int} {f : List Int → List Int} (h : RunF fs n d x) (hf : f ∈ fs) (hs : StepD n f) : RunF fs n d (f x) :=
  ⟨hs.ok x h.ok, (hs.le x h.ok).trans h.le, fun e he hfe hne hl => by
    have := hs.mono e x he h.ok (h.low e he hfe hne hl)
    rwa [hfe f hf] at this⟩
theorem RunF.done {fs : List (List Int → List Int)} {n : Nat} {d x : List Int} (h : RunF fs n d x) (hf : FixF fs x) (he : emptyB x = false) : ResF fs n d x := .inl ⟨hf, h.ok, he, h.le, h.low⟩
theorem RunF.fail {fs : List (List Int → List Int)} {n : Nat} {d x : List Int} (h : RunF fs n d x) (he : emptyB x = true) : ResF fs n d (List.replicate n 0) :=
  .inr ⟨rfl, fun e hd hf hne hl => by
    have := emptyN_le hd h.ok (h.low e hd hf hne hl) he
    rw [hne] at this
    cases this⟩
/-- The steps, one after the other. -/
def appF (fs : List (List Int → List Int)) (d : List Int) : List Int := fs.foldl (fun d f => f d) d
theorem appF_cons (f : List Int → List Int) (fs : List (List Int → List Int)) (d : List Int) : appF (f :: fs) d = appF fs (f d) := rfl
theorem appF_snoc {fs : List (List Int → List Int)} {d : List Int} {j : Nat} {f : List Int → List Int} (h : fs[j]? = some f) : appF (fs.take (j + 1)) d = f (appF (fs.take j) d) := by
  unfold appF
  rw [List.take_add_one, h, List.foldl_append]
  rfl
theorem appF_step {n : Nat} : ∀ {fs : List (List Int → List Int)}, (∀ f ∈ fs, StepD n f) → StepD n (appF fs)
  | [], _ => ⟨fun d h => h, fun d h => leD.refl _, fun e d _ _ h => h⟩
  | f :: fs, h => by
    have h0 := h f (by simp)
    have ih := appF_step (fs := fs) (fun g hg => h g (by simp [hg]))
    exact ⟨fun d hd => ih.ok _ (h0.ok d hd), fun d hd => (ih.le _ (h0.ok d hd)).trans (h0.le d hd), fun e d he hd hl => ih.mono _ _ (h0.ok e he) (h0.ok d hd) (h0.mono e d he hd hl)⟩
theorem appF_fix {n : Nat} : ∀ {fs : List (List Int → List Int)} {x : List Int}, (∀ f ∈ fs, StepD n f) → DomN n x → appF fs x = x → FixF fs x
  | [], x, _, _, _ => fun f hf => by simp at hf
  | f :: fs, x, h, hx, he => by
    have h0 := h f (by simp)
    have ih := appF_step (fs := fs) (fun g hg => h g (by simp [hg]))
    rw [appF_cons] at he
    have e1 : f x = x := leD.antisymm ((h0.ok x hx).len.trans hx.len.symm) (h0.ok x hx).small hx.small (h0.le x hx) (by
      have := ih.le (f x) (h0.ok x hx)
      rw [he] at this
      exact this)
    rw [e1] at he
    have := appF_fix (fs := fs) (fun g hg => h g (by simp [hg])) hx he
    intro g hg
    rcases List.mem_cons.1 hg with rfl | hg
    · exact e1
    · exact this g hg
theorem RunF.sub {fs : List (List Int → List Int)} {n : Nat} {d x : List Int} : ∀ {gs : List (List Int → List Int)}, RunF fs n d x → (∀ g ∈ gs, g ∈ fs) → (∀ f ∈ fs, StepD n f) → RunF fs n d (appF gs x)
  | [], h, _, _ => h
  | g :: gs, h, hg, hs => by
    rw [appF_cons]
    exact RunF.sub (gs := gs) (h.step (hg g (by simp)) (hs g (hg g (by simp)))) (fun k hk => hg k (by simp [hk])) hs
theorem RunF.app {fs : List (List Int → List Int)} {n : Nat} {d x : List Int} (h : RunF fs n d x) (hs : ∀ f ∈ fs, StepD n f) : RunF fs n d (appF fs x) := h.sub (fun _ hg => hg) hs
/-- A step that changes something leaves fewer values. -/
theorem StepD.lt {n : Nat} {f : List Int → List Int} {x : List Int} (h : StepD n f) (hx : DomN n x) (hne : f x ≠ x) : bitsD (f x) < bitsD x := by
  rcases bits_lt ((h.ok x hx).len.trans hx.len.symm) (small_mem.1 (h.ok x hx).small) (small_mem.1 hx.small) (h.le x hx) with e | e
  · exact absurd e hne
  · exact e
theorem StepD.bits_le {n : Nat} {f : List Int → List Int} {x : List Int} (h : StepD n f) (hx : DomN n x) : bitsD (f x) ≤ bitsD x := by
  rcases bits_lt ((h.ok x hx).len.trans hx.len.symm) (small_mem.1 (h.ok x hx).small) (small_mem.1 hx.small) (h.le x hx) with e | e
  · rw [e]; exact Nat.le_refl _
  · omega
/-- Rounds of all steps, k of them at most. -/
def itF (fs : List (List Int → List Int)) : Nat → List Int → List Int
  | 0, d => d
  | k + 1, d => if appF fs d = d then d else itF fs k (appF fs d)
/-- What the steps leave of the domains d. -/
def fxF (fs : List (List Int → List Int)) (d : List Int) : List Int :=
  let x := itF fs (bitsD d + 1) d
  if emptyB x then List.replicate d.length 0 else x
theorem itF_run {fs : List (List Int → List Int)} {n : Nat} {d : List Int} (hs : ∀ f ∈ fs, StepD n f) : ∀ (k : Nat) (x : List Int), RunF fs n d x → bitsD x < k → RunF fs n d (itF fs k x) ∧ FixF fs (itF fs k x)
  | 0, x, _, hb => by omega
  | k + 1, x, h, hb => by
    rw [itF]
    split
    · rename_i hq; exact ⟨h, appF_fix hs h.ok hq⟩
    · rename_i hq
      exact itF_run hs k (appF fs x) (h.app hs) (by have := (appF_step hs).lt h.ok hq; omega)
theorem fxF_res {fs : List (List Int → List Int)} {n : Nat} {d : List Int} (hs : ∀ f ∈ fs, StepD n f) (hd : DomN n d) : ResF fs n d (fxF fs d) := by
  have hr := itF_run hs (bitsD d + 1) d (RunF.start hd) (by omega)
  unfold fxF
  simp only
  split
  · rename_i he
    rw [hd.len]
    exact hr.1.fail he
  · rename_i he
    exact hr.1.done hr.2 (by simpa using he)
theorem fxF_eq {fs : List (List Int → List Int)} {n : Nat} {d r : List Int} (hs : ∀ f ∈ fs, StepD n f) (hd : DomN n d) (h : ResF fs n d r) : r = fxF fs d := resF_unique h (fxF_res hs hd)
theorem ResF.domN {fs : List (List Int → List Int)} {n : Nat} {d r : List Int} (h : ResF fs n d r) : DomN n r := by
  rcases h with ⟨_, o, _⟩ | ⟨e, _⟩
  · exact o
  · subst e
    refine ⟨by simp, fun j hj => ?_⟩
    rw [List.length_replicate] at hj
    rw [List.getElem?_replicate, if_pos hj]
    simp
theorem zeros_domN (n : Nat) : DomN n (List.replicate n 0) := by
  refine ⟨by simp, fun j hj => ?_⟩
  rw [List.length_replicate] at hj
  rw [List.getElem?_replicate, if_pos hj]
  simp
theorem zeros_le (n : Nat) (d : List Int) : leD (List.replicate n 0) d := by
  intro v a h
  rw [List.getElem?_replicate] at h
  split at h
  · rw [show ((some (0 : Int)).getD 0) = 0 from rfl, hasB_zero] at h; cases h
  · rw [show ((none : Option Int).getD 0) = 0 from rfl, hasB_zero] at h; cases h
theorem zeros_empty {n : Nat} (h : 1 ≤ n) : emptyB (List.replicate n 0) = true := by
  unfold emptyB
  rw [decide_eq_true_iff, List.mem_replicate]
  exact ⟨by omega, rfl⟩

/-! ### Propagation as one step -/
theorem pro_domN {cs : List Con} {n : Nat} {d : List Int} (h : OkD cs n d) : DomN n (proL cs d) := by
  rcases proL_res h with ⟨_, o, _⟩ | ⟨e, _⟩
  · exact o.domN
  · rw [e]; exact zeros_domN n
theorem pro_step {cs : List Con} {n : Nat} (hv : ∀ c ∈ cs, VarsOk c n) : StepD n (proL cs) := by
  have hok : ∀ d, DomN n d → OkD cs n d := fun d h => ⟨h.len, h.small, hv⟩
  refine ⟨fun d h => pro_domN (hok d h), fun d h => ?_, fun e d he hd hl => ?_⟩
  · rcases proL_res (hok d h) with ⟨_, _, _, l, _⟩ | ⟨e, _⟩
    · exact l
    · rw [e]; exact zeros_le n d
  · rcases proL_res (hok e he) with ⟨f, o, ne, l, g⟩ | ⟨e0, _⟩
    · rcases proL_res (hok d hd) with ⟨f', o', ne', l', g'⟩ | ⟨e0, x, xo, xe, xg⟩
      · exact g' _ o f (l.trans hl)
      · have := empty_le o xo (xg _ o f (l.trans hl)) xe
        rw [ne] at this
        cases this
    · rw [e0]; exact zeros_le n _
/-- What propagation leaves is left as it is. -/
theorem pro_again {cs : List Con} {n : Nat} {d : List Int} (h : OkD cs n d) (h1 : 1 ≤ n) : proL cs (proL cs d) = proL cs d := by
  have hp : OkD cs n (proL cs d) := ⟨(pro_domN h).len, (pro_domN h).small, h.vars⟩
  rcases proL_res h with ⟨f, o, ne, l, g⟩ | ⟨e, x, xo, xe, xg⟩
  · exact (proL_eq hp (.inl ⟨f, o, ne, leD.refl _, fun e _ _ hl => hl⟩)).symm
  · rw [e] at hp ⊢
    exact (proL_eq hp (.inr ⟨rfl, List.replicate n 0, hp, zeros_empty h1, fun e _ _ hl => hl⟩)).symm
theorem pro_empty {cs : List Con} {n : Nat} {d : List Int} (h : OkD cs n d) (he : emptyB (proL cs d) = true) : proL cs d = List.replicate n 0 := by
  rcases proL_res h with ⟨f, o, ne, l, g⟩ | ⟨e, _⟩
  · rw [ne] at he; cases he
  · exact e
end Go.Proofs.Ytipapmmjfoaddaa
