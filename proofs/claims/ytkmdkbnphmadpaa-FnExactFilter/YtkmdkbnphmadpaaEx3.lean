/- The tuples of the program's propagator: all that begin with p, in their order. -/
import Derived.Test.YtkmdkbnphmadpaaEx2
namespace Go.Proofs.Ytkmdkbnphmadpaa
open Go.ChangeShapes Go.WideShapes Go.ChangeAt Go.RowKit Go.Shelf
set_option linter.unusedVariables false
set_option linter.unusedSimpArgs false

theorem ext_all (l bx nv : Nat) (vv fv dv : Value) (ds vars : List Int) (hn : vars.length = nv) (hn4 : nv ≤ 4) (hds : Small ds 0 63) (hvr : Small vars 0 ((ds.length : Int) - 1))
    (J : List (List Int) → World → Prop) (Jx : World → Prop) (hJ : ∀ T X Y, J T X → Below bx X Y → J T Y) (hJx : ∀ X Y, Jx X → Below bx X Y → Jx Y)
    (hJr : ∀ T X, J T X → RdInts X vv vars ∧ RdInts X dv ds)
    (hY : ∀ T t W1, J T W1 → XT bx nv t W1 → t.length = nv → Small t 0 5 → YieldAt Fence.wide 5 Try.prog l #[.slice (some ⟨bx, 0, none⟩) nv nv] W1 fun e W' => (e = .returned (.bool true) ∧ J (T ++ [t]) W' ∧ Kq bx W1 W') ∨ (e = .returned (.bool false) ∧ Jx W' ∧ Kq bx W1 W')) :
    ∀ (vs p : List Int), vs = vars.drop p.length → p.length ≤ nv → Small p 0 5 → ∀ T W, J T W → XT bx nv p W →
      Calls Try.prog 157 #[.agg #[vv, fv], dv, .slice (some ⟨bx, 0, none⟩) p.length nv, .func (.yield l) #[] #[]] W fun e W' =>
        (e = .returned (.bool true) ∧ J (T ++ (tups ds vs).map (p ++ ·)) W' ∧ XT bx nv p W' ∧ Kr bx W W') ∨ (e = .returned (.bool false) ∧ Jx W' ∧ Kr bx W W') := by
  intro vs
  induction vs with
  | nil =>
    intro p hd hp hs T W hj hx
    have hpl : p.length = nv := by have := congrArg List.length hd; simp at this; omega
    obtain ⟨r1, r2⟩ := hJr T W hj
    have e : T ++ (tups ds []).map (p ++ ·) = T ++ [p] := by simp [tups]
    rw [e, hpl]
    exact ext_whole l bx nv vv fv dv ds vars p (J (T ++ [p])) Jx W r1 r2 hn hpl hx (fun X Y h b => hJ _ X Y h b) hJx (fun W1 b x => hY T p W1 (hJ T W W1 hj b) x hpl hs)
  | cons v vs ih =>
    intro p hd hp hs T W hj hx
    have hlt : p.length < vars.length := by
      have := congrArg List.length hd
      simp at this; omega
    have hdr := List.drop_eq_getElem_cons hlt
    rw [hdr] at hd
    obtain ⟨hv, hvs⟩ := List.cons.inj hd
    obtain ⟨g1, g2⟩ := hvr p.length hlt
    rw [List.getElem?_eq_getElem hlt, Option.getD_some, ← hv] at g1 g2
    obtain ⟨z, rfl⟩ := Int.eq_ofNat_of_zero_le g1
    have hzl : z < ds.length := by omega
    obtain ⟨d1, d2⟩ := hds z hzl
    obtain ⟨r1, r2⟩ := hJr T W hj
    have key := ext_more l bx nv vv fv dv ds vars p (ds[z]?.getD 0) z (fun k X => J (T ++ (vL (ds[z]?.getD 0) k).flatMap fun a => (tups ds vs).map (fun t => p ++ a :: t)) X) Jx W r1 r2 hn hn4 (by omega) hx
      (by rw [List.getElem?_eq_getElem hlt, Option.getD_some, ← hv]) hzl rfl d1 d2 (fun k X Y h b => hJ _ X Y h b) hJx (by simpa [vL] using hj)
      (fun k X hk hh h => by simpa [vL, hh] using h)
      (fun k X hk hh h hxk => by
        have hl1 : (p ++ [(k : Int)]).length = p.length + 1 := by simp
        have hsk : Small (p ++ [(k : Int)]) 0 5 := by
          intro j hj'
          rw [hl1] at hj'
          by_cases e : j < p.length
          · rw [List.getElem?_append_left e]; exact hs j e
          · obtain rfl : j = p.length := by omega
            simp; omega
        have i1 := ih (p ++ [(k : Int)]) (by rw [hl1]; exact hvs) (by rw [hl1]; omega) hsk _ X h hxk
        rw [hl1] at i1
        refine i1.mono ?_
        rintro e X' (⟨he, h1, h2⟩ | h2)
        · refine .inl ⟨he, ?_, h2⟩
          have e1 : (vL (ds[z]?.getD 0) (k + 1)).flatMap (fun a => (tups ds vs).map (fun t => p ++ a :: t)) = (vL (ds[z]?.getD 0) k).flatMap (fun a => (tups ds vs).map (fun t => p ++ a :: t)) ++ (tups ds vs).map ((p ++ [(k : Int)]) ++ ·) := by
            rw [vL, hh, List.flatMap_append]; simp
          show J (T ++ _) X'
          rw [e1, ← List.append_assoc]
          exact h1
        · exact .inr h2)
    refine key.mono ?_
    rintro e X' (⟨he, h1, h2⟩ | h2)
    · refine .inl ⟨he, ?_, h2⟩
      have e1 : (tups ds ((z : Int) :: vs)).map (p ++ ·) = (vL (ds[z]?.getD 0) 6).flatMap fun a => (tups ds vs).map (fun t => p ++ a :: t) := by
        rw [tups, List.map_flatMap]
        simp only [List.map_map]
        rfl
      rw [e1]
      exact h1
    · exact .inr h2
end Go.Proofs.Ytkmdkbnphmadpaa
