/- Draws of clauses. -/
import Derived.Test.YtolfjkdkbiicmaaLitG
import Derived.Test.YtolfjkdkbiicmaaLitPr
import Derived.Test.YtolfjkdkbiicmaaDrD
import Derived.Test.YtolfjkdkbiicmaaWo
namespace Go.Proofs.Ytolfjkdkbiicmaa
open Go.ChangeShapes Go.WideShapes Go.ChangeAt Go.RowKit Go.Deep Go.Shelf
set_option linter.unusedVariables false
set_option linter.unusedSimpArgs false

section
variable {P : Program} {ops : Array Oper} {Q : Exit → Act → World → Prop} {md : Region.Mode} {S : World → Prop} {X : Nat → Bool}
/-- Two operations may come up. -/
theorem wpAnyX_two {i j : Nat} {o q : Oper} {fuel : Nat} {listed : Array Bool} {a : Act} {w : World} (hr : Region.ready md ops listed = [i, j]) (ho : ops[i]? = some o) (hq : ops[j]? = some q)
    (h : ∀ K' : Act → World → Prop, Shut (∀ a w, (X i = false → S w) → wpAnyX P md ops Q S X fuel (listed.setIfInBounds i true) a w → K' a w) → if Region.wanted o (yielded ops a.tmps) = true then Oper.wp P o a w K' Q else K' (a.put o.dst undef) w)
    (h' : ∀ K' : Act → World → Prop, Shut (∀ a w, (X j = false → S w) → wpAnyX P md ops Q S X fuel (listed.setIfInBounds j true) a w → K' a w) → if Region.wanted q (yielded ops a.tmps) = true then Oper.wp P q a w K' Q else K' (a.put q.dst undef) w) :
    wpAnyX P md ops Q S X (fuel + 1) listed a w := by
  refine ⟨fun h0 => absurd (hr.symm.trans h0) (by simp), fun k hk => ?_⟩
  rw [hr] at hk
  rcases (show k = i ∨ k = j by simpa using hk) with rfl | rfl
  · exact wpOp_step ho (fun K' hK => h K' (fun a w hS hW => hK a w ⟨hS, hW⟩))
  · exact wpOp_step hq (fun K' hK => h' K' (fun a w hS hW => hK a w ⟨hS, hW⟩))
end

theorem OwnL.dn {w w' : World} {B base : Nat} {v : Value} {ls : List Lit} (h : OwnL w base v ls) (hB : B < base) (hd : Dn B w w') : OwnL w' base v ls := by
  obtain ⟨h1, g, c, rfl, h2, h3, h4, h5⟩ := h
  refine ⟨⟨h1.1, ?_⟩, g, c, rfl, h2, h3, h4, Nat.lt_of_lt_of_le h5 hd.size⟩
  rcases h1.2 with ⟨e, _⟩ | ⟨g', cap, cur, e, t1, t2, rest⟩
  · cases e
  · exact .inr ⟨g', cap, cur, e, t1, (hd.block g' (Array.getElem?_eq_some_iff.1 t2).1 (by omega)).trans t2, rest⟩
/-- A clause that was drawn. -/
def ClDn (n0 B : Nat) (p s : Int) (m : Nat) (w : World) (e : Ending) (w' : World) : Prop :=
  ∃ (v : Value) (ls : List Lit) (p' : Int), e = .returned v ∧ OwnL w' w.heap.size v ls ∧ ls.length ≤ m ∧ p ≤ p' ∧ p' ≤ p + s ∧ Rd n0 B p' w' ∧ Dn B w w'

set_option maxRecDepth 100000 in
set_option maxHeartbeats 8000000 in
theorem randomClause_any (n0 B : Nat) (n p : Int) (w : World) (hR : Rd n0 B p w) (hp : 0 ≤ p) (hp2 : p ≤ 10000000) (hn : n ≤ 1000000) :
    Calls Try.prog 103 #[.pointer (some ⟨B, 0, none⟩), .int .i64 n] w (ClDn n0 B p 10 3 w) := by
  have hlt := hR.lt
  obtain ⟨W1, hW1⟩ : ∃ W1, w.alloc (.cells #[] 47) = W1 := ⟨_, rfl⟩
  have b1 : Below w.heap.size w W1 := by rw [← hW1]; exact (Below.refl _ _).alloc (Nat.le_refl _) _
  have HO0 : Hid (OwnL W1 w.heap.size (.slice (some ⟨w.heap.size, 0, none⟩) 0 0) []) := Lib.hid (by rw [← hW1]; exact ownL_new w _ (Nat.le_refl _))
  have HR0 := Lib.hid (hR.below (b1.mono (by omega)))
  have HD0 := Lib.hid (Dn.of_below b1 (B := B))
  have HLT := Lib.hid hlt
  have HW := Lib.hid hW1
  clear hR hlt hW1 b1
  go_enter Try.func103, Try.ntmps103
  go_wp2_with fail
  rw [HW.out]
  refine (pick_dn n0 B p 4 W1 HR0.out (by omega) (by omega) (by omega)).mono ?_
  rintro e w1 ⟨x, rfl, hx0, hx1, r1, d1⟩
  obtain ⟨k0, rfl⟩ := Int.eq_ofNat_of_zero_le hx0
  have hk0 : k0 ≤ 3 := by omega
  have HR1 := Lib.hid r1
  have HO1 := Lib.hid (HO0.out.dn HLT.out d1)
  have HD1 := Lib.hid (HD0.out.trans d1)
  clear r1 d1 hx0 hx1 HR0 HO0 HD0 HW
  go_wp2
  go_loopw [5, 6] (fun o i wr => ∃ (j : Nat) (ls : List Lit) (q : Int), i = .int .i64 j ∧ j ≤ 3 ∧ p ≤ q ∧ q + 3 * j ≤ p + 10 ∧ Hid (ls.length + j ≤ 3) ∧ Hid (OwnL wr w.heap.size o ls) ∧ Hid (Rd n0 B q wr) ∧ Hid (Dn B w wr)) (fun _ i _ => (intOf i).toNat)
  case atStart => exact ⟨k0, [], p + 1, rfl, hk0, by omega, by omega, Lib.hid (by simpa using hk0), HO1, HR1, HD1⟩
  case round =>
    obtain ⟨j, ls, q, rfl, hj, hq, hq2, HLS, HO, HR, HD⟩ := hrel
    by_cases hj0 : 0 < j
    · clear HR1 HO1 HD1
      go_wp2_with fail
      refine (pick_dn n0 B q n wr HR.out (by omega) (by omega) (by omega)).mono ?_
      rintro e w2 ⟨x, rfl, hx0, hx1, r2, d2⟩
      have HR2 := Lib.hid r2
      have HO2 := Lib.hid (HO.out.dn HLT.out d2)
      have HD2 := Lib.hid (HD.out.trans d2)
      clear r2 d2 hx0 hx1 HR HO HD
      go_wp2_with fail
      refine (pick_dn n0 B (q + 1) 4 w2 HR2.out (by omega) (by omega) (by omega)).mono ?_
      rintro e w3 ⟨y, rfl, hy0, hy1, r3, d3⟩
      have HR3 := Lib.hid r3
      have HO3 := Lib.hid (HO2.out.dn HLT.out d3)
      have HD3 := Lib.hid (HD2.out.trans d3)
      clear r3 d3 hy0 hy1 HR2 HO2 HD2
      go_wp2_with fail
      refine (pick_dn n0 B (q + 1 + 1) 2 w3 HR3.out (by omega) (by omega) (by omega)).mono ?_
      rintro e w4 ⟨z, rfl, hz0, hz1, r4, d4⟩
      obtain ⟨zb, hzb⟩ : ∃ zb, zb = (z == 0) := ⟨_, rfl⟩
      have hO4 := HO3.out.dn HLT.out d4
      have hD4 := HD3.out.trans d4
      have hsz : w.heap.size ≤ w4.heap.size := hD4.size
      obtain ⟨W5, hW5⟩ : ∃ W5, w4.alloc (.cells #[.int .i64 x, .int .i64 y, .bool zb] 47) = W5 := ⟨_, rfl⟩
      have b5 : Below w4.heap.size w4 W5 := by rw [← hW5]; exact (Below.refl _ _).alloc (Nat.le_refl _) _
      have HL5 : Hid (RdLits W5 (.slice (some ⟨w4.heap.size, 0, none⟩) 1 1) [⟨x, y, zb⟩]) := Lib.hid (by rw [← hW5]; exact (ownL_one w4 _ (Nat.le_refl _) ⟨x, y, zb⟩).rd)
      have HO5 := Lib.hid (hO4.below b5)
      have HR5 := Lib.hid (r4.below (b5.mono (by have := r4.lt; omega)))
      have HD5 := Lib.hid (hD4.trans (Dn.of_below b5))
      have HW5 := Lib.hid hW5
      have HZB := Lib.hid hzb
      have HSZ := Lib.hid hsz
      have HS5 := Lib.hid b5.size
      clear r4 d4 hz0 hz1 hO4 hD4 hsz hW5 b5 HR3 HO3 HD3 hzb
      go_wp2_with fail
      rw [← HZB.out, HW5.out]
      refine (smerge_gen _ _ ls [⟨x, y, zb⟩] W5 HO5.out.rd HL5.out (by have := HLS.out; omega) (by simp)).mono ?_
      rintro e w6 ⟨v6, rfl, o6, b6⟩
      have HLS6 : Hid ((mrgL ls [⟨x, y, zb⟩]).length + (j - 1) ≤ 3) := Lib.hid (by
        have h1 := mrgL_leA [⟨x, y, zb⟩] ls
        have h2 := HLS.out
        simp only [List.length_singleton] at h1
        omega)
      have HO6 := Lib.hid (o6.mono (Nat.le_trans HSZ.out HS5.out))
      have HR6 := Lib.hid (HR5.out.below (b6.mono (by have := HR5.out.lt; omega)))
      have HD6 := Lib.hid (HD5.out.trans (Dn.of_below b6))
      clear o6 b6 HR5 HO5 HD5 HL5 HW5 HZB
      go_wp2
      go_roundw
      case rel => exact ⟨j - 1, _, q + 1 + 1 + 1, by go_num, by omega, by omega, by omega, HLS6, HO6, HR6, HD6⟩
      case measure => simp [intOf]; omega
    · obtain rfl : j = 0 := by omega
      obtain ⟨_, g, c, evo, _⟩ := HO.out
      rw [evo] at HO ⊢
      clear evo
      go_wp2
      go_ret
      exact ⟨_, ls, q, rfl, HO.out, by have := HLS.out; omega, hq, by omega, HR.out, HD.out⟩

theorem index00_lits (w : World) (b n c : Nat) (hj : 0 < n) : (Instr.indexAt 41 (.slice (some ⟨b, 0, none⟩) n c) (.int .i64 0)).run Try.prog w = .ok (.pointer (some ⟨b, 0, none⟩)) w := by
  go_simp
theorem litAt_low {B o K : Nat} {l : Lit} {w w' : World} (h : LitAt B o l w) (b : Below K w w') (hB : B < K) : LitAt B o l w' := ⟨(b.cell hB).trans h.1, (b.cell hB).trans h.2.1, (b.cell hB).trans h.2.2⟩
theorem rdLits_far {w w' : World} {g c : Nat} {ls : List Lit} {r : Option Nat} (h : RdLits w (.slice (some ⟨g, 0, none⟩) 1 c) ls) (hg : w.grownBy w' r) (hr : ∀ q, r = some q → q ≠ g) : RdLits w' (.slice (some ⟨g, 0, none⟩) 1 c) ls := by
  obtain ⟨a, cap, e, h1, h2, h3⟩ := h
  refine ⟨a, cap, e, h1, h2, ?_⟩
  rcases h3 with h3 | ⟨b, off, ea, h3⟩
  · exact .inl h3
  · have eb : b = g := by simp at e; rw [ea] at e; simp at e; exact e.1.1.symm
    subst eb
    refine .inr ⟨b, off, ea, fun i l hi => ?_⟩
    obtain ⟨t0, t1, t2⟩ := h3 i l hi
    have hb := World.block_lt_of_cell? w _ t0
    have hk : w'.heap[b]? = w.heap[b]? := hg.block b hb (fun e => hr b e.symm rfl)
    exact ⟨(wo_cell_same hk).trans t0, (wo_cell_same hk).trans t1, (wo_cell_same hk).trans t2⟩
theorem exec_build0 {P : Program} {w w' : World} {ev : Operand → Value} {o : Oper} {ty : TypeId} {r : Value} (ho : o.op = .buildSlice ty 0 #[]) (hl : (Instr.buildSlice ty 0 #[]).run P w = .ok r w') : (execOp ev o).run P w = .ok (.value r) w' := by
  unfold execOp
  simp only [ho]
  simp only [ho, List.map_toArray, List.map_nil, Sem.run_bind, Sem.run_pure, Result.andThen_ok, hl]
def acAct (z0 z1 z2 z3 z4 z5 z6 z7 z8 z9 z10 z11 z12 z13 z14 z15 z16 z17 z18 z19 z20 z21 z22 z23 z24 z25 z26 z27 z28 z29 z30 z31 z32 z33 z34 z35 z36 z37 z38 : Value) : Act := { tmps := #[z0, z1, z2, z3, z4, z5, z6, z7, z8, z9, z10, z11, z12, z13, z14, z15, z16, z17, z18, z19, z20, z21, z22, z23, z24, z25, z26, z27, z28, z29, z30, z31, z32, z33, z34, z35, z36, z37, z38], defers := [] }
set_option maxRecDepth 100000 in
set_option maxHeartbeats 16000000 in
theorem anyClause_any (n0 B : Nat) (n p : Int) (w : World) (hR : Rd n0 B p w) (hp : 0 ≤ p) (hp2 : p ≤ 1000000) (hn : n ≤ 1000000) :
    Calls Try.prog 86 #[.pointer (some ⟨B, 0, none⟩), .int .i64 n] w (ClDn n0 B p 13 4 w) := by
  have HLT := Lib.hid hR.lt
  have HR := Lib.hid hR
  clear hR
  go_enter Try.func86, Try.ntmps86
  go_wp2_with fail
  refine (randomClause_any n0 B n p w HR.out hp (by omega) hn).mono ?_
  rintro e w1 ⟨v1, ls, p1, rfl, o1, hl1, hp1, hp1', r1, d1⟩
  have HO1 := Lib.hid o1
  have HR1 := Lib.hid r1
  have HD1 := Lib.hid d1
  have HL1 := Lib.hid hl1
  clear o1 r1 d1 hl1 HR
  go_wp2_with fail
  refine (pick_dn n0 B p1 16 w1 HR1.out (by omega) (by omega) (by omega)).mono ?_
  rintro e w2 ⟨x, rfl, hx0, hx1, r2, d2⟩
  have HR2 := Lib.hid r2
  have HO2 := Lib.hid (HO1.out.dn HLT.out d2)
  have HD2 := Lib.hid (HD1.out.trans d2)
  clear r2 d2 HR1 HO1 HD1
  by_cases e0 : x = 0
  · subst e0
    clear hx0 hx1
    obtain ⟨W3, hW3⟩ : ∃ W3, w2.alloc (.cells #[.int .i64 (-1), .int .i64 n] 3) = W3 := ⟨_, rfl⟩
    have q3 : W3.heap[w2.heap.size]? = some (.cells #[.int .i64 (-1), .int .i64 n] 3) := by rw [← hW3]; exact World.alloc_heap_new _ _
    have hc3 : ∀ i, i < 2 → W3.cell? ⟨w2.heap.size, i, none⟩ = some (.int .i64 (([-1, n] : List Int)[i]?.getD 0)) := fun i hi => by
      simp only [World.cell?, q3]
      have : i = 0 ∨ i = 1 := by omega
      rcases this with rfl | rfl <;> rfl
    have b3 : Below w2.heap.size w2 W3 := by rw [← hW3]; exact (Below.refl _ _).alloc (Nat.le_refl _) _
    have hRl := HR2.out.lt
    have HR3 := Lib.hid (HR2.out.below (b3.mono (by omega)))
    have HD3 := Lib.hid (HD2.out.trans (Dn.of_below b3))
    have HO3 := Lib.hid (HO2.out.below b3)
    have HC3 := Lib.hid hc3
    have HW3 := Lib.hid hW3
    have HNE := Lib.hid (show w2.heap.size ≠ B by omega)
    clear hW3 q3 hc3 b3 hRl HR2 HO2 HD2
    go_wp2_with fail
    rw [HW3.out]
    refine (one_dn n0 B w2.heap.size 2 (p1 + 1) (fun i => ([-1, n] : List Int)[i]?.getD 0) W3 HR3.out (by omega) (by omega) (by omega) (by omega) HNE.out HC3.out).mono ?_
    rintro e w4 ⟨i, hi2, rfl, r4, d4⟩
    obtain ⟨y, hy⟩ : ∃ y, y = ([-1, n] : List Int)[i]?.getD 0 := ⟨_, rfl⟩
    simp only [← hy]
    have HO4 := Lib.hid (HO3.out.dn HLT.out d4)
    have HD4 := Lib.hid (HD3.out.trans d4)
    have hR4 := r4
    clear hy r4 d4 HR3 HO3 HD3 HC3 HW3 HNE
    obtain ⟨W5, hW5⟩ : ∃ W5, w4.alloc (.cells #[.int .i64 0, .int .i64 6] 3) = W5 := ⟨_, rfl⟩
    have q5 : W5.heap[w4.heap.size]? = some (.cells #[.int .i64 0, .int .i64 6] 3) := by rw [← hW5]; exact World.alloc_heap_new _ _
    have hc5 : ∀ i, i < 2 → W5.cell? ⟨w4.heap.size, i, none⟩ = some (.int .i64 (([0, 6] : List Int)[i]?.getD 0)) := fun i hi => by
      simp only [World.cell?, q5]
      have : i = 0 ∨ i = 1 := by omega
      rcases this with rfl | rfl <;> rfl
    have b5 : Below w4.heap.size w4 W5 := by rw [← hW5]; exact (Below.refl _ _).alloc (Nat.le_refl _) _
    have hRl := hR4.lt
    have HR5 := Lib.hid (hR4.below (b5.mono (by omega)))
    have HD5 := Lib.hid (HD4.out.trans (Dn.of_below b5))
    have HO5 := Lib.hid (HO4.out.below b5)
    have HC5 := Lib.hid hc5
    have HW5 := Lib.hid hW5
    have HNE := Lib.hid (show w4.heap.size ≠ B by omega)
    clear hW5 q5 hc5 b5 hRl hR4 HO4 HD4
    go_wp2_with fail
    rw [HW5.out]
    refine (one_dn n0 B w4.heap.size 2 (p1 + 1 + 1) (fun i => ([0, 6] : List Int)[i]?.getD 0) W5 HR5.out (by omega) (by omega) (by omega) (by omega) HNE.out HC5.out).mono ?_
    rintro e w6 ⟨i', hi2', rfl, r6, d6⟩
    obtain ⟨z, hz⟩ : ∃ z, z = ([0, 6] : List Int)[i']?.getD 0 := ⟨_, rfl⟩
    simp only [← hz]
    have HO6 := Lib.hid (HO5.out.dn HLT.out d6)
    have HD6 := Lib.hid (HD5.out.trans d6)
    have HR6 := Lib.hid r6
    clear hz r6 d6 HR5 HO5 HD5 HC5 HW5 HNE
    go_wp2_with (at_builtin; refine wpList_append_lits rfl _ _ rfl w.heap.size _ _ ls [⟨y, z, false⟩] rfl rfl (HO6.out.below (below1 _ _)) (ownL_one w6 w6.heap.size (Nat.le_refl _) ⟨y, z, false⟩).rd (Nat.le_trans HD6.out.size (by simp)) (by have := HL1.out; omega) (by simp) ?_; intro v7 w7 own7 grow7)
    have hge : ∀ q, v1.ownBlock = some q → w.heap.size ≤ q := fun q e => (HO6.out.1.lt q e).1
    have HD7 := Lib.hid ((HD6.out.alloc _).grown grow7 hge)
    have HR7 := Lib.hid (HR6.out.below (((Below.refl (B + 1) w6).alloc (by have := HR6.out.lt; omega) _).grown grow7 (by have := HR6.out.lt; simp; omega) (fun q e => by have := hge q e; have := HLT.out; omega)))
    have HO7 := Lib.hid own7
    clear own7 grow7 hge
    obtain ⟨_, g, c, evo, _⟩ := HO7.out
    rw [evo] at HO7 ⊢
    clear evo
    go_wp2
    go_ret
    exact ⟨_, _, p1 + 1 + 1 + 1, rfl, HO7.out, by have := HL1.out; simp; omega, by omega, by omega, HR7.out, HD7.out⟩
  have k0 : (x == 0) = false := by simp [e0]
  by_cases e1 : x = 1
  · subst e1
    clear hx0 hx1 e0 k0
    obtain ⟨_, g, c, evo, hnc, hcm, hgw, hgs⟩ := id HO2.out
    obtain ⟨n1, hn1⟩ : ∃ n1, n1 = ls.length := ⟨_, rfl⟩
    rw [evo] at HO2 ⊢
    rw [← hn1] at HO2 hnc ⊢
    have HN := Lib.hid hn1
    have HGW := Lib.hid hgw
    clear evo hn1 hgw hgs
    by_cases hgt : 1 < n1
    · have hd : (n1 : Int) > 1 := by omega
      obtain ⟨l, hl⟩ : ∃ l, ls[0]? = some l := ⟨_, List.getElem?_eq_getElem (by rw [← HN.out]; omega)⟩
      have hcl := HO2.out.cells hl
      have h0n : 0 < n1 := by omega
      have h1n : 1 ≤ n1 := by omega
      have hLA : LitAt g 0 l w2.drew := by
        have := hcl
        simp only [Nat.zero_mul] at this
        exact this
      have HB2 : Hid (OwnL w2.drew w.heap.size (.slice (some ⟨g, 0, none⟩) n1 c) ls ∧ w.heap.size ≤ w2.drew.heap.size) := Lib.hid ⟨HO2.out.below (Below.refl _ _).drew, HD2.out.size⟩
      have HL3 : Hid (ls.length ≤ 3) := HL1
      have HFIN : Hid (∀ (v : Value) (W : World), Below w2.drew.heap.size w2.drew W → OwnL W w.heap.size v (([] ++ ls.drop 1) ++ [l]) → ClDn n0 B p 13 4 w (.returned v) W) := Lib.hid (fun v W hb ho => ⟨v, _, p1 + 1, rfl, ho, by have := HL1.out; simp; omega, by omega, by omega, (HR2.out.drewN 1).below (hb.mono (by have := HR2.out.lt; show B + 1 ≤ w2.heap.size; omega)), HD2.out.trans ((Dn.of_below (Below.refl _ w2).drew).trans (Dn.of_below hb))⟩)
      have hglt : g < w2.heap.size := World.block_lt_of_cell? w2 _ hcl.1
      clear hl hcl HR2 HD2 HO2 HL1
      go_wp2_with fail
      refine region_x (LitAt g 0 l) (fun _ => false) rfl ?_
      change wpAnyX Try.prog .any _ _ _ _ 10 _ (acAct _ _ _ _ _ _ _ _ _ _ _ _ _ _ _ _ _ _ _ _ _ _ _ _ _ _ _ _ _ _ _ _ _ _ _ _ _ _ _) w2.drew
      refine wpAnyX_take (i := 1) (v := .slice (some ⟨g, 0, none⟩) n1 c) rfl (by kernel_rfl) (by kernel_rfl) (by kernel_rfl) (by kernel_rfl) (fun _ _ _ h => h) (.inl ⟨rfl, fun w' hw' => rfl⟩) hLA ?_
      change wpAnyX Try.prog .any _ _ _ _ 9 _ (acAct _ _ _ _ _ _ _ _ _ _ _ _ _ _ _ _ _ _ _ _ _ _ _ _ _ _ _ _ _ _ (.slice (some ⟨g, 0, none⟩) n1 c) _ _ _ _ _ _ _ _) w2.drew
      refine wpAnyX_take (i := 2) (v := .slice (some (if c = 1 then ⟨g, 0, none⟩ else ⟨g, 1 * 3, none⟩)) (n1 - 1) (c - 1)) rfl (by kernel_rfl) (by kernel_rfl) (by kernel_rfl) (by kernel_rfl) (fun _ _ _ h => h) (.inl ⟨rfl, fun w' hw' => exec_slice1 rfl rfl rfl (slice_tail w' _ _ _ 1 h1n hnc hcm)⟩) hLA ?_
      change wpAnyX Try.prog .any _ _ _ _ 8 _ (acAct _ _ _ _ _ _ _ _ _ _ _ _ _ _ _ _ _ _ _ _ _ _ _ _ _ _ _ _ _ _ (.slice (some ⟨g, 0, none⟩) n1 c) (.slice (some (if c = 1 then ⟨g, 0, none⟩ else ⟨g, 1 * 3, none⟩)) (n1 - 1) (c - 1)) _ _ _ _ _ _ _) w2.drew
      refine wpAnyX_take (i := 4) (v := .slice (some ⟨g, 0, none⟩) n1 c) rfl (by kernel_rfl) (by kernel_rfl) (by kernel_rfl) (by kernel_rfl) (fun _ _ _ h => h) (.inl ⟨rfl, fun w' hw' => rfl⟩) hLA ?_
      change wpAnyX Try.prog .any _ _ _ _ 7 _ (acAct _ _ _ _ _ _ _ _ _ _ _ _ _ _ _ _ _ _ _ _ _ _ _ _ _ _ _ _ _ _ (.slice (some ⟨g, 0, none⟩) n1 c) (.slice (some (if c = 1 then ⟨g, 0, none⟩ else ⟨g, 1 * 3, none⟩)) (n1 - 1) (c - 1)) _ (.slice (some ⟨g, 0, none⟩) n1 c) _ _ _ _ _) w2.drew
      refine wpAnyX_take (i := 5) (v := .pointer (some ⟨g, 0, none⟩)) rfl (by kernel_rfl) (by kernel_rfl) (by kernel_rfl) (by kernel_rfl) (fun _ _ _ h => h) (.inl ⟨rfl, fun w' hw' => exec_index rfl rfl rfl (index00_lits w' _ _ _ h0n)⟩) hLA ?_
      change wpAnyX Try.prog .any _ _ _ _ 6 _ (acAct _ _ _ _ _ _ _ _ _ _ _ _ _ _ _ _ _ _ _ _ _ _ _ _ _ _ _ _ _ _ (.slice (some ⟨g, 0, none⟩) n1 c) (.slice (some (if c = 1 then ⟨g, 0, none⟩ else ⟨g, 1 * 3, none⟩)) (n1 - 1) (c - 1)) _ (.slice (some ⟨g, 0, none⟩) n1 c) (.pointer (some ⟨g, 0, none⟩)) _ _ _ _) w2.drew
      refine wpAnyX_take (i := 6) (v := .agg #[.int .i64 l.var, .int .i64 l.val, .bool l.neg]) rfl (by kernel_rfl) (by kernel_rfl) (by kernel_rfl) (by kernel_rfl) (fun _ _ _ h => h) (.inl ⟨rfl, fun w' hw' => exec_load rfl rfl (load_litO w' _ _ _ _ _ hw'.1 hw'.2.1 hw'.2.2)⟩) hLA ?_
      change wpAnyX Try.prog .any _ _ _ _ 5 _ (acAct _ _ _ _ _ _ _ _ _ _ _ _ _ _ _ _ _ _ _ _ _ _ _ _ _ _ _ _ _ _ (.slice (some ⟨g, 0, none⟩) n1 c) (.slice (some (if c = 1 then ⟨g, 0, none⟩ else ⟨g, 1 * 3, none⟩)) (n1 - 1) (c - 1)) _ (.slice (some ⟨g, 0, none⟩) n1 c) (.pointer (some ⟨g, 0, none⟩)) (.agg #[.int .i64 l.var, .int .i64 l.val, .bool l.neg]) _ _ _) w2.drew
      refine wpAnyX_two (i := 0) (j := 7) (by kernel_rfl) rfl rfl (fun K' hK' => ?_) (fun K' hK' => ?_)
      · refine step_value _ (w2.drew.alloc (.cells #[] 47)) rfl _ (exec_build0 rfl (build_none w2.drew)) ?_
        refine hK'.out _ _ (fun _ => (litAt_below hLA (below1 _ _))) ?_
        clear hK' K'
        change wpAnyX Try.prog .any _ _ _ _ 4 _ (acAct _ _ _ _ _ _ _ _ _ _ _ _ _ _ _ _ _ _ _ _ _ _ _ _ _ _ _ _ _ (.slice (some ⟨w2.drew.heap.size, 0, none⟩) 0 0) (.slice (some ⟨g, 0, none⟩) n1 c) (.slice (some (if c = 1 then ⟨g, 0, none⟩ else ⟨g, 1 * 3, none⟩)) (n1 - 1) (c - 1)) _ (.slice (some ⟨g, 0, none⟩) n1 c) (.pointer (some ⟨g, 0, none⟩)) (.agg #[.int .i64 l.var, .int .i64 l.val, .bool l.neg]) _ _ _) (w2.drew.alloc (.cells #[] 47))
        refine wpAnyX_two (i := 3) (j := 7) (by kernel_rfl) rfl rfl (fun K' hK' => ?_) (fun K' hK' => ?_)
        · refine step_append_lits rfl _ _ rfl w2.heap.size _ _ [] (ls.drop 1) rfl rfl (ownL_new w2.drew w2.heap.size (Nat.le_refl _)) ((HB2.out.1.below (below1 _ _)).tail h1n) (by simp) (by simp) (by have := HL3.out; simp; omega) ?_
          intro v3 w3 own3 grow3
          obtain ⟨g3, n3, c3, ev3⟩ := own3.slice
          subst ev3
          have B3 : Below w2.heap.size (w2.drew.alloc (.cells #[] 47)) w3 := (Below.refl _ _).grown grow3 (by simp) (fun q e => by injection (show some _ = some q from e) with e; rw [← e]; exact Nat.le_refl _)
          refine hK'.out _ _ (fun _ => (litAt_low (litAt_below hLA (below1 _ _)) B3 (by exact hglt))) ?_
          clear hK' K'
          change wpAnyX Try.prog .any _ _ _ _ 3 _ (acAct _ _ _ _ _ _ _ _ _ _ _ _ _ _ _ _ _ _ _ _ _ _ _ _ _ _ _ _ _ (.slice (some ⟨w2.drew.heap.size, 0, none⟩) 0 0) (.slice (some ⟨g, 0, none⟩) n1 c) (.slice (some (if c = 1 then ⟨g, 0, none⟩ else ⟨g, 1 * 3, none⟩)) (n1 - 1) (c - 1)) (.slice (some ⟨g3, 0, none⟩) n3 c3) (.slice (some ⟨g, 0, none⟩) n1 c) (.pointer (some ⟨g, 0, none⟩)) (.agg #[.int .i64 l.var, .int .i64 l.val, .bool l.neg]) _ _ _) w3
          refine wpAnyX_one (i := 7) (by kernel_rfl) rfl (fun K' hK' => ?_)
          refine step_value _ (w3.alloc (.cells #[.int .i64 l.var, .int .i64 l.val, .bool l.neg] 47)) rfl _ (exec_build1 rfl rfl (build_one w3 _ _ _)) ?_
          refine hK'.out _ _ (fun _ => (litAt_below (litAt_low (litAt_below hLA (below1 _ _)) B3 hglt) (below1 _ _))) ?_
          clear hK' K'
          change wpAnyX Try.prog .any _ _ _ _ 2 _ (acAct _ _ _ _ _ _ _ _ _ _ _ _ _ _ _ _ _ _ _ _ _ _ _ _ _ _ _ _ _ (.slice (some ⟨w2.drew.heap.size, 0, none⟩) 0 0) (.slice (some ⟨g, 0, none⟩) n1 c) (.slice (some (if c = 1 then ⟨g, 0, none⟩ else ⟨g, 1 * 3, none⟩)) (n1 - 1) (c - 1)) (.slice (some ⟨g3, 0, none⟩) n3 c3) (.slice (some ⟨g, 0, none⟩) n1 c) (.pointer (some ⟨g, 0, none⟩)) (.agg #[.int .i64 l.var, .int .i64 l.val, .bool l.neg]) (.slice (some ⟨w3.heap.size, 0, none⟩) 1 1) _ _) (w3.alloc (.cells #[.int .i64 l.var, .int .i64 l.val, .bool l.neg] 47))
          refine wpAnyX_one (i := 8) (by kernel_rfl) rfl (fun K' hK' => ?_)
          refine step_append_lits rfl _ _ rfl w2.heap.size _ _ ([] ++ ls.drop 1) [l] rfl rfl (own3.below (below1 _ _)) (ownL_one w3 w3.heap.size (Nat.le_refl _) l).rd (by have := B3.size; simp at this ⊢; omega) (by have := HL3.out; simp; omega) (by simp) ?_
          intro v8 w8 own8 grow8
          obtain ⟨g8, n8, c8, ev8⟩ := own8.slice
          subst ev8
          have B8 : Below w2.drew.heap.size w2.drew w8 := (((below1 w2.drew _).trans (B3.mono (Nat.le_refl _))).alloc (by have := B3.size; simp at this ⊢; omega) _).grown grow8 (by have := B3.size; simp at this ⊢; omega) (fun q e => (own3.1.lt q e).1)
          refine hK'.out _ _ (fun _ => (litAt_low hLA B8 hglt)) ?_
          clear hK' K'
          change wpAnyX Try.prog .any _ _ _ _ 1 _ (acAct _ _ _ _ _ _ _ _ _ _ _ _ _ _ _ _ _ _ _ _ _ _ _ _ _ _ _ _ _ (.slice (some ⟨w2.drew.heap.size, 0, none⟩) 0 0) (.slice (some ⟨g, 0, none⟩) n1 c) (.slice (some (if c = 1 then ⟨g, 0, none⟩ else ⟨g, 1 * 3, none⟩)) (n1 - 1) (c - 1)) (.slice (some ⟨g3, 0, none⟩) n3 c3) (.slice (some ⟨g, 0, none⟩) n1 c) (.pointer (some ⟨g, 0, none⟩)) (.agg #[.int .i64 l.var, .int .i64 l.val, .bool l.neg]) (.slice (some ⟨w3.heap.size, 0, none⟩) 1 1) (.slice (some ⟨g8, 0, none⟩) n8 c8) _) w8
          refine wpAnyX_take (i := 9) (v := .slice (some ⟨g8, 0, none⟩) n8 c8) rfl (by kernel_rfl) (by kernel_rfl) (by kernel_rfl) (by kernel_rfl) (fun _ _ _ h => h) (.inl ⟨rfl, fun w' hw' => rfl⟩) (litAt_low hLA B8 hglt) ?_
          change wpAnyX Try.prog .any _ _ _ _ 0 _ (acAct _ _ _ _ (.slice (some ⟨g8, 0, none⟩) n8 c8) _ _ _ _ _ _ _ _ _ _ _ _ _ _ _ _ _ _ _ _ _ _ _ _ (.slice (some ⟨w2.drew.heap.size, 0, none⟩) 0 0) (.slice (some ⟨g, 0, none⟩) n1 c) (.slice (some (if c = 1 then ⟨g, 0, none⟩ else ⟨g, 1 * 3, none⟩)) (n1 - 1) (c - 1)) (.slice (some ⟨g3, 0, none⟩) n3 c3) (.slice (some ⟨g, 0, none⟩) n1 c) (.pointer (some ⟨g, 0, none⟩)) (.agg #[.int .i64 l.var, .int .i64 l.val, .bool l.neg]) (.slice (some ⟨w3.heap.size, 0, none⟩) 1 1) (.slice (some ⟨g8, 0, none⟩) n8 c8) _) w8
          refine wpAnyX_done (by kernel_rfl) ?_ _
          unfold acAct
          have HF := Lib.hid (HFIN.out _ _ B8 (own8.mono (show w.heap.size ≤ w2.heap.size from HB2.out.2)))
          clear own8 grow8 B8 own3 grow3 B3
          go_wp2
          go_ret
          exact HF.out
        · refine step_value _ ((w2.drew.alloc (.cells #[] 47)).alloc (.cells #[.int .i64 l.var, .int .i64 l.val, .bool l.neg] 47)) rfl _ (exec_build1 rfl rfl (build_one (w2.drew.alloc (.cells #[] 47)) _ _ _)) ?_
          refine hK'.out _ _ (fun _ => (litAt_below (litAt_below hLA (below1 _ _)) (below1 _ _))) ?_
          clear hK' K'
          change wpAnyX Try.prog .any _ _ _ _ 3 _ (acAct _ _ _ _ _ _ _ _ _ _ _ _ _ _ _ _ _ _ _ _ _ _ _ _ _ _ _ _ _ (.slice (some ⟨w2.drew.heap.size, 0, none⟩) 0 0) (.slice (some ⟨g, 0, none⟩) n1 c) (.slice (some (if c = 1 then ⟨g, 0, none⟩ else ⟨g, 1 * 3, none⟩)) (n1 - 1) (c - 1)) _ (.slice (some ⟨g, 0, none⟩) n1 c) (.pointer (some ⟨g, 0, none⟩)) (.agg #[.int .i64 l.var, .int .i64 l.val, .bool l.neg]) (.slice (some ⟨(w2.drew.alloc (.cells #[] 47)).heap.size, 0, none⟩) 1 1) _ _) ((w2.drew.alloc (.cells #[] 47)).alloc (.cells #[.int .i64 l.var, .int .i64 l.val, .bool l.neg] 47))
          refine wpAnyX_one (i := 3) (by kernel_rfl) rfl (fun K' hK' => ?_)
          refine step_append_lits rfl _ _ rfl w2.heap.size _ _ [] (ls.drop 1) rfl rfl ((ownL_new w2.drew w2.heap.size (Nat.le_refl _)).below (below1 _ _)) (((HB2.out.1.below (below1 _ _)).below (below1 _ _)).tail h1n) (by simp; omega) (by simp) (by have := HL3.out; simp; omega) ?_
          intro v3 w3 own3 grow3
          obtain ⟨g3, n3, c3, ev3⟩ := own3.slice
          subst ev3
          have B3 : Below w2.drew.heap.size w2.drew w3 := (((below1 w2.drew _).alloc (by simp) _)).grown grow3 (by simp; omega) (fun q e => by injection (show some w2.heap.size = some q from e) with e; rw [← e]; exact Nat.le_refl _)
          have HON : Hid (RdLits w3 (.slice (some ⟨(w2.drew.alloc (.cells #[] 47)).heap.size, 0, none⟩) 1 1) [l]) := Lib.hid (rdLits_far (ownL_one (w2.drew.alloc (.cells #[] 47)) (w2.drew.alloc (.cells #[] 47)).heap.size (Nat.le_refl _) l).rd grow3 (by intro q e; injection (show some w2.heap.size = some q from e) with e; rw [← e]; simp))
          refine hK'.out _ _ (fun _ => (litAt_low hLA B3 hglt)) ?_
          clear hK' K'
          change wpAnyX Try.prog .any _ _ _ _ 2 _ (acAct _ _ _ _ _ _ _ _ _ _ _ _ _ _ _ _ _ _ _ _ _ _ _ _ _ _ _ _ _ (.slice (some ⟨w2.drew.heap.size, 0, none⟩) 0 0) (.slice (some ⟨g, 0, none⟩) n1 c) (.slice (some (if c = 1 then ⟨g, 0, none⟩ else ⟨g, 1 * 3, none⟩)) (n1 - 1) (c - 1)) (.slice (some ⟨g3, 0, none⟩) n3 c3) (.slice (some ⟨g, 0, none⟩) n1 c) (.pointer (some ⟨g, 0, none⟩)) (.agg #[.int .i64 l.var, .int .i64 l.val, .bool l.neg]) (.slice (some ⟨(w2.drew.alloc (.cells #[] 47)).heap.size, 0, none⟩) 1 1) _ _) w3
          refine wpAnyX_one (i := 8) (by kernel_rfl) rfl (fun K' hK' => ?_)
          refine step_append_lits rfl _ _ rfl w2.heap.size _ _ ([] ++ ls.drop 1) [l] rfl rfl own3 HON.out (by have := B3.size; exact this) (by have := HL3.out; simp; omega) (by simp) ?_
          intro v8 w8 own8 grow8
          obtain ⟨g8, n8, c8, ev8⟩ := own8.slice
          subst ev8
          have B8 : Below w2.drew.heap.size w2.drew w8 := B3.grown grow8 B3.size (fun q e => (own3.1.lt q e).1)
          refine hK'.out _ _ (fun _ => (litAt_low hLA B8 hglt)) ?_
          clear hK' K'
          change wpAnyX Try.prog .any _ _ _ _ 1 _ (acAct _ _ _ _ _ _ _ _ _ _ _ _ _ _ _ _ _ _ _ _ _ _ _ _ _ _ _ _ _ (.slice (some ⟨w2.drew.heap.size, 0, none⟩) 0 0) (.slice (some ⟨g, 0, none⟩) n1 c) (.slice (some (if c = 1 then ⟨g, 0, none⟩ else ⟨g, 1 * 3, none⟩)) (n1 - 1) (c - 1)) (.slice (some ⟨g3, 0, none⟩) n3 c3) (.slice (some ⟨g, 0, none⟩) n1 c) (.pointer (some ⟨g, 0, none⟩)) (.agg #[.int .i64 l.var, .int .i64 l.val, .bool l.neg]) (.slice (some ⟨(w2.drew.alloc (.cells #[] 47)).heap.size, 0, none⟩) 1 1) (.slice (some ⟨g8, 0, none⟩) n8 c8) _) w8
          refine wpAnyX_take (i := 9) (v := .slice (some ⟨g8, 0, none⟩) n8 c8) rfl (by kernel_rfl) (by kernel_rfl) (by kernel_rfl) (by kernel_rfl) (fun _ _ _ h => h) (.inl ⟨rfl, fun w' hw' => rfl⟩) (litAt_low hLA B8 hglt) ?_
          change wpAnyX Try.prog .any _ _ _ _ 0 _ (acAct _ _ _ _ (.slice (some ⟨g8, 0, none⟩) n8 c8) _ _ _ _ _ _ _ _ _ _ _ _ _ _ _ _ _ _ _ _ _ _ _ _ (.slice (some ⟨w2.drew.heap.size, 0, none⟩) 0 0) (.slice (some ⟨g, 0, none⟩) n1 c) (.slice (some (if c = 1 then ⟨g, 0, none⟩ else ⟨g, 1 * 3, none⟩)) (n1 - 1) (c - 1)) (.slice (some ⟨g3, 0, none⟩) n3 c3) (.slice (some ⟨g, 0, none⟩) n1 c) (.pointer (some ⟨g, 0, none⟩)) (.agg #[.int .i64 l.var, .int .i64 l.val, .bool l.neg]) (.slice (some ⟨(w2.drew.alloc (.cells #[] 47)).heap.size, 0, none⟩) 1 1) (.slice (some ⟨g8, 0, none⟩) n8 c8) _) w8
          refine wpAnyX_done (by kernel_rfl) ?_ _
          unfold acAct
          have HF := Lib.hid (HFIN.out _ _ B8 (own8.mono (show w.heap.size ≤ w2.heap.size from HB2.out.2)))
          clear own8 grow8 B8 own3 grow3 B3
          go_wp2
          go_ret
          exact HF.out
      · refine step_value _ (w2.drew.alloc (.cells #[.int .i64 l.var, .int .i64 l.val, .bool l.neg] 47)) rfl _ (exec_build1 rfl rfl (build_one w2.drew _ _ _)) ?_
        refine hK'.out _ _ (fun _ => (litAt_below hLA (below1 _ _))) ?_
        clear hK' K'
        change wpAnyX Try.prog .any _ _ _ _ 4 _ (acAct _ _ _ _ _ _ _ _ _ _ _ _ _ _ _ _ _ _ _ _ _ _ _ _ _ _ _ _ _ _ (.slice (some ⟨g, 0, none⟩) n1 c) (.slice (some (if c = 1 then ⟨g, 0, none⟩ else ⟨g, 1 * 3, none⟩)) (n1 - 1) (c - 1)) _ (.slice (some ⟨g, 0, none⟩) n1 c) (.pointer (some ⟨g, 0, none⟩)) (.agg #[.int .i64 l.var, .int .i64 l.val, .bool l.neg]) (.slice (some ⟨w2.drew.heap.size, 0, none⟩) 1 1) _ _) (w2.drew.alloc (.cells #[.int .i64 l.var, .int .i64 l.val, .bool l.neg] 47))
        refine wpAnyX_one (i := 0) (by kernel_rfl) rfl (fun K' hK' => ?_)
        refine step_value _ ((w2.drew.alloc (.cells #[.int .i64 l.var, .int .i64 l.val, .bool l.neg] 47)).alloc (.cells #[] 47)) rfl _ (exec_build0 rfl (build_none (w2.drew.alloc (.cells #[.int .i64 l.var, .int .i64 l.val, .bool l.neg] 47)))) ?_
        refine hK'.out _ _ (fun _ => (litAt_below (litAt_below hLA (below1 _ _)) (below1 _ _))) ?_
        clear hK' K'
        change wpAnyX Try.prog .any _ _ _ _ 3 _ (acAct _ _ _ _ _ _ _ _ _ _ _ _ _ _ _ _ _ _ _ _ _ _ _ _ _ _ _ _ _ (.slice (some ⟨(w2.drew.alloc (.cells #[.int .i64 l.var, .int .i64 l.val, .bool l.neg] 47)).heap.size, 0, none⟩) 0 0) (.slice (some ⟨g, 0, none⟩) n1 c) (.slice (some (if c = 1 then ⟨g, 0, none⟩ else ⟨g, 1 * 3, none⟩)) (n1 - 1) (c - 1)) _ (.slice (some ⟨g, 0, none⟩) n1 c) (.pointer (some ⟨g, 0, none⟩)) (.agg #[.int .i64 l.var, .int .i64 l.val, .bool l.neg]) (.slice (some ⟨w2.drew.heap.size, 0, none⟩) 1 1) _ _) ((w2.drew.alloc (.cells #[.int .i64 l.var, .int .i64 l.val, .bool l.neg] 47)).alloc (.cells #[] 47))
        refine wpAnyX_one (i := 3) (by kernel_rfl) rfl (fun K' hK' => ?_)
        refine step_append_lits rfl _ _ rfl w2.heap.size _ _ [] (ls.drop 1) rfl rfl (ownL_new (w2.drew.alloc (.cells #[.int .i64 l.var, .int .i64 l.val, .bool l.neg] 47)) w2.heap.size (by simp)) (((HB2.out.1.below (below1 _ _)).below (below1 _ _)).tail h1n) (by simp; omega) (by simp) (by have := HL3.out; simp; omega) ?_
        intro v3 w3 own3 grow3
        obtain ⟨g3, n3, c3, ev3⟩ := own3.slice
        subst ev3
        have B3 : Below w2.drew.heap.size w2.drew w3 := (((below1 w2.drew _).alloc (by simp) _)).grown grow3 (by simp; omega) (fun q e => by injection (show some (w2.drew.alloc (.cells #[.int .i64 l.var, .int .i64 l.val, .bool l.neg] 47)).heap.size = some q from e) with e; rw [← e]; simp)
        have HON : Hid (RdLits w3 (.slice (some ⟨w2.drew.heap.size, 0, none⟩) 1 1) [l]) := Lib.hid (rdLits_far ((ownL_one w2.drew w2.drew.heap.size (Nat.le_refl _) l).below (below1 _ _)).rd grow3 (by intro q e; injection (show some (w2.drew.alloc (.cells #[.int .i64 l.var, .int .i64 l.val, .bool l.neg] 47)).heap.size = some q from e) with e; rw [← e]; simp))
        refine hK'.out _ _ (fun _ => (litAt_low hLA B3 hglt)) ?_
        clear hK' K'
        change wpAnyX Try.prog .any _ _ _ _ 2 _ (acAct _ _ _ _ _ _ _ _ _ _ _ _ _ _ _ _ _ _ _ _ _ _ _ _ _ _ _ _ _ (.slice (some ⟨(w2.drew.alloc (.cells #[.int .i64 l.var, .int .i64 l.val, .bool l.neg] 47)).heap.size, 0, none⟩) 0 0) (.slice (some ⟨g, 0, none⟩) n1 c) (.slice (some (if c = 1 then ⟨g, 0, none⟩ else ⟨g, 1 * 3, none⟩)) (n1 - 1) (c - 1)) (.slice (some ⟨g3, 0, none⟩) n3 c3) (.slice (some ⟨g, 0, none⟩) n1 c) (.pointer (some ⟨g, 0, none⟩)) (.agg #[.int .i64 l.var, .int .i64 l.val, .bool l.neg]) (.slice (some ⟨w2.drew.heap.size, 0, none⟩) 1 1) _ _) w3
        refine wpAnyX_one (i := 8) (by kernel_rfl) rfl (fun K' hK' => ?_)
        refine step_append_lits rfl _ _ rfl w2.heap.size _ _ ([] ++ ls.drop 1) [l] rfl rfl own3 HON.out (by have := B3.size; exact this) (by have := HL3.out; simp; omega) (by simp) ?_
        intro v8 w8 own8 grow8
        obtain ⟨g8, n8, c8, ev8⟩ := own8.slice
        subst ev8
        have B8 : Below w2.drew.heap.size w2.drew w8 := B3.grown grow8 B3.size (fun q e => (own3.1.lt q e).1)
        refine hK'.out _ _ (fun _ => (litAt_low hLA B8 hglt)) ?_
        clear hK' K'
        change wpAnyX Try.prog .any _ _ _ _ 1 _ (acAct _ _ _ _ _ _ _ _ _ _ _ _ _ _ _ _ _ _ _ _ _ _ _ _ _ _ _ _ _ (.slice (some ⟨(w2.drew.alloc (.cells #[.int .i64 l.var, .int .i64 l.val, .bool l.neg] 47)).heap.size, 0, none⟩) 0 0) (.slice (some ⟨g, 0, none⟩) n1 c) (.slice (some (if c = 1 then ⟨g, 0, none⟩ else ⟨g, 1 * 3, none⟩)) (n1 - 1) (c - 1)) (.slice (some ⟨g3, 0, none⟩) n3 c3) (.slice (some ⟨g, 0, none⟩) n1 c) (.pointer (some ⟨g, 0, none⟩)) (.agg #[.int .i64 l.var, .int .i64 l.val, .bool l.neg]) (.slice (some ⟨w2.drew.heap.size, 0, none⟩) 1 1) (.slice (some ⟨g8, 0, none⟩) n8 c8) _) w8
        refine wpAnyX_take (i := 9) (v := .slice (some ⟨g8, 0, none⟩) n8 c8) rfl (by kernel_rfl) (by kernel_rfl) (by kernel_rfl) (by kernel_rfl) (fun _ _ _ h => h) (.inl ⟨rfl, fun w' hw' => rfl⟩) (litAt_low hLA B8 hglt) ?_
        change wpAnyX Try.prog .any _ _ _ _ 0 _ (acAct _ _ _ _ (.slice (some ⟨g8, 0, none⟩) n8 c8) _ _ _ _ _ _ _ _ _ _ _ _ _ _ _ _ _ _ _ _ _ _ _ _ (.slice (some ⟨(w2.drew.alloc (.cells #[.int .i64 l.var, .int .i64 l.val, .bool l.neg] 47)).heap.size, 0, none⟩) 0 0) (.slice (some ⟨g, 0, none⟩) n1 c) (.slice (some (if c = 1 then ⟨g, 0, none⟩ else ⟨g, 1 * 3, none⟩)) (n1 - 1) (c - 1)) (.slice (some ⟨g3, 0, none⟩) n3 c3) (.slice (some ⟨g, 0, none⟩) n1 c) (.pointer (some ⟨g, 0, none⟩)) (.agg #[.int .i64 l.var, .int .i64 l.val, .bool l.neg]) (.slice (some ⟨w2.drew.heap.size, 0, none⟩) 1 1) (.slice (some ⟨g8, 0, none⟩) n8 c8) _) w8
        refine wpAnyX_done (by kernel_rfl) ?_ _
        unfold acAct
        have HF := Lib.hid (HFIN.out _ _ B8 (own8.mono (show w.heap.size ≤ w2.heap.size from HB2.out.2)))
        clear own8 grow8 B8 own3 grow3 B3
        go_wp2
        go_ret
        exact HF.out
    · have hd : ¬ (n1 : Int) > 1 := by omega
      go_wp2
      go_ret
      exact ⟨_, ls, p1 + 1, rfl, by rw [HN.out] at HO2; rw [HN.out]; exact HO2.out, by have := HL1.out; omega, by omega, by omega, HR2.out, HD2.out⟩
  have k1 : (x == 1) = false := by simp [e1]
  clear e0 e1 hx0 hx1
  obtain ⟨_, g, c, evo, _⟩ := HO2.out
  rw [evo] at HO2 ⊢
  clear evo
  go_wp2
  go_ret
  exact ⟨_, ls, p1 + 1, rfl, HO2.out, by have := HL1.out; omega, by omega, by omega, HR2.out, HD2.out⟩
end Go.Proofs.Ytolfjkdkbiicmaa
