/- Tuples of domains in lexicographic order, and the values that satisfying tuples support: plain facts. The reference's enumeration of the tuples of a constraint. Tuples and supported values: lengths and bounds. -/
import Derived.Test.YtipapmmjfoaddaaSolA
import Derived.Deep.RegionWith

/-! Tuples of domains in lexicographic order, and the values that satisfying tuples support: plain facts. -/
namespace Go.Proofs.Ytipapmmjfoaddaa
open Go.ChangeShapes Go.WideShapes Go.ChangeAt Go.RowKit
set_option linter.unusedVariables false
set_option linter.unusedSimpArgs false

/-- The values of d below k, ascending. -/
def vL (d : Int) : Nat → List Int
  | 0 => []
  | k + 1 => vL d k ++ if hasB d k then [(k : Int)] else []
/-- The tuples of the variables vs on the domains ds. -/
def tups (ds : List Int) : List Int → List (List Int)
  | [] => [[]]
  | v :: vs => (vL (ds[v.toNat]?.getD 0) 6).flatMap fun a => (tups ds vs).map (a :: ·)
/-- The value a put into the set d. -/
def addB (d a : Int) : Int := if hasB d a then d else d + 2 ^ a.toNat
/-- One tuple more: where it satisfies c its values are supported. -/
def supStep (c : Con) (acc t : List Int) : List Int := if satB c t then List.zipWith addB acc t else acc
/-- Those that begin with p. -/
def supP (c : Con) (ds p : List Int) (vs : List Int) (acc : List Int) : List Int := ((tups ds vs).map (p ++ ·)).foldl (supStep c) acc
/-- .. and go on with a value below k of the first variable left. -/
def supK (c : Con) (ds p : List Int) (v : Int) (vs : List Int) (acc : List Int) (k : Nat) : List Int :=
  ((vL (ds[v.toNat]?.getD 0) k).flatMap fun a => (tups ds vs).map (fun t => p ++ a :: t)).foldl (supStep c) acc

theorem supP_nil (c : Con) (ds p acc : List Int) : supP c ds p [] acc = supStep c acc p := by simp [supP, tups]
theorem supP_cons (c : Con) (ds p : List Int) (v : Int) (vs acc : List Int) : supP c ds p (v :: vs) acc = supK c ds p v vs acc 6 := by
  unfold supP supK
  rw [tups, List.map_flatMap]
  simp only [List.map_map]
  rfl
theorem supK_zero (c : Con) (ds p : List Int) (v : Int) (vs acc : List Int) : supK c ds p v vs acc 0 = acc := by simp [supK, vL]
theorem supK_skip (c : Con) (ds p : List Int) (v : Int) (vs acc : List Int) (k : Nat) (h : hasB (ds[v.toNat]?.getD 0) k = false) : supK c ds p v vs acc (k + 1) = supK c ds p v vs acc k := by simp [supK, vL, h]
theorem supK_more (c : Con) (ds p : List Int) (v : Int) (vs acc : List Int) (k : Nat) (h : hasB (ds[v.toNat]?.getD 0) k = true) : supK c ds p v vs acc (k + 1) = supP c ds (p ++ [(k : Int)]) vs (supK c ds p v vs acc k) := by
  unfold supK supP
  rw [vL, h, List.flatMap_append, List.foldl_append]
  simp
theorem addB_fin : ∀ d : Fin 64, ∀ a : Fin 6, 0 ≤ addB (d.val : Int) (a.val : Int) ∧ addB (d.val : Int) (a.val : Int) ≤ 63 := by decide +kernel
theorem addB_in {d a : Int} (h1 : 0 ≤ d) (h2 : d ≤ 63) (h3 : 0 ≤ a) (h4 : a ≤ 5) : 0 ≤ addB d a ∧ addB d a ≤ 63 := by
  have := addB_fin ⟨d.toNat, by omega⟩ ⟨a.toNat, by omega⟩
  simpa only [Int.toNat_of_nonneg h1, Int.toNat_of_nonneg h3] using this
theorem zip_length {acc t : List Int} (h : t.length = acc.length) : (List.zipWith addB acc t).length = acc.length := by simp [h]
theorem zip_at {acc t : List Int} (h : t.length = acc.length) {j : Nat} (hj : j < acc.length) : (List.zipWith addB acc t)[j]?.getD 0 = addB (acc[j]?.getD 0) (t[j]?.getD 0) := by
  rw [List.getElem?_zipWith]
  simp [hj, h]
theorem zip_small {acc t : List Int} (h : t.length = acc.length) (ha : Small acc 0 63) (ht : Small t 0 5) : Small (List.zipWith addB acc t) 0 63 := by
  intro j hj
  rw [zip_length h] at hj
  rw [zip_at h hj]
  have h1 := ha j hj
  have h2 := ht j (by omega)
  exact addB_in h1.1 h1.2 h2.1 h2.2
theorem supStep_length {c : Con} {acc t : List Int} (h : t.length = acc.length) : (supStep c acc t).length = acc.length := by
  unfold supStep; split
  · exact zip_length h
  · rfl
theorem supStep_small {c : Con} {acc t : List Int} (h : t.length = acc.length) (ha : Small acc 0 63) (ht : Small t 0 5) : Small (supStep c acc t) 0 63 := by
  unfold supStep; split
  · exact zip_small h ha ht
  · exact ha
/-- The first j values of t have been added. -/
def zipS (acc t : List Int) (j : Nat) : List Int := (List.zipWith addB acc t).take j ++ acc.drop j
theorem zipS_zero (acc t : List Int) : zipS acc t 0 = acc := by simp [zipS]
theorem zipS_all {acc t : List Int} (h : t.length = acc.length) : zipS acc t acc.length = List.zipWith addB acc t := by
  unfold zipS
  rw [List.take_of_length_le (by rw [zip_length h]; exact Nat.le_refl _), List.drop_length, List.append_nil]
theorem zipS_length {acc t : List Int} (h : t.length = acc.length) {j : Nat} (hj : j ≤ acc.length) : (zipS acc t j).length = acc.length := by
  unfold zipS
  rw [List.length_append, List.length_take, zip_length h, List.length_drop]; omega
theorem zipS_at {acc t : List Int} (h : t.length = acc.length) {j : Nat} (hj : j < acc.length) : (zipS acc t j)[j]?.getD 0 = acc[j]?.getD 0 := by
  unfold zipS
  rw [List.getElem?_append_right (by rw [List.length_take, zip_length h]; omega), List.length_take, zip_length h, Nat.min_eq_left (by omega), Nat.sub_self, List.getElem?_drop, Nat.add_zero]
theorem zipS_step {acc t : List Int} (h : t.length = acc.length) {j : Nat} (hj : j < acc.length) : zipS acc t (j + 1) = (zipS acc t j).set j (addB (acc[j]?.getD 0) (t[j]?.getD 0)) := by
  unfold zipS
  have hz := zip_length h
  rw [List.set_append_right _ _ (by rw [List.length_take, hz]; omega), List.length_take, hz, Nat.min_eq_left (by omega), Nat.sub_self, List.take_succ_eq_append_getElem (by omega), List.append_assoc]
  congr 1
  rw [List.drop_eq_getElem_cons hj, List.set_cons_zero, List.cons_append, List.nil_append]
  congr 1
  have := zip_at h hj
  rw [List.getElem?_eq_getElem (by omega)] at this
  simpa using this
theorem zipS_same {acc t : List Int} (h : t.length = acc.length) {j : Nat} (hj : j < acc.length) (hh : hasB (acc[j]?.getD 0) (t[j]?.getD 0) = true) : zipS acc t (j + 1) = zipS acc t j := by
  rw [zipS_step h hj]
  unfold addB
  rw [if_pos hh, ← zipS_at h hj]
  have hl : j < (zipS acc t j).length := by rw [zipS_length h (by omega)]; exact hj
  rw [List.getElem?_eq_getElem hl]
  simp
theorem shl_add_fin : ∀ d : Fin 64, ∀ a : Fin 6, hasB (d.val : Int) (a.val : Int) = false → wrap64 ((d.val : Int) + wrap64 (2 ^ a.val)) = addB (d.val : Int) (a.val : Int) := by decide +kernel
theorem shl_add {d : Int} {a : Nat} (h1 : 0 ≤ d) (h2 : d ≤ 63) (h4 : a ≤ 5) (hh : hasB d a = false) : wrap64 (d + wrap64 (2 ^ a)) = addB d a := by
  have := shl_add_fin ⟨d.toNat, by omega⟩ ⟨a, by omega⟩
  simp only [Int.toNat_of_nonneg h1] at this
  exact this hh
end Go.Proofs.Ytipapmmjfoaddaa

/-! The reference's enumeration of the tuples of a constraint. -/
namespace Go.Proofs.Ytipapmmjfoaddaa
open Go.ChangeShapes Go.WideShapes Go.ChangeAt Go.RowKit
set_option linter.unusedVariables false
set_option linter.unusedSimpArgs false

/-- The enumerator at block E: the constraint and the domains as they read in w0; x's row at bx, the support's at bs. -/
structure EnSt (w0 : World) (c : Con) (ds : List Int) (E bx bs n : Nat) (a2 a3 a5 da : Option Addr) (c2 c3 c5 dc : Nat) (xs acc : List Int) (W : World) : Prop where
  b : Below w0.heap.size w0 W
  e : W.heap[E]? = some (.cells #[.int .i64 c.kind, .slice a2 n c2, .slice a3 c.args.length c3, .int .i64 c.bound, .slice a5 c.rows.length c5, .slice da ds.length dc, .slice (some ⟨bx, 0, none⟩) n n, .slice (some ⟨bs, 0, none⟩) n n] 124 (0, 0))
  x : W.ownsRow w0.heap.size 3 1 (.slice (some ⟨bx, 0, none⟩) n n) n (xs.map (Value.int .i64))
  s : W.ownsRow w0.heap.size 3 1 (.slice (some ⟨bs, 0, none⟩) n n) n (acc.map (Value.int .i64))
section
variable {w0 : World} {c : Con} {ds : List Int} {E bx bs n : Nat} {a2 a3 a5 da : Option Addr} {c2 c3 c5 dc : Nat} {xs acc : List Int} {W W' : World}
theorem EnSt.below (h : EnSt w0 c ds E bx bs n a2 a3 a5 da c2 c3 c5 dc xs acc W) (hb : Below W.heap.size W W') : EnSt w0 c ds E bx bs n a2 a3 a5 da c2 c3 c5 dc xs acc W' :=
  ⟨h.b.trans (hb.mono h.b.size), (hb.block E (Array.getElem?_eq_some_iff.1 h.e).1).trans h.e, own_below h.x hb, own_below h.s hb⟩
theorem EnSt.drew (h : EnSt w0 c ds E bx bs n a2 a3 a5 da c2 c3 c5 dc xs acc W) : EnSt w0 c ds E bx bs n a2 a3 a5 da c2 c3 c5 dc xs acc W.drew := h.below (Below.refl _ W).drew
theorem EnSt.cell (h : EnSt w0 c ds E bx bs n a2 a3 a5 da c2 c3 c5 dc xs acc W) :
    W.cell? ⟨E, 0, none⟩ = some (.int .i64 c.kind) ∧ W.cell? ⟨E, 1, none⟩ = some (.slice a2 n c2) ∧ W.cell? ⟨E, 2, none⟩ = some (.slice a3 c.args.length c3) ∧ W.cell? ⟨E, 3, none⟩ = some (.int .i64 c.bound) ∧ W.cell? ⟨E, 4, none⟩ = some (.slice a5 c.rows.length c5) ∧
      W.cell? ⟨E, 5, none⟩ = some (.slice da ds.length dc) ∧ W.cell? ⟨E, 6, none⟩ = some (.slice (some ⟨bx, 0, none⟩) n n) ∧ W.cell? ⟨E, 7, none⟩ = some (.slice (some ⟨bs, 0, none⟩) n n) := by
  simp [World.cell?, h.e]
theorem EnSt.xlen (h : EnSt w0 c ds E bx bs n a2 a3 a5 da c2 c3 c5 dc xs acc W) : xs.length = n := by have := h.x.1; simpa using this
theorem EnSt.slen (h : EnSt w0 c ds E bx bs n a2 a3 a5 da c2 c3 c5 dc xs acc W) : acc.length = n := by have := h.s.1; simpa using this
theorem EnSt.xcell (h : EnSt w0 c ds E bx bs n a2 a3 a5 da c2 c3 c5 dc xs acc W) {j : Nat} (hj : j < n) : W.cell? ⟨bx, j, none⟩ = some (.int .i64 (xs[j]?.getD 0)) ∧ W.frozen? ⟨bx, j, none⟩ = false := by
  have hl := h.xlen
  refine ⟨?_, h.x.frozenAt j⟩
  rw [h.x.cellAt j (by omega)]
  simp [hl, hj]
theorem EnSt.scell (h : EnSt w0 c ds E bx bs n a2 a3 a5 da c2 c3 c5 dc xs acc W) {j : Nat} (hj : j < n) : W.cell? ⟨bs, j, none⟩ = some (.int .i64 (acc[j]?.getD 0)) ∧ W.frozen? ⟨bs, j, none⟩ = false := by
  have hl := h.slen
  refine ⟨?_, h.s.frozenAt j⟩
  rw [h.s.cellAt j (by omega)]
  simp [hl, hj]
theorem drewN_below' (w : World) (k : Nat) : Below w.heap.size w (w.drewN k) := below_drewN' (Below.refl _ _) k
theorem grown_setCell (w : World) (b j : Nat) (u : Value) : w.grownBy (w.setCell ⟨b, j, none⟩ u) (some b) :=
  ⟨rfl, rfl, rfl, by simp, fun k _ hk => Below.heap_setCell _ _ _ k (fun e => hk (by rw [e]))⟩
theorem EnSt.setX (h : EnSt w0 c ds E bx bs n a2 a3 a5 da c2 c3 c5 dc xs acc W) (h1 : w0.heap.size ≤ bx) (h2 : bx ≠ bs) (h3 : bx ≠ E) (j : Nat) (v : Int) : EnSt w0 c ds E bx bs n a2 a3 a5 da c2 c3 c5 dc (xs.set j v) acc (W.setCell ⟨bx, j, none⟩ (.int .i64 v)) := by
  refine ⟨h.b.setCell (p := ⟨bx, j, none⟩) h1 _, (Below.heap_setCell _ _ _ E (Ne.symm h3)).trans h.e, ?_, ?_⟩
  · rw [List.map_set]; exact (h.x.stored j (.int .i64 v)).1
  · exact h.s.kept (grown_setCell W bx j _) (.inr (by simp [Value.ownBlock]; exact fun e => h2 e.symm))
theorem EnSt.setS (h : EnSt w0 c ds E bx bs n a2 a3 a5 da c2 c3 c5 dc xs acc W) (h1 : w0.heap.size ≤ bs) (h2 : bx ≠ bs) (h3 : bs ≠ E) (j : Nat) (v : Int) : EnSt w0 c ds E bx bs n a2 a3 a5 da c2 c3 c5 dc xs (acc.set j v) (W.setCell ⟨bs, j, none⟩ (.int .i64 v)) := by
  refine ⟨h.b.setCell (p := ⟨bs, j, none⟩) h1 _, (Below.heap_setCell _ _ _ E (Ne.symm h3)).trans h.e, ?_, ?_⟩
  · exact h.x.kept (grown_setCell W bs j _) (.inr (by simp [Value.ownBlock]; exact fun e => h2 e))
  · rw [List.map_set]; exact (h.s.stored j (.int .i64 v)).1
end

set_option maxRecDepth 100000 in
set_option maxHeartbeats 4000000 in
theorem walk_leaf {w0 : World} {c : Con} {ds : List Int} {E bx bs n : Nat} {a2 a3 a5 da : Option Addr} {c2 c3 c5 dc : Nat} {xs acc : List Int} {W : World}
    (h : EnSt w0 c ds E bx bs n a2 a3 a5 da c2 c3 c5 dc xs acc W) (hrc : RdCon w0 (.agg #[.int .i64 c.kind, .slice a2 n c2, .slice a3 c.args.length c3, .int .i64 c.bound, .slice a5 c.rows.length c5]) c)
    (hf : Fit c xs) (hacc : Small acc 0 63) (hn : n ≤ 4) (hb : w0.heap.size ≤ bs) (hne : bx ≠ bs) (hE : bs ≠ E) :
    Calls Try.prog 100 #[.pointer (some ⟨E, 0, none⟩), .int .i64 n] W fun e W' => (∃ v, e = .returned v) ∧ EnSt w0 c ds E bx bs n a2 a3 a5 da c2 c3 c5 dc xs (supStep c acc xs) W' := by
  have SD := Lib.hid h.drew
  have R1 := Lib.hid (hrc.below SD.out.b)
  have RX : Hid (RdInts W.drew (.slice (some ⟨bx, 0, none⟩) n n) xs) := Lib.hid (by
    have hl := h.xlen
    have := rdInts_of_own (xs := xs) (B := w0.heap.size) (w := W.drew) (v := .slice (some ⟨bx, 0, none⟩) n n) (by rw [hl]; exact SD.out.x)
    exact this)
  have HF := Lib.hid hf
  have HA := Lib.hid hacc
  have HXL := Lib.hid h.xlen
  have HSL := Lib.hid h.slen
  have HNE := Lib.hid (And.intro hb (And.intro hne hE))
  obtain ⟨p0, p1, p2, p3, p4, p5, p6, p7⟩ := h.cell
  clear h hrc hf hacc hb hne hE
  go_enter Try.func100, Try.ntmps100
  go_wp2_with fail
  go_region_with (go_at_call 126; refine (ssat_any c _ _ xs _ R1.out RX.out HF.out).mono ?_; rintro e w9 ⟨rfl, b9⟩; have S9 := Lib.hid (SD.out.below b9); clear b9)
  all_goals clear SD R1 RX p0 p1 p2 p3 p4 p5 p6 p7
  all_goals cases hs : satB c xs
  all_goals first
    | (have hfalse : satB c xs = false := hs
       have HS : Hid (supStep c acc xs = acc) := Lib.hid (by unfold supStep; rw [hs]; rfl)
       go_wp2
       refine bodyPost_ret (results_none rfl _ _ _) rfl ?_
       exact ⟨⟨_, rfl⟩, by rw [HS.out]; exact S9.out⟩)
    | (have htrue : satB c xs = true := hs
       have HS : Hid (supStep c acc xs = zipS acc xs n) := Lib.hid (by unfold supStep; rw [hs, ← HSL.out, zipS_all (by rw [HSL.out, HXL.out])]; rfl)
       go_wp2
       go_loopw [4] (fun q wr => ∃ j : Nat, j ≤ n ∧ q = .int .i64 j ∧ Hid (EnSt w0 c ds E bx bs n a2 a3 a5 da c2 c3 c5 dc xs (zipS acc xs j) wr)) (fun q _ => n - (intOf q).toNat)
       case atStart => exact ⟨0, Nat.zero_le _, rfl, Lib.hid (by rw [zipS_zero]; exact S9.out)⟩
       case round =>
         obtain ⟨j, hj, rfl, HST⟩ := hrel
         obtain ⟨p0, p1, p2, p3, p4, p5, p6, p7⟩ := HST.out.cell
         by_cases hlt : j < n
         · obtain ⟨x0, fx⟩ := HST.out.xcell hlt
           obtain ⟨s0, fs⟩ := HST.out.scell hlt
           rw [zipS_at (by rw [HSL.out, HXL.out]) (by rw [HSL.out]; exact hlt)] at s0
           have hxv := HF.out.small j (by rw [HXL.out]; exact hlt)
           obtain ⟨z, hz⟩ : ∃ z : Nat, xs[j]?.getD 0 = (z : Int) := ⟨(xs[j]?.getD 0).toNat, by omega⟩
           have hz5 : z ≤ 5 := by omega
           have hdv := HA.out j (by rw [HSL.out]; exact hlt)
           obtain ⟨d, hd⟩ : ∃ d, d = acc[j]?.getD 0 := ⟨_, rfl⟩
           have HZ := Lib.hid hz
           have HD := Lib.hid hd
           rw [hz] at x0
           rw [← hd] at s0 hdv
           clear hz hd hxv p0 p1 p2 p3 p4 p5
           cases hh : hasB d z
           · have HE : Hid (zipS acc xs (j + 1) = (zipS acc xs j).set j (addB d z)) := Lib.hid (by rw [zipS_step (by rw [HSL.out, HXL.out]) (by rw [HSL.out]; exact hlt), ← HD.out, HZ.out])
             have HW := Lib.hid (shl_add hdv.1 hdv.2 hz5 hh)
             go_wp2_with fail
             go_quiet ((go_at_call 53; exact Calls.quiet_of ((shas_any _ _ _ hdv.1 hdv.2).mono (fun e w' ⟨he, hw'⟩ => ⟨he, 0, hw'.symm⟩))))
             rw [hh]
             go_wp2_with fail
             go_region
             all_goals rw [HW.out]
             all_goals have S2 := Lib.hid ((HST.out.below (drewN_below' wr (nq + 1))).setS HNE.out.1 HNE.out.2.1 HNE.out.2.2 j (addB d z))
             all_goals clear p6 p7 x0 s0 fx fs
             all_goals go_wp2
             all_goals go_roundw
             all_goals first
               | exact ⟨j + 1, by omega, by go_num, Lib.hid (by rw [HE.out]; exact S2.out)⟩
               | (simp [intOf]; omega)
           · have HE : Hid (zipS acc xs (j + 1) = zipS acc xs j) := Lib.hid (zipS_same (by rw [HSL.out, HXL.out]) (by rw [HSL.out]; exact hlt) (by rw [← HD.out, HZ.out]; exact hh))
             go_wp2_with fail
             go_quiet ((go_at_call 53; exact Calls.quiet_of ((shas_any _ _ _ hdv.1 hdv.2).mono (fun e w' ⟨he, hw'⟩ => ⟨he, 0, hw'.symm⟩))))
             rw [hh]
             go_wp2
             go_roundw
             case rel => exact ⟨j + 1, by omega, by go_num, Lib.hid (by rw [HE.out]; exact HST.out.below (drewN_below' _ _))⟩
             case measure => simp [intOf]; omega
         · obtain rfl : j = n := by omega
           go_wp2
           refine bodyPost_ret (results_none rfl _ _ _) rfl ?_
           exact ⟨⟨_, rfl⟩, by rw [HS.out]; exact HST.out⟩)

set_option maxRecDepth 100000 in
set_option maxHeartbeats 4000000 in
theorem walk_any {w0 : World} {c : Con} {ds : List Int} {E bx bs n : Nat} {a2 a3 a5 da : Option Addr} {c2 c3 c5 dc : Nat}
    (hrc : RdCon w0 (.agg #[.int .i64 c.kind, .slice a2 n c2, .slice a3 c.args.length c3, .int .i64 c.bound, .slice a5 c.rows.length c5]) c) (hds : RdInts w0 (.slice da ds.length dc) ds)
    (hk : kindB c = true) (hnv : n = c.vars.length) (h1 : 1 ≤ n) (h4 : n ≤ 4) (hvs : Small c.vars 0 (ds.length - 1)) (hd : Small ds 0 63)
    (hbx : w0.heap.size ≤ bx) (hbs : w0.heap.size ≤ bs) (hne : bx ≠ bs) (hE : bs ≠ E) (hE' : bx ≠ E) :
    ∀ (vs : List Int) (i : Nat) (xs acc : List Int) (W : World), c.vars.drop i = vs → i ≤ n → EnSt w0 c ds E bx bs n a2 a3 a5 da c2 c3 c5 dc xs acc W → Small (xs.take i) 0 5 → Small acc 0 63 →
      Calls Try.prog 100 #[.pointer (some ⟨E, 0, none⟩), .int .i64 i] W fun e W' => (∃ v, e = .returned v) ∧ ∃ xs', xs'.take i = xs.take i ∧ EnSt w0 c ds E bx bs n a2 a3 a5 da c2 c3 c5 dc xs' (supP c ds (xs.take i) vs acc) W' ∧ Small (supP c ds (xs.take i) vs acc) 0 63 := by
  intro vs
  induction vs with
  | nil =>
    intro i xs acc W hdr hi hst hp ha
    have hin : i = n := by
      have := congrArg List.length hdr
      rw [List.length_drop] at this
      simp at this
      omega
    subst hin
    have hxl := hst.xlen
    rw [List.take_of_length_le (by omega)] at hp ⊢
    have hf : Fit c xs := ⟨hk, by omega, by omega, by omega, hp, allB_true fun j hj => by have := hp j hj; exact wiB_true this.1 this.2⟩
    rw [supP_nil]
    refine (walk_leaf hst hrc hf ha h4 hbs hne hE).mono ?_
    rintro e W' ⟨hv, h'⟩
    exact ⟨hv, xs, List.take_of_length_le (by omega), h', supStep_small (by have := hst.slen; omega) ha hp⟩
  | cons v vs ih =>
    intro i xs acc W hdr hi hst hp ha
    have hil : i < n := by
      have := congrArg List.length hdr
      rw [List.length_drop] at this
      simp at this
      omega
    have hvi : c.vars[i]? = some v := by
      have := congrArg (fun l => l[0]?) hdr
      simpa using this
    have hdr' : c.vars.drop (i + 1) = vs := by
      have := congrArg List.tail hdr
      simpa using this
    have hvb := hvs i (by omega)
    rw [hvi] at hvb
    simp only [Option.getD_some] at hvb
    obtain ⟨z, rfl⟩ : ∃ z : Nat, v = (z : Int) := ⟨v.toNat, by omega⟩
    have hzl : z < ds.length := by omega
    have hdz := hd z hzl
    obtain ⟨p, hpp⟩ : ∃ p, p = xs.take i := ⟨_, rfl⟩
    have hpl : p.length = i := by rw [hpp, List.length_take]; have := hst.xlen; omega
    rw [← hpp] at hp ⊢
    have HIH := Lib.hid (ih (i + 1))
    have HDR := Lib.hid hdr'
    have HPP := Lib.hid hpp
    have HPL := Lib.hid hpl
    have HP5 := Lib.hid hp
    have HVI : Hid (c.vars[i]?.getD 0 = (z : Int)) := Lib.hid (by rw [hvi]; rfl)
    have HRC := Lib.hid hrc
    have HDS := Lib.hid hds
    have HN := Lib.hid (And.intro hbx (And.intro hbs (And.intro hne (And.intro hE hE'))))
    have HNV := Lib.hid hnv
    have HST0 := Lib.hid hst
    have HA0 := Lib.hid ha
    have hcd := (rdInts_cap hds).2
    obtain ⟨d, hdd⟩ : ∃ d, d = ds[z]?.getD 0 := ⟨_, rfl⟩
    rw [← hdd] at hdz
    have HDD := Lib.hid hdd
    obtain ⟨p0, p1, p2, p3, p4, p5, p6, p7⟩ := hst.cell
    have hin0 : ((i : Int) == (n : Int)) = false := by simp; omega
    clear ih hdr' hdr hvi hvb hpp hpl hp hrc hds hbx hbs hne hE hE' hnv hst ha hvs hd hdd hk
    rw [supP_cons]
    go_enter Try.func100, Try.ntmps100
    go_wp2
    clear p0 p1 p2 p3 p4 p5 p6 p7
    go_loopw [5] (fun q wr => ∃ (k : Nat) (ys : List Int), k ≤ 6 ∧ q = .int .i64 k ∧ Hid (ys.take i = p) ∧ Hid (EnSt w0 c ds E bx bs n a2 a3 a5 da c2 c3 c5 dc ys (supK c ds p (z : Int) vs acc k) wr) ∧ Hid (Small (supK c ds p (z : Int) vs acc k) 0 63)) (fun q _ => 6 - (intOf q).toNat)
    case atStart => exact ⟨0, xs, by omega, rfl, Lib.hid HPP.out.symm, Lib.hid (by rw [supK_zero]; exact HST0.out), Lib.hid (by rw [supK_zero]; exact HA0.out)⟩
    case round =>
      obtain ⟨k, ys, hk6, rfl, HT, HST, HSA⟩ := hrel
      by_cases hlt : k < 6
      · obtain ⟨p0, p1, p2, p3, p4, p5, p6, p7⟩ := HST.out.cell
        obtain ⟨b, off, q1⟩ : ∃ b off, a2 = some ⟨b, off, none⟩ ∧ wr.cell? ⟨b, off + i, none⟩ = some (.int .i64 z) := by
          obtain ⟨u2, u3, u5, eu, r2, _⟩ := HRC.out.below HST.out.b
          simp at eu
          obtain ⟨rfl, rfl, rfl⟩ := eu
          obtain ⟨b, off, e1, e2⟩ := rdInts_at r2 hil
          rw [HVI.out] at e2
          exact ⟨b, off, e1, e2⟩
        obtain ⟨rfl, q1⟩ := q1
        obtain ⟨b2, o2, rfl, q2⟩ := rdInts_at (HDS.out.below HST.out.b) hzl
        rw [← HDD.out] at q2
        obtain ⟨x0, f0⟩ := HST.out.xcell hil
        cases hh : hasB d k
        · have HS : Hid (supK c ds p (z : Int) vs acc (k + 1) = supK c ds p (z : Int) vs acc k) := Lib.hid (supK_skip c ds p z vs acc k (by rw [show (z : Int).toNat = z from rfl, ← HDD.out]; exact hh))
          go_wp2_with fail
          go_quiet ((go_at_call 53; exact Calls.quiet_of ((shas_any _ _ _ hdz.1 hdz.2).mono (fun e w' ⟨he, hw'⟩ => ⟨he, 0, hw'.symm⟩))))
          rw [hh]
          go_wp2
          go_roundw
          case rel => exact ⟨k + 1, ys, by omega, by go_num, HT, Lib.hid (by rw [HS.out]; exact HST.out.below (drewN_below' _ _)), Lib.hid (by rw [HS.out]; exact HSA.out)⟩
          case measure => simp [intOf]; omega
        · have HS : Hid (supK c ds p (z : Int) vs acc (k + 1) = supP c ds (p ++ [(k : Int)]) vs (supK c ds p (z : Int) vs acc k)) := Lib.hid (supK_more c ds p z vs acc k (by rw [show (z : Int).toNat = z from rfl, ← HDD.out]; exact hh))
          go_wp2_with fail
          go_quiet ((go_at_call 53; exact Calls.quiet_of ((shas_any _ _ _ hdz.1 hdz.2).mono (fun e w' ⟨he, hw'⟩ => ⟨he, 0, hw'.symm⟩))))
          rw [hh]
          go_wp2_with fail
          have S1 := (HST.out.below (drewN_below' wr nq)).setX HN.out.1 HN.out.2.2.1 HN.out.2.2.2.2 i (k : Int)
          have htk : (ys.set i (k : Int)).take (i + 1) = p ++ [(k : Int)] := by
            have hyl := HST.out.xlen
            rw [List.take_succ_eq_append_getElem (by rw [List.length_set]; omega), List.take_set_of_le (Nat.le_refl _), HT.out]
            simp
          have hsm : Small ((ys.set i (k : Int)).take (i + 1)) 0 5 := by
            rw [htk]
            intro j hj
            rw [List.length_append, HPL.out] at hj
            simp at hj
            by_cases e : j = i
            · subst e
              rw [List.getElem?_append_right (by rw [HPL.out]; exact Nat.le_refl _), HPL.out]
              simp; omega
            · rw [List.getElem?_append_left (by rw [HPL.out]; omega)]
              exact HP5.out j (by rw [HPL.out]; omega)
          have hcall := HIH.out (ys.set i (k : Int)) _ _ HDR.out (by omega) S1 hsm HSA.out
          rw [htk, show (((i + 1 : Nat)) : Int) = (i : Int) + 1 from by omega] at hcall
          refine hcall.mono ?_
          rintro e w5 ⟨⟨ve, rfl⟩, ys2, ht2, st2, sm2⟩
          have HT2 : Hid (ys2.take i = p) := Lib.hid (by
            have := congrArg (List.take i) ht2
            rw [List.take_take, Nat.min_eq_left (by omega)] at this
            rw [this]
            simp [HPL.out])
          have HS2 := Lib.hid st2
          have HM2 := Lib.hid sm2
          clear hcall S1 htk hsm ht2 st2 sm2 p0 p1 p2 p3 p4 p5 p6 p7 q1 q2 x0 f0
          go_wp2
          go_roundw
          case rel => exact ⟨k + 1, ys2, by omega, by go_num, HT2, Lib.hid (by rw [HS.out]; exact HS2.out), Lib.hid (by rw [HS.out]; exact HM2.out)⟩
          case measure => simp [intOf]; omega
      · obtain rfl : k = 6 := by omega
        go_wp2
        go_end0
        exact ⟨⟨_, rfl⟩, ys, HT.out, HST.out, HSA.out⟩

/-- The supports of the tuples of c. -/
def supL (c : Con) (ds : List Int) : List Int := supP c ds [] c.vars (List.replicate c.vars.length 0)
/-- The domains ds with those of the first k variables of c replaced by their supports. -/
def putL (c : Con) (ds sup : List Int) : Nat → List Int
  | 0 => ds
  | k + 1 => (putL c ds sup k).set (c.vars[k]?.getD 0).toNat (sup[k]?.getD 0)
/-- What filtering leaves. -/
def filL (c : Con) (ds : List Int) : List Int := putL c ds (supL c ds) c.vars.length
theorem putL_length (c : Con) (ds sup : List Int) (k : Nat) : (putL c ds sup k).length = ds.length := by
  induction k with
  | zero => rfl
  | succ k ih => rw [putL, List.length_set, ih]
end Go.Proofs.Ytipapmmjfoaddaa

/-! Tuples and supported values: lengths and bounds. -/
namespace Go.Proofs.Ytipapmmjfoaddaa
open Go.ChangeShapes Go.WideShapes Go.ChangeAt Go.RowKit
set_option linter.unusedVariables false
set_option linter.unusedSimpArgs false

theorem vL_mem {d : Int} {k : Nat} {a : Int} (h : a ∈ vL d k) : 0 ≤ a ∧ a < k ∧ hasB d a = true := by
  induction k with
  | zero => simp [vL] at h
  | succ k ih =>
    rw [vL] at h
    rcases List.mem_append.1 h with h | h
    · have := ih h; exact ⟨this.1, by omega, this.2.2⟩
    · split at h
      · rename_i hk
        simp at h
        subst h
        exact ⟨by omega, by omega, hk⟩
      · simp at h
theorem tups_mem {ds : List Int} : ∀ {vs t : List Int}, t ∈ tups ds vs → t.length = vs.length ∧ ∀ x ∈ t, 0 ≤ x ∧ x ≤ 5
  | [], t, h => by simp [tups] at h; subst h; simp
  | v :: vs, t, h => by
    rw [tups, List.mem_flatMap] at h
    obtain ⟨a, ha, h⟩ := h
    obtain ⟨t', ht', rfl⟩ := List.mem_map.1 h
    have hi := tups_mem ht'
    have hv := vL_mem ha
    refine ⟨by simp [hi.1], fun x hx => ?_⟩
    rcases List.mem_cons.1 hx with rfl | hx
    · exact ⟨hv.1, by omega⟩
    · exact hi.2 x hx
theorem small_mem {xs : List Int} {lo hi : Int} : Small xs lo hi ↔ ∀ x ∈ xs, lo ≤ x ∧ x ≤ hi := by
  constructor
  · intro h x hx
    obtain ⟨j, hj, rfl⟩ := List.mem_iff_getElem.1 hx
    have := h j hj
    rw [List.getElem?_eq_getElem hj] at this
    simpa using this
  · intro h j hj
    rw [List.getElem?_eq_getElem hj]
    exact h _ (List.getElem_mem hj)
theorem foldl_sup (c : Con) : ∀ (T : List (List Int)) (acc : List Int), (∀ t ∈ T, t.length = acc.length ∧ Small t 0 5) → Small acc 0 63 → (T.foldl (supStep c) acc).length = acc.length ∧ Small (T.foldl (supStep c) acc) 0 63
  | [], acc, _, h => ⟨rfl, h⟩
  | t :: T, acc, hT, h => by
    have h0 := hT t (by simp)
    have hl := supStep_length (c := c) h0.1
    have := foldl_sup c T (supStep c acc t) (fun t' ht' => by rw [hl]; exact hT t' (by simp [ht'])) (supStep_small h0.1 h h0.2)
    rw [List.foldl_cons]
    exact ⟨this.1.trans hl, this.2⟩
theorem supL_facts (c : Con) (ds : List Int) : (supL c ds).length = c.vars.length ∧ Small (supL c ds) 0 63 := by
  have := foldl_sup c ((tups ds c.vars).map ([] ++ ·)) (List.replicate c.vars.length 0) (fun t ht => by
    obtain ⟨t', ht', rfl⟩ := List.mem_map.1 ht
    have := tups_mem ht'
    simpa [small_mem] using this) (by rw [small_mem]; intro x hx; have := (List.mem_replicate.1 hx).2; omega)
  simpa [supL, supP] using this
theorem putL_small {c : Con} {ds sup : List Int} (hd : Small ds 0 63) (hs : Small sup 0 63) (hl : sup.length = c.vars.length) : ∀ k, k ≤ c.vars.length → Small (putL c ds sup k) 0 63
  | 0, _ => hd
  | k + 1, hk => by
    have ih := putL_small hd hs hl k (by omega)
    rw [putL, small_mem]
    intro x hx
    rcases List.mem_or_eq_of_mem_set hx with h | h
    · exact small_mem.1 ih x h
    · subst h; exact hs k (by omega)
theorem filL_facts {c : Con} {ds : List Int} (hd : Small ds 0 63) : (filL c ds).length = ds.length ∧ Small (filL c ds) 0 63 :=
  ⟨putL_length _ _ _ _, putL_small hd (supL_facts c ds).2 (supL_facts c ds).1 _ (Nat.le_refl _)⟩
end Go.Proofs.Ytipapmmjfoaddaa
