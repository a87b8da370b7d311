/- Usage, both packages. -/
import Derived.Test.YtelglccegkhfcaaMkq
import Derived.Deep.Onto
namespace Go.Proofs.Ytelglccegkhfcaa
open Go.ChangeShapes Go.WideShapes Go.ChangeAt Go.RowKit Go.Deep Go.Shelf
set_option linter.unusedVariables false
set_option linter.unusedSimpArgs false

/-- The usage when the first k tasks, and task k up to time t, are laid. -/
def usF (ts : List Tsk) (xs : List Int) (k : Nat) (t : Int) (j : Nat) : Int := totP ts xs j ((j : Int) + 1) k + (if xAt xs k ≤ j ∧ (j : Int) < t then (tAt ts k).de else 0)
def usT (ts : List Tsk) (xs : List Int) (k : Nat) (t : Int) : List Int := (List.range 11).map (usF ts xs k t)
theorem usT_length (ts : List Tsk) (xs : List Int) (k : Nat) (t : Int) : (usT ts xs k t).length = 11 := by unfold usT; simp
theorem usT_at {ts : List Tsk} {xs : List Int} {k : Nat} {t : Int} {j : Nat} (h : j < 11) : (usT ts xs k t)[j]? = some (usF ts xs k t j) := by unfold usT; simp [h]
theorem usT_congr {ts : List Tsk} {xs : List Int} {k k' : Nat} {t t' : Int} (h : ∀ j, j < 11 → usF ts xs k t j = usF ts xs k' t' j) : usT ts xs k t = usT ts xs k' t' := by
  unfold usT
  exact List.map_congr_left (fun j hj => h j (List.mem_range.1 hj))
theorem usT_zero (ts : List Tsk) (xs : List Int) (hx : 0 ≤ xAt xs 0) : usT ts xs 0 0 = List.replicate 11 0 := by
  have h : ∀ j, usF ts xs 0 0 j = 0 := fun j => by
    unfold usF totP
    rw [if_neg (by omega)]
    rfl
  unfold usT
  rw [List.map_congr_left (g := fun _ => 0) (fun j _ => h j)]
  rfl
theorem usT_start (ts : List Tsk) (xs : List Int) (k : Nat) : usT ts xs k 0 = usT ts xs k (xAt xs k) := usT_congr (fun j hj => by
  unfold usF
  rw [if_neg (by omega), if_neg (by omega)])
theorem usT_end {ts : List Tsk} {xs : List Int} {k : Nat} (h : tkB (tAt ts k) = true) : usT ts xs k (xAt xs k + (tAt ts k).du) = usT ts xs (k + 1) 0 := usT_congr (fun j hj => by
  have e : totP ts xs j ((j : Int) + 1) (k + 1) = totP ts xs j ((j : Int) + 1) k + enP (tAt ts k) (xAt xs k) j ((j : Int) + 1) := rfl
  unfold usF
  rw [e, enP_one h, if_neg (show ¬ (xAt xs (k + 1) ≤ (j : Int) ∧ (j : Int) < 0) by omega), Int.add_zero])
theorem usT_step {ts : List Tsk} {xs : List Int} {k t : Nat} (h1 : xAt xs k ≤ t) (ht : t < 11) : (usT ts xs k t).set t (usF ts xs k t t + (tAt ts k).de) = usT ts xs k ((t : Int) + 1) := by
  apply List.ext_getElem?
  intro j
  rw [List.getElem?_set, usT_length]
  by_cases hj : t = j
  · subst hj
    rw [if_pos rfl, if_pos ht, usT_at ht]
    unfold usF
    rw [if_neg (by omega), if_pos (by omega), Int.add_zero]
  · rw [if_neg hj]
    by_cases hj2 : j < 11
    · rw [usT_at hj2, usT_at hj2]
      unfold usF
      have e : (xAt xs k ≤ (j : Int) ∧ (j : Int) < (t : Int)) ↔ (xAt xs k ≤ (j : Int) ∧ (j : Int) < (t : Int) + 1) := by omega
      simp only [e]
    · rw [List.getElem?_eq_none (by rw [usT_length]; omega), List.getElem?_eq_none (by rw [usT_length]; omega)]
theorem usT_fin (ts : List Tsk) (xs : List Int) : usT ts xs ts.length 0 = usgL ts xs := by
  unfold usT usgL
  refine List.map_congr_left (fun j _ => ?_)
  unfold usF
  rw [if_neg (by omega), Int.add_zero]
theorem usF_bd {ts : List Tsk} {xs : List Int} {k : Nat} {t : Int} (h : tksB ts = true) (j : Nat) (hk : k < ts.length) : 0 ≤ usF ts xs k t j ∧ usF ts xs k t j ≤ 1000 := by
  have h1 := totP_bd (xs := xs) (lo := j) (hi := (j : Int) + 1) h k
  have h2 := (tksB_at h).1
  have e : ts[k]? = some ts[k] := List.getElem?_eq_getElem hk
  have h3 := tkB_in ((tksB_at h).2 k _ e)
  rw [← tAt_of e] at h3
  unfold usF
  split <;> omega
section
set_option maxRecDepth 100000
theorem index_tsk (w : World) (b off n c j : Nat) (hj : j < n) : (Instr.indexAt 32 (.slice (some ⟨b, off, none⟩) n c) (.int .i64 j)).run Try.prog w = .ok (.pointer (some ⟨b, off + j * 3, none⟩)) w := by
  go_simp
theorem exec_field2U {w : World} {ev : Operand → Value} {o : Oper} {x : Operand} {b off : Nat} (ho : o.op = .fieldAddr 38 x 2) (hx : ev x = .pointer (some ⟨b, off, none⟩)) : (execOp ev o).run Try.prog w = .ok (.value (.pointer (some ⟨b, off + 2, none⟩))) w := by
  unfold execOp
  simp only [ho, hx]
  go_simp
theorem add_intsU (w : World) (x y : Operand) (d m : Int) (h1 : 0 ≤ d ∧ d ≤ 1000) (h2 : 0 ≤ m ∧ m ≤ 1000) : (do eqGuard .add 3 x y (.int .i64 d) (.int .i64 m); binOp .add 3 (.int .i64 d) (.int .i64 m) : Sem Value).run Try.prog w = .ok (.int .i64 (d + m)) w := by
  go_simp
  simp [IntKind.wrap, IntKind.bits, IntKind.signed]
  omega
end
/-- The activation inside the drawn region. -/
def usX (z0 z1 z2 z3 z4 z5 z6 z7 z8 z9 z10 z11 z12 z13 z14 z15 z16 z17 z18 z19 z20 z21 z22 z23 z24 z25 z26 z27 z28 z29 z30 z31 z32 z33 z34 z35 z36 z37 z38 z39 z40 z41 z42 z43 z44 z45 z46 : Value) : Act := { tmps := #[z0, z1, z2, z3, z4, z5, z6, z7, z8, z9, z10, z11, z12, z13, z14, z15, z16, z17, z18, z19, z20, z21, z22, z23, z24, z25, z26, z27, z28, z29, z30, z31, z32, z33, z34, z35, z36, z37, z38, z39, z40, z41, z42, z43, z44, z45, z46], defers := [] }
set_option maxRecDepth 100000 in
set_option maxHeartbeats 8000000 in
theorem susage_any (tv xv : Value) (ts : List Tsk) (xs : List Int) (w : World) (h : RdTsks w tv ts) (hx : RdInts w xv xs) (ha : aplB ts xs = true) :
    Calls Try.prog 74 #[tv, xv] w (IntsPost (usgL ts xs) w) := by
  obtain ⟨hl4, hl1, hxl, hok⟩ := aplB_ok ha
  have htk : tksB ts = true := by unfold aplB at ha; rw [Bool.and_eq_true] at ha; exact ha.1
  have HC := Lib.hid h
  have HX := Lib.hid hx
  have HOK := Lib.hid hok
  obtain ⟨a, cap, ev, hl, hm, _⟩ := h
  obtain ⟨ax, cx, ex, -⟩ := id hx
  have HFB := Lib.hid (fun (k : Nat) (t : Int) (j : Nat) (hk : k < ts.length) => usF_bd (xs := xs) (t := t) htk j hk)
  have HFI := Lib.hid (usT_fin ts xs)
  have HZR := Lib.hid (usT_zero ts xs (hok 0 hl1).2.1)
  obtain ⟨n, hn⟩ : ∃ n, n = ts.length := ⟨_, rfl⟩
  have HN := Lib.hid hn
  rw [ev] at HC ⊢
  rw [ex, hxl] at HX ⊢
  rw [← hn] at hl HC HX hl4 HOK HFB HFI ⊢
  unfold maxLen at hm
  have hcx := (rdInts_cap HX.out).2
  clear ev ex hn hxl hx hok hl1 htk ha
  obtain ⟨i0, hi, hz0, hz1, hz2⟩ := info_parts Try.info3
  go_enter Try.func74, Try.ntmps74
  go_wp2_with (at_make; refine wpList_make_full _ rfl _ _ 29 rfl w.heap.size 3 i0 (.int .i64 0) 1 Try.underlying29 hi hz0 hz1 .i64 .i64 _ _ 11 rfl rfl rfl rfl (by rw [hz2]; omega) (by unfold maxLen; omega) (Nat.le_refl _) ?_; intro w1 hown hgrow)
  rw [madeInts] at hown
  have hb1 := below_of_grown hgrow
  have HO : Hid (w1.ownsRow w.heap.size 3 1 (.slice (some ⟨w.heap.size, 0, none⟩) 11 11) 11 ((usT ts xs 0 0).map (Value.int .i64))) := Lib.hid (by rw [HZR.out]; exact hown)
  have HB1 := Lib.hid hb1
  clear hown hgrow hb1
  go_wp2
  go_loopw [6] (fun i wr => ∃ k : Nat, k ≤ n ∧ i = .int .i64 k ∧ Hid (wr.ownsRow w.heap.size 3 1 (.slice (some ⟨w.heap.size, 0, none⟩) 11 11) 11 ((usT ts xs k 0).map (Value.int .i64))) ∧ Hid (Below w.heap.size w wr)) (fun i _ => n - (intOf i).toNat)
  case atStart => exact ⟨0, Nat.zero_le _, rfl, HO, HB1⟩
  case round =>
    obtain ⟨k, hk, rfl, HR, HB⟩ := hrel
    by_cases hlt : k < n
    · obtain ⟨b, off, t, rfl, hck, k0, k1, k2⟩ := rdTsks_at HC.out hlt
      have HK1 := Lib.hid k1
      have HK2 := Lib.hid k2
      have HTK : Hid (tAt ts k = t) := Lib.hid (tAt_of hck)
      obtain ⟨b2, o2, rfl, q2⟩ := rdInts_at HX.out hlt
      replace q2 : w.cell? ⟨b2, o2 + k, none⟩ = some (.int .i64 (xAt xs k)) := q2
      have hok := HOK.out k hlt
      have hti := tkB_in hok.1
      rw [HTK.out] at hti
      have HST := Lib.hid (usT_start ts xs k)
      have HEN := Lib.hid (usT_end (xs := xs) hok.1)
      have HSP := Lib.hid (fun (t : Nat) (h1 : xAt xs k ≤ t) (ht : t < 11) => usT_step (ts := ts) (xs := xs) (k := k) (t := t) h1 ht)
      rw [HTK.out] at HEN HSP
      have hs5 := hok.2
      obtain ⟨s, hs⟩ := Int.eq_ofNat_of_zero_le hs5.1
      rw [hs] at q2 hs5 HST HEN HSP
      have HQ2 := Lib.hid q2
      have q2r := (HB.out.cell (World.block_lt_of_cell? _ _ q2)).trans q2
      clear hck hok hs k0 k1 k2 q2
      go_wp2_with fail
      clear q2r
      go_loopw [7] (fun j wr2 => ∃ q : Nat, s ≤ q ∧ (q : Int) ≤ s + t.du ∧ j = .int .i64 q ∧ Hid (wr2.ownsRow w.heap.size 3 1 (.slice (some ⟨w.heap.size, 0, none⟩) 11 11) 11 ((usT ts xs k q).map (Value.int .i64))) ∧ Hid (Below w.heap.size w wr2)) (fun j _ => 20 - (intOf j).toNat)
      case atStart => exact ⟨s, Nat.le_refl _, by omega, by go_num, Lib.hid (by rw [← HST.out]; exact HR.out), HB⟩
      case round =>
        obtain ⟨q, hq1, hq2, rfl, HRQ, HBQ⟩ := hrel
        have q2r := (HBQ.out.cell (World.block_lt_of_cell? _ _ HQ2.out)).trans HQ2.out
        have k1r := (HBQ.out.cell (World.block_lt_of_cell? _ _ HK1.out)).trans HK1.out
        by_cases hin : (q : Int) < s + t.du
        · have hq11 : q < 11 := by omega
          have hub := HFB.out k q q hlt
          have HNX := Lib.hid (HSP.out q (by omega) hq11)
          obtain ⟨z, hz⟩ : ∃ z, z = usF ts xs k q q := ⟨_, rfl⟩
          have HCE := Lib.hid (usT_at (ts := ts) (xs := xs) (k := k) (t := q) hq11)
          rw [← hz] at hub HNX HCE
          clear hz
          go_wp2_with fail
          go_quiet (fail)
          go_wp2_with fail
          obtain ⟨W, hW⟩ : ∃ W, W = wr.drewN nq := ⟨_, rfl⟩
          rw [← hW]
          have HBW : Hid (Below w.heap.size w W.drew) := Lib.hid (by rw [hW]; exact (below_drewN' HBQ.out nq).drew)
          have HRW : Hid (W.drew.ownsRow w.heap.size 3 1 (.slice (some ⟨w.heap.size, 0, none⟩) 11 11) 11 ((usT ts xs k q).map (Value.int .i64))) := Lib.hid (own_below HRQ.out (by rw [hW]; exact (below_drewN' (Below.refl _ _) nq).drew))
          have hS : W.drew.cell? ⟨w.heap.size, q, none⟩ = some (.int .i64 z) ∧ W.drew.cell? ⟨b, off + k * 3 + 2, none⟩ = some (.int .i64 t.de) := ⟨by rw [HRW.out.cellAt q (by omega), List.getElem?_map, HCE.out]; rfl, (HBW.out.cell (World.block_lt_of_cell? _ _ HK2.out)).trans HK2.out⟩
          have hF := HRW.out.frozenAt q
          have hI : (0 : Int) ≤ (q : Int) := by omega
          clear hW q2r k1r
          refine region_x (fun w' => w'.cell? ⟨w.heap.size, q, none⟩ = some (.int .i64 z) ∧ w'.cell? ⟨b, off + k * 3 + 2, none⟩ = some (.int .i64 t.de)) (fun j => j == 13) (by kernel_rfl) ?_
          change wpAnyX Try.prog .any _ _ _ _ 14 _ (usX _ _ _ _ _ _ _ _ _ _ _ _ _ _ _ _ _ _ _ _ _ _ _ _ _ _ _ _ _ _ _ _ _ _ _ _ _ _ _ _ _ _ _ _ _ _ _) W.drew
          refine wpAnyX_take (i := 0) (v := .slice (some ⟨w.heap.size, 0, none⟩) 11 11) rfl (by kernel_rfl) (by kernel_rfl) (by kernel_rfl) (by kernel_rfl) (fun _ _ _ h => h) (.inl ⟨rfl, fun w' hw' => rfl⟩) hS ?_
          change wpAnyX Try.prog .any _ _ _ _ 13 _ (usX _ _ _ _ _ _ _ _ _ _ _ _ _ _ _ _ _ _ _ _ _ _ _ _ _ _ _ _ _ _ _ _ _ (.slice (some ⟨w.heap.size, 0, none⟩) 11 11) _ _ _ _ _ _ _ _ _ _ _ _ _) W.drew
          refine wpAnyX_take (i := 1) (v := .int .i64 q) rfl (by kernel_rfl) (by kernel_rfl) (by kernel_rfl) (by kernel_rfl) (fun _ _ _ h => h) (.inl ⟨rfl, fun w' hw' => rfl⟩) hS ?_
          change wpAnyX Try.prog .any _ _ _ _ 12 _ (usX _ _ _ _ _ _ _ _ _ _ _ _ _ _ _ _ _ _ _ _ _ _ _ _ _ _ _ _ _ _ _ _ _ (.slice (some ⟨w.heap.size, 0, none⟩) 11 11) (.int .i64 q) _ _ _ _ _ _ _ _ _ _ _ _) W.drew
          refine wpAnyX_take (i := 2) (v := .slice (some ⟨w.heap.size, 0, none⟩) 11 11) rfl (by kernel_rfl) (by kernel_rfl) (by kernel_rfl) (by kernel_rfl) (fun _ _ _ h => h) (.inl ⟨rfl, fun w' hw' => rfl⟩) hS ?_
          change wpAnyX Try.prog .any _ _ _ _ 11 _ (usX _ _ _ _ _ _ _ _ _ _ _ _ _ _ _ _ _ _ _ _ _ _ _ _ _ _ _ _ _ _ _ _ _ (.slice (some ⟨w.heap.size, 0, none⟩) 11 11) (.int .i64 q) (.slice (some ⟨w.heap.size, 0, none⟩) 11 11) _ _ _ _ _ _ _ _ _ _ _) W.drew
          refine wpAnyX_take (i := 3) (v := .int .i64 q) rfl (by kernel_rfl) (by kernel_rfl) (by kernel_rfl) (by kernel_rfl) (fun _ _ _ h => h) (.inl ⟨rfl, fun w' hw' => rfl⟩) hS ?_
          change wpAnyX Try.prog .any _ _ _ _ 10 _ (usX _ _ _ _ _ _ _ _ _ _ _ _ _ _ _ _ _ _ _ _ _ _ _ _ _ _ _ _ _ _ _ _ _ (.slice (some ⟨w.heap.size, 0, none⟩) 11 11) (.int .i64 q) (.slice (some ⟨w.heap.size, 0, none⟩) 11 11) (.int .i64 q) _ _ _ _ _ _ _ _ _ _) W.drew
          refine wpAnyX_take (i := 4) (v := .pointer (some ⟨w.heap.size, q, none⟩)) rfl (by kernel_rfl) (by kernel_rfl) (by kernel_rfl) (by kernel_rfl) (fun _ _ _ h => h) (.inl ⟨rfl, fun w' hw' => exec_index rfl rfl rfl (index0_ints w' _ _ _ _ hq11)⟩) hS ?_
          change wpAnyX Try.prog .any _ _ _ _ 9 _ (usX _ _ _ _ _ _ _ _ _ _ _ _ _ _ _ _ _ _ _ _ _ _ _ _ _ _ _ _ _ _ _ _ _ (.slice (some ⟨w.heap.size, 0, none⟩) 11 11) (.int .i64 q) (.slice (some ⟨w.heap.size, 0, none⟩) 11 11) (.int .i64 q) (.pointer (some ⟨w.heap.size, q, none⟩)) _ _ _ _ _ _ _ _ _) W.drew
          refine wpAnyX_take (i := 5) (v := .int .i64 z) rfl (by kernel_rfl) (by kernel_rfl) (by kernel_rfl) (by kernel_rfl) (fun _ _ _ h => h) (.inl ⟨rfl, fun w' hw' => exec_load rfl rfl (load_int w' _ _ _ hw'.1)⟩) hS ?_
          change wpAnyX Try.prog .any _ _ _ _ 8 _ (usX _ _ _ _ _ _ _ _ _ _ _ _ _ _ _ _ _ _ _ _ _ _ _ _ _ _ _ _ _ _ _ _ _ (.slice (some ⟨w.heap.size, 0, none⟩) 11 11) (.int .i64 q) (.slice (some ⟨w.heap.size, 0, none⟩) 11 11) (.int .i64 q) (.pointer (some ⟨w.heap.size, q, none⟩)) (.int .i64 z) _ _ _ _ _ _ _ _) W.drew
          refine wpAnyX_take (i := 6) (v := .slice (some ⟨b, off, none⟩) n cap) rfl (by kernel_rfl) (by kernel_rfl) (by kernel_rfl) (by kernel_rfl) (fun _ _ _ h => h) (.inl ⟨rfl, fun w' hw' => rfl⟩) hS ?_
          change wpAnyX Try.prog .any _ _ _ _ 7 _ (usX _ _ _ _ _ _ _ _ _ _ _ _ _ _ _ _ _ _ _ _ _ _ _ _ _ _ _ _ _ _ _ _ _ (.slice (some ⟨w.heap.size, 0, none⟩) 11 11) (.int .i64 q) (.slice (some ⟨w.heap.size, 0, none⟩) 11 11) (.int .i64 q) (.pointer (some ⟨w.heap.size, q, none⟩)) (.int .i64 z) (.slice (some ⟨b, off, none⟩) n cap) _ _ _ _ _ _ _) W.drew
          refine wpAnyX_take (i := 7) (v := .int .i64 k) rfl (by kernel_rfl) (by kernel_rfl) (by kernel_rfl) (by kernel_rfl) (fun _ _ _ h => h) (.inl ⟨rfl, fun w' hw' => rfl⟩) hS ?_
          change wpAnyX Try.prog .any _ _ _ _ 6 _ (usX _ _ _ _ _ _ _ _ _ _ _ _ _ _ _ _ _ _ _ _ _ _ _ _ _ _ _ _ _ _ _ _ _ (.slice (some ⟨w.heap.size, 0, none⟩) 11 11) (.int .i64 q) (.slice (some ⟨w.heap.size, 0, none⟩) 11 11) (.int .i64 q) (.pointer (some ⟨w.heap.size, q, none⟩)) (.int .i64 z) (.slice (some ⟨b, off, none⟩) n cap) (.int .i64 k) _ _ _ _ _ _) W.drew
          refine wpAnyX_take (i := 8) (v := .pointer (some ⟨b, off + k * 3, none⟩)) rfl (by kernel_rfl) (by kernel_rfl) (by kernel_rfl) (by kernel_rfl) (fun _ _ _ h => h) (.inl ⟨rfl, fun w' hw' => exec_index rfl rfl rfl (index_tsk w' _ _ _ _ _ hlt)⟩) hS ?_
          change wpAnyX Try.prog .any _ _ _ _ 5 _ (usX _ _ _ _ _ _ _ _ _ _ _ _ _ _ _ _ _ _ _ _ _ _ _ _ _ _ _ _ _ _ _ _ _ (.slice (some ⟨w.heap.size, 0, none⟩) 11 11) (.int .i64 q) (.slice (some ⟨w.heap.size, 0, none⟩) 11 11) (.int .i64 q) (.pointer (some ⟨w.heap.size, q, none⟩)) (.int .i64 z) (.slice (some ⟨b, off, none⟩) n cap) (.int .i64 k) (.pointer (some ⟨b, off + k * 3, none⟩)) _ _ _ _ _) W.drew
          refine wpAnyX_take (i := 9) (v := .pointer (some ⟨b, off + k * 3 + 2, none⟩)) rfl (by kernel_rfl) (by kernel_rfl) (by kernel_rfl) (by kernel_rfl) (fun _ _ _ h => h) (.inl ⟨rfl, fun w' hw' => exec_field2U rfl rfl⟩) hS ?_
          change wpAnyX Try.prog .any _ _ _ _ 4 _ (usX _ _ _ _ _ _ _ _ _ _ _ _ _ _ _ _ _ _ _ _ _ _ _ _ _ _ _ _ _ _ _ _ _ (.slice (some ⟨w.heap.size, 0, none⟩) 11 11) (.int .i64 q) (.slice (some ⟨w.heap.size, 0, none⟩) 11 11) (.int .i64 q) (.pointer (some ⟨w.heap.size, q, none⟩)) (.int .i64 z) (.slice (some ⟨b, off, none⟩) n cap) (.int .i64 k) (.pointer (some ⟨b, off + k * 3, none⟩)) (.pointer (some ⟨b, off + k * 3 + 2, none⟩)) _ _ _ _) W.drew
          refine wpAnyX_take (i := 10) (v := .int .i64 t.de) rfl (by kernel_rfl) (by kernel_rfl) (by kernel_rfl) (by kernel_rfl) (fun _ _ _ h => h) (.inl ⟨rfl, fun w' hw' => exec_load rfl rfl (load_int w' _ _ _ hw'.2)⟩) hS ?_
          change wpAnyX Try.prog .any _ _ _ _ 3 _ (usX _ _ _ _ _ _ _ _ _ _ _ _ _ _ _ _ _ _ _ _ _ _ _ _ _ _ _ _ _ _ _ _ _ (.slice (some ⟨w.heap.size, 0, none⟩) 11 11) (.int .i64 q) (.slice (some ⟨w.heap.size, 0, none⟩) 11 11) (.int .i64 q) (.pointer (some ⟨w.heap.size, q, none⟩)) (.int .i64 z) (.slice (some ⟨b, off, none⟩) n cap) (.int .i64 k) (.pointer (some ⟨b, off + k * 3, none⟩)) (.pointer (some ⟨b, off + k * 3 + 2, none⟩)) (.int .i64 t.de) _ _ _) W.drew
          refine wpAnyX_take (i := 11) (v := .int .i64 (z + t.de)) rfl (by kernel_rfl) (by kernel_rfl) (by kernel_rfl) (by kernel_rfl) (fun _ _ _ h => h) (.inl ⟨rfl, fun w' hw' => exec_bin rfl rfl rfl (add_intsU w' _ _ _ _ (by omega) (by omega))⟩) hS ?_
          change wpAnyX Try.prog .any _ _ _ _ 2 _ (usX _ _ _ _ _ _ _ _ _ _ _ _ _ _ _ _ _ _ _ _ _ _ _ _ _ _ _ _ _ _ _ _ _ (.slice (some ⟨w.heap.size, 0, none⟩) 11 11) (.int .i64 q) (.slice (some ⟨w.heap.size, 0, none⟩) 11 11) (.int .i64 q) (.pointer (some ⟨w.heap.size, q, none⟩)) (.int .i64 z) (.slice (some ⟨b, off, none⟩) n cap) (.int .i64 k) (.pointer (some ⟨b, off + k * 3, none⟩)) (.pointer (some ⟨b, off + k * 3 + 2, none⟩)) (.int .i64 t.de) (.int .i64 (z + t.de)) _ _) W.drew
          refine wpAnyX_take (i := 12) (v := .pointer (some ⟨w.heap.size, q, none⟩)) rfl (by kernel_rfl) (by kernel_rfl) (by kernel_rfl) (by kernel_rfl) (fun _ _ _ h => h) (.inl ⟨rfl, fun w' hw' => exec_index rfl rfl rfl (index0_ints w' _ _ _ _ hq11)⟩) hS ?_
          change wpAnyX Try.prog .any _ _ _ _ 1 _ (usX _ _ _ _ _ _ _ _ _ _ _ _ _ _ _ _ _ _ _ _ _ _ _ _ _ _ _ _ _ _ _ _ _ (.slice (some ⟨w.heap.size, 0, none⟩) 11 11) (.int .i64 q) (.slice (some ⟨w.heap.size, 0, none⟩) 11 11) (.int .i64 q) (.pointer (some ⟨w.heap.size, q, none⟩)) (.int .i64 z) (.slice (some ⟨b, off, none⟩) n cap) (.int .i64 k) (.pointer (some ⟨b, off + k * 3, none⟩)) (.pointer (some ⟨b, off + k * 3 + 2, none⟩)) (.int .i64 t.de) (.int .i64 (z + t.de)) (.pointer (some ⟨w.heap.size, q, none⟩)) _) W.drew
          refine wpAnyX_one (i := 13) (by kernel_rfl) rfl (fun K' hK' => ?_)
          refine step_skip _ (W.drew.setCell ⟨w.heap.size, q, none⟩ (.int .i64 (z + t.de))) rfl (exec_store rfl rfl rfl (store_int _ _ _ _ _ hS.1 hF)) ?_
          refine hK'.out _ _ (fun h => by cases h) ?_
          clear hK' K'
          change wpAnyX Try.prog .any _ _ _ _ 0 _ (usX _ _ _ _ _ _ _ _ _ _ _ _ _ _ _ _ _ _ _ _ _ _ _ _ _ _ _ _ _ _ _ _ _ (.slice (some ⟨w.heap.size, 0, none⟩) 11 11) (.int .i64 q) (.slice (some ⟨w.heap.size, 0, none⟩) 11 11) (.int .i64 q) (.pointer (some ⟨w.heap.size, q, none⟩)) (.int .i64 z) (.slice (some ⟨b, off, none⟩) n cap) (.int .i64 k) (.pointer (some ⟨b, off + k * 3, none⟩)) (.pointer (some ⟨b, off + k * 3 + 2, none⟩)) (.int .i64 t.de) (.int .i64 (z + t.de)) (.pointer (some ⟨w.heap.size, q, none⟩)) _) (W.drew.setCell ⟨w.heap.size, q, none⟩ (.int .i64 (z + t.de)))
          refine wpAnyX_done (by kernel_rfl) ?_ _
          unfold usX
          have HR2 : Hid ((W.drew.setCell ⟨w.heap.size, q, none⟩ (.int .i64 (z + t.de))).ownsRow w.heap.size 3 1 (.slice (some ⟨w.heap.size, 0, none⟩) 11 11) 11 ((usT ts xs k ((q + 1 : Nat) : Int)).map (Value.int .i64))) := Lib.hid (by
            rw [show ((q + 1 : Nat) : Int) = (q : Int) + 1 by omega, ← HNX.out, List.map_set]
            exact (HRW.out.stored q _).1)
          have HB2 : Hid (Below w.heap.size w (W.drew.setCell ⟨w.heap.size, q, none⟩ (.int .i64 (z + t.de)))) := Lib.hid (HBW.out.setCell (Nat.le_refl _) _)
          go_wp2
          go_roundw
          case rel => exact ⟨q + 1, by omega, by omega, by go_num, HR2, HB2⟩
          case measure => simp [intOf]; omega
        · have hqe : (q : Int) = s + t.du := by omega
          have HRE : Hid (wr.ownsRow w.heap.size 3 1 (.slice (some ⟨w.heap.size, 0, none⟩) 11 11) 11 ((usT ts xs (k + 1) 0).map (Value.int .i64))) := Lib.hid (by rw [← HEN.out, ← hqe]; exact HRQ.out)
          clear hqe
          go_wp2_with fail
          go_quiet (fail)
          go_wp2
          go_roundw
          case rel => exact ⟨k + 1, by omega, by go_num, Lib.hid (own_below HRE.out (below_drewN' (Below.refl _ _) _)), Lib.hid (below_drewN' HBQ.out _)⟩
          case measure => simp [intOf]; omega
    · obtain rfl : k = n := by omega
      go_wp2
      go_ret
      refine ⟨_, rfl, ?_, HB.out⟩
      rw [HFI.out] at HR
      have hlen : (usgL ts xs).length = 11 := by unfold usgL; simp
      rw [hlen]
      exact HR.out

theorem usgN_no {ts : List Tsk} {xs : List Int} (h : aplB ts xs = false) : usgN ts xs = [] := by unfold usgN; rw [h]; rfl
theorem usgN_yes {ts : List Tsk} {xs : List Int} (h : aplB ts xs = true) : usgN ts xs = usgL ts xs := by unfold usgN; rw [h]; rfl
set_option maxRecDepth 100000 in
set_option maxHeartbeats 2000000 in
theorem sUsage_any (tv xv : Value) (ts : List Tsk) (xs : List Int) (w : World) (h : RdTsks w tv ts) (hx : RdInts w xv xs) :
    Calls Try.prog 24 #[tv, xv] w (IntsPost (usgN ts xs) w) := by
  have hV := svalidTasks_any tv ts 0 w h
  unfold BoolPost at hV
  have HV := Lib.hid hV
  have HS := Lib.hid (fun (X : World) (b : Below w.heap.size w X) => svalidStarts_any tv xv ts xs X (h.below b) (hx.below b))
  have HM := Lib.hid (fun (X : World) (b : Below w.heap.size w X) (ha : aplB ts xs = true) => susage_any tv xv ts xs X (h.below b) (hx.below b) ha)
  unfold IntsPost at HM
  unfold IntsPost
  have HN := Lib.hid (usgN_no (ts := ts) (xs := xs))
  have HY := Lib.hid (usgN_yes (ts := ts) (xs := xs))
  obtain ⟨a, cap, ev, -⟩ := id h
  obtain ⟨ax, cx, ex, -⟩ := id hx
  rw [ev] at HV HS HM ⊢
  rw [ex] at HS HM ⊢
  clear hV ev ex h hx
  cases h0 : tksB ts
  · rw [show vtB ts 0 = false by unfold vtB; rw [h0]; rfl] at HV
    rw [HN.out (apl_1 h0)]
    go_enter Try.func24, Try.ntmps24
    go_wp2_with (go_at_call 72; refine HV.out.mono ?_; rintro e w1 ⟨rfl, b1⟩; have HB1 := Lib.hid b1; clear b1)
    go_ret
    exact ⟨_, rfl, World.ownsRow_nil _ _ _ _, HB1.out⟩
  rw [show vtB ts 0 = true by unfold vtB; rw [h0]; rfl] at HV
  cases h1 : stB' ts xs
  · rw [HN.out (apl_2 h1)]
    rw [h1] at HS
    go_enter Try.func24, Try.ntmps24
    go_wp2_with (first | (go_at_call 72; refine HV.out.mono ?_; rintro e w1 ⟨rfl, b1⟩; have HB1 := Lib.hid b1; clear b1) | (go_at_call 73; refine (HS.out _ HB1.out).mono ?_; rintro e w' ⟨rfl, rfl⟩))
    go_ret
    exact ⟨_, rfl, World.ownsRow_nil _ _ _ _, HB1.out⟩
  rw [HY.out (apl_3 h0 h1)]
  have HM2 := Lib.hid (fun (X : World) (b : Below w.heap.size w X) => HM.out X b (apl_3 h0 h1))
  rw [h1] at HS
  go_enter Try.func24, Try.ntmps24
  go_wp2_with (first | (go_at_call 72; refine HV.out.mono ?_; rintro e w1 ⟨rfl, b1⟩; have HB1 := Lib.hid b1; clear b1) | (go_at_call 73; refine (HS.out _ HB1.out).mono ?_; rintro e w' ⟨rfl, rfl⟩) | (go_at_call 74; refine (HM2.out _ HB1.out).mono ?_; rintro e w2 ⟨v2, rfl, o2, b2⟩; have HO2 := Lib.hid (World.ownsRow.mono o2 HB1.out.size); have HB2 := Lib.hid (HB1.out.trans (b2.mono HB1.out.size)); clear b2 o2))
  go_ret
  exact ⟨_, rfl, HO2.out, HB2.out⟩

set_option maxRecDepth 100000 in
theorem method_pe (a b c d : Int) (w : World) : (method 317 94 (.agg #[.int .i64 a, .int .i64 b, .int .i64 c, .int .i64 d]) "loop.example/constraintsolver/impl.energy").run Try.prog w = .ok (167, .agg #[.int .i64 a, .int .i64 b, .int .i64 c, .int .i64 d]) w := by kernel_rfl
set_option maxRecDepth 100000 in
set_option maxHeartbeats 4000000 in
theorem ptotal_any (v : Value) (ts : List Tsk) (xs : List Int) (n : Nat) (lo hi : Int) (w : World) (h : RdPl w v n (plc ts xs n)) (hn4 : n ≤ 4) (htk : tksB ts = true) (hok : PlOk ts xs n) (h5 : 0 ≤ lo) (h6 : lo ≤ hi) (h8 : hi ≤ 11) :
    Calls Try.prog 71 #[v, .int .i64 lo, .int .i64 hi] w fun e w' => e = .returned (.int .i64 (totP ts xs lo hi n)) ∧ Below w.heap.size w w' := by
  have HP := Lib.hid h
  obtain ⟨g, c, ev, hl, hm, _⟩ := h
  rw [ev] at HP ⊢
  unfold maxLen at hm
  have HOK := Lib.hid hok
  have HBD := Lib.hid (fun k => totP_bd (xs := xs) (lo := lo) (hi := hi) htk k)
  clear ev hok htk
  go_enter Try.func71, Try.ntmps71
  go_wp2
  go_loopw [7, 12] (fun s i wr => ∃ k : Nat, k ≤ n ∧ i = .int .i64 k ∧ s = .int .i64 (totP ts xs lo hi k) ∧ Hid (Below w.heap.size w wr)) (fun _ i _ => n - (intOf i).toNat)
  case atStart => exact ⟨0, Nat.zero_le _, rfl, rfl, Lib.hid (Below.refl _ _)⟩
  case round =>
    obtain ⟨k, hk, rfl, rfl, HB⟩ := hrel
    have hbd := HBD.out k
    by_cases hlt : k < n
    · obtain ⟨g', c', e', _, _, h3⟩ := HP.out.below HB.out
      simp at e'
      obtain ⟨rfl, rfl⟩ := e'
      obtain ⟨k0, k1, k2, k3⟩ := h3 k _ (plc_at hlt) hlt
      simp only at k0 k1 k2 k3
      have hok := HOK.out k hlt
      have hti := tkB_in hok.1
      have heb := enP_bd (s := xAt xs k) (lo := lo) (hi := hi) hok.1
      have HNX : Hid (totP ts xs lo hi (k + 1) = totP ts xs lo hi k + enP (tAt ts k) (xAt xs k) lo hi) := Lib.hid rfl
      obtain ⟨t, ht⟩ : ∃ t, t = tAt ts k := ⟨_, rfl⟩
      obtain ⟨s, hs⟩ : ∃ s, s = xAt xs k := ⟨_, rfl⟩
      obtain ⟨sm, hsm⟩ : ∃ sm, sm = totP ts xs lo hi k := ⟨_, rfl⟩
      rw [← ht] at k0 k1 k2 hti HNX heb
      rw [← hs] at k3 hok HNX heb
      rw [← hsm] at hbd HNX ⊢
      have hs5 := hok.2
      obtain ⟨W1, hW1⟩ : ∃ W1, wr.alloc (.cells #[.int .i64 t.st, .int .i64 t.du, .int .i64 t.de, .int .i64 s] 94) = W1 := ⟨_, rfl⟩
      have hB1 : Below wr.heap.size wr W1 := by rw [← hW1]; exact (Below.refl _ _).alloc (Nat.le_refl _) _
      have bP : BlkQ W1 wr.heap.size 94 (.int .i64 t.st) (.int .i64 t.du) (.int .i64 t.de) (.int .i64 s) := by rw [← hW1]; exact BlkQ.new _ _ _ _ _ _
      have HB1 := Lib.hid (HB.out.trans (hB1.mono HB.out.size))
      have HW := Lib.hid hW1
      have HE := Lib.hid (penergy_any t s lo hi W1 (by omega) (by omega) (by omega) (by omega) h5 (by omega) (by omega) (by omega) (by omega) (by omega))
      obtain ⟨p0, p1, p2, p3⟩ := bP.cell
      have hmt := method_pe t.st t.du t.de s W1
      obtain ⟨en, hen⟩ : ∃ en, en = enP t s lo hi := ⟨_, rfl⟩
      rw [← hen] at HE HNX heb
      clear ht hs hsm hB1 bP hW1 h3 hok hen
      go_wp2_with (first | rw [HW.out] | (go_at_call 167; refine HE.out.mono ?_; rintro e w9 ⟨rfl, b9⟩; have B9 := Lib.hid (HB1.out.trans (b9.mono HB1.out.size)); clear b9))
      go_roundw
      case rel => exact ⟨k + 1, by omega, by go_num, by rw [HNX.out], B9⟩
      case measure => simp [intOf]; omega
    · obtain rfl : k = n := by omega
      go_wp2
      go_ret
      exact ⟨rfl, HB.out⟩

def usP (ts : List Tsk) (xs : List Int) (k : Nat) : List Int := (List.range k).map fun (j : Nat) => totP ts xs j ((j : Int) + 1) ts.length
theorem usP_succ (ts : List Tsk) (xs : List Int) (k : Nat) : usP ts xs (k + 1) = usP ts xs k ++ [totP ts xs k ((k : Int) + 1) ts.length] := by
  unfold usP
  rw [List.range_succ, List.map_append]
  rfl
theorem usP_length (ts : List Tsk) (xs : List Int) (k : Nat) : (usP ts xs k).length = k := by unfold usP; simp
theorem own_oneU (w : World) (t : TypeId) (u : Value) : (w.alloc (.cells #[u] t)).cell? ⟨w.heap.size, 0, none⟩ = some u := by
  have := Boxed.new w t u
  exact this.cell
set_option maxRecDepth 100000 in
set_option maxHeartbeats 4000000 in
theorem iUsage_any (tv xv : Value) (ts : List Tsk) (xs : List Int) (w : World) (h : RdTsks w tv ts) (hx : RdInts w xv xs) :
    Calls Try.prog 22 #[tv, xv] w (IntsPost (usgN ts xs) w) := by
  have hV := arePlaceable_any tv xv ts xs w h hx
  unfold BoolPost at hV
  have HV := Lib.hid hV
  have HM := Lib.hid (fun (X : World) (b : Below w.heap.size w X) (ha : aplB ts xs = true) => placed_any tv xv ts xs X (h.below b) (hx.below b) (aplB_ok ha).1 (aplB_ok ha).2.2.1)
  have HN := Lib.hid (usgN_no (ts := ts) (xs := xs))
  have HY := Lib.hid (usgN_yes (ts := ts) (xs := xs))
  obtain ⟨i0, hi, hz0, hz1, hz2⟩ := info_parts Try.info3
  obtain ⟨a, cap, ev, -⟩ := id h
  obtain ⟨ax, cx, ex, -⟩ := id hx
  unfold IntsPost
  rw [ev] at HV HM ⊢
  rw [ex] at HV HM ⊢
  clear hV ev ex h hx
  cases h0 : aplB ts xs
  · rw [h0] at HV
    rw [HN.out h0]
    go_enter Try.func22, Try.ntmps22
    go_wp2_with (go_at_call 69; refine HV.out.mono ?_; rintro e w1 ⟨rfl, b1⟩; have HB1 := Lib.hid b1; clear b1)
    go_ret
    exact ⟨_, rfl, World.ownsRow_nil _ _ _ _, HB1.out⟩
  have hap := aplB_ok h0
  have htk : tksB ts = true := by have h1 := h0; unfold aplB at h1; rw [Bool.and_eq_true] at h1; exact h1.1
  have HPT := Lib.hid (fun (v : Value) (X : World) (j : Nat) (hj : j < 11) (hr : RdPl X v ts.length (plc ts xs ts.length)) => ptotal_any v ts xs ts.length j ((j : Int) + 1) X hr hap.1 htk hap.2.2.2 (by omega) (by omega) (by omega))
  have HRO := Lib.hid (fun (X : World) (v : Value) (B : Nat) (ho : X.ownsRow B 94 4 v ts.length (cells4 (plc ts xs ts.length))) => (by have q := rdPl_of_own (by rw [plc_length]; exact ho) (by rw [plc_length]; exact hap.2.1); rw [plc_length] at q; exact q : RdPl X v ts.length (plc ts xs ts.length)))
  have HTB := Lib.hid (fun (j : Nat) => totP_bd (xs := xs) (lo := j) (hi := (j : Int) + 1) htk ts.length)
  have hn4 := hap.1
  rw [h0] at HV
  have HF : Hid (usgN ts xs = usP ts xs 11) := Lib.hid (HY.out h0)
  rw [HF.out]
  clear hap htk
  go_enter Try.func22, Try.ntmps22
  go_wp2_with (first | (go_at_call 69; refine HV.out.mono ?_; rintro e w1 ⟨rfl, b1⟩; have HB1 := Lib.hid b1; clear b1) | (go_at_call 70; refine (HM.out _ HB1.out h0).mono ?_; rintro e w2 ⟨v2, rfl, o2, b2⟩; have HO2 := Lib.hid (HRO.out _ _ _ o2); have HB2 := Lib.hid (HB1.out.trans (b2.mono HB1.out.size)); clear b2 o2))
  obtain ⟨pg, pc, epv, -⟩ := id HO2.out
  subst epv
  go_loopw [6, 15] (fun q i wr => ∃ k : Nat, k ≤ 11 ∧ i = .int .i64 k ∧ Hid (wr.ownsRow w2.heap.size 3 1 q k ((usP ts xs k).map (Value.int .i64))) ∧ Hid (Below w2.heap.size w2 wr)) (fun _ i _ => 11 - (intOf i).toNat)
  case atStart => exact ⟨0, by omega, rfl, Lib.hid (World.ownsRow_nil _ _ _ _), Lib.hid (Below.refl _ _)⟩
  case round =>
    obtain ⟨k, hk, rfl, HO, HB⟩ := hrel
    by_cases hlt : k < 11
    · have hltI : (k : Int) < 11 := by omega
      have hdI : decide ((k : Int) < 11) = true := decide_eq_true hltI
      have HE := Lib.hid (HPT.out _ wr k hlt (HO2.out.below HB.out))
      have htb := HTB.out k
      have HNX := Lib.hid (usP_succ ts xs k)
      obtain ⟨z, hz⟩ : ∃ z, z = totP ts xs k ((k : Int) + 1) ts.length := ⟨_, rfl⟩
      rw [← hz] at HE htb HNX
      clear hz
      go_wp2_with (first
        | (go_at_call 71; refine HE.out.mono ?_; rintro e w3 ⟨rfl, b3⟩; have HO3 := Lib.hid (own_below HO.out b3); have HB3 := Lib.hid (HB.out.trans (b3.mono HB.out.size)); clear b3)
        | (at_builtin; refine wpList_append_own _ rfl _ _ 29 rfl w2.heap.size 3 i0 (.int .i64 0) 1 8 Try.underlying29 hi hz0 hz1 hz2 rfl (by decide) _ _ _ rfl (HO3.out.alloc _) ⟨w3.heap.size, 0, none⟩ 1 1 [.int .i64 z] rfl rfl (cell_one_new _ _ _) (by simp [Value.oneCell']) (by unfold maxLen; omega) (by omega) (by have := HB3.out.size; simp; omega) ?_; intro v' w4 hown' hgrow _))
      have HB4 := Lib.hid ((HB3.out.alloc (by have := HB3.out.size; omega) (.cells #[.int .i64 z] 3)).grown hgrow (by have := HB3.out.size; simp; omega) (fun j e => (HO3.out.lt j e).1))
      have HO4 : Hid (w4.ownsRow w2.heap.size 3 1 v' (k + 1) ((usP ts xs (k + 1)).map (Value.int .i64))) := Lib.hid (by rw [HNX.out, List.map_append]; exact hown')
      clear hown' hgrow
      go_wp2
      go_roundw
      case rel => exact ⟨k + 1, by omega, by go_num, HO4, HB4⟩
      case measure => simp [intOf]; omega
    · obtain rfl : k = 11 := by omega
      go_wp2
      go_ret
      exact ⟨_, rfl, by rw [usP_length]; exact World.ownsRow.mono HO.out HB2.out.size, HB2.out.trans (HB.out.mono HB2.out.size)⟩
end Go.Proofs.Ytelglccegkhfcaa
