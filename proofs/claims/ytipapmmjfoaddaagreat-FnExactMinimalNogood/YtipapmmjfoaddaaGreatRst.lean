/- The domains restricted to literals, as the program makes them. The domains restricted to literals, as the reference makes them. -/
import Derived.Test.YtipapmmjfoaddaaGreatChk

/-! The domains restricted to literals, as the program makes them. -/
namespace Go.Proofs.YtipapmmjfoaddaaGreat
open Go.ChangeShapes Go.WideShapes Go.ChangeAt Go.RowKit Go.Deep Go.Shelf
set_option linter.unusedVariables false
set_option linter.unusedSimpArgs false

/-- The domains without the values that make one of the literals false. -/
def restL (ds : List Int) (ls : List Lit) : List Int := ls.foldl (fun d l => d.set l.var.toNat (andI (d[l.var.toNat]?.getD 0) (domL l))) ds
theorem restL_snoc {ds : List Int} {ls : List Lit} {k : Nat} {l : Lit} (h : ls[k]? = some l) : restL ds (ls.take (k + 1)) = (restL ds (ls.take k)).set l.var.toNat (andI ((restL ds (ls.take k))[l.var.toNat]?.getD 0) (domL l)) := by
  unfold restL
  rw [List.take_add_one, h, List.foldl_append]
  rfl
theorem restL_domN {n : Nat} : ∀ {ls : List Lit} {ds : List Int}, DomN n ds → LitsOn ls n → DomN n (restL ds ls)
  | [], ds, h, _ => h
  | l :: ls, ds, h, hl => by
    have h0 := hl l (by simp)
    have hs := h.small l.var.toNat (by rw [h.len]; omega)
    have hr := andSmall (l := l) hs.1 hs.2 h0.2.1 h0.2.2
    exact restL_domN (ls := ls) (set_domN h _ hr.1 hr.2) (fun x hx => hl x (by simp [hx]))
theorem LitsOn.take {ls : List Lit} {n : Nat} (h : LitsOn ls n) (k : Nat) : LitsOn (ls.take k) n := fun l hl => h l (List.mem_of_mem_take hl)

/-- The activation inside the region of restricted. -/
def rsAct (z0 z1 z2 z3 z4 z5 z6 z7 z8 z9 z10 z11 z12 z13 z14 z15 z16 z17 z18 z19 z20 z21 z22 z23 z24 z25 z26 : Value) : Act := { tmps := #[z0, z1, z2, z3, z4, z5, z6, z7, z8, z9, z10, z11, z12, z13, z14, z15, z16, z17, z18, z19, z20, z21, z22, z23, z24, z25, z26], defers := [] }
set_option maxRecDepth 100000 in
set_option maxHeartbeats 16000000 in
theorem irestricted_any (dv v : Value) (ds : List Int) (ls : List Lit) (w : World) (hd : RdInts w dv ds) (h : RdLits w v ls) (hl : LitsOn ls ds.length) (hs : Small ds 0 63) (h1 : 1 ≤ ds.length) (h4 : ds.length ≤ 4) :
    Calls Tryz.prog 120 #[dv, v] w (IntsPost (restL ds ls) w) := by
  have HDN : Hid (∀ k, DomN ds.length (restL ds (ls.take k))) := Lib.hid (fun k => restL_domN ⟨rfl, hs⟩ (hl.take k))
  have HD := Lib.hid hd
  have HL := Lib.hid h
  have HLO := Lib.hid hl
  obtain ⟨ax, cx, ex, -⟩ := hd
  obtain ⟨a, cap, ev, -⟩ := id h
  obtain ⟨n, hn⟩ : ∃ n, n = ds.length := ⟨_, rfl⟩
  obtain ⟨m, hm⟩ : ∃ m, m = ls.length := ⟨_, rfl⟩
  rw [ex] at HD ⊢
  rw [ev] at HL ⊢
  have hlc := rdLits_len HL.out
  rw [← hm] at HL hlc ⊢
  rw [← hn] at HD HLO HDN h1 h4 ⊢
  have HN := Lib.hid hn
  have HM := Lib.hid hm
  have hcx := (rdInts_cap HD.out).2
  have hlc1 := hlc.2.1
  have hlc2 := hlc.2.2
  clear hl ex ev h hn hm hs hlc
  unfold IntsPost
  go_enter Tryz.func120, Tryz.ntmps120
  go_wp2_with fail
  refine (icopyInts_any _ ds w HD.out (by have := HN.out; omega) (by have := HN.out; omega)).mono ?_
  rintro e w3 ⟨v3, rfl, o3, b⟩
  rw [← HN.out] at o3
  obtain ⟨gd, cd, ev3, hg1, hg2⟩ := o3.form (by omega)
  subst ev3
  have HB3 := Lib.hid b
  have HO3 := Lib.hid o3
  clear b o3
  go_wp2
  go_loopw [12] (fun i wr => ∃ k : Nat, k ≤ m ∧ i = .int .i64 k ∧ Hid (wr.ownsRow w.heap.size 3 1 (.slice (some ⟨gd, 0, none⟩) n cd) n ((restL ds (ls.take k)).map (Value.int .i64))) ∧ Hid (Below w.heap.size w wr)) (fun i _ => m - (intOf i).toNat)
  case atStart => exact ⟨0, Nat.zero_le _, rfl, HO3, HB3⟩
  case round =>
    obtain ⟨k, hk, rfl, HO, HB⟩ := hrel
    by_cases hlt : k < m
    · obtain ⟨b, off, l, rfl, hck, c0, c1, c2⟩ := rdLits_at (HL.out.below HB.out) hlt
      obtain ⟨⟨hv0, hv1⟩, ha0, ha1⟩ := HLO.out l (List.mem_of_getElem? hck)
      obtain ⟨lv, la, ln⟩ := l
      simp only at hv0 hv1 ha0 ha1 c0 c1 c2
      obtain ⟨x, rfl⟩ : ∃ x : Nat, lv = x := ⟨lv.toNat, by omega⟩
      have hxn : x < n := by omega
      have HRS := Lib.hid (restL_snoc (ds := ds) hck)
      obtain ⟨p, hp⟩ : ∃ p, p = restL ds (ls.take k) := ⟨_, rfl⟩
      rw [← hp] at HO HRS
      have HPL : Hid (p.length = n) := Lib.hid (by rw [hp]; exact (HDN.out k).len)
      obtain ⟨d, hdd⟩ : ∃ d, d = p[x]?.getD 0 := ⟨_, rfl⟩
      have HDD := Lib.hid hdd
      obtain ⟨W9, hW9⟩ : ∃ W9, wr.alloc (.cells #[.int .i64 x, .int .i64 la, .bool ln] 91) = W9 := ⟨_, rfl⟩
      have b9 : Below wr.heap.size wr W9 := by rw [← hW9]; exact below1 _ _
      have hq9 : LitAt wr.heap.size 0 ⟨x, la, ln⟩ W9 := by
        have := (Blk3.new wr 91 (.int .i64 x) (.int .i64 la) (.bool ln)).cell
        rw [hW9] at this
        exact this
      have ho9 : W9.ownsRow w.heap.size 3 1 (.slice (some ⟨gd, 0, none⟩) n cd) n (p.map (Value.int .i64)) := own_below HO.out b9
      have HE := Lib.hid (idomL_any ⟨x, la, ln⟩ W9.drew ha0 ha1)
      obtain ⟨dm, hdm⟩ : ∃ dm, dm = domL ⟨x, la, ln⟩ := ⟨_, rfl⟩
      rw [← hdm] at HE HRS
      have hS : LitAt wr.heap.size 0 ⟨x, la, ln⟩ W9.drew ∧ W9.drew.cell? ⟨gd, x, none⟩ = some (.int .i64 d) := ⟨hq9, by
        have hx : x < p.length := by rw [HPL.out]; exact hxn
        have := ho9.cellAt x (by omega)
        rw [List.getElem?_map, List.getElem?_eq_getElem hx] at this
        rw [hdd, List.getElem?_eq_getElem hx]
        exact this⟩
      have HOW : Hid (W9.drew.ownsRow w.heap.size 3 1 (.slice (some ⟨gd, 0, none⟩) n cd) n (p.map (Value.int .i64))) := Lib.hid (own_below ho9 (Below.refl _ _).drew)
      have HBD : Hid (Below w.heap.size w W9.drew) := Lib.hid (HB.out.trans (b9.mono HB.out.size)).drew
      have HW9 := Lib.hid hW9
      clear hck hv0 hv1 ha0 ha1 hp hdd hW9 b9 hq9 ho9 hdm
      go_wp2_with fail
      rw [HW9.out]
      refine region_z (fun w' => LitAt wr.heap.size 0 ⟨x, la, ln⟩ w' ∧ w'.cell? ⟨gd, x, none⟩ = some (.int .i64 d)) (fun i => i == 9) rfl ?_
      change wpAnyZ Tryz.prog .any _ _ _ _ 10 _ (rsAct _ _ _ _ _ _ _ _ _ _ _ _ _ _ _ _ _ _ _ _ _ _ _ _ _ _ _) W9.drew
      refine wpAnyZ_takeW (i := 0) (v := .slice (some ⟨gd, 0, none⟩) n cd) rfl (by kernel_rfl) (by kernel_rfl) (by kernel_rfl) (fun _ _ _ h => h) (.inl ⟨rfl, fun w' hw' => rfl⟩) ?_
      change wpAnyZ Tryz.prog .any _ _ _ _ 9 _ (rsAct _ _ _ _ _ _ _ _ _ _ _ _ _ _ _ _ (.slice (some ⟨gd, 0, none⟩) n cd) _ _ _ _ _ _ _ _ _ _) W9.drew
      refine wpAnyZ_takeW (i := 1) (v := .pointer (some ⟨wr.heap.size, 0, none⟩)) rfl (by kernel_rfl) (by kernel_rfl) (by kernel_rfl) (fun _ _ _ h => h) (.inl ⟨rfl, fun w' hw' => exec_field0 rfl rfl⟩) ?_
      change wpAnyZ Tryz.prog .any _ _ _ _ 8 _ (rsAct _ _ _ _ _ _ _ _ _ _ _ _ _ _ _ _ (.slice (some ⟨gd, 0, none⟩) n cd) (.pointer (some ⟨wr.heap.size, 0, none⟩)) _ _ _ _ _ _ _ _ _) W9.drew
      refine wpAnyZ_take (i := 2) (v := .int .i64 x) rfl (by kernel_rfl) (by kernel_rfl) (by kernel_rfl) (by kernel_rfl) (fun _ _ _ h => h) (.inl ⟨rfl, fun w' hw' => exec_load rfl rfl (load_int w' _ _ _ hw'.1.1)⟩) hS ?_
      change wpAnyZ Tryz.prog .any _ _ _ _ 7 _ (rsAct _ _ _ _ _ _ _ _ _ _ _ _ _ _ _ _ (.slice (some ⟨gd, 0, none⟩) n cd) (.pointer (some ⟨wr.heap.size, 0, none⟩)) (.int .i64 x) _ _ _ _ _ _ _ _) W9.drew
      refine wpAnyZ_takeW (i := 3) (v := .pointer (some ⟨gd, x, none⟩)) rfl (by kernel_rfl) (by kernel_rfl) (by kernel_rfl) (fun _ _ _ h => h) (.inl ⟨rfl, fun w' hw' => exec_index rfl rfl rfl (index0_ints w' _ _ _ _ hxn)⟩) ?_
      change wpAnyZ Tryz.prog .any _ _ _ _ 6 _ (rsAct _ _ _ _ _ _ _ _ _ _ _ _ _ _ _ _ (.slice (some ⟨gd, 0, none⟩) n cd) (.pointer (some ⟨wr.heap.size, 0, none⟩)) (.int .i64 x) (.pointer (some ⟨gd, x, none⟩)) _ _ _ _ _ _ _) W9.drew
      refine wpAnyZ_take (i := 4) (v := .int .i64 d) rfl (by kernel_rfl) (by kernel_rfl) (by kernel_rfl) (by kernel_rfl) (fun _ _ _ h => h) (.inl ⟨rfl, fun w' hw' => exec_load rfl rfl (load_int w' _ _ _ hw'.2)⟩) hS ?_
      change wpAnyZ Tryz.prog .any _ _ _ _ 5 _ (rsAct _ _ _ _ _ _ _ _ _ _ _ _ _ _ _ _ (.slice (some ⟨gd, 0, none⟩) n cd) (.pointer (some ⟨wr.heap.size, 0, none⟩)) (.int .i64 x) (.pointer (some ⟨gd, x, none⟩)) (.int .i64 d) _ _ _ _ _ _) W9.drew
      refine wpAnyZ_take (i := 5) (v := .agg #[.int .i64 x, .int .i64 la, .bool ln]) rfl (by kernel_rfl) (by kernel_rfl) (by kernel_rfl) (by kernel_rfl) (fun _ _ _ h => h) (.inl ⟨rfl, fun w' hw' => exec_load rfl rfl (load_litO w' _ _ _ _ _ hw'.1.1 hw'.1.2.1 hw'.1.2.2)⟩) hS ?_
      change wpAnyZ Tryz.prog .any _ _ _ _ 4 _ (rsAct _ _ _ _ _ _ _ _ _ _ _ _ _ _ _ _ (.slice (some ⟨gd, 0, none⟩) n cd) (.pointer (some ⟨wr.heap.size, 0, none⟩)) (.int .i64 x) (.pointer (some ⟨gd, x, none⟩)) (.int .i64 d) (.agg #[.int .i64 x, .int .i64 la, .bool ln]) _ _ _ _ _) W9.drew
      refine wpAnyZ_one (i := 6) (by kernel_rfl) rfl (fun K' hK' => ?_)
      refine step_callL1 _ rfl 157 _ _ _ rfl rfl (enters_of Tryz.func157 (by kernel_rfl) rfl) _ HE.out (fun c w' h => by cases h.1) (fun w' h => by cases h.1) ?_
      rintro v9 w9 ⟨e9, b9⟩
      obtain rfl : v9 = .int .i64 dm := by injection e9
      have hS9 : LitAt wr.heap.size 0 ⟨x, la, ln⟩ w9 ∧ w9.cell? ⟨gd, x, none⟩ = some (.int .i64 d) := ⟨litAt_below hS.1 b9, (b9.cell (World.block_lt_of_cell? _ _ hS.2)).trans hS.2⟩
      have HB9 := Lib.hid b9
      clear b9
      refine hK'.out _ _ (fun _ _ => hS9) ?_
      clear hK' K'
      change wpAnyZ Tryz.prog .any _ _ _ _ 3 _ (rsAct _ _ _ _ _ _ _ _ _ _ _ _ _ _ _ _ (.slice (some ⟨gd, 0, none⟩) n cd) (.pointer (some ⟨wr.heap.size, 0, none⟩)) (.int .i64 x) (.pointer (some ⟨gd, x, none⟩)) (.int .i64 d) (.agg #[.int .i64 x, .int .i64 la, .bool ln]) (.int .i64 dm) _ _ _ _) w9
      refine wpAnyZ_takeW (i := 7) (v := .int .i64 (bits .and .i64 d dm)) rfl (by kernel_rfl) (by kernel_rfl) (by kernel_rfl) (fun _ _ _ h => h) (.inl ⟨rfl, fun w' hw' => exec_bin rfl rfl rfl (and_ints _ _ _ _ _)⟩) ?_
      change wpAnyZ Tryz.prog .any _ _ _ _ 2 _ (rsAct _ _ _ _ _ _ _ _ _ _ _ _ _ _ _ _ (.slice (some ⟨gd, 0, none⟩) n cd) (.pointer (some ⟨wr.heap.size, 0, none⟩)) (.int .i64 x) (.pointer (some ⟨gd, x, none⟩)) (.int .i64 d) (.agg #[.int .i64 x, .int .i64 la, .bool ln]) (.int .i64 dm) (.int .i64 (bits .and .i64 d dm)) _ _ _) w9
      refine wpAnyZ_takeW (i := 8) (v := .pointer (some ⟨gd, x, none⟩)) rfl (by kernel_rfl) (by kernel_rfl) (by kernel_rfl) (fun _ _ _ h => h) (.inl ⟨rfl, fun w' hw' => exec_index rfl rfl rfl (index0_ints w' _ _ _ _ hxn)⟩) ?_
      change wpAnyZ Tryz.prog .any _ _ _ _ 1 _ (rsAct _ _ _ _ _ _ _ _ _ _ _ _ _ _ _ _ (.slice (some ⟨gd, 0, none⟩) n cd) (.pointer (some ⟨wr.heap.size, 0, none⟩)) (.int .i64 x) (.pointer (some ⟨gd, x, none⟩)) (.int .i64 d) (.agg #[.int .i64 x, .int .i64 la, .bool ln]) (.int .i64 dm) (.int .i64 (bits .and .i64 d dm)) (.pointer (some ⟨gd, x, none⟩)) _ _) w9
      refine wpAnyZ_one (i := 9) (by kernel_rfl) rfl (fun K' hK' => ?_)
      have HC9 := cf_cell HOW.out HB9.out hS9.2
      refine step_skip _ (w9.setCell ⟨gd, x, none⟩ (.int .i64 (bits .and .i64 d dm))) rfl (exec_store rfl rfl rfl (store_int _ _ _ _ _ hS9.2 HC9)) ?_
      refine hK'.out _ _ (fun h => by cases h) ?_
      clear hK' K'
      change wpAnyZ Tryz.prog .any _ _ _ _ 0 _ (rsAct _ _ _ _ _ _ _ _ _ _ _ _ _ _ _ _ (.slice (some ⟨gd, 0, none⟩) n cd) (.pointer (some ⟨wr.heap.size, 0, none⟩)) (.int .i64 x) (.pointer (some ⟨gd, x, none⟩)) (.int .i64 d) (.agg #[.int .i64 x, .int .i64 la, .bool ln]) (.int .i64 dm) (.int .i64 (bits .and .i64 d dm)) (.pointer (some ⟨gd, x, none⟩)) _ _) (w9.setCell ⟨gd, x, none⟩ (.int .i64 (bits .and .i64 d dm)))
      refine wpAnyZ_done (by kernel_rfl) ?_ _
      unfold rsAct
      have HF9 : Hid ((w9.setCell ⟨gd, x, none⟩ (.int .i64 (bits .and .i64 d dm))).ownsRow w.heap.size 3 1 (.slice (some ⟨gd, 0, none⟩) n cd) n ((restL ds (ls.take (k + 1))).map (Value.int .i64))) := Lib.hid (by
        have := ((own_below HOW.out HB9.out).stored x (.int .i64 (bits .and .i64 d dm))).1
        rw [HRS.out, List.map_set]
        simp only [Int.toNat_natCast]
        rw [← HDD.out]
        exact this)
      have HB10 : Hid (Below w.heap.size w (w9.setCell ⟨gd, x, none⟩ (.int .i64 (bits .and .i64 d dm)))) := Lib.hid ((HBD.out.trans (HB9.out.mono HBD.out.size)).setCell (p := ⟨gd, x, none⟩) hg1 _)
      clear hS hS9 HC9
      go_wp2
      go_roundw
      all_goals first
        | exact ⟨k + 1, by omega, by go_num, HF9, HB10⟩
        | (simp [intOf]; omega)
    · obtain rfl : k = m := by omega
      have HFI : Hid (restL ds (ls.take k) = restL ds ls) := Lib.hid (by rw [HM.out, List.take_length])
      have HLN : Hid ((restL ds ls).length = n) := Lib.hid (by have := (HDN.out k).len; rw [HFI.out] at this; exact this)
      go_wp2
      go_ret
      exact ⟨_, rfl, by rw [HLN.out, ← HFI.out]; exact HO.out, HB.out⟩
end Go.Proofs.YtipapmmjfoaddaaGreat

/-! The domains restricted to literals, as the reference makes them. -/
namespace Go.Proofs.YtipapmmjfoaddaaGreat
open Go.ChangeShapes Go.WideShapes Go.ChangeAt Go.RowKit Go.Deep Go.Shelf
set_option linter.unusedVariables false
set_option linter.unusedSimpArgs false

/-- The activation inside the region of restrictTo. -/
def rtAct (z0 z1 z2 z3 z4 z5 z6 z7 z8 z9 z10 z11 z12 z13 z14 z15 z16 z17 z18 z19 z20 z21 z22 z23 z24 z25 z26 z27 z28 z29 z30 z31 z32 z33 z34 z35 z36 : Value) : Act := { tmps := #[z0, z1, z2, z3, z4, z5, z6, z7, z8, z9, z10, z11, z12, z13, z14, z15, z16, z17, z18, z19, z20, z21, z22, z23, z24, z25, z26, z27, z28, z29, z30, z31, z32, z33, z34, z35, z36], defers := [] }
set_option maxRecDepth 100000 in
set_option maxHeartbeats 16000000 in
theorem srestrictTo_any (dv v : Value) (ds : List Int) (ls : List Lit) (w : World) (hd : RdInts w dv ds) (h : RdLits w v ls) (hl : LitsOn ls ds.length) (hs : Small ds 0 63) (h1 : 1 ≤ ds.length) (h4 : ds.length ≤ 4) :
    Calls Tryz.prog 68 #[dv, v] w (IntsPost (restL ds ls) w) := by
  have HDN : Hid (∀ k, DomN ds.length (restL ds (ls.take k))) := Lib.hid (fun k => restL_domN ⟨rfl, hs⟩ (hl.take k))
  have HD := Lib.hid hd
  have HL := Lib.hid h
  have HLO := Lib.hid hl
  obtain ⟨ax, cx, ex, -⟩ := hd
  obtain ⟨a, cap, ev, -⟩ := id h
  obtain ⟨n, hn⟩ : ∃ n, n = ds.length := ⟨_, rfl⟩
  obtain ⟨m, hm⟩ : ∃ m, m = ls.length := ⟨_, rfl⟩
  rw [ex] at HD ⊢
  rw [ev] at HL ⊢
  have hlc := rdLits_len HL.out
  rw [← hm] at HL hlc ⊢
  rw [← hn] at HD HLO HDN h1 h4 ⊢
  have HN := Lib.hid hn
  have HM := Lib.hid hm
  have hcx := (rdInts_cap HD.out).2
  have hlc1 := hlc.2.1
  have hlc2 := hlc.2.2
  clear hl ex ev h hn hm hs hlc
  unfold IntsPost
  go_enter Tryz.func68, Tryz.ntmps68
  go_wp2_with fail
  refine (scopyInts_any _ ds w HD.out (by have := HN.out; omega) (by have := HN.out; omega)).mono ?_
  rintro e w3 ⟨v3, rfl, o3, b⟩
  rw [← HN.out] at o3
  obtain ⟨gd, cd, ev3, hg1, hg2⟩ := o3.form (by omega)
  subst ev3
  have HB3 := Lib.hid b
  have HO3 := Lib.hid o3
  clear b o3
  go_wp2
  go_loopw [6] (fun i wr => ∃ k : Nat, k ≤ m ∧ i = .int .i64 k ∧ Hid (wr.ownsRow w.heap.size 3 1 (.slice (some ⟨gd, 0, none⟩) n cd) n ((restL ds (ls.take k)).map (Value.int .i64))) ∧ Hid (Below w.heap.size w wr)) (fun i _ => m - (intOf i).toNat)
  case atStart => exact ⟨0, Nat.zero_le _, rfl, HO3, HB3⟩
  case round =>
    obtain ⟨k, hk, rfl, HO, HB⟩ := hrel
    by_cases hlt : k < m
    · obtain ⟨b, off, l, rfl, hck, c0, c1, c2⟩ := rdLits_at (HL.out.below HB.out) hlt
      obtain ⟨⟨hv0, hv1⟩, ha0, ha1⟩ := HLO.out l (List.mem_of_getElem? hck)
      obtain ⟨lv, la, ln⟩ := l
      simp only at hv0 hv1 ha0 ha1 c0 c1 c2
      obtain ⟨x, rfl⟩ : ∃ x : Nat, lv = x := ⟨lv.toNat, by omega⟩
      have hxn : x < n := by omega
      have HRS := Lib.hid (restL_snoc (ds := ds) hck)
      obtain ⟨p, hp⟩ : ∃ p, p = restL ds (ls.take k) := ⟨_, rfl⟩
      rw [← hp] at HO HRS
      have HPL : Hid (p.length = n) := Lib.hid (by rw [hp]; exact (HDN.out k).len)
      obtain ⟨d, hdd⟩ : ∃ d, d = p[x]?.getD 0 := ⟨_, rfl⟩
      have HDD := Lib.hid hdd
      have HE := Lib.hid (sdomL_any ⟨x, la, ln⟩ wr.drew ha0 ha1)
      obtain ⟨dm, hdm⟩ : ∃ dm, dm = domL ⟨x, la, ln⟩ := ⟨_, rfl⟩
      rw [← hdm] at HE HRS
      have hS : LitAt b (off + k * 3) ⟨x, la, ln⟩ wr.drew ∧ wr.drew.cell? ⟨gd, x, none⟩ = some (.int .i64 d) := ⟨⟨c0, c1, c2⟩, by
        have hx : x < p.length := by rw [HPL.out]; exact hxn
        have := HO.out.cellAt x (by omega)
        rw [List.getElem?_map, List.getElem?_eq_getElem hx] at this
        rw [hdd, List.getElem?_eq_getElem hx]
        exact this⟩
      have HOW : Hid (wr.drew.ownsRow w.heap.size 3 1 (.slice (some ⟨gd, 0, none⟩) n cd) n (p.map (Value.int .i64))) := Lib.hid (own_below HO.out (Below.refl _ _).drew)
      have HBD : Hid (Below w.heap.size w wr.drew) := Lib.hid HB.out.drew
      clear hck hv0 hv1 ha0 ha1 hp hdd hdm c0 c1 c2
      go_wp2_with fail
      refine region_z (fun w' => LitAt b (off + k * 3) ⟨x, la, ln⟩ w' ∧ w'.cell? ⟨gd, x, none⟩ = some (.int .i64 d)) (fun i => i == 21) rfl ?_
      change wpAnyZ Tryz.prog .any _ _ _ _ 22 _ (rtAct _ _ _ _ _ _ _ _ _ _ _ _ _ _ _ _ _ _ _ _ _ _ _ _ _ _ _ _ _ _ _ _ _ _ _ _ _) wr.drew
      refine wpAnyZ_takeW (i := 0) (v := .slice (some ⟨gd, 0, none⟩) n cd) rfl (by kernel_rfl) (by kernel_rfl) (by kernel_rfl) (fun _ _ _ h => h) (.inl ⟨rfl, fun w' hw' => rfl⟩) ?_
      change wpAnyZ Tryz.prog .any _ _ _ _ 21 _ (rtAct _ _ _ _ _ _ _ _ _ _ _ _ _ _ _ (.slice (some ⟨gd, 0, none⟩) n cd) _ _ _ _ _ _ _ _ _ _ _ _ _ _ _ _ _ _ _ _ _) wr.drew
      refine wpAnyZ_takeW (i := 1) (v := .slice (some ⟨b, off, none⟩) m cap) rfl (by kernel_rfl) (by kernel_rfl) (by kernel_rfl) (fun _ _ _ h => h) (.inl ⟨rfl, fun w' hw' => rfl⟩) ?_
      change wpAnyZ Tryz.prog .any _ _ _ _ 20 _ (rtAct _ _ _ _ _ _ _ _ _ _ _ _ _ _ _ (.slice (some ⟨gd, 0, none⟩) n cd) (.slice (some ⟨b, off, none⟩) m cap) _ _ _ _ _ _ _ _ _ _ _ _ _ _ _ _ _ _ _ _) wr.drew
      refine wpAnyZ_takeW (i := 2) (v := .int .i64 k) rfl (by kernel_rfl) (by kernel_rfl) (by kernel_rfl) (fun _ _ _ h => h) (.inl ⟨rfl, fun w' hw' => rfl⟩) ?_
      change wpAnyZ Tryz.prog .any _ _ _ _ 19 _ (rtAct _ _ _ _ _ _ _ _ _ _ _ _ _ _ _ (.slice (some ⟨gd, 0, none⟩) n cd) (.slice (some ⟨b, off, none⟩) m cap) (.int .i64 k) _ _ _ _ _ _ _ _ _ _ _ _ _ _ _ _ _ _ _) wr.drew
      refine wpAnyZ_takeW (i := 3) (v := .pointer (some ⟨b, off + k * 3, none⟩)) rfl (by kernel_rfl) (by kernel_rfl) (by kernel_rfl) (fun _ _ _ h => h) (.inl ⟨rfl, fun w' hw' => exec_index rfl rfl rfl (index_lits w' _ _ _ _ _ hlt)⟩) ?_
      change wpAnyZ Tryz.prog .any _ _ _ _ 18 _ (rtAct _ _ _ _ _ _ _ _ _ _ _ _ _ _ _ (.slice (some ⟨gd, 0, none⟩) n cd) (.slice (some ⟨b, off, none⟩) m cap) (.int .i64 k) (.pointer (some ⟨b, off + k * 3, none⟩)) _ _ _ _ _ _ _ _ _ _ _ _ _ _ _ _ _ _) wr.drew
      refine wpAnyZ_takeW (i := 4) (v := .pointer (some ⟨b, off + k * 3, none⟩)) rfl (by kernel_rfl) (by kernel_rfl) (by kernel_rfl) (fun _ _ _ h => h) (.inl ⟨rfl, fun w' hw' => exec_field0 rfl rfl⟩) ?_
      change wpAnyZ Tryz.prog .any _ _ _ _ 17 _ (rtAct _ _ _ _ _ _ _ _ _ _ _ _ _ _ _ (.slice (some ⟨gd, 0, none⟩) n cd) (.slice (some ⟨b, off, none⟩) m cap) (.int .i64 k) (.pointer (some ⟨b, off + k * 3, none⟩)) (.pointer (some ⟨b, off + k * 3, none⟩)) _ _ _ _ _ _ _ _ _ _ _ _ _ _ _ _ _) wr.drew
      refine wpAnyZ_take (i := 5) (v := .int .i64 x) rfl (by kernel_rfl) (by kernel_rfl) (by kernel_rfl) (by kernel_rfl) (fun _ _ _ h => h) (.inl ⟨rfl, fun w' hw' => exec_load rfl rfl (load_int w' _ _ _ hw'.1.1)⟩) hS ?_
      change wpAnyZ Tryz.prog .any _ _ _ _ 16 _ (rtAct _ _ _ _ _ _ _ _ _ _ _ _ _ _ _ (.slice (some ⟨gd, 0, none⟩) n cd) (.slice (some ⟨b, off, none⟩) m cap) (.int .i64 k) (.pointer (some ⟨b, off + k * 3, none⟩)) (.pointer (some ⟨b, off + k * 3, none⟩)) (.int .i64 x) _ _ _ _ _ _ _ _ _ _ _ _ _ _ _ _) wr.drew
      refine wpAnyZ_takeW (i := 6) (v := .slice (some ⟨gd, 0, none⟩) n cd) rfl (by kernel_rfl) (by kernel_rfl) (by kernel_rfl) (fun _ _ _ h => h) (.inl ⟨rfl, fun w' hw' => rfl⟩) ?_
      change wpAnyZ Tryz.prog .any _ _ _ _ 15 _ (rtAct _ _ _ _ _ _ _ _ _ _ _ _ _ _ _ (.slice (some ⟨gd, 0, none⟩) n cd) (.slice (some ⟨b, off, none⟩) m cap) (.int .i64 k) (.pointer (some ⟨b, off + k * 3, none⟩)) (.pointer (some ⟨b, off + k * 3, none⟩)) (.int .i64 x) (.slice (some ⟨gd, 0, none⟩) n cd) _ _ _ _ _ _ _ _ _ _ _ _ _ _ _) wr.drew
      refine wpAnyZ_takeW (i := 7) (v := .slice (some ⟨b, off, none⟩) m cap) rfl (by kernel_rfl) (by kernel_rfl) (by kernel_rfl) (fun _ _ _ h => h) (.inl ⟨rfl, fun w' hw' => rfl⟩) ?_
      change wpAnyZ Tryz.prog .any _ _ _ _ 14 _ (rtAct _ _ _ _ _ _ _ _ _ _ _ _ _ _ _ (.slice (some ⟨gd, 0, none⟩) n cd) (.slice (some ⟨b, off, none⟩) m cap) (.int .i64 k) (.pointer (some ⟨b, off + k * 3, none⟩)) (.pointer (some ⟨b, off + k * 3, none⟩)) (.int .i64 x) (.slice (some ⟨gd, 0, none⟩) n cd) (.slice (some ⟨b, off, none⟩) m cap) _ _ _ _ _ _ _ _ _ _ _ _ _ _) wr.drew
      refine wpAnyZ_takeW (i := 8) (v := .int .i64 k) rfl (by kernel_rfl) (by kernel_rfl) (by kernel_rfl) (fun _ _ _ h => h) (.inl ⟨rfl, fun w' hw' => rfl⟩) ?_
      change wpAnyZ Tryz.prog .any _ _ _ _ 13 _ (rtAct _ _ _ _ _ _ _ _ _ _ _ _ _ _ _ (.slice (some ⟨gd, 0, none⟩) n cd) (.slice (some ⟨b, off, none⟩) m cap) (.int .i64 k) (.pointer (some ⟨b, off + k * 3, none⟩)) (.pointer (some ⟨b, off + k * 3, none⟩)) (.int .i64 x) (.slice (some ⟨gd, 0, none⟩) n cd) (.slice (some ⟨b, off, none⟩) m cap) (.int .i64 k) _ _ _ _ _ _ _ _ _ _ _ _ _) wr.drew
      refine wpAnyZ_takeW (i := 9) (v := .pointer (some ⟨b, off + k * 3, none⟩)) rfl (by kernel_rfl) (by kernel_rfl) (by kernel_rfl) (fun _ _ _ h => h) (.inl ⟨rfl, fun w' hw' => exec_index rfl rfl rfl (index_lits w' _ _ _ _ _ hlt)⟩) ?_
      change wpAnyZ Tryz.prog .any _ _ _ _ 12 _ (rtAct _ _ _ _ _ _ _ _ _ _ _ _ _ _ _ (.slice (some ⟨gd, 0, none⟩) n cd) (.slice (some ⟨b, off, none⟩) m cap) (.int .i64 k) (.pointer (some ⟨b, off + k * 3, none⟩)) (.pointer (some ⟨b, off + k * 3, none⟩)) (.int .i64 x) (.slice (some ⟨gd, 0, none⟩) n cd) (.slice (some ⟨b, off, none⟩) m cap) (.int .i64 k) (.pointer (some ⟨b, off + k * 3, none⟩)) _ _ _ _ _ _ _ _ _ _ _ _) wr.drew
      refine wpAnyZ_takeW (i := 10) (v := .pointer (some ⟨b, off + k * 3, none⟩)) rfl (by kernel_rfl) (by kernel_rfl) (by kernel_rfl) (fun _ _ _ h => h) (.inl ⟨rfl, fun w' hw' => exec_field0 rfl rfl⟩) ?_
      change wpAnyZ Tryz.prog .any _ _ _ _ 11 _ (rtAct _ _ _ _ _ _ _ _ _ _ _ _ _ _ _ (.slice (some ⟨gd, 0, none⟩) n cd) (.slice (some ⟨b, off, none⟩) m cap) (.int .i64 k) (.pointer (some ⟨b, off + k * 3, none⟩)) (.pointer (some ⟨b, off + k * 3, none⟩)) (.int .i64 x) (.slice (some ⟨gd, 0, none⟩) n cd) (.slice (some ⟨b, off, none⟩) m cap) (.int .i64 k) (.pointer (some ⟨b, off + k * 3, none⟩)) (.pointer (some ⟨b, off + k * 3, none⟩)) _ _ _ _ _ _ _ _ _ _ _) wr.drew
      refine wpAnyZ_take (i := 11) (v := .int .i64 x) rfl (by kernel_rfl) (by kernel_rfl) (by kernel_rfl) (by kernel_rfl) (fun _ _ _ h => h) (.inl ⟨rfl, fun w' hw' => exec_load rfl rfl (load_int w' _ _ _ hw'.1.1)⟩) hS ?_
      change wpAnyZ Tryz.prog .any _ _ _ _ 10 _ (rtAct _ _ _ _ _ _ _ _ _ _ _ _ _ _ _ (.slice (some ⟨gd, 0, none⟩) n cd) (.slice (some ⟨b, off, none⟩) m cap) (.int .i64 k) (.pointer (some ⟨b, off + k * 3, none⟩)) (.pointer (some ⟨b, off + k * 3, none⟩)) (.int .i64 x) (.slice (some ⟨gd, 0, none⟩) n cd) (.slice (some ⟨b, off, none⟩) m cap) (.int .i64 k) (.pointer (some ⟨b, off + k * 3, none⟩)) (.pointer (some ⟨b, off + k * 3, none⟩)) (.int .i64 x) _ _ _ _ _ _ _ _ _ _) wr.drew
      refine wpAnyZ_takeW (i := 12) (v := .pointer (some ⟨gd, x, none⟩)) rfl (by kernel_rfl) (by kernel_rfl) (by kernel_rfl) (fun _ _ _ h => h) (.inl ⟨rfl, fun w' hw' => exec_index rfl rfl rfl (index0_ints w' _ _ _ _ hxn)⟩) ?_
      change wpAnyZ Tryz.prog .any _ _ _ _ 9 _ (rtAct _ _ _ _ _ _ _ _ _ _ _ _ _ _ _ (.slice (some ⟨gd, 0, none⟩) n cd) (.slice (some ⟨b, off, none⟩) m cap) (.int .i64 k) (.pointer (some ⟨b, off + k * 3, none⟩)) (.pointer (some ⟨b, off + k * 3, none⟩)) (.int .i64 x) (.slice (some ⟨gd, 0, none⟩) n cd) (.slice (some ⟨b, off, none⟩) m cap) (.int .i64 k) (.pointer (some ⟨b, off + k * 3, none⟩)) (.pointer (some ⟨b, off + k * 3, none⟩)) (.int .i64 x) (.pointer (some ⟨gd, x, none⟩)) _ _ _ _ _ _ _ _ _) wr.drew
      refine wpAnyZ_take (i := 13) (v := .int .i64 d) rfl (by kernel_rfl) (by kernel_rfl) (by kernel_rfl) (by kernel_rfl) (fun _ _ _ h => h) (.inl ⟨rfl, fun w' hw' => exec_load rfl rfl (load_int w' _ _ _ hw'.2)⟩) hS ?_
      change wpAnyZ Tryz.prog .any _ _ _ _ 8 _ (rtAct _ _ _ _ _ _ _ _ _ _ _ _ _ _ _ (.slice (some ⟨gd, 0, none⟩) n cd) (.slice (some ⟨b, off, none⟩) m cap) (.int .i64 k) (.pointer (some ⟨b, off + k * 3, none⟩)) (.pointer (some ⟨b, off + k * 3, none⟩)) (.int .i64 x) (.slice (some ⟨gd, 0, none⟩) n cd) (.slice (some ⟨b, off, none⟩) m cap) (.int .i64 k) (.pointer (some ⟨b, off + k * 3, none⟩)) (.pointer (some ⟨b, off + k * 3, none⟩)) (.int .i64 x) (.pointer (some ⟨gd, x, none⟩)) (.int .i64 d) _ _ _ _ _ _ _ _) wr.drew
      refine wpAnyZ_takeW (i := 14) (v := .slice (some ⟨b, off, none⟩) m cap) rfl (by kernel_rfl) (by kernel_rfl) (by kernel_rfl) (fun _ _ _ h => h) (.inl ⟨rfl, fun w' hw' => rfl⟩) ?_
      change wpAnyZ Tryz.prog .any _ _ _ _ 7 _ (rtAct _ _ _ _ _ _ _ _ _ _ _ _ _ _ _ (.slice (some ⟨gd, 0, none⟩) n cd) (.slice (some ⟨b, off, none⟩) m cap) (.int .i64 k) (.pointer (some ⟨b, off + k * 3, none⟩)) (.pointer (some ⟨b, off + k * 3, none⟩)) (.int .i64 x) (.slice (some ⟨gd, 0, none⟩) n cd) (.slice (some ⟨b, off, none⟩) m cap) (.int .i64 k) (.pointer (some ⟨b, off + k * 3, none⟩)) (.pointer (some ⟨b, off + k * 3, none⟩)) (.int .i64 x) (.pointer (some ⟨gd, x, none⟩)) (.int .i64 d) (.slice (some ⟨b, off, none⟩) m cap) _ _ _ _ _ _ _) wr.drew
      refine wpAnyZ_takeW (i := 15) (v := .int .i64 k) rfl (by kernel_rfl) (by kernel_rfl) (by kernel_rfl) (fun _ _ _ h => h) (.inl ⟨rfl, fun w' hw' => rfl⟩) ?_
      change wpAnyZ Tryz.prog .any _ _ _ _ 6 _ (rtAct _ _ _ _ _ _ _ _ _ _ _ _ _ _ _ (.slice (some ⟨gd, 0, none⟩) n cd) (.slice (some ⟨b, off, none⟩) m cap) (.int .i64 k) (.pointer (some ⟨b, off + k * 3, none⟩)) (.pointer (some ⟨b, off + k * 3, none⟩)) (.int .i64 x) (.slice (some ⟨gd, 0, none⟩) n cd) (.slice (some ⟨b, off, none⟩) m cap) (.int .i64 k) (.pointer (some ⟨b, off + k * 3, none⟩)) (.pointer (some ⟨b, off + k * 3, none⟩)) (.int .i64 x) (.pointer (some ⟨gd, x, none⟩)) (.int .i64 d) (.slice (some ⟨b, off, none⟩) m cap) (.int .i64 k) _ _ _ _ _ _) wr.drew
      refine wpAnyZ_takeW (i := 16) (v := .pointer (some ⟨b, off + k * 3, none⟩)) rfl (by kernel_rfl) (by kernel_rfl) (by kernel_rfl) (fun _ _ _ h => h) (.inl ⟨rfl, fun w' hw' => exec_index rfl rfl rfl (index_lits w' _ _ _ _ _ hlt)⟩) ?_
      change wpAnyZ Tryz.prog .any _ _ _ _ 5 _ (rtAct _ _ _ _ _ _ _ _ _ _ _ _ _ _ _ (.slice (some ⟨gd, 0, none⟩) n cd) (.slice (some ⟨b, off, none⟩) m cap) (.int .i64 k) (.pointer (some ⟨b, off + k * 3, none⟩)) (.pointer (some ⟨b, off + k * 3, none⟩)) (.int .i64 x) (.slice (some ⟨gd, 0, none⟩) n cd) (.slice (some ⟨b, off, none⟩) m cap) (.int .i64 k) (.pointer (some ⟨b, off + k * 3, none⟩)) (.pointer (some ⟨b, off + k * 3, none⟩)) (.int .i64 x) (.pointer (some ⟨gd, x, none⟩)) (.int .i64 d) (.slice (some ⟨b, off, none⟩) m cap) (.int .i64 k) (.pointer (some ⟨b, off + k * 3, none⟩)) _ _ _ _ _) wr.drew
      refine wpAnyZ_take (i := 17) (v := .agg #[.int .i64 x, .int .i64 la, .bool ln]) rfl (by kernel_rfl) (by kernel_rfl) (by kernel_rfl) (by kernel_rfl) (fun _ _ _ h => h) (.inl ⟨rfl, fun w' hw' => exec_load rfl rfl (load_litO w' _ _ _ _ _ hw'.1.1 hw'.1.2.1 hw'.1.2.2)⟩) hS ?_
      change wpAnyZ Tryz.prog .any _ _ _ _ 4 _ (rtAct _ _ _ _ _ _ _ _ _ _ _ _ _ _ _ (.slice (some ⟨gd, 0, none⟩) n cd) (.slice (some ⟨b, off, none⟩) m cap) (.int .i64 k) (.pointer (some ⟨b, off + k * 3, none⟩)) (.pointer (some ⟨b, off + k * 3, none⟩)) (.int .i64 x) (.slice (some ⟨gd, 0, none⟩) n cd) (.slice (some ⟨b, off, none⟩) m cap) (.int .i64 k) (.pointer (some ⟨b, off + k * 3, none⟩)) (.pointer (some ⟨b, off + k * 3, none⟩)) (.int .i64 x) (.pointer (some ⟨gd, x, none⟩)) (.int .i64 d) (.slice (some ⟨b, off, none⟩) m cap) (.int .i64 k) (.pointer (some ⟨b, off + k * 3, none⟩)) (.agg #[.int .i64 x, .int .i64 la, .bool ln]) _ _ _ _) wr.drew
      refine wpAnyZ_one (i := 18) (by kernel_rfl) rfl (fun K' hK' => ?_)
      refine step_callL1 _ rfl 114 _ _ _ rfl rfl (enters_of Tryz.func114 (by kernel_rfl) rfl) _ HE.out (fun c w' h => by cases h.1) (fun w' h => by cases h.1) ?_
      rintro v9 w9 ⟨e9, b9⟩
      obtain rfl : v9 = .int .i64 dm := by injection e9
      have hS9 : LitAt b (off + k * 3) ⟨x, la, ln⟩ w9 ∧ w9.cell? ⟨gd, x, none⟩ = some (.int .i64 d) := ⟨litAt_below hS.1 b9, (b9.cell (World.block_lt_of_cell? _ _ hS.2)).trans hS.2⟩
      have HB9 := Lib.hid b9
      clear b9
      refine hK'.out _ _ (fun _ _ => hS9) ?_
      clear hK' K'
      change wpAnyZ Tryz.prog .any _ _ _ _ 3 _ (rtAct _ _ _ _ _ _ _ _ _ _ _ _ _ _ _ (.slice (some ⟨gd, 0, none⟩) n cd) (.slice (some ⟨b, off, none⟩) m cap) (.int .i64 k) (.pointer (some ⟨b, off + k * 3, none⟩)) (.pointer (some ⟨b, off + k * 3, none⟩)) (.int .i64 x) (.slice (some ⟨gd, 0, none⟩) n cd) (.slice (some ⟨b, off, none⟩) m cap) (.int .i64 k) (.pointer (some ⟨b, off + k * 3, none⟩)) (.pointer (some ⟨b, off + k * 3, none⟩)) (.int .i64 x) (.pointer (some ⟨gd, x, none⟩)) (.int .i64 d) (.slice (some ⟨b, off, none⟩) m cap) (.int .i64 k) (.pointer (some ⟨b, off + k * 3, none⟩)) (.agg #[.int .i64 x, .int .i64 la, .bool ln]) (.int .i64 dm) _ _ _) w9
      refine wpAnyZ_takeW (i := 19) (v := .int .i64 (bits .and .i64 d dm)) rfl (by kernel_rfl) (by kernel_rfl) (by kernel_rfl) (fun _ _ _ h => h) (.inl ⟨rfl, fun w' hw' => exec_bin rfl rfl rfl (and_ints _ _ _ _ _)⟩) ?_
      change wpAnyZ Tryz.prog .any _ _ _ _ 2 _ (rtAct _ _ _ _ _ _ _ _ _ _ _ _ _ _ _ (.slice (some ⟨gd, 0, none⟩) n cd) (.slice (some ⟨b, off, none⟩) m cap) (.int .i64 k) (.pointer (some ⟨b, off + k * 3, none⟩)) (.pointer (some ⟨b, off + k * 3, none⟩)) (.int .i64 x) (.slice (some ⟨gd, 0, none⟩) n cd) (.slice (some ⟨b, off, none⟩) m cap) (.int .i64 k) (.pointer (some ⟨b, off + k * 3, none⟩)) (.pointer (some ⟨b, off + k * 3, none⟩)) (.int .i64 x) (.pointer (some ⟨gd, x, none⟩)) (.int .i64 d) (.slice (some ⟨b, off, none⟩) m cap) (.int .i64 k) (.pointer (some ⟨b, off + k * 3, none⟩)) (.agg #[.int .i64 x, .int .i64 la, .bool ln]) (.int .i64 dm) (.int .i64 (bits .and .i64 d dm)) _ _) w9
      refine wpAnyZ_takeW (i := 20) (v := .pointer (some ⟨gd, x, none⟩)) rfl (by kernel_rfl) (by kernel_rfl) (by kernel_rfl) (fun _ _ _ h => h) (.inl ⟨rfl, fun w' hw' => exec_index rfl rfl rfl (index0_ints w' _ _ _ _ hxn)⟩) ?_
      change wpAnyZ Tryz.prog .any _ _ _ _ 1 _ (rtAct _ _ _ _ _ _ _ _ _ _ _ _ _ _ _ (.slice (some ⟨gd, 0, none⟩) n cd) (.slice (some ⟨b, off, none⟩) m cap) (.int .i64 k) (.pointer (some ⟨b, off + k * 3, none⟩)) (.pointer (some ⟨b, off + k * 3, none⟩)) (.int .i64 x) (.slice (some ⟨gd, 0, none⟩) n cd) (.slice (some ⟨b, off, none⟩) m cap) (.int .i64 k) (.pointer (some ⟨b, off + k * 3, none⟩)) (.pointer (some ⟨b, off + k * 3, none⟩)) (.int .i64 x) (.pointer (some ⟨gd, x, none⟩)) (.int .i64 d) (.slice (some ⟨b, off, none⟩) m cap) (.int .i64 k) (.pointer (some ⟨b, off + k * 3, none⟩)) (.agg #[.int .i64 x, .int .i64 la, .bool ln]) (.int .i64 dm) (.int .i64 (bits .and .i64 d dm)) (.pointer (some ⟨gd, x, none⟩)) _) w9
      refine wpAnyZ_one (i := 21) (by kernel_rfl) rfl (fun K' hK' => ?_)
      have HC9 := cf_cell HOW.out HB9.out hS9.2
      refine step_skip _ (w9.setCell ⟨gd, x, none⟩ (.int .i64 (bits .and .i64 d dm))) rfl (exec_store rfl rfl rfl (store_int _ _ _ _ _ hS9.2 HC9)) ?_
      refine hK'.out _ _ (fun h => by cases h) ?_
      clear hK' K'
      change wpAnyZ Tryz.prog .any _ _ _ _ 0 _ (rtAct _ _ _ _ _ _ _ _ _ _ _ _ _ _ _ (.slice (some ⟨gd, 0, none⟩) n cd) (.slice (some ⟨b, off, none⟩) m cap) (.int .i64 k) (.pointer (some ⟨b, off + k * 3, none⟩)) (.pointer (some ⟨b, off + k * 3, none⟩)) (.int .i64 x) (.slice (some ⟨gd, 0, none⟩) n cd) (.slice (some ⟨b, off, none⟩) m cap) (.int .i64 k) (.pointer (some ⟨b, off + k * 3, none⟩)) (.pointer (some ⟨b, off + k * 3, none⟩)) (.int .i64 x) (.pointer (some ⟨gd, x, none⟩)) (.int .i64 d) (.slice (some ⟨b, off, none⟩) m cap) (.int .i64 k) (.pointer (some ⟨b, off + k * 3, none⟩)) (.agg #[.int .i64 x, .int .i64 la, .bool ln]) (.int .i64 dm) (.int .i64 (bits .and .i64 d dm)) (.pointer (some ⟨gd, x, none⟩)) _) (w9.setCell ⟨gd, x, none⟩ (.int .i64 (bits .and .i64 d dm)))
      refine wpAnyZ_done (by kernel_rfl) ?_ _
      unfold rtAct
      have HF9 : Hid ((w9.setCell ⟨gd, x, none⟩ (.int .i64 (bits .and .i64 d dm))).ownsRow w.heap.size 3 1 (.slice (some ⟨gd, 0, none⟩) n cd) n ((restL ds (ls.take (k + 1))).map (Value.int .i64))) := Lib.hid (by
        have := ((own_below HOW.out HB9.out).stored x (.int .i64 (bits .and .i64 d dm))).1
        rw [HRS.out, List.map_set]
        simp only [Int.toNat_natCast]
        rw [← HDD.out]
        exact this)
      have HB10 : Hid (Below w.heap.size w (w9.setCell ⟨gd, x, none⟩ (.int .i64 (bits .and .i64 d dm)))) := Lib.hid ((HBD.out.trans (HB9.out.mono HBD.out.size)).setCell (p := ⟨gd, x, none⟩) hg1 _)
      clear hS hS9 HC9
      go_wp2
      go_roundw
      all_goals first
        | exact ⟨k + 1, by omega, by go_num, HF9, HB10⟩
        | (simp [intOf]; omega)
    · obtain rfl : k = m := by omega
      have HFI : Hid (restL ds (ls.take k) = restL ds ls) := Lib.hid (by rw [HM.out, List.take_length])
      have HLN : Hid ((restL ds ls).length = n) := Lib.hid (by have := (HDN.out k).len; rw [HFI.out] at this; exact this)
      go_wp2
      go_ret
      exact ⟨_, rfl, by rw [HLN.out, ← HFI.out]; exact HO.out, HB.out⟩
end Go.Proofs.YtipapmmjfoaddaaGreat
