/- The law of promise 48: Distance is a metric. -/
import Derived.Test.YtolfjkdkbiicmaaDrDst
import Derived.Test.YtolfjkdkbiicmaaDst
import Derived.Test.YtolfjkdkbiicmaaLwI
import Derived.Test.YtolfjkdkbiicmaaOrdX
namespace Go.Proofs.Ytolfjkdkbiicmaa
open Go.ChangeShapes Go.WideShapes Go.ChangeAt Go.RowKit
set_option linter.unusedVariables false
set_option linter.unusedSimpArgs false

def dpAct (z0 z1 z2 z3 z4 z5 z6 z7 z8 z9 z10 z11 z12 z13 z14 z15 z16 z17 z18 z19 z20 z21 z22 z23 z24 z25 z26 z27 z28 z29 z30 z31 z32 z33 z34 z35 z36 z37 z38 z39 z40 z41 z42 z43 z44 z45 z46 z47 z48 z49 z50 z51 z52 z53 z54 z55 z56 z57 z58 z59 z60 z61 z62 z63 z64 z65 z66 z67 z68 z69 z70 z71 z72 z73 z74 z75 z76 z77 z78 z79 z80 z81 z82 z83 z84 z85 z86 z87 z88 z89 z90 z91 z92 z93 z94 z95 z96 : Value) : Act := { tmps := #[z0, z1, z2, z3, z4, z5, z6, z7, z8, z9, z10, z11, z12, z13, z14, z15, z16, z17, z18, z19, z20, z21, z22, z23, z24, z25, z26, z27, z28, z29, z30, z31, z32, z33, z34, z35, z36, z37, z38, z39, z40, z41, z42, z43, z44, z45, z46, z47, z48, z49, z50, z51, z52, z53, z54, z55, z56, z57, z58, z59, z60, z61, z62, z63, z64, z65, z66, z67, z68, z69, z70, z71, z72, z73, z74, z75, z76, z77, z78, z79, z80, z81, z82, z83, z84, z85, z86, z87, z88, z89, z90, z91, z92, z93, z94, z95, z96], defers := [] }
theorem dx_index (w : World) (b n c j : Nat) (hj : j < n) : (Instr.indexAt 23 (.slice (some ⟨b, 0, none⟩) n c) (.int .i64 j)).run Try.prog w = .ok (.pointer (some ⟨b, j, none⟩)) w := by
  go_simp
theorem dx_shr (l k : Nat) : ∃ z : Int, ∀ (w : World) (x y : Operand), (do eqGuard .shr 3 x y (.int .i64 l) (.int .i64 k); binOp .shr 3 (.int .i64 l) (.int .i64 k) : Sem Value).run Try.prog w = .ok (.int .i64 z) w := by
  have h : ¬ (k : Int) < 0 := by omega
  exact ⟨(l : Int) / 2 ^ min k 64, fun w x y => by go_simp⟩
theorem dx_add (a b : Int) : ∃ z : Int, ∀ (w : World) (x y : Operand), (do eqGuard .add 3 x y (.int .i64 a) (.int .i64 b); binOp .add 3 (.int .i64 a) (.int .i64 b) : Sem Value).run Try.prog w = .ok (.int .i64 z) w := by
  exact ⟨IntKind.i64.wrap (a + b), fun w x y => by go_simp⟩
theorem dx_rem (a : Int) : ∃ z : Int, ∀ (w : World) (x y : Operand), (do eqGuard .rem 3 x y (.int .i64 a) (.int .i64 6); binOp .rem 3 (.int .i64 a) (.int .i64 6) : Sem Value).run Try.prog w = .ok (.int .i64 z) w := by
  exact ⟨a.tmod 6, fun w x y => by go_simp⟩
theorem dx_len {w : World} {ev : Operand → Value} {o : Oper} {x : Operand} {a : Option Addr} {n c : Nat} (ho : o.op = .call { callee := .builtin .len, args := #[x], argTypes := #[22] }) (hx : ev x = .slice a n c) : (execOp ev o).run Try.prog w = .ok (.value (.int .i64 n)) w := by
  unfold execOp
  simp only [ho, resolve, invoke, builtin, Sem.run_bind, Sem.run_pure, Result.andThen_ok, List.map_toArray, List.map_cons, List.map_nil, hx]
  go_simp

set_option maxRecDepth 100000 in
set_option maxHeartbeats 16000000 in
theorem law_fdst (a a' : Option Addr) (len cap len' cap' : Nat) (w : World) (h : CodeOk w.heap.size w a len cap) (h' : CodeOk w.heap.size w a' len' cap') :
    Calls Try.prog 10 #[.slice a len cap, .slice a' len' cap'] w fun e w' => e = .returned (.bool true) ∧ Below w.heap.size w w' := by
  have hl0 := h.1
  have hm0 := h.2.1
  have hl1 := h'.1
  have hm1 := h'.2.1
  unfold maxLen at hm0 hm1
  have HK := Lib.hid h
  clear h h'
  by_cases hbig : 1048576 < len
  · go_enter Try.func10, Try.ntmps10
    go_wp2
    go_ret
    exact ⟨rfl, Below.refl _ _⟩
  by_cases hbig' : 1048576 < len'
  · go_enter Try.func10, Try.ntmps10
    go_wp2
    go_ret
    exact ⟨rfl, Below.refl _ _⟩
  obtain ⟨i0, hi, hz0, hz1, hz2⟩ := info_parts Try.info3
  go_enter Try.func10, Try.ntmps10
  go_wp2_with fail
  refine (drawDst_any a len cap w HK.out).mono ?_
  rintro e w1 ⟨g, n, c, bv, x, y, rfl, hn, rx, ry, hx, hy, b1⟩
  obtain ⟨ab, cb, ebv, -⟩ := id ry
  subst ebv
  obtain ⟨m, hm⟩ : ∃ m, m = y.length := ⟨_, rfl⟩
  rw [← hm] at ry hy ⊢
  rw [← hn] at hx
  have HN := Lib.hid hn
  have HM := Lib.hid hm
  have hcx := (rdInts_cap rx).2
  have hcy := (rdInts_cap ry).2
  have HX := Lib.hid rx
  have HY := Lib.hid ry
  have HB := Lib.hid b1
  clear rx ry b1 hn hm
  go_wp2_with fail
  refine (iDst_any _ _ x y w1 HX.out HY.out).mono ?_
  rintro e w2 ⟨rfl, b2⟩
  have HX2 := Lib.hid (HX.out.below b2)
  have HY2 := Lib.hid (HY.out.below b2)
  have HB2 := Lib.hid (HB.out.trans (b2.mono HB.out.size))
  clear b2 HX HY HB
  go_wp2_with fail
  refine (sDst_any _ _ x y w2 HX2.out HY2.out).mono ?_
  rintro e w3 ⟨rfl, b3⟩
  have HX3 := Lib.hid (HX2.out.below b3)
  have HY3 := Lib.hid (HY2.out.below b3)
  have HB3 := Lib.hid (HB2.out.trans (b3.mono HB2.out.size))
  clear b3 HX2 HY2 HB2
  obtain ⟨v, hv⟩ : ∃ v, v = dstL x y := ⟨_, rfl⟩
  rw [← hv]
  have HV := Lib.hid hv
  clear hv
  have hvv : (v != v) = false := by simp
  have hve : (v == v) = true := by simp
  by_cases hnm : n = m
  case neg =>
    have hv1 : v = -1 := by rw [HV.out]; exact dst_no (by rw [← HN.out, ← HM.out]; exact hnm)
    subst hv1
    have hd : ((n : Int) != (m : Int)) = true := by simp; omega
    clear hnm
    go_wp2_with fail
    refine (sDst_any _ _ x y w3 HX3.out HY3.out).mono ?_
    rintro e w4 ⟨rfl, b4⟩
    have HB4 := Lib.hid (HB3.out.trans (b4.mono HB3.out.size))
    rw [← HV.out]
    clear b4 HX3 HY3 HB3
    go_wp2
    go_ret
    exact ⟨rfl, HB4.out⟩
  case pos =>
    subst hnm
    have hxy : x.length = y.length := by rw [← HN.out, ← HM.out]
    have hv0 : v = (dstN x y n : Nat) := by rw [HV.out, HN.out]; exact dst_ok hxy
    have hvn := dstN_le x y n
    have HXY := Lib.hid hxy
    have HV0 := Lib.hid hv0
    have hv1 : 0 ≤ v := by omega
    have hv2 : v ≤ 10 := by omega
    have hv3 : ¬ v < 0 := by omega
    clear hxy hv0 hvn
    have hmade := ownsRow_made w3 3
    have HCE : Hid (∀ (q : Nat) (u : Value), (x.map (Value.int .i64))[q]? = some u → (w3.alloc (.cells #[] 3)).cell? ((⟨g, 0, none⟩ : Addr).add q) = some u) := Lib.hid (fun q u hu => by
      have hq : q < x.length := by have := (List.getElem?_eq_some_iff.1 hu).1; simpa using this
      have hq' : q < n := by have := HN.out; omega
      obtain ⟨b3, o3, e3, c3⟩ := rdInts_at HX3.out hq'
      injection e3 with e3
      injection e3 with e3 e4
      subst e3 e4
      rw [addr_add, cell_same (Below.heap_alloc _ _ _ (World.block_lt_of_cell? w3 _ c3)), c3]
      rw [List.getElem?_map, List.getElem?_eq_getElem hq] at hu
      rw [List.getElem?_eq_getElem hq]
      simpa using hu)
    have HON : Hid (∀ u ∈ x.map (Value.int .i64), u.oneCell' = true) := Lib.hid (fun u hu => by obtain ⟨z, _, rfl⟩ := List.mem_map.1 hu; rfl)
    have HLN : Hid ((x.map (Value.int .i64)).length = n * 1) := Lib.hid (by rw [List.length_map, HN.out]; omega)
    go_wp2_with (at_builtin; refine wpList_append_own _ rfl _ _ 23 rfl w3.heap.size 3 i0 (.int .i64 0) 1 8 Try.underlying23 hi hz0 hz1 hz2 rfl (by decide) _ 0 [] rfl hmade ⟨g, 0, none⟩ n c (x.map (Value.int .i64)) rfl HLN.out HCE.out HON.out (by unfold maxLen; omega) (by omega) (by simp) ?_; intro v' w6 hown hgrow _; have hown2 : w6.ownsRow w3.heap.size 3 1 v' n (x.map (Value.int .i64)) := (by simpa using hown); obtain ⟨ac, cc, ec, hcc, hcc2⟩ := own_form hown2; subst ec; have HO6 := Lib.hid hown2; have HG6 := Lib.hid hgrow; clear hown hown2 hgrow)
    have HB6 : Hid (Below w3.heap.size w3 w6) := Lib.hid (((Below.refl w3.heap.size w3).alloc (Nat.le_refl _) _).grown HG6.out (by simp) (fun q e => by injection (show some w3.heap.size = some q from e) with e; omega))
    clear hmade HCE HON HLN HG6
    unfold maxLen at hcc2
    go_wp2
    go_loopw [9] (fun i wr => ∃ (j : Nat) (zs : List Int), j ≤ n ∧ i = .int .i64 j ∧ Hid (zs.length = n) ∧ Hid (wr.ownsRow w3.heap.size 3 1 (.slice ac n cc) n (zs.map (Value.int .i64))) ∧ Hid (Below w3.heap.size w3 wr)) (fun i _ => n - (intOf i).toNat)
    case atStart => exact ⟨0, x, Nat.zero_le _, rfl, Lib.hid HN.out.symm, HO6, HB6⟩
    case round =>
      obtain ⟨j, zs, hj, rfl, HZL, HOZ, HBZ⟩ := hrel
      by_cases hlt : j < n
      · obtain ⟨gz, cz, ez, hgz, hxt⟩ := xt_of_own (by rw [HZL.out]; exact HOZ.out) (by rw [HZL.out]; omega)
        rw [HZL.out] at ez
        simp at ez
        obtain ⟨rfl, rfl⟩ := ez
        obtain ⟨z0, hz0'⟩ : ∃ z0, z0 = zs[j]?.getD 0 := ⟨_, rfl⟩
        have HC : Hid (wr.drew.cell? ⟨gz, j, none⟩ = some (.int .i64 z0) ∧ wr.drew.frozen? ⟨gz, j, none⟩ = false) := Lib.hid ⟨by rw [hz0']; exact hxt.at (i := j) (by rw [HZL.out]; exact hlt), hxt.unfrozen j⟩
        obtain ⟨s1, hs1⟩ := dx_shr len' j
        obtain ⟨s2, hs2⟩ := dx_add z0 s1
        obtain ⟨s3, hs3⟩ := dx_rem s2
        have HS1 := Lib.hid hs1
        have HS2 := Lib.hid hs2
        have HS3 := Lib.hid hs3
        have hx7 : XT gz cc zs wr.drew := hxt
        have HX7 := Lib.hid (hx7.set (i := j) (by rw [HZL.out]; exact hlt) s3)
        have HGZ := Lib.hid hgz
        have HB7 : Hid (Below w3.heap.size w3 (wr.drew.setCell ⟨gz, j, none⟩ (.int .i64 s3))) := Lib.hid (HBZ.out.drew.setCell (by show _ ≤ gz; exact hgz) _)
        have hS : wr.drew.cell? ⟨gz, j, none⟩ = some (.int .i64 z0) := HC.out.1
        clear hs1 hs2 hs3 hx7 hxt hgz hz0' HOZ HBZ
        go_wp2_with fail
        refine region_x (fun w' => w'.cell? ⟨gz, j, none⟩ = some (.int .i64 z0)) (fun i => i == 13) rfl ?_
        change wpAnyX Try.prog .any _ _ _ _ 14 _ (dpAct _ _ _ _ _ _ _ _ _ _ _ _ _ _ _ _ _ _ _ _ _ _ _ _ _ _ _ _ _ _ _ _ _ _ _ _ _ _ _ _ _ _ _ _ _ _ _ _ _ _ _ _ _ _ _ _ _ _ _ _ _ _ _ _ _ _ _ _ _ _ _ _ _ _ _ _ _ _ _ _ _ _ _ _ _ _ _ _ _ _ _ _ _ _ _ _ _) wr.drew
        refine wpAnyX_take (i := 0) (v := .slice (some ⟨gz, 0, none⟩) n cc) rfl (by kernel_rfl) (by kernel_rfl) (by kernel_rfl) (by kernel_rfl) (fun _ _ _ h => h) (.inl ⟨rfl, fun w' hw' => rfl⟩) hS ?_
        change wpAnyX Try.prog .any _ _ _ _ 13 _ (dpAct _ _ _ _ _ _ _ _ _ _ _ _ _ _ _ _ _ _ _ _ _ _ _ _ _ _ _ _ _ _ _ _ _ _ _ _ _ _ _ _ _ _ _ _ _ _ _ _ _ _ _ _ _ _ _ _ _ _ _ _ (.slice (some ⟨gz, 0, none⟩) n cc) _ _ _ _ _ _ _ _ _ _ _ _ _ _ _ _ _ _ _ _ _ _ _ _ _ _ _ _ _ _ _ _ _ _ _ _) wr.drew
        refine wpAnyX_take (i := 1) (v := .int .i64 j) rfl (by kernel_rfl) (by kernel_rfl) (by kernel_rfl) (by kernel_rfl) (fun _ _ _ h => h) (.inl ⟨rfl, fun w' hw' => rfl⟩) hS ?_
        change wpAnyX Try.prog .any _ _ _ _ 12 _ (dpAct _ _ _ _ _ _ _ _ _ _ _ _ _ _ _ _ _ _ _ _ _ _ _ _ _ _ _ _ _ _ _ _ _ _ _ _ _ _ _ _ _ _ _ _ _ _ _ _ _ _ _ _ _ _ _ _ _ _ _ _ (.slice (some ⟨gz, 0, none⟩) n cc) (.int .i64 j) _ _ _ _ _ _ _ _ _ _ _ _ _ _ _ _ _ _ _ _ _ _ _ _ _ _ _ _ _ _ _ _ _ _ _) wr.drew
        refine wpAnyX_take (i := 2) (v := .slice (some ⟨gz, 0, none⟩) n cc) rfl (by kernel_rfl) (by kernel_rfl) (by kernel_rfl) (by kernel_rfl) (fun _ _ _ h => h) (.inl ⟨rfl, fun w' hw' => rfl⟩) hS ?_
        change wpAnyX Try.prog .any _ _ _ _ 11 _ (dpAct _ _ _ _ _ _ _ _ _ _ _ _ _ _ _ _ _ _ _ _ _ _ _ _ _ _ _ _ _ _ _ _ _ _ _ _ _ _ _ _ _ _ _ _ _ _ _ _ _ _ _ _ _ _ _ _ _ _ _ _ (.slice (some ⟨gz, 0, none⟩) n cc) (.int .i64 j) (.slice (some ⟨gz, 0, none⟩) n cc) _ _ _ _ _ _ _ _ _ _ _ _ _ _ _ _ _ _ _ _ _ _ _ _ _ _ _ _ _ _ _ _ _ _) wr.drew
        refine wpAnyX_take (i := 3) (v := .int .i64 j) rfl (by kernel_rfl) (by kernel_rfl) (by kernel_rfl) (by kernel_rfl) (fun _ _ _ h => h) (.inl ⟨rfl, fun w' hw' => rfl⟩) hS ?_
        change wpAnyX Try.prog .any _ _ _ _ 10 _ (dpAct _ _ _ _ _ _ _ _ _ _ _ _ _ _ _ _ _ _ _ _ _ _ _ _ _ _ _ _ _ _ _ _ _ _ _ _ _ _ _ _ _ _ _ _ _ _ _ _ _ _ _ _ _ _ _ _ _ _ _ _ (.slice (some ⟨gz, 0, none⟩) n cc) (.int .i64 j) (.slice (some ⟨gz, 0, none⟩) n cc) (.int .i64 j) _ _ _ _ _ _ _ _ _ _ _ _ _ _ _ _ _ _ _ _ _ _ _ _ _ _ _ _ _ _ _ _ _) wr.drew
        refine wpAnyX_take (i := 4) (v := .pointer (some ⟨gz, j, none⟩)) rfl (by kernel_rfl) (by kernel_rfl) (by kernel_rfl) (by kernel_rfl) (fun _ _ _ h => h) (.inl ⟨rfl, fun w' hw' => exec_index rfl rfl rfl (dx_index w' _ _ _ _ hlt)⟩) hS ?_
        change wpAnyX Try.prog .any _ _ _ _ 9 _ (dpAct _ _ _ _ _ _ _ _ _ _ _ _ _ _ _ _ _ _ _ _ _ _ _ _ _ _ _ _ _ _ _ _ _ _ _ _ _ _ _ _ _ _ _ _ _ _ _ _ _ _ _ _ _ _ _ _ _ _ _ _ (.slice (some ⟨gz, 0, none⟩) n cc) (.int .i64 j) (.slice (some ⟨gz, 0, none⟩) n cc) (.int .i64 j) (.pointer (some ⟨gz, j, none⟩)) _ _ _ _ _ _ _ _ _ _ _ _ _ _ _ _ _ _ _ _ _ _ _ _ _ _ _ _ _ _ _ _) wr.drew
        refine wpAnyX_take (i := 5) (v := .int .i64 z0) rfl (by kernel_rfl) (by kernel_rfl) (by kernel_rfl) (by kernel_rfl) (fun _ _ _ h => h) (.inl ⟨rfl, fun w' hw' => exec_load rfl rfl (load_int w' _ _ _ hw')⟩) hS ?_
        change wpAnyX Try.prog .any _ _ _ _ 8 _ (dpAct _ _ _ _ _ _ _ _ _ _ _ _ _ _ _ _ _ _ _ _ _ _ _ _ _ _ _ _ _ _ _ _ _ _ _ _ _ _ _ _ _ _ _ _ _ _ _ _ _ _ _ _ _ _ _ _ _ _ _ _ (.slice (some ⟨gz, 0, none⟩) n cc) (.int .i64 j) (.slice (some ⟨gz, 0, none⟩) n cc) (.int .i64 j) (.pointer (some ⟨gz, j, none⟩)) (.int .i64 z0) _ _ _ _ _ _ _ _ _ _ _ _ _ _ _ _ _ _ _ _ _ _ _ _ _ _ _ _ _ _ _) wr.drew
        refine wpAnyX_take (i := 6) (v := .slice a' len' cap') rfl (by kernel_rfl) (by kernel_rfl) (by kernel_rfl) (by kernel_rfl) (fun _ _ _ h => h) (.inl ⟨rfl, fun w' hw' => rfl⟩) hS ?_
        change wpAnyX Try.prog .any _ _ _ _ 7 _ (dpAct _ _ _ _ _ _ _ _ _ _ _ _ _ _ _ _ _ _ _ _ _ _ _ _ _ _ _ _ _ _ _ _ _ _ _ _ _ _ _ _ _ _ _ _ _ _ _ _ _ _ _ _ _ _ _ _ _ _ _ _ (.slice (some ⟨gz, 0, none⟩) n cc) (.int .i64 j) (.slice (some ⟨gz, 0, none⟩) n cc) (.int .i64 j) (.pointer (some ⟨gz, j, none⟩)) (.int .i64 z0) (.slice a' len' cap') _ _ _ _ _ _ _ _ _ _ _ _ _ _ _ _ _ _ _ _ _ _ _ _ _ _ _ _ _ _) wr.drew
        refine wpAnyX_take (i := 7) (v := .int .i64 len') rfl (by kernel_rfl) (by kernel_rfl) (by kernel_rfl) (by kernel_rfl) (fun _ _ _ h => h) (.inl ⟨rfl, fun w' hw' => dx_len rfl rfl⟩) hS ?_
        change wpAnyX Try.prog .any _ _ _ _ 6 _ (dpAct _ _ _ _ _ _ _ _ _ _ _ _ _ _ _ _ _ _ _ _ _ _ _ _ _ _ _ _ _ _ _ _ _ _ _ _ _ _ _ _ _ _ _ _ _ _ _ _ _ _ _ _ _ _ _ _ _ _ _ _ (.slice (some ⟨gz, 0, none⟩) n cc) (.int .i64 j) (.slice (some ⟨gz, 0, none⟩) n cc) (.int .i64 j) (.pointer (some ⟨gz, j, none⟩)) (.int .i64 z0) (.slice a' len' cap') (.int .i64 len') _ _ _ _ _ _ _ _ _ _ _ _ _ _ _ _ _ _ _ _ _ _ _ _ _ _ _ _ _) wr.drew
        refine wpAnyX_take (i := 8) (v := .int .i64 j) rfl (by kernel_rfl) (by kernel_rfl) (by kernel_rfl) (by kernel_rfl) (fun _ _ _ h => h) (.inl ⟨rfl, fun w' hw' => rfl⟩) hS ?_
        change wpAnyX Try.prog .any _ _ _ _ 5 _ (dpAct _ _ _ _ _ _ _ _ _ _ _ _ _ _ _ _ _ _ _ _ _ _ _ _ _ _ _ _ _ _ _ _ _ _ _ _ _ _ _ _ _ _ _ _ _ _ _ _ _ _ _ _ _ _ _ _ _ _ _ _ (.slice (some ⟨gz, 0, none⟩) n cc) (.int .i64 j) (.slice (some ⟨gz, 0, none⟩) n cc) (.int .i64 j) (.pointer (some ⟨gz, j, none⟩)) (.int .i64 z0) (.slice a' len' cap') (.int .i64 len') (.int .i64 j) _ _ _ _ _ _ _ _ _ _ _ _ _ _ _ _ _ _ _ _ _ _ _ _ _ _ _ _) wr.drew
        refine wpAnyX_take (i := 9) (v := .int .i64 s1) rfl (by kernel_rfl) (by kernel_rfl) (by kernel_rfl) (by kernel_rfl) (fun _ _ _ h => h) (.inl ⟨rfl, fun w' hw' => exec_bin rfl rfl rfl (HS1.out w' _ _)⟩) hS ?_
        change wpAnyX Try.prog .any _ _ _ _ 4 _ (dpAct _ _ _ _ _ _ _ _ _ _ _ _ _ _ _ _ _ _ _ _ _ _ _ _ _ _ _ _ _ _ _ _ _ _ _ _ _ _ _ _ _ _ _ _ _ _ _ _ _ _ _ _ _ _ _ _ _ _ _ _ (.slice (some ⟨gz, 0, none⟩) n cc) (.int .i64 j) (.slice (some ⟨gz, 0, none⟩) n cc) (.int .i64 j) (.pointer (some ⟨gz, j, none⟩)) (.int .i64 z0) (.slice a' len' cap') (.int .i64 len') (.int .i64 j) (.int .i64 s1) _ _ _ _ _ _ _ _ _ _ _ _ _ _ _ _ _ _ _ _ _ _ _ _ _ _ _) wr.drew
        refine wpAnyX_take (i := 10) (v := .int .i64 s2) rfl (by kernel_rfl) (by kernel_rfl) (by kernel_rfl) (by kernel_rfl) (fun _ _ _ h => h) (.inl ⟨rfl, fun w' hw' => exec_bin rfl rfl rfl (HS2.out w' _ _)⟩) hS ?_
        change wpAnyX Try.prog .any _ _ _ _ 3 _ (dpAct _ _ _ _ _ _ _ _ _ _ _ _ _ _ _ _ _ _ _ _ _ _ _ _ _ _ _ _ _ _ _ _ _ _ _ _ _ _ _ _ _ _ _ _ _ _ _ _ _ _ _ _ _ _ _ _ _ _ _ _ (.slice (some ⟨gz, 0, none⟩) n cc) (.int .i64 j) (.slice (some ⟨gz, 0, none⟩) n cc) (.int .i64 j) (.pointer (some ⟨gz, j, none⟩)) (.int .i64 z0) (.slice a' len' cap') (.int .i64 len') (.int .i64 j) (.int .i64 s1) (.int .i64 s2) _ _ _ _ _ _ _ _ _ _ _ _ _ _ _ _ _ _ _ _ _ _ _ _ _ _) wr.drew
        refine wpAnyX_take (i := 11) (v := .int .i64 s3) rfl (by kernel_rfl) (by kernel_rfl) (by kernel_rfl) (by kernel_rfl) (fun _ _ _ h => h) (.inl ⟨rfl, fun w' hw' => exec_bin rfl rfl rfl (HS3.out w' _ _)⟩) hS ?_
        change wpAnyX Try.prog .any _ _ _ _ 2 _ (dpAct _ _ _ _ _ _ _ _ _ _ _ _ _ _ _ _ _ _ _ _ _ _ _ _ _ _ _ _ _ _ _ _ _ _ _ _ _ _ _ _ _ _ _ _ _ _ _ _ _ _ _ _ _ _ _ _ _ _ _ _ (.slice (some ⟨gz, 0, none⟩) n cc) (.int .i64 j) (.slice (some ⟨gz, 0, none⟩) n cc) (.int .i64 j) (.pointer (some ⟨gz, j, none⟩)) (.int .i64 z0) (.slice a' len' cap') (.int .i64 len') (.int .i64 j) (.int .i64 s1) (.int .i64 s2) (.int .i64 s3) _ _ _ _ _ _ _ _ _ _ _ _ _ _ _ _ _ _ _ _ _ _ _ _ _) wr.drew
        refine wpAnyX_take (i := 12) (v := .pointer (some ⟨gz, j, none⟩)) rfl (by kernel_rfl) (by kernel_rfl) (by kernel_rfl) (by kernel_rfl) (fun _ _ _ h => h) (.inl ⟨rfl, fun w' hw' => exec_index rfl rfl rfl (dx_index w' _ _ _ _ hlt)⟩) hS ?_
        change wpAnyX Try.prog .any _ _ _ _ 1 _ (dpAct _ _ _ _ _ _ _ _ _ _ _ _ _ _ _ _ _ _ _ _ _ _ _ _ _ _ _ _ _ _ _ _ _ _ _ _ _ _ _ _ _ _ _ _ _ _ _ _ _ _ _ _ _ _ _ _ _ _ _ _ (.slice (some ⟨gz, 0, none⟩) n cc) (.int .i64 j) (.slice (some ⟨gz, 0, none⟩) n cc) (.int .i64 j) (.pointer (some ⟨gz, j, none⟩)) (.int .i64 z0) (.slice a' len' cap') (.int .i64 len') (.int .i64 j) (.int .i64 s1) (.int .i64 s2) (.int .i64 s3) (.pointer (some ⟨gz, j, none⟩)) _ _ _ _ _ _ _ _ _ _ _ _ _ _ _ _ _ _ _ _ _ _ _ _) wr.drew
        refine wpAnyX_one (i := 13) (by kernel_rfl) rfl (fun K' hK' => ?_)
        refine step_skip _ (wr.drew.setCell ⟨gz, j, none⟩ (.int .i64 s3)) rfl (exec_store rfl rfl rfl (store_int _ _ _ _ _ HC.out.1 HC.out.2)) ?_
        refine hK'.out _ _ (fun h => by cases h) ?_
        clear hK' K'
        change wpAnyX Try.prog .any _ _ _ _ 0 _ (dpAct _ _ _ _ _ _ _ _ _ _ _ _ _ _ _ _ _ _ _ _ _ _ _ _ _ _ _ _ _ _ _ _ _ _ _ _ _ _ _ _ _ _ _ _ _ _ _ _ _ _ _ _ _ _ _ _ _ _ _ _ (.slice (some ⟨gz, 0, none⟩) n cc) (.int .i64 j) (.slice (some ⟨gz, 0, none⟩) n cc) (.int .i64 j) (.pointer (some ⟨gz, j, none⟩)) (.int .i64 z0) (.slice a' len' cap') (.int .i64 len') (.int .i64 j) (.int .i64 s1) (.int .i64 s2) (.int .i64 s3) (.pointer (some ⟨gz, j, none⟩)) _ _ _ _ _ _ _ _ _ _ _ _ _ _ _ _ _ _ _ _ _ _ _ _) (wr.drew.setCell ⟨gz, j, none⟩ (.int .i64 s3))
        refine wpAnyX_done (by kernel_rfl) ?_ _
        unfold dpAct
        go_wp2
        go_roundw
        case rel => exact ⟨j + 1, zs.set j s3, by omega, by go_num, Lib.hid (by rw [List.length_set]; exact HZL.out), Lib.hid (by have := own_of_xt HX7.out HGZ.out; rw [List.length_set, HZL.out] at this; exact this), HB7⟩
        case measure => simp [intOf]; omega
      · obtain rfl : n = j := by omega
        have HX8 := Lib.hid (HX3.out.below HBZ.out)
        have HY8 := Lib.hid (HY3.out.below HBZ.out)
        have HZ8 : Hid (RdInts wr (.slice ac n cc) zs) := Lib.hid (rdInts_of_own (by rw [HZL.out]; exact HOZ.out))
        have HB8 := Lib.hid (HB3.out.trans (HBZ.out.mono HB3.out.size))
        clear HX3 HY3 HOZ HBZ HB3 HB6 HO6
        go_wp2_with fail
        refine (equalInts_any _ _ x y wr HX8.out HY8.out).mono ?_
        rintro e w9 ⟨rfl, b9⟩
        have HX9 := Lib.hid (HX8.out.below b9)
        have HY9 := Lib.hid (HY8.out.below b9)
        have HZ9 := Lib.hid (HZ8.out.below b9)
        have HB9 := Lib.hid (HB8.out.trans (b9.mono HB8.out.size))
        have hq1 : ((v == 0) == decide (x = y)) = true := by
          rw [← dst_iff HXY.out, ← HN.out, ← HV0.out]
          by_cases h0 : v = 0
          · subst h0; simp
          · simp [h0]
        clear b9 HX8 HY8 HZ8 HB8
        obtain ⟨eb, heb⟩ : ∃ eb, eb = decide (x = y) := ⟨_, rfl⟩
        rw [← heb] at hq1 ⊢
        clear heb
        go_wp2_with fail
        refine (iDst_any _ _ y x w9 HY9.out HX9.out).mono ?_
        rintro e w10 ⟨rfl, b10⟩
        have hsym : dstL y x = v := by rw [dst_ok HXY.out.symm, HV0.out, dstN_comm y x, ← HM.out]
        rw [hsym]
        have HX10 := Lib.hid (HX9.out.below b10)
        have HY10 := Lib.hid (HY9.out.below b10)
        have HZ10 := Lib.hid (HZ9.out.below b10)
        have HB10 := Lib.hid (HB9.out.trans (b10.mono HB9.out.size))
        clear b10 HX9 HY9 HZ9 HB9 hsym
        go_wp2_with fail
        refine (iDst_any _ _ x zs w10 HX10.out HZ10.out).mono ?_
        rintro e w11 ⟨rfl, b11⟩
        have HY11 := Lib.hid (HY10.out.below b11)
        have HZ11 := Lib.hid (HZ10.out.below b11)
        have HB11 := Lib.hid (HB10.out.trans (b11.mono HB10.out.size))
        have hlz : x.length = zs.length := by rw [HZL.out, HN.out]
        have hlz2 : zs.length = y.length := by rw [HZL.out, HM.out]
        rw [dst_ok hlz, ← HN.out]
        have HLZ2 := Lib.hid hlz2
        have ht1 := dstN_le x zs n
        have ht2 := dstN_le zs y n
        have ht3 := dstN_tri x y zs n
        have hvv2 := HV0.out
        generalize dstN x zs n = d1 at ht1 ht3 ⊢
        clear b11 HX10 HY10 HZ10 HB10 hlz hlz2
        go_wp2_with fail
        refine (iDst_any _ _ zs y w11 HZ11.out HY11.out).mono ?_
        rintro e w12 ⟨rfl, b12⟩
        have HB12 := Lib.hid (HB11.out.trans (b12.mono HB11.out.size))
        rw [dst_ok HLZ2.out, HZL.out]
        generalize dstN zs y n = d2 at ht2 ht3 ⊢
        have hle : v ≤ (d1 : Int) + (d2 : Int) := by omega
        clear b12 HB11 ht3 hvv2
        go_wp2
        go_ret
        exact ⟨ret_bool (decide_eq_true (by rw [← HV0.out]; exact hle)), HB12.out⟩
end Go.Proofs.Ytolfjkdkbiicmaa
