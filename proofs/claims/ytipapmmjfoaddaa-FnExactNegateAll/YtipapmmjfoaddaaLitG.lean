/- The reference's sorted union of two clauses. -/
import Derived.Test.YtipapmmjfoaddaaLitQ
namespace Go.Proofs.Ytipapmmjfoaddaa
open Go.ChangeShapes Go.WideShapes Go.ChangeAt Go.RowKit Go.Deep Go.Shelf
set_option linter.unusedVariables false
set_option linter.unusedSimpArgs false

/-- The activation inside the regions of mergeClauses. -/
def mcAct (z0 z1 z2 z3 z4 z5 z6 z7 z8 z9 z10 z11 z12 z13 z14 z15 z16 z17 z18 z19 z20 z21 z22 z23 z24 z25 z26 z27 z28 z29 z30 z31 z32 z33 z34 z35 z36 z37 z38 z39 z40 z41 z42 z43 z44 z45 z46 z47 z48 z49 z50 z51 z52 z53 z54 z55 z56 z57 z58 z59 z60 z61 z62 z63 z64 z65 z66 : Value) : Act := { tmps := #[z0, z1, z2, z3, z4, z5, z6, z7, z8, z9, z10, z11, z12, z13, z14, z15, z16, z17, z18, z19, z20, z21, z22, z23, z24, z25, z26, z27, z28, z29, z30, z31, z32, z33, z34, z35, z36, z37, z38, z39, z40, z41, z42, z43, z44, z45, z46, z47, z48, z49, z50, z51, z52, z53, z54, z55, z56, z57, z58, z59, z60, z61, z62, z63, z64, z65, z66], defers := [] }
theorem lss_true (w : World) (x y : Operand) (k n : Nat) (h : k < n) : (do eqGuard .lss 3 x y (.int .i64 k) (.int .i64 n); binOp .lss 3 (.int .i64 k) (.int .i64 n) : Sem Value).run Try.prog w = .ok (.bool true) w := by
  have h' : (k : Int) < n := by omega
  go_simp
theorem lss_self (w : World) (x y : Operand) (k : Nat) : (do eqGuard .lss 3 x y (.int .i64 k) (.int .i64 k); binOp .lss 3 (.int .i64 k) (.int .i64 k) : Sem Value).run Try.prog w = .ok (.bool false) w := by
  go_simp
set_option maxRecDepth 100000 in
theorem exec_lenL {w : World} {ev : Operand → Value} {o : Oper} {x : Operand} {a : Option Addr} {n c : Nat} (ho : o.op = .call { callee := .builtin .len, args := #[x], argTypes := #[36] }) (hx : ev x = .slice a n c) : (execOp ev o).run Try.prog w = .ok (.value (.int .i64 n)) w := by
  unfold execOp
  simp only [ho, resolve, invoke, builtin, Sem.run_bind, Sem.run_pure, Result.andThen_ok, List.map_toArray, List.map_cons, List.map_nil, hx]
  go_simp
set_option maxRecDepth 100000 in
theorem index0_lits (w : World) (b n c j : Nat) (hj : j < n) : (Instr.indexAt 36 (.slice (some ⟨b, 0, none⟩) n c) (.int .i64 j)).run Try.prog w = .ok (.pointer (some ⟨b, j * 3, none⟩)) w := by
  go_simp
/-- The literal l lies at o in block B. -/
def LitAt (B o : Nat) (l : Lit) (w : World) : Prop := w.cell? ⟨B, o, none⟩ = some (.int .i64 l.var) ∧ w.cell? ⟨B, o + 1, none⟩ = some (.int .i64 l.val) ∧ w.cell? ⟨B, o + 2, none⟩ = some (.bool l.neg)
theorem litAt_below {B o : Nat} {l : Lit} {w w' : World} (h : LitAt B o l w) (b : Below w.heap.size w w') : LitAt B o l w' :=
  ⟨(b.cell (World.block_lt_of_cell? w _ h.1)).trans h.1, (b.cell (World.block_lt_of_cell? w _ h.2.1)).trans h.2.1, (b.cell (World.block_lt_of_cell? w _ h.2.2)).trans h.2.2⟩

theorem OwnL.slice {w : World} {B : Nat} {v : Value} {ls : List Lit} (h : OwnL w B v ls) : ∃ g n c, v = .slice (some ⟨g, 0, none⟩) n c := by
  obtain ⟨_, g, c, e, _⟩ := h
  exact ⟨g, _, c, e⟩
theorem OwnL.mono {w : World} {B B' : Nat} {v : Value} {ls : List Lit} (h : OwnL w B v ls) (hB : B' ≤ B) : OwnL w B' v ls := by
  obtain ⟨⟨h0, h1⟩, g, c, e, h2, h3, h4, h5⟩ := h
  refine ⟨⟨h0, ?_⟩, g, c, e, h2, h3, by omega, h5⟩
  rcases h1 with h1 | ⟨g', cap, cur, e', t1, rest⟩
  · exact .inl h1
  · exact .inr ⟨g', cap, cur, e', by omega, rest⟩
/-- The place behind which b belongs. -/
def isPos (ls : List Lit) (b : Lit) (k : Nat) : Prop := k ≤ ls.length ∧ (∀ (j : Nat) (l : Lit), j < k → ls[j]? = some l → litLt l b = true) ∧ (∀ l, ls[k]? = some l → litLt l b = false)

theorem insL_le1 : ∀ (ls : List Lit) (b : Lit), (insL ls b).length ≤ ls.length + 1
  | [], b => Nat.le_refl _
  | a :: rest, b => by
    have := insL_le1 rest b
    unfold insL
    split
    · simp only [List.length_cons]; omega
    · split <;> simp only [List.length_cons] <;> omega
theorem mrgL_leA : ∀ (bs out : List Lit), (mrgL out bs).length ≤ out.length + bs.length
  | [], out => Nat.le_refl _
  | b :: bs, out => by
    have h1 := mrgL_leA bs (insL out b)
    have h2 := insL_le1 out b
    show (mrgL (insL out b) bs).length ≤ _
    rw [List.length_cons]
    omega

set_option maxRecDepth 100000 in
set_option maxHeartbeats 32000000 in
theorem smerge_gen (av bv : Value) (la lb : List Lit) (w : World) (ha : RdLits w av la) (hb : RdLits w bv lb) (h12 : la.length ≤ 1000) (h13 : lb.length ≤ 1000) :
    Calls Try.prog 65 #[av, bv] w (LitsPost (mrgL la lb) w) := by
  unfold LitsPost
  have HA := Lib.hid ha
  have HB := Lib.hid hb
  obtain ⟨a, ca, ea, ha1, ha2, _⟩ := ha
  obtain ⟨bA, cb, eb, hb1, hb2, _⟩ := hb
  obtain ⟨m, hm'⟩ : ∃ m, m = lb.length := ⟨_, rfl⟩
  have HM := Lib.hid hm'
  rw [ea] at HA ⊢
  rw [eb] at HB ⊢
  rw [← hm'] at hb1 HB h13 ⊢
  unfold maxLen at ha2 hb2
  have h12' := h12
  clear hm' ea eb
  go_enter Try.func65, Try.ntmps65
  go_wp2_with (at_builtin; refine wpList_append_lits rfl _ _ rfl w.heap.size _ _ [] la rfl rfl (ownL_new w w.heap.size (Nat.le_refl _)) (HA.out.below (below1 _ _)) (by simp) (by simp) (by omega) ?_; intro v1 w1 own1 grow1)
  have b1 : Below w.heap.size w w1 := (below1 _ _).grown grow1 (by simp) (fun q e => Nat.le_of_eq (Option.some.inj e))
  have HO1 : Hid (OwnL w1 w.heap.size v1 (mrgL la (lb.take 0))) := Lib.hid own1
  have HB1 := Lib.hid b1
  clear own1 grow1 b1
  go_wp2_with fail
  go_loopw [5, 6] (fun q i wr => ∃ k : Nat, k ≤ m ∧ i = .int .i64 k ∧ Hid (OwnL wr w.heap.size q (mrgL la (lb.take k))) ∧ Hid (Below w.heap.size w wr)) (fun _ i _ => m - (intOf i).toNat)
  case atStart => exact ⟨0, Nat.zero_le _, rfl, HO1, HB1⟩
  case round =>
    rename_i vo _
    obtain ⟨i, hi, rfl, HO, HBW⟩ := hrel
    by_cases him : i < m
    · obtain ⟨bb, bo, b, rfl, hbi, k0, k1, k2⟩ := rdLits_at (HB.out.below HBW.out) him
      obtain ⟨outL, hout⟩ : ∃ outL, outL = mrgL la (lb.take i) := ⟨_, rfl⟩
      rw [← hout] at HO
      obtain ⟨n, hn⟩ : ∃ n, n = outL.length := ⟨_, rfl⟩
      have hn1000 : n ≤ 2000 := by
        have h1 := mrgL_leA (lb.take i) la
        rw [← hout, ← hn] at h1
        have : (lb.take i).length ≤ i := by simp; omega
        omega
      have HNX : Hid (mrgL la (lb.take (i + 1)) = insL outL b) := Lib.hid (by rw [mrgL_snoc _ _ _ _ hbi, ← hout])
      obtain ⟨_, g, c, evo, hnc, hcm, _⟩ := HO.out
      rw [evo] at HO ⊢
      rw [← hn] at hnc HO ⊢
      have HN := Lib.hid hn
      have HLEN : Hid (outL.length ≤ 2000) := Lib.hid (by rw [← hn]; exact hn1000)
      obtain ⟨W0, hW0⟩ : ∃ W0 : World, W0 = wr := ⟨wr, rfl⟩
      subst hW0
      clear hbi hout hn evo
      go_wp2_with fail
      go_loopw [7] (fun q wr2 => ∃ k : Nat, k ≤ n ∧ q = .int .i64 k ∧ Hid (∀ (j : Nat) (l : Lit), j < k → outL[j]? = some l → litLt l b = true) ∧ Hid (Below W0.heap.size W0 wr2)) (fun q _ => n - (intOf q).toNat)
      case atStart => exact ⟨0, Nat.zero_le _, rfl, Lib.hid (fun j l hj => by omega), Lib.hid (Below.refl _ _)⟩
      case round =>
        obtain ⟨k, hk, rfl, HJ, HB2⟩ := hrel
        have HO2 := Lib.hid (HO.out.below HB2.out)
        by_cases hkn : k < n
        · obtain ⟨o, hok⟩ : ∃ o, outL[k]? = some o := ⟨_, List.getElem?_eq_getElem (by rw [← HN.out]; exact hkn)⟩
          obtain ⟨m0, m1, m2⟩ := HO2.out.cells hok
          have kk := litAt_below (l := b) (o := bo + i * 3) ⟨k0, k1, k2⟩ HB2.out
          obtain ⟨l0, l1, l2⟩ := kk
          have HOK := Lib.hid hok
          have HL := Lib.hid (literalLess_any o b wr.drew)
          have HB2D := Lib.hid HB2.out.drew
          have hd : decide (k < n) = true := decide_eq_true hkn
          have hi1 : (0 : Int) ≤ (i : Int) := by omega
          have hi2 : (i : Int) < (m : Int) := by omega
          clear hok
          cases h5 : litLt o b
          · rw [h5] at HL
            have hkn' : k ≤ n := hk
            have HPK : Hid (∀ l, outL[k]? = some l → litLt l b = false) := Lib.hid (fun l hl => by rw [HOK.out] at hl; obtain rfl := Option.some.inj hl; exact h5)
            clear h5
            go_wp2_with fail
            go_region_held3 (fun w' => w'.cell? ⟨bb, bo + i * 3, none⟩ = some (.int .i64 b.var) ∧ w'.cell? ⟨bb, bo + i * 3 + 1, none⟩ = some (.int .i64 b.val) ∧ w'.cell? ⟨bb, bo + i * 3 + 2, none⟩ = some (.bool b.neg) ∧ w'.cell? ⟨g, k * 3, none⟩ = some (.int .i64 o.var) ∧ w'.cell? ⟨g, k * 3 + 1, none⟩ = some (.int .i64 o.val) ∧ w'.cell? ⟨g, k * 3 + 2, none⟩ = some (.bool o.neg)) (first | exact ⟨l0, l1, l2, m0, m1, m2⟩ | exact ⟨e0, e1, e2, e3, e4, e5⟩) (first | (go_at_call 91; refine HL.out.mono ?_; rintro e w9 ⟨rfl, b9⟩; have B9 := Lib.hid (HB2D.out.trans (b9.mono HB2D.out.size)); have e0 := (b9.cell (World.block_lt_of_cell? wr.drew _ l0)).trans l0; have e1 := (b9.cell (World.block_lt_of_cell? wr.drew _ l1)).trans l1; have e2 := (b9.cell (World.block_lt_of_cell? wr.drew _ l2)).trans l2; have e3 := (b9.cell (World.block_lt_of_cell? wr.drew _ m0)).trans m0; have e4 := (b9.cell (World.block_lt_of_cell? wr.drew _ m1)).trans m1; have e5 := (b9.cell (World.block_lt_of_cell? wr.drew _ m2)).trans m2; clear b9))
            all_goals go_wp2_with fail
            have B9 := B9.out
            obtain ⟨W, hW⟩ : ∃ W, W = w9 := ⟨_, rfl⟩
            subst hW
            have HSX : Hid (LitAt g (k * 3) o W ∧ LitAt bb (bo + i * 3) b W) := Lib.hid ⟨⟨e3, e4, e5⟩, ⟨e0, e1, e2⟩⟩
            clear e0 e1 e2 e3 e4 e5 m0 m1 m2 l0 l1 l2 HL
            have hS : LitAt g (k * 3) o W.drew ∧ LitAt bb (bo + i * 3) b W.drew := HSX.out
            by_cases hob : o = b
            · have HEQ : Hid (∀ (w' : World) (x y : Operand), (do eqGuard .eql 64 x y (.agg #[.int .i64 o.var, .int .i64 o.val, .bool o.neg]) (.agg #[.int .i64 b.var, .int .i64 b.val, .bool b.neg]); binOp .eql 64 (.agg #[.int .i64 o.var, .int .i64 o.val, .bool o.neg]) (.agg #[.int .i64 b.var, .int .i64 b.val, .bool b.neg]) : Sem Value).run Try.prog w' = .ok (.bool true) w') := Lib.hid (fun w' x y => by rw [eql_lit, decide_eq_true hob])
              have HF11 : Hid (OwnL W w.heap.size (.slice (some ⟨g, 0, none⟩) n c) (mrgL la (lb.take (i + 1)))) := Lib.hid (by
                rw [HNX.out, insL_pos b outL k (by rw [← HN.out]; exact hkn') HJ.out HPK.out, if_pos (by rw [HOK.out, hob])]
                exact HO.out.below B9)
              have HB11 := Lib.hid (HBW.out.trans (B9.mono HBW.out.size))
              clear hob
              refine region_x (fun w' => LitAt g (k * 3) o w' ∧ LitAt bb (bo + i * 3) b w') (fun _ => false) rfl ?_
              change wpAnyX Try.prog .any _ _ _ _ 15 _ (mcAct _ _ _ _ _ _ _ _ _ _ _ _ _ _ _ _ _ _ _ _ _ _ _ _ _ _ _ _ _ _ _ _ _ _ _ _ _ _ _ _ _ _ _ _ _ _ _ _ _ _ _ _ _ _ _ _ _ _ _ _ _ _ _ _ _ _ _) W.drew
              refine wpAnyX_take (i := 0) (v := .int .i64 k) rfl (by kernel_rfl) (by kernel_rfl) (by kernel_rfl) (by kernel_rfl) (fun _ _ _ h => h) (.inl ⟨rfl, fun w' hw' => rfl⟩) hS ?_
              change wpAnyX Try.prog .any _ _ _ _ 14 _ (mcAct _ _ _ _ _ _ _ _ _ _ _ _ _ _ _ _ _ _ _ _ _ _ _ _ _ _ _ _ _ _ _ _ _ _ _ (.int .i64 k) _ _ _ _ _ _ _ _ _ _ _ _ _ _ _ _ _ _ _ _ _ _ _ _ _ _ _ _ _ _ _) W.drew
              refine wpAnyX_take (i := 1) (v := .slice (some ⟨g, 0, none⟩) n c) rfl (by kernel_rfl) (by kernel_rfl) (by kernel_rfl) (by kernel_rfl) (fun _ _ _ h => h) (.inl ⟨rfl, fun w' hw' => rfl⟩) hS ?_
              change wpAnyX Try.prog .any _ _ _ _ 13 _ (mcAct _ _ _ _ _ _ _ _ _ _ _ _ _ _ _ _ _ _ _ _ _ _ _ _ _ _ _ _ _ _ _ _ _ _ _ (.int .i64 k) (.slice (some ⟨g, 0, none⟩) n c) _ _ _ _ _ _ _ _ _ _ _ _ _ _ _ _ _ _ _ _ _ _ _ _ _ _ _ _ _ _) W.drew
              refine wpAnyX_take (i := 2) (v := .int .i64 n) rfl (by kernel_rfl) (by kernel_rfl) (by kernel_rfl) (by kernel_rfl) (fun _ _ _ h => h) (.inl ⟨rfl, fun w' hw' => exec_lenL rfl rfl⟩) hS ?_
              change wpAnyX Try.prog .any _ _ _ _ 12 _ (mcAct _ _ _ _ _ _ _ _ _ _ _ _ _ _ _ _ _ _ _ _ _ _ _ _ _ _ _ _ _ _ _ _ _ _ _ (.int .i64 k) (.slice (some ⟨g, 0, none⟩) n c) (.int .i64 n) _ _ _ _ _ _ _ _ _ _ _ _ _ _ _ _ _ _ _ _ _ _ _ _ _ _ _ _ _) W.drew
              refine wpAnyX_take (i := 3) (v := .bool true) rfl (by kernel_rfl) (by kernel_rfl) (by kernel_rfl) (by kernel_rfl) (fun _ _ _ h => h) (.inl ⟨rfl, fun w' hw' => exec_bin rfl rfl rfl (lss_true w' _ _ _ _ hkn)⟩) hS ?_
              change wpAnyX Try.prog .any _ _ _ _ 11 _ (mcAct _ _ _ _ _ _ _ _ _ _ _ _ _ _ _ _ _ _ _ _ _ _ _ _ _ _ _ _ _ _ _ _ _ _ _ (.int .i64 k) (.slice (some ⟨g, 0, none⟩) n c) (.int .i64 n) (.bool true) _ _ _ _ _ _ _ _ _ _ _ _ _ _ _ _ _ _ _ _ _ _ _ _ _ _ _ _) W.drew
              refine wpAnyX_take (i := 4) (v := .bool true) rfl (by kernel_rfl) (by kernel_rfl) (by kernel_rfl) (by kernel_rfl) (fun _ _ _ h => h) (.inl ⟨rfl, fun w' hw' => rfl⟩) hS ?_
              change wpAnyX Try.prog .any _ _ _ _ 10 _ (mcAct _ _ _ _ _ _ _ _ _ _ _ _ _ _ _ _ _ _ _ _ _ _ _ _ _ _ _ _ _ _ _ _ _ _ _ (.int .i64 k) (.slice (some ⟨g, 0, none⟩) n c) (.int .i64 n) (.bool true) (.bool true) _ _ _ _ _ _ _ _ _ _ _ _ _ _ _ _ _ _ _ _ _ _ _ _ _ _ _) W.drew
              refine wpAnyX_take (i := 5) (v := .slice (some ⟨g, 0, none⟩) n c) rfl (by kernel_rfl) (by kernel_rfl) (by kernel_rfl) (by kernel_rfl) (fun _ _ _ h => h) (.inl ⟨rfl, fun w' hw' => rfl⟩) hS ?_
              change wpAnyX Try.prog .any _ _ _ _ 9 _ (mcAct _ _ _ _ _ _ _ _ _ _ _ _ _ _ _ _ _ _ _ _ _ _ _ _ _ _ _ _ _ _ _ _ _ _ _ (.int .i64 k) (.slice (some ⟨g, 0, none⟩) n c) (.int .i64 n) (.bool true) (.bool true) (.slice (some ⟨g, 0, none⟩) n c) _ _ _ _ _ _ _ _ _ _ _ _ _ _ _ _ _ _ _ _ _ _ _ _ _ _) W.drew
              refine wpAnyX_take (i := 6) (v := .int .i64 k) rfl (by kernel_rfl) (by kernel_rfl) (by kernel_rfl) (by kernel_rfl) (fun _ _ _ h => h) (.inl ⟨rfl, fun w' hw' => rfl⟩) hS ?_
              change wpAnyX Try.prog .any _ _ _ _ 8 _ (mcAct _ _ _ _ _ _ _ _ _ _ _ _ _ _ _ _ _ _ _ _ _ _ _ _ _ _ _ _ _ _ _ _ _ _ _ (.int .i64 k) (.slice (some ⟨g, 0, none⟩) n c) (.int .i64 n) (.bool true) (.bool true) (.slice (some ⟨g, 0, none⟩) n c) (.int .i64 k) _ _ _ _ _ _ _ _ _ _ _ _ _ _ _ _ _ _ _ _ _ _ _ _ _) W.drew
              refine wpAnyX_take (i := 7) (v := .pointer (some ⟨g, k * 3, none⟩)) rfl (by kernel_rfl) (by kernel_rfl) (by kernel_rfl) (by kernel_rfl) (fun _ _ _ h => h) (.inl ⟨rfl, fun w' hw' => exec_index rfl rfl rfl (index0_lits w' _ _ _ _ hkn)⟩) hS ?_
              change wpAnyX Try.prog .any _ _ _ _ 7 _ (mcAct _ _ _ _ _ _ _ _ _ _ _ _ _ _ _ _ _ _ _ _ _ _ _ _ _ _ _ _ _ _ _ _ _ _ _ (.int .i64 k) (.slice (some ⟨g, 0, none⟩) n c) (.int .i64 n) (.bool true) (.bool true) (.slice (some ⟨g, 0, none⟩) n c) (.int .i64 k) (.pointer (some ⟨g, k * 3, none⟩)) _ _ _ _ _ _ _ _ _ _ _ _ _ _ _ _ _ _ _ _ _ _ _ _) W.drew
              refine wpAnyX_take (i := 8) (v := .agg #[.int .i64 o.var, .int .i64 o.val, .bool o.neg]) rfl (by kernel_rfl) (by kernel_rfl) (by kernel_rfl) (by kernel_rfl) (fun _ _ _ h => h) (.inl ⟨rfl, fun w' hw' => exec_load rfl rfl (load_litO w' _ _ _ _ _ hw'.1.1 hw'.1.2.1 hw'.1.2.2)⟩) hS ?_
              change wpAnyX Try.prog .any _ _ _ _ 6 _ (mcAct _ _ _ _ _ _ _ _ _ _ _ _ _ _ _ _ _ _ _ _ _ _ _ _ _ _ _ _ _ _ _ _ _ _ _ (.int .i64 k) (.slice (some ⟨g, 0, none⟩) n c) (.int .i64 n) (.bool true) (.bool true) (.slice (some ⟨g, 0, none⟩) n c) (.int .i64 k) (.pointer (some ⟨g, k * 3, none⟩)) (.agg #[.int .i64 o.var, .int .i64 o.val, .bool o.neg]) _ _ _ _ _ _ _ _ _ _ _ _ _ _ _ _ _ _ _ _ _ _ _) W.drew
              refine wpAnyX_take (i := 9) (v := .slice (some ⟨bb, bo, none⟩) m cb) rfl (by kernel_rfl) (by kernel_rfl) (by kernel_rfl) (by kernel_rfl) (fun _ _ _ h => h) (.inl ⟨rfl, fun w' hw' => rfl⟩) hS ?_
              change wpAnyX Try.prog .any _ _ _ _ 5 _ (mcAct _ _ _ _ _ _ _ _ _ _ _ _ _ _ _ _ _ _ _ _ _ _ _ _ _ _ _ _ _ _ _ _ _ _ _ (.int .i64 k) (.slice (some ⟨g, 0, none⟩) n c) (.int .i64 n) (.bool true) (.bool true) (.slice (some ⟨g, 0, none⟩) n c) (.int .i64 k) (.pointer (some ⟨g, k * 3, none⟩)) (.agg #[.int .i64 o.var, .int .i64 o.val, .bool o.neg]) (.slice (some ⟨bb, bo, none⟩) m cb) _ _ _ _ _ _ _ _ _ _ _ _ _ _ _ _ _ _ _ _ _ _) W.drew
              refine wpAnyX_take (i := 10) (v := .int .i64 i) rfl (by kernel_rfl) (by kernel_rfl) (by kernel_rfl) (by kernel_rfl) (fun _ _ _ h => h) (.inl ⟨rfl, fun w' hw' => rfl⟩) hS ?_
              change wpAnyX Try.prog .any _ _ _ _ 4 _ (mcAct _ _ _ _ _ _ _ _ _ _ _ _ _ _ _ _ _ _ _ _ _ _ _ _ _ _ _ _ _ _ _ _ _ _ _ (.int .i64 k) (.slice (some ⟨g, 0, none⟩) n c) (.int .i64 n) (.bool true) (.bool true) (.slice (some ⟨g, 0, none⟩) n c) (.int .i64 k) (.pointer (some ⟨g, k * 3, none⟩)) (.agg #[.int .i64 o.var, .int .i64 o.val, .bool o.neg]) (.slice (some ⟨bb, bo, none⟩) m cb) (.int .i64 i) _ _ _ _ _ _ _ _ _ _ _ _ _ _ _ _ _ _ _ _ _) W.drew
              refine wpAnyX_take (i := 11) (v := .pointer (some ⟨bb, bo + i * 3, none⟩)) rfl (by kernel_rfl) (by kernel_rfl) (by kernel_rfl) (by kernel_rfl) (fun _ _ _ h => h) (.inl ⟨rfl, fun w' hw' => exec_index rfl rfl rfl (index_lits w' _ _ _ _ _ him)⟩) hS ?_
              change wpAnyX Try.prog .any _ _ _ _ 3 _ (mcAct _ _ _ _ _ _ _ _ _ _ _ _ _ _ _ _ _ _ _ _ _ _ _ _ _ _ _ _ _ _ _ _ _ _ _ (.int .i64 k) (.slice (some ⟨g, 0, none⟩) n c) (.int .i64 n) (.bool true) (.bool true) (.slice (some ⟨g, 0, none⟩) n c) (.int .i64 k) (.pointer (some ⟨g, k * 3, none⟩)) (.agg #[.int .i64 o.var, .int .i64 o.val, .bool o.neg]) (.slice (some ⟨bb, bo, none⟩) m cb) (.int .i64 i) (.pointer (some ⟨bb, bo + i * 3, none⟩)) _ _ _ _ _ _ _ _ _ _ _ _ _ _ _ _ _ _ _ _) W.drew
              refine wpAnyX_take (i := 12) (v := .agg #[.int .i64 b.var, .int .i64 b.val, .bool b.neg]) rfl (by kernel_rfl) (by kernel_rfl) (by kernel_rfl) (by kernel_rfl) (fun _ _ _ h => h) (.inl ⟨rfl, fun w' hw' => exec_load rfl rfl (load_litO w' _ _ _ _ _ hw'.2.1 hw'.2.2.1 hw'.2.2.2)⟩) hS ?_
              change wpAnyX Try.prog .any _ _ _ _ 2 _ (mcAct _ _ _ _ _ _ _ _ _ _ _ _ _ _ _ _ _ _ _ _ _ _ _ _ _ _ _ _ _ _ _ _ _ _ _ (.int .i64 k) (.slice (some ⟨g, 0, none⟩) n c) (.int .i64 n) (.bool true) (.bool true) (.slice (some ⟨g, 0, none⟩) n c) (.int .i64 k) (.pointer (some ⟨g, k * 3, none⟩)) (.agg #[.int .i64 o.var, .int .i64 o.val, .bool o.neg]) (.slice (some ⟨bb, bo, none⟩) m cb) (.int .i64 i) (.pointer (some ⟨bb, bo + i * 3, none⟩)) (.agg #[.int .i64 b.var, .int .i64 b.val, .bool b.neg]) _ _ _ _ _ _ _ _ _ _ _ _ _ _ _ _ _ _ _) W.drew
              refine wpAnyX_take (i := 13) (v := .bool true) rfl (by kernel_rfl) (by kernel_rfl) (by kernel_rfl) (by kernel_rfl) (fun _ _ _ h => h) (.inl ⟨rfl, fun w' hw' => exec_bin rfl rfl rfl (HEQ.out w' _ _)⟩) hS ?_
              change wpAnyX Try.prog .any _ _ _ _ 1 _ (mcAct _ _ _ _ _ _ _ _ _ _ _ _ _ _ _ _ _ _ _ _ _ _ _ _ _ _ _ _ _ _ _ _ _ _ _ (.int .i64 k) (.slice (some ⟨g, 0, none⟩) n c) (.int .i64 n) (.bool true) (.bool true) (.slice (some ⟨g, 0, none⟩) n c) (.int .i64 k) (.pointer (some ⟨g, k * 3, none⟩)) (.agg #[.int .i64 o.var, .int .i64 o.val, .bool o.neg]) (.slice (some ⟨bb, bo, none⟩) m cb) (.int .i64 i) (.pointer (some ⟨bb, bo + i * 3, none⟩)) (.agg #[.int .i64 b.var, .int .i64 b.val, .bool b.neg]) (.bool true) _ _ _ _ _ _ _ _ _ _ _ _ _ _ _ _ _ _) W.drew
              refine wpAnyX_take (i := 14) (v := .bool true) rfl (by kernel_rfl) (by kernel_rfl) (by kernel_rfl) (by kernel_rfl) (fun _ _ _ h => h) (.inl ⟨rfl, fun w' hw' => rfl⟩) hS ?_
              change wpAnyX Try.prog .any _ _ _ _ 0 _ (mcAct _ _ _ _ _ _ _ _ _ _ _ _ _ _ _ _ _ _ _ _ _ _ _ _ _ _ _ _ _ _ _ _ _ _ _ (.int .i64 k) (.slice (some ⟨g, 0, none⟩) n c) (.int .i64 n) (.bool true) (.bool true) (.slice (some ⟨g, 0, none⟩) n c) (.int .i64 k) (.pointer (some ⟨g, k * 3, none⟩)) (.agg #[.int .i64 o.var, .int .i64 o.val, .bool o.neg]) (.slice (some ⟨bb, bo, none⟩) m cb) (.int .i64 i) (.pointer (some ⟨bb, bo + i * 3, none⟩)) (.agg #[.int .i64 b.var, .int .i64 b.val, .bool b.neg]) (.bool true) (.bool true) _ _ _ _ _ _ _ _ _ _ _ _ _ _ _ _ _) W.drew
              refine wpAnyX_done (by kernel_rfl) ?_ _
              unfold mcAct
              go_wp2
              go_roundw
              all_goals first
                | exact ⟨i + 1, by omega, by go_num, Lib.hid (HF11.out.below (Below.refl _ _).drew), Lib.hid HB11.out.drew⟩
                | (simp [intOf]; omega)
            · have HEQ : Hid (∀ (w' : World) (x y : Operand), (do eqGuard .eql 64 x y (.agg #[.int .i64 o.var, .int .i64 o.val, .bool o.neg]) (.agg #[.int .i64 b.var, .int .i64 b.val, .bool b.neg]); binOp .eql 64 (.agg #[.int .i64 o.var, .int .i64 o.val, .bool o.neg]) (.agg #[.int .i64 b.var, .int .i64 b.val, .bool b.neg]) : Sem Value).run Try.prog w' = .ok (.bool false) w') := Lib.hid (fun w' x y => by rw [eql_lit, decide_eq_false hob])
              have HNB : Hid (¬ outL[k]? = some b) := Lib.hid (by rw [HOK.out]; exact fun e => hob (Option.some.inj e))
              have HB9' := Lib.hid B9
              clear hob B9
              refine region_x (fun w' => LitAt g (k * 3) o w' ∧ LitAt bb (bo + i * 3) b w') (fun _ => false) rfl ?_
              change wpAnyX Try.prog .any _ _ _ _ 15 _ (mcAct _ _ _ _ _ _ _ _ _ _ _ _ _ _ _ _ _ _ _ _ _ _ _ _ _ _ _ _ _ _ _ _ _ _ _ _ _ _ _ _ _ _ _ _ _ _ _ _ _ _ _ _ _ _ _ _ _ _ _ _ _ _ _ _ _ _ _) W.drew
              refine wpAnyX_take (i := 0) (v := .int .i64 k) rfl (by kernel_rfl) (by kernel_rfl) (by kernel_rfl) (by kernel_rfl) (fun _ _ _ h => h) (.inl ⟨rfl, fun w' hw' => rfl⟩) hS ?_
              change wpAnyX Try.prog .any _ _ _ _ 14 _ (mcAct _ _ _ _ _ _ _ _ _ _ _ _ _ _ _ _ _ _ _ _ _ _ _ _ _ _ _ _ _ _ _ _ _ _ _ (.int .i64 k) _ _ _ _ _ _ _ _ _ _ _ _ _ _ _ _ _ _ _ _ _ _ _ _ _ _ _ _ _ _ _) W.drew
              refine wpAnyX_take (i := 1) (v := .slice (some ⟨g, 0, none⟩) n c) rfl (by kernel_rfl) (by kernel_rfl) (by kernel_rfl) (by kernel_rfl) (fun _ _ _ h => h) (.inl ⟨rfl, fun w' hw' => rfl⟩) hS ?_
              change wpAnyX Try.prog .any _ _ _ _ 13 _ (mcAct _ _ _ _ _ _ _ _ _ _ _ _ _ _ _ _ _ _ _ _ _ _ _ _ _ _ _ _ _ _ _ _ _ _ _ (.int .i64 k) (.slice (some ⟨g, 0, none⟩) n c) _ _ _ _ _ _ _ _ _ _ _ _ _ _ _ _ _ _ _ _ _ _ _ _ _ _ _ _ _ _) W.drew
              refine wpAnyX_take (i := 2) (v := .int .i64 n) rfl (by kernel_rfl) (by kernel_rfl) (by kernel_rfl) (by kernel_rfl) (fun _ _ _ h => h) (.inl ⟨rfl, fun w' hw' => exec_lenL rfl rfl⟩) hS ?_
              change wpAnyX Try.prog .any _ _ _ _ 12 _ (mcAct _ _ _ _ _ _ _ _ _ _ _ _ _ _ _ _ _ _ _ _ _ _ _ _ _ _ _ _ _ _ _ _ _ _ _ (.int .i64 k) (.slice (some ⟨g, 0, none⟩) n c) (.int .i64 n) _ _ _ _ _ _ _ _ _ _ _ _ _ _ _ _ _ _ _ _ _ _ _ _ _ _ _ _ _) W.drew
              refine wpAnyX_take (i := 3) (v := .bool true) rfl (by kernel_rfl) (by kernel_rfl) (by kernel_rfl) (by kernel_rfl) (fun _ _ _ h => h) (.inl ⟨rfl, fun w' hw' => exec_bin rfl rfl rfl (lss_true w' _ _ _ _ hkn)⟩) hS ?_
              change wpAnyX Try.prog .any _ _ _ _ 11 _ (mcAct _ _ _ _ _ _ _ _ _ _ _ _ _ _ _ _ _ _ _ _ _ _ _ _ _ _ _ _ _ _ _ _ _ _ _ (.int .i64 k) (.slice (some ⟨g, 0, none⟩) n c) (.int .i64 n) (.bool true) _ _ _ _ _ _ _ _ _ _ _ _ _ _ _ _ _ _ _ _ _ _ _ _ _ _ _ _) W.drew
              refine wpAnyX_take (i := 4) (v := .bool true) rfl (by kernel_rfl) (by kernel_rfl) (by kernel_rfl) (by kernel_rfl) (fun _ _ _ h => h) (.inl ⟨rfl, fun w' hw' => rfl⟩) hS ?_
              change wpAnyX Try.prog .any _ _ _ _ 10 _ (mcAct _ _ _ _ _ _ _ _ _ _ _ _ _ _ _ _ _ _ _ _ _ _ _ _ _ _ _ _ _ _ _ _ _ _ _ (.int .i64 k) (.slice (some ⟨g, 0, none⟩) n c) (.int .i64 n) (.bool true) (.bool true) _ _ _ _ _ _ _ _ _ _ _ _ _ _ _ _ _ _ _ _ _ _ _ _ _ _ _) W.drew
              refine wpAnyX_take (i := 5) (v := .slice (some ⟨g, 0, none⟩) n c) rfl (by kernel_rfl) (by kernel_rfl) (by kernel_rfl) (by kernel_rfl) (fun _ _ _ h => h) (.inl ⟨rfl, fun w' hw' => rfl⟩) hS ?_
              change wpAnyX Try.prog .any _ _ _ _ 9 _ (mcAct _ _ _ _ _ _ _ _ _ _ _ _ _ _ _ _ _ _ _ _ _ _ _ _ _ _ _ _ _ _ _ _ _ _ _ (.int .i64 k) (.slice (some ⟨g, 0, none⟩) n c) (.int .i64 n) (.bool true) (.bool true) (.slice (some ⟨g, 0, none⟩) n c) _ _ _ _ _ _ _ _ _ _ _ _ _ _ _ _ _ _ _ _ _ _ _ _ _ _) W.drew
              refine wpAnyX_take (i := 6) (v := .int .i64 k) rfl (by kernel_rfl) (by kernel_rfl) (by kernel_rfl) (by kernel_rfl) (fun _ _ _ h => h) (.inl ⟨rfl, fun w' hw' => rfl⟩) hS ?_
              change wpAnyX Try.prog .any _ _ _ _ 8 _ (mcAct _ _ _ _ _ _ _ _ _ _ _ _ _ _ _ _ _ _ _ _ _ _ _ _ _ _ _ _ _ _ _ _ _ _ _ (.int .i64 k) (.slice (some ⟨g, 0, none⟩) n c) (.int .i64 n) (.bool true) (.bool true) (.slice (some ⟨g, 0, none⟩) n c) (.int .i64 k) _ _ _ _ _ _ _ _ _ _ _ _ _ _ _ _ _ _ _ _ _ _ _ _ _) W.drew
              refine wpAnyX_take (i := 7) (v := .pointer (some ⟨g, k * 3, none⟩)) rfl (by kernel_rfl) (by kernel_rfl) (by kernel_rfl) (by kernel_rfl) (fun _ _ _ h => h) (.inl ⟨rfl, fun w' hw' => exec_index rfl rfl rfl (index0_lits w' _ _ _ _ hkn)⟩) hS ?_
              change wpAnyX Try.prog .any _ _ _ _ 7 _ (mcAct _ _ _ _ _ _ _ _ _ _ _ _ _ _ _ _ _ _ _ _ _ _ _ _ _ _ _ _ _ _ _ _ _ _ _ (.int .i64 k) (.slice (some ⟨g, 0, none⟩) n c) (.int .i64 n) (.bool true) (.bool true) (.slice (some ⟨g, 0, none⟩) n c) (.int .i64 k) (.pointer (some ⟨g, k * 3, none⟩)) _ _ _ _ _ _ _ _ _ _ _ _ _ _ _ _ _ _ _ _ _ _ _ _) W.drew
              refine wpAnyX_take (i := 8) (v := .agg #[.int .i64 o.var, .int .i64 o.val, .bool o.neg]) rfl (by kernel_rfl) (by kernel_rfl) (by kernel_rfl) (by kernel_rfl) (fun _ _ _ h => h) (.inl ⟨rfl, fun w' hw' => exec_load rfl rfl (load_litO w' _ _ _ _ _ hw'.1.1 hw'.1.2.1 hw'.1.2.2)⟩) hS ?_
              change wpAnyX Try.prog .any _ _ _ _ 6 _ (mcAct _ _ _ _ _ _ _ _ _ _ _ _ _ _ _ _ _ _ _ _ _ _ _ _ _ _ _ _ _ _ _ _ _ _ _ (.int .i64 k) (.slice (some ⟨g, 0, none⟩) n c) (.int .i64 n) (.bool true) (.bool true) (.slice (some ⟨g, 0, none⟩) n c) (.int .i64 k) (.pointer (some ⟨g, k * 3, none⟩)) (.agg #[.int .i64 o.var, .int .i64 o.val, .bool o.neg]) _ _ _ _ _ _ _ _ _ _ _ _ _ _ _ _ _ _ _ _ _ _ _) W.drew
              refine wpAnyX_take (i := 9) (v := .slice (some ⟨bb, bo, none⟩) m cb) rfl (by kernel_rfl) (by kernel_rfl) (by kernel_rfl) (by kernel_rfl) (fun _ _ _ h => h) (.inl ⟨rfl, fun w' hw' => rfl⟩) hS ?_
              change wpAnyX Try.prog .any _ _ _ _ 5 _ (mcAct _ _ _ _ _ _ _ _ _ _ _ _ _ _ _ _ _ _ _ _ _ _ _ _ _ _ _ _ _ _ _ _ _ _ _ (.int .i64 k) (.slice (some ⟨g, 0, none⟩) n c) (.int .i64 n) (.bool true) (.bool true) (.slice (some ⟨g, 0, none⟩) n c) (.int .i64 k) (.pointer (some ⟨g, k * 3, none⟩)) (.agg #[.int .i64 o.var, .int .i64 o.val, .bool o.neg]) (.slice (some ⟨bb, bo, none⟩) m cb) _ _ _ _ _ _ _ _ _ _ _ _ _ _ _ _ _ _ _ _ _ _) W.drew
              refine wpAnyX_take (i := 10) (v := .int .i64 i) rfl (by kernel_rfl) (by kernel_rfl) (by kernel_rfl) (by kernel_rfl) (fun _ _ _ h => h) (.inl ⟨rfl, fun w' hw' => rfl⟩) hS ?_
              change wpAnyX Try.prog .any _ _ _ _ 4 _ (mcAct _ _ _ _ _ _ _ _ _ _ _ _ _ _ _ _ _ _ _ _ _ _ _ _ _ _ _ _ _ _ _ _ _ _ _ (.int .i64 k) (.slice (some ⟨g, 0, none⟩) n c) (.int .i64 n) (.bool true) (.bool true) (.slice (some ⟨g, 0, none⟩) n c) (.int .i64 k) (.pointer (some ⟨g, k * 3, none⟩)) (.agg #[.int .i64 o.var, .int .i64 o.val, .bool o.neg]) (.slice (some ⟨bb, bo, none⟩) m cb) (.int .i64 i) _ _ _ _ _ _ _ _ _ _ _ _ _ _ _ _ _ _ _ _ _) W.drew
              refine wpAnyX_take (i := 11) (v := .pointer (some ⟨bb, bo + i * 3, none⟩)) rfl (by kernel_rfl) (by kernel_rfl) (by kernel_rfl) (by kernel_rfl) (fun _ _ _ h => h) (.inl ⟨rfl, fun w' hw' => exec_index rfl rfl rfl (index_lits w' _ _ _ _ _ him)⟩) hS ?_
              change wpAnyX Try.prog .any _ _ _ _ 3 _ (mcAct _ _ _ _ _ _ _ _ _ _ _ _ _ _ _ _ _ _ _ _ _ _ _ _ _ _ _ _ _ _ _ _ _ _ _ (.int .i64 k) (.slice (some ⟨g, 0, none⟩) n c) (.int .i64 n) (.bool true) (.bool true) (.slice (some ⟨g, 0, none⟩) n c) (.int .i64 k) (.pointer (some ⟨g, k * 3, none⟩)) (.agg #[.int .i64 o.var, .int .i64 o.val, .bool o.neg]) (.slice (some ⟨bb, bo, none⟩) m cb) (.int .i64 i) (.pointer (some ⟨bb, bo + i * 3, none⟩)) _ _ _ _ _ _ _ _ _ _ _ _ _ _ _ _ _ _ _ _) W.drew
              refine wpAnyX_take (i := 12) (v := .agg #[.int .i64 b.var, .int .i64 b.val, .bool b.neg]) rfl (by kernel_rfl) (by kernel_rfl) (by kernel_rfl) (by kernel_rfl) (fun _ _ _ h => h) (.inl ⟨rfl, fun w' hw' => exec_load rfl rfl (load_litO w' _ _ _ _ _ hw'.2.1 hw'.2.2.1 hw'.2.2.2)⟩) hS ?_
              change wpAnyX Try.prog .any _ _ _ _ 2 _ (mcAct _ _ _ _ _ _ _ _ _ _ _ _ _ _ _ _ _ _ _ _ _ _ _ _ _ _ _ _ _ _ _ _ _ _ _ (.int .i64 k) (.slice (some ⟨g, 0, none⟩) n c) (.int .i64 n) (.bool true) (.bool true) (.slice (some ⟨g, 0, none⟩) n c) (.int .i64 k) (.pointer (some ⟨g, k * 3, none⟩)) (.agg #[.int .i64 o.var, .int .i64 o.val, .bool o.neg]) (.slice (some ⟨bb, bo, none⟩) m cb) (.int .i64 i) (.pointer (some ⟨bb, bo + i * 3, none⟩)) (.agg #[.int .i64 b.var, .int .i64 b.val, .bool b.neg]) _ _ _ _ _ _ _ _ _ _ _ _ _ _ _ _ _ _ _) W.drew
              refine wpAnyX_take (i := 13) (v := .bool false) rfl (by kernel_rfl) (by kernel_rfl) (by kernel_rfl) (by kernel_rfl) (fun _ _ _ h => h) (.inl ⟨rfl, fun w' hw' => exec_bin rfl rfl rfl (HEQ.out w' _ _)⟩) hS ?_
              change wpAnyX Try.prog .any _ _ _ _ 1 _ (mcAct _ _ _ _ _ _ _ _ _ _ _ _ _ _ _ _ _ _ _ _ _ _ _ _ _ _ _ _ _ _ _ _ _ _ _ (.int .i64 k) (.slice (some ⟨g, 0, none⟩) n c) (.int .i64 n) (.bool true) (.bool true) (.slice (some ⟨g, 0, none⟩) n c) (.int .i64 k) (.pointer (some ⟨g, k * 3, none⟩)) (.agg #[.int .i64 o.var, .int .i64 o.val, .bool o.neg]) (.slice (some ⟨bb, bo, none⟩) m cb) (.int .i64 i) (.pointer (some ⟨bb, bo + i * 3, none⟩)) (.agg #[.int .i64 b.var, .int .i64 b.val, .bool b.neg]) (.bool false) _ _ _ _ _ _ _ _ _ _ _ _ _ _ _ _ _ _) W.drew
              refine wpAnyX_take (i := 14) (v := .bool false) rfl (by kernel_rfl) (by kernel_rfl) (by kernel_rfl) (by kernel_rfl) (fun _ _ _ h => h) (.inl ⟨rfl, fun w' hw' => rfl⟩) hS ?_
              change wpAnyX Try.prog .any _ _ _ _ 0 _ (mcAct _ _ _ _ _ _ _ _ _ _ _ _ _ _ _ _ _ _ _ _ _ _ _ _ _ _ _ _ _ _ _ _ _ _ _ (.int .i64 k) (.slice (some ⟨g, 0, none⟩) n c) (.int .i64 n) (.bool true) (.bool true) (.slice (some ⟨g, 0, none⟩) n c) (.int .i64 k) (.pointer (some ⟨g, k * 3, none⟩)) (.agg #[.int .i64 o.var, .int .i64 o.val, .bool o.neg]) (.slice (some ⟨bb, bo, none⟩) m cb) (.int .i64 i) (.pointer (some ⟨bb, bo + i * 3, none⟩)) (.agg #[.int .i64 b.var, .int .i64 b.val, .bool b.neg]) (.bool false) (.bool false) _ _ _ _ _ _ _ _ _ _ _ _ _ _ _ _ _) W.drew
              refine wpAnyX_done (by kernel_rfl) ?_ _
              unfold mcAct
              go_wp2_with fail
              obtain ⟨W9, hW9⟩ : ∃ W9, W9 = W.drew := ⟨_, rfl⟩
              have hbw9 : Below W0.heap.size W0 W9.drew := by rw [hW9]; exact HB9'.out.drew.drew
              rw [← hW9]
              have HOS : Hid (OwnL W9.drew w.heap.size (.slice (some ⟨g, 0, none⟩) n c) outL ∧ w.heap.size ≤ W9.drew.heap.size) := Lib.hid ⟨HO.out.below hbw9, Nat.le_trans HBW.out.size hbw9.size⟩
              have hS9 : LitAt bb (bo + i * 3) b W9.drew := litAt_below ⟨k0, k1, k2⟩ hbw9
              have HB9 := Lib.hid (HBW.out.trans (hbw9.mono HBW.out.size))
              clear hbw9 hW9
              refine region_x (LitAt bb (bo + i * 3) b) (fun _ => false) rfl ?_
              change wpAnyX Try.prog .any _ _ _ _ 10 _ (mcAct _ _ _ _ _ _ _ _ _ _ _ _ _ _ _ _ _ _ _ _ _ _ _ _ _ _ _ _ _ _ _ _ _ _ _ _ _ _ _ _ _ _ _ _ _ _ _ _ _ _ _ _ _ _ _ _ _ _ _ _ _ _ _ _ _ _ _) W9.drew
              refine wpAnyX_take (i := 0) (v := .slice (some ⟨bb, bo, none⟩) m cb) rfl (by kernel_rfl) (by kernel_rfl) (by kernel_rfl) (by kernel_rfl) (fun _ _ _ h => h) (.inl ⟨rfl, fun w' hw' => rfl⟩) hS9 ?_
              change wpAnyX Try.prog .any _ _ _ _ 9 _ (mcAct _ _ _ _ _ _ _ _ _ _ _ _ _ _ _ _ _ _ _ _ _ _ _ _ _ _ _ _ _ _ _ _ _ _ _ _ _ _ _ _ _ _ _ _ _ _ _ _ _ _ (.slice (some ⟨bb, bo, none⟩) m cb) _ _ _ _ _ _ _ _ _ _ _ _ _ _ _ _) W9.drew
              refine wpAnyX_take (i := 1) (v := .int .i64 i) rfl (by kernel_rfl) (by kernel_rfl) (by kernel_rfl) (by kernel_rfl) (fun _ _ _ h => h) (.inl ⟨rfl, fun w' hw' => rfl⟩) hS9 ?_
              change wpAnyX Try.prog .any _ _ _ _ 8 _ (mcAct _ _ _ _ _ _ _ _ _ _ _ _ _ _ _ _ _ _ _ _ _ _ _ _ _ _ _ _ _ _ _ _ _ _ _ _ _ _ _ _ _ _ _ _ _ _ _ _ _ _ (.slice (some ⟨bb, bo, none⟩) m cb) (.int .i64 i) _ _ _ _ _ _ _ _ _ _ _ _ _ _ _) W9.drew
              refine wpAnyX_take (i := 2) (v := .pointer (some ⟨bb, bo + i * 3, none⟩)) rfl (by kernel_rfl) (by kernel_rfl) (by kernel_rfl) (by kernel_rfl) (fun _ _ _ h => h) (.inl ⟨rfl, fun w' hw' => exec_index rfl rfl rfl (index_lits w' _ _ _ _ _ him)⟩) hS9 ?_
              change wpAnyX Try.prog .any _ _ _ _ 7 _ (mcAct _ _ _ _ _ _ _ _ _ _ _ _ _ _ _ _ _ _ _ _ _ _ _ _ _ _ _ _ _ _ _ _ _ _ _ _ _ _ _ _ _ _ _ _ _ _ _ _ _ _ (.slice (some ⟨bb, bo, none⟩) m cb) (.int .i64 i) (.pointer (some ⟨bb, bo + i * 3, none⟩)) _ _ _ _ _ _ _ _ _ _ _ _ _ _) W9.drew
              refine wpAnyX_take (i := 3) (v := .agg #[.int .i64 b.var, .int .i64 b.val, .bool b.neg]) rfl (by kernel_rfl) (by kernel_rfl) (by kernel_rfl) (by kernel_rfl) (fun _ _ _ h => h) (.inl ⟨rfl, fun w' hw' => exec_load rfl rfl (load_litO w' _ _ _ _ _ hw'.1 hw'.2.1 hw'.2.2)⟩) hS9 ?_
              change wpAnyX Try.prog .any _ _ _ _ 6 _ (mcAct _ _ _ _ _ _ _ _ _ _ _ _ _ _ _ _ _ _ _ _ _ _ _ _ _ _ _ _ _ _ _ _ _ _ _ _ _ _ _ _ _ _ _ _ _ _ _ _ _ _ (.slice (some ⟨bb, bo, none⟩) m cb) (.int .i64 i) (.pointer (some ⟨bb, bo + i * 3, none⟩)) (.agg #[.int .i64 b.var, .int .i64 b.val, .bool b.neg]) _ _ _ _ _ _ _ _ _ _ _ _ _) W9.drew
              refine wpAnyX_take (i := 5) (v := .slice (some ⟨g, 0, none⟩) n c) rfl (by kernel_rfl) (by kernel_rfl) (by kernel_rfl) (by kernel_rfl) (fun _ _ _ h => h) (.inl ⟨rfl, fun w' hw' => rfl⟩) hS9 ?_
              change wpAnyX Try.prog .any _ _ _ _ 5 _ (mcAct _ _ _ _ _ _ _ _ _ _ _ _ _ _ _ _ _ _ _ _ _ _ _ _ _ _ _ _ _ _ _ _ _ _ _ _ _ _ _ _ _ _ _ _ _ _ _ _ _ _ (.slice (some ⟨bb, bo, none⟩) m cb) (.int .i64 i) (.pointer (some ⟨bb, bo + i * 3, none⟩)) (.agg #[.int .i64 b.var, .int .i64 b.val, .bool b.neg]) _ (.slice (some ⟨g, 0, none⟩) n c) _ _ _ _ _ _ _ _ _ _ _) W9.drew
              refine wpAnyX_take (i := 6) (v := .int .i64 k) rfl (by kernel_rfl) (by kernel_rfl) (by kernel_rfl) (by kernel_rfl) (fun _ _ _ h => h) (.inl ⟨rfl, fun w' hw' => rfl⟩) hS9 ?_
              change wpAnyX Try.prog .any _ _ _ _ 4 _ (mcAct _ _ _ _ _ _ _ _ _ _ _ _ _ _ _ _ _ _ _ _ _ _ _ _ _ _ _ _ _ _ _ _ _ _ _ _ _ _ _ _ _ _ _ _ _ _ _ _ _ _ (.slice (some ⟨bb, bo, none⟩) m cb) (.int .i64 i) (.pointer (some ⟨bb, bo + i * 3, none⟩)) (.agg #[.int .i64 b.var, .int .i64 b.val, .bool b.neg]) _ (.slice (some ⟨g, 0, none⟩) n c) (.int .i64 k) _ _ _ _ _ _ _ _ _ _) W9.drew
              refine wpAnyX_take (i := 7) (v := .slice (some (if c = k then ⟨g, 0, none⟩ else ⟨g, k * 3, none⟩)) (n - k) (c - k)) rfl (by kernel_rfl) (by kernel_rfl) (by kernel_rfl) (by kernel_rfl) (fun _ _ _ h => h) (.inl ⟨rfl, fun w' hw' => exec_slice1 rfl rfl rfl (slice_tail w' _ _ _ _ hkn' hnc hcm)⟩) hS9 ?_
              change wpAnyX Try.prog .any _ _ _ _ 3 _ (mcAct _ _ _ _ _ _ _ _ _ _ _ _ _ _ _ _ _ _ _ _ _ _ _ _ _ _ _ _ _ _ _ _ _ _ _ _ _ _ _ _ _ _ _ _ _ _ _ _ _ _ (.slice (some ⟨bb, bo, none⟩) m cb) (.int .i64 i) (.pointer (some ⟨bb, bo + i * 3, none⟩)) (.agg #[.int .i64 b.var, .int .i64 b.val, .bool b.neg]) _ (.slice (some ⟨g, 0, none⟩) n c) (.int .i64 k) (.slice (some (if c = k then ⟨g, 0, none⟩ else ⟨g, k * 3, none⟩)) (n - k) (c - k)) _ _ _ _ _ _ _ _ _) W9.drew
              refine wpAnyX_one (i := 4) (by kernel_rfl) rfl (fun K' hK' => ?_)
              refine step_value _ (W9.drew.alloc (.cells #[.int .i64 b.var, .int .i64 b.val, .bool b.neg] 64)) rfl _ (exec_build1 rfl rfl (build_one W9.drew _ _ _)) ?_
              refine hK'.out _ _ (fun _ => (litAt_below hS9 (below1 _ _))) ?_
              clear hK' K'
              change wpAnyX Try.prog .any _ _ _ _ 2 _ (mcAct _ _ _ _ _ _ _ _ _ _ _ _ _ _ _ _ _ _ _ _ _ _ _ _ _ _ _ _ _ _ _ _ _ _ _ _ _ _ _ _ _ _ _ _ _ _ _ _ _ _ (.slice (some ⟨bb, bo, none⟩) m cb) (.int .i64 i) (.pointer (some ⟨bb, bo + i * 3, none⟩)) (.agg #[.int .i64 b.var, .int .i64 b.val, .bool b.neg]) (.slice (some ⟨W9.drew.heap.size, 0, none⟩) 1 1) (.slice (some ⟨g, 0, none⟩) n c) (.int .i64 k) (.slice (some (if c = k then ⟨g, 0, none⟩ else ⟨g, k * 3, none⟩)) (n - k) (c - k)) _ _ _ _ _ _ _ _ _) (W9.drew.alloc (.cells #[.int .i64 b.var, .int .i64 b.val, .bool b.neg] 64))
              refine wpAnyX_one (i := 8) (by kernel_rfl) rfl (fun K' hK' => ?_)
              refine step_append_lits rfl _ _ rfl w.heap.size _ _ [b] (outL.drop k) rfl rfl (ownL_one _ _ HOS.out.2 b) ((HOS.out.1.below (below1 _ _)).tail hkn') (by simp; exact Nat.le_succ_of_le HOS.out.2) (by simp) (by have := HLEN.out; simp; omega) ?_
              intro v8 w8 own8 grow8
              obtain ⟨g8, n8, c8, ev8⟩ := own8.slice
              subst ev8
              have B8 : Below W9.drew.heap.size W9.drew w8 := (below1 _ _).grown grow8 (by simp) (fun q e => Nat.le_of_eq (Option.some.inj e))
              refine hK'.out _ _ (fun _ => (litAt_below hS9 B8)) ?_
              clear hK' K'
              change wpAnyX Try.prog .any _ _ _ _ 1 _ (mcAct _ _ _ _ _ _ _ _ _ _ _ _ _ _ _ _ _ _ _ _ _ _ _ _ _ _ _ _ _ _ _ _ _ _ _ _ _ _ _ _ _ _ _ _ _ _ _ _ _ _ (.slice (some ⟨bb, bo, none⟩) m cb) (.int .i64 i) (.pointer (some ⟨bb, bo + i * 3, none⟩)) (.agg #[.int .i64 b.var, .int .i64 b.val, .bool b.neg]) (.slice (some ⟨W9.drew.heap.size, 0, none⟩) 1 1) (.slice (some ⟨g, 0, none⟩) n c) (.int .i64 k) (.slice (some (if c = k then ⟨g, 0, none⟩ else ⟨g, k * 3, none⟩)) (n - k) (c - k)) (.slice (some ⟨g8, 0, none⟩) n8 c8) _ _ _ _ _ _ _ _) w8
              refine wpAnyX_take (i := 9) (v := .slice (some ⟨g8, 0, none⟩) n8 c8) rfl (by kernel_rfl) (by kernel_rfl) (by kernel_rfl) (by kernel_rfl) (fun _ _ _ h => h) (.inl ⟨rfl, fun w' hw' => rfl⟩) (litAt_below hS9 B8) ?_
              change wpAnyX Try.prog .any _ _ _ _ 0 _ (mcAct _ _ _ _ _ _ _ _ (.slice (some ⟨g8, 0, none⟩) n8 c8) _ _ _ _ _ _ _ _ _ _ _ _ _ _ _ _ _ _ _ _ _ _ _ _ _ _ _ _ _ _ _ _ _ _ _ _ _ _ _ _ _ (.slice (some ⟨bb, bo, none⟩) m cb) (.int .i64 i) (.pointer (some ⟨bb, bo + i * 3, none⟩)) (.agg #[.int .i64 b.var, .int .i64 b.val, .bool b.neg]) (.slice (some ⟨W9.drew.heap.size, 0, none⟩) 1 1) (.slice (some ⟨g, 0, none⟩) n c) (.int .i64 k) (.slice (some (if c = k then ⟨g, 0, none⟩ else ⟨g, k * 3, none⟩)) (n - k) (c - k)) (.slice (some ⟨g8, 0, none⟩) n8 c8) _ _ _ _ _ _ _ _) w8
              refine wpAnyX_done (by kernel_rfl) ?_ _
              unfold mcAct
              have HO8 : Hid (OwnL w8 w.heap.size (.slice (some ⟨g, 0, none⟩) n c) outL) := Lib.hid (HOS.out.1.below B8)
              have HV8 := Lib.hid own8
              have HB8 := Lib.hid (HB9.out.trans (B8.mono HB9.out.size))
              clear own8 grow8 B8 hS9
              go_wp2_with (at_builtin; first | (refine wpList_append_lits rfl _ _ rfl w8.heap.size _ _ [] (outL.take k) rfl rfl (ownL_new w8 w8.heap.size (Nat.le_refl _)) ((HO8.out.below (below1 _ _)).head hkn') (by simp) (by simp) (by have := HLEN.out; simp; omega) ?_; intro v10 w10 own10 grow10; obtain ⟨g10, n10, c10, ev10⟩ := own10.slice; subst ev10; have B10 : Below w8.heap.size w8 w10 := (below1 _ _).grown grow10 (by simp) (fun q e => Nat.le_of_eq (Option.some.inj e)); have HV10 := Lib.hid own10; have HB10 := Lib.hid B10; clear own10 grow10 B10) | (refine wpList_append_lits rfl _ _ rfl w8.heap.size _ _ ([] ++ outL.take k) ([b] ++ outL.drop k) rfl rfl HV10.out (HV8.out.below HB10.out).rd HB10.out.size (by have := HLEN.out; simp; omega) (by have := HLEN.out; simp; omega) ?_; intro v11 w11 own11 grow11; obtain ⟨g11, n11, c11, ev11⟩ := own11.slice; subst ev11))
              have B11 : Below w8.heap.size w8 w11 := HB10.out.grown grow11 HB10.out.size (fun q e => (HV10.out.1.lt q e).1)
              have HF11 : Hid (OwnL w11 w.heap.size (.slice (some ⟨g11, 0, none⟩) n11 c11) (mrgL la (lb.take (i + 1)))) := Lib.hid (by
                rw [HNX.out, insL_pos b outL k (by rw [← HN.out]; exact hkn') HJ.out HPK.out, if_neg HNB.out]
                have := own11.mono HB8.out.size
                simpa using this)
              have HB11 := Lib.hid (HB8.out.trans (B11.mono HB8.out.size))
              clear own11 grow11 B11
              go_wp2
              go_roundw
              all_goals first
                | exact ⟨i + 1, by omega, by go_num, HF11, HB11⟩
                | (simp [intOf]; omega)
          · rw [h5] at HL
            have HJ2 : Hid (∀ (j : Nat) (l : Lit), j < k + 1 → outL[j]? = some l → litLt l b = true) := Lib.hid (fun j l hj hl => by
              by_cases e : j = k
              · subst e; rw [HOK.out] at hl; obtain rfl := Option.some.inj hl; exact h5
              · exact HJ.out j l (by omega) hl)
            clear h5
            go_wp2_with fail
            go_region_held3 (fun w' => w'.cell? ⟨bb, bo + i * 3, none⟩ = some (.int .i64 b.var) ∧ w'.cell? ⟨bb, bo + i * 3 + 1, none⟩ = some (.int .i64 b.val) ∧ w'.cell? ⟨bb, bo + i * 3 + 2, none⟩ = some (.bool b.neg) ∧ w'.cell? ⟨g, k * 3, none⟩ = some (.int .i64 o.var) ∧ w'.cell? ⟨g, k * 3 + 1, none⟩ = some (.int .i64 o.val) ∧ w'.cell? ⟨g, k * 3 + 2, none⟩ = some (.bool o.neg)) (first | exact ⟨l0, l1, l2, m0, m1, m2⟩ | exact ⟨e0, e1, e2, e3, e4, e5⟩) (first | (go_at_call 91; refine HL.out.mono ?_; rintro e w9 ⟨rfl, b9⟩; have B9 := Lib.hid (HB2D.out.trans (b9.mono HB2D.out.size)); have e0 := (b9.cell (World.block_lt_of_cell? wr.drew _ l0)).trans l0; have e1 := (b9.cell (World.block_lt_of_cell? wr.drew _ l1)).trans l1; have e2 := (b9.cell (World.block_lt_of_cell? wr.drew _ l2)).trans l2; have e3 := (b9.cell (World.block_lt_of_cell? wr.drew _ m0)).trans m0; have e4 := (b9.cell (World.block_lt_of_cell? wr.drew _ m1)).trans m1; have e5 := (b9.cell (World.block_lt_of_cell? wr.drew _ m2)).trans m2; clear b9))
            all_goals go_wp2
            all_goals go_roundw
            all_goals first
              | exact ⟨k + 1, by omega, by go_num, HJ2, B9⟩
              | (simp [intOf]; omega)
        · obtain rfl : k = n := by omega
          have hkn' : k ≤ k := Nat.le_refl _
          have HPK : Hid (∀ l, outL[k]? = some l → litLt l b = false) := Lib.hid (fun l hl => by have := (List.getElem?_eq_some_iff.1 hl).1; rw [← HN.out] at this; omega)
          have HNB : Hid (¬ outL[k]? = some b) := Lib.hid (fun hl => by have := (List.getElem?_eq_some_iff.1 hl).1; rw [← HN.out] at this; omega)
          go_wp2_with fail
          have hS : True := trivial
          refine region_x (fun _ => True) (fun _ => false) rfl ?_
          change wpAnyX Try.prog .any _ _ _ _ 15 _ (mcAct _ _ _ _ _ _ _ _ _ _ _ _ _ _ _ _ _ _ _ _ _ _ _ _ _ _ _ _ _ _ _ _ _ _ _ _ _ _ _ _ _ _ _ _ _ _ _ _ _ _ _ _ _ _ _ _ _ _ _ _ _ _ _ _ _ _ _) wr.drew
          refine wpAnyX_take (i := 0) (v := .int .i64 k) rfl (by kernel_rfl) (by kernel_rfl) (by kernel_rfl) (by kernel_rfl) (fun _ _ _ h => h) (.inl ⟨rfl, fun w' hw' => rfl⟩) hS ?_
          change wpAnyX Try.prog .any _ _ _ _ 14 _ (mcAct _ _ _ _ _ _ _ _ _ _ _ _ _ _ _ _ _ _ (.int .i64 k) _ _ _ _ _ _ _ _ _ _ _ _ _ _ _ _ _ _ _ _ _ _ _ _ _ _ _ _ _ _ _ _ _ _ _ _ _ _ _ _ _ _ _ _ _ _ _ _) wr.drew
          refine wpAnyX_take (i := 1) (v := .slice (some ⟨g, 0, none⟩) k c) rfl (by kernel_rfl) (by kernel_rfl) (by kernel_rfl) (by kernel_rfl) (fun _ _ _ h => h) (.inl ⟨rfl, fun w' hw' => rfl⟩) hS ?_
          change wpAnyX Try.prog .any _ _ _ _ 13 _ (mcAct _ _ _ _ _ _ _ _ _ _ _ _ _ _ _ _ _ _ (.int .i64 k) (.slice (some ⟨g, 0, none⟩) k c) _ _ _ _ _ _ _ _ _ _ _ _ _ _ _ _ _ _ _ _ _ _ _ _ _ _ _ _ _ _ _ _ _ _ _ _ _ _ _ _ _ _ _ _ _ _ _) wr.drew
          refine wpAnyX_take (i := 2) (v := .int .i64 k) rfl (by kernel_rfl) (by kernel_rfl) (by kernel_rfl) (by kernel_rfl) (fun _ _ _ h => h) (.inl ⟨rfl, fun w' hw' => exec_lenL rfl rfl⟩) hS ?_
          change wpAnyX Try.prog .any _ _ _ _ 12 _ (mcAct _ _ _ _ _ _ _ _ _ _ _ _ _ _ _ _ _ _ (.int .i64 k) (.slice (some ⟨g, 0, none⟩) k c) (.int .i64 k) _ _ _ _ _ _ _ _ _ _ _ _ _ _ _ _ _ _ _ _ _ _ _ _ _ _ _ _ _ _ _ _ _ _ _ _ _ _ _ _ _ _ _ _ _ _) wr.drew
          refine wpAnyX_take (i := 3) (v := .bool false) rfl (by kernel_rfl) (by kernel_rfl) (by kernel_rfl) (by kernel_rfl) (fun _ _ _ h => h) (.inl ⟨rfl, fun w' hw' => exec_bin rfl rfl rfl (lss_self w' _ _ _)⟩) hS ?_
          change wpAnyX Try.prog .any _ _ _ _ 11 _ (mcAct _ _ _ _ _ _ _ _ _ _ _ _ _ _ _ _ _ _ (.int .i64 k) (.slice (some ⟨g, 0, none⟩) k c) (.int .i64 k) (.bool false) _ _ _ _ _ _ _ _ _ _ _ _ _ _ _ _ _ _ _ _ _ _ _ _ _ _ _ _ _ _ _ _ _ _ _ _ _ _ _ _ _ _ _ _ _) wr.drew
          refine wpAnyX_take (i := 4) (v := .bool false) rfl (by kernel_rfl) (by kernel_rfl) (by kernel_rfl) (by kernel_rfl) (fun _ _ _ h => h) (.inl ⟨rfl, fun w' hw' => rfl⟩) hS ?_
          change wpAnyX Try.prog .any _ _ _ _ 10 _ (mcAct _ _ _ _ _ _ _ _ _ _ _ _ _ _ _ _ _ _ (.int .i64 k) (.slice (some ⟨g, 0, none⟩) k c) (.int .i64 k) (.bool false) (.bool false) _ _ _ _ _ _ _ _ _ _ _ _ _ _ _ _ _ _ _ _ _ _ _ _ _ _ _ _ _ _ _ _ _ _ _ _ _ _ _ _ _ _ _ _) wr.drew
          refine wpAnyX_take (i := 5) (v := undef) rfl (by kernel_rfl) (by kernel_rfl) (by kernel_rfl) (by kernel_rfl) (fun _ _ _ h => h) (.inr ⟨rfl, rfl⟩) hS ?_
          change wpAnyX Try.prog .any _ _ _ _ 9 _ (mcAct _ _ _ _ _ _ _ _ _ _ _ _ _ _ _ _ _ _ (.int .i64 k) (.slice (some ⟨g, 0, none⟩) k c) (.int .i64 k) (.bool false) (.bool false) (undef) _ _ _ _ _ _ _ _ _ _ _ _ _ _ _ _ _ _ _ _ _ _ _ _ _ _ _ _ _ _ _ _ _ _ _ _ _ _ _ _ _ _ _) wr.drew
          refine wpAnyX_take (i := 6) (v := undef) rfl (by kernel_rfl) (by kernel_rfl) (by kernel_rfl) (by kernel_rfl) (fun _ _ _ h => h) (.inr ⟨rfl, rfl⟩) hS ?_
          change wpAnyX Try.prog .any _ _ _ _ 8 _ (mcAct _ _ _ _ _ _ _ _ _ _ _ _ _ _ _ _ _ _ (.int .i64 k) (.slice (some ⟨g, 0, none⟩) k c) (.int .i64 k) (.bool false) (.bool false) (undef) (undef) _ _ _ _ _ _ _ _ _ _ _ _ _ _ _ _ _ _ _ _ _ _ _ _ _ _ _ _ _ _ _ _ _ _ _ _ _ _ _ _ _ _) wr.drew
          refine wpAnyX_take (i := 7) (v := undef) rfl (by kernel_rfl) (by kernel_rfl) (by kernel_rfl) (by kernel_rfl) (fun _ _ _ h => h) (.inr ⟨rfl, rfl⟩) hS ?_
          change wpAnyX Try.prog .any _ _ _ _ 7 _ (mcAct _ _ _ _ _ _ _ _ _ _ _ _ _ _ _ _ _ _ (.int .i64 k) (.slice (some ⟨g, 0, none⟩) k c) (.int .i64 k) (.bool false) (.bool false) (undef) (undef) (undef) _ _ _ _ _ _ _ _ _ _ _ _ _ _ _ _ _ _ _ _ _ _ _ _ _ _ _ _ _ _ _ _ _ _ _ _ _ _ _ _ _) wr.drew
          refine wpAnyX_take (i := 8) (v := undef) rfl (by kernel_rfl) (by kernel_rfl) (by kernel_rfl) (by kernel_rfl) (fun _ _ _ h => h) (.inr ⟨rfl, rfl⟩) hS ?_
          change wpAnyX Try.prog .any _ _ _ _ 6 _ (mcAct _ _ _ _ _ _ _ _ _ _ _ _ _ _ _ _ _ _ (.int .i64 k) (.slice (some ⟨g, 0, none⟩) k c) (.int .i64 k) (.bool false) (.bool false) (undef) (undef) (undef) (undef) _ _ _ _ _ _ _ _ _ _ _ _ _ _ _ _ _ _ _ _ _ _ _ _ _ _ _ _ _ _ _ _ _ _ _ _ _ _ _ _) wr.drew
          refine wpAnyX_take (i := 9) (v := undef) rfl (by kernel_rfl) (by kernel_rfl) (by kernel_rfl) (by kernel_rfl) (fun _ _ _ h => h) (.inr ⟨rfl, rfl⟩) hS ?_
          change wpAnyX Try.prog .any _ _ _ _ 5 _ (mcAct _ _ _ _ _ _ _ _ _ _ _ _ _ _ _ _ _ _ (.int .i64 k) (.slice (some ⟨g, 0, none⟩) k c) (.int .i64 k) (.bool false) (.bool false) (undef) (undef) (undef) (undef) (undef) _ _ _ _ _ _ _ _ _ _ _ _ _ _ _ _ _ _ _ _ _ _ _ _ _ _ _ _ _ _ _ _ _ _ _ _ _ _ _) wr.drew
          refine wpAnyX_take (i := 10) (v := undef) rfl (by kernel_rfl) (by kernel_rfl) (by kernel_rfl) (by kernel_rfl) (fun _ _ _ h => h) (.inr ⟨rfl, rfl⟩) hS ?_
          change wpAnyX Try.prog .any _ _ _ _ 4 _ (mcAct _ _ _ _ _ _ _ _ _ _ _ _ _ _ _ _ _ _ (.int .i64 k) (.slice (some ⟨g, 0, none⟩) k c) (.int .i64 k) (.bool false) (.bool false) (undef) (undef) (undef) (undef) (undef) (undef) _ _ _ _ _ _ _ _ _ _ _ _ _ _ _ _ _ _ _ _ _ _ _ _ _ _ _ _ _ _ _ _ _ _ _ _ _ _) wr.drew
          refine wpAnyX_take (i := 11) (v := undef) rfl (by kernel_rfl) (by kernel_rfl) (by kernel_rfl) (by kernel_rfl) (fun _ _ _ h => h) (.inr ⟨rfl, rfl⟩) hS ?_
          change wpAnyX Try.prog .any _ _ _ _ 3 _ (mcAct _ _ _ _ _ _ _ _ _ _ _ _ _ _ _ _ _ _ (.int .i64 k) (.slice (some ⟨g, 0, none⟩) k c) (.int .i64 k) (.bool false) (.bool false) (undef) (undef) (undef) (undef) (undef) (undef) (undef) _ _ _ _ _ _ _ _ _ _ _ _ _ _ _ _ _ _ _ _ _ _ _ _ _ _ _ _ _ _ _ _ _ _ _ _ _) wr.drew
          refine wpAnyX_take (i := 12) (v := undef) rfl (by kernel_rfl) (by kernel_rfl) (by kernel_rfl) (by kernel_rfl) (fun _ _ _ h => h) (.inr ⟨rfl, rfl⟩) hS ?_
          change wpAnyX Try.prog .any _ _ _ _ 2 _ (mcAct _ _ _ _ _ _ _ _ _ _ _ _ _ _ _ _ _ _ (.int .i64 k) (.slice (some ⟨g, 0, none⟩) k c) (.int .i64 k) (.bool false) (.bool false) (undef) (undef) (undef) (undef) (undef) (undef) (undef) (undef) _ _ _ _ _ _ _ _ _ _ _ _ _ _ _ _ _ _ _ _ _ _ _ _ _ _ _ _ _ _ _ _ _ _ _ _) wr.drew
          refine wpAnyX_take (i := 13) (v := undef) rfl (by kernel_rfl) (by kernel_rfl) (by kernel_rfl) (by kernel_rfl) (fun _ _ _ h => h) (.inr ⟨rfl, rfl⟩) hS ?_
          change wpAnyX Try.prog .any _ _ _ _ 1 _ (mcAct _ _ _ _ _ _ _ _ _ _ _ _ _ _ _ _ _ _ (.int .i64 k) (.slice (some ⟨g, 0, none⟩) k c) (.int .i64 k) (.bool false) (.bool false) (undef) (undef) (undef) (undef) (undef) (undef) (undef) (undef) (undef) _ _ _ _ _ _ _ _ _ _ _ _ _ _ _ _ _ _ _ _ _ _ _ _ _ _ _ _ _ _ _ _ _ _ _) wr.drew
          refine wpAnyX_take (i := 14) (v := .bool false) rfl (by kernel_rfl) (by kernel_rfl) (by kernel_rfl) (by kernel_rfl) (fun _ _ _ h => h) (.inl ⟨rfl, fun w' hw' => rfl⟩) hS ?_
          change wpAnyX Try.prog .any _ _ _ _ 0 _ (mcAct _ _ _ _ _ _ _ _ _ _ _ _ _ _ _ _ _ _ (.int .i64 k) (.slice (some ⟨g, 0, none⟩) k c) (.int .i64 k) (.bool false) (.bool false) (undef) (undef) (undef) (undef) (undef) (undef) (undef) (undef) (undef) (.bool false) _ _ _ _ _ _ _ _ _ _ _ _ _ _ _ _ _ _ _ _ _ _ _ _ _ _ _ _ _ _ _ _ _ _) wr.drew
          refine wpAnyX_done (by kernel_rfl) ?_ _
          unfold mcAct
          go_wp2_with fail
          refine region_x (fun _ => True) (fun _ => false) rfl ?_
          change wpAnyX Try.prog .any _ _ _ _ 15 _ (mcAct _ _ _ _ _ _ _ _ _ _ _ _ _ _ _ _ _ _ _ _ _ _ _ _ _ _ _ _ _ _ _ _ _ _ _ _ _ _ _ _ _ _ _ _ _ _ _ _ _ _ _ _ _ _ _ _ _ _ _ _ _ _ _ _ _ _ _) wr.drew.drew
          refine wpAnyX_take (i := 0) (v := .int .i64 k) rfl (by kernel_rfl) (by kernel_rfl) (by kernel_rfl) (by kernel_rfl) (fun _ _ _ h => h) (.inl ⟨rfl, fun w' hw' => rfl⟩) hS ?_
          change wpAnyX Try.prog .any _ _ _ _ 14 _ (mcAct _ _ _ _ _ _ _ _ _ _ _ _ _ _ _ _ _ _ _ _ _ _ _ _ _ _ _ _ _ _ _ _ _ _ _ (.int .i64 k) _ _ _ _ _ _ _ _ _ _ _ _ _ _ _ _ _ _ _ _ _ _ _ _ _ _ _ _ _ _ _) wr.drew.drew
          refine wpAnyX_take (i := 1) (v := .slice (some ⟨g, 0, none⟩) k c) rfl (by kernel_rfl) (by kernel_rfl) (by kernel_rfl) (by kernel_rfl) (fun _ _ _ h => h) (.inl ⟨rfl, fun w' hw' => rfl⟩) hS ?_
          change wpAnyX Try.prog .any _ _ _ _ 13 _ (mcAct _ _ _ _ _ _ _ _ _ _ _ _ _ _ _ _ _ _ _ _ _ _ _ _ _ _ _ _ _ _ _ _ _ _ _ (.int .i64 k) (.slice (some ⟨g, 0, none⟩) k c) _ _ _ _ _ _ _ _ _ _ _ _ _ _ _ _ _ _ _ _ _ _ _ _ _ _ _ _ _ _) wr.drew.drew
          refine wpAnyX_take (i := 2) (v := .int .i64 k) rfl (by kernel_rfl) (by kernel_rfl) (by kernel_rfl) (by kernel_rfl) (fun _ _ _ h => h) (.inl ⟨rfl, fun w' hw' => exec_lenL rfl rfl⟩) hS ?_
          change wpAnyX Try.prog .any _ _ _ _ 12 _ (mcAct _ _ _ _ _ _ _ _ _ _ _ _ _ _ _ _ _ _ _ _ _ _ _ _ _ _ _ _ _ _ _ _ _ _ _ (.int .i64 k) (.slice (some ⟨g, 0, none⟩) k c) (.int .i64 k) _ _ _ _ _ _ _ _ _ _ _ _ _ _ _ _ _ _ _ _ _ _ _ _ _ _ _ _ _) wr.drew.drew
          refine wpAnyX_take (i := 3) (v := .bool false) rfl (by kernel_rfl) (by kernel_rfl) (by kernel_rfl) (by kernel_rfl) (fun _ _ _ h => h) (.inl ⟨rfl, fun w' hw' => exec_bin rfl rfl rfl (lss_self w' _ _ _)⟩) hS ?_
          change wpAnyX Try.prog .any _ _ _ _ 11 _ (mcAct _ _ _ _ _ _ _ _ _ _ _ _ _ _ _ _ _ _ _ _ _ _ _ _ _ _ _ _ _ _ _ _ _ _ _ (.int .i64 k) (.slice (some ⟨g, 0, none⟩) k c) (.int .i64 k) (.bool false) _ _ _ _ _ _ _ _ _ _ _ _ _ _ _ _ _ _ _ _ _ _ _ _ _ _ _ _) wr.drew.drew
          refine wpAnyX_take (i := 4) (v := .bool false) rfl (by kernel_rfl) (by kernel_rfl) (by kernel_rfl) (by kernel_rfl) (fun _ _ _ h => h) (.inl ⟨rfl, fun w' hw' => rfl⟩) hS ?_
          change wpAnyX Try.prog .any _ _ _ _ 10 _ (mcAct _ _ _ _ _ _ _ _ _ _ _ _ _ _ _ _ _ _ _ _ _ _ _ _ _ _ _ _ _ _ _ _ _ _ _ (.int .i64 k) (.slice (some ⟨g, 0, none⟩) k c) (.int .i64 k) (.bool false) (.bool false) _ _ _ _ _ _ _ _ _ _ _ _ _ _ _ _ _ _ _ _ _ _ _ _ _ _ _) wr.drew.drew
          refine wpAnyX_take (i := 5) (v := undef) rfl (by kernel_rfl) (by kernel_rfl) (by kernel_rfl) (by kernel_rfl) (fun _ _ _ h => h) (.inr ⟨rfl, rfl⟩) hS ?_
          change wpAnyX Try.prog .any _ _ _ _ 9 _ (mcAct _ _ _ _ _ _ _ _ _ _ _ _ _ _ _ _ _ _ _ _ _ _ _ _ _ _ _ _ _ _ _ _ _ _ _ (.int .i64 k) (.slice (some ⟨g, 0, none⟩) k c) (.int .i64 k) (.bool false) (.bool false) (undef) _ _ _ _ _ _ _ _ _ _ _ _ _ _ _ _ _ _ _ _ _ _ _ _ _ _) wr.drew.drew
          refine wpAnyX_take (i := 6) (v := undef) rfl (by kernel_rfl) (by kernel_rfl) (by kernel_rfl) (by kernel_rfl) (fun _ _ _ h => h) (.inr ⟨rfl, rfl⟩) hS ?_
          change wpAnyX Try.prog .any _ _ _ _ 8 _ (mcAct _ _ _ _ _ _ _ _ _ _ _ _ _ _ _ _ _ _ _ _ _ _ _ _ _ _ _ _ _ _ _ _ _ _ _ (.int .i64 k) (.slice (some ⟨g, 0, none⟩) k c) (.int .i64 k) (.bool false) (.bool false) (undef) (undef) _ _ _ _ _ _ _ _ _ _ _ _ _ _ _ _ _ _ _ _ _ _ _ _ _) wr.drew.drew
          refine wpAnyX_take (i := 7) (v := undef) rfl (by kernel_rfl) (by kernel_rfl) (by kernel_rfl) (by kernel_rfl) (fun _ _ _ h => h) (.inr ⟨rfl, rfl⟩) hS ?_
          change wpAnyX Try.prog .any _ _ _ _ 7 _ (mcAct _ _ _ _ _ _ _ _ _ _ _ _ _ _ _ _ _ _ _ _ _ _ _ _ _ _ _ _ _ _ _ _ _ _ _ (.int .i64 k) (.slice (some ⟨g, 0, none⟩) k c) (.int .i64 k) (.bool false) (.bool false) (undef) (undef) (undef) _ _ _ _ _ _ _ _ _ _ _ _ _ _ _ _ _ _ _ _ _ _ _ _) wr.drew.drew
          refine wpAnyX_take (i := 8) (v := undef) rfl (by kernel_rfl) (by kernel_rfl) (by kernel_rfl) (by kernel_rfl) (fun _ _ _ h => h) (.inr ⟨rfl, rfl⟩) hS ?_
          change wpAnyX Try.prog .any _ _ _ _ 6 _ (mcAct _ _ _ _ _ _ _ _ _ _ _ _ _ _ _ _ _ _ _ _ _ _ _ _ _ _ _ _ _ _ _ _ _ _ _ (.int .i64 k) (.slice (some ⟨g, 0, none⟩) k c) (.int .i64 k) (.bool false) (.bool false) (undef) (undef) (undef) (undef) _ _ _ _ _ _ _ _ _ _ _ _ _ _ _ _ _ _ _ _ _ _ _) wr.drew.drew
          refine wpAnyX_take (i := 9) (v := undef) rfl (by kernel_rfl) (by kernel_rfl) (by kernel_rfl) (by kernel_rfl) (fun _ _ _ h => h) (.inr ⟨rfl, rfl⟩) hS ?_
          change wpAnyX Try.prog .any _ _ _ _ 5 _ (mcAct _ _ _ _ _ _ _ _ _ _ _ _ _ _ _ _ _ _ _ _ _ _ _ _ _ _ _ _ _ _ _ _ _ _ _ (.int .i64 k) (.slice (some ⟨g, 0, none⟩) k c) (.int .i64 k) (.bool false) (.bool false) (undef) (undef) (undef) (undef) (undef) _ _ _ _ _ _ _ _ _ _ _ _ _ _ _ _ _ _ _ _ _ _) wr.drew.drew
          refine wpAnyX_take (i := 10) (v := undef) rfl (by kernel_rfl) (by kernel_rfl) (by kernel_rfl) (by kernel_rfl) (fun _ _ _ h => h) (.inr ⟨rfl, rfl⟩) hS ?_
          change wpAnyX Try.prog .any _ _ _ _ 4 _ (mcAct _ _ _ _ _ _ _ _ _ _ _ _ _ _ _ _ _ _ _ _ _ _ _ _ _ _ _ _ _ _ _ _ _ _ _ (.int .i64 k) (.slice (some ⟨g, 0, none⟩) k c) (.int .i64 k) (.bool false) (.bool false) (undef) (undef) (undef) (undef) (undef) (undef) _ _ _ _ _ _ _ _ _ _ _ _ _ _ _ _ _ _ _ _ _) wr.drew.drew
          refine wpAnyX_take (i := 11) (v := undef) rfl (by kernel_rfl) (by kernel_rfl) (by kernel_rfl) (by kernel_rfl) (fun _ _ _ h => h) (.inr ⟨rfl, rfl⟩) hS ?_
          change wpAnyX Try.prog .any _ _ _ _ 3 _ (mcAct _ _ _ _ _ _ _ _ _ _ _ _ _ _ _ _ _ _ _ _ _ _ _ _ _ _ _ _ _ _ _ _ _ _ _ (.int .i64 k) (.slice (some ⟨g, 0, none⟩) k c) (.int .i64 k) (.bool false) (.bool false) (undef) (undef) (undef) (undef) (undef) (undef) (undef) _ _ _ _ _ _ _ _ _ _ _ _ _ _ _ _ _ _ _ _) wr.drew.drew
          refine wpAnyX_take (i := 12) (v := undef) rfl (by kernel_rfl) (by kernel_rfl) (by kernel_rfl) (by kernel_rfl) (fun _ _ _ h => h) (.inr ⟨rfl, rfl⟩) hS ?_
          change wpAnyX Try.prog .any _ _ _ _ 2 _ (mcAct _ _ _ _ _ _ _ _ _ _ _ _ _ _ _ _ _ _ _ _ _ _ _ _ _ _ _ _ _ _ _ _ _ _ _ (.int .i64 k) (.slice (some ⟨g, 0, none⟩) k c) (.int .i64 k) (.bool false) (.bool false) (undef) (undef) (undef) (undef) (undef) (undef) (undef) (undef) _ _ _ _ _ _ _ _ _ _ _ _ _ _ _ _ _ _ _) wr.drew.drew
          refine wpAnyX_take (i := 13) (v := undef) rfl (by kernel_rfl) (by kernel_rfl) (by kernel_rfl) (by kernel_rfl) (fun _ _ _ h => h) (.inr ⟨rfl, rfl⟩) hS ?_
          change wpAnyX Try.prog .any _ _ _ _ 1 _ (mcAct _ _ _ _ _ _ _ _ _ _ _ _ _ _ _ _ _ _ _ _ _ _ _ _ _ _ _ _ _ _ _ _ _ _ _ (.int .i64 k) (.slice (some ⟨g, 0, none⟩) k c) (.int .i64 k) (.bool false) (.bool false) (undef) (undef) (undef) (undef) (undef) (undef) (undef) (undef) (undef) _ _ _ _ _ _ _ _ _ _ _ _ _ _ _ _ _ _) wr.drew.drew
          refine wpAnyX_take (i := 14) (v := .bool false) rfl (by kernel_rfl) (by kernel_rfl) (by kernel_rfl) (by kernel_rfl) (fun _ _ _ h => h) (.inl ⟨rfl, fun w' hw' => rfl⟩) hS ?_
          change wpAnyX Try.prog .any _ _ _ _ 0 _ (mcAct _ _ _ _ _ _ _ _ _ _ _ _ _ _ _ _ _ _ _ _ _ _ _ _ _ _ _ _ _ _ _ _ _ _ _ (.int .i64 k) (.slice (some ⟨g, 0, none⟩) k c) (.int .i64 k) (.bool false) (.bool false) (undef) (undef) (undef) (undef) (undef) (undef) (undef) (undef) (undef) (.bool false) _ _ _ _ _ _ _ _ _ _ _ _ _ _ _ _ _) wr.drew.drew
          refine wpAnyX_done (by kernel_rfl) ?_ _
          unfold mcAct
          go_wp2_with fail
          obtain ⟨W9, hW9⟩ : ∃ W9, W9 = wr.drew.drew := ⟨_, rfl⟩
          have hbw9 : Below W0.heap.size W0 W9.drew := by rw [hW9]; exact HB2.out.drew.drew.drew
          rw [← hW9]
          have HOS : Hid (OwnL W9.drew w.heap.size (.slice (some ⟨g, 0, none⟩) k c) outL ∧ w.heap.size ≤ W9.drew.heap.size) := Lib.hid ⟨HO.out.below hbw9, Nat.le_trans HBW.out.size hbw9.size⟩
          have hS9 : LitAt bb (bo + i * 3) b W9.drew := litAt_below ⟨k0, k1, k2⟩ hbw9
          have HB9 := Lib.hid (HBW.out.trans (hbw9.mono HBW.out.size))
          clear hbw9 hW9
          refine region_x (LitAt bb (bo + i * 3) b) (fun _ => false) rfl ?_
          change wpAnyX Try.prog .any _ _ _ _ 10 _ (mcAct _ _ _ _ _ _ _ _ _ _ _ _ _ _ _ _ _ _ _ _ _ _ _ _ _ _ _ _ _ _ _ _ _ _ _ _ _ _ _ _ _ _ _ _ _ _ _ _ _ _ _ _ _ _ _ _ _ _ _ _ _ _ _ _ _ _ _) W9.drew
          refine wpAnyX_take (i := 0) (v := .slice (some ⟨bb, bo, none⟩) m cb) rfl (by kernel_rfl) (by kernel_rfl) (by kernel_rfl) (by kernel_rfl) (fun _ _ _ h => h) (.inl ⟨rfl, fun w' hw' => rfl⟩) hS9 ?_
          change wpAnyX Try.prog .any _ _ _ _ 9 _ (mcAct _ _ _ _ _ _ _ _ _ _ _ _ _ _ _ _ _ _ _ _ _ _ _ _ _ _ _ _ _ _ _ _ _ _ _ _ _ _ _ _ _ _ _ _ _ _ _ _ _ _ (.slice (some ⟨bb, bo, none⟩) m cb) _ _ _ _ _ _ _ _ _ _ _ _ _ _ _ _) W9.drew
          refine wpAnyX_take (i := 1) (v := .int .i64 i) rfl (by kernel_rfl) (by kernel_rfl) (by kernel_rfl) (by kernel_rfl) (fun _ _ _ h => h) (.inl ⟨rfl, fun w' hw' => rfl⟩) hS9 ?_
          change wpAnyX Try.prog .any _ _ _ _ 8 _ (mcAct _ _ _ _ _ _ _ _ _ _ _ _ _ _ _ _ _ _ _ _ _ _ _ _ _ _ _ _ _ _ _ _ _ _ _ _ _ _ _ _ _ _ _ _ _ _ _ _ _ _ (.slice (some ⟨bb, bo, none⟩) m cb) (.int .i64 i) _ _ _ _ _ _ _ _ _ _ _ _ _ _ _) W9.drew
          refine wpAnyX_take (i := 2) (v := .pointer (some ⟨bb, bo + i * 3, none⟩)) rfl (by kernel_rfl) (by kernel_rfl) (by kernel_rfl) (by kernel_rfl) (fun _ _ _ h => h) (.inl ⟨rfl, fun w' hw' => exec_index rfl rfl rfl (index_lits w' _ _ _ _ _ him)⟩) hS9 ?_
          change wpAnyX Try.prog .any _ _ _ _ 7 _ (mcAct _ _ _ _ _ _ _ _ _ _ _ _ _ _ _ _ _ _ _ _ _ _ _ _ _ _ _ _ _ _ _ _ _ _ _ _ _ _ _ _ _ _ _ _ _ _ _ _ _ _ (.slice (some ⟨bb, bo, none⟩) m cb) (.int .i64 i) (.pointer (some ⟨bb, bo + i * 3, none⟩)) _ _ _ _ _ _ _ _ _ _ _ _ _ _) W9.drew
          refine wpAnyX_take (i := 3) (v := .agg #[.int .i64 b.var, .int .i64 b.val, .bool b.neg]) rfl (by kernel_rfl) (by kernel_rfl) (by kernel_rfl) (by kernel_rfl) (fun _ _ _ h => h) (.inl ⟨rfl, fun w' hw' => exec_load rfl rfl (load_litO w' _ _ _ _ _ hw'.1 hw'.2.1 hw'.2.2)⟩) hS9 ?_
          change wpAnyX Try.prog .any _ _ _ _ 6 _ (mcAct _ _ _ _ _ _ _ _ _ _ _ _ _ _ _ _ _ _ _ _ _ _ _ _ _ _ _ _ _ _ _ _ _ _ _ _ _ _ _ _ _ _ _ _ _ _ _ _ _ _ (.slice (some ⟨bb, bo, none⟩) m cb) (.int .i64 i) (.pointer (some ⟨bb, bo + i * 3, none⟩)) (.agg #[.int .i64 b.var, .int .i64 b.val, .bool b.neg]) _ _ _ _ _ _ _ _ _ _ _ _ _) W9.drew
          refine wpAnyX_take (i := 5) (v := .slice (some ⟨g, 0, none⟩) k c) rfl (by kernel_rfl) (by kernel_rfl) (by kernel_rfl) (by kernel_rfl) (fun _ _ _ h => h) (.inl ⟨rfl, fun w' hw' => rfl⟩) hS9 ?_
          change wpAnyX Try.prog .any _ _ _ _ 5 _ (mcAct _ _ _ _ _ _ _ _ _ _ _ _ _ _ _ _ _ _ _ _ _ _ _ _ _ _ _ _ _ _ _ _ _ _ _ _ _ _ _ _ _ _ _ _ _ _ _ _ _ _ (.slice (some ⟨bb, bo, none⟩) m cb) (.int .i64 i) (.pointer (some ⟨bb, bo + i * 3, none⟩)) (.agg #[.int .i64 b.var, .int .i64 b.val, .bool b.neg]) _ (.slice (some ⟨g, 0, none⟩) k c) _ _ _ _ _ _ _ _ _ _ _) W9.drew
          refine wpAnyX_take (i := 6) (v := .int .i64 k) rfl (by kernel_rfl) (by kernel_rfl) (by kernel_rfl) (by kernel_rfl) (fun _ _ _ h => h) (.inl ⟨rfl, fun w' hw' => rfl⟩) hS9 ?_
          change wpAnyX Try.prog .any _ _ _ _ 4 _ (mcAct _ _ _ _ _ _ _ _ _ _ _ _ _ _ _ _ _ _ _ _ _ _ _ _ _ _ _ _ _ _ _ _ _ _ _ _ _ _ _ _ _ _ _ _ _ _ _ _ _ _ (.slice (some ⟨bb, bo, none⟩) m cb) (.int .i64 i) (.pointer (some ⟨bb, bo + i * 3, none⟩)) (.agg #[.int .i64 b.var, .int .i64 b.val, .bool b.neg]) _ (.slice (some ⟨g, 0, none⟩) k c) (.int .i64 k) _ _ _ _ _ _ _ _ _ _) W9.drew
          refine wpAnyX_take (i := 7) (v := .slice (some (if c = k then ⟨g, 0, none⟩ else ⟨g, k * 3, none⟩)) (k - k) (c - k)) rfl (by kernel_rfl) (by kernel_rfl) (by kernel_rfl) (by kernel_rfl) (fun _ _ _ h => h) (.inl ⟨rfl, fun w' hw' => exec_slice1 rfl rfl rfl (slice_tail w' _ _ _ _ hkn' hnc hcm)⟩) hS9 ?_
          change wpAnyX Try.prog .any _ _ _ _ 3 _ (mcAct _ _ _ _ _ _ _ _ _ _ _ _ _ _ _ _ _ _ _ _ _ _ _ _ _ _ _ _ _ _ _ _ _ _ _ _ _ _ _ _ _ _ _ _ _ _ _ _ _ _ (.slice (some ⟨bb, bo, none⟩) m cb) (.int .i64 i) (.pointer (some ⟨bb, bo + i * 3, none⟩)) (.agg #[.int .i64 b.var, .int .i64 b.val, .bool b.neg]) _ (.slice (some ⟨g, 0, none⟩) k c) (.int .i64 k) (.slice (some (if c = k then ⟨g, 0, none⟩ else ⟨g, k * 3, none⟩)) (k - k) (c - k)) _ _ _ _ _ _ _ _ _) W9.drew
          refine wpAnyX_one (i := 4) (by kernel_rfl) rfl (fun K' hK' => ?_)
          refine step_value _ (W9.drew.alloc (.cells #[.int .i64 b.var, .int .i64 b.val, .bool b.neg] 64)) rfl _ (exec_build1 rfl rfl (build_one W9.drew _ _ _)) ?_
          refine hK'.out _ _ (fun _ => (litAt_below hS9 (below1 _ _))) ?_
          clear hK' K'
          change wpAnyX Try.prog .any _ _ _ _ 2 _ (mcAct _ _ _ _ _ _ _ _ _ _ _ _ _ _ _ _ _ _ _ _ _ _ _ _ _ _ _ _ _ _ _ _ _ _ _ _ _ _ _ _ _ _ _ _ _ _ _ _ _ _ (.slice (some ⟨bb, bo, none⟩) m cb) (.int .i64 i) (.pointer (some ⟨bb, bo + i * 3, none⟩)) (.agg #[.int .i64 b.var, .int .i64 b.val, .bool b.neg]) (.slice (some ⟨W9.drew.heap.size, 0, none⟩) 1 1) (.slice (some ⟨g, 0, none⟩) k c) (.int .i64 k) (.slice (some (if c = k then ⟨g, 0, none⟩ else ⟨g, k * 3, none⟩)) (k - k) (c - k)) _ _ _ _ _ _ _ _ _) (W9.drew.alloc (.cells #[.int .i64 b.var, .int .i64 b.val, .bool b.neg] 64))
          refine wpAnyX_one (i := 8) (by kernel_rfl) rfl (fun K' hK' => ?_)
          refine step_append_lits rfl _ _ rfl w.heap.size _ _ [b] (outL.drop k) rfl rfl (ownL_one _ _ HOS.out.2 b) ((HOS.out.1.below (below1 _ _)).tail hkn') (by simp; exact Nat.le_succ_of_le HOS.out.2) (by simp) (by have := HLEN.out; simp; omega) ?_
          intro v8 w8 own8 grow8
          obtain ⟨g8, n8, c8, ev8⟩ := own8.slice
          subst ev8
          have B8 : Below W9.drew.heap.size W9.drew w8 := (below1 _ _).grown grow8 (by simp) (fun q e => Nat.le_of_eq (Option.some.inj e))
          refine hK'.out _ _ (fun _ => (litAt_below hS9 B8)) ?_
          clear hK' K'
          change wpAnyX Try.prog .any _ _ _ _ 1 _ (mcAct _ _ _ _ _ _ _ _ _ _ _ _ _ _ _ _ _ _ _ _ _ _ _ _ _ _ _ _ _ _ _ _ _ _ _ _ _ _ _ _ _ _ _ _ _ _ _ _ _ _ (.slice (some ⟨bb, bo, none⟩) m cb) (.int .i64 i) (.pointer (some ⟨bb, bo + i * 3, none⟩)) (.agg #[.int .i64 b.var, .int .i64 b.val, .bool b.neg]) (.slice (some ⟨W9.drew.heap.size, 0, none⟩) 1 1) (.slice (some ⟨g, 0, none⟩) k c) (.int .i64 k) (.slice (some (if c = k then ⟨g, 0, none⟩ else ⟨g, k * 3, none⟩)) (k - k) (c - k)) (.slice (some ⟨g8, 0, none⟩) n8 c8) _ _ _ _ _ _ _ _) w8
          refine wpAnyX_take (i := 9) (v := .slice (some ⟨g8, 0, none⟩) n8 c8) rfl (by kernel_rfl) (by kernel_rfl) (by kernel_rfl) (by kernel_rfl) (fun _ _ _ h => h) (.inl ⟨rfl, fun w' hw' => rfl⟩) (litAt_below hS9 B8) ?_
          change wpAnyX Try.prog .any _ _ _ _ 0 _ (mcAct _ _ _ _ _ _ _ _ (.slice (some ⟨g8, 0, none⟩) n8 c8) _ _ _ _ _ _ _ _ _ _ _ _ _ _ _ _ _ _ _ _ _ _ _ _ _ _ _ _ _ _ _ _ _ _ _ _ _ _ _ _ _ (.slice (some ⟨bb, bo, none⟩) m cb) (.int .i64 i) (.pointer (some ⟨bb, bo + i * 3, none⟩)) (.agg #[.int .i64 b.var, .int .i64 b.val, .bool b.neg]) (.slice (some ⟨W9.drew.heap.size, 0, none⟩) 1 1) (.slice (some ⟨g, 0, none⟩) k c) (.int .i64 k) (.slice (some (if c = k then ⟨g, 0, none⟩ else ⟨g, k * 3, none⟩)) (k - k) (c - k)) (.slice (some ⟨g8, 0, none⟩) n8 c8) _ _ _ _ _ _ _ _) w8
          refine wpAnyX_done (by kernel_rfl) ?_ _
          unfold mcAct
          have HO8 : Hid (OwnL w8 w.heap.size (.slice (some ⟨g, 0, none⟩) k c) outL) := Lib.hid (HOS.out.1.below B8)
          have HV8 := Lib.hid own8
          have HB8 := Lib.hid (HB9.out.trans (B8.mono HB9.out.size))
          clear own8 grow8 B8 hS9
          go_wp2_with (at_builtin; first | (refine wpList_append_lits rfl _ _ rfl w8.heap.size _ _ [] (outL.take k) rfl rfl (ownL_new w8 w8.heap.size (Nat.le_refl _)) ((HO8.out.below (below1 _ _)).head hkn') (by simp) (by simp) (by have := HLEN.out; simp; omega) ?_; intro v10 w10 own10 grow10; obtain ⟨g10, n10, c10, ev10⟩ := own10.slice; subst ev10; have B10 : Below w8.heap.size w8 w10 := (below1 _ _).grown grow10 (by simp) (fun q e => Nat.le_of_eq (Option.some.inj e)); have HV10 := Lib.hid own10; have HB10 := Lib.hid B10; clear own10 grow10 B10) | (refine wpList_append_lits rfl _ _ rfl w8.heap.size _ _ ([] ++ outL.take k) ([b] ++ outL.drop k) rfl rfl HV10.out (HV8.out.below HB10.out).rd HB10.out.size (by have := HLEN.out; simp; omega) (by have := HLEN.out; simp; omega) ?_; intro v11 w11 own11 grow11; obtain ⟨g11, n11, c11, ev11⟩ := own11.slice; subst ev11))
          have B11 : Below w8.heap.size w8 w11 := HB10.out.grown grow11 HB10.out.size (fun q e => (HV10.out.1.lt q e).1)
          have HF11 : Hid (OwnL w11 w.heap.size (.slice (some ⟨g11, 0, none⟩) n11 c11) (mrgL la (lb.take (i + 1)))) := Lib.hid (by
            rw [HNX.out, insL_pos b outL k (by rw [← HN.out]; exact hkn') HJ.out HPK.out, if_neg HNB.out]
            have := own11.mono HB8.out.size
            simpa using this)
          have HB11 := Lib.hid (HB8.out.trans (B11.mono HB8.out.size))
          clear own11 grow11 B11
          go_wp2
          go_roundw
          all_goals first
            | exact ⟨i + 1, by omega, by go_num, HF11, HB11⟩
            | (simp [intOf]; omega)
    · obtain rfl : i = m := by omega
      have HF : Hid (mrgL la (lb.take i) = mrgL la lb) := Lib.hid (by rw [HM.out, List.take_length])
      rw [HF.out] at HO
      obtain ⟨_, g, c, evo, _⟩ := HO.out
      rw [evo] at HO ⊢
      go_wp2
      go_ret
      exact ⟨_, rfl, HO.out, HBW.out⟩
theorem smerge_any (av bv : Value) (la lb : List Lit) (w : World) (ha : RdLits w av la) (hb : RdLits w bv lb) (h12 : la.length ≤ 1000) (h13 : lb.length ≤ 1000) (hasc : Asc la) :
    Calls Try.prog 65 #[av, bv] w (LitsPost (mrgL la lb) w) := smerge_gen av bv la lb w ha hb h12 h13
end Go.Proofs.Ytipapmmjfoaddaa
