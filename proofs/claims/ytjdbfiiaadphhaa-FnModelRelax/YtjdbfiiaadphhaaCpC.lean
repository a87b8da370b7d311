/- The program's copies of lists and constraints. -/
import Derived.Test.YtjdbfiiaadphhaaDrK
import Derived.Test.YtjdbfiiaadphhaaOrdZ
import Derived.Test.YtjdbfiiaadphhaaEngI
import Derived.Test.YtjdbfiiaadphhaaMod
namespace Go.Proofs.Ytjdbfiiaadphhaa
open Go.ChangeShapes Go.WideShapes Go.ChangeAt Go.RowKit Go.Shelf
set_option linter.unusedVariables false
set_option linter.unusedSimpArgs false

section
set_option maxRecDepth 100000
theorem k_field1 {w : World} {ev : Operand → Value} {o : Oper} {x : Operand} {b : Nat} (ho : o.op = .fieldAddr 53 x 1) (hx : ev x = .pointer (some ⟨b, 0, none⟩)) : (execOp ev o).run Try.prog w = .ok (.value (.pointer (some ⟨b, 1, none⟩))) w := by
  unfold execOp
  simp only [ho, hx]
  go_simp
end
set_option maxRecDepth 100000 in
set_option maxHeartbeats 2000000 in
theorem icopyInts_all (v : Value) (xs : List Int) (w : World) (h : RdInts w v xs) (hx : xs.length ≤ 1048576) :
    Calls Try.prog 113 #[v] w (IntsPost xs w) := by
  obtain ⟨a, cap, rfl, hl, hm, hx3⟩ := h
  obtain ⟨i0, hi, hz0, hz1, hz2⟩ := info_parts Try.info3
  cases a with
  | none =>
    have hxs : xs = [] := by
      rcases hx3 with h | ⟨b, off, e, _⟩
      · exact List.eq_nil_of_length_eq_zero h
      · cases e
    subst hxs
    have hcap : cap ≤ 9223372036854775807 := by unfold maxLen at hm; omega
    clear hx3 hl hm
    go_enter Try.func113, Try.ntmps113
    go_wp2
    go_ret
    exact ⟨_, rfl, own_nil _ _ _, Below.refl _ _⟩
  | some ad =>
    have HC : Hid (∀ j u, (xs.map (Value.int .i64))[j]? = some u → w.cell? (ad.add j) = some u) := Lib.hid (fun j u hu => by
      have hj : j < xs.length := by have := (List.getElem?_eq_some_iff.1 hu).1; simpa using this
      rcases hx3 with h | ⟨b, off, e, hcell⟩
      · omega
      · cases e
        rw [addr_add, hcell j hj]
        rw [List.getElem?_map, List.getElem?_eq_getElem hj] at hu
        rw [List.getElem?_eq_getElem hj]
        simpa using hu)
    obtain ⟨n, hn⟩ : ∃ n, n = xs.length := ⟨_, rfl⟩
    have HN := Lib.hid hn
    rw [← hn] at hl hx ⊢
    unfold maxLen at hm
    clear hx3 hn
    have hmade := World.ownsRow_nil w w.heap.size 3 1
    go_enter Try.func113, Try.ntmps113
    go_wp2_with (at_builtin; refine wpList_append_own _ rfl _ _ 32 rfl w.heap.size 3 i0 (.int .i64 0) 1 8 Try.underlying32 hi hz0 hz1 hz2 rfl (by decide) _ 0 [] rfl hmade ad n cap (xs.map (Value.int .i64)) rfl (by rw [List.length_map, HN.out]; omega) HC.out (fun u hu => ?_) (by unfold maxLen; omega) (by omega) (Nat.le_refl _) ?_)
    · obtain ⟨x, _, rfl⟩ := List.mem_map.1 hu
      rfl
    · intro v' w' hown hgrow _
      have hb : Below w.heap.size w w' := (Below.refl _ w).grown hgrow (Nat.le_refl _) (fun q e => by simp [Value.ownBlock] at e)
      have HO := Lib.hid (show w'.ownsRow w.heap.size 3 1 v' xs.length (xs.map (Value.int .i64)) by rw [← HN.out]; simpa using hown)
      have HB := Lib.hid hb
      clear hown hgrow hb
      go_wp2
      go_ret
      exact ⟨_, rfl, HO.out, HB.out⟩

theorem rdRows_at'' {w : World} {a : Option Addr} {n cap : Nat} {rows : List (List Int)} (h : RdRows w (.slice a n cap) rows) {i : Nat} (hi : i < n) : ∃ (b off : Nat) (a2 : Option Addr) (r c2 : Nat), a = some ⟨b, off, none⟩ ∧ w.cell? ⟨b, off + i, none⟩ = some (.slice a2 r c2) ∧ r = (rows[i]?.getD []).length ∧ r ≤ c2 ∧ c2 ≤ 9223372036854775807 ∧ RdInts w (.slice a2 r c2) (rows[i]?.getD []) := by
  obtain ⟨a', cap', e, h1, h2, h3⟩ := h
  simp at e
  obtain ⟨rfl, rfl, rfl⟩ := e
  rcases h3 with h3 | ⟨b, off, rfl, h3⟩
  · omega
  · obtain ⟨u, hu, hr⟩ := h3 i hi
    have hr0 := hr
    obtain ⟨a2, c2, rfl, q1, q2, _⟩ := hr
    unfold maxLen at q2
    exact ⟨b, off, a2, _, c2, rfl, hu, rfl, q1, q2, hr0⟩
theorem RowsOwn.below {B base : Nat} {w w' : World} {o : Value} {us : List Value} {rows : List (List Int)} (h : RowsOwn B base w o us rows) (hb : Below w.heap.size w w') : RowsOwn B base w' o us rows :=
  ⟨h.1, own_below h.2.1 hb, fun i u hu => own_below (h.2.2 i u hu) hb⟩
theorem RowsOwn.keepH {B base : Nat} {w w' : World} {o : Value} {us : List Value} {rows : List (List Int)} (h : RowsOwn B base w o us rows) (hk : ∀ b, base ≤ b → w'.heap[b]? = w.heap[b]?) : RowsOwn B base w' o us rows :=
  ⟨h.1, own_keepB h.2.1 (fun b hb => hk b (h.2.1.lt b hb).1), fun i u hu => own_keepB (h.2.2 i u hu) (fun b hb => hk b ((h.2.2 i u hu).lt b hb).1)⟩
theorem RowsOwn.rdw {B base : Nat} {w : World} {o : Value} {us : List Value} {rows : List (List Int)} (h : RowsOwn B base w o us rows) : RdRows w o rows :=
  (RowsOwn.rd (Q := fun _ => false) h (fun _ _ => rfl)).inc (av_inc _ _)
/-- A copy of a constraint, in memory of the call's own. -/
def ConOwn (base : Nat) (c : Con) (W : World) (u1 u2 u4 : Value) : Prop :=
  W.ownsRow base 3 1 u1 c.vars.length (c.vars.map (Value.int .i64)) ∧ W.ownsRow base 3 1 u2 c.args.length (c.args.map (Value.int .i64)) ∧ ∃ us, RowsOwn 0 base W u4 us c.rows
def CopyCE (c : Con) (w : World) (e : Ending) (w' : World) : Prop :=
  ∃ u1 u2 u4, e = .returned (.agg #[.int .i64 c.kind, u1, u2, .int .i64 c.bound, u4]) ∧ ConOwn w.heap.size c w' u1 u2 u4 ∧ Below w.heap.size w w'
theorem ConOwn.rd {base : Nat} {c : Con} {W : World} {u1 u2 u4 : Value} (h : ConOwn base c W u1 u2 u4) : RdCon W (.agg #[.int .i64 c.kind, u1, u2, .int .i64 c.bound, u4]) c := by
  obtain ⟨h1, h2, us, h4⟩ := h
  exact ⟨u1, u2, u4, rfl, rdInts_of_own h1, rdInts_of_own h2, h4.rdw⟩

def cpAct (z0 z1 z2 z3 z4 z5 z6 z7 z8 z9 z10 z11 z12 z13 z14 z15 z16 z17 z18 z19 z20 z21 z22 z23 z24 z25 z26 z27 z28 z29 : Value) : Act := { tmps := #[z0, z1, z2, z3, z4, z5, z6, z7, z8, z9, z10, z11, z12, z13, z14, z15, z16, z17, z18, z19, z20, z21, z22, z23, z24, z25, z26, z27, z28, z29], defers := [] }
set_option maxRecDepth 100000 in
set_option maxHeartbeats 16000000 in
theorem icopyConstraint_any (v : Value) (c : Con) (w : World) (h : RdCon w v c) (hle : ConLe c 1048576) :
    Calls Try.prog 105 #[v] w (CopyCE c w) := by
  obtain ⟨a1, a2, a5, c1, c2, c5, rfl, r1, r2, r5⟩ := rdCon_slices h
  obtain ⟨n1, hn1⟩ : ∃ n, n = c.vars.length := ⟨_, rfl⟩
  obtain ⟨n2, hn2⟩ : ∃ n, n = c.args.length := ⟨_, rfl⟩
  obtain ⟨n5, hn5⟩ : ∃ n, n = c.rows.length := ⟨_, rfl⟩
  obtain ⟨kd, hkd⟩ : ∃ kd, kd = c.kind := ⟨_, rfl⟩
  obtain ⟨bd, hbd⟩ : ∃ bd, bd = c.bound := ⟨_, rfl⟩
  have HN1 := Lib.hid hn1
  have HN2 := Lib.hid hn2
  have HN5 := Lib.hid hn5
  have HKB := Lib.hid (And.intro hkd hbd)
  rw [← hn1] at r1
  rw [← hn2] at r2
  rw [← hn5] at r5
  rw [← hn1, ← hn2, ← hn5, ← hkd, ← hbd]
  have hc1 := (rdInts_cap r1).2
  have hc2 := (rdInts_cap r2).2
  have hc5 : n5 ≤ c5 ∧ c5 ≤ 9223372036854775807 := by obtain ⟨_, _, e, q1, q2, _⟩ := id r5; simp at e; obtain ⟨-, -, rfl⟩ := e; unfold maxLen at q2; rw [hn5]; omega
  obtain ⟨C, hC⟩ : ∃ C, C = w.heap.size := ⟨_, rfl⟩
  obtain ⟨R, hR⟩ : ∃ R, R = w.heap.size + 1 := ⟨_, rfl⟩
  obtain ⟨W2, hW2⟩ : ∃ W2, (w.alloc (.cells #[.int .i64 kd, .slice a1 n1 c1, .slice a2 n2 c2, .int .i64 bd, .slice a5 n5 c5] 53)).alloc (.cells #[.int .i64 0, .slice none 0 0, .slice none 0 0, .int .i64 0, .slice none 0 0] 53) = W2 := ⟨_, rfl⟩
  have b2 : Below w.heap.size w W2 := by rw [← hW2]; exact ((Below.refl _ _).alloc (Nat.le_refl _) _).alloc (by simp) _
  have hbc : Blk5 W2 C 53 (.int .i64 kd) (.slice a1 n1 c1) (.slice a2 n2 c2) (.int .i64 bd) (.slice a5 n5 c5) := by rw [← hW2, hC]; exact (Blk5.new w _ _ _ _ _ _).alloc _
  have hbr : Blk5 W2 R 53 (.int .i64 0) (.slice none 0 0) (.slice none 0 0) (.int .i64 0) (.slice none 0 0) := by
    rw [← hW2, hR]
    have := Blk5.new (w.alloc (.cells #[.int .i64 kd, .slice a1 n1 c1, .slice a2 n2 c2, .int .i64 bd, .slice a5 n5 c5] 53)) 53 (.int .i64 0) (.slice none 0 0) (.slice none 0 0) (.int .i64 0) (.slice none 0 0)
    rw [World.size_alloc] at this
    exact this
  have hs2 : W2.heap.size = w.heap.size + 2 := by rw [← hW2]; simp
  have HV1 := Lib.hid (r1.below b2)
  have HV2 := Lib.hid (r2.below b2)
  have HV5 := Lib.hid (r5.below b2)
  have HBC2 := Lib.hid hbc
  have HBR2 := Lib.hid hbr
  have HB2 := Lib.hid b2
  have HCR := Lib.hid (show C < R ∧ R < W2.heap.size ∧ w.heap.size ≤ C from by omega)
  have HW2 := Lib.hid hW2
  have HCe := Lib.hid hC
  have HRe := Lib.hid hR
  have HLV : Hid (c.vars.length ≤ 1048576) := Lib.hid hle.1
  have HLA : Hid (c.args.length ≤ 1048576) := Lib.hid hle.2.1
  have HLR := Lib.hid hle.2.2
  have hn5l : n5 ≤ 1048576 := by rw [hn5]; exact hle.2.2.1
  have x4 := hbc.cell.2.2.2.2
  rw [hC] at x4
  clear h r1 r2 r5 b2 hbc hbr hs2 hW2 hC hR hn1 hn2 hn5 hkd hbd hle
  obtain ⟨i0, hi, hz0, hz1, hz2⟩ := info_parts Try.info32
  go_enter Try.func105, Try.ntmps105
  go_wp2_with (rw [HW2.out])
  rw [← HRe.out, ← HCe.out]
  clear HW2 x4
  go_loopw [3, 9] (fun o i wr => ∃ (j : Nat) (ar : Option Addr) (cr : Nat) (us : List Value), j ≤ n5 ∧ i = .int .i64 j ∧ o = .slice ar j cr ∧ j ≤ cr ∧ cr ≤ 9223372036854775807 ∧ Hid (RowsOwn 0 W2.heap.size wr (.slice ar j cr) us (c.rows.take j)) ∧ Hid (us.length = j) ∧ Hid (Below W2.heap.size W2 wr)) (fun _ i _ => n5 - (intOf i).toNat)
  case atStart => exact ⟨0, none, 0, [], Nat.zero_le _, rfl, rfl, Nat.le_refl _, by omega, Lib.hid ⟨rfl, own_nil _ _ _, fun i u hu => by simp at hu⟩, Lib.hid rfl, Lib.hid (Below.refl _ _)⟩
  case round =>
    obtain ⟨j, ar, cr, us, hj, rfl, rfl, hjr, hcr, HO, HU, HB⟩ := hrel
    by_cases hjn : j < n5
    · obtain ⟨b5, o5, ax, m, cx, e5, q0, hm, hmx, hcx, hrow⟩ := rdRows_at'' HV5.out hjn
      subst e5
      have q1 := (HB.out.cell (p := ⟨b5, o5 + j, none⟩) (World.block_lt_of_cell? W2 _ q0)).trans q0
      have HRW := Lib.hid (hrow.below HB.out)
      have hml := HLR.out.2 j (by have := HN5.out; omega)
      have HM := Lib.hid hm
      have HML := Lib.hid hml
      clear q0 hrow hm hml
      go_wp2_with fail
      refine (icopyInts_all _ _ wr HRW.out HML.out).mono ?_
      rintro e w3 ⟨v3, rfl, o3, b3⟩
      obtain ⟨p3, r3, e3, hp3, hr3⟩ := own_form o3
      rw [← HM.out] at e3
      subst e3
      have hO3 := HO.out.below b3
      have HO3 := Lib.hid hO3
      have H3 := Lib.hid o3
      have HB3 := Lib.hid (HB.out.trans (b3.mono HB.out.size))
      have hown : (w3.alloc (.cells #[.slice p3 m r3] 32)).ownsRow W2.heap.size 32 1 (.slice ar j cr) j us := by
        have := own_below hO3.2.1 ((Below.refl w3.heap.size w3).alloc (Nat.le_refl _) (.cells #[.slice p3 m r3] 32))
        rw [HU.out] at this
        exact this
      have hs3 : W2.heap.size ≤ w3.heap.size := HB3.out.size
      clear hO3 o3 b3 q1
      go_wp2_with (at_builtin; refine wpList_append_own _ rfl _ _ 44 rfl W2.heap.size 32 i0 (.slice none 0 0) 1 24 Try.underlying44 hi hz0 hz1 hz2 rfl (by decide) _ _ _ rfl hown ⟨w3.heap.size, 0, none⟩ 1 1 [.slice p3 m r3] rfl rfl (cell_one_new _ _ _) (by simp [Value.oneCell']) (by unfold maxLen; omega) (by omega) (by simp; omega) ?_; intro v' w6 hown' hgrow _; obtain ⟨ar', cr', ev', hl', hm'⟩ := own_form hown'; obtain ⟨j', hj'⟩ : ∃ j', j' = j + 1 := ⟨_, rfl⟩; rw [← hj'] at hown' ev' hl'; unfold maxLen at hm'; subst ev'; have HJ := Lib.hid hj'; have HOW := Lib.hid hown'; have HGR := Lib.hid hgrow; clear hown' hgrow hj')
      have hge : ∀ q, Value.ownBlock (.slice ar j cr) = some q → W2.heap.size ≤ q := fun q e => (hown.lt q e).1
      have HB6 := Lib.hid (HB3.out.trans (((Below.refl W2.heap.size w3).alloc hs3 _).grown HGR.out (by simp; omega) hge))
      have HO6 : Hid (RowsOwn 0 W2.heap.size w6 (.slice ar' j' cr') (us ++ [.slice p3 m r3]) (c.rows.take j')) := Lib.hid (by
        rw [HJ.out, List.take_add_one, show c.rows[j]? = some (c.rows[j]?.getD []) from by rw [List.getElem?_eq_getElem (by have := HN5.out; omega)]; rfl]
        exact HO3.out.snoc (u := .slice p3 m r3) (own_mono H3.out HB.out.size) HGR.out (by rw [HU.out, ← HJ.out]; exact HOW.out))
      have HU6 : Hid ((us ++ [Value.slice p3 m r3]).length = j') := Lib.hid (by rw [List.length_append, HU.out, HJ.out]; rfl)
      have hjj : j' ≤ n5 ∧ n5 - j' < n5 - j := by have := HJ.out; omega
      have HJJ := Lib.hid hjj
      have hji : (j : Int) + 1 = (j' : Int) := by have := HJ.out; omega
      have HJI := Lib.hid hji
      clear hown hge hjj hji HO HU HB HO3 H3 HB3 HOW HGR hs3
      go_wp2
      go_roundw
      case rel => exact ⟨j', ar', cr', _, HJJ.out.1, by rw [HJI.out], rfl, hl', by omega, HO6, HU6, HB6⟩
      case measure => rw [HJI.out]; simp [intOf]; exact HJJ.out.2
    · obtain ⟨mr, hmr⟩ : ∃ mr, mr = j := ⟨_, rfl⟩
      have HMR := Lib.hid hmr
      have hjn5 : j = n5 := by omega
      have HROWS : Hid (RowsOwn 0 W2.heap.size wr (.slice ar mr cr) us c.rows) := Lib.hid (by
        have := HO.out
        rw [List.take_of_length_le (by have := HN5.out; omega)] at this
        rw [hmr]; exact this)
      rw [← hmr] at hjr ⊢
      have hmn : ¬ mr < n5 := by omega
      clear hmr HO HU hjn hj hjn5
      have HSK : Hid (∀ W, Below wr.heap.size wr W → W.cell? ⟨C, 1, none⟩ = some (.slice a1 n1 c1) ∧ W.cell? ⟨C, 2, none⟩ = some (.slice a2 n2 c2)) := Lib.hid (fun W hb => by
        have hB := HB.out.trans (hb.mono HB.out.size)
        have h : Blk5 W C 53 (.int .i64 kd) (.slice a1 n1 c1) (.slice a2 n2 c2) (.int .i64 bd) (.slice a5 n5 c5) := (hB.block C (by have := HCR.out; omega)).trans HBC2.out
        exact ⟨h.cell.2.1, h.cell.2.2.1⟩)
      have HBC : Hid (∀ W, Below wr.heap.size wr W → Blk5 W C 53 (.int .i64 kd) (.slice a1 n1 c1) (.slice a2 n2 c2) (.int .i64 bd) (.slice a5 n5 c5) ∧ (W.frozen? ⟨C, 0, none⟩ = false ∧ W.frozen? ⟨C, 1, none⟩ = false ∧ W.frozen? ⟨C, 2, none⟩ = false ∧ W.frozen? ⟨C, 3, none⟩ = false ∧ W.frozen? ⟨C, 4, none⟩ = false)) := Lib.hid (fun W hb => by
        have hB := HB.out.trans (hb.mono HB.out.size)
        have h : Blk5 W C 53 (.int .i64 kd) (.slice a1 n1 c1) (.slice a2 n2 c2) (.int .i64 bd) (.slice a5 n5 c5) := (hB.block C (by have := HCR.out; omega)).trans HBC2.out
        exact ⟨h, h.frozen⟩)
      have hS := HSK.out wr.drew (Below.refl _ wr).drew
      have HS := Lib.hid hS
      have HVX1 := Lib.hid (HV1.out.below (HB.out.drew))
      have HVX2 := Lib.hid (HV2.out.below (HB.out.drew))
      clear hS HV1 HV2
      have HV1 := HVX1
      have HV2 := HVX2
      clear HVX1 HVX2
      go_wp2_with fail
      have hS := HS.out
      refine region_z (fun W => W.cell? ⟨C, 1, none⟩ = some (.slice a1 n1 c1) ∧ W.cell? ⟨C, 2, none⟩ = some (.slice a2 n2 c2)) (fun i => i == 8 || i == 10 || i == 12) rfl ?_
      change wpAnyZ Try.prog .any _ _ _ _ 13 _ (cpAct _ _ _ _ _ _ _ _ _ _ _ _ _ _ _ _ _ _ _ _ _ _ _ _ _ _ _ _ _ _) wr.drew
      refine wpAnyZ_takeW (i := 0) (v := .pointer (some ⟨C, 1, none⟩)) rfl (by kernel_rfl) (by kernel_rfl) (by kernel_rfl) (fun _ _ _ h => h) (.inl ⟨rfl, fun w' hw' => k_field1 rfl rfl⟩) ?_
      change wpAnyZ Try.prog .any _ _ _ _ 12 _ (cpAct _ _ _ _ _ _ _ _ _ _ _ _ _ _ _ _ _ _ _ (.pointer (some ⟨C, 1, none⟩)) _ _ _ _ _ _ _ _ _ _) wr.drew
      refine wpAnyZ_take (i := 1) (v := .slice a1 n1 c1) rfl (by kernel_rfl) (by kernel_rfl) (by kernel_rfl) (by kernel_rfl) (fun _ _ _ h => h) (.inl ⟨rfl, fun w' hw' => exec_load rfl rfl (k_loadI w' _ _ _ _ _ hw'.1)⟩) hS ?_
      change wpAnyZ Try.prog .any _ _ _ _ 11 _ (cpAct _ _ _ _ _ _ _ _ _ _ _ _ _ _ _ _ _ _ _ (.pointer (some ⟨C, 1, none⟩)) (.slice a1 n1 c1) _ _ _ _ _ _ _ _ _) wr.drew
      refine wpAnyZ_takeW (i := 3) (v := .pointer (some ⟨C, 2, none⟩)) rfl (by kernel_rfl) (by kernel_rfl) (by kernel_rfl) (fun _ _ _ h => h) (.inl ⟨rfl, fun w' hw' => k_field2 rfl rfl⟩) ?_
      change wpAnyZ Try.prog .any _ _ _ _ 10 _ (cpAct _ _ _ _ _ _ _ _ _ _ _ _ _ _ _ _ _ _ _ (.pointer (some ⟨C, 1, none⟩)) (.slice a1 n1 c1) _ (.pointer (some ⟨C, 2, none⟩)) _ _ _ _ _ _ _) wr.drew
      refine wpAnyZ_take (i := 4) (v := .slice a2 n2 c2) rfl (by kernel_rfl) (by kernel_rfl) (by kernel_rfl) (by kernel_rfl) (fun _ _ _ h => h) (.inl ⟨rfl, fun w' hw' => exec_load rfl rfl (k_loadI w' _ _ _ _ _ hw'.2)⟩) hS ?_
      change wpAnyZ Try.prog .any _ _ _ _ 9 _ (cpAct _ _ _ _ _ _ _ _ _ _ _ _ _ _ _ _ _ _ _ (.pointer (some ⟨C, 1, none⟩)) (.slice a1 n1 c1) _ (.pointer (some ⟨C, 2, none⟩)) (.slice a2 n2 c2) _ _ _ _ _ _) wr.drew
      refine wpAnyZ_takeW (i := 6) (v := .slice ar mr cr) rfl (by kernel_rfl) (by kernel_rfl) (by kernel_rfl) (fun _ _ _ h => h) (.inl ⟨rfl, fun w' hw' => rfl⟩) ?_
      change wpAnyZ Try.prog .any _ _ _ _ 8 _ (cpAct _ _ _ _ _ _ _ _ _ _ _ _ _ _ _ _ _ _ _ (.pointer (some ⟨C, 1, none⟩)) (.slice a1 n1 c1) _ (.pointer (some ⟨C, 2, none⟩)) (.slice a2 n2 c2) _ (.slice ar mr cr) _ _ _ _) wr.drew
      refine wpAnyZ_one (i := 2) (by kernel_rfl) rfl (fun K' hK' => ?_)
      refine step_call1 _ rfl 113 _ _ _ rfl rfl (enters_of Try.func113 (by kernel_rfl) rfl) _ (icopyInts_all (.slice a1 n1 c1) c.vars wr.drew HV1.out HLV.out) (fun c w' h => by obtain ⟨_, h, _⟩ := h; cases h) (fun w' h => by obtain ⟨_, h, _⟩ := h; cases h) ?_
      rintro vz w5 ⟨v5, ev, o5, b5⟩
      obtain rfl : vz = v5 := by injection ev
      obtain ⟨p1, q1, ep1, hp1, hq1⟩ := own_form o5
      rw [← HN1.out] at ep1
      subst ep1
      have hb5 : Below wr.heap.size wr w5 := (Below.refl _ wr).drew.trans b5
      have hS5 := HSK.out w5 hb5
      refine hK'.out _ _ (fun _ _ => hS5) ?_
      clear hK' K'
      change wpAnyZ Try.prog .any _ _ _ _ 7 _ (cpAct _ _ _ _ _ _ _ _ _ _ _ _ _ _ _ _ _ _ _ (.pointer (some ⟨C, 1, none⟩)) (.slice a1 n1 c1) (.slice p1 n1 q1) (.pointer (some ⟨C, 2, none⟩)) (.slice a2 n2 c2) _ (.slice ar mr cr) _ _ _ _) w5
      refine wpAnyZ_takeW (i := 7) (v := .pointer (some ⟨C, 1, none⟩)) rfl (by kernel_rfl) (by kernel_rfl) (by kernel_rfl) (fun _ _ _ h => h) (.inl ⟨rfl, fun w' hw' => k_field1 rfl rfl⟩) ?_
      change wpAnyZ Try.prog .any _ _ _ _ 6 _ (cpAct _ _ _ _ _ _ _ _ _ _ _ _ _ _ _ _ _ _ _ (.pointer (some ⟨C, 1, none⟩)) (.slice a1 n1 c1) (.slice p1 n1 q1) (.pointer (some ⟨C, 2, none⟩)) (.slice a2 n2 c2) _ (.slice ar mr cr) (.pointer (some ⟨C, 1, none⟩)) _ _ _) w5
      refine wpAnyZ_one (i := 5) (by kernel_rfl) rfl (fun K' hK' => ?_)
      have hb5' : Below wr.drew.heap.size wr.drew w5 := b5
      refine step_call1 _ rfl 113 _ _ _ rfl rfl (enters_of Try.func113 (by kernel_rfl) rfl) _ (icopyInts_all (.slice a2 n2 c2) c.args w5 (HV2.out.below hb5') HLA.out) (fun c w' h => by obtain ⟨_, h, _⟩ := h; cases h) (fun w' h => by obtain ⟨_, h, _⟩ := h; cases h) ?_
      rintro vz w6 ⟨v6, ev, o6, b6⟩
      obtain rfl : vz = v6 := by injection ev
      obtain ⟨p2, q2, ep2, hp2, hq2⟩ := own_form o6
      rw [← HN2.out] at ep2
      subst ep2
      have hb6 : Below wr.heap.size wr w6 := hb5.trans (b6.mono hb5.size)
      have hS6 := HSK.out w6 hb6
      refine hK'.out _ _ (fun _ _ => hS6) ?_
      clear hK' K'
      change wpAnyZ Try.prog .any _ _ _ _ 5 _ (cpAct _ _ _ _ _ _ _ _ _ _ _ _ _ _ _ _ _ _ _ (.pointer (some ⟨C, 1, none⟩)) (.slice a1 n1 c1) (.slice p1 n1 q1) (.pointer (some ⟨C, 2, none⟩)) (.slice a2 n2 c2) (.slice p2 n2 q2) (.slice ar mr cr) (.pointer (some ⟨C, 1, none⟩)) _ _ _) w6
      refine wpAnyZ_one (i := 8) (by kernel_rfl) rfl (fun K' hK' => ?_)
      obtain ⟨bc6, fc6⟩ := HBC.out w6 hb6
      refine step_skip _ (w6.setCell ⟨C, 1, none⟩ (.slice p1 n1 q1)) rfl (exec_store rfl rfl rfl (k_storeI w6 C 1 a1 p1 n1 c1 n1 q1 bc6.cell.2.1 fc6.2.1)) ?_
      have bc7 : Blk5 (w6.setCell ⟨C, 1, none⟩ (.slice p1 n1 q1)) C 53 (.int .i64 kd) (.slice p1 n1 q1) (.slice a2 n2 c2) (.int .i64 bd) (.slice a5 n5 c5) := bc6.set 1 _
      refine hK'.out _ _ (fun h => by cases h) ?_
      clear hK' K'
      change wpAnyZ Try.prog .any _ _ _ _ 4 _ (cpAct _ _ _ _ _ _ _ _ _ _ _ _ _ _ _ _ _ _ _ (.pointer (some ⟨C, 1, none⟩)) (.slice a1 n1 c1) (.slice p1 n1 q1) (.pointer (some ⟨C, 2, none⟩)) (.slice a2 n2 c2) (.slice p2 n2 q2) (.slice ar mr cr) (.pointer (some ⟨C, 1, none⟩)) _ _ _) (w6.setCell ⟨C, 1, none⟩ (.slice p1 n1 q1))
      refine wpAnyZ_takeW (i := 9) (v := .pointer (some ⟨C, 2, none⟩)) rfl (by kernel_rfl) (by kernel_rfl) (by kernel_rfl) (fun _ _ _ h => h) (.inl ⟨rfl, fun w' hw' => k_field2 rfl rfl⟩) ?_
      change wpAnyZ Try.prog .any _ _ _ _ 3 _ (cpAct _ _ _ _ _ _ _ _ _ _ _ _ _ _ _ _ _ _ _ (.pointer (some ⟨C, 1, none⟩)) (.slice a1 n1 c1) (.slice p1 n1 q1) (.pointer (some ⟨C, 2, none⟩)) (.slice a2 n2 c2) (.slice p2 n2 q2) (.slice ar mr cr) (.pointer (some ⟨C, 1, none⟩)) (.pointer (some ⟨C, 2, none⟩)) _ _) (w6.setCell ⟨C, 1, none⟩ (.slice p1 n1 q1))
      refine wpAnyZ_one (i := 10) (by kernel_rfl) rfl (fun K' hK' => ?_)
      refine step_skip _ ((w6.setCell ⟨C, 1, none⟩ (.slice p1 n1 q1)).setCell ⟨C, 2, none⟩ (.slice p2 n2 q2)) rfl (exec_store rfl rfl rfl (k_storeI (w6.setCell ⟨C, 1, none⟩ (.slice p1 n1 q1)) C 2 a2 p2 n2 c2 n2 q2 bc7.cell.2.2.1 bc7.frozen.2.2.1)) ?_
      have bc8 : Blk5 ((w6.setCell ⟨C, 1, none⟩ (.slice p1 n1 q1)).setCell ⟨C, 2, none⟩ (.slice p2 n2 q2)) C 53 (.int .i64 kd) (.slice p1 n1 q1) (.slice p2 n2 q2) (.int .i64 bd) (.slice a5 n5 c5) := bc7.set 2 _
      refine hK'.out _ _ (fun h => by cases h) ?_
      clear hK' K'
      change wpAnyZ Try.prog .any _ _ _ _ 2 _ (cpAct _ _ _ _ _ _ _ _ _ _ _ _ _ _ _ _ _ _ _ (.pointer (some ⟨C, 1, none⟩)) (.slice a1 n1 c1) (.slice p1 n1 q1) (.pointer (some ⟨C, 2, none⟩)) (.slice a2 n2 c2) (.slice p2 n2 q2) (.slice ar mr cr) (.pointer (some ⟨C, 1, none⟩)) (.pointer (some ⟨C, 2, none⟩)) _ _) ((w6.setCell ⟨C, 1, none⟩ (.slice p1 n1 q1)).setCell ⟨C, 2, none⟩ (.slice p2 n2 q2))
      refine wpAnyZ_takeW (i := 11) (v := .pointer (some ⟨C, 4, none⟩)) rfl (by kernel_rfl) (by kernel_rfl) (by kernel_rfl) (fun _ _ _ h => h) (.inl ⟨rfl, fun w' hw' => k_field4 rfl rfl⟩) ?_
      change wpAnyZ Try.prog .any _ _ _ _ 1 _ (cpAct _ _ _ _ _ _ _ _ _ _ _ _ _ _ _ _ _ _ _ (.pointer (some ⟨C, 1, none⟩)) (.slice a1 n1 c1) (.slice p1 n1 q1) (.pointer (some ⟨C, 2, none⟩)) (.slice a2 n2 c2) (.slice p2 n2 q2) (.slice ar mr cr) (.pointer (some ⟨C, 1, none⟩)) (.pointer (some ⟨C, 2, none⟩)) (.pointer (some ⟨C, 4, none⟩)) _) ((w6.setCell ⟨C, 1, none⟩ (.slice p1 n1 q1)).setCell ⟨C, 2, none⟩ (.slice p2 n2 q2))
      refine wpAnyZ_one (i := 12) (by kernel_rfl) rfl (fun K' hK' => ?_)
      refine step_skip _ (((w6.setCell ⟨C, 1, none⟩ (.slice p1 n1 q1)).setCell ⟨C, 2, none⟩ (.slice p2 n2 q2)).setCell ⟨C, 4, none⟩ (.slice ar mr cr)) rfl (exec_store rfl rfl rfl (k_storeR ((w6.setCell ⟨C, 1, none⟩ (.slice p1 n1 q1)).setCell ⟨C, 2, none⟩ (.slice p2 n2 q2)) C 4 a5 ar n5 c5 mr cr bc8.cell.2.2.2.2 bc8.frozen.2.2.2.2)) ?_
      have bc9 : Blk5 (((w6.setCell ⟨C, 1, none⟩ (.slice p1 n1 q1)).setCell ⟨C, 2, none⟩ (.slice p2 n2 q2)).setCell ⟨C, 4, none⟩ (.slice ar mr cr)) C 53 (.int .i64 kd) (.slice p1 n1 q1) (.slice p2 n2 q2) (.int .i64 bd) (.slice ar mr cr) := bc8.set 4 _
      refine hK'.out _ _ (fun h => by cases h) ?_
      clear hK' K'
      change wpAnyZ Try.prog .any _ _ _ _ 0 _ (cpAct _ _ _ _ _ _ _ _ _ _ _ _ _ _ _ _ _ _ _ (.pointer (some ⟨C, 1, none⟩)) (.slice a1 n1 c1) (.slice p1 n1 q1) (.pointer (some ⟨C, 2, none⟩)) (.slice a2 n2 c2) (.slice p2 n2 q2) (.slice ar mr cr) (.pointer (some ⟨C, 1, none⟩)) (.pointer (some ⟨C, 2, none⟩)) (.pointer (some ⟨C, 4, none⟩)) _) (((w6.setCell ⟨C, 1, none⟩ (.slice p1 n1 q1)).setCell ⟨C, 2, none⟩ (.slice p2 n2 q2)).setCell ⟨C, 4, none⟩ (.slice ar mr cr))
      refine wpAnyZ_done (by kernel_rfl) ?_ _
      unfold cpAct
      have hw6 : Below W2.heap.size W2 w6 := HB.out.trans (hb6.mono HB.out.size)
      have hkeep : ∀ b, b ≠ C → (((w6.setCell ⟨C, 1, none⟩ (.slice p1 n1 q1)).setCell ⟨C, 2, none⟩ (.slice p2 n2 q2)).setCell ⟨C, 4, none⟩ (.slice ar mr cr)).heap[b]? = w6.heap[b]? := fun b hb => by
        rw [Below.heap_setCell _ _ _ _ (by exact hb), Below.heap_setCell _ _ _ _ (by exact hb), Below.heap_setCell _ _ _ _ (by exact hb)]
      have hbr9 : Blk5 (((w6.setCell ⟨C, 1, none⟩ (.slice p1 n1 q1)).setCell ⟨C, 2, none⟩ (.slice p2 n2 q2)).setCell ⟨C, 4, none⟩ (.slice ar mr cr)) R 53 (.int .i64 0) (.slice none 0 0) (.slice none 0 0) (.int .i64 0) (.slice none 0 0) := (hkeep R (by have := HCR.out; omega)).trans ((hw6.block R (by have := HCR.out; omega)).trans HBR2.out)
      have hCW : C < W2.heap.size := by have := HCR.out; omega
      have hsz : W2.heap.size ≤ wr.heap.size := HB.out.size
      have hown1 : w6.ownsRow wr.heap.size 3 1 (.slice p1 n1 q1) c.vars.length (c.vars.map (Value.int .i64)) := own_below o5 b6
      have hkR : ∀ (W : World) (b : Nat), W2.heap.size ≤ b → (putR W R (.int .i64 kd) (.slice p1 n1 q1) (.slice p2 n2 q2) (.int .i64 bd) (.slice ar mr cr)).heap[b]? = W.heap[b]? := fun W b hb => by
        have hne : b ≠ R := by have := HCR.out; omega
        unfold putR
        rw [Below.heap_setCell _ _ _ _ (by exact hne), Below.heap_setCell _ _ _ _ (by exact hne), Below.heap_setCell _ _ _ _ (by exact hne), Below.heap_setCell _ _ _ _ (by exact hne), Below.heap_setCell _ _ _ _ (by exact hne)]
      have hkk : ∀ b, W2.heap.size ≤ b → (putR (((w6.setCell ⟨C, 1, none⟩ (.slice p1 n1 q1)).setCell ⟨C, 2, none⟩ (.slice p2 n2 q2)).setCell ⟨C, 4, none⟩ (.slice ar mr cr)) R (.int .i64 kd) (.slice p1 n1 q1) (.slice p2 n2 q2) (.int .i64 bd) (.slice ar mr cr)).heap[b]? = w6.heap[b]? := fun b hb => (hkR _ b hb).trans (hkeep b (by omega))
      have hbel : Below w.heap.size w (putR (((w6.setCell ⟨C, 1, none⟩ (.slice p1 n1 q1)).setCell ⟨C, 2, none⟩ (.slice p2 n2 q2)).setCell ⟨C, 4, none⟩ (.slice ar mr cr)) R (.int .i64 kd) (.slice p1 n1 q1) (.slice p2 n2 q2) (.int .i64 bd) (.slice ar mr cr)) := by
        have hCw : w.heap.size ≤ C := HCR.out.2.2
        have hRw : w.heap.size ≤ R := by have := HCR.out; omega
        unfold putR
        exact (((((((((HB2.out.trans (hw6.mono HB2.out.size)).setCell (by exact hCw) _).setCell (by exact hCw) _).setCell (by exact hCw) _).setCell (by exact hRw) _).setCell (by exact hRw) _).setCell (by exact hRw) _).setCell (by exact hRw) _).setCell (by exact hRw) _)
      have HFIN : Hid (CopyCE c w (.returned (.agg #[.int .i64 kd, .slice p1 n1 q1, .slice p2 n2 q2, .int .i64 bd, .slice ar mr cr])) (putR (((w6.setCell ⟨C, 1, none⟩ (.slice p1 n1 q1)).setCell ⟨C, 2, none⟩ (.slice p2 n2 q2)).setCell ⟨C, 4, none⟩ (.slice ar mr cr)) R (.int .i64 kd) (.slice p1 n1 q1) (.slice p2 n2 q2) (.int .i64 bd) (.slice ar mr cr))) := Lib.hid (by
        refine ⟨.slice p1 n1 q1, .slice p2 n2 q2, .slice ar mr cr, by rw [HKB.out.1, HKB.out.2], ⟨?_, ?_, us, ?_⟩, hbel⟩
        · exact own_mono (own_keepB hown1 (fun b hb => hkk b (by have := (hown1.lt b hb).1; omega))) (by have := HB2.out.size; omega)
        · exact own_mono (own_keepB o6 (fun b hb => hkk b (by have := (o6.lt b hb).1; have := b5.size; simp at this; omega))) (by have := HB2.out.size; have := b5.size; simp at this; omega)
        · have h1 := (HROWS.out.below hb6).keepH hkk
          exact ⟨h1.1, own_mono h1.2.1 HB2.out.size, fun i u hu => own_mono (h1.2.2 i u hu) HB2.out.size⟩)
      obtain ⟨y0, y1, y2, y3, y4⟩ := bc9.cell
      obtain ⟨z0, z1, z2, z3, z4⟩ := hbr9.cell
      obtain ⟨f0, f1, f2, f3, f4⟩ := hbr9.frozen
      have HQ := Lib.hid (putR_blk hbr9 (.int .i64 kd) (.slice p1 n1 q1) (.slice p2 n2 q2) (.int .i64 bd) (.slice ar mr cr)).cell
      clear hS hS5 hS6 hb5 hb6 hb5' bc6 fc6 bc7 bc8 bc9 hbr9 hkeep hkR hkk hbel hown1 o5 o6 b5 b6 hw6 ev
      go_wp2
      have hq := HQ.out
      simp only [putR] at hq
      obtain ⟨q0', q1', q2', q3', q4'⟩ := hq
      refine bodyPost_ret (v := .agg #[.int .i64 kd, .slice p1 n1 q1, .slice p2 n2 q2, .int .i64 bd, .slice ar mr cr]) (by simp [results, Try.results105, go_sem, q0', q1', q2', q3', q4']) rfl ?_
      exact HFIN.out
end Go.Proofs.Ytjdbfiiaadphhaa
