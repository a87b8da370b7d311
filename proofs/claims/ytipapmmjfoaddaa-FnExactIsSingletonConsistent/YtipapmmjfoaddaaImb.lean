/- The values of a domain whose probe fails: the program's. -/
import Derived.Test.YtipapmmjfoaddaaPrb
import Derived.Test.YtipapmmjfoaddaaEx
import Derived.Test.YtipapmmjfoaddaaOrdX
namespace Go.Proofs.Ytipapmmjfoaddaa
open Go.ChangeShapes Go.WideShapes Go.ChangeAt Go.RowKit Go.Shelf
set_option linter.unusedVariables false
set_option linter.unusedSimpArgs false

attribute [local go_sem] Oper.semAt_some

/-- Does the value u of variable v fail? -/
def flB (cs : List Con) (d : List Int) (v : Nat) (u : Int) : Bool := hasB (d[v]?.getD 0) u && failB cs d v u.toNat
/-- The values below k whose probe fails. -/
def impV (cs : List Con) (d : List Int) (v k : Nat) : Int := setB fun u => decide (u < (k : Int)) && flB cs d v u
theorem setB_congr {q r : Int → Bool} (h : ∀ u, 0 ≤ u → u ≤ 5 → q u = r u) : setB q = setB r := by
  unfold setB
  rw [h 0 (by omega) (by omega), h 1 (by omega) (by omega), h 2 (by omega) (by omega), h 3 (by omega) (by omega), h 4 (by omega) (by omega), h 5 (by omega) (by omega)]
theorem or_setB_fin : ∀ b0 b1 b2 b3 b4 b5 : Bool, ∀ k : Fin 6, bits .or .i64 ((if b0 then 1 else 0) + (if b1 then 2 else 0) + (if b2 then 4 else 0) + (if b3 then 8 else 0) + (if b4 then 16 else 0) + (if b5 then 32 else 0)) (wrap64 (2 ^ k.val)) = (if (b0 || decide ((0 : Int) = ((k.val : Nat) : Int))) then 1 else 0) + (if (b1 || decide ((1 : Int) = ((k.val : Nat) : Int))) then 2 else 0) + (if (b2 || decide ((2 : Int) = ((k.val : Nat) : Int))) then 4 else 0) + (if (b3 || decide ((3 : Int) = ((k.val : Nat) : Int))) then 8 else 0) + (if (b4 || decide ((4 : Int) = ((k.val : Nat) : Int))) then 16 else 0) + (if (b5 || decide ((5 : Int) = ((k.val : Nat) : Int))) then 32 else 0) := by decide +kernel
theorem or_setB (q : Int → Bool) {k : Nat} (hk : k < 6) : bits .or .i64 (setB q) (wrap64 (2 ^ k)) = setB (fun u => q u || decide (u = (k : Int))) := or_setB_fin (q 0) (q 1) (q 2) (q 3) (q 4) (q 5) ⟨k, hk⟩
theorem impV_zero (cs : List Con) (d : List Int) (v : Nat) : impV cs d v 0 = 0 := by
  have : impV cs d v 0 = setB (fun _ => false) := setB_congr (fun u h0 h5 => by
    rw [decide_eq_false (by omega)]
    rfl)
  rw [this]
  rfl
theorem impV_no {cs : List Con} {d : List Int} {v k : Nat} (h : flB cs d v k = false) : impV cs d v (k + 1) = impV cs d v k := setB_congr (fun u h0 h5 => by
  by_cases e : u = (k : Int)
  · subst e
    rw [h, Bool.and_false, Bool.and_false]
  · have : decide (u < ((k + 1 : Nat) : Int)) = decide (u < (k : Int)) := by
      rw [decide_eq_decide]
      omega
    rw [this])
theorem impV_yes {cs : List Con} {d : List Int} {v k : Nat} (hk : k < 6) (h : flB cs d v k = true) : bits .or .i64 (impV cs d v k) (wrap64 (2 ^ k)) = impV cs d v (k + 1) := by
  unfold impV
  rw [or_setB _ hk]
  refine setB_congr (fun u h0 h5 => ?_)
  by_cases e : u = (k : Int)
  · subst e
    rw [h, decide_eq_true (show (k : Int) < ((k + 1 : Nat) : Int) by omega)]
    simp
  · have : decide (u < ((k + 1 : Nat) : Int)) = decide (u < (k : Int)) := by
      rw [decide_eq_decide]
      omega
    rw [this, decide_eq_false e, Bool.or_false]
theorem flB_of {cs : List Con} {d : List Int} {v k : Nat} (h : hasB (d[v]?.getD 0) k = true) : flB cs d v k = emptyB (proL cs (fixL d v k)) := by
  unfold flB failB
  rw [h]
  rfl
theorem flB_not {cs : List Con} {d : List Int} {v k : Nat} (h : hasB (d[v]?.getD 0) k = false) : flB cs d v k = false := by
  unfold flB
  rw [h]
  rfl

/-- What stands while the values are probed. -/
structure ImSt (w : World) (S : Nat) (pv sv : Value) (v : Nat) (x z : Int) (X : World) : Prop where
  b : Below w.heap.size w X
  e : Boxed X S 57 pv
  d : Boxed X (S + 1) 22 sv
  v : Boxed X (S + 1 + 1) 3 (.int .i64 v)
  z : Boxed X (S + 1 + 1 + 1) 3 (.int .i64 z)
  s : Boxed X (S + 4) 92 (.int .i64 x)
  sz : S + 5 ≤ X.heap.size
theorem ImSt.grown {w : World} {S : Nat} {pv sv : Value} {v : Nat} {x z : Int} {X Y : World} {row : Option Nat} (h : ImSt w S pv sv v x z X) (hg : X.grownBy Y row) (hr : ∀ r, row = some r → w.heap.size ≤ r ∧ ∃ o : Obj, X.heap[r]? = some o ∧ o.isCells = false) : ImSt w S pv sv v x z Y := by
  have hr' := fun r e => (hr r e).2
  exact ⟨h.b.grown hg h.b.size (fun r e => (hr r e).1), boxed_grown h.e hg hr', boxed_grown h.d hg hr', boxed_grown h.v hg hr', boxed_grown h.z hg hr', boxed_grown h.s hg hr', Nat.le_trans h.sz hg.size⟩
theorem ImSt.below {w : World} {S : Nat} {pv sv : Value} {v : Nat} {x z : Int} {X Y : World} (h : ImSt w S pv sv v x z X) (hb : Below X.heap.size X Y) : ImSt w S pv sv v x z Y :=
  ⟨h.b.trans (hb.mono h.b.size), (hb.block _ h.e.lt).trans h.e, (hb.block _ h.d.lt).trans h.d, (hb.block _ h.v.lt).trans h.v, (hb.block _ h.z.lt).trans h.z, (hb.block _ h.s.lt).trans h.s, Nat.le_trans h.sz hb.size⟩

theorem ImSt.put {w : World} {S : Nat} {pv sv : Value} {v : Nat} {x z : Int} {X : World} (h : ImSt w S pv sv v x z X) (hS : S = w.heap.size) (y : Int) : ImSt w S pv sv v x y (X.setCell ⟨S + 1 + 1 + 1, 0, none⟩ (.int .i64 y)) := by
  have hset : ∀ b', b' ≠ S + 1 + 1 + 1 → (X.setCell ⟨S + 1 + 1 + 1, 0, none⟩ (.int .i64 y)).heap[b']? = X.heap[b']? := fun b' hb' => Below.heap_setCell _ _ _ _ (by show b' ≠ S + 1 + 1 + 1; exact hb')
  exact ⟨h.b.setCell (by show w.heap.size ≤ S + 1 + 1 + 1; omega) _, (hset _ (by omega)).trans h.e, (hset _ (by omega)).trans h.d, (hset _ (by omega)).trans h.v, h.z.set _, (hset _ (by omega)).trans h.s, by simpa using h.sz⟩
theorem alloc4I (W : World) (o0 o1 o2 o3 : Obj) : let W0 := (((W.alloc o0).alloc o1).alloc o2).alloc o3
    W0.heap.size = W.heap.size + 4 ∧ W0.heap[W.heap.size]? = some o0 ∧ W0.heap[W.heap.size + 1]? = some o1 ∧ W0.heap[W.heap.size + 1 + 1]? = some o2 ∧ W0.heap[W.heap.size + 1 + 1 + 1]? = some o3 := by
  have h := alloc5 W o0 o1 o2 o3 o3
  show ((((W.heap.push o0).push o1).push o2).push o3).size = _ ∧ ((((W.heap.push o0).push o1).push o2).push o3)[W.heap.size]? = _ ∧ ((((W.heap.push o0).push o1).push o2).push o3)[W.heap.size + 1]? = _ ∧ ((((W.heap.push o0).push o1).push o2).push o3)[W.heap.size + 1 + 1]? = _ ∧ ((((W.heap.push o0).push o1).push o2).push o3)[W.heap.size + 1 + 1 + 1]? = _
  simp only [Array.getElem?_push, Array.size_push]
  refine ⟨by first | trivial | omega, ?_, ?_, ?_, ?_⟩
  · rw [if_neg (by omega), if_neg (by omega), if_neg (by omega), if_pos trivial]
  · rw [if_neg (by omega), if_neg (by omega), if_pos trivial]
  · rw [if_neg (by omega), if_pos trivial]
  · rw [if_pos trivial]
set_option maxRecDepth 100000 in
theorem shl_intsI (w : World) (x y : Operand) (a : Nat) (m : Int) (ha : a ≤ 5) (hm : m = wrap64 (2 ^ a)) : (do eqGuard .shl 3 x y (.int .i64 1) (.int .i64 a); binOp .shl 3 (.int .i64 1) (.int .i64 a) : Sem Value).run Try.prog w = .ok (.int .i64 m) w := by
  subst hm
  go_simp
  first | exact IntWalk.i64_left _ | (rw [show min a 64 = a by omega]; rfl) | trace_state
/-- The activation inside the drawn region. -/
def imX (z0 z1 z2 z3 z4 z5 z6 z7 z8 z9 z10 z11 z12 z13 z14 z15 z16 z17 z18 z19 z20 z21 z22 z23 z24 z25 : Value) : Act := { tmps := #[z0, z1, z2, z3, z4, z5, z6, z7, z8, z9, z10, z11, z12, z13, z14, z15, z16, z17, z18, z19, z20, z21, z22, z23, z24, z25], defers := [] }
/-- The activation inside the loop over the values. -/
def imAct (S : Nat) (pv sv : Value) (b off v : Nat) (x : Int) (k : Nat) (x15 x16 x17 x18 x19 x20 x21 x22 x23 x24 : Value) : Act := { tmps := #[.agg #[pv], sv, .int .i64 v, .pointer (some ⟨S, 0, none⟩), .pointer (some ⟨S + 1, 0, none⟩), .pointer (some ⟨S + 1 + 1, 0, none⟩), .int .i64 0, .pointer (some ⟨S + 1 + 1 + 1, 0, none⟩), .int .i64 k, sv, .int .i64 v, .pointer (some ⟨b, off + v, none⟩), .int .i64 x, .func (.func 86) #[] #[.pointer (some ⟨S + 4, 0, none⟩)], .int .i64 k, x15, x16, x17, x18, x19, x20, x21, x22, x23, x24, undef], defers := [] }

set_option maxRecDepth 100000 in
set_option maxHeartbeats 8000000 in
theorem impossible_any (cs : List Con) (P : List (Value × Nat × Value)) (pv sv : Value) (B : Nat) (ds : List Int) (v : Nat) (w : World) (hp : w.ownsRow B 88 2 pv P.length (flatP P)) (hpo : PrOf w cs P) (h6 : cs.length ≤ 6)
    (hok : ∀ c ∈ cs, OkC c ds.length) (hd : RdInts w sv ds) (h1 : 1 ≤ ds.length) (h4 : ds.length ≤ 4) (hs : Small ds 0 63) (hv : v < ds.length) :
    Calls Try.prog 33 #[.agg #[pv], sv, .int .i64 v] w fun e w' => e = .returned (.int .i64 (impV cs ds v 6)) ∧ Below w.heap.size w w' := by
  have HPB := Lib.hid (fun (X : World) (a : Nat) (hb : Below w.heap.size w X) (ha : a < 6) => eprobe_any cs P pv sv B ds v a X (own_below hp hb) ⟨hpo.1, fun i c p hc hp => ⟨(hpo.2 i c p hc hp).1, (hpo.2 i c p hc hp).2.below hb⟩⟩ h6 hok (hd.below hb) h1 h4 hs hv ha)
  have HPL := Lib.hid (fun (a : Nat) (ha : a < 6) => (pro_domN (cs := cs) ⟨(fixL_domN (a := a) ⟨rfl, hs⟩ hv ha).len, (fixL_domN (a := a) ⟨rfl, hs⟩ hv ha).small, fun c hc => varsOk_of (hok c hc).vc⟩).len)
  obtain ⟨pa, pn, pc, epv⟩ := own_slice hp
  have hpc : pn ≤ pc ∧ pc ≤ 9223372036854775807 := by
    rw [epv] at hp
    rcases hp.2 with ⟨e, h0⟩ | ⟨g, cap, cur, e, _, _, q1, q2, _⟩
    · injection e with _ e1 e2; omega
    · injection e with _ e1 e2; unfold maxLen at q2; omega
  obtain ⟨x, hxx⟩ : ∃ x, x = ds[v]?.getD 0 := ⟨_, rfl⟩
  have hx := hs v hv
  rw [← hxx] at hx
  obtain ⟨sa, sc, esv, -⟩ := id hd
  obtain ⟨n, hn⟩ : ∃ n, n = ds.length := ⟨_, rfl⟩
  rw [esv] at hd HPB ⊢
  rw [← hn] at h1 h4 hv hd HPB ⊢
  obtain ⟨b, off, rfl, k3⟩ := rdInts_at hd hv
  rw [← hxx] at k3
  have hsc := (rdInts_cap hd).2
  subst epv
  have HX := Lib.hid hxx
  have HN := Lib.hid hn
  have hneg : decide ((v : Int) < 0) = false := by simp
  obtain ⟨W4, hW4⟩ : ∃ W4, (((w.alloc (.cells #[.slice pa pn pc] 57)).alloc (.cells #[.slice (some ⟨b, off, none⟩) n sc] 22)).alloc (.cells #[.int .i64 v] 3)).alloc (.cells #[.int .i64 0] 3) = W4 := ⟨_, rfl⟩
  have b4 : Below w.heap.size w W4 := by rw [← hW4]; exact ((((Below.refl _ w).alloc (Nat.le_refl _) _).alloc (by simp) _).alloc (by simp; omega) _).alloc (by simp; omega) _
  have h4s := alloc4I w (.cells #[.slice pa pn pc] 57) (.cells #[.slice (some ⟨b, off, none⟩) n sc] 22) (.cells #[.int .i64 v] 3) (.cells #[.int .i64 0] 3)
  simp only [hW4] at h4s
  obtain ⟨s4, e4, d4, v4, z4⟩ := h4s
  have z4 : Boxed W4 (w.heap.size + 1 + 1 + 1) 3 (.int .i64 0) := z4
  obtain ⟨W5, hW5⟩ : ∃ W5, W4.setCell ⟨w.heap.size + 1 + 1 + 1, 0, none⟩ (.int .i64 0) = W5 := ⟨_, rfl⟩
  have hset : ∀ b', b' ≠ w.heap.size + 1 + 1 + 1 → W5.heap[b']? = W4.heap[b']? := fun b' hb' => by rw [← hW5]; exact Below.heap_setCell _ _ _ _ (by show b' ≠ w.heap.size + 1 + 1 + 1; exact hb')
  have e5 : Boxed W5 w.heap.size 57 (.slice pa pn pc) := (hset _ (by omega)).trans e4
  have d5 : Boxed W5 (w.heap.size + 1) 22 (.slice (some ⟨b, off, none⟩) n sc) := (hset _ (by omega)).trans d4
  have v5 : Boxed W5 (w.heap.size + 1 + 1) 3 (.int .i64 v) := (hset _ (by omega)).trans v4
  have z5 : Boxed W5 (w.heap.size + 1 + 1 + 1) 3 (.int .i64 0) := by rw [← hW5]; exact z4.set _
  have b5 : Below w.heap.size w W5 := by rw [← hW5]; exact b4.setCell (by show w.heap.size ≤ w.heap.size + 1 + 1 + 1; omega) _
  have s5 : W5.heap.size = w.heap.size + 4 := by rw [← hW5, ← s4]; simp
  have k1 := d5.cell
  have k2 := v5.cell
  have k4 := (b5.cell (p := ⟨b, off + v, none⟩) (World.block_lt_of_cell? w _ k3)).trans k3
  have f1 := z4.cell
  have f2 := z4.frozen
  have HS5 := Lib.hid s5
  have HE5 := Lib.hid e5
  have HD5 := Lib.hid d5
  have HV5 := Lib.hid v5
  have HZ5 := Lib.hid z5
  have HB5 := Lib.hid b5
  clear hp hpo h6 hok hd hs hxx hn esv k3 b4 s4 e4 d4 v4 z4 hset e5 d5 v5 z5 b5 s5
  refine (callsIn_wide (n := 10)).1 ?_
  refine callsIn_of_wp_marks Try.func33 rfl trivial ?_ rfl
  simp only [Try.ntmps33, List.size_toArray, List.length_cons, List.length_nil, Nat.reduceAdd, Nat.reduceSub, Array.replicate_succ, Array.replicate_zero, List.push_toArray, List.append_toArray, List.nil_append, List.cons_append]
  gi_wp2_with (refine ⟨trivial, ?_⟩; gi_at_call 61; refine (values_in _ _ _).mono ?_; rintro e w' ⟨rfl, rfl⟩)
  have bs := World.alloc_heap_new W5 (.cells #[.int .i64 x] 92)
  obtain ⟨W6, hW6⟩ : ∃ W6, W5.alloc (.cells #[.int .i64 x] 92) = W6 := ⟨_, rfl⟩
  have b6 : Below W5.heap.size W5 W6 := by rw [← hW6]; exact (Below.refl _ _).alloc (Nat.le_refl _) _
  have HST : Hid (ImSt w w.heap.size (.slice pa pn pc) (.slice (some ⟨b, off, none⟩) n sc) v x (impV cs ds v 0) W6) := Lib.hid (by
    rw [impV_zero]
    exact ⟨HB5.out.trans (b6.mono HB5.out.size), (b6.block _ HE5.out.lt).trans HE5.out, (b6.block _ HD5.out.lt).trans HD5.out, (b6.block _ HV5.out.lt).trans HV5.out, (b6.block _ HZ5.out.lt).trans HZ5.out, by rw [← HS5.out, ← hW6]; exact bs, by rw [← hW6, World.size_alloc, HS5.out]; exact Nat.le_refl _⟩)
  have HS6 : Hid (W6.heap.size = w.heap.size + 5) := Lib.hid (by rw [← hW6, World.size_alloc, HS5.out])
  rw [hW6, HS5.out]
  clear b6 bs hW6 HE5 HD5 HV5 HZ5 HB5 k1 k2 k4 f1 f2 hW4 hW5
  refine rf_values (Bs := w.heap.size + 4) (d := x) (by omega) rfl hx.1 hx.2 rfl
    (fun k X => ImSt w w.heap.size (.slice pa pn pc) (.slice (some ⟨b, off, none⟩) n sc) v x (impV cs ds v k) X)
    (fun c k X => False) ?_ (fun c s X Y row h => h.elim) (fun k X h => h.s.cell) ?_ HST.out
    (fun k => imAct w.heap.size (.slice pa pn pc) (.slice (some ⟨b, off, none⟩) n sc) b off v x k undef undef undef undef undef undef undef undef undef undef) ?_ ?_ ?_ ?_
  · exact fun k X Y row h hg hr => h.grown hg (fun r e => ⟨by have := (hr r e).1; have := HS6.out; omega, (hr r e).2⟩)
  · intro k X hk hh h
    rw [impV_no (flB_not (by rw [← HX.out]; exact hh))]
    exact h
  · intro l k X K hK
    unfold imAct at hK
    gi_wp2
    exact hK
  · intro l k X hl hr hk hh hB
    have HI := Lib.hid hB
    have HFL := Lib.hid (flB_of (cs := cs) (by rw [← HX.out]; exact hh))
    have HPR := Lib.hid (HPB.out X k hB.b hk)
    have HFN := Lib.hid (HPL.out k hk)
    have c0 := hB.e.cell
    have c1 := hB.d.cell
    have c2 := hB.v.cell
    have HHK := Lib.hid hk
    obtain ⟨pl, hpl⟩ : ∃ pl, pl = proL cs (fixL ds v k) := ⟨_, rfl⟩
    rw [← hpl] at HFL HPR HFN
    clear hpl hB hr hl hh
    unfold imAct
    gi_wp2_with fail
    refine ⟨trivial, ?_⟩
    gi_at_call 62
    refine (CallsIn.inRound _ (callsIn_wide.2 HPR.out)).mono ?_
    rintro e X1 ⟨v1, rfl, o1, b1⟩
    have HI1 := Lib.hid (HI.out.below b1)
    have HB1 := Lib.hid b1
    have HR1 := Lib.hid (rdInts_of_own o1)
    obtain ⟨ua, un, uc, eu⟩ := own_slice o1
    subst eu
    clear o1 b1 c0 c1 c2
    gi_wp2_with fail
    refine ⟨trivial, ?_⟩
    gi_at_call 31
    refine (CallsIn.inRound _ (callsIn_wide.2 (ihasEmpty_any _ pl _ HR1.out))).mono ?_
    rintro e X2 ⟨rfl, rfl⟩
    rw [← HFL.out]
    cases hfl : flB cs ds v k
    · have HI2 : Hid (ImSt w w.heap.size (.slice pa pn pc) (.slice (some ⟨b, off, none⟩) n sc) v x (impV cs ds v (k + 1)) X1) := Lib.hid (by rw [impV_no hfl]; exact HI1.out)
      clear hfl
      gi_wp2
      exact ⟨⟨HB1.out.size, fun b' o hb' h1 h2 => (HB1.out.block b' (Array.getElem?_eq_some_iff.1 h1).1).trans h1⟩, trivial, HI2.out⟩
    · have HNX := Lib.hid (impV_yes HHK.out hfl)
      obtain ⟨z, hz⟩ : ∃ z, z = impV cs ds v k := ⟨_, rfl⟩
      obtain ⟨z2, hz2⟩ : ∃ z2, z2 = impV cs ds v (k + 1) := ⟨_, rfl⟩
      rw [← hz] at HI1 HNX
      rw [← hz2] at HNX
      have HZ2 := Lib.hid hz2
      have HI2 := Lib.hid (HI1.out.below (Below.refl _ X1).drew)
      clear hfl hz hz2
      have hk5 : k ≤ 5 := by have := HHK.out; omega
      gi_wp2_with fail
      refine region_round_x (fun w' => Boxed w' (w.heap.size + 1 + 1 + 1) 3 (.int .i64 z)) (fun j => j == 4) (by kernel_rfl) (by kernel_rfl) ?_ ?_
      · rintro ⟨a, w', h⟩
        exact h
      have hS : Boxed X1.drew (w.heap.size + 1 + 1 + 1) 3 (.int .i64 z) := HI2.out.z
      change wpAnyX Try.prog .any _ _ _ _ 5 _ (imX _ _ _ _ _ _ _ _ _ _ _ _ _ _ _ _ _ _ _ _ _ _ _ _ _ _) X1.drew
      refine wpAnyX_take (i := 0) (v := .int .i64 z) rfl (by kernel_rfl) (by kernel_rfl) (by kernel_rfl) (by kernel_rfl) (fun _ _ _ h => h) (.inl ⟨rfl, fun w' hw' => exec_load rfl rfl (load_int w' _ _ _ hw'.cell)⟩) hS ?_
      change wpAnyX Try.prog .any _ _ _ _ 4 _ (imX _ _ _ _ _ _ _ _ _ _ _ _ _ _ _ _ _ _ _ _ _ (.int .i64 z) _ _ _ _) X1.drew
      refine wpAnyX_take (i := 1) (v := .int .i64 k) rfl (by kernel_rfl) (by kernel_rfl) (by kernel_rfl) (by kernel_rfl) (fun _ _ _ h => h) (.inl ⟨rfl, fun w' hw' => rfl⟩) hS ?_
      change wpAnyX Try.prog .any _ _ _ _ 3 _ (imX _ _ _ _ _ _ _ _ _ _ _ _ _ _ _ _ _ _ _ _ _ (.int .i64 z) (.int .i64 k) _ _ _) X1.drew
      refine wpAnyX_take (i := 2) (v := .int .i64 (wrap64 (2 ^ k))) rfl (by kernel_rfl) (by kernel_rfl) (by kernel_rfl) (by kernel_rfl) (fun _ _ _ h => h) (.inl ⟨rfl, fun w' hw' => exec_bin rfl rfl rfl (shl_intsI _ _ _ _ _ hk5 rfl)⟩) hS ?_
      change wpAnyX Try.prog .any _ _ _ _ 2 _ (imX _ _ _ _ _ _ _ _ _ _ _ _ _ _ _ _ _ _ _ _ _ (.int .i64 z) (.int .i64 k) (.int .i64 (wrap64 (2 ^ k))) _ _) X1.drew
      refine wpAnyX_take (i := 3) (v := .int .i64 z2) rfl (by kernel_rfl) (by kernel_rfl) (by kernel_rfl) (by kernel_rfl) (fun _ _ _ h => h) (.inl ⟨rfl, fun w' hw' => exec_bin rfl rfl rfl ((or_ints _ _ _ _ _).trans (by rw [HNX.out]))⟩) hS ?_
      change wpAnyX Try.prog .any _ _ _ _ 1 _ (imX _ _ _ _ _ _ _ _ _ _ _ _ _ _ _ _ _ _ _ _ _ (.int .i64 z) (.int .i64 k) (.int .i64 (wrap64 (2 ^ k))) (.int .i64 z2) _) X1.drew
      refine wpAnyX_one (i := 4) (by kernel_rfl) rfl (fun K' hK' => ?_)
      refine step_skip _ (X1.drew.setCell ⟨w.heap.size + 1 + 1 + 1, 0, none⟩ (.int .i64 z2)) rfl (exec_store rfl rfl rfl (store_int _ _ _ _ _ hS.cell hS.frozen)) ?_
      refine hK'.out _ _ (fun h => by cases h) ?_
      clear hK' K'
      change wpAnyX Try.prog .any _ _ _ _ 0 _ (imX _ _ _ _ _ _ _ _ _ _ _ _ _ _ _ _ _ _ _ _ _ (.int .i64 z) (.int .i64 k) (.int .i64 (wrap64 (2 ^ k))) (.int .i64 z2) _) (X1.drew.setCell ⟨w.heap.size + 1 + 1 + 1, 0, none⟩ (.int .i64 z2))
      refine wpAnyX_done (by kernel_rfl) ?_ _
      unfold imX
      have hset : ∀ b', b' ≠ w.heap.size + 1 + 1 + 1 → (X1.drew.setCell ⟨w.heap.size + 1 + 1 + 1, 0, none⟩ (.int .i64 z2)).heap[b']? = X1.heap[b']? := fun b' hb' => Below.heap_setCell _ _ _ _ (by show b' ≠ w.heap.size + 1 + 1 + 1; exact hb')
      have hfin : ImSt w w.heap.size (.slice pa pn pc) (.slice (some ⟨b, off, none⟩) n sc) v x (impV cs ds v (k + 1)) (X1.drew.setCell ⟨w.heap.size + 1 + 1 + 1, 0, none⟩ (.int .i64 z2)) := by
        rw [← HZ2.out]
        exact HI2.out.put rfl z2
      have hkeep : KeepsFrom W6.heap.size X (X1.drew.setCell ⟨w.heap.size + 1 + 1 + 1, 0, none⟩ (.int .i64 z2)) := by
        refine ⟨by have := HB1.out.size; simpa using this, fun b' o hb' h1 h2 => ?_⟩
        exact (hset b' (by have := HS6.out; omega)).trans ((HB1.out.block b' (Array.getElem?_eq_some_iff.1 h1).1).trans h1)
      exact ⟨hkeep, trivial, hfin⟩
  · intro D X hD hB hK
    have c0 := hB.z.cell
    have HI := Lib.hid hB
    have HKD := Lib.hid hK
    have HDL := Lib.hid hD
    clear hB hK hD
    gi_wp2
    refine ⟨by simp, .inl ⟨_, _, rfl, run_takeDeferred HKD.out, ?_⟩⟩
    exact ⟨_, results_tmp rfl _ _ _, rfl, HI.out.b.grown (grownBy_putObj' X D _) HI.out.b.size (fun r e => by cases e; have := HS6.out; have := HDL.out; omega)⟩
  · intro D c k X hD hk h
    exact h.elim
end Go.Proofs.Ytipapmmjfoaddaa
