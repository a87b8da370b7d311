/- The program's text of a domain. -/
import Derived.Test.YtanaidpffoibgaaDoorIvi
import Derived.Maps.AppendAt
namespace Go.Proofs.YtanaidpffoibgaaDoor
open Go.ChangeShapes Go.WideShapes Go.ChangeAt Go.RowKit Go.Shelf
set_option linter.unusedVariables false
set_option linter.unusedSimpArgs false

attribute [local go_sem] Oper.semAt_some

/-- A box below B that holds a slice whose row lies at B + k or beyond. -/
theorem abide_row {β : Type} (B k Bx : Nat) (t e : TypeId) (size : Nat) (kk : β → Nat) (f : β → List Value) (hB : Bx < B) : Abide B k (fun s W => ∃ v, Boxed W Bx t v ∧ W.ownsRow (B + k) e size v (kk s) (f s)) := by
  rintro s X Y row ⟨v, hv, hr⟩ hg hrow
  refine ⟨v, hv.kept hg (fun e' => ?_), hr.kept hg ?_⟩
  · have := (hrow Bx e'.symm).1; omega
  · rcases hr.2 with ⟨rfl, _⟩ | ⟨g, cap, cur, rfl, hgB, hgb, _⟩
    · exact .inl rfl
    · refine .inr fun e' => ?_
      rcases (hrow g (by simpa [Value.ownBlock] using e'.symm)).2 with h | ⟨o, ho, hc⟩
      · omega
      · rw [hgb] at ho; cases ho; cases hc
theorem abide_box {β : Type} (B k Bx : Nat) (t : TypeId) (f : β → Value) (hB : Bx < B) : Abide B k (fun s W => Boxed W Bx t (f s)) :=
  fun s X Y row hs hg hr => hs.kept hg (fun e => by have := (hr Bx e.symm).1; omega)
theorem abide_below {β : Type} (B k n₀ : Nat) (w : World) (h1 : n₀ ≤ B) (h2 : n₀ ≤ w.heap.size) : Abide B k (fun (_ : β) W => Below n₀ w W) :=
  fun s X Y row hs hg hr => hs.grown hg (Nat.le_trans h2 hs.size) (fun r e => by have := (hr r e).1; omega)
theorem keptOff_abide {β : Type} {lo B k : Nat} {R : World → Prop} (h : KeptOff lo B R) : Abide B k (fun (_ : β) W => R W) := fun _ X Y row hs hg hr => h X Y row hs hg (fun r e => .inr (hr r e).1)
theorem kpI_putObj {lo hi l : Nat} (W : World) (o : Obj) (h : l < lo) : KpI lo hi W (W.putObj l o) :=
  ⟨⟨by simp, fun k o' hk h0 _ => (World.putObj_heap_other (by omega)).trans h0⟩, fun b h1 _ => World.putObj_heap_other (by omega)⟩

/-- append as one step of a region that draws its order, inside a fence. -/
theorem stepIn_append_own {F : Fence} {n : Nat} {P : Program} {w : World} {ops : Array Oper} {o : Oper} {a : Act} {K : Act → World → Prop} {Q : Exit → Act → World → Prop} {E : Prop}
    (hg : o.guard = none) (s x : Operand) (t : TypeId) (hop : o.op = Op.call { callee := Callee.builtin Builtin.append, args := #[s, x], argTypes := #[t, t] })
    (base : Nat) (e : TypeId) (i : TypeInfo) (z : Value) (size bytes : Nat) (h1 : P.underlying t = some (.slice e)) (h2 : P.info? e = some i) (h3 : i.zero = some z) (h4 : i.size = size) (h5 : i.bytes = bytes) (h6 : z.cells.size = size) (h7 : 0 < size)
    (v : Value) (k : Nat) (xs : List Value) (hs : a.eval s = v) (hown : w.ownsRow base e size v k xs) (ad : Addr) (m c : Nat) (news : List Value) (hx : a.eval x = .slice (some ad) m c) (hn : news.length = m * size)
    (hc : ∀ j u, news[j]? = some u → w.cell? (ad.add j) = some u) (h1c : ∀ u ∈ news, u.oneCell' = true) (b1 : k + m ≤ maxLen) (b2 : (k + m) * bytes ≤ 140737488355328) (b3 : base ≤ w.heap.size)
    (hK : ∀ v' w', w'.ownsRow base e size v' (k + m) (xs ++ news) → w.grownBy w' v.ownBlock → (v' = .slice none 0 0 ↔ v = .slice none 0 0 ∧ m = 0) → K (a.put o.dst v') w') :
    if Region.wanted o (yielded ops a.tmps) = true then Oper.wpIn F n P o a w K Q else E := by
  rw [if_pos (show Region.wanted o (yielded ops a.tmps) = true by simp [Region.wanted, hg])]
  obtain ⟨v', w', hrun, r1, r2, r3⟩ := run_append_own (P := P) w base t o.type e i z size bytes h1 h2 h3 h4 h5 h6 h7 v k xs hown ad m c news hn hc h1c b1 b2 b3
  refine ⟨by simp [Oper.about, hop, resolve, Target.leads, Sem.run_pure], ?_⟩
  rw [Oper.semAt_plain F _ _ (by rw [hop]; intro c hc'; cases hc')]
  simp [execOp, hop, resolve, invoke, builtin, hs, hx, hrun, Result.andThen]
  exact hK v' w' r1 r2 r3

/-- The row's bound lowered. -/
theorem row_mono {w : World} {B B' : Nat} {e : TypeId} {k : Nat} {v : Value} {n : Nat} {xs : List Value} (h : w.ownsRow B e k v n xs) (hb : B' ≤ B) : w.ownsRow B' e k v n xs :=
  ⟨h.1, h.2.imp id fun ⟨g, cap, cur, e, hg, r⟩ => ⟨g, cap, cur, e, Nat.le_trans hb hg, r⟩⟩
/-- 'out = append(out, ..)' where out's box lies below the row's bound: besides, whatever lay below that bound, but the box, lies as it lay. -/
theorem boxed_appended {W w1 : World} {m₀ n₀ B : Nat} {t e : TypeId} {size : Nat} {v v' : Value} {k m : Nat} {xs ys : List Value} {tmp : Obj}
    (hv : Boxed W B t v) (hte : t ≠ e) (hrow : W.ownsRow n₀ e size v k xs) (hn₀ : n₀ ≤ W.heap.size) (hm : m₀ ≤ n₀) (hB : m₀ ≤ B)
    (hown' : w1.ownsRow n₀ e size v' m ys) (hgrow : (W.alloc tmp).grownBy w1 v.ownBlock) :
    Boxed w1 B t v ∧ Boxed (w1.setCell ⟨B, 0, none⟩ v') B t v' ∧ (w1.setCell ⟨B, 0, none⟩ v').ownsRow n₀ e size v' m ys ∧ KeepsOthers W (w1.setCell ⟨B, 0, none⟩ v') ∧ Below m₀ W (w1.setCell ⟨B, 0, none⟩ v') ∧
      (∀ b, b < n₀ → b ≠ B → (w1.setCell ⟨B, 0, none⟩ v').heap[b]? = W.heap[b]?) := by
  obtain ⟨h1, h2, h3, h4, h5⟩ := hv.appended hte (row_mono hrow hm) (by omega) hB (row_mono hown' hm) hgrow
  refine ⟨h1, h2, hown'.kept (grownBy_setCell' w1 B v') (.inr (h1.not_row hte hown').symm), h4, h5, fun b hb hne => ?_⟩
  have e1 : (w1.setCell ⟨B, 0, none⟩ v').heap[b]? = w1.heap[b]? := Below.heap_setCell _ _ _ b (fun e => hne e)
  have e2 : w1.heap[b]? = (W.alloc tmp).heap[b]? := hgrow.block b (by simp; omega) (fun e => by
    rcases hrow.2 with ⟨rfl, _⟩ | ⟨g, cap, cur, rfl, hgb, _, _⟩
    · simp [Value.ownBlock] at e
    · simp [Value.ownBlock] at e; omega)
  rw [e1, e2, Below.heap_alloc W tmp b (by omega)]

theorem info_str : (Tryd.prog.info? 9).map (fun i => (i.zero, i.size, i.bytes)) = some (some (.string ⟨#[]⟩), 1, 16) := by kernel_rfl

/-- The texts of the intervals that end below k. -/
def ivT (d : Int) (k : Nat) : List ByteArray := (ivS d k).map fun p => intB p.1 p.2
theorem ivT_skip {d : Int} {k : Nat} (h : (hasB d k && !hasB d ((k : Int) + 1)) = false) : ivT d (k + 1) = ivT d k := by unfold ivT; rw [ivS, h]; simp
theorem ivT_more {d : Int} {k : Nat} (h : hasB d k = true) (h' : hasB d ((k : Int) + 1) = false) : ivT d (k + 1) = ivT d k ++ [intB (lowS d (k + 1)) k] := by
  unfold ivT; rw [ivS, h, h']; simp
theorem ivT_le (d : Int) (k : Nat) : (ivT d k).length ≤ k := by unfold ivT; rw [List.length_map]; exact ivS_le d k

theorem ivT_pos_fin : ∀ n : Fin 64, n.val ≠ 0 → 0 < (ivT (n.val : Int) 6).length := by decide +kernel
theorem ivT_pos (d : Int) (h1 : 0 < d) (h2 : d ≤ 63) : 0 < (ivT d 6).length := by
  have h := ivT_pos_fin ⟨d.toNat, by omega⟩ (by simp; omega)
  simpa only [Int.toNat_of_nonneg (Int.le_of_lt h1)] using h
theorem join_len_fin : ∀ n : Fin 64, (Lib.join ((ivT (n.val : Int) 6).map (·.data.toList)) [44]).length ≤ 100 := by decide +kernel
theorem join_len (d : Int) (h1 : 0 < d) (h2 : d ≤ 63) : (Lib.join ((ivT d 6).map (·.data.toList)) (⟨#[44]⟩ : ByteArray).data.toList).length ≤ 140737488355328 := by
  have h := join_len_fin ⟨d.toNat, by omega⟩
  simp only [Int.toNat_of_nonneg (Int.le_of_lt h1)] at h
  exact Nat.le_trans h (by omega)
theorem lowS_lt (d : Int) (k : Nat) : lowS d (k + 1) ≤ k := by
  rw [lowS]
  split
  · exact Nat.le_refl _
  · exact lowS_le d k

set_option maxRecDepth 100000 in
set_option maxHeartbeats 2000000 in
theorem iEncodeDomain_ok (d : Int) (h1 : 0 < d) (h2 : d ≤ 63) (w : World) :
    Calls Tryd.prog 20 #[.int .i64 d] w (TextPost (fmtD d) w) := by
  have hv : wiB d 0 63 = true := wiB_true (by omega) h2
  have hd0 : (d == 0) = false := by simp; omega
  obtain ⟨i0, hi, hz0, hz1, hz2⟩ := info_parts info_str
  refine (callsIn_wide (n := 8)).1 ?_
  refine callsIn_of_wp_marks Tryd.func20 rfl trivial ?_ rfl
  simp only [Tryd.ntmps20, List.size_toArray, List.length_cons, List.length_nil, Nat.reduceAdd, Nat.reduceSub, Array.replicate_succ, Array.replicate_zero, List.push_toArray, List.append_toArray, List.nil_append, List.cons_append]
  gi_wp2_with (first
    | (refine ⟨trivial, ?_⟩; gi_at_call 14; refine (callsIn_wide.2 (ivalid_any _ _)).mono ?_; rintro e w' ⟨rfl, rfl⟩)
    | (refine ⟨trivial, ?_⟩; gi_at_call 36; refine (intervals_in _ _ _).mono ?_; rintro e w' ⟨rfl, rfl⟩))
  have bO := (Boxed.new w 50 (.slice none 0 0)).alloc (.cells #[.int .i64 d] 44)
  have bN := Boxed.new (w.alloc (.cells #[.slice none 0 0] 50)) 44 (.int .i64 d)
  rw [World.size_alloc] at bN
  have hB0 : Below w.heap.size w ((w.alloc (.cells #[.slice none 0 0] 50)).alloc (.cells #[.int .i64 d] 44)) := ((Below.refl _ w).alloc (Nat.le_refl _) _).alloc (by simp) _
  obtain ⟨W0, hW0⟩ : ∃ W0, (w.alloc (.cells #[.slice none 0 0] 50)).alloc (.cells #[.int .i64 d] 44) = W0 := ⟨_, rfl⟩
  have hsz : W0.heap.size = w.heap.size + 2 := by rw [← hW0]; simp
  rw [hW0] at bO bN hB0 ⊢
  clear hW0
  refine rf_outer (σ := Nat) (At := fun (s s' : Nat) vs (X : World) => s < 6 ∧ hasB d s = true ∧ hasB d ((s : Int) + 1) = false ∧ s' = s + 1 ∧ vs = #[Value.int .i64 (lowS d (s + 1) : Nat), Value.int .i64 s] ∧ w.heap.size + 9 ≤ X.heap.size)
    (Kp := KpI (w.heap.size + 4) (w.heap.size + 9)) (S := fun s => s = 6) (Sp := fun _ => True)
    rfl (by omega) (gf := 53) (lb := #[.pointer (some ⟨w.heap.size + 1, 0, none⟩)]) rfl trivial (enters_of Tryd.func53 (by kernel_rfl) rfl) (fun h k => KpI.trans h k)
    (fun W l o o' _ hl _ _ => kpI_putObj W o' (by omega)) (fun s s' vs W h => by rw [h.2.2.2.2.1]; rfl)
    (fun s X => ((∃ v, Boxed X w.heap.size 50 v ∧ X.ownsRow (w.heap.size + 4 + 5) 9 1 v (ivT d s).length ((ivT d s).map Value.string)) ∧ Boxed X (w.heap.size + 1) 44 (.int .i64 d)) ∧ Below w.heap.size w X)
    (fun _ _ _ => False)
    (fun (s s' : Nat) (_ : Array Value) a' (X : World) => s < 6 ∧ hasB d s = true ∧ hasB d ((s : Int) + 1) = false ∧ s' = s + 1 ∧ w.heap.size + 9 ≤ X.heap.size ∧ a' = { tmps := #[.int .i64 d, undef, .string ⟨#[]⟩, .pointer (some ⟨w.heap.size, 0, none⟩), .int .i64 (lowS d (s + 1) : Nat), .int .i64 s, .int .i64 d, .bool true, .bool false, .int .i64 d, .bool false, .int .i64 d, .func (.func 53) #[] #[.pointer (some ⟨w.heap.size + 1, 0, none⟩)], .int .i64 (lowS d (s + 1) : Nat), .int .i64 s, undef, undef, undef, undef, undef, undef, undef, undef], defers := [] })
    ?own (fun _ _ _ _ _ hs _ _ => hs) ?ownA 0 ?start ?seq ?assign ?body ?done ?stop
  case own =>
    refine OwnFrom.and (OwnFrom.and (Own.from ?_ _) (Own.from (boxed_own _ _ (fun _ => .int .i64 d)) _)) (ownFrom_below (by omega) (by omega))
    exact fun s X Y row ⟨v, h1, h2⟩ hg hr => by
      obtain ⟨v', g1, g2, _⟩ := holdsRow_own (w.heap.size + 4 + 5) w.heap.size 50 9 1 (fun s => (ivT d s).length) (fun s => (ivT d s).map Value.string) (fun _ _ => True) s X Y row ⟨v, h1, h2, trivial⟩ hg hr
      exact ⟨v', g1, g2⟩
  case ownA => exact fun s s' vs a' _ X Y row hs hg hr => ⟨hs.1, hs.2.1, hs.2.2.1, hs.2.2.2.1, Nat.le_trans hs.2.2.2.2.1 hg.size, hs.2.2.2.2.2⟩
  case start => exact ⟨⟨⟨_, bO, World.ownsRow_nil _ _ _ _⟩, bN⟩, hB0⟩
  case seq =>
    intro Rec RecX W1 hRec hRecX hB1 hs1 hI1 hR1 hY
    have hs1' : W1.heap.size = w.heap.size + 4 := by omega
    rw [show W0.heap.size + 2 = w.heap.size + 4 from by omega] at hRec hRecX
    refine (callsIn_wide.2 (intervals1_in (W0.heap.size + 1) (w.heap.size + 1) d (by omega) h2 (fun k X => (((∃ v, Boxed X w.heap.size 50 v ∧ X.ownsRow (w.heap.size + 4 + 5) 9 1 v (ivT d k).length ((ivT d k).map Value.string)) ∧ Boxed X (w.heap.size + 1) 44 (.int .i64 d)) ∧ Below w.heap.size w X) ∧ Rec X)
      (fun k X => False) W1 (by omega) ?_ (fun _ _ _ _ h _ _ => h) (fun k X h => h.1.1.2.cell) ?_ ?_ ⟨hI1, hR1⟩)).mono ?_
    · rw [hs1']
      exact (((abide_row _ _ _ _ _ _ _ _ (by omega)).and (abide_box _ _ _ _ (fun _ => .int .i64 d) (by omega))).and (abide_below _ _ _ _ (by omega) (by omega))).and (keptOff_abide hRec)
    · intro k X hk hh h
      rw [ivT_skip hh]
      exact h
    · intro k X hJ hk hh hp hs5
      obtain ⟨f0, tm, asg, bo, hr, hR⟩ := yieldAt_wide (m' := 5) (hY k (k + 1) #[Value.int .i64 (lowS d (k + 1) : Nat), Value.int .i64 k] X hJ ⟨hk, hh, hp, rfl, rfl, by omega⟩)
      refine ⟨f0, tm, asg, bo, hr, hR.mono ?_⟩
      rw [hs1']
      rintro e W' (⟨rfl, h, hk'⟩ | ⟨rfl, c, h, _⟩)
      · exact .inl ⟨rfl, h, hk'⟩
      · exact h.elim
    · rintro e W' ⟨hv', (h | ⟨k, _, h⟩)⟩
      · exact ⟨hv', .inl ⟨6, rfl, h⟩⟩
      · exact h.elim
  case assign =>
    rintro l s s' vs W K hi ⟨q1, q2, q3, rfl, rfl, q4⟩ hK
    gi_wp2
    exact hK _ W (KeepsFrom.refl _ _) ⟨KeepsFrom.refl _ _, fun _ _ _ => rfl⟩ hi ⟨q1, q2, q3, by trivial, q4, by first | rfl | trivial⟩
  case body =>
    rintro l s s' vs a' W hl ⟨r, hr⟩ ⟨⟨⟨v, hv, hrow⟩, bS⟩, hB⟩ ⟨q1, q2, q3, rfl, q4, rfl⟩
    have hc := hv.cell
    have hle := ivT_le d s
    have hlo := lowS_lt d s
    have hca := (hv.alloc (.cells #[.string (intB (lowS d (s + 1)) s)] 9)).cell
    have HIT := Lib.hid (ivT_more q2 q3)
    gi_wp2
    refine wpIn_region_any (by kernel_rfl) ?_
    try (change wpAnyIn _ _ _ _ _ _ _ _ _ (World.drew _))
    have hvd : Boxed W.drew w.heap.size 50 v := hv
    have hcd := hvd.cell
    have hrd : W.drew.ownsRow (w.heap.size + 4 + 5) 9 1 v (ivT d s).length ((ivT d s).map Value.string) := hrow
    have bSd : Boxed W.drew (w.heap.size + 1) 44 (.int .i64 d) := bS
    have hBd : Below w.heap.size w W.drew := hB.drew
    have q4d : w.heap.size + 9 ≤ W.drew.heap.size := q4
    have HKF : Hid (KeepsOthers W W.drew) := Lib.hid ⟨Nat.le_refl _, fun _ _ h _ => h⟩
    clear hc hv hrow bS
    refine wpAnyIn_ready (rs := [0, 1, 2]) (by kernel_rfl) (by simp) ?_
    refine AllReadyIn.cons rfl (fun K hK => ?_) ?_
    · go_simp
      refine hK _ _ ?_
      clear hK K
      refine wpAnyIn_ready (rs := [1, 2]) (by kernel_rfl) (by simp) ?_
      refine AllReadyIn.cons rfl (fun K hK => ?_) ?_
      · go_simp
        refine hK _ _ ?_
        clear hK K
        refine wpAnyIn_ready (rs := [2]) (by kernel_rfl) (by simp) ?_
        refine AllReadyIn.cons rfl (fun K hK => ?_) ?_
        · go_simp
          refine hK _ _ ?_
          clear hK K
          refine wpAnyIn_ready (rs := [3]) (by kernel_rfl) (by simp) ?_
          refine AllReadyIn.cons rfl (fun K hK => ?_) ?_
          · go_simp
            refine ⟨trivial, (CallsIn.inRound _ (callsIn_wide.2 (encodeInterval_any _ _ _ (by omega) (by omega)))).mono ?_⟩
            rintro e w' ⟨rfl, rfl⟩
            refine hK _ _ ?_
            clear hK K
            refine wpAnyIn_ready (rs := [4]) (by kernel_rfl) (by simp) ?_
            refine AllReadyIn.cons rfl (fun K hK => ?_) ?_
            · go_simp
              refine hK _ _ ?_
              clear hK K
              refine wpAnyIn_ready (rs := [5]) (by kernel_rfl) (by simp) ?_
              refine AllReadyIn.cons rfl (fun K hK => ?_) AllReadyIn.nil
              refine stepIn_append_own (by rfl) _ _ 50 (by rfl) (w.heap.size + 4 + 5) 9 i0 (.string ⟨#[]⟩) 1 16 Tryd.underlying50 hi hz0 hz1 hz2 rfl (by decide) v _ _ (by rfl) (hrd.alloc _) ⟨W.drew.heap.size, 0, none⟩ 1 1 [.string (intB (lowS d (s + 1)) s)] (by rfl) rfl (cell_one_new _ _ _) (by simp [Value.oneCell']) (by unfold maxLen; omega) (by omega) (by simp; omega) ?_
              intro v' w1 hown' hgrow _
              obtain ⟨g', cap', rfl⟩ := ownsRow_succ hown'
              obtain ⟨hv1, hv2, hr2, hk2, hb2, hblk⟩ := boxed_appended (m₀ := w.heap.size) hvd (by decide) hrd (by omega) (by omega) (by omega) hown' hgrow
              have hc1 := hv1.cell
              have hf1 := hv1.frozen
              refine hK _ _ ?_
              clear hK K
              refine wpAnyIn_ready (rs := [6]) (by kernel_rfl) (by simp) ?_
              refine AllReadyIn.cons rfl (fun K hK => ?_) AllReadyIn.nil
              go_simp
              refine hK _ _ ?_
              clear hK K
              refine wpAnyIn_done (by kernel_rfl) ?_ _
              exact ⟨(HKF.out.trans hk2).from _, ⟨(HKF.out.trans hk2).from _, fun b hb1 hb2' => (hblk b (by omega) (by omega)).trans rfl⟩, ⟨⟨_, hv2, by rw [HIT.out]; simpa using hr2⟩, (hblk _ (by omega) (by omega)).trans bSd⟩, hBd.trans hb2⟩
            exact AllReadyIn.nil
          exact AllReadyIn.nil
        exact AllReadyIn.nil
      refine AllReadyIn.cons rfl (fun K hK => ?_) ?_
      · go_simp
        refine hK _ _ ?_
        clear hK K
        refine wpAnyIn_ready (rs := [1]) (by kernel_rfl) (by simp) ?_
        refine AllReadyIn.cons rfl (fun K hK => ?_) ?_
        · go_simp
          refine hK _ _ ?_
          clear hK K
          refine wpAnyIn_ready (rs := [3]) (by kernel_rfl) (by simp) ?_
          refine AllReadyIn.cons rfl (fun K hK => ?_) ?_
          · go_simp
            refine ⟨trivial, (CallsIn.inRound _ (callsIn_wide.2 (encodeInterval_any _ _ _ (by omega) (by omega)))).mono ?_⟩
            rintro e w' ⟨rfl, rfl⟩
            refine hK _ _ ?_
            clear hK K
            refine wpAnyIn_ready (rs := [4]) (by kernel_rfl) (by simp) ?_
            refine AllReadyIn.cons rfl (fun K hK => ?_) ?_
            · go_simp
              refine hK _ _ ?_
              clear hK K
              refine wpAnyIn_ready (rs := [5]) (by kernel_rfl) (by simp) ?_
              refine AllReadyIn.cons rfl (fun K hK => ?_) AllReadyIn.nil
              refine stepIn_append_own (by rfl) _ _ 50 (by rfl) (w.heap.size + 4 + 5) 9 i0 (.string ⟨#[]⟩) 1 16 Tryd.underlying50 hi hz0 hz1 hz2 rfl (by decide) v _ _ (by rfl) (hrd.alloc _) ⟨W.drew.heap.size, 0, none⟩ 1 1 [.string (intB (lowS d (s + 1)) s)] (by rfl) rfl (cell_one_new _ _ _) (by simp [Value.oneCell']) (by unfold maxLen; omega) (by omega) (by simp; omega) ?_
              intro v' w1 hown' hgrow _
              obtain ⟨g', cap', rfl⟩ := ownsRow_succ hown'
              obtain ⟨hv1, hv2, hr2, hk2, hb2, hblk⟩ := boxed_appended (m₀ := w.heap.size) hvd (by decide) hrd (by omega) (by omega) (by omega) hown' hgrow
              have hc1 := hv1.cell
              have hf1 := hv1.frozen
              refine hK _ _ ?_
              clear hK K
              refine wpAnyIn_ready (rs := [6]) (by kernel_rfl) (by simp) ?_
              refine AllReadyIn.cons rfl (fun K hK => ?_) AllReadyIn.nil
              go_simp
              refine hK _ _ ?_
              clear hK K
              refine wpAnyIn_done (by kernel_rfl) ?_ _
              exact ⟨(HKF.out.trans hk2).from _, ⟨(HKF.out.trans hk2).from _, fun b hb1 hb2' => (hblk b (by omega) (by omega)).trans rfl⟩, ⟨⟨_, hv2, by rw [HIT.out]; simpa using hr2⟩, (hblk _ (by omega) (by omega)).trans bSd⟩, hBd.trans hb2⟩
            exact AllReadyIn.nil
          exact AllReadyIn.nil
        exact AllReadyIn.nil
      exact AllReadyIn.nil
    refine AllReadyIn.cons rfl (fun K hK => ?_) ?_
    · go_simp
      refine hK _ _ ?_
      clear hK K
      refine wpAnyIn_ready (rs := [0, 2]) (by kernel_rfl) (by simp) ?_
      refine AllReadyIn.cons rfl (fun K hK => ?_) ?_
      · go_simp
        refine hK _ _ ?_
        clear hK K
        refine wpAnyIn_ready (rs := [2]) (by kernel_rfl) (by simp) ?_
        refine AllReadyIn.cons rfl (fun K hK => ?_) ?_
        · go_simp
          refine hK _ _ ?_
          clear hK K
          refine wpAnyIn_ready (rs := [3]) (by kernel_rfl) (by simp) ?_
          refine AllReadyIn.cons rfl (fun K hK => ?_) ?_
          · go_simp
            refine ⟨trivial, (CallsIn.inRound _ (callsIn_wide.2 (encodeInterval_any _ _ _ (by omega) (by omega)))).mono ?_⟩
            rintro e w' ⟨rfl, rfl⟩
            refine hK _ _ ?_
            clear hK K
            refine wpAnyIn_ready (rs := [4]) (by kernel_rfl) (by simp) ?_
            refine AllReadyIn.cons rfl (fun K hK => ?_) ?_
            · go_simp
              refine hK _ _ ?_
              clear hK K
              refine wpAnyIn_ready (rs := [5]) (by kernel_rfl) (by simp) ?_
              refine AllReadyIn.cons rfl (fun K hK => ?_) AllReadyIn.nil
              refine stepIn_append_own (by rfl) _ _ 50 (by rfl) (w.heap.size + 4 + 5) 9 i0 (.string ⟨#[]⟩) 1 16 Tryd.underlying50 hi hz0 hz1 hz2 rfl (by decide) v _ _ (by rfl) (hrd.alloc _) ⟨W.drew.heap.size, 0, none⟩ 1 1 [.string (intB (lowS d (s + 1)) s)] (by rfl) rfl (cell_one_new _ _ _) (by simp [Value.oneCell']) (by unfold maxLen; omega) (by omega) (by simp; omega) ?_
              intro v' w1 hown' hgrow _
              obtain ⟨g', cap', rfl⟩ := ownsRow_succ hown'
              obtain ⟨hv1, hv2, hr2, hk2, hb2, hblk⟩ := boxed_appended (m₀ := w.heap.size) hvd (by decide) hrd (by omega) (by omega) (by omega) hown' hgrow
              have hc1 := hv1.cell
              have hf1 := hv1.frozen
              refine hK _ _ ?_
              clear hK K
              refine wpAnyIn_ready (rs := [6]) (by kernel_rfl) (by simp) ?_
              refine AllReadyIn.cons rfl (fun K hK => ?_) AllReadyIn.nil
              go_simp
              refine hK _ _ ?_
              clear hK K
              refine wpAnyIn_done (by kernel_rfl) ?_ _
              exact ⟨(HKF.out.trans hk2).from _, ⟨(HKF.out.trans hk2).from _, fun b hb1 hb2' => (hblk b (by omega) (by omega)).trans rfl⟩, ⟨⟨_, hv2, by rw [HIT.out]; simpa using hr2⟩, (hblk _ (by omega) (by omega)).trans bSd⟩, hBd.trans hb2⟩
            exact AllReadyIn.nil
          exact AllReadyIn.nil
        exact AllReadyIn.nil
      refine AllReadyIn.cons rfl (fun K hK => ?_) ?_
      · go_simp
        refine hK _ _ ?_
        clear hK K
        refine wpAnyIn_ready (rs := [0, 3]) (by kernel_rfl) (by simp) ?_
        refine AllReadyIn.cons rfl (fun K hK => ?_) ?_
        · go_simp
          refine hK _ _ ?_
          clear hK K
          refine wpAnyIn_ready (rs := [3]) (by kernel_rfl) (by simp) ?_
          refine AllReadyIn.cons rfl (fun K hK => ?_) ?_
          · go_simp
            refine ⟨trivial, (CallsIn.inRound _ (callsIn_wide.2 (encodeInterval_any _ _ _ (by omega) (by omega)))).mono ?_⟩
            rintro e w' ⟨rfl, rfl⟩
            refine hK _ _ ?_
            clear hK K
            refine wpAnyIn_ready (rs := [4]) (by kernel_rfl) (by simp) ?_
            refine AllReadyIn.cons rfl (fun K hK => ?_) ?_
            · go_simp
              refine hK _ _ ?_
              clear hK K
              refine wpAnyIn_ready (rs := [5]) (by kernel_rfl) (by simp) ?_
              refine AllReadyIn.cons rfl (fun K hK => ?_) AllReadyIn.nil
              refine stepIn_append_own (by rfl) _ _ 50 (by rfl) (w.heap.size + 4 + 5) 9 i0 (.string ⟨#[]⟩) 1 16 Tryd.underlying50 hi hz0 hz1 hz2 rfl (by decide) v _ _ (by rfl) (hrd.alloc _) ⟨W.drew.heap.size, 0, none⟩ 1 1 [.string (intB (lowS d (s + 1)) s)] (by rfl) rfl (cell_one_new _ _ _) (by simp [Value.oneCell']) (by unfold maxLen; omega) (by omega) (by simp; omega) ?_
              intro v' w1 hown' hgrow _
              obtain ⟨g', cap', rfl⟩ := ownsRow_succ hown'
              obtain ⟨hv1, hv2, hr2, hk2, hb2, hblk⟩ := boxed_appended (m₀ := w.heap.size) hvd (by decide) hrd (by omega) (by omega) (by omega) hown' hgrow
              have hc1 := hv1.cell
              have hf1 := hv1.frozen
              refine hK _ _ ?_
              clear hK K
              refine wpAnyIn_ready (rs := [6]) (by kernel_rfl) (by simp) ?_
              refine AllReadyIn.cons rfl (fun K hK => ?_) AllReadyIn.nil
              go_simp
              refine hK _ _ ?_
              clear hK K
              refine wpAnyIn_done (by kernel_rfl) ?_ _
              exact ⟨(HKF.out.trans hk2).from _, ⟨(HKF.out.trans hk2).from _, fun b hb1 hb2' => (hblk b (by omega) (by omega)).trans rfl⟩, ⟨⟨_, hv2, by rw [HIT.out]; simpa using hr2⟩, (hblk _ (by omega) (by omega)).trans bSd⟩, hBd.trans hb2⟩
            exact AllReadyIn.nil
          exact AllReadyIn.nil
        refine AllReadyIn.cons rfl (fun K hK => ?_) ?_
        · go_simp
          refine ⟨trivial, (CallsIn.inRound _ (callsIn_wide.2 (encodeInterval_any _ _ _ (by omega) (by omega)))).mono ?_⟩
          rintro e w' ⟨rfl, rfl⟩
          refine hK _ _ ?_
          clear hK K
          refine wpAnyIn_ready (rs := [0, 4]) (by kernel_rfl) (by simp) ?_
          refine AllReadyIn.cons rfl (fun K hK => ?_) ?_
          · go_simp
            refine hK _ _ ?_
            clear hK K
            refine wpAnyIn_ready (rs := [4]) (by kernel_rfl) (by simp) ?_
            refine AllReadyIn.cons rfl (fun K hK => ?_) ?_
            · go_simp
              refine hK _ _ ?_
              clear hK K
              refine wpAnyIn_ready (rs := [5]) (by kernel_rfl) (by simp) ?_
              refine AllReadyIn.cons rfl (fun K hK => ?_) AllReadyIn.nil
              refine stepIn_append_own (by rfl) _ _ 50 (by rfl) (w.heap.size + 4 + 5) 9 i0 (.string ⟨#[]⟩) 1 16 Tryd.underlying50 hi hz0 hz1 hz2 rfl (by decide) v _ _ (by rfl) (hrd.alloc _) ⟨W.drew.heap.size, 0, none⟩ 1 1 [.string (intB (lowS d (s + 1)) s)] (by rfl) rfl (cell_one_new _ _ _) (by simp [Value.oneCell']) (by unfold maxLen; omega) (by omega) (by simp; omega) ?_
              intro v' w1 hown' hgrow _
              obtain ⟨g', cap', rfl⟩ := ownsRow_succ hown'
              obtain ⟨hv1, hv2, hr2, hk2, hb2, hblk⟩ := boxed_appended (m₀ := w.heap.size) hvd (by decide) hrd (by omega) (by omega) (by omega) hown' hgrow
              have hc1 := hv1.cell
              have hf1 := hv1.frozen
              refine hK _ _ ?_
              clear hK K
              refine wpAnyIn_ready (rs := [6]) (by kernel_rfl) (by simp) ?_
              refine AllReadyIn.cons rfl (fun K hK => ?_) AllReadyIn.nil
              go_simp
              refine hK _ _ ?_
              clear hK K
              refine wpAnyIn_done (by kernel_rfl) ?_ _
              exact ⟨(HKF.out.trans hk2).from _, ⟨(HKF.out.trans hk2).from _, fun b hb1 hb2' => (hblk b (by omega) (by omega)).trans rfl⟩, ⟨⟨_, hv2, by rw [HIT.out]; simpa using hr2⟩, (hblk _ (by omega) (by omega)).trans bSd⟩, hBd.trans hb2⟩
            exact AllReadyIn.nil
          refine AllReadyIn.cons rfl (fun K hK => ?_) ?_
          · go_simp
            refine hK _ _ ?_
            clear hK K
            refine wpAnyIn_ready (rs := [0]) (by kernel_rfl) (by simp) ?_
            refine AllReadyIn.cons rfl (fun K hK => ?_) ?_
            · go_simp
              refine hK _ _ ?_
              clear hK K
              refine wpAnyIn_ready (rs := [5]) (by kernel_rfl) (by simp) ?_
              refine AllReadyIn.cons rfl (fun K hK => ?_) AllReadyIn.nil
              refine stepIn_append_own (by rfl) _ _ 50 (by rfl) (w.heap.size + 4 + 5) 9 i0 (.string ⟨#[]⟩) 1 16 Tryd.underlying50 hi hz0 hz1 hz2 rfl (by decide) v _ _ (by rfl) (hrd.alloc _) ⟨W.drew.heap.size, 0, none⟩ 1 1 [.string (intB (lowS d (s + 1)) s)] (by rfl) rfl (cell_one_new _ _ _) (by simp [Value.oneCell']) (by unfold maxLen; omega) (by omega) (by simp; omega) ?_
              intro v' w1 hown' hgrow _
              obtain ⟨g', cap', rfl⟩ := ownsRow_succ hown'
              obtain ⟨hv1, hv2, hr2, hk2, hb2, hblk⟩ := boxed_appended (m₀ := w.heap.size) hvd (by decide) hrd (by omega) (by omega) (by omega) hown' hgrow
              have hc1 := hv1.cell
              have hf1 := hv1.frozen
              refine hK _ _ ?_
              clear hK K
              refine wpAnyIn_ready (rs := [6]) (by kernel_rfl) (by simp) ?_
              refine AllReadyIn.cons rfl (fun K hK => ?_) AllReadyIn.nil
              go_simp
              refine hK _ _ ?_
              clear hK K
              refine wpAnyIn_done (by kernel_rfl) ?_ _
              exact ⟨(HKF.out.trans hk2).from _, ⟨(HKF.out.trans hk2).from _, fun b hb1 hb2' => (hblk b (by omega) (by omega)).trans rfl⟩, ⟨⟨_, hv2, by rw [HIT.out]; simpa using hr2⟩, (hblk _ (by omega) (by omega)).trans bSd⟩, hBd.trans hb2⟩
            exact AllReadyIn.nil
          exact AllReadyIn.nil
        exact AllReadyIn.nil
      exact AllReadyIn.nil
    refine AllReadyIn.cons rfl (fun K hK => ?_) ?_
    · go_simp
      refine hK _ _ ?_
      clear hK K
      refine wpAnyIn_ready (rs := [0, 1]) (by kernel_rfl) (by simp) ?_
      refine AllReadyIn.cons rfl (fun K hK => ?_) ?_
      · go_simp
        refine hK _ _ ?_
        clear hK K
        refine wpAnyIn_ready (rs := [1]) (by kernel_rfl) (by simp) ?_
        refine AllReadyIn.cons rfl (fun K hK => ?_) ?_
        · go_simp
          refine hK _ _ ?_
          clear hK K
          refine wpAnyIn_ready (rs := [3]) (by kernel_rfl) (by simp) ?_
          refine AllReadyIn.cons rfl (fun K hK => ?_) ?_
          · go_simp
            refine ⟨trivial, (CallsIn.inRound _ (callsIn_wide.2 (encodeInterval_any _ _ _ (by omega) (by omega)))).mono ?_⟩
            rintro e w' ⟨rfl, rfl⟩
            refine hK _ _ ?_
            clear hK K
            refine wpAnyIn_ready (rs := [4]) (by kernel_rfl) (by simp) ?_
            refine AllReadyIn.cons rfl (fun K hK => ?_) ?_
            · go_simp
              refine hK _ _ ?_
              clear hK K
              refine wpAnyIn_ready (rs := [5]) (by kernel_rfl) (by simp) ?_
              refine AllReadyIn.cons rfl (fun K hK => ?_) AllReadyIn.nil
              refine stepIn_append_own (by rfl) _ _ 50 (by rfl) (w.heap.size + 4 + 5) 9 i0 (.string ⟨#[]⟩) 1 16 Tryd.underlying50 hi hz0 hz1 hz2 rfl (by decide) v _ _ (by rfl) (hrd.alloc _) ⟨W.drew.heap.size, 0, none⟩ 1 1 [.string (intB (lowS d (s + 1)) s)] (by rfl) rfl (cell_one_new _ _ _) (by simp [Value.oneCell']) (by unfold maxLen; omega) (by omega) (by simp; omega) ?_
              intro v' w1 hown' hgrow _
              obtain ⟨g', cap', rfl⟩ := ownsRow_succ hown'
              obtain ⟨hv1, hv2, hr2, hk2, hb2, hblk⟩ := boxed_appended (m₀ := w.heap.size) hvd (by decide) hrd (by omega) (by omega) (by omega) hown' hgrow
              have hc1 := hv1.cell
              have hf1 := hv1.frozen
              refine hK _ _ ?_
              clear hK K
              refine wpAnyIn_ready (rs := [6]) (by kernel_rfl) (by simp) ?_
              refine AllReadyIn.cons rfl (fun K hK => ?_) AllReadyIn.nil
              go_simp
              refine hK _ _ ?_
              clear hK K
              refine wpAnyIn_done (by kernel_rfl) ?_ _
              exact ⟨(HKF.out.trans hk2).from _, ⟨(HKF.out.trans hk2).from _, fun b hb1 hb2' => (hblk b (by omega) (by omega)).trans rfl⟩, ⟨⟨_, hv2, by rw [HIT.out]; simpa using hr2⟩, (hblk _ (by omega) (by omega)).trans bSd⟩, hBd.trans hb2⟩
            exact AllReadyIn.nil
          exact AllReadyIn.nil
        exact AllReadyIn.nil
      refine AllReadyIn.cons rfl (fun K hK => ?_) ?_
      · go_simp
        refine hK _ _ ?_
        clear hK K
        refine wpAnyIn_ready (rs := [0, 3]) (by kernel_rfl) (by simp) ?_
        refine AllReadyIn.cons rfl (fun K hK => ?_) ?_
        · go_simp
          refine hK _ _ ?_
          clear hK K
          refine wpAnyIn_ready (rs := [3]) (by kernel_rfl) (by simp) ?_
          refine AllReadyIn.cons rfl (fun K hK => ?_) ?_
          · go_simp
            refine ⟨trivial, (CallsIn.inRound _ (callsIn_wide.2 (encodeInterval_any _ _ _ (by omega) (by omega)))).mono ?_⟩
            rintro e w' ⟨rfl, rfl⟩
            refine hK _ _ ?_
            clear hK K
            refine wpAnyIn_ready (rs := [4]) (by kernel_rfl) (by simp) ?_
            refine AllReadyIn.cons rfl (fun K hK => ?_) ?_
            · go_simp
              refine hK _ _ ?_
              clear hK K
              refine wpAnyIn_ready (rs := [5]) (by kernel_rfl) (by simp) ?_
              refine AllReadyIn.cons rfl (fun K hK => ?_) AllReadyIn.nil
              refine stepIn_append_own (by rfl) _ _ 50 (by rfl) (w.heap.size + 4 + 5) 9 i0 (.string ⟨#[]⟩) 1 16 Tryd.underlying50 hi hz0 hz1 hz2 rfl (by decide) v _ _ (by rfl) (hrd.alloc _) ⟨W.drew.heap.size, 0, none⟩ 1 1 [.string (intB (lowS d (s + 1)) s)] (by rfl) rfl (cell_one_new _ _ _) (by simp [Value.oneCell']) (by unfold maxLen; omega) (by omega) (by simp; omega) ?_
              intro v' w1 hown' hgrow _
              obtain ⟨g', cap', rfl⟩ := ownsRow_succ hown'
              obtain ⟨hv1, hv2, hr2, hk2, hb2, hblk⟩ := boxed_appended (m₀ := w.heap.size) hvd (by decide) hrd (by omega) (by omega) (by omega) hown' hgrow
              have hc1 := hv1.cell
              have hf1 := hv1.frozen
              refine hK _ _ ?_
              clear hK K
              refine wpAnyIn_ready (rs := [6]) (by kernel_rfl) (by simp) ?_
              refine AllReadyIn.cons rfl (fun K hK => ?_) AllReadyIn.nil
              go_simp
              refine hK _ _ ?_
              clear hK K
              refine wpAnyIn_done (by kernel_rfl) ?_ _
              exact ⟨(HKF.out.trans hk2).from _, ⟨(HKF.out.trans hk2).from _, fun b hb1 hb2' => (hblk b (by omega) (by omega)).trans rfl⟩, ⟨⟨_, hv2, by rw [HIT.out]; simpa using hr2⟩, (hblk _ (by omega) (by omega)).trans bSd⟩, hBd.trans hb2⟩
            exact AllReadyIn.nil
          exact AllReadyIn.nil
        refine AllReadyIn.cons rfl (fun K hK => ?_) ?_
        · go_simp
          refine ⟨trivial, (CallsIn.inRound _ (callsIn_wide.2 (encodeInterval_any _ _ _ (by omega) (by omega)))).mono ?_⟩
          rintro e w' ⟨rfl, rfl⟩
          refine hK _ _ ?_
          clear hK K
          refine wpAnyIn_ready (rs := [0, 4]) (by kernel_rfl) (by simp) ?_
          refine AllReadyIn.cons rfl (fun K hK => ?_) ?_
          · go_simp
            refine hK _ _ ?_
            clear hK K
            refine wpAnyIn_ready (rs := [4]) (by kernel_rfl) (by simp) ?_
            refine AllReadyIn.cons rfl (fun K hK => ?_) ?_
            · go_simp
              refine hK _ _ ?_
              clear hK K
              refine wpAnyIn_ready (rs := [5]) (by kernel_rfl) (by simp) ?_
              refine AllReadyIn.cons rfl (fun K hK => ?_) AllReadyIn.nil
              refine stepIn_append_own (by rfl) _ _ 50 (by rfl) (w.heap.size + 4 + 5) 9 i0 (.string ⟨#[]⟩) 1 16 Tryd.underlying50 hi hz0 hz1 hz2 rfl (by decide) v _ _ (by rfl) (hrd.alloc _) ⟨W.drew.heap.size, 0, none⟩ 1 1 [.string (intB (lowS d (s + 1)) s)] (by rfl) rfl (cell_one_new _ _ _) (by simp [Value.oneCell']) (by unfold maxLen; omega) (by omega) (by simp; omega) ?_
              intro v' w1 hown' hgrow _
              obtain ⟨g', cap', rfl⟩ := ownsRow_succ hown'
              obtain ⟨hv1, hv2, hr2, hk2, hb2, hblk⟩ := boxed_appended (m₀ := w.heap.size) hvd (by decide) hrd (by omega) (by omega) (by omega) hown' hgrow
              have hc1 := hv1.cell
              have hf1 := hv1.frozen
              refine hK _ _ ?_
              clear hK K
              refine wpAnyIn_ready (rs := [6]) (by kernel_rfl) (by simp) ?_
              refine AllReadyIn.cons rfl (fun K hK => ?_) AllReadyIn.nil
              go_simp
              refine hK _ _ ?_
              clear hK K
              refine wpAnyIn_done (by kernel_rfl) ?_ _
              exact ⟨(HKF.out.trans hk2).from _, ⟨(HKF.out.trans hk2).from _, fun b hb1 hb2' => (hblk b (by omega) (by omega)).trans rfl⟩, ⟨⟨_, hv2, by rw [HIT.out]; simpa using hr2⟩, (hblk _ (by omega) (by omega)).trans bSd⟩, hBd.trans hb2⟩
            exact AllReadyIn.nil
          refine AllReadyIn.cons rfl (fun K hK => ?_) ?_
          · go_simp
            refine hK _ _ ?_
            clear hK K
            refine wpAnyIn_ready (rs := [0]) (by kernel_rfl) (by simp) ?_
            refine AllReadyIn.cons rfl (fun K hK => ?_) ?_
            · go_simp
              refine hK _ _ ?_
              clear hK K
              refine wpAnyIn_ready (rs := [5]) (by kernel_rfl) (by simp) ?_
              refine AllReadyIn.cons rfl (fun K hK => ?_) AllReadyIn.nil
              refine stepIn_append_own (by rfl) _ _ 50 (by rfl) (w.heap.size + 4 + 5) 9 i0 (.string ⟨#[]⟩) 1 16 Tryd.underlying50 hi hz0 hz1 hz2 rfl (by decide) v _ _ (by rfl) (hrd.alloc _) ⟨W.drew.heap.size, 0, none⟩ 1 1 [.string (intB (lowS d (s + 1)) s)] (by rfl) rfl (cell_one_new _ _ _) (by simp [Value.oneCell']) (by unfold maxLen; omega) (by omega) (by simp; omega) ?_
              intro v' w1 hown' hgrow _
              obtain ⟨g', cap', rfl⟩ := ownsRow_succ hown'
              obtain ⟨hv1, hv2, hr2, hk2, hb2, hblk⟩ := boxed_appended (m₀ := w.heap.size) hvd (by decide) hrd (by omega) (by omega) (by omega) hown' hgrow
              have hc1 := hv1.cell
              have hf1 := hv1.frozen
              refine hK _ _ ?_
              clear hK K
              refine wpAnyIn_ready (rs := [6]) (by kernel_rfl) (by simp) ?_
              refine AllReadyIn.cons rfl (fun K hK => ?_) AllReadyIn.nil
              go_simp
              refine hK _ _ ?_
              clear hK K
              refine wpAnyIn_done (by kernel_rfl) ?_ _
              exact ⟨(HKF.out.trans hk2).from _, ⟨(HKF.out.trans hk2).from _, fun b hb1 hb2' => (hblk b (by omega) (by omega)).trans rfl⟩, ⟨⟨_, hv2, by rw [HIT.out]; simpa using hr2⟩, (hblk _ (by omega) (by omega)).trans bSd⟩, hBd.trans hb2⟩
            exact AllReadyIn.nil
          exact AllReadyIn.nil
        exact AllReadyIn.nil
      exact AllReadyIn.nil
    exact AllReadyIn.nil
  case done =>
    rintro D s W hD rfl ⟨⟨⟨v, hv, hrow⟩, bS⟩, hB⟩ hK
    have hne := ivT_pos d h1 h2
    have hle := ivT_le d 6
    have hjl := join_len d h1 h2
    have hjt := join_ivs d h1 h2
    obtain ⟨g, cap, rfl, hcap⟩ : ∃ g cap, v = .slice (some ⟨g, 0, none⟩) (ivT d 6).length cap ∧ (ivT d 6).length ≤ cap := by
      rcases hrow.2 with ⟨_, h0⟩ | ⟨g, cap, _, rfl, _, _, hc, _⟩
      · omega
      · exact ⟨g, cap, rfl, hc⟩
    have hbk : g < W.heap.size := (hrow.lt g (by simp [Value.ownBlock])).2
    have hcells : ∀ (j : Nat) x, (ivT d 6)[j]? = some x → W.cell? ⟨g, 0 + j, none⟩ = some (.string x) := fun j x hj => by
      have hjl : j < (ivT d 6).length := (List.getElem?_eq_some_iff.1 hj).1
      rw [Nat.zero_add, hrow.cellAt j (by simpa using hjl), List.getElem?_map, hj]; rfl
    have hc := hv.cell
    have hDl := (Array.getElem?_eq_some_iff.1 hK).1
    clear hrow hv bS
    gi_wp2
    refine ⟨trivial, (callsIn_wide.2 (Tryd.strings_Join g 0 cap (ivT d 6) ⟨#[44]⟩ W hcells hbk (by omega) hcap hjl)).mono ?_⟩
    rintro e w9 ⟨rfl, b9⟩
    have hK9 := (b9.block D hDl).trans hK
    gi_wp2
    refine ⟨by simp, .inl ⟨_, _, rfl, run_takeDeferred hK9, ?_⟩⟩
    refine ⟨_, results_tmp rfl _ _ _, by rw [← hjt]; rfl, ?_⟩
    have hB9 := hB.trans (b9.mono hB.size)
    exact hB9.trans (belowK_b (w := w) (Nat.le_refl _) w9 D _ _ (by omega) hK9 rfl rfl)
  case stop =>
    rintro D c pre W _ _ h _
    exact h.elim

set_option maxRecDepth 100000 in
theorem iEncodeDomain_in (d : Int) (w : World) (h1 : 0 ≤ d) (h2 : d ≤ 63) :
    Calls Tryd.prog 20 #[.int .i64 d] w (TextPost (fmtD d) w) := by
  by_cases h0 : d = 0
  · subst h0
    have hv : wiB 0 0 63 = true := rfl
    have HF : Hid (fmtD 0 = ⟨#[101, 109, 112, 116, 121]⟩) := Lib.hid (by decide +kernel)
    go_enter Tryd.func20, Tryd.ntmps20
    go_wp2_with (go_at_call 14; refine (ivalid_any _ _).mono ?_; rintro e w' ⟨rfl, rfl⟩)
    go_ret
    exact ⟨by rw [HF.out]; rfl, Below.refl _ _⟩
  · exact iEncodeDomain_ok d (by omega) h2 w
set_option maxRecDepth 100000 in
theorem iEncodeDomain_any (d : Int) (w : World) :
    Calls Tryd.prog 20 #[.int .i64 d] w (TextPost (encT d) w) := by
  cases hv : wiB d 0 63
  · have HF : Hid (encT d = ⟨#[]⟩) := Lib.hid (by unfold encT; rw [hv]; rfl)
    go_enter Tryd.func20, Tryd.ntmps20
    go_wp2_with (go_at_call 14; refine (ivalid_any _ _).mono ?_; rintro e w' ⟨rfl, rfl⟩)
    go_ret
    exact ⟨by rw [HF.out]; rfl, Below.refl _ _⟩
  · have hd := wiB_in hv
    rw [show encT d = fmtD d from by unfold encT; rw [hv]; rfl]
    exact iEncodeDomain_in d w hd.1 hd.2
theorem iDecodeDomain_any (s : ByteArray) (w : World) : Calls Tryd.prog 22 #[.string s] w (DecPost s w) :=
  iDecodeDomain_of (fun d w h1 h2 => iEncodeDomain_in d w h1 h2) s w
end Go.Proofs.YtanaidpffoibgaaDoor
