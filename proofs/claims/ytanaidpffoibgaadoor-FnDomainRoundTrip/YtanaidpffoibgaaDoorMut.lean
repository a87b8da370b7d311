/- Drawn texts, and plain facts on texts of domains. -/
import Derived.Test.YtanaidpffoibgaaDoorEdm
import Derived.Test.YtanaidpffoibgaaDoorDraw
import Derived.Deep.RegionWith
namespace Go.Proofs.YtanaidpffoibgaaDoor
open Go.ChangeShapes Go.WideShapes Go.ChangeAt Go.RowKit
set_option linter.unusedVariables false
set_option linter.unusedSimpArgs false

set_option maxRecDepth 100000 in
set_option maxHeartbeats 2000000 in
theorem of_any (n0 B L m : Nat) (p : Int) (f : Nat → ByteArray) (w : World) (hR : Rd n0 B p w) (hp : 0 ≤ p) (hp2 : p ≤ 100000000) (hm : 0 < m) (hm2 : m ≤ 1000) (hL : L ≠ B) (hc : ∀ i, i < m → w.cell? ⟨L, i, none⟩ = some (.string (f i))) :
    Calls Tryd.prog 59 #[.pointer (some ⟨B, 0, none⟩), .slice (some ⟨L, 0, none⟩) m m] w fun e w' => ∃ i, i < m ∧ e = .returned (.string (f i)) ∧ Below n0 w w' := by
  have HC := Lib.hid hc
  clear hc
  go_enter Tryd.func59, Tryd.ntmps59
  go_wp2_with fail
  refine (pick_any n0 B p m w hR hp (by omega) (by omega)).mono ?_
  rintro e w1 ⟨x, k, rfl, hx0, hx1, hw1⟩
  obtain ⟨i, rfl⟩ := Int.eq_ofNat_of_zero_le hx0
  have hi : i < m := by omega
  have hci : w1.cell? ⟨L, i, none⟩ = some (.string (f i)) := by
    rw [hw1, World.cell?_drewN, cell_set_ne _ _ _ _ (by intro h; have := congrArg Addr.block h; simp at this; exact hL this.symm)]
    exact HC.out i hi
  have b1 : Below n0 w w1 := by rw [hw1]; exact below_picked hR.1 k
  clear hw1 hx0 hx1
  go_wp2
  go_ret
  exact ⟨i, hi, rfl, b1⟩

/-- A drawn text. -/
def TextDrawn (n0 : Nat) (w : World) (e : Ending) (w' : World) : Prop := ∃ s : ByteArray, e = .returned (.string s) ∧ s.size ≤ 1000000 ∧ Below n0 w w'
def strs5 (i : Nat) : ByteArray := [(⟨#[48]⟩ : ByteArray), ⟨#[32]⟩, ⟨#[10]⟩, ⟨#[44, 49]⟩, ⟨#[120]⟩].getD i ⟨#[]⟩
def strs8 (i : Nat) : ByteArray := [(⟨#[48]⟩ : ByteArray), ⟨#[49]⟩, ⟨#[32]⟩, ⟨#[45]⟩, ⟨#[44]⟩, ⟨#[10]⟩, ⟨#[120]⟩, ⟨#[61]⟩].getD i ⟨#[]⟩
theorem strs8_cells (W : World) (t : TypeId) (i : Nat) (hi : i < 8) : (W.alloc (.cells #[.string ⟨#[48]⟩, .string ⟨#[49]⟩, .string ⟨#[32]⟩, .string ⟨#[45]⟩, .string ⟨#[44]⟩, .string ⟨#[10]⟩, .string ⟨#[120]⟩, .string ⟨#[61]⟩] t)).cell? ⟨W.heap.size, i, none⟩ = some (.string (strs8 i)) := by
  match i, hi with
  | 0, _ => simp [strs8]
  | 1, _ => simp [strs8]
  | 2, _ => simp [strs8]
  | 3, _ => simp [strs8]
  | 4, _ => simp [strs8]
  | 5, _ => simp [strs8]
  | 6, _ => simp [strs8]
  | 7, _ => simp [strs8]
theorem strs5_size (i : Nat) (h : i < 5) : (strs5 i).size ≤ 2 := by revert i; decide +kernel
theorem strs8_size (i : Nat) (h : i < 8) : (strs8 i).size ≤ 2 := by revert i; decide +kernel

theorem wrap_k (n : Int) (h1 : -9223372036854775808 ≤ n) (h2 : n ≤ 9223372036854775807) : IntKind.i64.wrap n = n := by simp [IntKind.wrap, IntKind.bits, IntKind.signed]; omega

set_option maxRecDepth 100000 in
set_option maxHeartbeats 4000000 in
theorem mutate_any (n0 B : Nat) (p : Int) (s : ByteArray) (w : World) (hR : Rd n0 B p w) (hn : n0 ≤ w.heap.size) (hp : 0 ≤ p) (hp2 : p ≤ 1000000) (hs : s.size ≤ 1000) :
    Calls Tryd.prog 41 #[.pointer (some ⟨B, 0, none⟩), .string s] w (TextDrawn n0 w) := by
  go_enter Tryd.func41, Tryd.ntmps41
  go_wp2_with fail
  refine (pick_num n0 B p _ w hR hp (by omega) (by omega)).mono ?_
  rintro e w1 ⟨x, rfl, hx0, hx1, r1, b1⟩
  obtain ⟨k, rfl⟩ := Int.eq_ofNat_of_zero_le hx0
  go_wp2_with fail
  refine (pick_num n0 B (p + 1) 5 w1 r1 (by omega) (by omega) (by omega)).mono ?_
  rintro e w2 ⟨y, rfl, hy0, hy1, r2, b2⟩
  have B2 : Below n0 w w2 := b1.trans b2
  have hn2 : n0 ≤ w2.heap.size := Nat.le_trans hn B2.size
  have hlt := World.block_lt_of_cell? w2 _ r2.2.1
  have r2d : Rd n0 B (p + 1 + 1) w2.drew := r2.drewN 1
  by_cases e0 : y = 0
  · subst e0
    by_cases hk : (k : Int) < s.size
    · have hk2 : (k : Int) + 1 ≤ (s.size : Int) := by omega
      have hk3 : (0 : Int) ≤ (k : Int) + 1 := by omega
      have hk4 : k + 1 ≤ s.size := by omega
      have hk5 : k ≤ s.size := by omega
      have hx1 : (s.extract 0 k).size ≤ 1000 := by rw [ByteArray.size_extract]; omega
      have hx2 : (s.extract (k + 1) s.size).size ≤ 1000 := by rw [ByteArray.size_extract]; omega
      go_wp2
      refine wp_region_any (by kernel_rfl) ?_
      try (change wpAny _ _ _ _ _ _ _ (World.drew _))
      refine wpAny_take (i := 0) (v := ?_) rfl (by kernel_rfl) (by kernel_rfl) (by kernel_rfl) (fun _ _ _ h => h) (Or.inl ⟨by rfl, by intro w; go_simp; first | done | with_reducible rfl⟩) ?_
      refine wpAny_take (i := 1) (v := ?_) rfl (by kernel_rfl) (by kernel_rfl) (by kernel_rfl) (fun _ _ _ h => h) (Or.inl ⟨by rfl, by intro w; go_simp; first | done | with_reducible rfl⟩) ?_
      refine wpAny_take (i := 2) (v := ?_) rfl (by kernel_rfl) (by kernel_rfl) (by kernel_rfl) (fun _ _ _ h => h) (Or.inl ⟨by rfl, by intro w; go_simp; first | done | with_reducible rfl⟩) ?_
      refine wpAny_take (i := 3) (v := ?_) rfl (by kernel_rfl) (by kernel_rfl) (by kernel_rfl) (fun _ _ _ h => h) (Or.inl ⟨by rfl, by intro w; go_simp; first | done | with_reducible rfl⟩) ?_
      refine wpAny_take (i := 7) (v := ?_) rfl (by kernel_rfl) (by kernel_rfl) (by kernel_rfl) (fun _ _ _ h => h) (Or.inl ⟨by rfl, by intro w; go_simp; first | done | with_reducible rfl⟩) ?_
      refine wpAny_take (i := 8) (v := ?_) rfl (by kernel_rfl) (by kernel_rfl) (by kernel_rfl) (fun _ _ _ h => h) (Or.inl ⟨by rfl, by intro w; go_simp; first | done | with_reducible rfl⟩) ?_
      refine wpAny_take (i := 9) (v := .int .i64 ((k : Int) + 1)) rfl (by kernel_rfl) (by kernel_rfl) (by kernel_rfl) (fun _ _ _ h => h) (Or.inl ⟨by rfl, by intro w; go_simp; rw [show IntKind.i64.wrap ((k : Int) + 1) = (k : Int) + 1 from wrap_k _ (by omega) (by omega)]⟩) ?_
      refine wpAny_take (i := 10) (v := ?_) rfl (by kernel_rfl) (by kernel_rfl) (by kernel_rfl) (fun _ _ _ h => h) (Or.inl ⟨by rfl, by intro w; go_simp; first | done | with_reducible rfl⟩) ?_
      refine wpAny_ready (rs := [4]) (by kernel_rfl) (by simp) ?_
      refine AllReady.cons rfl (fun K hK => ?_) AllReady.nil
      go_simp
      refine hK _ _ ?_
      clear hK K
      refine wpAny_ready (rs := [5]) (by kernel_rfl) (by simp) ?_
      refine AllReady.cons rfl (fun K hK => ?_) AllReady.nil
      go_simp
      refine (of_any n0 B w2.heap.size 8 (p + 1 + 1) strs8 _ ((r2.alloc hn2 _).drewN 1) (by omega) (by omega) (by omega) (by omega) (Nat.ne_of_gt hlt) (fun i hi => strs8_cells w2 _ i hi)).mono ?_
      rintro e w3 ⟨i, hi, rfl, b3⟩
      have hsi := strs8_size i hi
      have B3 : Below n0 w w3 := (B2.alloc hn2 _).drew.trans b3
      have hz1 : (s.extract 0 k ++ strs8 i).size ≤ 1002 := by rw [ByteArray.size_append]; omega
      refine hK _ _ ?_
      clear hK K
      refine wpAny_ready (rs := [6]) (by kernel_rfl) (by simp) ?_
      refine AllReady.cons rfl (fun K hK => ?_) AllReady.nil
      go_simp
      rw [if_neg (by omega)]
      refine hK _ _ ?_
      clear hK K
      refine wpAny_ready (rs := [11]) (by kernel_rfl) (by simp) ?_
      refine AllReady.cons rfl (fun K hK => ?_) AllReady.nil
      go_simp
      rw [if_neg (by omega)]
      refine hK _ _ ?_
      clear hK K
      refine wpAny_ready (rs := [12]) (by kernel_rfl) (by simp) ?_
      refine AllReady.cons rfl (fun K hK => ?_) AllReady.nil
      go_simp
      refine hK _ _ ?_
      clear hK K
      refine wpAny_done (by kernel_rfl) ?_ _
      go_wp2
      go_ret
      exact ⟨s.extract 0 k ++ strs8 i ++ s.extract (k + 1) s.size, rfl, by rw [ByteArray.size_append]; omega, B3⟩
    · go_wp2
      go_ret
      exact ⟨_, rfl, by omega, B2⟩
  have k0 : (y == 0) = false := by simp [e0]
  by_cases e1 : y = 1
  · subst e1
    clear e0
    go_wp2
    go_ret
    exact ⟨s.extract 0 k, rfl, by rw [ByteArray.size_extract]; omega, B2⟩
  have k1 : (y == 1) = false := by simp [e1]
  by_cases e2 : y = 2
  · subst e2
    clear e0 e1
    go_wp2_with fail
    refine (of_any n0 B w2.heap.size 5 (p + 1 + 1) strs5 _ (r2.alloc hn2 _) (by omega) (by omega) (by omega) (by omega) (Nat.ne_of_gt hlt) (fun i hi => by match i, hi with | 0, _ => simp [strs5] | 1, _ => simp [strs5] | 2, _ => simp [strs5] | 3, _ => simp [strs5] | 4, _ => simp [strs5])).mono ?_
    rintro e w3 ⟨i, hi, rfl, b3⟩
    have hsi := strs5_size i hi
    have B3 : Below n0 w w3 := (B2.alloc hn2 _).trans b3
    go_wp2
    go_ret
    exact ⟨s ++ strs5 i, rfl, by rw [ByteArray.size_append]; omega, B3⟩
  have k2 : (y == 2) = false := by simp [e2]
  go_wp2
  go_ret
  exact ⟨_, rfl, by omega, B2⟩

theorem rd_below {n0 B : Nat} {p : Int} {w w' : World} (h : Rd n0 B p w) (hb : Below w.heap.size w w') : Rd n0 B p w' := by
  obtain ⟨hB, hc, hz, a, len, cap, hs, hl, h⟩ := h
  have k : ∀ (q : Addr) (x : Value), w.cell? q = some x → w'.cell? q = some x := fun q x hq => (hb.cell (World.block_lt_of_cell? w _ hq)).trans hq
  have hlt := World.block_lt_of_cell? w _ hc
  refine ⟨hB, k _ _ hc, ?_, a, len, cap, k _ _ hs, hl, ?_⟩
  · unfold World.frozen? at hz ⊢
    rw [hb.block _ hlt]
    exact hz
  · rcases h with h | ⟨b, off, f, e, hb0, hf, hb⟩
    · exact .inl h
    · exact .inr ⟨b, off, f, e, hb0, hf, fun i hi => k _ _ (hb i hi)⟩
theorem fmtD_size_fin : ∀ n : Fin 64, (fmtD (n.val : Int)).size ≤ 100 := by decide +kernel
theorem encT_size (d : Int) : (encT d).size ≤ 100 := by
  unfold encT
  split
  · rename_i h
    have := wiB_in h
    have k := fmtD_size_fin ⟨d.toNat, by omega⟩
    simpa only [Int.toNat_of_nonneg this.1] using k
  · simp [ByteArray.size]

set_option maxRecDepth 100000 in
set_option maxHeartbeats 1000000 in
theorem drawDecode_any (a : Option Addr) (len cap : Nat) (w : World) (h : CodeOk w.heap.size w a len cap) :
    Calls Tryd.prog 23 #[.slice a len cap] w (TextDrawn w.heap.size w) := by
  go_enter Tryd.func23, Tryd.ntmps23
  go_wp2_with fail
  refine (newReader_any w.heap.size a len cap w (Nat.le_refl _) h).mono ?_
  rintro e w1 ⟨rfl, hr, hb, hz⟩
  have hs := hb.size
  clear hz h
  go_wp2_with fail
  refine (anyDomain_any w.heap.size w.heap.size 0 w1 hr hs (by omega) (by omega)).mono ?_
  rintro e w2 ⟨x, p', rfl, hp1, hp2, r2, b2⟩
  have B2 : Below w.heap.size w w2 := hb.trans b2
  go_wp2_with fail
  refine (sEncodeDomain_any x w2).mono ?_
  rintro e w3 ⟨rfl, b3⟩
  have B3 : Below w.heap.size w w3 := B2.trans (b3.mono B2.size)
  have r3 : Rd w.heap.size w.heap.size p' w3 := rd_below r2 b3
  have hsz := encT_size x
  go_wp2_with fail
  refine (pick_num w.heap.size w.heap.size p' 2 w3 r3 (by omega) (by omega) (by omega)).mono ?_
  rintro e w4 ⟨y, rfl, hy0, hy1, r4, b4⟩
  have B4 : Below w.heap.size w w4 := B3.trans b4
  by_cases e0 : y = 0
  · subst e0
    go_wp2
    go_ret
    exact ⟨_, rfl, by omega, B4⟩
  have k0 : (y == 0) = false := by simp [e0]
  go_wp2_with fail
  refine (mutate_any w.heap.size w.heap.size (p' + 1) (encT x) w4 r4 B4.size (by omega) (by omega) (by omega)).mono ?_
  rintro e w5 ⟨s, rfl, hs5, b5⟩
  go_wp2
  go_ret
  exact ⟨s, rfl, hs5, B4.trans b5⟩

theorem dec_enc_fin : ∀ n : Fin 64, decN (fmtD (n.val : Int)) 0 64 = ((n.val : Int), true) := by decide +kernel
theorem dec_enc (d : Int) (h1 : 0 ≤ d) (h2 : d ≤ 63) : decN (fmtD d) 0 64 = (d, true) := by
  have k := dec_enc_fin ⟨d.toNat, by omega⟩
  simpa only [Int.toNat_of_nonneg h1] using k
theorem fmtD_ne_fin : ∀ n : Fin 64, (fmtD (n.val : Int)).toList.isEmpty = false := by decide +kernel
theorem fmtD_ne (d : Int) (h1 : 0 ≤ d) (h2 : d ≤ 63) : (fmtD d).toList.isEmpty = false := by
  have k := fmtD_ne_fin ⟨d.toNat, by omega⟩
  simpa only [Int.toNat_of_nonneg h1] using k
theorem decN_true (s : ByteArray) : ∀ (f k : Nat) (d : Int), decN s k f = (d, true) → (k : Int) ≤ d ∧ d < k + f ∧ ((fmtD d).toList == s.toList) = true
  | 0, k, d, h => by simp [decN] at h
  | f + 1, k, d, h => by
    rw [decN] at h
    split at h
    · rename_i hh
      simp at h
      subst h
      exact ⟨by omega, by omega, hh⟩
    · have := decN_true s f (k + 1) d h
      exact ⟨by omega, by omega, this.2.2⟩
theorem decN_false (s : ByteArray) : ∀ (f k : Nat) (d : Int), decN s k f = (d, false) → d = 0
  | 0, k, d, h => by simp [decN] at h; exact h.symm
  | f + 1, k, d, h => by
    rw [decN] at h
    split at h
    · simp at h
    · exact decN_false s f (k + 1) d h
end Go.Proofs.YtanaidpffoibgaaDoor
