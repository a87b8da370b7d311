/- IsImplied, both packages. -/
import Derived.Test.YtipapmmjfoaddabGreatPrC
import Derived.Test.YtipapmmjfoaddabGreatNgs
namespace Go.Proofs.YtipapmmjfoaddabGreat
open Go.ChangeShapes Go.WideShapes Go.ChangeAt Go.RowKit Go.Deep Go.Shelf
set_option linter.unusedVariables false
set_option linter.unusedSimpArgs false

theorem OwnC.rdC {w : World} {B : Nat} {v : Value} {m : Nat} {ls : List Lit} (h : OwnC w B v m ls) : RdLits w v ls := by
  obtain ⟨a, c, ev, h1, h2, h3⟩ := h.form
  subst ev
  have hm := h.1
  subst hm
  refine ⟨a, c, rfl, h1, by unfold maxLen; omega, ?_⟩
  by_cases h0 : ls.length = 0
  · exact .inl h0
  · obtain ⟨g, rfl, _⟩ := h3 (by omega)
    refine .inr ⟨g, 0, rfl, fun i l hi => ?_⟩
    rw [Nat.zero_add]
    exact h.cells hi
theorem ng_on {ls : List Lit} {n : Nat} (h : LitsOn ls n) : LitsOn (ls.map ngL) n := fun l hl => by
  obtain ⟨k, hk, rfl⟩ := List.mem_map.1 hl
  exact h k hk
theorem dom_ng {l : Lit} (h0 : 0 ≤ l.val) (h5 : l.val ≤ 5) : IntKind.i64.wrap (63 - domL l) = domL (ngL l) := by
  obtain ⟨v, a, s⟩ := l
  simp only at h0 h5
  rcases (show a = 0 ∨ a = 1 ∨ a = 2 ∨ a = 3 ∨ a = 4 ∨ a = 5 by omega) with rfl | rfl | rfl | rfl | rfl | rfl <;> cases s <;> rfl
theorem restL_has {n : Nat} : ∀ {ls : List Lit} {d : List Int}, DomN n d → LitsOn ls n → ∀ (j : Nat) (u : Int), hasB ((restL d ls)[j]?.getD 0) u = true ↔ hasB (d[j]?.getD 0) u = true ∧ ∀ l ∈ ls, l.var.toNat = j → ((decide (u = l.val)) != l.neg) = true
  | [], d, hd, hl, j, u => by simp [restL]
  | l :: ls, d, hd, hl, j, u => by
    have h0 := hl l (by simp)
    have hs := hd.small l.var.toNat (by rw [hd.len]; omega)
    have hr := andSmall (l := l) hs.1 hs.2 h0.2.1 h0.2.2
    have ih := restL_has (ls := ls) (set_domN hd l.var.toNat hr.1 hr.2) (fun x hx => hl x (by simp [hx])) j u
    show hasB ((restL (d.set l.var.toNat (andI (d[l.var.toNat]?.getD 0) (domL l))) ls)[j]?.getD 0) u = true ↔ _
    rw [ih]
    by_cases e : l.var.toNat = j
    · subst e
      rw [List.getElem?_set_self (by rw [hd.len]; omega)]
      show hasB (andI _ _) u = true ∧ _ ↔ _
      rw [hasAnd u hs.1 hs.2 h0.2.1 h0.2.2, Bool.and_eq_true]
      constructor
      · rintro ⟨⟨h1, h2⟩, h3⟩
        refine ⟨h1, fun k hk hkj => ?_⟩
        rcases List.mem_cons.1 hk with rfl | hk
        · exact h2
        · exact h3 k hk hkj
      · rintro ⟨h1, h2⟩
        exact ⟨⟨h1, h2 l (by simp) rfl⟩, fun k hk hkj => h2 k (by simp [hk]) hkj⟩
    · rw [List.getElem?_set_ne e]
      constructor
      · rintro ⟨h1, h3⟩
        refine ⟨h1, fun k hk hkj => ?_⟩
        rcases List.mem_cons.1 hk with rfl | hk
        · exact absurd hkj e
        · exact h3 k hk hkj
      · rintro ⟨h1, h2⟩
        exact ⟨h1, fun k hk hkj => h2 k (by simp [hk]) hkj⟩
theorem restL_perm {n : Nat} {ls ks : List Lit} {d : List Int} (hd : DomN n d) (hl : LitsOn ls n) (hp : ks.Perm ls) : restL d ks = restL d ls := by
  have hk := hl.perm hp
  have h1 := restL_domN hd hl
  have h2 := restL_domN hd hk
  refine leD.antisymm (h2.len.trans h1.len.symm) h2.small h1.small (fun j u hu => ?_) (fun j u hu => ?_)
  · rw [restL_has hd hk] at hu
    rw [restL_has hd hl]
    exact ⟨hu.1, fun l hm => hu.2 l (hp.mem_iff.2 hm)⟩
  · rw [restL_has hd hl] at hu
    rw [restL_has hd hk]
    exact ⟨hu.1, fun l hm => hu.2 l (hp.mem_iff.1 hm)⟩
/-- What IsImplied answers. -/
def impB (m : Mod) (cls : List (List Lit)) (c : List Lit) : Bool := (vmB m && prfB cls m.doms.length) && (clB c m.doms.length && emptyB (clfL m.cons cls (restL m.doms (c.map ngL))))

/-- The activation inside the region of assume. -/
def asAct (z0 z1 z2 z3 z4 z5 z6 z7 z8 z9 z10 z11 z12 z13 z14 z15 z16 z17 z18 z19 z20 z21 z22 z23 z24 z25 z26 z27 z28 z29 z30 z31 z32 z33 z34 z35 z36 z37 : Value) : Act := { tmps := #[z0, z1, z2, z3, z4, z5, z6, z7, z8, z9, z10, z11, z12, z13, z14, z15, z16, z17, z18, z19, z20, z21, z22, z23, z24, z25, z26, z27, z28, z29, z30, z31, z32, z33, z34, z35, z36, z37], defers := [] }
set_option maxRecDepth 100000 in
set_option maxHeartbeats 16000000 in
theorem sassume_any (dv v : Value) (ds : List Int) (ls : List Lit) (w : World) (hd : RdInts w dv ds) (h : RdLits w v ls) (hl : LitsOn ls ds.length) (hs : Small ds 0 63) (h1 : 1 ≤ ds.length) (h4 : ds.length ≤ 4) :
    Calls Tryz.prog 35 #[dv, v] w (IntsPost (restL ds (ls.map ngL)) w) := by
  have HDN : Hid (∀ k, DomN ds.length (restL ds ((ls.map ngL).take k))) := Lib.hid (fun k => restL_domN ⟨rfl, hs⟩ ((ng_on hl).take k))
  have HD := Lib.hid hd
  have HL := Lib.hid h
  have HLO := Lib.hid hl
  obtain ⟨ax, cx, ex, -⟩ := hd
  obtain ⟨a, cap, ev, -⟩ := id h
  obtain ⟨n, hn⟩ : ∃ n, n = ds.length := ⟨_, rfl⟩
  obtain ⟨m, hm⟩ : ∃ m, m = ls.length := ⟨_, rfl⟩
  rw [ex] at HD ⊢
  rw [ev] at HL ⊢
  have hlc := rdLits_len HL.out
  rw [← hm] at HL hlc ⊢
  rw [← hn] at HD HLO HDN h1 h4 ⊢
  have HN := Lib.hid hn
  have HM := Lib.hid hm
  have hcx := (rdInts_cap HD.out).2
  have hlc1 := hlc.2.1
  have hlc2 := hlc.2.2
  clear hl ex ev h hn hm hs hlc
  unfold IntsPost
  go_enter Tryz.func35, Tryz.ntmps35
  go_wp2_with fail
  refine (scopyInts_any _ ds w HD.out (by have := HN.out; omega) (by have := HN.out; omega)).mono ?_
  rintro e w3 ⟨v3, rfl, o3, b⟩
  rw [← HN.out] at o3
  obtain ⟨gd, cd, ev3, hg1, hg2⟩ := o3.form (by omega)
  subst ev3
  have HB3 := Lib.hid b
  have HO3 := Lib.hid o3
  clear b o3
  go_wp2
  go_loopw [6] (fun i wr => ∃ k : Nat, k ≤ m ∧ i = .int .i64 k ∧ Hid (wr.ownsRow w.heap.size 3 1 (.slice (some ⟨gd, 0, none⟩) n cd) n ((restL ds ((ls.map ngL).take k)).map (Value.int .i64))) ∧ Hid (Below w.heap.size w wr)) (fun i _ => m - (intOf i).toNat)
  case atStart => exact ⟨0, Nat.zero_le _, rfl, HO3, HB3⟩
  case round =>
    obtain ⟨k, hk, rfl, HO, HB⟩ := hrel
    by_cases hlt : k < m
    · obtain ⟨b, off, l, rfl, hck, c0, c1, c2⟩ := rdLits_at (HL.out.below HB.out) hlt
      obtain ⟨⟨hv0, hv1⟩, ha0, ha1⟩ := HLO.out l (List.mem_of_getElem? hck)
      have hckn : (ls.map ngL)[k]? = some (ngL l) := by rw [List.getElem?_map, hck]; rfl
      have HRS := Lib.hid (restL_snoc (ds := ds) hckn)
      have hdn := dom_ng ha0 ha1
      obtain ⟨lv, la, ln⟩ := l
      simp only at hv0 hv1 ha0 ha1 c0 c1 c2
      obtain ⟨x, rfl⟩ : ∃ x : Nat, lv = x := ⟨lv.toNat, by omega⟩
      have hxn : x < n := by omega
      obtain ⟨p, hp⟩ : ∃ p, p = restL ds ((ls.map ngL).take k) := ⟨_, rfl⟩
      rw [← hp] at HO HRS
      have HPL : Hid (p.length = n) := Lib.hid (by rw [hp]; exact (HDN.out k).len)
      obtain ⟨d, hdd⟩ : ∃ d, d = p[x]?.getD 0 := ⟨_, rfl⟩
      have HDD := Lib.hid hdd
      have HE := Lib.hid (sdomL_any ⟨x, la, ln⟩ wr.drew ha0 ha1)
      obtain ⟨dm, hdm⟩ : ∃ dm, dm = domL ⟨x, la, ln⟩ := ⟨_, rfl⟩
      obtain ⟨dg, hdg⟩ : ∃ dg, dg = domL (ngL ⟨x, la, ln⟩) := ⟨_, rfl⟩
      rw [← hdm] at HE hdn
      rw [← hdg] at hdn HRS
      have HDN2 := Lib.hid hdn
      have hS : LitAt b (off + k * 3) ⟨x, la, ln⟩ wr.drew ∧ wr.drew.cell? ⟨gd, x, none⟩ = some (.int .i64 d) := ⟨⟨c0, c1, c2⟩, by
        have hx : x < p.length := by rw [HPL.out]; exact hxn
        have := HO.out.cellAt x (by omega)
        rw [List.getElem?_map, List.getElem?_eq_getElem hx] at this
        rw [hdd, List.getElem?_eq_getElem hx]
        exact this⟩
      have HOW : Hid (wr.drew.ownsRow w.heap.size 3 1 (.slice (some ⟨gd, 0, none⟩) n cd) n (p.map (Value.int .i64))) := Lib.hid (own_below HO.out (Below.refl _ _).drew)
      have HBD : Hid (Below w.heap.size w wr.drew) := Lib.hid HB.out.drew
      clear hck hckn hv0 hv1 ha0 ha1 hp hdd hdm hdg hdn c0 c1 c2
      go_wp2_with fail
      refine region_z (fun w' => LitAt b (off + k * 3) ⟨x, la, ln⟩ w' ∧ w'.cell? ⟨gd, x, none⟩ = some (.int .i64 d)) (fun i => i == 22) rfl ?_
      change wpAnyZ Tryz.prog .any _ _ _ _ 23 _ (asAct _ _ _ _ _ _ _ _ _ _ _ _ _ _ _ _ _ _ _ _ _ _ _ _ _ _ _ _ _ _ _ _ _ _ _ _ _ _) wr.drew
      refine wpAnyZ_takeW (i := 0) (v := .slice (some ⟨gd, 0, none⟩) n cd) rfl (by kernel_rfl) (by kernel_rfl) (by kernel_rfl) (fun _ _ _ h => h) (.inl ⟨rfl, fun w' hw' => rfl⟩) ?_
      change wpAnyZ Tryz.prog .any _ _ _ _ 22 _ (asAct _ _ _ _ _ _ _ _ _ _ _ _ _ _ _ (.slice (some ⟨gd, 0, none⟩) n cd) _ _ _ _ _ _ _ _ _ _ _ _ _ _ _ _ _ _ _ _ _ _) wr.drew
      refine wpAnyZ_takeW (i := 1) (v := .slice (some ⟨b, off, none⟩) m cap) rfl (by kernel_rfl) (by kernel_rfl) (by kernel_rfl) (fun _ _ _ h => h) (.inl ⟨rfl, fun w' hw' => rfl⟩) ?_
      change wpAnyZ Tryz.prog .any _ _ _ _ 21 _ (asAct _ _ _ _ _ _ _ _ _ _ _ _ _ _ _ (.slice (some ⟨gd, 0, none⟩) n cd) (.slice (some ⟨b, off, none⟩) m cap) _ _ _ _ _ _ _ _ _ _ _ _ _ _ _ _ _ _ _ _ _) wr.drew
      refine wpAnyZ_takeW (i := 2) (v := .int .i64 k) rfl (by kernel_rfl) (by kernel_rfl) (by kernel_rfl) (fun _ _ _ h => h) (.inl ⟨rfl, fun w' hw' => rfl⟩) ?_
      change wpAnyZ Tryz.prog .any _ _ _ _ 20 _ (asAct _ _ _ _ _ _ _ _ _ _ _ _ _ _ _ (.slice (some ⟨gd, 0, none⟩) n cd) (.slice (some ⟨b, off, none⟩) m cap) (.int .i64 k) _ _ _ _ _ _ _ _ _ _ _ _ _ _ _ _ _ _ _ _) wr.drew
      refine wpAnyZ_takeW (i := 3) (v := .pointer (some ⟨b, off + k * 3, none⟩)) rfl (by kernel_rfl) (by kernel_rfl) (by kernel_rfl) (fun _ _ _ h => h) (.inl ⟨rfl, fun w' hw' => exec_index rfl rfl rfl (index_lits w' _ _ _ _ _ hlt)⟩) ?_
      change wpAnyZ Tryz.prog .any _ _ _ _ 19 _ (asAct _ _ _ _ _ _ _ _ _ _ _ _ _ _ _ (.slice (some ⟨gd, 0, none⟩) n cd) (.slice (some ⟨b, off, none⟩) m cap) (.int .i64 k) (.pointer (some ⟨b, off + k * 3, none⟩)) _ _ _ _ _ _ _ _ _ _ _ _ _ _ _ _ _ _ _) wr.drew
      refine wpAnyZ_takeW (i := 4) (v := .pointer (some ⟨b, off + k * 3, none⟩)) rfl (by kernel_rfl) (by kernel_rfl) (by kernel_rfl) (fun _ _ _ h => h) (.inl ⟨rfl, fun w' hw' => exec_field0 rfl rfl⟩) ?_
      change wpAnyZ Tryz.prog .any _ _ _ _ 18 _ (asAct _ _ _ _ _ _ _ _ _ _ _ _ _ _ _ (.slice (some ⟨gd, 0, none⟩) n cd) (.slice (some ⟨b, off, none⟩) m cap) (.int .i64 k) (.pointer (some ⟨b, off + k * 3, none⟩)) (.pointer (some ⟨b, off + k * 3, none⟩)) _ _ _ _ _ _ _ _ _ _ _ _ _ _ _ _ _ _) wr.drew
      refine wpAnyZ_take (i := 5) (v := .int .i64 x) rfl (by kernel_rfl) (by kernel_rfl) (by kernel_rfl) (by kernel_rfl) (fun _ _ _ h => h) (.inl ⟨rfl, fun w' hw' => exec_load rfl rfl (load_int w' _ _ _ hw'.1.1)⟩) hS ?_
      change wpAnyZ Tryz.prog .any _ _ _ _ 17 _ (asAct _ _ _ _ _ _ _ _ _ _ _ _ _ _ _ (.slice (some ⟨gd, 0, none⟩) n cd) (.slice (some ⟨b, off, none⟩) m cap) (.int .i64 k) (.pointer (some ⟨b, off + k * 3, none⟩)) (.pointer (some ⟨b, off + k * 3, none⟩)) (.int .i64 x) _ _ _ _ _ _ _ _ _ _ _ _ _ _ _ _ _) wr.drew
      refine wpAnyZ_takeW (i := 6) (v := .slice (some ⟨gd, 0, none⟩) n cd) rfl (by kernel_rfl) (by kernel_rfl) (by kernel_rfl) (fun _ _ _ h => h) (.inl ⟨rfl, fun w' hw' => rfl⟩) ?_
      change wpAnyZ Tryz.prog .any _ _ _ _ 16 _ (asAct _ _ _ _ _ _ _ _ _ _ _ _ _ _ _ (.slice (some ⟨gd, 0, none⟩) n cd) (.slice (some ⟨b, off, none⟩) m cap) (.int .i64 k) (.pointer (some ⟨b, off + k * 3, none⟩)) (.pointer (some ⟨b, off + k * 3, none⟩)) (.int .i64 x) (.slice (some ⟨gd, 0, none⟩) n cd) _ _ _ _ _ _ _ _ _ _ _ _ _ _ _ _) wr.drew
      refine wpAnyZ_takeW (i := 7) (v := .slice (some ⟨b, off, none⟩) m cap) rfl (by kernel_rfl) (by kernel_rfl) (by kernel_rfl) (fun _ _ _ h => h) (.inl ⟨rfl, fun w' hw' => rfl⟩) ?_
      change wpAnyZ Tryz.prog .any _ _ _ _ 15 _ (asAct _ _ _ _ _ _ _ _ _ _ _ _ _ _ _ (.slice (some ⟨gd, 0, none⟩) n cd) (.slice (some ⟨b, off, none⟩) m cap) (.int .i64 k) (.pointer (some ⟨b, off + k * 3, none⟩)) (.pointer (some ⟨b, off + k * 3, none⟩)) (.int .i64 x) (.slice (some ⟨gd, 0, none⟩) n cd) (.slice (some ⟨b, off, none⟩) m cap) _ _ _ _ _ _ _ _ _ _ _ _ _ _ _) wr.drew
      refine wpAnyZ_takeW (i := 8) (v := .int .i64 k) rfl (by kernel_rfl) (by kernel_rfl) (by kernel_rfl) (fun _ _ _ h => h) (.inl ⟨rfl, fun w' hw' => rfl⟩) ?_
      change wpAnyZ Tryz.prog .any _ _ _ _ 14 _ (asAct _ _ _ _ _ _ _ _ _ _ _ _ _ _ _ (.slice (some ⟨gd, 0, none⟩) n cd) (.slice (some ⟨b, off, none⟩) m cap) (.int .i64 k) (.pointer (some ⟨b, off + k * 3, none⟩)) (.pointer (some ⟨b, off + k * 3, none⟩)) (.int .i64 x) (.slice (some ⟨gd, 0, none⟩) n cd) (.slice (some ⟨b, off, none⟩) m cap) (.int .i64 k) _ _ _ _ _ _ _ _ _ _ _ _ _ _) wr.drew
      refine wpAnyZ_takeW (i := 9) (v := .pointer (some ⟨b, off + k * 3, none⟩)) rfl (by kernel_rfl) (by kernel_rfl) (by kernel_rfl) (fun _ _ _ h => h) (.inl ⟨rfl, fun w' hw' => exec_index rfl rfl rfl (index_lits w' _ _ _ _ _ hlt)⟩) ?_
      change wpAnyZ Tryz.prog .any _ _ _ _ 13 _ (asAct _ _ _ _ _ _ _ _ _ _ _ _ _ _ _ (.slice (some ⟨gd, 0, none⟩) n cd) (.slice (some ⟨b, off, none⟩) m cap) (.int .i64 k) (.pointer (some ⟨b, off + k * 3, none⟩)) (.pointer (some ⟨b, off + k * 3, none⟩)) (.int .i64 x) (.slice (some ⟨gd, 0, none⟩) n cd) (.slice (some ⟨b, off, none⟩) m cap) (.int .i64 k) (.pointer (some ⟨b, off + k * 3, none⟩)) _ _ _ _ _ _ _ _ _ _ _ _ _) wr.drew
      refine wpAnyZ_takeW (i := 10) (v := .pointer (some ⟨b, off + k * 3, none⟩)) rfl (by kernel_rfl) (by kernel_rfl) (by kernel_rfl) (fun _ _ _ h => h) (.inl ⟨rfl, fun w' hw' => exec_field0 rfl rfl⟩) ?_
      change wpAnyZ Tryz.prog .any _ _ _ _ 12 _ (asAct _ _ _ _ _ _ _ _ _ _ _ _ _ _ _ (.slice (some ⟨gd, 0, none⟩) n cd) (.slice (some ⟨b, off, none⟩) m cap) (.int .i64 k) (.pointer (some ⟨b, off + k * 3, none⟩)) (.pointer (some ⟨b, off + k * 3, none⟩)) (.int .i64 x) (.slice (some ⟨gd, 0, none⟩) n cd) (.slice (some ⟨b, off, none⟩) m cap) (.int .i64 k) (.pointer (some ⟨b, off + k * 3, none⟩)) (.pointer (some ⟨b, off + k * 3, none⟩)) _ _ _ _ _ _ _ _ _ _ _ _) wr.drew
      refine wpAnyZ_take (i := 11) (v := .int .i64 x) rfl (by kernel_rfl) (by kernel_rfl) (by kernel_rfl) (by kernel_rfl) (fun _ _ _ h => h) (.inl ⟨rfl, fun w' hw' => exec_load rfl rfl (load_int w' _ _ _ hw'.1.1)⟩) hS ?_
      change wpAnyZ Tryz.prog .any _ _ _ _ 11 _ (asAct _ _ _ _ _ _ _ _ _ _ _ _ _ _ _ (.slice (some ⟨gd, 0, none⟩) n cd) (.slice (some ⟨b, off, none⟩) m cap) (.int .i64 k) (.pointer (some ⟨b, off + k * 3, none⟩)) (.pointer (some ⟨b, off + k * 3, none⟩)) (.int .i64 x) (.slice (some ⟨gd, 0, none⟩) n cd) (.slice (some ⟨b, off, none⟩) m cap) (.int .i64 k) (.pointer (some ⟨b, off + k * 3, none⟩)) (.pointer (some ⟨b, off + k * 3, none⟩)) (.int .i64 x) _ _ _ _ _ _ _ _ _ _ _) wr.drew
      refine wpAnyZ_takeW (i := 12) (v := .pointer (some ⟨gd, x, none⟩)) rfl (by kernel_rfl) (by kernel_rfl) (by kernel_rfl) (fun _ _ _ h => h) (.inl ⟨rfl, fun w' hw' => exec_index rfl rfl rfl (index0_ints w' _ _ _ _ hxn)⟩) ?_
      change wpAnyZ Tryz.prog .any _ _ _ _ 10 _ (asAct _ _ _ _ _ _ _ _ _ _ _ _ _ _ _ (.slice (some ⟨gd, 0, none⟩) n cd) (.slice (some ⟨b, off, none⟩) m cap) (.int .i64 k) (.pointer (some ⟨b, off + k * 3, none⟩)) (.pointer (some ⟨b, off + k * 3, none⟩)) (.int .i64 x) (.slice (some ⟨gd, 0, none⟩) n cd) (.slice (some ⟨b, off, none⟩) m cap) (.int .i64 k) (.pointer (some ⟨b, off + k * 3, none⟩)) (.pointer (some ⟨b, off + k * 3, none⟩)) (.int .i64 x) (.pointer (some ⟨gd, x, none⟩)) _ _ _ _ _ _ _ _ _ _) wr.drew
      refine wpAnyZ_take (i := 13) (v := .int .i64 d) rfl (by kernel_rfl) (by kernel_rfl) (by kernel_rfl) (by kernel_rfl) (fun _ _ _ h => h) (.inl ⟨rfl, fun w' hw' => exec_load rfl rfl (load_int w' _ _ _ hw'.2)⟩) hS ?_
      change wpAnyZ Tryz.prog .any _ _ _ _ 9 _ (asAct _ _ _ _ _ _ _ _ _ _ _ _ _ _ _ (.slice (some ⟨gd, 0, none⟩) n cd) (.slice (some ⟨b, off, none⟩) m cap) (.int .i64 k) (.pointer (some ⟨b, off + k * 3, none⟩)) (.pointer (some ⟨b, off + k * 3, none⟩)) (.int .i64 x) (.slice (some ⟨gd, 0, none⟩) n cd) (.slice (some ⟨b, off, none⟩) m cap) (.int .i64 k) (.pointer (some ⟨b, off + k * 3, none⟩)) (.pointer (some ⟨b, off + k * 3, none⟩)) (.int .i64 x) (.pointer (some ⟨gd, x, none⟩)) (.int .i64 d) _ _ _ _ _ _ _ _ _) wr.drew
      refine wpAnyZ_takeW (i := 14) (v := .slice (some ⟨b, off, none⟩) m cap) rfl (by kernel_rfl) (by kernel_rfl) (by kernel_rfl) (fun _ _ _ h => h) (.inl ⟨rfl, fun w' hw' => rfl⟩) ?_
      change wpAnyZ Tryz.prog .any _ _ _ _ 8 _ (asAct _ _ _ _ _ _ _ _ _ _ _ _ _ _ _ (.slice (some ⟨gd, 0, none⟩) n cd) (.slice (some ⟨b, off, none⟩) m cap) (.int .i64 k) (.pointer (some ⟨b, off + k * 3, none⟩)) (.pointer (some ⟨b, off + k * 3, none⟩)) (.int .i64 x) (.slice (some ⟨gd, 0, none⟩) n cd) (.slice (some ⟨b, off, none⟩) m cap) (.int .i64 k) (.pointer (some ⟨b, off + k * 3, none⟩)) (.pointer (some ⟨b, off + k * 3, none⟩)) (.int .i64 x) (.pointer (some ⟨gd, x, none⟩)) (.int .i64 d) (.slice (some ⟨b, off, none⟩) m cap) _ _ _ _ _ _ _ _) wr.drew
      refine wpAnyZ_takeW (i := 15) (v := .int .i64 k) rfl (by kernel_rfl) (by kernel_rfl) (by kernel_rfl) (fun _ _ _ h => h) (.inl ⟨rfl, fun w' hw' => rfl⟩) ?_
      change wpAnyZ Tryz.prog .any _ _ _ _ 7 _ (asAct _ _ _ _ _ _ _ _ _ _ _ _ _ _ _ (.slice (some ⟨gd, 0, none⟩) n cd) (.slice (some ⟨b, off, none⟩) m cap) (.int .i64 k) (.pointer (some ⟨b, off + k * 3, none⟩)) (.pointer (some ⟨b, off + k * 3, none⟩)) (.int .i64 x) (.slice (some ⟨gd, 0, none⟩) n cd) (.slice (some ⟨b, off, none⟩) m cap) (.int .i64 k) (.pointer (some ⟨b, off + k * 3, none⟩)) (.pointer (some ⟨b, off + k * 3, none⟩)) (.int .i64 x) (.pointer (some ⟨gd, x, none⟩)) (.int .i64 d) (.slice (some ⟨b, off, none⟩) m cap) (.int .i64 k) _ _ _ _ _ _ _) wr.drew
      refine wpAnyZ_takeW (i := 16) (v := .pointer (some ⟨b, off + k * 3, none⟩)) rfl (by kernel_rfl) (by kernel_rfl) (by kernel_rfl) (fun _ _ _ h => h) (.inl ⟨rfl, fun w' hw' => exec_index rfl rfl rfl (index_lits w' _ _ _ _ _ hlt)⟩) ?_
      change wpAnyZ Tryz.prog .any _ _ _ _ 6 _ (asAct _ _ _ _ _ _ _ _ _ _ _ _ _ _ _ (.slice (some ⟨gd, 0, none⟩) n cd) (.slice (some ⟨b, off, none⟩) m cap) (.int .i64 k) (.pointer (some ⟨b, off + k * 3, none⟩)) (.pointer (some ⟨b, off + k * 3, none⟩)) (.int .i64 x) (.slice (some ⟨gd, 0, none⟩) n cd) (.slice (some ⟨b, off, none⟩) m cap) (.int .i64 k) (.pointer (some ⟨b, off + k * 3, none⟩)) (.pointer (some ⟨b, off + k * 3, none⟩)) (.int .i64 x) (.pointer (some ⟨gd, x, none⟩)) (.int .i64 d) (.slice (some ⟨b, off, none⟩) m cap) (.int .i64 k) (.pointer (some ⟨b, off + k * 3, none⟩)) _ _ _ _ _ _) wr.drew
      refine wpAnyZ_take (i := 17) (v := .agg #[.int .i64 x, .int .i64 la, .bool ln]) rfl (by kernel_rfl) (by kernel_rfl) (by kernel_rfl) (by kernel_rfl) (fun _ _ _ h => h) (.inl ⟨rfl, fun w' hw' => exec_load rfl rfl (load_litO w' _ _ _ _ _ hw'.1.1 hw'.1.2.1 hw'.1.2.2)⟩) hS ?_
      change wpAnyZ Tryz.prog .any _ _ _ _ 5 _ (asAct _ _ _ _ _ _ _ _ _ _ _ _ _ _ _ (.slice (some ⟨gd, 0, none⟩) n cd) (.slice (some ⟨b, off, none⟩) m cap) (.int .i64 k) (.pointer (some ⟨b, off + k * 3, none⟩)) (.pointer (some ⟨b, off + k * 3, none⟩)) (.int .i64 x) (.slice (some ⟨gd, 0, none⟩) n cd) (.slice (some ⟨b, off, none⟩) m cap) (.int .i64 k) (.pointer (some ⟨b, off + k * 3, none⟩)) (.pointer (some ⟨b, off + k * 3, none⟩)) (.int .i64 x) (.pointer (some ⟨gd, x, none⟩)) (.int .i64 d) (.slice (some ⟨b, off, none⟩) m cap) (.int .i64 k) (.pointer (some ⟨b, off + k * 3, none⟩)) (.agg #[.int .i64 x, .int .i64 la, .bool ln]) _ _ _ _ _) wr.drew
      refine wpAnyZ_one (i := 18) (by kernel_rfl) rfl (fun K' hK' => ?_)
      refine step_callL1 _ rfl 59 _ _ _ rfl rfl (enters_of Tryz.func59 (by kernel_rfl) rfl) _ HE.out (fun c w' h => by cases h.1) (fun w' h => by cases h.1) ?_
      rintro v9 w9 ⟨e9, b9⟩
      obtain rfl : v9 = .int .i64 dm := by injection e9
      have hS9 : LitAt b (off + k * 3) ⟨x, la, ln⟩ w9 ∧ w9.cell? ⟨gd, x, none⟩ = some (.int .i64 d) := ⟨litAt_below hS.1 b9, (b9.cell (World.block_lt_of_cell? _ _ hS.2)).trans hS.2⟩
      have HB9 := Lib.hid b9
      clear b9
      refine hK'.out _ _ (fun _ _ => hS9) ?_
      clear hK' K'
      change wpAnyZ Tryz.prog .any _ _ _ _ 4 _ (asAct _ _ _ _ _ _ _ _ _ _ _ _ _ _ _ (.slice (some ⟨gd, 0, none⟩) n cd) (.slice (some ⟨b, off, none⟩) m cap) (.int .i64 k) (.pointer (some ⟨b, off + k * 3, none⟩)) (.pointer (some ⟨b, off + k * 3, none⟩)) (.int .i64 x) (.slice (some ⟨gd, 0, none⟩) n cd) (.slice (some ⟨b, off, none⟩) m cap) (.int .i64 k) (.pointer (some ⟨b, off + k * 3, none⟩)) (.pointer (some ⟨b, off + k * 3, none⟩)) (.int .i64 x) (.pointer (some ⟨gd, x, none⟩)) (.int .i64 d) (.slice (some ⟨b, off, none⟩) m cap) (.int .i64 k) (.pointer (some ⟨b, off + k * 3, none⟩)) (.agg #[.int .i64 x, .int .i64 la, .bool ln]) (.int .i64 dm) _ _ _ _) w9
      refine wpAnyZ_takeW (i := 19) (v := .int .i64 dg) rfl (by kernel_rfl) (by kernel_rfl) (by kernel_rfl) (fun _ _ _ h => h) (.inl ⟨rfl, fun w' hw' => exec_bin rfl rfl rfl ((sub_ints _ _ _ _ _).trans (by rw [HDN2.out]))⟩) ?_
      change wpAnyZ Tryz.prog .any _ _ _ _ 3 _ (asAct _ _ _ _ _ _ _ _ _ _ _ _ _ _ _ (.slice (some ⟨gd, 0, none⟩) n cd) (.slice (some ⟨b, off, none⟩) m cap) (.int .i64 k) (.pointer (some ⟨b, off + k * 3, none⟩)) (.pointer (some ⟨b, off + k * 3, none⟩)) (.int .i64 x) (.slice (some ⟨gd, 0, none⟩) n cd) (.slice (some ⟨b, off, none⟩) m cap) (.int .i64 k) (.pointer (some ⟨b, off + k * 3, none⟩)) (.pointer (some ⟨b, off + k * 3, none⟩)) (.int .i64 x) (.pointer (some ⟨gd, x, none⟩)) (.int .i64 d) (.slice (some ⟨b, off, none⟩) m cap) (.int .i64 k) (.pointer (some ⟨b, off + k * 3, none⟩)) (.agg #[.int .i64 x, .int .i64 la, .bool ln]) (.int .i64 dm) (.int .i64 dg) _ _ _) w9
      refine wpAnyZ_takeW (i := 20) (v := .int .i64 (bits .and .i64 d dg)) rfl (by kernel_rfl) (by kernel_rfl) (by kernel_rfl) (fun _ _ _ h => h) (.inl ⟨rfl, fun w' hw' => exec_bin rfl rfl rfl (and_ints _ _ _ _ _)⟩) ?_
      change wpAnyZ Tryz.prog .any _ _ _ _ 2 _ (asAct _ _ _ _ _ _ _ _ _ _ _ _ _ _ _ (.slice (some ⟨gd, 0, none⟩) n cd) (.slice (some ⟨b, off, none⟩) m cap) (.int .i64 k) (.pointer (some ⟨b, off + k * 3, none⟩)) (.pointer (some ⟨b, off + k * 3, none⟩)) (.int .i64 x) (.slice (some ⟨gd, 0, none⟩) n cd) (.slice (some ⟨b, off, none⟩) m cap) (.int .i64 k) (.pointer (some ⟨b, off + k * 3, none⟩)) (.pointer (some ⟨b, off + k * 3, none⟩)) (.int .i64 x) (.pointer (some ⟨gd, x, none⟩)) (.int .i64 d) (.slice (some ⟨b, off, none⟩) m cap) (.int .i64 k) (.pointer (some ⟨b, off + k * 3, none⟩)) (.agg #[.int .i64 x, .int .i64 la, .bool ln]) (.int .i64 dm) (.int .i64 dg) (.int .i64 (bits .and .i64 d dg)) _ _) w9
      refine wpAnyZ_takeW (i := 21) (v := .pointer (some ⟨gd, x, none⟩)) rfl (by kernel_rfl) (by kernel_rfl) (by kernel_rfl) (fun _ _ _ h => h) (.inl ⟨rfl, fun w' hw' => exec_index rfl rfl rfl (index0_ints w' _ _ _ _ hxn)⟩) ?_
      change wpAnyZ Tryz.prog .any _ _ _ _ 1 _ (asAct _ _ _ _ _ _ _ _ _ _ _ _ _ _ _ (.slice (some ⟨gd, 0, none⟩) n cd) (.slice (some ⟨b, off, none⟩) m cap) (.int .i64 k) (.pointer (some ⟨b, off + k * 3, none⟩)) (.pointer (some ⟨b, off + k * 3, none⟩)) (.int .i64 x) (.slice (some ⟨gd, 0, none⟩) n cd) (.slice (some ⟨b, off, none⟩) m cap) (.int .i64 k) (.pointer (some ⟨b, off + k * 3, none⟩)) (.pointer (some ⟨b, off + k * 3, none⟩)) (.int .i64 x) (.pointer (some ⟨gd, x, none⟩)) (.int .i64 d) (.slice (some ⟨b, off, none⟩) m cap) (.int .i64 k) (.pointer (some ⟨b, off + k * 3, none⟩)) (.agg #[.int .i64 x, .int .i64 la, .bool ln]) (.int .i64 dm) (.int .i64 dg) (.int .i64 (bits .and .i64 d dg)) (.pointer (some ⟨gd, x, none⟩)) _) w9
      refine wpAnyZ_one (i := 22) (by kernel_rfl) rfl (fun K' hK' => ?_)
      have HC9 := cf_cell HOW.out HB9.out hS9.2
      refine step_skip _ (w9.setCell ⟨gd, x, none⟩ (.int .i64 (bits .and .i64 d dg))) rfl (exec_store rfl rfl rfl (store_int _ _ _ _ _ hS9.2 HC9)) ?_
      refine hK'.out _ _ (fun h => by cases h) ?_
      clear hK' K'
      change wpAnyZ Tryz.prog .any _ _ _ _ 0 _ (asAct _ _ _ _ _ _ _ _ _ _ _ _ _ _ _ (.slice (some ⟨gd, 0, none⟩) n cd) (.slice (some ⟨b, off, none⟩) m cap) (.int .i64 k) (.pointer (some ⟨b, off + k * 3, none⟩)) (.pointer (some ⟨b, off + k * 3, none⟩)) (.int .i64 x) (.slice (some ⟨gd, 0, none⟩) n cd) (.slice (some ⟨b, off, none⟩) m cap) (.int .i64 k) (.pointer (some ⟨b, off + k * 3, none⟩)) (.pointer (some ⟨b, off + k * 3, none⟩)) (.int .i64 x) (.pointer (some ⟨gd, x, none⟩)) (.int .i64 d) (.slice (some ⟨b, off, none⟩) m cap) (.int .i64 k) (.pointer (some ⟨b, off + k * 3, none⟩)) (.agg #[.int .i64 x, .int .i64 la, .bool ln]) (.int .i64 dm) (.int .i64 dg) (.int .i64 (bits .and .i64 d dg)) (.pointer (some ⟨gd, x, none⟩)) _) (w9.setCell ⟨gd, x, none⟩ (.int .i64 (bits .and .i64 d dg)))
      refine wpAnyZ_done (by kernel_rfl) ?_ _
      unfold asAct
      have HF9 : Hid ((w9.setCell ⟨gd, x, none⟩ (.int .i64 (bits .and .i64 d dg))).ownsRow w.heap.size 3 1 (.slice (some ⟨gd, 0, none⟩) n cd) n ((restL ds ((ls.map ngL).take (k + 1))).map (Value.int .i64))) := Lib.hid (by
        have := ((own_below HOW.out HB9.out).stored x (.int .i64 (bits .and .i64 d dg))).1
        rw [HRS.out, List.map_set]
        simp only [ngL, Int.toNat_natCast]
        rw [← HDD.out]
        exact this)
      have HB10 : Hid (Below w.heap.size w (w9.setCell ⟨gd, x, none⟩ (.int .i64 (bits .and .i64 d dg)))) := Lib.hid ((HBD.out.trans (HB9.out.mono HBD.out.size)).setCell (p := ⟨gd, x, none⟩) hg1 _)
      clear hS hS9 HC9
      go_wp2
      go_roundw
      all_goals first
        | exact ⟨k + 1, by omega, by go_num, HF9, HB10⟩
        | (simp [intOf]; omega)
    · obtain rfl : k = m := by omega
      have HFI : Hid (restL ds ((ls.map ngL).take k) = restL ds (ls.map ngL)) := Lib.hid (by rw [HM.out, ← List.length_map (f := ngL), List.take_length])
      have HLN : Hid ((restL ds (ls.map ngL)).length = n) := Lib.hid (by have := (HDN.out k).len; rw [HFI.out] at this; exact this)
      go_wp2
      go_ret
      exact ⟨_, rfl, by rw [HLN.out, ← HFI.out]; exact HO.out, HB.out⟩

set_option maxRecDepth 100000 in
set_option maxHeartbeats 8000000 in
theorem simpliedBy_any (m : Mod) (v cv lv : Value) (cls : List (List Lit)) (c : List Lit) (w : World) (h : RdModel w v m) (hc : RdClz w cv cls) (hl : RdLits w lv c) (hv : vmB m = true) (hp : ∀ ls ∈ cls, LitsOn ls m.doms.length) (hlo : LitsOn c m.doms.length) :
    Calls Tryz.prog 17 #[v, cv, lv] w (BoolPost (emptyB (clfL m.cons cls (restL m.doms (c.map ngL)))) w) := by
  obtain ⟨a1, a2, c1, c2, rfl, g1, g2⟩ := rdModel_slices h
  obtain ⟨la, lc, elv, -⟩ := id hl
  obtain ⟨ca, cc, ecv, -⟩ := id hc
  obtain ⟨W1, hW1⟩ : ∃ W1, w.alloc (.cells #[.slice a1 m.doms.length c1, .slice a2 m.cons.length c2] 32) = W1 := ⟨_, rfl⟩
  have B1 : Below w.heap.size w W1 := by rw [← hW1]; exact (Below.refl _ _).alloc (Nat.le_refl _) _
  have bP : Blk2 W1 w.heap.size 32 (.slice a1 m.doms.length c1) (.slice a2 m.cons.length c2) := by rw [← hW1]; exact Blk2.new w _ _ _
  obtain ⟨s1, s2, s3, s4⟩ := doms_small' hv
  have hrn := restL_domN (n := m.doms.length) ⟨rfl, s1⟩ (ng_on hlo)
  have HAS := Lib.hid (sassume_any (.slice a1 m.doms.length c1) lv m.doms c W1.drew ((g1.below B1).below (Below.refl _ _).drew) ((hl.below B1).below (Below.refl _ _).drew) hlo s1 s3 s2)
  have HRF := Lib.hid (fun (Y : World) (xv : Value) (hb : Below W1.heap.size W1 Y) (hx : RdInts Y xv (restL m.doms (c.map ngL))) => srefute_any m _ cv xv cls (restL m.doms (c.map ngL)) Y ((h.below B1).below hb) ((hc.below B1).below hb) hx (by rw [hrn.len]; exact hp) (by rw [hrn.len]; exact s3) (by rw [hrn.len]; exact s2) hrn.small (by rw [hrn.len]; exact fun c hc => okC_mem hv hc) s4)
  have HB1 := Lib.hid B1
  have HW := Lib.hid hW1
  have HP := Lib.hid bP
  obtain ⟨rr, hrr⟩ : ∃ rr, rr = restL m.doms (c.map ngL) := ⟨_, rfl⟩
  rw [← hrr] at HAS HRF ⊢
  obtain ⟨eb, heb⟩ : ∃ eb, eb = emptyB (clfL m.cons cls rr) := ⟨_, rfl⟩
  rw [← heb] at HRF ⊢
  subst elv ecv
  clear h hl hc hv hp hlo s1 s2 s3 s4 hrn g1 g2 hW1 B1 bP hrr heb
  obtain ⟨p0, p1⟩ := HP.out.cell
  go_enter Tryz.func17, Tryz.ntmps17
  go_wp2_with fail
  rw [HW.out]
  go_region_held3 (fun w' => w'.cell? ⟨w.heap.size, 0, none⟩ = some (.slice a1 m.doms.length c1) ∧ w'.cell? ⟨w.heap.size, 1, none⟩ = some (.slice a2 m.cons.length c2)) (first | go_keep | exact ⟨y0, y1⟩ | exact ⟨z0, z1⟩ | exact ⟨p0, p1⟩) (first
    | (go_at_call 34; refine (HRF.out X _ HBX.out HVX.out).mono ?_; rintro e Y ⟨rfl, bY⟩; have HBY := Lib.hid (HBX.out.trans (bY.mono HBX.out.size)); obtain ⟨y0, y1⟩ := (HP.out.below HBY.out).cell; clear bY)
    | (go_at_call 35; refine HAS.out.mono ?_; rintro e X ⟨v4, rfl, o4, bX⟩; have HBX : Hid (Below W1.heap.size W1 X) := Lib.hid ((show Below W1.heap.size W1 W1.drew from (Below.refl _ _).drew).trans bX); have HVX := Lib.hid (rdInts_of_own o4); obtain ⟨ta, tc, te, -⟩ := ownForm o4; rw [te] at HVX ⊢; obtain ⟨z0, z1⟩ := (HP.out.below HBX.out).cell; clear o4 bX te))
  go_wp2
  go_ret
  exact ⟨rfl, HB1.out.trans (HBY.out.mono HB1.out.size)⟩

set_option maxRecDepth 100000 in
set_option maxHeartbeats 4000000 in
theorem implies_any {w0 : World} {cs : List Con} {ds : List Int} {D : Nat} {pv dv cv : Value} {P : List (Value × Nat × Value)} {vals : List Value} {cls : List (List Lit)} {X : World} (h : Chk w0 cs ds D pv dv cv P vals cls X) {n : Nat} {lv : Value} {c : List Lit}
    (hcl : ∀ ls ∈ cls, LitsOn ls n) (hlv : RdLits X lv c) (hls : LitsOn c n) (h12 : c.length ≤ 12) (hdn : DomN n ds) (hok : ∀ c ∈ cs, OkC c n) (h6 : cs.length ≤ 6) (h1 : 1 ≤ n) (h4 : n ≤ 4) :
    Calls Tryz.prog 24 #[.pointer (some ⟨D, 0, none⟩), lv] X fun e Y => e = .returned (.bool (emptyB (clfL cs cls (restL ds (c.map ngL))))) ∧ Chk w0 cs ds D pv dv cv P vals cls Y ∧ OffB (ClB vals) X Y := by
  have HN := Lib.hid (negations_any lv c X hlv h12)
  have HR := Lib.hid (fun (Y : World) (uv : Value) (ks : List Lit) (hY : Chk w0 cs ds D pv dv cv P vals cls Y) (hp : ks.Perm (c.map ngL)) (hr : RdLits Y uv ks) => by
    have := refutes_any hY hcl hr ((ng_on hls).perm hp) hdn hok h6 h1 h4
    rw [restL_perm hdn (ng_on hls) hp] at this
    exact this)
  have HX := Lib.hid h
  obtain ⟨la, lc, elv, -⟩ := id hlv
  have hlcx := (rdLits_len (by rwa [elv] at hlv)).2
  have hlcx1 := hlcx.1
  have hlcx2 := hlcx.2
  obtain ⟨nl, hnl⟩ : ∃ nl, nl = c.length := ⟨_, rfl⟩
  rw [← hnl] at elv hlcx1 HN
  subst elv
  obtain ⟨eb, heb⟩ : ∃ eb, eb = emptyB (clfL cs cls (restL ds (c.map ngL))) := ⟨_, rfl⟩
  rw [← heb] at HR ⊢
  clear hcl hlv hls h12 hdn hok h6 h1 h4 h hlcx hnl heb
  go_enter Tryz.func24, Tryz.ntmps24
  go_wp2_with fail
  refine HN.out.mono ?_
  rintro e X2 ⟨u, ks, rfl, hp, -, ho, b2⟩
  obtain ⟨ua, uc, eu, hu1, hu2, -⟩ := ho.form
  subst eu
  have HX2 := Lib.hid (HX.out.step b2)
  have HB2 := Lib.hid b2
  have HPM := Lib.hid hp
  have HRK : Hid (RdLits X2 (.slice ua nl uc) ks) := Lib.hid (OwnC.rdC ho)
  clear ho b2 hp
  go_wp2_with fail
  refine (HR.out X2 _ ks HX2.out HPM.out HRK.out).mono ?_
  rintro e X3 ⟨rfl, c3, f3⟩
  have HC3 := Lib.hid c3
  have HF3 := Lib.hid f3
  clear c3 f3
  go_wp2
  go_ret
  exact ⟨rfl, HC3.out, (OffB.of_below HB2.out).trans HF3.out⟩

end Go.Proofs.YtipapmmjfoaddabGreat
