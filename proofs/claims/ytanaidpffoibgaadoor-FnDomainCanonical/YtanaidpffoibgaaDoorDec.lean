/- Texts to domains: the reference's, and the program's where its texts are the reference's. -/
import Derived.Test.YtanaidpffoibgaaDoorEnc
namespace Go.Proofs.YtanaidpffoibgaaDoor
open Go.ChangeShapes Go.WideShapes Go.ChangeAt Go.RowKit
set_option linter.unusedVariables false
set_option linter.unusedSimpArgs false

/-- The text of a domain, or none. -/
def encT (d : Int) : ByteArray := if wiB d 0 63 then fmtD d else ⟨#[]⟩
set_option maxRecDepth 100000 in
theorem sEncodeDomain_any (d : Int) (w : World) :
    Calls Tryd.prog 21 #[.int .i64 d] w (TextPost (encT d) w) := by
  cases hv : wiB d 0 63
  · have HF : Hid (encT d = ⟨#[]⟩) := Lib.hid (by unfold encT; rw [hv]; rfl)
    go_enter Tryd.func21, Tryd.ntmps21
    go_wp2_with (go_at_call 31; refine (svalid_any _ _).mono ?_; rintro e w' ⟨rfl, rfl⟩)
    go_ret
    exact ⟨by rw [HF.out]; rfl, Below.refl _ _⟩
  · have HF : Hid (encT d = fmtD d) := Lib.hid (by unfold encT; rw [hv]; rfl)
    have hd := wiB_in hv
    go_enter Tryd.func21, Tryd.ntmps21
    go_wp2_with (first
      | (go_at_call 31; refine (svalid_any _ _).mono ?_; rintro e w' ⟨rfl, rfl⟩)
      | (go_at_call 39; refine (formatDomain_any _ _ hd.1 hd.2).mono ?_; rintro e w' ⟨rfl, b2⟩))
    go_ret
    exact ⟨by rw [HF.out]; rfl, b2⟩

/-- The first domain from k on, of f many, whose text is s. -/
def decN (s : ByteArray) (k : Nat) : Nat → Int × Bool
  | 0 => (0, false)
  | f + 1 => if (fmtD k).toList == s.toList then ((k : Int), true) else decN s (k + 1) f
/-- What DecodeDomain leaves. -/
def DecPost (s : ByteArray) (w : World) (e : Ending) (w' : World) : Prop := e = .returned (.tuple #[.int .i64 (decN s 0 64).1, .bool (decN s 0 64).2]) ∧ Below w.heap.size w w'

set_option maxRecDepth 100000 in
set_option maxHeartbeats 1000000 in
theorem sDecodeDomain_any (s : ByteArray) (w : World) :
    Calls Tryd.prog 24 #[.string s] w (DecPost s w) := by
  go_enter Tryd.func24, Tryd.ntmps24
  go_wp2
  go_loopw [4] (fun i wr => ∃ k : Nat, k ≤ 64 ∧ i = .int .i64 k ∧ Hid (decN s 0 64 = decN s k (64 - k)) ∧ Hid (Below w.heap.size w wr)) (fun i _ => 64 - (intOf i).toNat)
  case atStart => exact ⟨0, by omega, rfl, Lib.hid rfl, Lib.hid (Below.refl _ _)⟩
  case round =>
    obtain ⟨k, hk, rfl, HE, HB⟩ := hrel
    by_cases hlt : k < 64
    · have HE2 : Hid (decN s k (64 - k) = if (fmtD k).toList == s.toList then ((k : Int), true) else decN s (k + 1) (64 - (k + 1))) := Lib.hid (by rw [show 64 - k = (64 - (k + 1)) + 1 from by omega, decN])
      cases hc : ((fmtD k).toList == s.toList)
      · go_wp2_with (go_at_call 39; refine (formatDomain_any _ _ (by omega) (by omega)).mono ?_; rintro e w' ⟨rfl, b2⟩)
        go_roundw
        case rel => exact ⟨k + 1, by omega, by go_num, Lib.hid (by rw [HE.out, HE2.out, hc]; rfl), Lib.hid (HB.out.trans (b2.mono HB.out.size))⟩
        case measure => simp [intOf]; omega
      · have HF : Hid (decN s 0 64 = ((k : Int), true)) := Lib.hid (by rw [HE.out, HE2.out, hc]; rfl)
        go_wp2_with (go_at_call 39; refine (formatDomain_any _ _ (by omega) (by omega)).mono ?_; rintro e w' ⟨rfl, b2⟩)
        go_ret2
        exact ⟨by rw [HF.out]; rfl, HB.out.trans (b2.mono HB.out.size)⟩
    · obtain rfl : k = 64 := by omega
      have HF : Hid (decN s 0 64 = (0, false)) := Lib.hid (by rw [HE.out]; rfl)
      go_wp2
      go_ret2
      exact ⟨by rw [HF.out]; rfl, HB.out⟩

set_option maxRecDepth 100000 in
set_option maxHeartbeats 1000000 in
theorem iDecodeDomain_of (hE : ∀ (d : Int) (w : World), 0 ≤ d → d ≤ 63 → Calls Tryd.prog 20 #[.int .i64 d] w (TextPost (fmtD d) w)) (s : ByteArray) (w : World) :
    Calls Tryd.prog 22 #[.string s] w (DecPost s w) := by
  have HH := Lib.hid hE
  clear hE
  go_enter Tryd.func22, Tryd.ntmps22
  go_wp2
  go_loopw [5] (fun i wr => ∃ k : Nat, k ≤ 64 ∧ i = .int .i64 k ∧ Hid (decN s 0 64 = decN s k (64 - k)) ∧ Hid (Below w.heap.size w wr)) (fun i _ => 64 - (intOf i).toNat)
  case atStart => exact ⟨0, by omega, rfl, Lib.hid rfl, Lib.hid (Below.refl _ _)⟩
  case round =>
    obtain ⟨k, hk, rfl, HE, HB⟩ := hrel
    by_cases hlt : k < 64
    · have HE2 : Hid (decN s k (64 - k) = if (fmtD k).toList == s.toList then ((k : Int), true) else decN s (k + 1) (64 - (k + 1))) := Lib.hid (by rw [show 64 - k = (64 - (k + 1)) + 1 from by omega, decN])
      cases hc : ((fmtD k).toList == s.toList)
      · go_wp2_with (go_at_call 20; refine (HH.out _ _ (by omega) (by omega)).mono ?_; rintro e w' ⟨rfl, b2⟩)
        go_roundw
        case rel => exact ⟨k + 1, by omega, by go_num, Lib.hid (by rw [HE.out, HE2.out, hc]; rfl), Lib.hid (HB.out.trans (b2.mono HB.out.size))⟩
        case measure => simp [intOf]; omega
      · have HF : Hid (decN s 0 64 = ((k : Int), true)) := Lib.hid (by rw [HE.out, HE2.out, hc]; rfl)
        go_wp2_with (go_at_call 20; refine (HH.out _ _ (by omega) (by omega)).mono ?_; rintro e w' ⟨rfl, b2⟩)
        go_ret2
        exact ⟨by rw [HF.out]; rfl, HB.out.trans (b2.mono HB.out.size)⟩
    · obtain rfl : k = 64 := by omega
      have HF : Hid (decN s 0 64 = (0, false)) := Lib.hid (by rw [HE.out]; rfl)
      go_wp2
      go_ret2
      exact ⟨by rw [HF.out]; rfl, HB.out⟩
end Go.Proofs.YtanaidpffoibgaaDoor
