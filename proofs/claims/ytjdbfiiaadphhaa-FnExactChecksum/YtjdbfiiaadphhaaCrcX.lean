/- The checksum: its plain form, and what both packages return. -/
import Derived.Test.YtjdbfiiaadphhaaBa
import Derived.IntWalk
import Derived.Laws.BitsAllLaws
namespace Go.Proofs.Ytjdbfiiaadphhaa
open Go.ChangeShapes Go.WideShapes Go.ChangeAt Go.RowKit
set_option linter.unusedVariables false
set_option linter.unusedSimpArgs false

theorem xor_right_inj {a b c : Nat} (h : a ^^^ c = b ^^^ c) : a = b := by
  have : (a ^^^ c) ^^^ c = (b ^^^ c) ^^^ c := by rw [h]
  simpa [Nat.xor_assoc] using this

/-- One bit of the checksum. -/
def crcS (c : Nat) : Nat := if c % 2 = 1 then c / 2 ^^^ 3988292384 else c / 2
/-- k bits. -/
def crcI : Nat → Nat → Nat
  | 0, c => c
  | k + 1, c => crcS (crcI k c)
/-- One byte. -/
def crcB (c b : Nat) : Nat := crcI 8 (c ^^^ b)
def crcL (c : Nat) (bs : List UInt8) : Nat := bs.foldl (fun c b => crcB c b.toNat) c
def crcN (bs : List UInt8) : Nat := crcL 4294967295 bs ^^^ 4294967295

theorem crcS_lt {c : Nat} (h : c < 4294967296) : crcS c < 4294967296 := by
  unfold crcS
  split
  · exact Nat.xor_lt_two_pow (n := 32) (by omega) (by omega)
  · omega
theorem crcI_lt {c : Nat} (k : Nat) (h : c < 4294967296) : crcI k c < 4294967296 := by
  induction k with
  | zero => exact h
  | succ k ih => exact crcS_lt ih
theorem xor_lt32 {a b : Nat} (ha : a < 4294967296) (hb : b < 4294967296) : a ^^^ b < 4294967296 := Nat.xor_lt_two_pow (n := 32) ha hb
theorem byte_lt (b : UInt8) : b.toNat < 256 := b.toNat_lt
theorem crcB_lt {c b : Nat} (h : c < 4294967296) (hb : b < 256) : crcB c b < 4294967296 := crcI_lt 8 (xor_lt32 h (by omega))
theorem crcL_lt {c : Nat} (bs : List UInt8) (h : c < 4294967296) : crcL c bs < 4294967296 := by
  induction bs generalizing c with
  | nil => exact h
  | cons b bs ih => exact ih (crcB_lt h (byte_lt b))
theorem crcL_snoc (c : Nat) (bs : List UInt8) (b : UInt8) : crcL c (bs ++ [b]) = crcB (crcL c bs) b.toNat := by simp [crcL]

/-- The step can be undone: the polynomial's highest bit tells the way. -/
theorem crcS_hi {c : Nat} (h : c < 4294967296) : (crcS c).testBit 31 = decide (c % 2 = 1) := by
  have h0 : (c / 2).testBit 31 = false := Nat.testBit_lt_two_pow (by omega)
  unfold crcS
  split
  · rename_i hc
    rw [Nat.testBit_xor, h0]
    simp [hc]
    decide
  · rename_i hc
    simp [h0, hc]
theorem crcS_inj {a b : Nat} (ha : a < 4294967296) (hb : b < 4294967296) (h : crcS a = crcS b) : a = b := by
  have h1 := crcS_hi ha
  have h2 := crcS_hi hb
  rw [h, h2] at h1
  have hp : (b % 2 = 1) ↔ (a % 2 = 1) := by simpa using h1
  unfold crcS at h
  by_cases hc : a % 2 = 1
  · rw [if_pos hc, if_pos (hp.2 hc)] at h
    have := xor_right_inj h
    have := hp.2 hc
    omega
  · rw [if_neg hc, if_neg (fun e => hc (hp.1 e))] at h
    have : ¬ b % 2 = 1 := fun e => hc (hp.1 e)
    omega
theorem crcI_inj {a b : Nat} (k : Nat) (ha : a < 4294967296) (hb : b < 4294967296) (h : crcI k a = crcI k b) : a = b := by
  induction k with
  | zero => exact h
  | succ k ih => exact ih (crcS_inj (crcI_lt k ha) (crcI_lt k hb) h)
theorem xor_left_inj {a b c : Nat} (h : c ^^^ a = c ^^^ b) : a = b := xor_right_inj (by rw [Nat.xor_comm a c, Nat.xor_comm b c]; exact h)
theorem crcB_byte {c a b : Nat} (hc : c < 4294967296) (ha : a < 256) (hb : b < 256) (h : crcB c a = crcB c b) : a = b :=
  xor_left_inj (crcI_inj 8 (xor_lt32 hc (by omega)) (xor_lt32 hc (by omega)) h)
theorem crcB_st {a b x : Nat} (ha : a < 4294967296) (hb : b < 4294967296) (hx : x < 256) (h : crcB a x = crcB b x) : a = b :=
  xor_right_inj (crcI_inj 8 (xor_lt32 ha (by omega)) (xor_lt32 hb (by omega)) h)
theorem crcL_inj {a b : Nat} (bs : List UInt8) (ha : a < 4294967296) (hb : b < 4294967296) (h : crcL a bs = crcL b bs) : a = b := by
  induction bs generalizing a b with
  | nil => exact h
  | cons x bs ih => exact crcB_st ha hb (byte_lt x) (ih (crcB_lt ha (byte_lt x)) (crcB_lt hb (byte_lt x)) h)
/-- One byte that has turned turns the checksum. -/
theorem crcN_ne (pre suf : List UInt8) (a b : UInt8) (h : a ≠ b) : crcN (pre ++ a :: suf) ≠ crcN (pre ++ b :: suf) := by
  intro e
  have e1 := xor_right_inj e
  have e2 : crcL (crcB (crcL 4294967295 pre) a.toNat) suf = crcL (crcB (crcL 4294967295 pre) b.toNat) suf := by
    simpa [crcL] using e1
  have hp := crcL_lt pre (show 4294967295 < 4294967296 by omega)
  have e3 := crcL_inj suf (crcB_lt hp (byte_lt a)) (crcB_lt hp (byte_lt b)) e2
  have e4 := crcB_byte hp (byte_lt a) (byte_lt b) e3
  exact h (UInt8.toNat_inj.1 e4)
theorem crcN_lt (bs : List UInt8) : crcN bs < 4294967296 := xor_lt32 (crcL_lt bs (by omega)) (by omega)
theorem crcN_test : crcN [49, 50, 51, 52, 53, 54, 55, 56, 57] = 3421780262 := by decide +kernel
theorem crcN_nil : crcN [] = 0 := by decide +kernel

theorem i64_xor_nat (a b : Nat) (ha : a < 4294967296) (hb : b < 4294967296) : bits .xor .i64 (a : Int) (b : Int) = ((a ^^^ b : Nat) : Int) := by
  have hx := xor_lt32 ha hb
  have e : bits .xor .i64 (a : Int) (b : Int) = IntKind.i64.wrap ((BitVec.ofInt 64 (a : Int) ^^^ BitVec.ofInt 64 (b : Int)).toNat : Int) := rfl
  rw [e, BitVec.toNat_xor, ofInt_u64 a (by omega), ofInt_u64 b (by omega)]
  simp [IntKind.wrap, IntKind.bits, IntKind.signed]
  omega
theorem take_snocC (s : ByteArray) (k : Nat) (h : k < s.size) : s.data.toList.take (k + 1) = s.data.toList.take k ++ [s[k]] := by
  rw [List.take_succ_eq_append_getElem (by simpa using h)]; rfl
theorem crcI_succ (k c : Nat) : crcI (k + 1) c = crcS (crcI k c) := rfl
theorem crc_int {a b : Nat} (h : a = b) : Value.int .i64 (a : Int) = Value.int .i64 (b : Int) := by rw [h]

set_option maxRecDepth 100000 in
set_option maxHeartbeats 4000000 in
theorem scrc32_any (s : ByteArray) (w : World) (hs : s.size ≤ 9223372036854775807) :
    Calls Try.prog 62 #[.string s] w fun e w' => e = .returned (.int .i64 (crcN s.data.toList)) ∧ w = w' := by
  go_enter Try.func62, Try.ntmps62
  go_wp2
  go_loop [3, 4] (fun c i => ∃ (k cc : Nat), k ≤ s.size ∧ i = .int .i64 k ∧ c = .int .i64 cc ∧ cc < 4294967296 ∧ Hid (cc = crcL 4294967295 (s.data.toList.take k))) (fun _ i => s.size - (intOf i).toNat)
  case atStart => exact ⟨0, 4294967295, Nat.zero_le _, rfl, rfl, by omega, Lib.hid rfl⟩
  case round =>
    obtain ⟨k, cc, hk, rfl, rfl, hcc, HC⟩ := hrel
    by_cases hlt : k < s.size
    · obtain ⟨b, hb⟩ : ∃ b, b = s[k].toNat := ⟨_, rfl⟩
      have hb8 : b < 256 := by rw [hb]; exact byte_lt _
      have hx0 := i64_xor_nat cc b hcc (by omega)
      have hx : bits .xor .i64 (cc : Int) (wrap64 (s[k].toNat : Int)) = ((cc ^^^ b : Nat) : Int) := by rw [← hb, IntWalk.wrap64_in _ (by omega)]; exact hx0
      obtain ⟨c1, hc1⟩ : ∃ c1, c1 = cc ^^^ b := ⟨_, rfl⟩
      have hc1l : c1 < 4294967296 := by rw [hc1]; exact xor_lt32 hcc (by omega)
      have HC1 : Hid (crcL 4294967295 (s.data.toList.take (k + 1)) = crcI 8 c1) := Lib.hid (by rw [take_snocC s k hlt, crcL_snoc, ← HC.out, hc1, hb]; rfl)
      rw [← hc1] at hx
      clear hb hc1 hx0
      go_wp2
      go_loop [3, 5] (fun c i => ∃ (j cj : Nat), j ≤ 8 ∧ i = .int .i64 j ∧ c = .int .i64 cj ∧ cj < 4294967296 ∧ Hid (cj = crcI j c1)) (fun _ i => 8 - (intOf i).toNat)
      case atStart => exact ⟨0, c1, Nat.zero_le _, rfl, rfl, hc1l, Lib.hid rfl⟩
      case round =>
        obtain ⟨j, cj, hj, rfl, rfl, hcj, HJ⟩ := hrel
        have hcjS := crcS_lt hcj
        by_cases hj8 : j < 8
        · have HS : Hid (crcS cj = crcI (j + 1) c1) := Lib.hid (by rw [crcI_succ, ← HJ.out])
          by_cases hp : cj % 2 = 1
          · have hp2 : ((cj : Int) % 2 == 1) = true := by simp; omega
            have hx2 := i64_xor_nat (cj / 2) 3988292384 (by omega) (by omega)
            have hq : crcS cj = cj / 2 ^^^ 3988292384 := by unfold crcS; rw [if_pos hp]
            rw [← hq, Int.natCast_ediv] at hx2
            obtain ⟨c2, hc2⟩ : ∃ c2, c2 = crcS cj := ⟨_, rfl⟩
            rw [← hc2] at hx2 hcjS HS
            have hx3 : bits .xor .i64 ((cj : Int) / 2) 3988292384 = (c2 : Int) := hx2
            clear hc2 hq hp hx hx2
            go_wp2
            go_round
            case rel => exact ⟨j + 1, c2, by omega, by go_num, rfl, hcjS, HS⟩
            case measure => simp [intOf]; omega
          · have hp2 : ((cj : Int) % 2 == 1) = false := by simp; omega
            have HQ : Hid (crcS cj = cj / 2) := Lib.hid (by unfold crcS; rw [if_neg hp])
            clear hp hx
            go_wp2
            go_round
            case rel => exact ⟨j + 1, cj / 2, by omega, by go_num, by rw [Int.natCast_ediv]; rfl, by omega, Lib.hid (by rw [← HQ.out]; exact HS.out)⟩
            case measure => simp [intOf]; omega
        · obtain rfl : j = 8 := by omega
          clear hx hcjS
          go_wp2
          go_round
          case rel => exact ⟨k + 1, cj, by omega, by go_num, rfl, hcj, Lib.hid (by rw [HC1.out]; exact HJ.out)⟩
          case measure => simp [intOf]; omega
    · obtain rfl : k = s.size := by omega
      have hx := i64_xor_nat cc 4294967295 hcc (by omega)
      have HF : Hid (crcN s.data.toList = cc ^^^ 4294967295) := Lib.hid (by unfold crcN; rw [HC.out, List.take_of_length_le (by simp)])
      have hx3 : bits .xor .i64 (cc : Int) 4294967295 = ((cc ^^^ 4294967295 : Nat) : Int) := hx
      clear hx
      go_wp2
      go_ret
      exact ⟨ret_int (by rw [HF.out]), rfl⟩

theorem u32_and1 (c : Nat) (h : c < 4294967296) : bits .and .u32 (c : Int) 1 = ((c % 2 : Nat) : Int) := by
  have := u32_and_nat c 1 h (by omega)
  rw [Nat.and_one_is_mod] at this
  exact this
set_option maxRecDepth 100000 in
set_option maxHeartbeats 4000000 in
theorem iChecksum_any (s : ByteArray) (w : World) (hs : s.size ≤ 9223372036854775807) :
    Calls Try.prog 16 #[.string s] w fun e w' => e = .returned (.int .i64 (crcN s.data.toList)) ∧ w = w' := by
  go_enter Try.func16, Try.ntmps16
  go_wp2
  go_loop [3, 8] (fun c i => ∃ (k cc : Nat), k ≤ s.size ∧ i = .int .i64 k ∧ c = .int .u32 cc ∧ cc < 4294967296 ∧ Hid (cc = crcL 4294967295 (s.data.toList.take k))) (fun _ i => s.size - (intOf i).toNat)
  case atStart => exact ⟨0, 4294967295, Nat.zero_le _, rfl, rfl, by omega, Lib.hid rfl⟩
  case round =>
    obtain ⟨k, cc, hk, rfl, rfl, hcc, HC⟩ := hrel
    by_cases hlt : k < s.size
    · obtain ⟨b, hb⟩ : ∃ b, b = s[k].toNat := ⟨_, rfl⟩
      have hb8 : b < 256 := by rw [hb]; exact byte_lt _
      have hx0 := u32_xor_nat cc b hcc (by omega)
      have hx : bits .xor .u32 (cc : Int) ((s[k].toNat : Int) % 4294967296) = ((cc ^^^ b : Nat) : Int) := by rw [← hb, show ((b : Nat) : Int) % 4294967296 = (b : Int) from by omega]; exact hx0
      obtain ⟨c1, hc1⟩ : ∃ c1, c1 = cc ^^^ b := ⟨_, rfl⟩
      have hc1l : c1 < 4294967296 := by rw [hc1]; exact xor_lt32 hcc (by omega)
      have HC1 : Hid (crcL 4294967295 (s.data.toList.take (k + 1)) = crcI 8 c1) := Lib.hid (by rw [take_snocC s k hlt, crcL_snoc, ← HC.out, hc1, hb]; rfl)
      rw [← hc1] at hx
      clear hb hc1 hx0
      go_wp2
      go_loop [3, 17] (fun c i => ∃ (j cj : Nat), j ≤ 8 ∧ i = .int .i64 j ∧ c = .int .u32 cj ∧ cj < 4294967296 ∧ Hid (cj = crcI j c1)) (fun _ i => 8 - (intOf i).toNat)
      case atStart => exact ⟨0, c1, Nat.zero_le _, rfl, rfl, hc1l, Lib.hid rfl⟩
      case round =>
        obtain ⟨j, cj, hj, rfl, rfl, hcj, HJ⟩ := hrel
        have hcjS := crcS_lt hcj
        by_cases hj8 : j < 8
        · have HS : Hid (crcS cj = crcI (j + 1) c1) := Lib.hid (by rw [crcI_succ, ← HJ.out])
          have ha := u32_and1 cj hcj
          by_cases hp : cj % 2 = 1
          · rw [hp] at ha
            have hx2 := u32_xor_nat (cj / 2) 3988292384 (by omega) (by omega)
            have hq : crcS cj = cj / 2 ^^^ 3988292384 := by unfold crcS; rw [if_pos hp]
            rw [← hq, Int.natCast_ediv] at hx2
            obtain ⟨c2, hc2⟩ : ∃ c2, c2 = crcS cj := ⟨_, rfl⟩
            rw [← hc2] at hx2 hcjS HS
            have hx3 : bits .xor .u32 ((cj : Int) / 2) 3988292384 = (c2 : Int) := hx2
            have ha1 : bits .and .u32 (cj : Int) 1 = 1 := ha
            clear hc2 hq hp hx hx2 ha
            go_wp2
            go_round
            case rel => exact ⟨j + 1, c2, by omega, by go_num, rfl, hcjS, HS⟩
            case measure => simp [intOf]; omega
          · have hp0 : cj % 2 = 0 := by omega
            rw [hp0] at ha
            have HQ : Hid (crcS cj = cj / 2) := Lib.hid (by unfold crcS; rw [if_neg hp])
            have ha1 : bits .and .u32 (cj : Int) 1 = 0 := ha
            clear hp hp0 hx ha
            go_wp2
            go_round
            case rel => exact ⟨j + 1, cj / 2, by omega, by go_num, by rw [Int.natCast_ediv]; rfl, by omega, Lib.hid (by rw [← HQ.out]; exact HS.out)⟩
            case measure => simp [intOf]; omega
        · obtain rfl : j = 8 := by omega
          clear hx hcjS
          go_wp2
          go_round
          case rel => exact ⟨k + 1, cj, by omega, by go_num, rfl, hcj, Lib.hid (by rw [HC1.out]; exact HJ.out)⟩
          case measure => simp [intOf]; omega
    · obtain rfl : k = s.size := by omega
      have hx := u32_xor_nat 4294967295 cc (by omega) hcc
      have hxl := xor_lt32 (show 4294967295 < 4294967296 by omega) hcc
      have HF : Hid (crcN s.data.toList = 4294967295 ^^^ cc) := Lib.hid (by unfold crcN; rw [HC.out, List.take_of_length_le (by simp), Nat.xor_comm])
      obtain ⟨r, hr⟩ : ∃ r, r = 4294967295 ^^^ cc := ⟨_, rfl⟩
      rw [← hr] at hx hxl HF
      have hx3 : bits .xor .u32 4294967295 (cc : Int) = (r : Int) := hx
      clear hx hr
      go_wp2
      go_ret
      exact ⟨ret_int (by rw [HF.out]; have e : bits .xor .u32 IntKind.u32.max (cc : Int) = (r : Int) := hx3; rw [e]; exact IntWalk.wrap64_in (r : Int) (by omega)), rfl⟩
set_option maxRecDepth 100000 in
theorem sChecksum_any (s : ByteArray) (w : World) (hs : s.size ≤ 9223372036854775807) :
    Calls Try.prog 15 #[.string s] w fun e w' => e = .returned (.int .i64 (crcN s.data.toList)) ∧ w = w' := by
  go_enter Try.func15, Try.ntmps15
  go_wp2_with fail
  refine (scrc32_any s _ hs).mono ?_
  rintro e w' ⟨rfl, rfl⟩
  go_wp2
  go_ret
  exact ⟨rfl, rfl⟩
end Go.Proofs.Ytjdbfiiaadphhaa
