/- The reference's text of a domain. -/
import Derived.Test.YtanaidpffoibgaaDoorBnd
import Derived.Laws.IdiomStrings
namespace Go.Proofs.YtanaidpffoibgaaDoor
open Go.ChangeShapes Go.WideShapes Go.ChangeAt Go.RowKit
set_option linter.unusedVariables false
set_option linter.unusedSimpArgs false

/-- The digit n. -/
def digB (n : Nat) : ByteArray := ⟨#[(48 + n).toUInt8]⟩

set_option maxRecDepth 100000 in
set_option maxHeartbeats 1000000 in
theorem formatInt_small (n : Nat) (w : World) (hn : n ≤ 5) :
    Calls Tryd.prog 58 #[.int .i64 n] w fun e w' => e = .returned (.string (digB n)) ∧ Below w.heap.size w w' := by
  have hb : (((48 + n).toUInt8.toNat : Nat) : Int) = 48 + (n : Int) := by
    have : n < 6 := by omega
    revert n; decide +kernel
  have hcv := run_convert_bytes_back (P := Tryd.prog) (w.alloc (.cells #[.int .u8 (48 + (n : Int))] 5)) 22 9 5 ⟨w.heap.size, 0, none⟩ 1 [(48 + n).toUInt8] (by kernel_rfl) (by kernel_rfl) (by kernel_rfl) (fun j hj => by
    obtain rfl : j = 0 := by simp at hj; exact hj
    show _ = some (Value.int .u8 (((48 + n).toUInt8.toNat : Nat) : Int))
    rw [hb]
    exact cell_one_new _ _ _ 0 _ rfl)
  have hcv' : (convert 22 9 (.slice (some ⟨w.heap.size, 0, none⟩) 1 1)).run Tryd.prog (w.alloc (.cells #[.int .u8 (48 + (n : Int))] 5)) = .ok (.string (digB n)) (w.alloc (.cells #[.int .u8 (48 + (n : Int))] 5)) := hcv
  clear hcv hb
  go_enter Tryd.func58, Tryd.ntmps58
  go_wp2
  go_ret
  exact ⟨rfl, (Below.refl _ _).alloc (Nat.le_refl _) _⟩

/-- The end of the interval that begins at e. -/
def endN (d : Int) (e : Nat) : Nat → Nat
  | 0 => e
  | f + 1 => if hasB d ((e : Int) + 1) then endN d (e + 1) f else e
/-- The text of the intervals that begin below k. -/
def fmtS (d : Int) : Nat → ByteArray
  | 0 => ⟨#[]⟩
  | k + 1 =>
    if !hasB d k || hasB d ((k : Int) - 1) then fmtS d k
    else
      let o := if (fmtS d k).toList.isEmpty then fmtS d k else fmtS d k ++ ⟨#[44]⟩
      if k < endN d k 6 then o ++ digB k ++ ⟨#[45]⟩ ++ digB (endN d k 6) else o ++ digB k
/-- The text of a domain. -/
def fmtD (d : Int) : ByteArray := if (fmtS d 6).toList.isEmpty then ⟨#[101, 109, 112, 116, 121]⟩ else fmtS d 6
theorem hasB_le {d v : Int} (h : hasB d v = true) : 0 ≤ v ∧ v ≤ 5 := by
  unfold hasB at h
  have := of_decide_eq_true h
  exact ⟨this.1, this.2.1⟩
theorem endN_le (d : Int) (e : Nat) (f : Nat) (he : e ≤ 5) : e ≤ endN d e f ∧ endN d e f ≤ 5 := by
  induction f generalizing e with
  | zero => exact ⟨Nat.le_refl _, he⟩
  | succ f ih =>
    rw [endN]
    split
    · rename_i h
      have := hasB_le h
      have := ih (e + 1) (by omega)
      omega
    · exact ⟨Nat.le_refl _, he⟩
theorem digB_size (n : Nat) : (digB n).size = 1 := rfl
theorem fmtS_size (d : Int) (k : Nat) : (fmtS d k).size ≤ 4 * k := by
  induction k with
  | zero => exact Nat.le_refl _
  | succ k ih =>
    have e1 : (⟨#[44]⟩ : ByteArray).size = 1 := rfl
    have e2 : (⟨#[45]⟩ : ByteArray).size = 1 := rfl
    rw [fmtS]
    split
    · omega
    · dsimp only
      split <;> split <;> simp only [ByteArray.size_append, digB_size, e1, e2] <;> omega
/-- A text, and a world in which only new blocks were made. -/
def TextPost (s : ByteArray) (w : World) (e : Ending) (w' : World) : Prop := e = .returned (.string s) ∧ Below w.heap.size w w'

set_option maxRecDepth 100000 in
set_option maxHeartbeats 4000000 in
theorem formatDomain_any (d : Int) (w : World) (h1 : 0 ≤ d) (h2 : d ≤ 63) :
    Calls Tryd.prog 39 #[.int .i64 d] w (TextPost (fmtD d) w) := by
  go_enter Tryd.func39, Tryd.ntmps39
  go_wp2
  go_loopw [3, 4] (fun o i wr => ∃ k : Nat, k ≤ 6 ∧ i = .int .i64 k ∧ o = .string (fmtS d k) ∧ Hid (Below w.heap.size w wr)) (fun _ i _ => 6 - (intOf i).toNat)
  case atStart => exact ⟨0, by omega, rfl, rfl, Lib.hid (Below.refl _ _)⟩
  case round =>
    obtain ⟨k, hk, rfl, rfl, HB⟩ := hrel
    by_cases hlt : k < 6
    · cases hh : hasB d k
      · have HS : Hid (fmtS d (k + 1) = fmtS d k) := Lib.hid (by rw [fmtS, hh]; rfl)
        go_wp2_with (go_at_call 50; refine (shas_any _ _ _ h1 h2).mono ?_; rintro e w' ⟨rfl, rfl⟩)
        go_roundw
        case rel => exact ⟨k + 1, by omega, by go_num, by rw [HS.out], HB⟩
        case measure => simp [intOf]; omega
      cases hp : hasB d ((k : Int) - 1)
      · go_wp2_with (go_at_call 50; refine (shas_any _ _ _ h1 h2).mono ?_; rintro e w' ⟨rfl, rfl⟩)
        go_loop [5] (fun e => ∃ q : Nat, k ≤ q ∧ q ≤ 5 ∧ e = .int .i64 q ∧ Hid (endN d k 6 = endN d q (k + 6 - q))) (fun e => 6 - (intOf e).toNat)
        case atStart => exact ⟨k, Nat.le_refl _, by omega, rfl, Lib.hid (by rw [Nat.add_sub_cancel_left])⟩
        case round =>
          obtain ⟨q, hq1, hq2, rfl, HE⟩ := hrel
          have HE2 : Hid (endN d q (k + 6 - q) = if hasB d ((q : Int) + 1) then endN d (q + 1) (k + 6 - (q + 1)) else q) := Lib.hid (by rw [show k + 6 - q = (k + 6 - (q + 1)) + 1 from by omega, endN])
          cases hn : hasB d ((q : Int) + 1)
          · have HE3 : Hid (endN d k 6 = q) := Lib.hid (by rw [HE.out, HE2.out, hn]; rfl)
            clear HE HE2
            have hs0 := fmtS_size d k
            have hs1 := digB_size k
            have hs2 := digB_size q
            have hs3 : (⟨#[44]⟩ : ByteArray).size = 1 := rfl
            have hs4 : (⟨#[45]⟩ : ByteArray).size = 1 := rfl
            cases hE : (fmtS d k).toList.isEmpty
            · by_cases hgt : k < q
              · have HS : Hid (fmtS d (k + 1) = fmtS d k ++ ⟨#[44]⟩ ++ digB k ++ ⟨#[45]⟩ ++ digB q) := Lib.hid (by rw [fmtS, hh, hp, hE, HE3.out]; simp [hgt])
                go_wp2_with (first
                  | (go_at_call 50; refine (shas_any _ _ _ h1 h2).mono ?_; rintro e w' ⟨rfl, rfl⟩)
                  | (go_at_call 58; refine (formatInt_small _ _ (by omega)).mono ?_; rintro e w' ⟨rfl, b2⟩; have HB' := Lib.hid (HB.out.trans (b2.mono HB.out.size)); clear b2 HB; have HB := HB'; clear HB'))
                go_roundw
                case rel => exact ⟨k + 1, by omega, by go_num, by rw [HS.out], HB⟩
                case measure => simp [intOf]; omega
              · have HS : Hid (fmtS d (k + 1) = fmtS d k ++ ⟨#[44]⟩ ++ digB k) := Lib.hid (by rw [fmtS, hh, hp, hE, HE3.out]; simp [hgt])
                go_wp2_with (first
                  | (go_at_call 50; refine (shas_any _ _ _ h1 h2).mono ?_; rintro e w' ⟨rfl, rfl⟩)
                  | (go_at_call 58; refine (formatInt_small _ _ (by omega)).mono ?_; rintro e w' ⟨rfl, b2⟩; have HB' := Lib.hid (HB.out.trans (b2.mono HB.out.size)); clear b2 HB; have HB := HB'; clear HB'))
                go_roundw
                case rel => exact ⟨k + 1, by omega, by go_num, by rw [HS.out], HB⟩
                case measure => simp [intOf]; omega
            · by_cases hgt : k < q
              · have HS : Hid (fmtS d (k + 1) = fmtS d k ++ digB k ++ ⟨#[45]⟩ ++ digB q) := Lib.hid (by rw [fmtS, hh, hp, hE, HE3.out]; simp [hgt])
                go_wp2_with (first
                  | (go_at_call 50; refine (shas_any _ _ _ h1 h2).mono ?_; rintro e w' ⟨rfl, rfl⟩)
                  | (go_at_call 58; refine (formatInt_small _ _ (by omega)).mono ?_; rintro e w' ⟨rfl, b2⟩; have HB' := Lib.hid (HB.out.trans (b2.mono HB.out.size)); clear b2 HB; have HB := HB'; clear HB'))
                go_roundw
                case rel => exact ⟨k + 1, by omega, by go_num, by rw [HS.out], HB⟩
                case measure => simp [intOf]; omega
              · have HS : Hid (fmtS d (k + 1) = fmtS d k ++ digB k) := Lib.hid (by rw [fmtS, hh, hp, hE, HE3.out]; simp [hgt])
                go_wp2_with (first
                  | (go_at_call 50; refine (shas_any _ _ _ h1 h2).mono ?_; rintro e w' ⟨rfl, rfl⟩)
                  | (go_at_call 58; refine (formatInt_small _ _ (by omega)).mono ?_; rintro e w' ⟨rfl, b2⟩; have HB' := Lib.hid (HB.out.trans (b2.mono HB.out.size)); clear b2 HB; have HB := HB'; clear HB'))
                go_roundw
                case rel => exact ⟨k + 1, by omega, by go_num, by rw [HS.out], HB⟩
                case measure => simp [intOf]; omega
          · have hle := hasB_le hn
            go_wp2_with (go_at_call 50; refine (shas_any _ _ _ h1 h2).mono ?_; rintro e w' ⟨rfl, rfl⟩)
            go_round
            case rel => exact ⟨q + 1, by omega, by omega, by go_num, Lib.hid (by rw [HE.out, HE2.out, hn]; rfl)⟩
            case measure => simp [intOf]; omega
      · have HS : Hid (fmtS d (k + 1) = fmtS d k) := Lib.hid (by rw [fmtS, hh, hp]; rfl)
        go_wp2_with (go_at_call 50; refine (shas_any _ _ _ h1 h2).mono ?_; rintro e w' ⟨rfl, rfl⟩)
        go_roundw
        case rel => exact ⟨k + 1, by omega, by go_num, by rw [HS.out], HB⟩
        case measure => simp [intOf]; omega
    · obtain rfl : k = 6 := by omega
      cases he : (fmtS d 6).toList.isEmpty
      · have HF : Hid (fmtD d = fmtS d 6) := Lib.hid (by unfold fmtD; rw [he]; rfl)
        go_wp2
        go_ret
        exact ⟨by rw [HF.out]; rfl, HB.out⟩
      · have HF : Hid (fmtD d = ⟨#[101, 109, 112, 116, 121]⟩) := Lib.hid (by unfold fmtD; rw [he]; rfl)
        go_wp2
        go_ret
        exact ⟨by rw [HF.out]; rfl, HB.out⟩
end Go.Proofs.YtanaidpffoibgaaDoor
