/- Scheduling as plain data. -/
import Derived.Test.YtelglccegkhfcaaTsk
import Derived.Test.YtelglccegkhfcaaSolA
namespace Go.Proofs.Ytelglccegkhfcaa
open Go.ChangeShapes Go.WideShapes Go.ChangeAt Go.RowKit Go.Deep
set_option linter.unusedVariables false
set_option linter.unusedSimpArgs false

/-- A valid task. -/
def tkB (t : Tsk) : Bool := wiB t.st 0 63 && (!decide (t.st = 0) && (wiB t.du 1 6 && wiB t.de 0 9))
/-- Valid tasks. -/
def tksB (ts : List Tsk) : Bool := ts.all tkB && wiB ts.length 1 4
def vtB (ts : List Tsk) (cap : Int) : Bool := tksB ts && wiB cap 0 9
theorem tkB_in {t : Tsk} (h : tkB t = true) : 1 ≤ t.st ∧ t.st ≤ 63 ∧ 1 ≤ t.du ∧ t.du ≤ 6 ∧ 0 ≤ t.de ∧ t.de ≤ 9 := by
  unfold tkB at h
  simp only [Bool.and_eq_true, Bool.not_eq_true', decide_eq_false_iff_not] at h
  obtain ⟨h1, h2, h3, h4⟩ := h
  have := wiB_in h1; have := wiB_in h3; have := wiB_in h4
  omega
theorem tksB_false {ts : List Tsk} {k : Nat} {t : Tsk} (h : ts[k]? = some t) (hb : tkB t = false) : tksB ts = false := by
  unfold tksB
  rw [Bool.and_eq_false_iff]
  left
  rw [List.all_eq_false]
  exact ⟨t, List.mem_of_getElem? h, by simp [hb]⟩
theorem tksB_end {ts : List Tsk} (h : ∀ (j : Nat) (t : Tsk), ts[j]? = some t → tkB t = true) : tksB ts = wiB ts.length 1 4 := by
  unfold tksB
  rw [show ts.all tkB = true from List.all_eq_true.2 (fun t ht => by
    obtain ⟨j, hj, e⟩ := List.mem_iff_getElem.1 ht
    exact h j t (by rw [List.getElem?_eq_getElem hj, e])), Bool.true_and]
theorem tksB_at {ts : List Tsk} (h : tksB ts = true) : (1 ≤ ts.length ∧ ts.length ≤ 4) ∧ ∀ (j : Nat) (t : Tsk), ts[j]? = some t → tkB t = true := by
  unfold tksB at h
  rw [Bool.and_eq_true, List.all_eq_true] at h
  have := wiB_in h.2
  exact ⟨by omega, fun j t hj => h.1 t (List.mem_of_getElem? hj)⟩

def tAt (ts : List Tsk) (i : Nat) : Tsk := ts[i]?.getD ⟨0, 0, 0⟩
def xAt (xs : List Int) (i : Nat) : Int := xs[i]?.getD 0
theorem tAt_of {ts : List Tsk} {i : Nat} {t : Tsk} (h : ts[i]? = some t) : tAt ts i = t := by unfold tAt; rw [h]; rfl
/-- The sum of the first k. -/
def sumN (f : Nat → Int) : Nat → Int
  | 0 => 0
  | k + 1 => sumN f k + f k
theorem sumN_bd {f : Nat → Int} {b : Int} (h : ∀ i, 0 ≤ f i ∧ f i ≤ b) : ∀ k : Nat, 0 ≤ sumN f k ∧ sumN f k ≤ b * k
  | 0 => by simp [sumN]
  | k + 1 => by
    have h1 := sumN_bd h k
    have h2 := h k
    have e : b * ((k + 1 : Nat) : Int) = b * k + b := by rw [Int.natCast_add, Int.mul_add]; simp
    simp only [sumN]
    rw [e]
    omega
theorem sumN_congr {f g : Nat → Int} {k : Nat} (h : ∀ i, i < k → f i = g i) : sumN f k = sumN g k := by
  induction k with
  | zero => rfl
  | succ k ih => simp only [sumN]; rw [ih (fun i hi => h i (by omega)), h k (by omega)]
/-- The length of what two intervals have in common. -/
def ovl (a b c d : Int) : Int := max 0 (min b d - max a c)
theorem ovl_bd {a b c d : Int} (h : a ≤ b) : 0 ≤ ovl a b c d ∧ ovl a b c d ≤ b - a := by unfold ovl; omega
theorem ovl_bd2 {a b c d : Int} (h : c ≤ d) : ovl a b c d ≤ d - c := by unfold ovl; omega
theorem ovl_one (s u j : Int) (h : 1 ≤ u) : ovl s (s + u) j (j + 1) = if s ≤ j ∧ j < s + u then 1 else 0 := by
  unfold ovl
  split <;> omega
/-- The energy of a task that starts at s. -/
def enP (t : Tsk) (s lo hi : Int) : Int := t.de * ovl s (s + t.du) lo hi
/-- That of the first k tasks. -/
def totP (ts : List Tsk) (xs : List Int) (lo hi : Int) : Nat → Int := sumN fun i => enP (tAt ts i) (xAt xs i) lo hi
/-- The usage at every time. -/
def usgL (ts : List Tsk) (xs : List Int) : List Int := (List.range 11).map fun (j : Nat) => totP ts xs j ((j : Int) + 1) ts.length
def aplB (ts : List Tsk) (xs : List Int) : Bool := tksB ts && (decide (xs.length = ts.length) && allB xs 0 5)
def usgN (ts : List Tsk) (xs : List Int) : List Int := if aplB ts xs then usgL ts xs else []
theorem usgN_le (ts : List Tsk) (xs : List Int) : (usgN ts xs).length ≤ 1048576 := by
  unfold usgN usgL
  split
  · rw [List.length_map, List.length_range]; omega
  · simp
theorem mul_bd {a b c : Int} (ha : 0 ≤ a) (ha9 : a ≤ 9) (hb : 0 ≤ b) (hc : b ≤ c) : 0 ≤ a * b ∧ a * b ≤ 9 * c := by
  refine ⟨Int.mul_nonneg ha hb, ?_⟩
  exact Int.le_trans (Int.mul_le_mul_of_nonneg_right ha9 hb) (Int.mul_le_mul_of_nonneg_left hc (by omega))
theorem enP_bd {t : Tsk} {s lo hi : Int} (h : tkB t = true) : 0 ≤ enP t s lo hi ∧ enP t s lo hi ≤ 54 := by
  obtain ⟨_, _, h3, h4, h5, h6⟩ := tkB_in h
  have := ovl_bd (a := s) (b := s + t.du) (c := lo) (d := hi) (by omega)
  have := mul_bd (c := 6) h5 h6 this.1 (by omega)
  exact ⟨this.1, this.2⟩
theorem enP_one {t : Tsk} {s j : Int} (h : tkB t = true) : enP t s j (j + 1) = if s ≤ j ∧ j < s + t.du then t.de else 0 := by
  unfold enP
  rw [ovl_one _ _ _ (tkB_in h).2.2.1]
  split <;> simp
theorem tkB_at {ts : List Tsk} (h : tksB ts = true) (i : Nat) : tkB (tAt ts i) = true ∨ tAt ts i = ⟨0, 0, 0⟩ := by
  unfold tAt
  cases e : ts[i]? with
  | none => right; rfl
  | some t => left; exact (tksB_at h).2 i t e
theorem totP_bd {ts : List Tsk} {xs : List Int} {lo hi : Int} (h : tksB ts = true) (k : Nat) : 0 ≤ totP ts xs lo hi k ∧ totP ts xs lo hi k ≤ 54 * k := by
  refine sumN_bd (fun i => ?_) k
  rcases tkB_at h i with h1 | h1
  · exact enP_bd h1
  · rw [h1]; unfold enP; simp
/-- The largest end of the first k. -/
def mksN (ts : List Tsk) (xs : List Int) : Nat → Int
  | 0 => 0
  | k + 1 => max (mksN ts xs k) (xAt xs k + (tAt ts k).du)
def mksZ (ts : List Tsk) (xs : List Int) : Int := if aplB ts xs then mksN ts xs ts.length else -1
theorem mksN_bd {ts : List Tsk} {xs : List Int} (h : tksB ts = true) (hx : allB xs 0 5 = true) : ∀ k : Nat, 0 ≤ mksN ts xs k ∧ mksN ts xs k ≤ 11
  | 0 => by simp [mksN]
  | k + 1 => by
    have h1 := mksN_bd h hx k
    have h2 : 0 ≤ (tAt ts k).du ∧ (tAt ts k).du ≤ 6 := by
      rcases tkB_at h k with h2 | h2
      · have := tkB_in h2; omega
      · rw [h2]; simp
    have h3 : 0 ≤ xAt xs k ∧ xAt xs k ≤ 5 := by
      unfold xAt
      by_cases hk : k < xs.length
      · exact small_of hx k hk
      · rw [List.getElem?_eq_none (by omega)]; simp
    simp only [mksN]
    omega
end Go.Proofs.Ytelglccegkhfcaa
