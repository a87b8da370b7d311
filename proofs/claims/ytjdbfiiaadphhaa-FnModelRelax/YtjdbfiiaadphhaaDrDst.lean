/- The draw of Distance's arguments: two lists. -/
import Derived.Test.YtjdbfiiaadphhaaDrL
import Derived.Test.YtjdbfiiaadphhaaFi
namespace Go.Proofs.Ytjdbfiiaadphhaa
open Go.ChangeShapes Go.WideShapes Go.ChangeAt Go.RowKit
set_option linter.unusedVariables false
set_option linter.unusedSimpArgs false

set_option maxRecDepth 100000 in
set_option maxHeartbeats 2000000 in
theorem scopyInts_at (b off n cap : Nat) (xs : List Int) (w : World) (hn : n = xs.length) (h : RdInts w (.slice (some ⟨b, off, none⟩) n cap) xs) (hx : n ≤ 1048576) :
    Calls Try.prog 149 #[.slice (some ⟨b, off, none⟩) n cap] w (IntsPost xs w) := by
  have hcap := rdInts_cap h
  have hcell : ∀ i, i < n → w.cell? ⟨b, off + i, none⟩ = some (.int .i64 (xs[i]?.getD 0)) := fun i hi => by
    obtain ⟨b', o', e, q⟩ := rdInts_at h hi
    simp at e
    obtain ⟨rfl, rfl⟩ := e
    exact q
  have HC := Lib.hid hcell
  have HN := Lib.hid hn
  have hcap2 := hcap.2
  have hcap1 := hcap.1
  clear hcell h hn hcap
  obtain ⟨i0, hi, hz0, hz1, hz2⟩ := info_parts Try.info3
  have hmade := ownsRow_made w 3
  go_enter Try.func149, Try.ntmps149
  go_wp2_with (at_builtin; refine wpList_append_own _ rfl _ _ 32 rfl w.heap.size 3 i0 (.int .i64 0) 1 8 Try.underlying32 hi hz0 hz1 hz2 rfl (by decide) _ 0 [] rfl hmade ⟨b, off, none⟩ n cap (xs.map (Value.int .i64)) rfl (by rw [List.length_map, HN.out]; omega) (fun j u hu => ?_) (fun u hu => ?_) (by unfold maxLen; omega) (by omega) (by simp) ?_)
  · have hj : j < xs.length := by have := (List.getElem?_eq_some_iff.1 hu).1; simpa using this
    have hb := World.block_lt_of_cell? w _ (HC.out j (by rw [HN.out]; exact hj))
    rw [addr_add, World.cell?_alloc_old _ _ _ (by show b ≠ w.heap.size; exact Nat.ne_of_lt hb), HC.out j (by rw [HN.out]; exact hj)]
    rw [List.getElem?_map, List.getElem?_eq_getElem hj] at hu
    rw [List.getElem?_eq_getElem hj]
    simpa using hu
  · obtain ⟨x, _, rfl⟩ := List.mem_map.1 hu
    rfl
  · intro v' w' hown hgrow _
    have hb : Below w.heap.size w w' := ((Below.refl _ w).alloc (Nat.le_refl _) _).grown hgrow (by simp) (fun q e => by simp [Value.ownBlock] at e; omega)
    have HO := Lib.hid (show w'.ownsRow w.heap.size 3 1 v' xs.length (xs.map (Value.int .i64)) by simpa using hown)
    have HB := Lib.hid hb
    clear hown hgrow hb
    go_wp2
    go_ret
    exact ⟨_, rfl, HO.out, HB.out⟩

/-- Two lists that were drawn; the first one's place is no nil. -/
def TwoDrawnD (w : World) (e : Ending) (w' : World) : Prop := ∃ (g n c : Nat) (bv : Value) (x y : List Int), e = .returned (.tuple #[.slice (some ⟨g, 0, none⟩) n c, bv]) ∧ n = x.length ∧ RdInts w' (.slice (some ⟨g, 0, none⟩) n c) x ∧ RdInts w' bv y ∧ x.length ≤ 10 ∧ y.length ≤ 10 ∧ Below w.heap.size w w'

end Go.Proofs.Ytjdbfiiaadphhaa
