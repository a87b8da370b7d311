/- The laws' marks on clauses. -/
import Derived.Test.YtipapmmjfoaddaaGreatLitM
namespace Go.Proofs.YtipapmmjfoaddaaGreat
open Go.ChangeShapes Go.WideShapes Go.ChangeAt Go.RowKit Go.Deep
set_option linter.unusedVariables false
set_option linter.unusedSimpArgs false

set_option maxRecDepth 100000 in
set_option maxHeartbeats 4000000 in
theorem markLiteralS_sh (lo hi : Nat) (v : Value) (k : Int) (w : World) (h : ShLits lo hi w v) (h0 : 0 ≤ k) (hk : k ≤ 1000000000000000000) :
    Calls Tryz.prog 38 #[v, .int .i64 k] w (MarksPost lo hi k 3145728 w) := by
  obtain ⟨n, hs, hn⟩ := h
  have HS := Lib.hid hs
  obtain ⟨a, c, rfl, hl, hm, hx⟩ := hs
  clear hx
  unfold maxLen at hm
  unfold MarksPost
  go_enter Tryz.func38, Tryz.ntmps38
  go_wp2
  go_loopw [1, 5] (fun q i wr => ∃ j : Nat, j ≤ n ∧ i = .int .i64 j ∧ q = .int .i64 (k + 3 * j) ∧ Hid (Marked lo hi w wr)) (fun _ i _ => n - (intOf i).toNat)
  case atStart => exact ⟨0, Nat.zero_le _, rfl, by simp, Lib.hid (Marked.refl _ _ _)⟩
  case round =>
    obtain ⟨j, hj, rfl, rfl, HM⟩ := hrel
    by_cases hlt : j < n
    · obtain ⟨a', c', ea, _, _, hx⟩ := HS.out.marked HM.out
      simp at ea
      obtain ⟨rfl, rfl⟩ := ea
      rcases hx with hx | ⟨b, off, rfl, hb1, hb2, hx⟩
      · omega
      obtain ⟨x, y, z, c0, c1, c2, f0, f1, f2⟩ := hx j hlt
      have m1 := Marked.set c0 hb1 hb2 (k + 3 * j)
      have c1' : (wr.setCell ⟨b, off + j * 3, none⟩ (.int .i64 (k + 3 * j))).cell? ⟨b, off + j * 3 + 1, none⟩ = some (.int .i64 y) := by
        rw [World.cell?_setCell_other]
        · exact c1
        · intro e; have := congrArg Addr.off e; simp at this
      have m2 := m1.trans (Marked.set c1' hb1 hb2 (k + 3 * j + 1))
      have c2' : ((wr.setCell ⟨b, off + j * 3, none⟩ (.int .i64 (k + 3 * j))).setCell ⟨b, off + j * 3 + 1, none⟩ (.int .i64 (k + 3 * j + 1))).cell? ⟨b, off + j * 3 + 2, none⟩ = some (.bool z) := by
        rw [World.cell?_setCell_other, World.cell?_setCell_other]
        · exact c2
        · intro e; have := congrArg Addr.off e; simp at this
        · intro e; have := congrArg Addr.off e; simp at this
      have HM3 := Lib.hid (fun (t : Bool) => HM.out.trans (m2.trans (Marked.setBool c2' hb1 hb2 t)))
      clear hx HM m1 m2 c1' c2'
      go_wp2
      go_roundw
      case rel => exact ⟨j + 1, by omega, by go_num, by go_num, Lib.hid (HM3.out _)⟩
      case measure => simp [intOf]; omega
    · obtain rfl : j = n := by omega
      go_wp2
      go_ret
      exact ⟨k + 3 * j, rfl, by omega, by omega, HM.out⟩
end Go.Proofs.YtipapmmjfoaddaaGreat
