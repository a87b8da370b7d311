/- The program's Propagate. -/
import Derived.Test.YtipapmmjfoaddaaEnI
namespace Go.Proofs.Ytipapmmjfoaddaa
open Go.ChangeShapes Go.WideShapes Go.ChangeAt Go.RowKit
set_option linter.unusedVariables false
set_option linter.unusedSimpArgs false

theorem proL_length {cs : List Con} {d : List Int} (h : OkD cs d.length d) : (proL cs d).length = d.length := by
  rcases proL_res h with ⟨_, o, _⟩ | ⟨e, _⟩
  · exact o.len
  · rw [e]; simp
theorem proM_le (m : Mod) : (proM m).length ≤ 1048576 := by
  unfold proM
  split
  · rename_i hv
    obtain ⟨s1, s2, s3, s4⟩ := doms_small' hv
    rw [proL_length (okD_of s1 (fun c hc => okC_mem hv hc))]
    omega
  · simp

end Go.Proofs.Ytipapmmjfoaddaa
