/-
  C1 BY ITS NUMBER: quilts that may be.
-/
import Derived.Test.YtihnghnafpgdfabQuiltWalks
namespace Go.Proofs.Ytihnghnafpgdfab
open Go.RowKit
set_option linter.unusedVariables false
set_option linter.unusedSimpArgs false

theorem quiltF_range (l : List Fi) (t : Int) : 0 ≤ quiltF l t ∧ quiltF l t ≤ 100 := by
  have := filesF_range l
  unfold quiltF
  split
  · exact this
  · split <;> exact ⟨by decide, by decide⟩
theorem good_of_quiltF {l : List Fi} {t : Int} (h : quiltF l t = 0) : GoodQ l t := by
  unfold quiltF at h
  by_cases hf : filesF l = 0
  · rw [if_neg (by simp [hf])] at h
    refine ⟨good_of_zero hf, ?_, ?_⟩
    · by_cases h1 : t < 1 ∨ 9999 < t
      · rw [if_pos h1] at h; cases h
      · omega
    · by_cases h1 : t < 1 ∨ 9999 < t
      · rw [if_pos h1] at h; cases h
      · omega
  · rw [if_pos hf] at h; exact absurd h hf

end Go.Proofs.Ytihnghnafpgdfab
