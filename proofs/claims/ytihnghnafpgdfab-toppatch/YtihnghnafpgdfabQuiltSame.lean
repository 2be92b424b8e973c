/-
  THE WALKS OF slices.Equal AT FILES, quilt.Same, LightQuilt, quilts.
-/
import Derived.Test.YtihnghnafpgdfabTopGoodWalk
import Derived.Test.YtihnghnafpgdfabShelfLaw
namespace Go.Proofs.Ytihnghnafpgdfab
open Go.RowKit
set_option linter.unusedVariables false
set_option linter.unusedSimpArgs false

set_option maxRecDepth 100000 in
set_option maxHeartbeats 1000000 in
theorem lightQuilt_any (a : Option Addr) (cap : Nat) (l : List Fi) (t : Int) (w : World) (hl : l.length ≤ maxLen) (hz : Sized l) (hc : Cells w a l) :
    Calls Try.prog 73 #[.agg #[.slice a l.length cap, .int .i64 t]] w fun e w' => e = .returned (.bool (lightF l)) ∧ Below w.heap.size w w' := by
  have HC : Hid (Cells w a l) := hc
  clear hc
  have hl' := hl
  unfold maxLen at hl'
  by_cases h12 : l.length ≤ 12
  · go_enter Try.func73, Try.ntmps73
    go_wp2_with fail
    refine (light_any a cap l _ hl hz (by exact HC.out.alloc _)).mono ?_
    rintro e w' ⟨rfl, hw⟩
    rw [hw]
    clear hw w'
    go_wp2
    go_ret
    exact ⟨rfl, (Below.refl _ _).alloc (Nat.le_refl _) _⟩
  · have e : lightF l = false := by
      cases h : lightF l
      · rfl
      · have := (lightF_spec h).1; omega
    rw [e]
    clear e
    go_enter Try.func73, Try.ntmps73
    go_wp2
    go_ret
    exact ⟨rfl, (Below.refl _ _).alloc (Nat.le_refl _) _⟩

end Go.Proofs.Ytihnghnafpgdfab
