/-
  A SLICE OF CHANGES THAT COMES IN IS NO LONGER THAN ITS ROOM.
-/
import Derived.Test.YtihnghnafpgdfabDoorOpenRows
namespace Go.Proofs.YtihnghnafpgdfabDoor
open Go.RowKit Go.Deep Go.ChangeShapes Go.WideShapes
set_option linter.unusedVariables false
set_option linter.unusedSimpArgs false
section
variable {H : Type} {enc : TypeId × Value → H} {w : World} {base : Nat} {spare : Nat → Bool} {held : Bool}
theorem changes_room {fuel : Nat} {a : Option Addr} {n cap : Nat} {x : DataW H × List MemPlace} (h : DataW.trod enc Tryd.prog w base spare held fuel 25 (Value.slice a n cap).cells.toList = some x) : n ≤ cap := by
  rcases open_slice Tryd.underlying25 h with ⟨h1, _⟩ | ⟨a', len, cap', m, k, D, Pl, h1, hb, hl, hm, hmm, _, hx⟩
  · simp [Value.cells] at h1
    omega
  · simp [Value.cells] at h1
    omega
end
end Go.Proofs.YtihnghnafpgdfabDoor
