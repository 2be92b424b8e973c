/-
  CHANGES THAT CAME IN: a nil slice has no room.
-/
import Derived.Test.YtihnghnafpgdfabOpenActs
namespace Go.Proofs.Ytihnghnafpgdfab
open Go.RowKit Go.Deep Go.ChangeShapes Go.WideShapes
set_option linter.unusedVariables false
set_option linter.unusedSimpArgs false

section
variable {H : Type} {enc : TypeId × Value → H} {w : World} {base : Nat} {spare : Nat → Bool} {held : Bool}
theorem changes_nil {fuel : Nat} {a : Option Addr} {n cap : Nat} {x : DataW H × List MemPlace} (h : DataW.trod enc Try.prog w base spare held fuel 24 (Value.slice a n cap).cells.toList = some x) : a = none → cap = 0 := by
  intro e
  subst e
  rcases open_slice Try.underlying24 h with ⟨h1, _⟩ | ⟨a, len, cap, m, n, D, Pl, h1, _⟩
  · simp [Value.cells] at h1; exact h1.2
  · simp [Value.cells] at h1
end
end Go.Proofs.Ytihnghnafpgdfab
