/-
  THE WALKS OF Do, began AND grown: acts that are done to a quilt.
-/
import Derived.Test.YtihnghnafpgdfacQuiltSwap
import Derived.Test.YtihnghnafpgdfacActsBase
namespace Go.Proofs.Ytihnghnafpgdfac
open Go.RowKit
set_option linter.unusedVariables false
set_option linter.unusedSimpArgs false

/-- What an act does. -/
def doR (l : List Fi) (t : Int) (x : Ac) : Res :=
  if x.kind = ⟨#[119, 114, 105, 116, 101]⟩ then writeR l t x.s x.t
  else if x.kind = ⟨#[100, 114, 111, 112]⟩ then dropR' l t x.s
  else if x.kind = ⟨#[110, 97, 109, 101]⟩ then renameR l t x.s x.t
  else if x.kind = ⟨#[115, 119, 97, 112]⟩ then swapR l t x.s x.t
  else ⟨l, t, 0⟩

end Go.Proofs.Ytihnghnafpgdfac
