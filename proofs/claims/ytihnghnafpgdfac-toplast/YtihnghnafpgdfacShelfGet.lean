/-
  THE WALKS OF shelf.Get AND WHAT IT CALLS: a file's place is found by a closure; and of the document's answer to B1.
-/
import Derived.Test.YtihnghnafpgdfacShelfBase
import Derived.Test.YtihnghnafpgdfacPosn
namespace Go.Proofs.Ytihnghnafpgdfac
open Go.RowKit
set_option linter.unusedVariables false
set_option linter.unusedSimpArgs false

def getV : Option Fi → Value
  | some f => .tuple #[.agg #[.string f.n, .string f.t, .int .i64 f.k], .bool true]
  | none => .tuple #[.agg #[.string ⟨#[]⟩, .string ⟨#[]⟩, .int .i64 0], .bool false]

end Go.Proofs.Ytihnghnafpgdfac
