/-
  THE WALK OF ShelfSays: it returns true, and writes nothing that was there.
-/
import Derived.Test.YtihnghnafpgdfabShelfAll
namespace Go.Proofs.Ytihnghnafpgdfab
open Go.RowKit
set_option linter.unusedVariables false
set_option linter.unusedSimpArgs false

def getD' : Option Fi → Fi
  | some f => f
  | none => ⟨⟨#[]⟩, ⟨#[]⟩, 0⟩
theorem getV_eq (o : Option Fi) : getV o = .tuple #[.agg #[.string (getD' o).n, .string (getD' o).t, .int .i64 (getD' o).k], .bool o.isSome] := by cases o <;> rfl

theorem putL_len (l : List Fi) (f : Fi) : (putL l f).length ≤ l.length + 1 := by
  unfold putL
  split
  · unfold putF
    simp only [List.length_append, List.length_take, List.length_cons, List.length_drop]
    split <;> omega
  · simp
theorem dropL_len (l : List Fi) (name : ByteArray) : (dropL l name).length ≤ l.length := by
  unfold dropL
  split
  · unfold dropF
    simp only [List.length_append, List.length_take, List.length_drop]
    omega
  · simp

theorem same_nil (w : World) : Calls Try.prog 27 #[.nilIface, .int .i64 0] w fun e w' => e = .returned (.bool true) ∧ w' = w := same_yes 0 w (by decide) (by decide)

theorem fa_good : (fa).fault = 0 := by decide

end Go.Proofs.Ytihnghnafpgdfab
