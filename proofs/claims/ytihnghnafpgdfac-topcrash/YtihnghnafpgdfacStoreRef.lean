/-
  THE DOCUMENT's STORE: Commit.
-/
import Derived.Test.YtihnghnafpgdfacStoreAt
import Derived.Test.YtihnghnafpgdfacRowApplied
namespace Go.Proofs.Ytihnghnafpgdfac
open Go.RowKit Go.BigFrame
set_option linter.unusedVariables false
set_option linter.unusedSimpArgs false

structure Ms where
  ra : Option Addr
  rc : Nat
  rows : List Ch
  used : Nat
  many : Nat
/-- What the document's Commit answers, and how many sectors are used then. -/
def commitF (m : Ms) (c : List Ch) : Int := if 14 < c.length then 2 else if faultL c ≠ 0 then faultL c else if 12 < (appliedC m.rows c).length ∨ m.many < c.length + 1 then 7 else 0
def commitU (m : Ms) (c : List Ch) : Nat := (if m.many - m.used < c.length + 1 then 0 else m.used) + c.length + 1

theorem touch_set {w W : World} {b : Nat} (h : Touch (fun k => k = b) w W) (i : Nat) (v : Value) : Touch (fun k => k = b) w (W.setCell ⟨b, i, none⟩ v) :=
  ⟨h.os, h.tape, h.output, by rw [World.size_setCell]; exact h.size, fun k hk hn => by rw [Below.heap_setCell W ⟨b, i, none⟩ v k hn]; exact h.block k hk hn⟩

end Go.Proofs.Ytihnghnafpgdfac
