/-
  A QUILT THAT CAME IN, OPENED.
-/
import Derived.Test.YtihnghnafpgdfabDoorOpenRows
import Derived.Lib.SmallJoins
namespace Go.Proofs.YtihnghnafpgdfabDoor
open Go.RowKit Go.Deep Go.ChangeShapes Go.WideShapes Go.Joins
set_option linter.unusedVariables false
set_option linter.unusedSimpArgs false

section
variable {H : Type} {enc : TypeId × Value → H} {w : World} {base : Nat} {spare : Nat → Bool} {held : Bool}

theorem cellsQuilt : Tryd.prog.cellsOf 24 = 2 := by kernel_rfl

set_option maxRecDepth 100000 in
theorem open_quilt {r : Reach} {b0 : Nat} {v : Value} {d : DataW H} {p : List MemPlace} (hv : Value.okWide Tryd.prog w r b0 24 v) (h : DataW.Trod enc Tryd.prog w base spare held 24 v d p) :
    ∃ (a : Option Addr) (cap : Nat) (l : List Fi) (t : Int), v = .agg #[.slice a l.length cap, .int .i64 t] ∧ Slice w a cap l ∧ Sized l := by
  obtain ⟨v0, v1, y0, y1, n, rfl, _, _, h0, h1⟩ := open_agg2 Tryd.underlying24 (by kernel_rfl) cellsQuilt hv h
  obtain ⟨a, cap, l, e0, hs, hz⟩ := open_files h0
  obtain ⟨t, e1, _, _⟩ := DataW.trod_int Tryd.underlying3 h1
  simp at e0 e1
  subst e0 e1
  exact ⟨a, cap, l, t, rfl, hs, hz⟩

end
end Go.Proofs.YtihnghnafpgdfabDoor
