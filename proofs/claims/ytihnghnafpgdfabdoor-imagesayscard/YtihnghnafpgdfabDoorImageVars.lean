/-
  WHAT THE LISTED VARIABLES HOLD, OUT OF THE ROW's OWN CONDITION.
-/
import Derived.Test.YtihnghnafpgdfabDoorRows
import Derived.Test.YtihnghnafpgdfabDoorImageKit
import Derived.Stop.LaidErr
import Derived.Stop.Joined
import Derived.Lib.LaidTab
import Derived.LaidHandle
import Derived.LaidMore
namespace Go.Proofs.YtihnghnafpgdfabDoor
open Go Go.RowKit Go.BigFrame
set_option linter.unusedVariables false
set_option linter.unusedSimpArgs false

theorem gES : Tryd.prog.globalNamed "strconv.ErrSyntax" = some 0 := by kernel_rfl
theorem gESType : (Tryd.prog.globals[0]?).map (·.type) = some 33 := by kernel_rfl
theorem gPow : Tryd.prog.globalNamed "internal/strconv.uint64pow10" = some 2 := by kernel_rfl
theorem gPowType : (Tryd.prog.globals[2]?).map (·.type) = some 118 := by kernel_rfl
theorem cellsES : Tryd.prog.cellsOf 125 = 1 := by kernel_rfl
theorem cellsStr : Tryd.prog.cellsOf 9 = 1 := by kernel_rfl
theorem cellsU64 : Tryd.prog.cellsOf 92 = 1 := by kernel_rfl
theorem cellsPow : Tryd.prog.cellsOf 118 = 20 := by kernel_rfl
theorem starES : "*" ++ "errors.errorString" = "*errors.errorString" := by decide
theorem rowES (u : TypeId) (h : Tryd.prog.typeName? 3 u = some "*errors.errorString") : u = 123 :=
  typeName_ptr_named (nm := "errors.errorString") (by rw [starES]; kernel_rfl) (by kernel_rfl) (by decide) u (by rw [starES]; exact h)

theorem vars_of {l : List (String × DataW Unit)} {W : World} (hl : l = Rows.imageSaysRow.laid) (h : laidMetH Tryd.prog l W) : Vars W := by
  subst hl
  have hm : laidMet Tryd.prog Rows.imageSaysRow.laid W := by
    unfold laidMetH at h
    have e : (Rows.imageSaysRow.laid.filter fun x => x.2.handleName?.isSome) = [] := by rfl
    rw [e] at h
    exact h
  have h3 := hm.tail.tail
  have htab : Lib.TabIs Tryd.prog W "internal/strconv.uint64pow10" .u64 Lib.pow10Tab :=
    Lib.tabIs_of_head gPow gPowType Tryd.underlying118 Tryd.underlying92 cellsU64 cellsPow h3
  obtain ⟨a0, s0, hv0, -, -, -⟩ := laid_sentinel h3.tail.tail gES gESType Tryd.underlying33 rowES Tryd.underlying123 Tryd.underlying125 rfl rfl Tryd.underlying9 cellsES cellsStr
  exact ⟨htab, _, _, hv0⟩
end Go.Proofs.YtihnghnafpgdfabDoor
