/-
  WHAT THE LISTED VARIABLES HOLD, OUT OF THE ROW's OWN CONDITION.
-/
import Derived.Test.YtihnghnafpgdfacGreatDoorRows
import Derived.Test.YtihnghnafpgdfacGreatDoorRk26
import Derived.Stop.LaidErr
import Derived.Stop.Joined
import Derived.Lib.LaidTab
import Derived.LaidHandle
import Derived.LaidMore
namespace Go.Proofs.YtihnghnafpgdfacGreatDoor
open Go Go.RowKit Go.BigFrame
set_option linter.unusedVariables false
set_option linter.unusedSimpArgs false
theorem tvES:Tryz.prog.globalNamed "strconv.ErrSyntax"=some 0:=by kernel_rfl
theorem tvESType:(Tryz.prog.globals[0]?).map (·.type)=some 38:=by kernel_rfl
theorem tvPow:Tryz.prog.globalNamed "internal/strconv.uint64pow10"=some 2:=by kernel_rfl
theorem tvPowType:(Tryz.prog.globals[2]?).map (·.type)=some 258:=by kernel_rfl
theorem tvCellsES:Tryz.prog.cellsOf 264=1:=by kernel_rfl
theorem tvCellsStr:Tryz.prog.cellsOf 9=1:=by kernel_rfl
theorem tvCellsU64:Tryz.prog.cellsOf 33=1:=by kernel_rfl
theorem tvCellsPow:Tryz.prog.cellsOf 258=20:=by kernel_rfl
theorem tvStarES: "*" ++ "errors.errorString"= "*errors.errorString":=by decide
theorem tvRowES (u:TypeId)(h:Tryz.prog.typeName? 3 u=some "*errors.errorString"):u=262 :=
  typeName_ptr_named (nm:= "errors.errorString") (by rw [tvStarES];kernel_rfl) (by kernel_rfl) (by decide) u (by rw [tvStarES];exact h)
theorem vars_of {l:List (String × DataW Unit)}{W:World}(hl:l=Rows.topThreeRow.laid)(h:laidMetH Tryz.prog l W):Vars W:=by
  subst hl
  have hm:laidMet Tryz.prog Rows.topThreeRow.laid W:=by
    unfold laidMetH at h
    have e:(Rows.topThreeRow.laid.filter fun x=>x.2.handleName?.isSome)=[]:=by rfl
    rw [e] at h
    exact h
  have h3:=hm.tail.tail
  have htab:Lib.TabIs Tryz.prog W "internal/strconv.uint64pow10" .u64 Lib.pow10Tab :=
    Lib.tabIs_of_head tvPow tvPowType Tryz.underlying258 Tryz.underlying33 tvCellsU64 tvCellsPow h3
  obtain ⟨a0,s0,hv0,-,-,-⟩:=laid_sentinel h3.tail.tail tvES tvESType Tryz.underlying38 tvRowES Tryz.underlying262 Tryz.underlying264 rfl rfl Tryz.underlying9 tvCellsES tvCellsStr
  exact ⟨htab,_,_,hv0⟩
end Go.Proofs.YtihnghnafpgdfacGreatDoor
