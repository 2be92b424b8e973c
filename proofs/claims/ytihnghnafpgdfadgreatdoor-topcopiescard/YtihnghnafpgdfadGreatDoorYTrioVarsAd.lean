/-
  WHAT THE LISTED VARIABLES HOLD, OUT OF THE ROW's OWN CONDITION.
-/
import Derived.Test.YtihnghnafpgdfadGreatDoorRows
import Derived.Test.YtihnghnafpgdfadGreatDoorRk26
import Derived.Stop.LaidErr
import Derived.Stop.Joined
import Derived.Lib.LaidTab
import Derived.LaidHandle
import Derived.LaidMore
namespace Go.Proofs.YtihnghnafpgdfadGreatDoor
open Go Go.RowKit Go.BigFrame
set_option linter.unusedVariables false
set_option linter.unusedSimpArgs false
theorem tvES:Tryz.prog.globalNamed "strconv.ErrSyntax"=some 0:=by kernel_rfl
theorem tvESType:(Tryz.prog.globals[0]?).map (·.type)=some 38:=by kernel_rfl
theorem tvPow:Tryz.prog.globalNamed "internal/strconv.uint64pow10"=some 3:=by kernel_rfl
theorem tvPowType:(Tryz.prog.globals[3]?).map (·.type)=some 284:=by kernel_rfl
theorem tvCellsES:Tryz.prog.cellsOf 292=1:=by kernel_rfl
theorem tvCellsStr:Tryz.prog.cellsOf 9=1:=by kernel_rfl
theorem tvCellsU64:Tryz.prog.cellsOf 23=1:=by kernel_rfl
theorem tvCellsPow:Tryz.prog.cellsOf 284=20:=by kernel_rfl
theorem tvStarES: "*" ++ "errors.errorString"= "*errors.errorString":=by decide
theorem tvRowES (u:TypeId)(h:Tryz.prog.typeName? 3 u=some "*errors.errorString"):u=290 :=
  typeName_ptr_named (nm:= "errors.errorString") (by rw [tvStarES];kernel_rfl) (by kernel_rfl) (by decide) u (by rw [tvStarES];exact h)
theorem vars_of {l:List (String × DataW Unit)}{W:World}(hl:l=Rows.topMendRow.laid)(h:laidMetH Tryz.prog l W):Vars W:=by
  subst hl
  have hm:laidMet Tryz.prog Rows.topMendRow.laid W:=by
    unfold laidMetH at h
    have e:(Rows.topMendRow.laid.filter fun x=>x.2.handleName?.isSome)=[]:=by rfl
    rw [e] at h
    exact h
  have h3:=hm.tail.tail
  have htab:Lib.TabIs Tryz.prog W "internal/strconv.uint64pow10" .u64 Lib.pow10Tab :=
    Lib.tabIs_of_head tvPow tvPowType Tryz.underlying284 Tryz.underlying23 tvCellsU64 tvCellsPow h3
  obtain ⟨a0,s0,hv0,-,-,-⟩:=laid_sentinel h3.tail.tail tvES tvESType Tryz.underlying38 tvRowES Tryz.underlying290 Tryz.underlying292 rfl rfl Tryz.underlying9 tvCellsES tvCellsStr
  exact ⟨htab,_,_,hv0⟩
end Go.Proofs.YtihnghnafpgdfadGreatDoor
