/-
  WHAT THE CONSOLE's LISTED VARIABLES HOLD, OUT OF THE ROW's OWN CONDITION; bytealg.MaxLen, out of the shape of memory.
-/
import Derived.Test.YtihnghnafpgdfadGreatDoorRows
import Derived.Test.YtihnghnafpgdfadGreatDoorSk07
import Derived.Test.YtihnghnafpgdfadGreatDoorSk34
import Derived.Stop.LaidErr
import Derived.Stop.Joined
import Derived.Lib.LaidTab
import Derived.LaidHandle
import Derived.LaidMore
import Derived.Shelf.Vars
namespace Go.Proofs.YtihnghnafpgdfadGreatDoor
open Go Go.RowKit Go.BigFrame
set_option linter.unusedVariables false
set_option linter.unusedSimpArgs false
theorem cvES:Tryz.prog.globalNamed "strconv.ErrSyntax"=some 0:=by kernel_rfl
theorem zs6:(Tryz.prog.globals[0]?).map (·.type)=some 38:=by kernel_rfl
theorem cvER:Tryz.prog.globalNamed "strconv.ErrRange"=some 1:=by kernel_rfl
theorem ztA:(Tryz.prog.globals[1]?).map (·.type)=some 38:=by kernel_rfl
theorem zu5:Tryz.prog.globalNamed "internal/strconv.uint64pow10"=some 3:=by kernel_rfl
theorem zr0:(Tryz.prog.globals[3]?).map (·.type)=some 284:=by kernel_rfl
theorem znw:Tryz.prog.cellsOf 292=1:=by kernel_rfl
theorem zlg:Tryz.prog.cellsOf 9=1:=by kernel_rfl
theorem zqB:Tryz.prog.cellsOf 23=1:=by kernel_rfl
theorem zp5:Tryz.prog.cellsOf 284=20:=by kernel_rfl
theorem zpB: "*" ++ "errors.errorString"= "*errors.errorString":=by decide
theorem zqZ (u:TypeId)(h:Tryz.prog.typeName? 3 u=some "*errors.errorString"):u=290 :=
 typeName_ptr_named (nm:= "errors.errorString") (by rw [zpB];kernel_rfl) (by kernel_rfl) (by decide) u (by rw [zpB];exact h)
theorem ztM {W:World}(h:laidMetH Tryz.prog Rows.consoleSaysRow.laid W):zfs W:=by
 have hm:laidMet Tryz.prog Rows.consoleSaysRow.laid W:=by
  unfold laidMetH at h;have e:(Rows.consoleSaysRow.laid.filter fun x=>x.2.handleName?.isSome)=[]:=by rfl
  rw [e] at h;exact h
 have h3:=hm.tail.tail
 have htab:Lib.TabIs Tryz.prog W "internal/strconv.uint64pow10" .u64 Lib.pow10Tab :=
  Lib.tabIs_of_head zu5 zr0 Tryz.underlying284 Tryz.underlying23 zqB zp5 h3
 obtain ⟨a1,s1,hv1,-,-,-⟩:=laid_sentinel h3.tail.tail cvER ztA Tryz.underlying38 zqZ Tryz.underlying290 Tryz.underlying292 rfl rfl Tryz.underlying9 znw zlg;obtain ⟨a0,s0,hv0,-,-,-⟩:=laid_sentinel h3.tail.tail.tail cvES zs6 Tryz.underlying38 zqZ Tryz.underlying290 Tryz.underlying292 rfl rfl Tryz.underlying9 znw zlg;exact ⟨⟨htab,_,_,hv0⟩,_,_,hv1⟩
theorem zuN {W:World}(h:laidMetH Tryz.prog Rows.consoleSaysRow.laid W)(hs:W.ShapedOpen Tryz.prog):CLo W :=
 ⟨ztM h,cell_of_shapedOpen_int (g:=2) (t:=3) (zero:=#[.int .i64 0]) (k:=.i64) hs (of_decide_eq_true (by kernel_rfl)) (by kernel_rfl) (by kernel_rfl) (by kernel_rfl) (by kernel_rfl) Tryz.underlying3⟩
end Go.Proofs.YtihnghnafpgdfadGreatDoor
