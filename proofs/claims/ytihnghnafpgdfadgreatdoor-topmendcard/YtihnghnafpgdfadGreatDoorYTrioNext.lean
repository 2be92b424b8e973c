/-
  WHAT AN ACT WOULD COME TO, kept beside a trio; numbers of errors.
-/
import Derived.Test.YtihnghnafpgdfadGreatDoorRk38
import Derived.Test.YtihnghnafpgdfadGreatDoorRk32
import Derived.Deep.RegionHeld3
import Derived.BigQuiet
namespace Go.Proofs.YtihnghnafpgdfadGreatDoor
open Go Go.RowKit Go.BigFrame
set_option linter.unusedVariables false
set_option linter.unusedSimpArgs false
/-- A slice of files lasts where texts are let be. -/
theorem Cells.farT {w w':World} {a:Option Addr} {l:List Fi} (h:Cells w a l) (hf:LetT w w'):Cells w' a l:=by
  intro i hi
  obtain ⟨b,off,rfl,c0,c1,c2⟩:=h i hi
  have hk:w'.heap[b]?=w.heap[b]?:=by
    have h0:=c0
    unfold World.cell? at h0
    cases hx:w.heap[b]? with
    | none=>simp [hx] at h0
    | some o =>
      cases o with
      | cells C T fr =>
        have hc:C[off+i * 3]?=some (.string l[i].n):=by rw [cell_block hx] at c0;exact c0
        exact hf b C T fr hx (.inr ⟨_,_,hc⟩)
      | _=>simp [hx] at h0
  exact ⟨b,off,rfl,by rw [World.cell?_of_block (a:=⟨b,_,none⟩) hk];exact c0,by rw [World.cell?_of_block (a:=⟨b,_,none⟩) hk];exact c1,by rw [World.cell?_of_block (a:=⟨b,_,none⟩) hk];exact c2⟩
theorem Slice.farT {w w':World}{a:Option Addr}{cap:Nat}{l:List Fi}(h:Slice w a cap l)(hf:LetT w w'):Slice w' a cap l:=⟨h.cells.farT hf,h.room,h.most,h.nil⟩
end Go.Proofs.YtihnghnafpgdfadGreatDoor
