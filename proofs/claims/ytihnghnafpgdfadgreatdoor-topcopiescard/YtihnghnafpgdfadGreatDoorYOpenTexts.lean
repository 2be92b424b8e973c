/-
  TEXTS THAT CAME IN, OPENED.
-/
import Derived.Test.YtihnghnafpgdfadGreatDoorRk24
import Derived.Test.YtihnghnafpgdfadGreatDoorRk07
namespace Go.Proofs.YtihnghnafpgdfadGreatDoor
open Go.RowKit Go.Deep Go.ChangeShapes Go.WideShapes
set_option linter.unusedVariables false
set_option linter.unusedSimpArgs false
section
variable {H:Type} {enc:TypeId × Value→H} {w:World} {base:Nat} {spare:Nat→Bool} {held:Bool}
theorem open_texts {fuel:Nat} {cs:List Value} {x:DataW H × List MemPlace} (h:DataW.trod enc Tryz.prog w base spare held fuel 34 cs=some x) :
    ∃ (a:Option Addr) (cap:Nat) (l:List ByteArray),cs=[.slice a l.length cap]∧Strs w a l∧l.length≤maxLen∧∀ s ∈ l,s.size≤maxLen:=by
  rcases open_strs Tryz.underlying34 Tryz.underlying9 cellsString h with ⟨rfl,_⟩ | ⟨a,len,cap,m,Sx,rfl,hb,hl,hm,hmm,_,hx⟩
  · exact ⟨none,0,[],rfl,Strs.nil _ _,Nat.zero_le _,fun f hf=>by cases hf⟩
  · have hlm:len≤m:=by rw [hmm];split <;> omega
    refine ⟨some a,cap,(List.range len).map Sx,by simp,?_,by simp;omega,?_⟩
    · intro i hi
      have hi':i<len:=by simpa using hi
      have h0:=(hx i (by omega)).1
      obtain ⟨b,off,spot⟩:=a
      have hspot:spot=none:=by
        have:=World.cell?_spot (hx 0 (by omega)).1
        simpa [Addr.add] using this
      subst hspot
      have hadd:∀ j,(⟨b,off,none⟩:Addr).add j=⟨b,off+j,none⟩:=by intro j;unfold Addr.add;split <;> simp_all
      rw [hadd] at h0
      exact ⟨b,off,rfl,by simpa using h0⟩
    · intro s hs
      simp only [List.mem_map,List.mem_range] at hs
      obtain ⟨i,hi,rfl⟩:=hs
      exact (hx i (by omega)).2
end
end Go.Proofs.YtihnghnafpgdfadGreatDoor
