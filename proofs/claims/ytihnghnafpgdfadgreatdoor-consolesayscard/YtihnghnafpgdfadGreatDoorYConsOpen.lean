/-
  TEXTS THAT CAME IN: nil has no room; a copy of one's own.
-/
import Derived.Test.YtihnghnafpgdfadGreatDoorSk24
import Derived.Test.YtihnghnafpgdfadGreatDoorSk07
import Derived.Laws.AppendOwnNone
namespace Go.Proofs.YtihnghnafpgdfadGreatDoor
open Go.RowKit Go.Deep Go.ChangeShapes Go.WideShapes
set_option linter.unusedVariables false
set_option linter.unusedSimpArgs false
section
variable {H:Type} {enc:TypeId × Value→H} {w:World} {base:Nat} {spare:Nat→Bool} {held:Bool}
theorem zkj {fuel:Nat} {cs:List Value} {x:DataW H × List MemPlace} (h:DataW.trod enc Tryz.prog w base spare held fuel 34 cs=some x) :
 ∃ (a:Option Addr) (cap:Nat) (l:List ByteArray),cs=[.slice a l.length cap]∧Strs w a l∧l.length≤maxLen∧(a=none→cap=0)∧∀ s ∈ l,s.size≤maxLen:=by
 rcases open_strs Tryz.underlying34 Tryz.underlying9 zoP h with ⟨rfl,_⟩ | ⟨a,len,cap,m,Sx,rfl,hb,hl,hm,hmm,_,hx⟩
 · exact ⟨none,0,[],rfl,Strs.nil _ _,Nat.zero_le _,fun _=>rfl,fun f hf=>by cases hf⟩
 · have hlm:len≤m:=by rw [hmm];split <;> omega
   refine ⟨some a,cap,(List.range len).map Sx,by simp,?_,by simp;omega,(fun h=>by cases h),?_⟩
   · intro i hi
     have hi':i<len:=by simpa using hi
     have h0:=(hx i (by omega)).1;obtain ⟨b,off,spot⟩:=a
     have hspot:spot=none:=by
      have:=World.cell?_spot (hx 0 (by omega)).1
      simpa [Addr.add] using this
     subst hspot;have hadd:∀ j,(⟨b,off,none⟩:Addr).add j=⟨b,off+j,none⟩:=by intro j;unfold Addr.add;split <;> simp_all
     rw [hadd] at h0;exact ⟨b,off,rfl,by simpa using h0⟩
   · intro s hs
     simp only [List.mem_map,List.mem_range] at hs;obtain ⟨i,hi,rfl⟩:=hs;exact (hx i (by omega)).2
end
theorem zmL {ops:Array Oper} {rest:List Oper} {o:Oper} {act:Act} {Q:Exit→Act→World→Prop} (hgd:o.guard=none) (s x:Operand)
 (ho:o.op=.call { callee:=.builtin .append,args:=#[s,x],argTypes:=#[34,34] })
 (W:World) (a:Option Addr) (cap:Nat) (l:List ByteArray) (hl:l.length≤1000) (hst:Strs W a l) (hnl:a=none→cap=0) (hs:act.eval s=.slice none 0 0) (hx:act.eval x=.slice a l.length cap)
 (h:∀ v' w',World.ownsRow w' W.heap.size 9 1 v' l.length (l.map Value.string)→Below W.heap.size W w'→wpList Tryz.prog ops Q rest (act.put o.dst v') w'):wpList Tryz.prog ops Q (o :: rest) act W:=by
 obtain ⟨i0,hi,hz0,hz1,hz2⟩:=info_parts Tryz.infoString;have hown:World.ownsRow W W.heap.size 9 1 (.slice none 0 0) 0 []:=World.ownsRow_nil _ _ _ _;cases a with
 | none =>
   have e:l=[]:=by
    cases l with
    | nil=>rfl
    | cons g r=>obtain ⟨_,_,e,_⟩:=hst 0 (by simp);cases e
   subst e;have e:=hnl rfl;subst e;refine wpList_append_own_none hgd s x 34 ho W.heap.size 9 i0 1 Tryz.underlying34 hi _ _ _ hs hown (by simpa using hx) ?_;exact h _ _ hown (Below.refl _ _)
 | some p =>
   have hcells:∀ q u,(l.map Value.string)[q]?=some u→W.cell? (p.add q)=some u:=by
    intro q u hu;rw [List.getElem?_map] at hu
    have hq:q<l.length:=by
     by_cases hq:q<l.length
     · exact hq
     · rw [List.getElem?_eq_none (by omega)] at hu;cases hu
    rw [List.getElem?_eq_getElem hq] at hu;simp at hu;subst hu;obtain ⟨b,off,e,h1⟩:=hst q hq;rw [Option.some.inj e,show (⟨b,off,none⟩:Addr).add q=⟨b,off+q,none⟩ by unfold Addr.add;split <;> simp_all];exact h1
   have hone:∀ u ∈ l.map Value.string,u.oneCell'=true:=by
    intro u hu;obtain ⟨z,-,rfl⟩:=List.mem_map.1 hu
    rfl
   refine wpList_append_own _ hgd s x 34 ho W.heap.size 9 i0 _ 1 16 Tryz.underlying34 hi hz0 hz1 hz2 rfl (by decide) _ _ _ hs hown p l.length cap (l.map Value.string) hx (by simp) hcells hone (by unfold maxLen;simp;omega) (by simp;omega) (Nat.le_refl _) ?_;intro v' w' hown' hgrow hnil;rw [Nat.zero_add,List.nil_append] at hown';exact h v' w' hown' ((Below.refl _ _).grown hgrow (Nat.le_refl _) (fun q hq=>(hown.lt q hq).1))
end Go.Proofs.YtihnghnafpgdfadGreatDoor
