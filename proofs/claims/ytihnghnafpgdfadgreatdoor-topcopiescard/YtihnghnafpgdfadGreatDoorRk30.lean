/- What the proofs stand on, part 30: ImageFn, GoodMem. -/
import Derived.Test.YtihnghnafpgdfadGreatDoorRk29
import Derived.Test.YtihnghnafpgdfadGreatDoorRk09
set_option linter.unusedVariables false
set_option linter.unusedSimpArgs false
namespace Go.Proofs.YtihnghnafpgdfadGreatDoor
open Go Go.RowKit Go.BigFrame
open Classical in
noncomputable def imgR (rows:List Ch):List Fi × Int × Int:=if h:∃ p:List Fi × Int,Img rows p.1 p.2 then (h.choose.1,h.choose.2,0) else ([],0,4)
theorem imgR_img {rows:List Ch}{l:List Fi}{t:Int}(h:Img rows l t):imgR rows=(l,t,0):=by
  have hx:∃ p:List Fi × Int,Img rows p.1 p.2:=⟨(l,t),h⟩
  unfold imgR
  rw [dif_pos hx]
  obtain ⟨e1,e2⟩:=hx.choose_spec.inj h
  rw [e1,e2]
theorem imgR_no {rows:List Ch}(h:NoImg rows):imgR rows=([],0,4):=by
  unfold imgR
  rw [dif_neg (fun ⟨p,hp⟩=>h p.1 p.2 hp)]
theorem imgR_small (rows:List Ch)(h1:rows.length≤50):(imgR rows).1.length≤50∧0≤(imgR rows).2.2∧(imgR rows).2.2≤100:=by
  by_cases hx:∃ p:List Fi × Int,Img rows p.1 p.2
  · obtain ⟨p,hp⟩:=hx
    have:=hp.length
    rw [imgR_img hp]
    exact ⟨by simp only;omega,by simp,by simp⟩
  · rw [imgR_no (fun l t h=>hx ⟨(l,t),h⟩)]
    exact ⟨by simp,by decide,by decide⟩
theorem parse_fn (pa:Option Addr)(ca:Nat)(rows:List Ch)(w:World)(h1:rows.length≤50)(hz:∀ c ∈ rows,c.key.size≤100∧c.val.size≤100)(hc:CC w pa rows)(hv:Vars w) :
    Calls Tryz.prog 62 #[.slice pa rows.length ca] w fun e w'=>∃ va vc,e=.returned (.tuple #[.agg #[.slice va (imgR rows).1.length vc,.int .i64 (imgR rows).2.1],errV (imgR rows).2.2])∧FilesIn w' va vc (imgR rows).1∧Below w.heap.size w w':=by
  refine (parse_any pa ca rows w h1 hz hc hv).mono ?_
  rintro e w' (⟨fs,t,va,vc,him,rfl,hcl,hb⟩ | ⟨hno,rfl,hb⟩)
  · rw [imgR_img him]
    exact ⟨va,vc,by rw [errV_zero rfl],hcl,hb⟩
  · rw [imgR_no hno]
    exact ⟨none,0,rfl,FilesIn.nil _,hb⟩
end Go.Proofs.YtihnghnafpgdfadGreatDoor
namespace Go.Proofs.YtihnghnafpgdfadGreatDoor
open Go.RowKit
theorem pw_ext:∀ {l m:List Fi},l.Pairwise (fun a b=>ltB a.n b.n=true)→m.Pairwise (fun a b=>ltB a.n b.n=true)→(∀ x,x ∈ l↔x ∈ m)→l=m
  | [],[],_,_,_=>rfl
  | [],b :: m,_,_,h=>absurd ((h b).2 (by simp)) (by simp)
  | a :: l,[],_,_,h=>absurd ((h a).1 (by simp)) (by simp)
  | a :: l,b :: m,hl,hm,h=>by
    rw [List.pairwise_cons] at hl hm
    have hab:a=b:=by
      have h1:=(h a).1 (by simp)
      have h2:=(h b).2 (by simp)
      simp only [List.mem_cons] at h1 h2
      rcases h1 with h1 | h1
      · exact h1
      · rcases h2 with h2 | h2
        · exact h2.symm
        · have:=ltB_asymm (hm.1 a h1)
          rw [hl.1 b h2] at this
          exact absurd this (by simp)
    subst hab
    have hna:∀ x,x ∈ l→x≠a:=by
      intro x hx e
      subst e
      have:=hl.1 x hx
      rw [ltB_irrefl] at this
      exact absurd this (by simp)
    have hnb:∀ x,x ∈ m→x≠a:=by
      intro x hx e
      subst e
      have:=hm.1 x hx
      rw [ltB_irrefl] at this
      exact absurd this (by simp)
    have ht:l=m:=pw_ext hl.2 hm.2 (fun x=>by
      constructor
      · intro hx
        have:=(h x).1 (by simp [hx])
        simp only [List.mem_cons] at this
        rcases this with e | e
        · exact absurd e (hna x hx)
        · exact e
      · intro hx
        have:=(h x).2 (by simp [hx])
        simp only [List.mem_cons] at this
        rcases this with e | e
        · exact absurd e (hnb x hx)
        · exact e)
    rw [ht]
theorem Good.uniq {l:List Fi}(h:Good l){f g:Fi}(hf:f ∈ l)(hg:g ∈ l)(e:f.n=g.n):f=g:=by
  obtain ⟨i,hi,rfl⟩:=List.getElem_of_mem hf
  obtain ⟨j,hj,rfl⟩:=List.getElem_of_mem hg
  rcases Nat.lt_trichotomy i j with h1 | h1 | h1
  · have:=h.lt h1 hj;rw [e,ltB_irrefl] at this;exact absurd this (by simp)
  · subst h1;rfl
  · have:=h.lt h1 hi;rw [e,ltB_irrefl] at this;exact absurd this (by simp)
theorem Good.get_iff {l:List Fi}(h:Good l){f:Fi}{name:ByteArray}:getF l name=some f↔f ∈ l∧f.n=name:=by
  constructor
  · exact getF_mem
  · rintro ⟨hf,hn⟩
    cases hg:getF l name with
    | none =>
      unfold getF at hg
      rw [List.find?_eq_none] at hg
      exact absurd (beqB_true hn) (by simpa using hg f hf)
    | some g =>
      obtain ⟨hg1,hg2⟩:=getF_mem hg
      rw [h.uniq hf hg1 (hn.trans hg2.symm)]
theorem get_none {l:List Fi}{name:ByteArray}:getF l name=none↔∀ f ∈ l,¬ f.n=name:=by
  unfold getF
  rw [List.find?_eq_none]
  constructor
  · intro h f hf e
    exact absurd (beqB_true e) (by simpa using h f hf)
  · intro h f hf
    simp [beqB_false (h f hf)]
theorem Good.split {l:List Fi} (hg:Good l) (name:ByteArray) (x:Fi):(x ∈ l.take (posF l name)∨x ∈ l.drop (if hasF l name=true then posF l name+1 else posF l name))↔(x ∈ l∧¬ x.n=name):=by
  have hp:=posF_le l name
  constructor
  · rintro (h | h)
    · refine ⟨List.mem_of_mem_take h,?_⟩
      obtain ⟨i,hi,rfl⟩:=List.getElem_of_mem h
      simp only [List.length_take] at hi
      rw [List.getElem_take]
      exact hg.other (by omega) (by omega)
    · refine ⟨List.mem_of_mem_drop h,?_⟩
      cases hh:hasF l name
      · simp only [hh,Bool.false_eq_true,if_false] at h
        obtain ⟨i,hi,rfl⟩:=List.getElem_of_mem h
        simp only [List.length_drop] at hi
        rw [List.getElem_drop]
        by_cases h0:i=0
        · subst h0;exact hasF_not hh (by omega)
        · exact hg.other (by omega) (by omega)
      · simp only [hh,if_true] at h
        obtain ⟨i,hi,rfl⟩:=List.getElem_of_mem h
        simp only [List.length_drop] at hi
        rw [List.getElem_drop]
        exact hg.other (by omega) (by omega)
  · rintro ⟨h,hn⟩
    obtain ⟨i,hi,rfl⟩:=List.getElem_of_mem h
    rcases Nat.lt_or_ge i (posF l name) with h1 | h1
    · left
      rw [List.mem_take_iff_getElem]
      exact ⟨i,by omega,rfl⟩
    · right
      rw [List.mem_drop_iff_getElem]
      cases hh:hasF l name
      · simp only [Bool.false_eq_true,if_false]
        exact ⟨i - posF l name,by omega,by congr 1;omega⟩
      · simp only [if_true]
        have hne:i≠posF l name:=by rintro rfl;exact hn (hasF_name hh).2
        exact ⟨i - (posF l name+1),by omega,by congr 1;omega⟩
theorem mem_put {l:List Fi}(hg:Good l)(f x:Fi):x ∈ putF l f↔x=f∨(x ∈ l∧¬ x.n=f.n):=by
  rw [← hg.split f.n x]
  unfold putF
  simp only [List.mem_append,List.mem_cons]
  constructor
  · rintro (h | h | h)
    · exact .inr (.inl h)
    · exact .inl h
    · exact .inr (.inr h)
  · rintro (h | h | h)
    · exact .inr (.inl h)
    · exact .inl h
    · exact .inr (.inr h)
theorem mem_drop {l:List Fi}(hg:Good l){name:ByteArray}(hh:hasF l name=true)(x:Fi):x ∈ dropF l name↔x ∈ l∧¬ x.n=name:=by
  rw [← hg.split name x,hh]
  unfold dropF
  simp only [List.mem_append,if_true]
theorem has_iff {l:List Fi}(hg:Good l)(name:ByteArray):hasF l name=true↔∃ f ∈ l,f.n=name:=by
  rw [← getF_isSome hg]
  constructor
  · intro h
    cases hx:getF l name with
    | none=>rw [hx] at h;exact absurd h (by simp)
    | some f=>exact ⟨f,(getF_mem hx).1,(getF_mem hx).2⟩
  · rintro ⟨f,hf,hn⟩
    rw [hg.get_iff.2 ⟨hf,hn⟩];rfl
theorem get_put_same {l:List Fi}(hg:Good l){f:Fi}(hp:Good (putF l f)):getF (putF l f) f.n=some f :=
  hp.get_iff.2 ⟨(mem_put hg f f).2 (.inl rfl),rfl⟩
theorem get_put_other {l:List Fi}(hg:Good l){f:Fi}(hp:Good (putF l f)){name:ByteArray}(hn:¬ name=f.n):getF (putF l f) name=getF l name:=by
  cases h:getF l name with
  | none =>
    rw [get_none] at h ⊢
    intro x hx
    rcases (mem_put hg f x).1 hx with rfl | ⟨h1,_⟩
    · exact fun e=>hn e.symm
    · exact h x h1
  | some g =>
    obtain ⟨h1,h2⟩:=getF_mem h
    exact hp.get_iff.2 ⟨(mem_put hg f g).2 (.inr ⟨h1,by rw [h2];exact hn⟩),h2⟩
theorem get_drop_other {l:List Fi}(hg:Good l){name other:ByteArray}(hh:hasF l name=true)(hn:¬ other=name):getF (dropF l name) other=getF l other:=by
  cases h:getF l other with
  | none =>
    rw [get_none] at h ⊢
    intro x hx
    exact h x ((mem_drop hg hh x).1 hx).1
  | some g =>
    obtain ⟨h1,h2⟩:=getF_mem h
    exact (good_drop hg name).get_iff.2 ⟨(mem_drop hg hh g).2 ⟨h1,by rw [h2];exact hn⟩,h2⟩
end Go.Proofs.YtihnghnafpgdfadGreatDoor
