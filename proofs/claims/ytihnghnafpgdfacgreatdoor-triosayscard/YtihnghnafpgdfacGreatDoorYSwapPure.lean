/-
  SWAPPED IN PLACE IS SWAPPED BY PUTTING; a row of one's own, written in place.
-/
import Derived.Test.YtihnghnafpgdfacGreatDoorRk09
import Derived.Test.YtihnghnafpgdfacGreatDoorRk32
namespace Go.Proofs.YtihnghnafpgdfacGreatDoor
open Go.RowKit
set_option linter.unusedVariables false
set_option linter.unusedSimpArgs false
/-- What becomes of one file where two texts are swapped. -/
def swapZ (a b:ByteArray)(f g z:Fi):Fi:=if z.n=a then ⟨z.n,g.t,z.k+1⟩ else if z.n=b then ⟨z.n,f.t,z.k+1⟩ else z
theorem swapZ_eq {l:List Fi} (hg:Good l) {a b:ByteArray} {f g:Fi} (hf:getF l a=some f) (hgg:getF l b=some g) (h1:f.k<9999) (h2:g.k<9999) (hab:¬ a=b):l.map (swapZ a b f g)=swapL l a b f g:=by
  obtain ⟨p1,g1,p2,g2⟩:=swap_ok hg hf hgg h1 h2 hab
  have hha:hasF l a=true:=has_of_get hg hf
  have gb1:getF (putF l ⟨a,g.t,f.k+1⟩) b=some g:=by
    rw [get_put_other hg g1 (Ne.symm hab)];exact hgg
  have hhb1:hasF (putF l ⟨a,g.t,f.k+1⟩) b=true:=has_of_get g1 gb1
  have hn:(swapL l a b f g).map Fi.n=l.map Fi.n:=by
    show (putF (putF l ⟨a,g.t,f.k+1⟩) ⟨b,f.t,g.k+1⟩).map Fi.n=_
    rw [names_put (f:=⟨b,f.t,g.k+1⟩) hhb1,names_put (f:=⟨a,g.t,f.k+1⟩) hha]
  have hlen:(swapL l a b f g).length=l.length:=by have:=congrArg List.length hn;simpa using this
  apply List.ext_getElem
  · simpa using hlen.symm
  · intro i i1 i2
    simp only [List.length_map] at i1
    rw [List.getElem_map]
    have en:(swapL l a b f g)[i].n=l[i].n:=by
      have:=List.getElem_of_eq hn (i:=i) (by simpa using i2)
      simpa using this
    have gy:getF (swapL l a b f g) l[i].n=some (swapL l a b f g)[i]:=(g2.get_iff).2 ⟨List.getElem_mem i2,en⟩
    have gl:getF l l[i].n=some l[i]:=(hg.get_iff).2 ⟨List.getElem_mem i1,rfl⟩
    have e0:getF (swapL l a b f g) l[i].n=getF (putF (putF l ⟨a,g.t,f.k+1⟩) ⟨b,f.t,g.k+1⟩) l[i].n:=rfl
    unfold swapZ
    by_cases ca:l[i].n=a
    · rw [if_pos ca]
      have e1:getF (swapL l a b f g) a=some ⟨a,g.t,f.k+1⟩:=by
        show getF (putF (putF l ⟨a,g.t,f.k+1⟩) ⟨b,f.t,g.k+1⟩) a=_
        rw [get_put_other g1 g2 (show ¬ a=(⟨b,f.t,g.k+1⟩:Fi).n from hab)]
        exact get_put_same hg g1
      rw [ca] at gl gy ⊢
      rw [e1] at gy
      rw [hf] at gl
      rw [← Option.some.inj gy,← Option.some.inj gl]
    · rw [if_neg ca]
      by_cases cb:l[i].n=b
      · rw [if_pos cb]
        have e1:getF (swapL l a b f g) b=some ⟨b,f.t,g.k+1⟩:=get_put_same g1 g2
        rw [cb] at gl gy ⊢
        rw [e1] at gy
        rw [hgg] at gl
        rw [← Option.some.inj gy,← Option.some.inj gl]
      · rw [if_neg cb]
        have e1:getF (swapL l a b f g) l[i].n=getF l l[i].n:=by
          show getF (putF (putF l ⟨a,g.t,f.k+1⟩) ⟨b,f.t,g.k+1⟩) l[i].n=_
          rw [get_put_other g1 g2 (show ¬ l[i].n=(⟨b,f.t,g.k+1⟩:Fi).n from cb),get_put_other hg g1 (show ¬ l[i].n=(⟨a,g.t,f.k+1⟩:Fi).n from ca)]
        rw [e1,gl] at gy
        exact Option.some.inj gy
theorem flat_text:∀ (l:List Fi) (i:Nat) (h:i<l.length) (t:ByteArray),(flat l).set (i * 3+1) (.string t)=flat (l.set i ⟨l[i].n,t,l[i].k⟩)
  | z :: r,0,_,t=>by simp [flat]
  | z :: r,i+1,h,t=>by
    have:=flat_text r i (by simpa using h) t
    simp only [List.set_cons_succ,List.getElem_cons_succ]
    show (flat (z :: r)).set _ _=flat (z :: _)
    have e:∀ (q:List Fi),flat (z :: q)=.string z.n :: .string z.t :: .int .i64 z.k :: flat q:=fun q=>by simp [flat]
    rw [e,e,← this]
    have e2:(i+1) * 3+1=(i * 3+1)+1+1+1:=by omega
    rw [e2]
    simp only [List.set_cons_succ]
theorem flat_times:∀ (l:List Fi) (i:Nat) (h:i<l.length) (k:Int),(flat l).set (i * 3+2) (.int .i64 k)=flat (l.set i ⟨l[i].n,l[i].t,k⟩)
  | z :: r,0,_,t=>by simp [flat]
  | z :: r,i+1,h,t=>by
    have:=flat_times r i (by simpa using h) t
    simp only [List.set_cons_succ,List.getElem_cons_succ]
    show (flat (z :: r)).set _ _=flat (z :: _)
    have e:∀ (q:List Fi),flat (z :: q)=.string z.n :: .string z.t :: .int .i64 z.k :: flat q:=fun q=>by simp [flat]
    rw [e,e,← this]
    have e2:(i+1) * 3+2=(i * 3+2)+1+1+1:=by omega
    rw [e2]
    simp only [List.set_cons_succ]
/-- A file of one's own,written in place. -/
theorem Owns.wrote {w:World}{base B cap n:Nat}{l:List Fi}(h:Owns w base (.slice (some ⟨B,0,none⟩) n cap) l)(hn:n=l.length){i:Nat}(hi:i<l.length)(t:ByteArray)(k:Int) :
    Owns ((w.setCell ⟨B,i * 3+1,none⟩ (.string t)).setCell ⟨B,i * 3+2,none⟩ (.int .i64 k)) base (.slice (some ⟨B,0,none⟩) n cap) (l.set i ⟨l[i].n,t,k⟩):=by
  subst hn
  have h1:=(World.ownsRow.stored h (i * 3+1) (.string t)).1
  have h2:=(World.ownsRow.stored h1 (i * 3+2) (.int .i64 k)).1
  rw [flat_text l i hi] at h2
  have e:=flat_times (l.set i ⟨l[i].n,t,l[i].k⟩) i (by simpa using hi) k
  rw [e] at h2
  simp only [List.getElem_set_self,List.set_set] at h2
  show World.ownsRow _ _ _ _ _ _ _
  rw [List.length_set]
  exact h2
/-- A list,its first ones mapped. -/
def stepSw (φ:Fi→Fi)(l:List Fi)(k:Nat):List Fi:=(l.take k).map φ ++ l.drop k
theorem stepSw_len (φ:Fi→Fi)(l:List Fi)(k:Nat)(hk:k≤l.length):(stepSw φ l k).length=l.length:=by
  simp only [stepSw,List.length_append,List.length_map,List.length_take,List.length_drop]
  omega
theorem stepSw_at (φ:Fi→Fi)(l:List Fi)(k:Nat)(hk:k<l.length)(h:k<(stepSw φ l k).length):(stepSw φ l k)[k]=l[k]:=by
  simp only [stepSw]
  rw [List.getElem_append_right (by simp;omega)]
  simp only [List.length_map,List.length_take,List.getElem_drop]
  congr 1
  omega
theorem stepSw_succ (φ:Fi→Fi)(l:List Fi)(k:Nat)(hk:k<l.length):stepSw φ l (k+1)=(stepSw φ l k).set k (φ l[k]):=by
  unfold stepSw
  rw [takeSucc l k hk,List.map_append,List.drop_eq_getElem_cons hk]
  rw [List.set_append_right _ _ (by simp;omega)]
  simp only [List.map_cons,List.map_nil,List.length_map,List.length_take,List.append_assoc,List.singleton_append]
  have e:k - min k l.length=0:=by omega
  rw [e,List.set_cons_zero]
theorem stepSw_same (φ:Fi→Fi)(l:List Fi)(k:Nat)(hk:k<l.length)(h:φ l[k]=l[k]):stepSw φ l (k+1)=stepSw φ l k:=by
  rw [stepSw_succ φ l k hk,h]
  have h2:k<(stepSw φ l k).length:=by rw [stepSw_len φ l k (by omega)];exact hk
  have e:=stepSw_at φ l k hk h2
  rw [← e]
  exact List.set_getElem_self h2
theorem stepSw_zero (φ:Fi→Fi)(l:List Fi):stepSw φ l 0=l:=by simp [stepSw]
theorem stepSw_all (φ:Fi→Fi)(l:List Fi)(k:Nat)(hk:l.length≤k):stepSw φ l k=l.map φ:=by
  unfold stepSw
  rw [takeAll l k hk,List.drop_of_length_le hk,List.append_nil]
end Go.Proofs.YtihnghnafpgdfacGreatDoor
