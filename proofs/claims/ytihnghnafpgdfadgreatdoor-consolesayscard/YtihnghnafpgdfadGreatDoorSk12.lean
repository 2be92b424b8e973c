/- What the proofs stand on, part 12: LogFall, Numbers, LogOpen, LogAdd. -/
import Derived.Lib.OwnKind
import Derived.OneCell
import Derived.Laws.IdiomStrings
import Derived.Laws.MakeOwn
import Derived.Deep.OwnRows
import Derived.Deep.DeepCutAuto
import Derived.Deep.RegionHeld3
import Derived.Deep.RegionLaw
import Derived.Test.YtihnghnafpgdfadGreatDoorSk11
import Derived.Test.YtihnghnafpgdfadGreatDoorSk07
import Derived.Test.YtihnghnafpgdfadGreatDoorSk05
import Derived.Test.YtihnghnafpgdfadGreatDoorSk10
set_option linter.unusedVariables false
set_option linter.unusedSimpArgs false
set_option maxRecDepth 100000
set_option maxHeartbeats 4000000
namespace Go.Proofs.YtihnghnafpgdfadGreatDoor
variable {B C a b base few first from' i j k lo lo' m many n num oc size u:Nat}{s t:List UInt8}{L R now y:List (List UInt8)}{W w w' w4 wr wx:World}{p p':Dp}{D d:Dk}{T e:TypeId}{v v' vd vo:Value}{P:List zcn}{c opn:List Ch}{oa:Option Addr}{fr:Nat × Nat}{l:List ByteArray}{z:Int}
def leB:Nat→Nat→List UInt8
 | 0,_=>[]
 | k+1,n=>UInt8.ofNat (n % 256) :: leB k (n / 256)
def ofLE:List UInt8→Nat
 | []=>0
 | b :: l=>b.toNat+256 * ofLE l
theorem zaT:∀ k n,(leB k n).length=k
 | 0,_=>rfl
 | k+1,n=>by simp [leB,zaT k]
theorem zgb:∀ k n,ofLE (leB k n)=n % 256 ^ k
 | 0,n=>by simp [leB,ofLE,Nat.mod_one]
 | k+1,n=>by
   simp only [leB,ofLE,zgb k];have:(UInt8.ofNat (n % 256)).toNat=n % 256:=by simp
   rw [this,Nat.pow_succ,Nat.mul_comm (256 ^ k) 256,Nat.mod_mul]
theorem zuv (hn:n<256 ^ k)(hm:m<256 ^ k)(h:leB k n=leB k m):n=m:=by
 have:=congrArg ofLE h
 rwa [zgb,zgb,Nat.mod_eq_of_lt hn,Nat.mod_eq_of_lt hm] at this
theorem zpJ:∀ k,leB k 0=List.replicate k 0
 | 0=>rfl
 | k+1=>by simp [leB,zpJ k,List.replicate_succ]
theorem zsu:∀ l:List UInt8,ofLE l<256 ^ l.length
 | []=>by simp [ofLE]
 | b :: l=>by
   have:=zsu l;have hb:=b.toNat_lt;simp only [ofLE,List.length_cons,Nat.pow_succ];omega
section
variable {C:Type} (rd:List UInt8→Option C)
def zfr (num:Nat)(s:List UInt8):Option (UInt8 × List UInt8) :=
 if (s.drop 1).take 4=leB 4 num∧ofLE ((s.drop 5).take 2)≤33 then some (s.headD 0,(s.drop 7).take (ofLE ((s.drop 5).take 2))) else none
structure Pl (C:Type) where
 deeds:List (List C)
 opn:List C
 used:Nat
def zef (first i:Nat) (st:Pl C) (s:List UInt8):Option (Pl C) :=
 match zfr (first+i) s with
 | none=>none
 | some (k,t)=>if k=99∧t=leB 4 st.opn.length then some ⟨st.deeds ++ [st.opn],[],i+1⟩
   else if k=111 then (match rd t with
    | some c=>some ⟨st.deeds,st.opn ++ [c],st.used⟩
    | none=>none)
   else none
def runL (first:Nat):Nat→Pl C→List (List UInt8)→Pl C
 | _,st,[]=>st
 | i,st,s :: r=>match zef rd first i st s with
   | some st'=>runL first (i+1) st' r
   | none=>st
def zaH (first:Nat)(l:List (List UInt8)):List (List C) × Nat:=((runL rd first 0 ⟨[],[],0⟩ l).deeds,(runL rd first 0 ⟨[],[],0⟩ l).used)
theorem zo8 {st st':Pl C} (h:zef rd first i st s=some st'):(st'=⟨st.deeds ++ [st.opn],[],i+1⟩)∨∃ c,st'=⟨st.deeds,st.opn ++ [c],st.used⟩:=by
 unfold zef at h
 split at h
 · cases h
 · split at h
   · left;injection h with h;exact h.symm
   · split at h
     · split at h
       · right;injection h with h;exact ⟨_,h.symm⟩
       · cases h
     · cases h
theorem zfM (first:Nat):∀ (l:List (List UInt8)) (i:Nat) (st:Pl C),((runL rd first i st l).used=st.used∧(runL rd first i st l).deeds=st.deeds∧∀ j,(runL rd first i st (l.take j)).used=st.used∧(runL rd first i st (l.take j)).deeds=st.deeds) ∨
 ∃ j,0<j∧j≤l.length∧(runL rd first i st l).used=i+j∧∀ x,runL rd first i st (l.take j ++ x)=runL rd first (i+j) ⟨(runL rd first i st l).deeds,[],i+j⟩ x
 | [],i,st=>.inl ⟨rfl,rfl,fun j=>by simp [runL]⟩
 | s :: r,i,st=>by
   cases hs:zef rd first i st s with
   | none=>exact .inl ⟨by simp [runL,hs],by simp [runL,hs],fun j=>by cases j <;> simp [runL,hs]⟩
   | some st' =>
     have e:runL rd first i st (s :: r)=runL rd first (i+1) st' r:=by simp [runL,hs]
     have e2:∀ y,runL rd first i st (s :: y)=runL rd first (i+1) st' y:=fun y=>by simp [runL,hs]
     rw [e];rcases zfM first r (i+1) st' with ⟨h1,h2,h3⟩ | ⟨j,hj,hjl,h1,h2⟩
     · rcases zo8 rd hs with h | ⟨c,h⟩
       · right
         refine ⟨1,Nat.one_pos,by simp,by rw [h1,h],fun x=>?_⟩;show runL rd first i st (s :: ([] ++ x))=_;rw [e2,h2,h]
         rfl
       · left
         subst h;refine ⟨h1,h2,fun j=>?_⟩;cases j with
         | zero=>simp [runL]
         | succ j=>rw [List.take_succ_cons,e2];exact h3 j
     · right
       refine ⟨j+1,Nat.succ_pos _,by simpa using hjl,by rw [h1];omega,fun x=>?_⟩;rw [List.take_succ_cons,List.cons_append,e2,h2,show i+(j+1)=i+1+j by omega]
theorem zij (first:Nat)(l:List (List UInt8)):∀ y,runL rd first 0 ⟨[],[],0⟩ (l.take (zaH rd first l).2 ++ y)=runL rd first (zaH rd first l).2 ⟨(zaH rd first l).1,[],(zaH rd first l).2⟩ y:=by
 intro y;rcases zfM rd first l 0 ⟨[],[],0⟩ with ⟨h1,h2,h3⟩ | ⟨j,hj,hjl,h1,h2⟩
 · simp only [zaH,h1,h2]
   simp
 · have e:(zaH rd first l).2=j:=by simp only [zaH,h1];omega
   rw [e,h2 y];simp only [zaH,Nat.zero_add]
theorem zqG (first:Nat)(l:List (List UInt8)):(zaH rd first l).2≤l.length:=by
 rcases zfM rd first l 0 ⟨[],[],0⟩ with ⟨h1,h2,h3⟩ | ⟨j,hj,hjl,h1,h2⟩
 · simp only [zaH,h1];omega
 · simp only [zaH,h1];omega
theorem zmM (first:Nat)(l:List (List UInt8))(k:Nat):(runL rd first (zaH rd first l).2 ⟨(zaH rd first l).1,[],(zaH rd first l).2⟩ ((l.drop (zaH rd first l).2).take k)).used=(zaH rd first l).2 ∧
 (runL rd first (zaH rd first l).2 ⟨(zaH rd first l).1,[],(zaH rd first l).2⟩ ((l.drop (zaH rd first l).2).take k)).deeds=(zaH rd first l).1:=by
 have h:=zij rd first l (l.drop (zaH rd first l).2);rw [List.take_append_drop] at h;rcases zfM rd first (l.drop (zaH rd first l).2) (zaH rd first l).2 ⟨(zaH rd first l).1,[],(zaH rd first l).2⟩ with ⟨h1,h2,h3⟩ | ⟨j,hj,hjl,h1,h2⟩
 · exact h3 k
 · rw [← h] at h1
   have:(zaH rd first l).2=(runL rd first 0 ⟨[],[],0⟩ l).used:=rfl;omega
def blank:List UInt8:=List.replicate 40 0
theorem zjo (h:¬ num % 4294967296=0):zfr num blank=none:=by
 unfold zfr;rw [if_neg];intro hh;have e:(blank.drop 1).take 4=leB 4 0:=by rw [zpJ];decide
 rw [e] at hh;have h2:=congrArg ofLE hh.1;rw [zgb,zgb] at h2;simp at h2;omega
theorem zeL (h:¬ (first+i) % 4294967296=0)(st:Pl C)(x:List (List UInt8)):runL rd first i st (blank :: x)=st:=by
 simp [runL,zef,zjo h]
theorem zid (first:Nat) (hf:∀ i,i<1000→¬ (first+i) % 4294967296=0):∀ (l y:List (List UInt8)) (i:Nat) (st:Pl C),y.length=l.length→i+l.length≤1000→(∀ k (h:k<l.length) (h2:k<y.length),y[k]=l[k]∨y[k]=blank) →
 (∀ k,(runL rd first i st (l.take k)).used=st.used∧(runL rd first i st (l.take k)).deeds=st.deeds)→(runL rd first i st y).used=st.used∧(runL rd first i st y).deeds=st.deeds
 | [],[],i,st,_,_,_,_=>by simp [runL]
 | s :: r,z :: q,i,st,hl,hi,hy,hk=>by
   have h0:=hy 0 (by simp) (by simp);simp only [List.getElem_cons_zero] at h0;simp only [List.length_cons] at hl hi;rcases h0 with h0 | h0
   · subst h0
     cases hs:zef rd first i st z with
     | none=>simp [runL,hs]
     | some st' =>
       have e2:∀ y,runL rd first i st (z :: y)=runL rd first (i+1) st' y:=fun y=>by simp [runL,hs]
       have h1:=hk 1;rw [List.take_succ_cons,e2] at h1;simp only [List.take_zero,runL] at h1;rw [e2]
       have:=zid first hf r q (i+1) st' (by omega) (by omega) (fun k h h2=>by have:=hy (k+1) (by simpa using h) (by simpa using h2);simpa only [List.getElem_cons_succ] using this) (fun k=>by
        have:=hk (k+1);rw [List.take_succ_cons,e2] at this
        rw [h1.1,h1.2];exact this)
       rw [this.1,this.2];exact h1
   · subst h0
     rw [zeL rd (hf i (by omega))];exact ⟨rfl,rfl⟩
def zdG (l:List UInt8):List UInt8:=l ++ List.replicate (40 - l.length) 0
def secL (kind:UInt8)(num:Nat)(data:List UInt8):List UInt8:=kind :: (leB 4 num ++ (leB 2 data.length ++ data))
theorem zju (kind:UInt8)(num:Nat)(data:List UInt8):(secL kind num data).length=data.length+7:=by simp [secL,zaT];omega
theorem zh1 (kind:UInt8)(num:Nat)(data:List UInt8)(h:data.length≤33):zfr num (zdG (secL kind num data))=some (kind,data):=by
 have e1:(zdG (secL kind num data)).drop 1=leB 4 num ++ (leB 2 data.length ++ (data ++ List.replicate (40 - (secL kind num data).length) 0)):=by simp [zdG,secL]
 have e5:(zdG (secL kind num data)).drop 5=leB 2 data.length ++ (data ++ List.replicate (40 - (secL kind num data).length) 0):=by
  rw [show 5=1+4 from rfl,← List.drop_drop,e1,List.drop_append,zaT];simp [zaT]
 have e7:(zdG (secL kind num data)).drop 7=data ++ List.replicate (40 - (secL kind num data).length) 0:=by
  rw [show 7=5+2 from rfl,← List.drop_drop,e5,List.drop_append,zaT];simp [zaT]
 have t1:((zdG (secL kind num data)).drop 1).take 4=leB 4 num:=by
  rw [e1,List.take_append_of_le_length (by rw [zaT];omega),List.take_of_length_le (by rw [zaT];omega)]
 have t5:ofLE (((zdG (secL kind num data)).drop 5).take 2)=data.length:=by
  rw [e5,List.take_append_of_le_length (by rw [zaT];omega),List.take_of_length_le (by rw [zaT];omega),zgb];omega
 have t0:(zdG (secL kind num data)).headD 0=kind:=by simp [zdG,secL]
 unfold zfr;rw [t1,t5,t0,e7,if_pos ⟨rfl,h⟩,List.take_append_of_le_length (by omega),List.take_of_length_le (by omega)]
def zeC (enc:C→List UInt8)(first:Nat):Nat→List C→Nat→List (List UInt8)
 | i,[],n=>[zdG (secL 99 (first+i) (leB 4 n))]
 | i,c :: l,n=>zdG (secL 111 (first+i) (enc c)) :: zeC enc first (i+1) l n
theorem zfS (enc:C→List UInt8)(first:Nat):∀ (l:List C) (i n:Nat),(zeC enc first i l n).length=l.length+1
 | [],i,n=>rfl
 | c :: l,i,n=>by simp [zeC,zfS enc first l]
variable {enc:C→List UInt8}
theorem zje (first:Nat):∀ (l:List C) (i:Nat) (st:Pl C) (x:List (List UInt8)),(∀ c ∈ l,rd (enc c)=some c∧(enc c).length≤33) →
 runL rd first i st (zeC enc first i l (st.opn.length+l.length) ++ x)=runL rd first (i+l.length+1) ⟨st.deeds ++ [st.opn ++ l],[],i+l.length+1⟩ x
 | [],i,st,x,_=>by
   simp only [zeC,List.length_nil,Nat.add_zero,List.singleton_append,List.append_nil]
   have:zef rd first i st (zdG (secL 99 (first+i) (leB 4 st.opn.length)))=some ⟨st.deeds ++ [st.opn],[],i+1⟩:=by
    have h4:(leB 4 st.opn.length).length≤33:=by rw [zaT];omega
    simp [zef,zh1 99 (first+i) _ h4]
   simp [runL,this]
 | c :: l,i,st,x,h=>by
   obtain ⟨h1,h2⟩:=h c (by simp)
   have hs:zef rd first i st (zdG (secL 111 (first+i) (enc c)))=some ⟨st.deeds,st.opn ++ [c],st.used⟩:=by
    simp [zef,zh1 _ _ _ h2,h1]
   have ih:=zje first l (i+1) ⟨st.deeds,st.opn ++ [c],st.used⟩ x (fun y hy=>h y (List.mem_cons_of_mem _ hy));simp only [zeC,List.cons_append,runL,hs,List.length_cons];have e1:(st.opn ++ [c]).length+l.length=st.opn.length+(l.length+1):=by simp;omega
   simp only [e1] at ih;rw [ih,List.append_assoc,List.singleton_append,show i+1+l.length+1=i+(l.length+1)+1 by omega]
theorem zmJ (first:Nat) (hf:∀ i,i<1000→¬ (first+i) % 4294967296=0):∀ (l:List C) (i n:Nat) (st:Pl C) (y x:List (List UInt8)),(∀ c ∈ l,rd (enc c)=some c∧(enc c).length≤33)→i+l.length<1000→n=st.opn.length+l.length→y.length=l.length+1 →
 (∀ k (h:k<y.length) (h2:k<(zeC enc first i l n).length),y[k]=(zeC enc first i l n)[k]∨y[k]=blank)→(∃ k,∃ h:k<y.length,y[k]=blank)→(runL rd first i st (y ++ x)).used=st.used∧(runL rd first i st (y ++ x)).deeds=st.deeds
 | [],i,n,st,[z],x,_,hi,hn,hl,hy,⟨k,hk,hb⟩=>by
   have e:k=0:=by simpa using hk
   subst e;simp only [List.getElem_cons_zero] at hb;subst hb;rw [List.singleton_append,zeL rd (hf i (by simp at hi;omega))];exact ⟨rfl,rfl⟩
 | c :: l,i,n,st,z :: q,x,hc,hi,hn,hl,hy,⟨k,hk,hb⟩=>by
   simp only [List.length_cons] at hi hl hn;rw [List.cons_append];have h0:=hy 0 (by simp) (by simp [zeC]);simp only [List.getElem_cons_zero,zeC] at h0;obtain ⟨h1,h2⟩:=hc c (by simp)
   by_cases hz:z=blank
   · subst hz
     rw [zeL rd (hf i (by omega))];exact ⟨rfl,rfl⟩
   · have h0:z=zdG (secL 111 (first+i) (enc c)):=by
      rcases h0 with h | h
      · exact h
      · exact absurd h hz
     have hs:zef rd first i st z=some ⟨st.deeds,st.opn ++ [c],st.used⟩:=by
      rw [h0];simp [zef,zh1 _ _ _ h2,h1]
     have ih:=zmJ first hf l (i+1) n ⟨st.deeds,st.opn ++ [c],st.used⟩ q x (fun y hy=>hc y (List.mem_cons_of_mem _ hy)) (by omega) (by simp;omega) (by omega)
      (fun k h h2=>by have:=hy (k+1) (by simpa using h) (by simpa [zeC] using h2);simpa only [List.getElem_cons_succ,zeC] using this)
      (by
        cases k with
        | zero=>exact absurd (by simpa using hb) hz
        | succ k=>exact ⟨k,by simpa using hk,by simpa using hb⟩)
     simp only [runL,hs];exact ih
end
end Go.Proofs.YtihnghnafpgdfadGreatDoor
namespace Go.Proofs.YtihnghnafpgdfadGreatDoor
variable {B C a b base few first from' i j k lo lo' m many n num oc size u:Nat}{s t:List UInt8}{L R now y:List (List UInt8)}{W w w' w4 wr wx:World}{p p':Dp}{D d:Dk}{T e:TypeId}{v v' vd vo:Value}{P:List zcn}{c opn:List Ch}{oa:Option Addr}{fr:Nat × Nat}{l:List ByteArray}{z:Int}
def May (wr:List Wr)(kept k:List (List UInt8)):Prop:=k.length=kept.length∧∀ j,k[j]?=kept[j]?∨∃ x ∈ wr,x.spot=j∧k[j]?=some x.data
theorem May.refl (wr:List Wr)(kept:List (List UInt8)):May wr kept kept:=⟨rfl,fun j=>.inl rfl⟩
theorem zhO (keep:Nat):∀ (wr:List Wr) (k:List (List UInt8)),May wr k (zcs keep wr k)
 | [],k=>May.refl _ _
 | x :: l, k=>by
   obtain ⟨h1,h2⟩:=zhO keep l (if zjR keep x.bit=true then k.set x.spot x.data else k);refine ⟨?_,fun j=>?_⟩
   · rw [zcs,h1];split <;> simp
   · rw [zcs]
     rcases h2 j with h | ⟨y,hy,e,h⟩
     · rw [h]
       split
       · by_cases e:x.spot=j
         · subst e
           by_cases hl:x.spot<k.length
           · exact .inr ⟨x,by simp,rfl,by simp [hl]⟩
           · exact .inl (by simp [hl])
         · exact .inl (by simp [e])
       · exact .inl rfl
     · exact .inr ⟨y,List.mem_cons_of_mem _ hy,e,h⟩
def zgt (now:List (List UInt8))(at':Nat):List (List UInt8)→List (List UInt8)
 | []=>now
 | s :: r=>zgt (now.set at' s) (at'+1) r
theorem zbx:∀ (l:List (List UInt8)) (now:List (List UInt8)) (a:Nat),(zgt now a l).length=now.length
 | [],_,_=>rfl
 | s :: r,now,a=>by rw [zgt,zbx r];simp
theorem zgo:∀ (l:List (List UInt8)) (now:List (List UInt8)) (a j:Nat),a+l.length≤now.length→(zgt now a l)[j]?=if a≤j∧j<a+l.length then l[j - a]? else now[j]?
 | [],now,a,j,h=>by
   rw [zgt,if_neg];simp <;> omega
 | s :: r,now,a,j,h=>by
   simp only [List.length_cons] at h;rw [zgt,zgo r (now.set a s) (a+1) j (by simp;omega)]
   by_cases h1:a+1≤j∧j<a+1+r.length
   · rw [if_pos h1,if_pos (by simp;omega)]
     obtain ⟨i,rfl⟩:∃ i,j=a+1+i:=⟨j - (a+1),by omega⟩
     rw [show a+1+i - (a+1)=i by omega,show a+1+i - a=i+1 by omega,List.getElem?_cons_succ]
   · rw [if_neg h1]
     by_cases h2:j=a
     · subst h2
       rw [if_pos (by simp)];simp [show j<now.length by omega]
     · rw [if_neg (by simp;omega),List.getElem?_set_ne (Ne.symm h2)]
structure zdt (d:Dk):Prop where
 kept:d.kept=d.now
 wr:d.wr=[]
 up:d.down=false
structure Fell (d:Dk)(S:List (List UInt8)→Prop):Prop where
 down:d.down=true
 may:∀ keep,S (zcs keep d.wr d.kept)
def zap:Dk→Nat→List ByteArray→Dk × Int
 | d,_,[]=>(d,0)
 | d,a,s :: r=>if zcd d a s=0 then zap (zaN d a s) (a+1) r else (zaN d a s,zcd d a s)
def layD (d:Dk)(a:Nat)(l:List ByteArray):Dk × Int :=
 if (zap d a l).2=0 then (zaO (zap d a l).1,zb1 (zap d a l).1) else zap d a l
def zkf (now:List (List UInt8))(a:Nat)(l:List (List UInt8))(k:List (List UInt8)):Prop :=
 k.length=now.length∧∀ j,k[j]?=now[j]?∨a≤j∧j<a+l.length∧k[j]?=l[j - a]?
theorem ze0 (d:Dk)(h:d.down=false):(zb1 d=8∧d.left=0∧zaK d={ d with down:=true })∨(zb1 d=0∧d.left≠0∧(zaK d).now=d.now∧(zaK d).kept=d.kept∧(zaK d).wr=d.wr∧(zaK d).bit=d.bit∧(zaK d).down=false∧(zaK d).left=if 0<d.left then d.left - 1 else d.left):=by
 unfold zb1 zaK
 by_cases h0:d.left=0
 · exact .inl (by simp [h0])
 · refine .inr ?_
   by_cases h1:0<d.left
   · simp [h,h0,h1]
   · simp [h,h0,h1]
structure zuF (d0 d:Dk)(a:Nat)(l:List (List UInt8)):Prop where
 kept:d.kept=d0.kept
 up:d.down=false
 now:d.now=zgt d0.now a l
 wr:d.wr.length=d0.wr.length+l.length∧∀ x ∈ d.wr,x ∈ d0.wr∨a≤x.spot∧x.spot<a+l.length∧l[x.spot - a]?=some x.data
theorem zgU:∀ (l:List ByteArray) (d:Dk) (a:Nat),d.down=false→a+l.length≤d.now.length→(∀ s ∈ l,s.size≤40) →
 ((zap d a l).2=0∧zuF d (zap d a l).1 a (l.map padD)∧(d.left<0→(zap d a l).1.left=d.left)) ∨
 ((zap d a l).2=8∧0≤d.left∧(zap d a l).1.down=true∧(zap d a l).1.kept=d.kept∧∀ x ∈ (zap d a l).1.wr,x ∈ d.wr∨a≤x.spot∧x.spot<a+l.length∧(l.map padD)[x.spot - a]?=some x.data)
 | [],d,a,hd,_,_=>.inl ⟨rfl,⟨rfl,hd,rfl,by simp [zap],fun x hx=>.inl hx⟩,fun _=>rfl⟩
 | s :: r, d,a,hd,hl,hs=>by
   simp only [List.length_cons] at hl
   have hgood:¬ (¬ (0≤(a:Int)∧(a:Int)<(d.now.length:Int))∨40<s.size):=by
    have:=hs s (by simp);omega
   have e1:zcd d a s=zb1 d:=by unfold zcd;rw [if_neg hgood]
   rcases ze0 d hd with ⟨h8,hl0,hst⟩ | ⟨h0,hl0,hnow,hkept,hwr,hbit,hdn,hleft⟩
   · right
     have e2:zaN d a s=zaK d:=by unfold zaN;rw [if_neg hgood,if_neg (by rw [h8];decide)]
     have e3:zap d a (s :: r)=(zaK d,8):=by rw [zap,e1,if_neg (by rw [h8];decide),e2,h8]
     rw [e3,hst];exact ⟨rfl,by omega,rfl,rfl,fun x hx=>.inl hx⟩
   · have e2 : zaN d a s={ zaK d with now:=d.now.set a (padD s),wr:=d.wr ++ [⟨a,d.bit,padD s⟩],bit:=(d.bit+1) % 64 }:=by unfold zaN;rw [if_neg hgood,if_pos h0];rfl
     have e3:zap d a (s :: r)=zap (zaN d a s) (a+1) r:=by rw [zap,e1,if_pos h0]
     have hwl:(zaN d a s).left=if 0<d.left then d.left - 1 else d.left:=by rw [e2];exact hleft
     rw [e3];rcases zgU r (zaN d a s) (a+1) (by rw [e2];exact hdn) (by rw [e2];simp;omega) (fun x hx=>hs x (List.mem_cons_of_mem _ hx)) with ⟨k0,km,kl⟩ | ⟨k8,kf,kd,kk,kw⟩
     · left
       refine ⟨k0,⟨?_,km.up,?_,?_,?_⟩,fun hneg=>?_⟩
       · rw [km.kept,e2];exact hkept
       · rw [km.now,e2];rfl
       · rw [km.wr.1,e2];simp;omega
       · intro x hx
         rcases km.wr.2 x hx with h | ⟨h1,h2,h3⟩
         · rw [e2] at h
           simp at h;rcases h with h | h
           · exact .inl h
           · subst h
             exact .inr ⟨Nat.le_refl _,by simp,by simp⟩
         · refine .inr ⟨by omega,by simp at h2 ⊢;omega,?_⟩
           rw [show x.spot - a=(x.spot - (a+1))+1 by omega]
           simpa using h3
       · rw [kl (by rw [hwl,if_neg (by omega)];exact hneg),hwl,if_neg (by omega)]
     · right
       refine ⟨k8,by rw [hwl] at kf;split at kf <;> omega,kd,by rw [kk,e2];exact hkept,fun x hx=>?_⟩;rcases kw x hx with h | ⟨h1,h2,h3⟩
       · rw [e2] at h
         simp at h;rcases h with h | h
         · exact .inl h
         · subst h
           exact .inr ⟨Nat.le_refl _,by simp,by simp⟩
       · refine .inr ⟨by omega,by simp at h2 ⊢;omega,?_⟩
         rw [show x.spot - a=(x.spot - (a+1))+1 by omega]
         simpa using h3
theorem znp {wr:List Wr}{now k:List (List UInt8)}{l:List (List UInt8)}(h:May wr now k)(hw:∀ x ∈ wr,a≤x.spot∧x.spot<a+l.length∧l[x.spot - a]?=some x.data):zkf now a l k :=
 ⟨h.1,fun j=>by
  rcases h.2 j with e | ⟨x,hx,rfl,e⟩
  · exact .inl e
  · obtain ⟨h1,h2,h3⟩:=hw x hx
    exact .inr ⟨h1,h2,by rw [e,h3]⟩⟩
theorem zhu (d:Dk) (a:Nat) (l:List ByteArray) (hc:zdt d) (hl:a+l.length≤d.now.length) (hs:∀ s ∈ l,s.size≤40) :
 ((layD d a l).2=0∧zdt (layD d a l).1∧(layD d a l).1.now=zgt d.now a (l.map padD)∧(d.left<0→(layD d a l).1.left=d.left)) ∨
 ((layD d a l).2=8∧0≤d.left∧Fell (layD d a l).1 (zkf d.now a (l.map padD))):=by
 unfold layD;rcases zgU l d a hc.up hl hs with ⟨k0,km,kl⟩ | ⟨k8,kf,kd,kk,kw⟩
 · rw [if_pos k0]
   rcases ze0 _ km.up with ⟨h8,hl0,hst⟩ | ⟨h0,hl0,hnow,hkept,hwr,hbit,hdn,hleft⟩
   · right
     have e:zaO (zap d a l).1=zaK (zap d a l).1:=by unfold zaO;rw [if_neg (by rw [h8];decide)]
     have hneg:¬ d.left<0:=fun h=>by have:=kl h;omega
     simp only [e,hst];refine ⟨h8,by omega,⟨rfl,fun keep=>?_⟩⟩;show zkf _ _ _ (zcs keep (zap d a l).1.wr (zap d a l).1.kept);have:=zhO keep (zap d a l).1.wr (zap d a l).1.kept;rw [km.kept,hc.kept] at this
     rw [km.kept,hc.kept];refine znp this (fun x hx=>?_)
     rcases km.wr.2 x hx with h | h
     · rw [hc.wr] at h;simp at h
     · exact h
   · left
     have e:zaO (zap d a l).1={ zaK (zap d a l).1 with kept:=(zap d a l).1.now,wr:=[],bit:=0 }:=by unfold zaO;rw [if_pos h0]
     simp only [e];refine ⟨h0,⟨?_,rfl,hdn⟩,?_,fun hneg=>?_⟩
     · exact hnow.symm
     · rw [← km.now];exact hnow
     · show (zaK (zap d a l).1).left=d.left
       rw [hleft,kl hneg,if_neg (by omega)]
 · right
   rw [if_neg (by rw [k8];decide)];refine ⟨k8,kf,⟨kd,fun keep=>?_⟩⟩;have:=zhO keep (zap d a l).1.wr (zap d a l).1.kept;rw [kk,hc.kept] at this
   rw [kk,hc.kept];refine znp this (fun x hx=>?_)
   rcases kw x hx with h | h
   · rw [hc.wr] at h;simp at h
   · simpa using h
end Go.Proofs.YtihnghnafpgdfadGreatDoor
namespace Go.Proofs.YtihnghnafpgdfadGreatDoor
variable {B C a b base few first from' i j k lo lo' m many n num oc size u:Nat}{s t:List UInt8}{L R now y:List (List UInt8)}{W w w' w4 wr wx:World}{p p':Dp}{D d:Dk}{T e:TypeId}{v v' vd vo:Value}{P:List zcn}{c opn:List Ch}{oa:Option Addr}{fr:Nat × Nat}{l:List ByteArray}{z:Int}
def zao (now:List (List UInt8))(from' many:Nat):List (List UInt8):=(now.drop from').take many
theorem zaU (h:from'+many≤now.length):(zao now from' many).length=many:=by simp [zao];omega
theorem za8:(zao now from' many)[j]?=if j<many then now[from'+j]? else none:=by
 simp only [zao,List.getElem?_take,List.getElem?_drop]
theorem zek (h:from'+many≤now.length) (hu:u+L.length≤many):
 zao (zgt now (from'+u) L) from' many=(zao now from' many).take u ++ (L ++ (zao now from' many).drop (u+L.length)):=by
 apply List.ext_getElem?
 intro j;have hR:=zaU h;rw [za8,zgo _ _ _ _ (by omega),List.getElem?_append,List.getElem?_append,List.length_take,hR,List.getElem?_take,List.getElem?_drop,za8,za8]
 by_cases h1:j<u
 · rw [if_pos (show j<many by omega),if_neg (by omega),if_pos (by omega),if_pos h1,if_pos (by omega)]
 · by_cases h2:j<u+L.length
   · rw [if_pos (show j<many by omega),if_pos (by omega),if_neg (by omega),if_pos (by omega)]
     congr 1;omega
   · by_cases h3:j<many
     · rw [if_pos h3,if_neg (by omega),if_neg (by omega),if_neg (by omega),if_pos (by omega)]
       congr 1;omega
     · rw [if_neg h3,if_neg (by omega),if_neg (by omega),if_neg (by omega)]
theorem zg6 {now L k:List (List UInt8)} (h:from'+many≤now.length) (hu:u+L.length≤many) (hm:zkf now (from'+u) L k):
 ∃ y,y.length=L.length∧zao k from' many=(zao now from' many).take u ++ (y ++ (zao now from' many).drop (u+L.length))∧∀ i (h1:i<y.length),y[i]?=(zao now from' many)[u+i]?∨y[i]?=L[i]?:=by
 obtain ⟨hk,hm⟩:=hm;have hR:=zaU h;have hK:(zao k from' many).length=many:=zaU (by omega);refine ⟨((zao k from' many).drop u).take L.length,by simp [hK];omega,?_,fun i hi=>?_⟩
 · apply List.ext_getElem?
   intro j;rw [List.getElem?_append,List.getElem?_append,List.length_take,hR,List.length_take,List.length_drop,hK];simp only [List.getElem?_take,List.getElem?_drop,za8]
   by_cases h1:j<u
   · rw [if_pos (show j<many by omega),if_pos h1,if_pos (show j<many by omega),if_pos (show j<min u many by omega)]
     rcases hm (from'+j) with e | e
     · rw [e]
     · omega
   · by_cases h2:j<u+L.length
     · rw [if_neg (show ¬ j<min u many by omega),if_pos (show j - min u many<min L.length (many - u) by omega),if_pos (show j<many by omega),if_pos (show j - min u many<L.length by omega),if_pos (show u+(j - min u many)<many by omega)]
       congr 1;omega
     · by_cases h3:j<many
       · rw [if_neg (show ¬ j<min u many by omega),if_neg (show ¬ j - min u many<min L.length (many - u) by omega),if_pos h3,if_pos (show u+L.length+(j - min u many - min L.length (many - u))<many by omega)]
         rcases hm (from'+j) with e | e
         · rw [e];congr 1;omega
         · omega
       · rw [if_neg (show ¬ j<min u many by omega),if_neg (show ¬ j - min u many<min L.length (many - u) by omega),if_neg h3,if_neg (show ¬ u+L.length+(j - min u many - min L.length (many - u))<many by omega)]
 · have hi2:i<L.length:=by simp [hK] at hi;omega
   simp only [List.getElem?_take,List.getElem?_drop,za8];rw [if_pos hi2,if_pos (show u+i<many by omega),if_pos (show u+i<many by omega)];rcases hm (from'+(u+i)) with e | ⟨_,_,e⟩
   · exact .inl e
   · refine .inr ?_
     rw [e];congr 1;omega
section
variable {C:Type} (rd:List UInt8→Option C)
def zcv (now:List (List UInt8))(from' many first:Nat):List (List C) × Nat:=zaH rd first (zao now from' many)
theorem zlz (h:from'+many≤now.length):(zcv rd now from' many first).2≤many:=by
 have:=zqG rd first (zao now from' many)
 rwa [zaU h] at this
theorem zjL {D:List (List C)}(h:zaH rd first R=(D,u)):zaH rd first (R.take u ++ y)=((runL rd first u ⟨D,[],u⟩ y).deeds,(runL rd first u ⟨D,[],u⟩ y).used):=by
 have:=zij rd first R y;rw [h] at this
 simp only at this
 simp only [zaH,this]
def zlU (first:Nat):Prop:=∀ i,i<1000→¬ (first+i) % 4294967296=0
theorem zl4 (h1:1≤first)(h2:first≤4000000000):zlU first:=fun i hi=>by omega
variable {enc:C→List UInt8}
theorem znI {now k:List (List UInt8)}{D:List (List C)}(hf:zlU first)(hmany:many≤1000)(h:from'+many≤now.length)(hu:u+m≤many)(hlog:zcv rd now from' many first=(D,u))
 (hk:zkf now (from'+u) (List.replicate m blank) k):zcv rd k from' many first=(D,u):=by
 obtain ⟨y,hy,hreg,hyi⟩:=zg6 h (by simpa using hu) hk;have hR:=zaU h;unfold zcv at hlog ⊢;rw [hreg,zjL rd hlog];have hrest:=zmM rd first (zao now from' many);rw [hlog] at hrest;simp only [List.length_replicate] at hy hreg ⊢
 have:=zid rd first hf ((zao now from' many).drop u) (y ++ (zao now from' many).drop (u+m)) u ⟨D,[],u⟩ (by simp [hR];omega) (by simp [hR];omega) (fun i h1 h2=>by
  simp only [List.length_drop,hR] at h1
  by_cases hlt:i<m
  · have:=hyi i (by omega)
    rw [List.getElem_append_left (by omega)];rw [List.getElem?_eq_getElem (by omega),List.getElem?_eq_getElem (by omega),List.getElem?_replicate,if_pos hlt] at this
    simpa using this
  · left
    rw [List.getElem_append_right (by omega)];simp only [List.getElem_drop]
    congr 1;omega) hrest
 rw [this.1,this.2]
theorem zp0 {now k:List (List UInt8)}{D:List (List C)}{c:List C}(hf:zlU first)(hmany:many≤1000)(h:from'+many≤now.length)(hm:m=min (c.length+2) (many - u))(hu:u+c.length+1≤many)(hlog:zcv rd now from' many first=(D,u))
 (hc:∀ x ∈ c,rd (enc x)=some x∧(enc x).length≤33)
 (hk:zkf (zgt now (from'+u) (List.replicate m blank)) (from'+u) (zeC enc first u c c.length) k):zcv rd k from' many first=(D,u)∨zcv rd k from' many first=(D ++ [c],u+c.length+1):=by
 have hR:=zaU h;have hdl:=zfS enc first c u c.length;obtain ⟨y,hy,hreg,hyi⟩:=zg6 (by rw [zbx];exact h) (by rw [hdl];omega) hk;rw [zek h (by simp;omega),hdl,List.length_replicate] at hreg;rw [hdl] at hy
 have t1:((zao now from' many).take u ++ (List.replicate m blank ++ (zao now from' many).drop (u+m))).take u=(zao now from' many).take u:=by
  rw [List.take_append_of_le_length (by simp [hR];omega),List.take_take,Nat.min_self]
 have t2:((zao now from' many).take u ++ (List.replicate m blank ++ (zao now from' many).drop (u+m))).drop (u+(c.length+1))=List.replicate (m - (c.length+1)) blank ++ (zao now from' many).drop (u+m):=by
  rw [List.drop_append,List.length_take,hR,List.drop_eq_nil_of_le (by simp [hR];omega),List.nil_append,show u+(c.length+1) - min u many=c.length+1 by omega,List.drop_append_of_le_length (by simp;omega),List.drop_replicate]
 rw [t1,t2] at hreg
 have hyi2:∀ i (h1:i<y.length) (h2:i<(zeC enc first u c c.length).length),y[i]=(zeC enc first u c c.length)[i]∨y[i]=blank:=by
  intro i h1 h2;have:=hyi i h1;rw [zek h (by simp;omega),List.getElem?_append_right (by simp [hR];omega),List.length_take,hR,List.getElem?_append_left (by simp;omega),List.getElem?_replicate,if_pos (by omega),List.getElem?_eq_getElem h1,List.getElem?_eq_getElem h2] at this
  rcases this with e | e
  · right;simpa using e
  · left;simpa using e
 unfold zcv at hlog ⊢;rw [hreg,zjL rd hlog]
 by_cases hb:∃ i,∃ h1:i<y.length,y[i]=blank
 · left
   have:=zmJ (enc:=enc) rd first hf c u c.length ⟨D,[],u⟩ y (List.replicate (m - (c.length+1)) blank ++ (zao now from' many).drop (u+m)) hc (by omega) (by simp) (by omega) hyi2 hb;rw [this.1,this.2]
 · right
   have e:y=zeC enc first u c c.length:=List.ext_getElem (by rw [hy,hdl]) (fun i h1 h2=>by
    rcases hyi2 i h1 h2 with e | e
    · exact e
    · exact absurd ⟨i,h1,e⟩ hb)
   rw [e];have hrun:=zje (enc:=enc) rd first c u ⟨D,[],u⟩ (List.replicate (m - (c.length+1)) blank ++ (zao now from' many).drop (u+m)) hc;simp only [List.length_nil,Nat.zero_add,List.nil_append] at hrun;rw [hrun]
   by_cases h1:m=c.length+1
   · have e2:(zao now from' many).drop (u+m)=[]:=List.drop_eq_nil_of_le (by rw [hR];omega)
     rw [e2,h1,Nat.sub_self]
     rfl
   · have e2:m - (c.length+1)=0+1:=by omega
     rw [e2,List.replicate_succ,List.cons_append,zeL rd (hf _ (by omega))]
theorem zi9 (now:List (List UInt8))(a:Nat)(L:List (List UInt8))(h:a+L.length≤now.length):zkf now a L (zgt now a L):=by
 refine ⟨zbx _ _ _,fun j=>?_⟩;rw [zgo _ _ _ _ h]
 split
 · rename_i h1;exact .inr ⟨h1.1,h1.2,rfl⟩
 · exact .inl rfl
theorem zpI {D:List (List C)}{c:List C}(hf:zlU first)(hmany:many≤1000)(h:from'+many≤now.length)(hm:m=min (c.length+2) (many - u))(hu:u+c.length+1≤many)(hlog:zcv rd now from' many first=(D,u))
 (hc:∀ x ∈ c,rd (enc x)=some x∧(enc x).length≤33) :
 zcv rd (zgt (zgt now (from'+u) (List.replicate m blank)) (from'+u) (zeC enc first u c c.length)) from' many first=(D ++ [c],u+c.length+1):=by
 have hR:=zaU h;have hdl:=zfS enc first c u c.length;unfold zcv at hlog ⊢;rw [zek (by rw [zbx];exact h) (by rw [hdl];omega),zek h (by simp;omega),hdl,List.length_replicate]
 have t1:((zao now from' many).take u ++ (List.replicate m blank ++ (zao now from' many).drop (u+m))).take u=(zao now from' many).take u:=by
  rw [List.take_append_of_le_length (by simp [hR];omega),List.take_take,Nat.min_self]
 have t2:((zao now from' many).take u ++ (List.replicate m blank ++ (zao now from' many).drop (u+m))).drop (u+(c.length+1))=List.replicate (m - (c.length+1)) blank ++ (zao now from' many).drop (u+m):=by
  rw [List.drop_append,List.length_take,hR,List.drop_eq_nil_of_le (by simp [hR];omega),List.nil_append,show u+(c.length+1) - min u many=c.length+1 by omega,List.drop_append_of_le_length (by simp;omega),List.drop_replicate]
 rw [t1,t2,zjL rd hlog];have hrun:=zje (enc:=enc) rd first c u ⟨D,[],u⟩ (List.replicate (m - (c.length+1)) blank ++ (zao now from' many).drop (u+m)) hc;simp only [List.length_nil,Nat.zero_add,List.nil_append] at hrun;rw [hrun]
 by_cases h1:m=c.length+1
 · have e2:(zao now from' many).drop (u+m)=[]:=List.drop_eq_nil_of_le (by rw [hR];omega)
   rw [e2,h1,Nat.sub_self]
   rfl
 · have e2:m - (c.length+1)=0+1:=by omega
   rw [e2,List.replicate_succ,List.cons_append,zeL rd (hf _ (by omega))]
end
end Go.Proofs.YtihnghnafpgdfadGreatDoor
namespace Go.Proofs.YtihnghnafpgdfadGreatDoor
open Go.RowKit
variable {B C a b base few first from' i j k lo lo' m many n num oc size u:Nat}{s t:List UInt8}{L R now y:List (List UInt8)}{W w w' w4 wr wx:World}{p p':Dp}{D d:Dk}{T e:TypeId}{v v' vd vo:Value}{P:List zcn}{c opn:List Ch}{oa:Option Addr}{fr:Nat × Nat}{l:List ByteArray}{z:Int}
def baL (s:List UInt8):ByteArray:=⟨s.toArray⟩
theorem za3 (s:List UInt8):(baL s).size=s.length:=by simp [baL,ByteArray.size]
theorem zab.far (h:zab w p d)(hk:∀ k,(k=p.B∨k=p.gn∨k=p.gk∨p.wv.ownBlock=some k)→w'.heap[k]?=w.heap[k]?):zab w' p d :=
 ⟨by rw [hk _ (.inl rfl)];exact h.blk,by rw [hk _ (.inr (.inl rfl))];exact h.now,by rw [hk _ (.inr (.inr (.inl rfl)))];exact h.kept,h.snow,h.skept,h.lens,h.few,zaj h.wr (fun g hg=>hk g (.inr (.inr (.inr hg)))),h.swr,h.bits,h.low,h.ne1,h.ne2,h.ne3,h.ne4,h.ne5,h.ne6,h.lo1,h.lo2,h.lo3,h.idle⟩
theorem Tryz.infoByte:(Tryz.prog.info? 5).map (fun i=>(i.zero,i.size,i.bytes))=some (some (.int .u8 0),1,1):=by kernel_rfl
theorem zql (n:Nat):madeCells #[.int .u8 0] n=(List.replicate n (Value.int .u8 0)).toArray:=by
 apply Array.ext
 · simp [madeCells]
 · intro k h1 h2
   simp [madeCells,Nat.mod_one]
theorem zcz {xs:List Value}(h:w.ownsRow base e size v n xs):∃ a c,v=.slice a n c:=by
 rcases h.2 with ⟨e1,h0⟩ | ⟨g,cap,cur,e1,_⟩
 · exact ⟨none,0,by rw [e1,h0]⟩
 · exact ⟨_,_,e1⟩
theorem ztP:∀ (m n k:Nat),k<m→(leB m n)[k]?=some (UInt8.ofNat (n / 256 ^ k % 256))
 | m+1,n,0,_=>by simp [leB]
 | m+1,n,k+1,h=>by
   have:=ztP m (n / 256) k (by omega);simp only [leB,List.getElem?_cons_succ,this];rw [Nat.div_div_eq_div_mul,Nat.pow_succ,Nat.mul_comm 256]
def leTo (m n k:Nat):List UInt8:=(leB m n).take k ++ List.replicate (m - k) 0
theorem zrs (m n:Nat):leTo m n 0=List.replicate m 0:=by simp [leTo]
theorem ztq (m n:Nat):leTo m n m=leB m n:=by
 have:=zaT m n;simp [leTo,List.take_of_length_le (Nat.le_of_eq this)]
theorem znY (m n k:Nat)(h:k≤m):(leTo m n k).length=m:=by
 have:=zaT m n;simp [leTo];omega
theorem zts (m n k:Nat)(h:k<m):(leTo m n k).set k (UInt8.ofNat (n / 256 ^ k % 256))=leTo m n (k+1):=by
 have hl:=zaT m n;have hk:k<(leB m n).length:=by omega
 have e:(leB m n)[k]=UInt8.ofNat (n / 256 ^ k % 256):=by
  have:=ztP m n k h;rw [List.getElem?_eq_getElem hk] at this
  exact Option.some.inj this
 unfold leTo;rw [List.set_append,if_neg (by simp;omega),List.take_succ_eq_append_getElem hk,e,List.append_assoc]
 congr 1
 rw [show k - ((leB m n).take k).length=0 by simp;omega,show m - k=(m - (k+1))+1 by omega,List.replicate_succ];simp
theorem zqD (l:List UInt8)(k:Nat)(b:UInt8):(zaI l).set k (.int .u8 (b.toNat:Int))=zaI (l.set k b):=by
 simp [zaI,List.map_set]
theorem zeo (n many:Nat) (w:World) (hn:n<18446744073709551616) (hm:many≤8) :
 Calls Tryz.prog 158 #[.int .u64 n,.int .i64 many] w fun e w'=>e=.returned (.string (baL (leB many n)))∧Below w.heap.size w w':=by
 have hmk:=fun W=>run_make_row' (P:=Tryz.prog) 115 5 (.int .u8 0) 1 (by kernel_rfl) Tryz.infoByte rfl .i64 .i64 many (by omega) (by omega) W
 go_enter Tryz.func158,Tryz.ntmps158
 go_wp2_with fail
 go_loopg [0,6,11] (many+1) (fun kx vn v6 vi wr=>∃ k x:Nat,vn=.int .u64 x∧vi=.int .i64 k∧k≤many∧many - k≤kx∧Hid (x=n / 256 ^ k)∧x<18446744073709551616∧Hid (wr.heap[w.heap.size]?=some (.cells (zaI (leTo many n k)).toArray 5 (0,0)))∧Hid (Below w.heap.size w wr))
 case atStart =>
  refine ⟨0,n,rfl,rfl,by omega,by omega,(by simp:n=n / 256 ^ 0),hn,?_,(Below.refl _ _).alloc (Nat.le_refl _) _⟩;have e:(zaI (leTo many n 0)).toArray=madeCells #[.int .u8 0] many:=by rw [zrs,zql];simp [zaI]
  rw [e];exact heap_alloc_new w (.cells (madeCells #[.int .u8 0] many) 5)
 case round =>
  obtain ⟨k,x,rfl,rfl,hk,hkx,HX,hx,HW,HB⟩:=hrel;have hl:=znY many n k hk
  by_cases hlt:k<many
  · have hltz:(k:Int)<(many:Int):=by omega
    have hc:∃ v,wr.cell? ⟨w.heap.size,k,none⟩=some v:=by
     rw [zaa HW.out];exact ⟨(zaI (leTo many n k))[k]'(by rw [zaR];omega),by simp [zaR,hl,hlt]⟩
    obtain ⟨v0,hc⟩:=hc;have hf:wr.frozen? ⟨w.heap.size,k,none⟩=false:=zaE HW.out k
    go_wp2_with fail
    have hs:=zaZ HW.out k (.int .u8 ((x:Int) % 256));have HB2:Hid (Below w.heap.size w (wr.setCell ⟨w.heap.size,k,none⟩ (.int .u8 ((x:Int) % 256)))):=HB.out.setCell (Nat.le_refl _) _
    have HW2:Hid ((wr.setCell ⟨w.heap.size,k,none⟩ (.int .u8 ((x:Int) % 256))).heap[w.heap.size]?=some (.cells (zaI (leTo many n (k+1))).toArray 5 (0,0))):=by
     show _=_;rw [← zts many n k hlt,← zqD,← HX.out];have e:(((UInt8.ofNat (x % 256)).toNat:Nat):Int)=(x:Int) % 256:=by simp
     rw [e]
     simpa using hs
    have HX2:Hid (x / 256=n / 256 ^ (k+1)):=by show _=_;rw [HX.out,Nat.div_div_eq_div_mul,Nat.pow_succ]
    go_roundg (many - (k+1))
    case measure=>omega
    case rel=>exact ⟨k+1,x / 256,congrArg (Value.int .u64) (by omega),by go_num,by omega,Nat.le_refl _,HX2,by omega,HW2,HB2⟩
  · have e:k=many:=by omega
    have hcv:=run_convert_bytes_back (P:=Tryz.prog) wr 115 9 5 ⟨w.heap.size,0,none⟩ many (leB many n) (by kernel_rfl) (by kernel_rfl) (by kernel_rfl) (by
     intro j hj;have hW:=HW.out;rw [e,ztq] at hW;rw [Addr.add_mid,Nat.zero_add,zaa hW];simp [zaI,hj])
    rw [zaT] at hcv;go_wp2;go_ret;exact ⟨rfl,HB.out⟩
theorem zpm (x y:Nat)(hx:x<65536)(hy:y<256):bits .or .u64 ((x:Int) * 256) (IntKind.u64.wrap (y:Int))=((y+256 * x:Nat):Int):=by
 have e1:IntKind.u64.wrap (y:Int)=(y:Int):=by rw [IntKind.wrap_u64];omega
 have k1:(BitVec.ofInt 64 ((x:Int) * 256)).toNat=2 ^ 8 * x:=by rw [BitVec.toNat_ofInt];omega
 have k2:(BitVec.ofInt 64 (y:Int)).toNat=y:=by rw [BitVec.toNat_ofInt];omega
 have key:(BitVec.ofInt 64 ((x:Int) * 256) ||| BitVec.ofInt 64 (y:Int)).toNat=2 ^ 8 * x+y:=by
  rw [BitVec.toNat_or,k1,k2,Nat.two_pow_add_eq_or_of_lt (by omega)]
 rw [e1];show IntKind.u64.wrap ((BitVec.ofInt 64 ((x:Int) * 256) ||| BitVec.ofInt 64 (y:Int)).toNat:Nat)=_;rw [key,IntKind.wrap_u64];omega
theorem zrf (s:ByteArray) (w:World) (hs:s.size=2) :
 Calls Tryz.prog 200 #[.string s] w fun e w'=>e=.returned (.int .u64 (ofLE s.data.toList))∧w'=w:=by
 obtain ⟨a,b,rfl⟩:∃ a b:UInt8,s=⟨#[a,b]⟩:=by
  obtain ⟨⟨l⟩⟩:=s
  match l,hs with
  | [a,b],_=>exact ⟨a,b,rfl⟩
 have ha:=a.toNat_lt;have hb:=b.toNat_lt
 go_enter Tryz.func200,Tryz.ntmps200
 go_wp2_with fail
 go_loopg [3,4] 4 (fun kx vn vi wr=>wr=w∧((vn=.int .u64 0∧vi=.int .i64 1∧3≤kx)∨(vn=.int .u64 (b.toNat:Int)∧vi=.int .i64 0∧2≤kx)∨(vn=.int .u64 ((ofLE [a,b]:Nat):Int)∧vi=.int .i64 (-1)∧1≤kx)))
 case atStart=>exact ⟨rfl,.inl ⟨rfl,rfl,by omega⟩⟩
 case round =>
  obtain ⟨rfl,⟨rfl,rfl,hx⟩ | ⟨rfl,rfl,hx⟩ | ⟨rfl,rfl,hx⟩⟩:=hrel
  · have h1:=zpm 0 b.toNat (by omega) (by omega)
    have HO:Hid (bits .or .u64 0 (IntKind.u64.wrap ((⟨#[a,b]⟩:ByteArray)[1].toNat:Int))=(b.toNat:Int)):=by
     have h2:bits .or .u64 0 (IntKind.u64.wrap (b.toNat:Int))=(b.toNat:Int):=by simpa using h1
     exact h2
    clear h1;go_wp2;rw [HO.out]
    go_roundg 2
    case measure=>omega
    case rel=>exact ⟨rfl,.inr (.inl ⟨rfl,rfl,Nat.le_refl _⟩)⟩
  · have h1:=zpm b.toNat a.toNat (by omega) (by omega)
    have HO:Hid (bits .or .u64 ((b.toNat:Int) * 256) (IntKind.u64.wrap ((⟨#[a,b]⟩:ByteArray)[0].toNat:Int))=((ofLE [a,b]:Nat):Int)):=by
     show _=_;have e:ofLE [a,b]=a.toNat+256 * b.toNat:=by simp [ofLE]
     rw [e];exact h1
    clear h1;go_wp2;rw [HO.out]
    go_roundg 1
    case measure=>omega
    case rel=>exact ⟨rfl,.inr (.inr ⟨rfl,rfl,Nat.le_refl _⟩)⟩
  · go_wp2
    go_ret;exact ⟨rfl,rfl⟩
end Go.Proofs.YtihnghnafpgdfadGreatDoor
namespace Go.Proofs.YtihnghnafpgdfadGreatDoor
open Go.RowKit Go.BigFrame
variable {B C a b base few first from' i j k lo lo' m many n num oc size u:Nat}{s t:List UInt8}{L R now y:List (List UInt8)}{W w w' w4 wr wx:World}{p p':Dp}{D d:Dk}{T e:TypeId}{v v' vd vo:Value}{P:List zcn}{c opn:List Ch}{oa:Option Addr}{fr:Nat × Nat}{l:List ByteArray}{z:Int}
structure Lg where
 dB:Nat
 start:Nat
 many:Nat
 first:Nat
 used:Nat
def zba (w:World)(b:Nat)(g:Lg):Prop:=w.heap[b]?=some (.cells #[.pointer (some ⟨g.dB,0,none⟩),.int .i64 g.start,.int .i64 g.many,.int .i64 g.first,.int .i64 g.used] 208 (0,0))
structure LgOk (g:Lg):Prop where
 start:g.start+g.many≤60
 first:g.first≤4000000
 used:g.used≤g.many
theorem zba.cells {g:Lg}(h:zba w b g):w.cell? ⟨b,0,none⟩=some (.pointer (some ⟨g.dB,0,none⟩))∧w.cell? ⟨b,1,none⟩=some (.int .i64 g.start)∧w.cell? ⟨b,2,none⟩=some (.int .i64 g.many)∧w.cell? ⟨b,3,none⟩=some (.int .i64 g.first)∧w.cell? ⟨b,4,none⟩=some (.int .i64 g.used) :=
 ⟨by rw [zaa h];rfl,by rw [zaa h];rfl,by rw [zaa h];rfl,by rw [zaa h];rfl,by rw [zaa h];rfl⟩
theorem zba.lt {g:Lg}(h:zba w b g):b<w.heap.size:=(Array.getElem?_eq_some_iff.1 h).1
theorem zba.below {g:Lg}(h:zba w b g)(hb:Below w.heap.size w w'):zba w' b g:=by
 have hl:=h.lt;unfold zba at h ⊢;rw [hb.block b hl];exact h
theorem zg7 (b:Nat)(g:Lg)(i:Nat)(w:World)(h:zba w b g)(hf:g.first≤4000000)(hi:i≤1000) :
 Calls Tryz.prog 201 #[.pointer (some ⟨b,0,none⟩),.int .i64 i] w fun e w'=>e=.returned (.string (baL (leB 4 (g.first+i))))∧Below w.heap.size w w':=by
 obtain ⟨c0,c1,c2,c3,c4⟩:=h.cells;have kn:=zeo (g.first+i) 4 w (by omega) (by omega);rw [show ((g.first+i:Nat):Int)=(g.first:Int)+(i:Int) by omega] at kn;have KN:Hid _:=kn;clear kn h
 go_enter Tryz.func201,Tryz.ntmps201
 go_wp2_with fail
 refine Calls.mono KN.out ?_;rintro e w1 ⟨rfl,hb⟩;have HB:Hid _:=hb;clear hb;go_wp2;go_ret;exact ⟨rfl,HB.out⟩
theorem zf6 (n:Nat)(w:World)(hn:n≤1000000) :
 Calls Tryz.prog 166 #[.int .i64 n] w fun e w'=>e=.returned (.string (baL (leB 4 n)))∧Below w.heap.size w w':=by
 have KN:Hid _:=zeo n 4 w (by omega) (by omega)
 go_enter Tryz.func166,Tryz.ntmps166
 go_wp2_with fail
 refine Calls.mono KN.out ?_;rintro e w1 ⟨rfl,hb⟩;have HB:Hid _:=hb;clear hb;go_wp2;go_ret;exact ⟨rfl,HB.out⟩
theorem zhf (s:ByteArray):s.data.toList.length=s.size:=by rw [Array.length_toList];rfl
theorem zbM (s:ByteArray)(a b:Nat):(s.extract a b).data.toList=(s.data.toList.drop a).take (b - a):=by
 rw [ByteArray.data_extract,Array.toList_extract,List.extract_eq_take_drop]
def zcG (num:Nat)(s:List UInt8):ByteArray × ByteArray:=match zfr num s with
 | some (k,t)=>(⟨#[k]⟩,baL t)
 | none=>(⟨#[]⟩,⟨#[]⟩)
theorem zbD (s:ByteArray):s.toList=s.data.toList:=ByteArray.toList_eq s
theorem zku (b:Nat) (g:Lg) (i:Nat) (s:ByteArray) (w:World) (h:zba w b g) (hf:g.first≤4000000) (hi:i≤1000) (hs:s.size=40) :
 Calls Tryz.prog 165 #[.pointer (some ⟨b,0,none⟩),.int .i64 i,.string s] w fun e w'=>e=.returned (.tuple #[.string (zcG (g.first+i) s.data.toList).1,.string (zcG (g.first+i) s.data.toList).2])∧Below w.heap.size w w':=by
 have HL:Hid (zba w b g):=h;clear h;have hz:(s.extract 5 7).size=2:=by simp [ByteArray.size_extract];omega
 have ko:=fun W=>zrf (s.extract 5 7) W hz
 rw [zbM] at ko;have hlt:=zsu ((s.data.toList.drop 5).take (7 - 5));have hl2:((s.data.toList.drop 5).take (7 - 5)).length=2:=by rw [List.length_take,List.length_drop,zhf,hs];rfl
 rw [hl2] at hlt;obtain ⟨n,hn⟩:∃ n,n=ofLE ((s.data.toList.drop 5).take (7 - 5)):=⟨_,rfl⟩
 rw [← hn] at ko hlt;have HN:Hid _:=hn;have KO:Hid (∀ W,Calls _ _ _ W _):=ko;clear ko hn hl2 hz;have some':=zcW.ne w;have KN:Hid (∀ p:zcW w,Calls Tryz.prog 201 #[.pointer (some ⟨b,0,none⟩),.int .i64 i] p.W fun e w'=>e=.returned (.string (baL (leB 4 (g.first+i))))∧Below p.W.heap.size p.W w'):=fun p=>zg7 b g i p.W (HL.out.below p.h) hf hi
 by_cases hnum:(s.extract 1 5)=baL (leB 4 (g.first+i))
 · have hd:((s.extract 1 5).toList != (baL (leB 4 (g.first+i))).toList)=false:=by rw [hnum];simp
   have hnl:(s.data.toList.drop 1).take 4=leB 4 (g.first+i):=by
    have:=congrArg (fun x=>x.data.toList) hnum;simp only [zbM] at this
    simpa [baL] using this
   by_cases h33:n≤33
   · have HW:Hid (zcG (g.first+i) s.data.toList=(s.extract 0 1,s.extract 7 (7+n))):=by
      show _=_;unfold zcG zfr;have hn2:ofLE ((s.data.toList.drop 5).take 2)=n:=HN.out.symm;rw [if_pos ⟨hnl,by rw [hn2];exact h33⟩,hn2];simp only [Prod.mk.injEq];refine ⟨?_,?_⟩
      · apply ByteArray.ext
        apply Array.toList_inj.1
        rw [zbM];have hs2:s.data.toList.length=40:=by rw [zhf,hs]
        match hm:s.data.toList,hs2 with
        | c :: r,_=>simp
      · apply ByteArray.ext
        apply Array.toList_inj.1
        rw [zbM];simp [baL,show 7+n - 7=n by omega]
     have hgt:decide ((33:Int)<(n:Int))=false:=decide_eq_false (by omega);clear hnl;generalize baL (leB 4 (g.first+i))=Z at *
     go_enter Tryz.func165,Tryz.ntmps165
     go_wp2_with fail
     refine Calls.mono (KO.out _) ?_;rintro e w1 ⟨rfl,hw⟩;rw [hw];clear hw w1
     go_wp2_with fail
     refine zbV (by kernel_rfl) (by kernel_rfl) ?_
     repeat (go_big_quiet_step ((go_at_call 201;exact zln _ (KN.out _))))
     refine wpQuiet_nil ?_;rintro _ ⟨p,rfl⟩
     go_wp2_with fail
     obtain ⟨W2,hW2⟩:∃ u,u=p.W:=⟨_,rfl⟩
     have H2:Hid (Below w.heap.size w W2):=by rw [hW2];exact p.h
     rw [← hW2];clear hW2 p;have some2:=zcW.ne W2;refine zbV (by kernel_rfl) (by kernel_rfl) ?_
     repeat (go_big_quiet_step (fail))
     refine wpQuiet_nil ?_;rintro _ ⟨p,rfl⟩;go_wp2;go_ret2;rw [HW.out];exact ⟨rfl,H2.out.trans (p.h.mono H2.out.size)⟩
   · have HW:Hid (zcG (g.first+i) s.data.toList=(⟨#[]⟩,⟨#[]⟩)):=by
      show _=_;unfold zcG zfr;have hn2:ofLE ((s.data.toList.drop 5).take 2)=n:=HN.out.symm;rw [if_neg (by rw [hn2];exact fun h=>h33 h.2)]
     have hgt:decide ((33:Int)<(n:Int))=true:=decide_eq_true (by omega);clear hnl;generalize baL (leB 4 (g.first+i))=Z at *
     go_enter Tryz.func165,Tryz.ntmps165
     go_wp2_with fail
     refine Calls.mono (KO.out _) ?_;rintro e w1 ⟨rfl,hw⟩;rw [hw];clear hw w1
     go_wp2_with fail
     refine zbV (by kernel_rfl) (by kernel_rfl) ?_
     repeat (go_big_quiet_step ((go_at_call 201;exact zln _ (KN.out _))))
     refine wpQuiet_nil ?_;rintro _ ⟨p,rfl⟩;go_wp2;go_ret2;rw [HW.out];exact ⟨rfl,p.h⟩
 · have hd:((s.extract 1 5).toList == (baL (leB 4 (g.first+i))).toList)=false:=by
    rw [beq_eq_false_iff_ne];exact fun h=>hnum (toList_inj h)
   have HW:Hid (zcG (g.first+i) s.data.toList=(⟨#[]⟩,⟨#[]⟩)):=by
    show _=_;unfold zcG zfr
    rw [if_neg (fun h=>hnum (by
     apply ByteArray.ext
     apply Array.toList_inj.1
     rw [zbM]
     simpa [baL] using h.1))]
   have HNN:Hid _:=hnum;clear hnum;generalize baL (leB 4 (g.first+i))=Z at *
   go_enter Tryz.func165,Tryz.ntmps165
   go_wp2_with fail
   refine Calls.mono (KO.out _) ?_;rintro e w1 ⟨rfl,hw⟩;rw [hw];clear hw w1
   go_wp2_with fail
   refine zbV (by kernel_rfl) (by kernel_rfl) ?_
   repeat (go_big_quiet_step ((go_at_call 201;exact zln _ (KN.out _))))
   refine wpQuiet_nil ?_;rintro _ ⟨p,rfl⟩;go_wp2;go_ret2;rw [HW.out];exact ⟨rfl,p.h⟩
theorem zg3 (b:Nat)(g:Lg)(w:World)(h:zba w b g)(hg:LgOk g) :
 Calls Tryz.prog 110 #[.pointer (some ⟨b,0,none⟩)] w fun e w'=>e=.returned (.int .i64 ((g.many - g.used:Nat):Int))∧∃ n,w'=w.drewN n:=by
 obtain ⟨c0,c1,c2,c3,c4⟩:=h.cells;have h1:=hg.start;have h2:=hg.used;have HE:Hid (((g.many - g.used:Nat):Int)=(g.many:Int) - (g.used:Int)):=by show _=_;omega
 clear h hg
 go_enter Tryz.func110,Tryz.ntmps110
 go_wp2_with fail
 go_quiet (fail)
 go_wp2;go_ret;rw [HE.out];exact ⟨rfl,_,rfl⟩
theorem zh0 (dB start many first:Nat)(w:World) :
 Calls Tryz.prog 127 #[.pointer (some ⟨dB,0,none⟩),.int .i64 start,.int .i64 many,.int .i64 first] w fun e w'=>e=.returned (.pointer (some ⟨w.heap.size,0,none⟩))∧zba w' w.heap.size ⟨dB,start,many,first,0⟩∧Below w.heap.size w w':=by
 go_enter Tryz.func127,Tryz.ntmps127
 go_wp2;go_ret;exact ⟨rfl,heap_alloc_new w _,(Below.refl _ _).alloc (Nat.le_refl _) _⟩
theorem zeV (a b:List UInt8):baL a ++ baL b=baL (a ++ b):=by
 apply ByteArray.ext
 simp [baL,ByteArray.data_append]
theorem zhk (b:Nat)(g:Lg)(i:Nat)(k:UInt8)(data:List UInt8)(w:World)(h:zba w b g)(hf:g.first≤4000000)(hi:i≤1000)(hd:data.length≤100) :
 Calls Tryz.prog 194 #[.pointer (some ⟨b,0,none⟩),.int .i64 i,.string ⟨#[k]⟩,.string (baL data)] w fun e w'=>e=.returned (.string (baL (secL k (g.first+i) data)))∧Below w.heap.size w w':=by
 have HL:Hid (zba w b g):=h;have hz1:(⟨#[k]⟩:ByteArray).size=1:=rfl;have hz2:(baL (leB 4 (g.first+i))).size=4:=by rw [za3,zaT]
 have hz3:(baL data).size=data.length:=za3 data;have hz4:(baL (leB 2 data.length)).size=2:=by rw [za3,zaT]
 have HJ:Hid ((⟨#[k]⟩:ByteArray) ++ baL (leB 4 (g.first+i)) ++ baL (leB 2 data.length) ++ baL data=baL (secL k (g.first+i) data)):=by
  show _=_;rw [show (⟨#[k]⟩:ByteArray)=baL [k] from rfl,zeV,zeV,zeV]
  congr 1
 have KN:Hid _:=zg7 b g i w h hf hi;have KB:Hid (∀ W,Calls Tryz.prog 158 #[.int .u64 data.length,.int .i64 2] W fun e w'=>e=.returned (.string (baL (leB 2 data.length)))∧Below W.heap.size W w'):=fun W=>zeo data.length 2 W (by omega) (by omega)
 clear h;generalize baL (leB 4 (g.first+i))=Z at *;generalize baL (leB 2 data.length)=Y at *;generalize baL (secL k (g.first+i) data)=R at *;generalize hX:baL data=X at *;generalize hK1:(⟨#[k]⟩:ByteArray)=K1 at *
 go_enter Tryz.func194,Tryz.ntmps194
 go_wp2_with fail
 refine Calls.mono KN.out ?_;rintro e w1 ⟨rfl,hb⟩;have HB1:Hid (Below w.heap.size w w1):=hb;clear hb KN
 go_wp2_with fail
 refine Calls.mono (KB.out w1) ?_;rintro e w2 ⟨rfl,hb⟩;have HB2:Hid (Below w.heap.size w w2):=HB1.out.trans (hb.mono HB1.out.size);clear hb KB HB1;have hz5:(K1 ++ Z).size=5:=by rw [ByteArray.size_append,hz1,hz2]
 have hz6:(K1 ++ Z ++ Y).size=7:=by rw [ByteArray.size_append,hz5,hz4]
 go_wp2;go_ret;rw [HJ.out];exact ⟨rfl,HB2.out⟩
structure zat (S:Nat→Prop)(w w':World):Prop where
 os:w'.os=w.os
 tape:w'.tape=w.tape
 output:w'.output=w.output
 size:w.heap.size≤w'.heap.size
 block:∀ k,k<w.heap.size→¬ S k→w'.heap[k]?=w.heap[k]?
theorem zat.refl (S:Nat→Prop)(w:World):zat S w w:=⟨rfl,rfl,rfl,Nat.le_refl _,fun _ _ _=>rfl⟩
theorem zat.trans {S:Nat→Prop}{a b c:World}(h:zat S a b)(k:zat S b c):zat S a c :=
 ⟨k.os.trans h.os,k.tape.trans h.tape,k.output.trans h.output,Nat.le_trans h.size k.size,fun i hi hn=>(k.block i (Nat.lt_of_lt_of_le hi h.size) hn).trans (h.block i hi hn)⟩
theorem zat.of_below {S:Nat→Prop}(h:Below w.heap.size w w'):zat S w w':=⟨h.os,h.tape,h.output,h.size,fun k hk _=>h.block k hk⟩
theorem zat.below {S:Nat→Prop}(h:zat S w w')(hS:∀ k,S k→C≤k)(hC:C≤w.heap.size):Below C w w' :=
 ⟨h.os,h.tape,h.output,h.size,fun k hk=>h.block k (by omega) (fun e=>by have:=hS k e;omega)⟩
theorem Tryz.infoChanges:(Tryz.prog.info? 64).map (fun i=>(i.zero,i.size,i.bytes))=some (some (.slice none 0 0),1,24):=by kernel_rfl
structure DS (w:World)(lo base:Nat)(vd vo:Value)(P:List zcn)(opn:List Ch):Prop where
 row:w.ownsRow lo 64 1 vd P.length (P.map zcn.v)
 parts:∀ p ∈ P,w.ownsRow lo 143 3 p.v p.l.length (flatC p.l)
 low:∀ p ∈ P,∀ g,p.v.ownBlock=some g→g<base
 opn:zan w base vo opn
 base:lo≤base∧base≤w.heap.size
theorem DS.far (h:DS w lo base vd vo P opn)(hs:w.heap.size≤w'.heap.size)(hk:∀ k C T fr,lo≤k→w.heap[k]?=some (.cells C T fr)→(T=64∨T=143)→w'.heap[k]?=w.heap[k]?):DS w' lo base vd vo P opn:=by
 refine ⟨zaj h.row (fun g hg=>?_),fun p hp=>zaj (h.parts p hp) (fun g hg=>?_),h.low,zaj h.opn (fun g hg=>?_),h.base.1,Nat.le_trans h.base.2 hs⟩
 · obtain ⟨c,f,e⟩:=Lib.ownsRow_kind h.row g hg
   exact hk g c _ f (h.row.lt g hg).1 e (.inl rfl)
 · obtain ⟨c,f,e⟩:=Lib.ownsRow_kind (h.parts p hp) g hg
   exact hk g c _ f ((h.parts p hp).lt g hg).1 e (.inr rfl)
 · obtain ⟨c,f,e⟩:=Lib.ownsRow_kind h.opn g hg
   exact hk g c _ f (Nat.le_trans h.base.1 (h.opn.lt g hg).1) e (.inr rfl)
theorem DS.below (h:DS w lo base vd vo P opn)(hb:Below w.heap.size w w'):DS w' lo base vd vo P opn :=
 h.far hb.size (fun k C T fr _ hk _=>hb.block k (Array.getElem?_eq_some_iff.1 hk).1)
theorem DS.more {c:Ch}(h:DS w lo base vd vo P opn)(hg:w.grownBy w' vo.ownBlock)(ho:zan w' base v (opn ++ [c])):DS w' lo base vd v P (opn ++ [c]):=by
 have hk:∀ k,k<w.heap.size→vo.ownBlock≠some k→w'.heap[k]?=w.heap[k]?:=fun k hk hne=>hg.block k hk (fun e=>hne e.symm)
 refine ⟨zaj h.row (fun g hg'=>hk g (h.row.lt g hg').2 (fun e=>?_)),fun p hp=>zaj (h.parts p hp) (fun g hg'=>hk g ((h.parts p hp).lt g hg').2 (fun e=>?_)),h.low,ho,h.base.1,Nat.le_trans h.base.2 hg.size⟩
 · obtain ⟨c1,f1,e1⟩:=Lib.ownsRow_kind h.row g hg'
   obtain ⟨c2,f2,e2⟩:=Lib.ownsRow_kind h.opn g e;rw [e1] at e2;simp at e2
 · have:=h.low p hp g hg'
   have:=(h.opn.lt g e).1;omega
theorem DS.close (h:DS w lo base vd (.slice oa opn.length oc) P opn)(hg:w.grownBy w' vd.ownBlock)
 (ho:w'.ownsRow lo 64 1 v (P.length+1) (P.map zcn.v ++ [.slice oa opn.length oc])):DS w' lo w'.heap.size v (.slice none 0 0) (P ++ [⟨oa,oc,opn⟩]) []:=by
 have hk:∀ k,k<w.heap.size→vd.ownBlock≠some k→w'.heap[k]?=w.heap[k]?:=fun k hk hne=>hg.block k hk (fun e=>hne e.symm)
 have hne:∀ (v':Value) (n:Nat) (xs:List Value) (B:Nat),w.ownsRow B 143 3 v' n xs→∀ g,v'.ownBlock=some g→vd.ownBlock≠some g:=fun v' n xs B hv g hg' e=>by
  obtain ⟨c1,f1,e1⟩:=Lib.ownsRow_kind h.row g e;obtain ⟨c2,f2,e2⟩:=Lib.ownsRow_kind hv g hg';rw [e1] at e2;simp at e2
 have hop:w'.ownsRow base 143 3 (.slice oa opn.length oc) opn.length (flatC opn):=zaj h.opn (fun g hg'=>hk g (h.opn.lt g hg').2 (hne _ _ _ _ h.opn g hg'));refine ⟨?_,?_,?_,World.ownsRow_nil _ _ _ _,Nat.le_trans h.base.1 (Nat.le_trans h.base.2 hg.size),Nat.le_refl _⟩
 · rw [List.map_append,List.length_append]
   exact ho
 · intro p hp
   rcases List.mem_append.1 hp with h1 | h1
   · exact zaj (h.parts p h1) (fun g hg'=>hk g ((h.parts p h1).lt g hg').2 (hne _ _ _ _ (h.parts p h1) g hg'))
   · simp at h1
     subst h1;exact zan.base hop h.base.1
 · intro p hp g hg'
   rcases List.mem_append.1 hp with h1 | h1
   · have:=h.low p h1 g hg'
     have:=h.base.2;have:=hg.size;omega
   · simp at h1
     subst h1;have:=(hop.lt g hg').2;exact this
def rdC (t:List UInt8):Option Ch:=zdw (baL t)
structure zdW (w wr:World)(b:Nat)(g:Lg)(p:Dp)(d:Dk)(R:List (List UInt8))(i u base:Nat)(vd vo:Value)(P:List zcn)(opn:List Ch):Prop where
 ds:DS wr w.heap.size base vd vo P opn
 log:zba wr b { g with used:=u }
 disk:zab wr p d
 touch:zat (fun k=>k=b) w wr
 run:runL rdC g.first 0 ⟨[],[],0⟩ R=runL rdC g.first i ⟨P.map (·.l),opn,u⟩ (R.drop i)
 few:opn.length≤i∧P.length≤i∧u≤i
theorem zdW.below {g:Lg}(h:zdW w wr b g p d R i u base vd vo P opn)(hb:Below wr.heap.size wr wx):zdW w wx b g p d R i u base vd vo P opn :=
 ⟨h.ds.below hb,h.log.below hb,h.disk.far fun k hk=>hb.block k (by
  rcases hk with rfl | rfl | rfl | hk
  · exact (Array.getElem?_eq_some_iff.1 h.disk.blk).1
  · exact (Array.getElem?_eq_some_iff.1 h.disk.now).1
  · exact (Array.getElem?_eq_some_iff.1 h.disk.kept).1
  · exact (h.disk.wr.lt k hk).2),h.touch.trans (zat.of_below hb),h.run,h.few⟩
theorem zru {k:UInt8}(h:zfr num s=some (k,t)):t.length≤33:=by
 unfold zfr at h
 split at h
 · rename_i h1
   simp only [Option.some.injEq,Prod.mk.injEq] at h;rw [← h.2,List.length_take];omega
 · cases h
theorem zba.neRow {g:Lg}(h:zba w b g){xs:List Value}(hv:w.ownsRow B T size v n xs)(hT:T≠208):v.ownBlock≠some b:=fun e=>by
 obtain ⟨c,f,e1⟩:=Lib.ownsRow_kind hv b e;rw [h] at e1;simp at e1;exact hT e1.2.1.symm
theorem zba.neDisk {g:Lg}(h:zba w b g)(hd:zab w p d):b≠p.B∧b≠p.gn∧b≠p.gk∧p.wv.ownBlock≠some b:=by
 refine ⟨fun e=>?_,fun e=>?_,fun e=>?_,h.neRow hd.wr (by decide)⟩
 · subst e;unfold zba at h;rw [hd.blk] at h;simp at h
 · subst e;unfold zba at h;rw [hd.now] at h;simp at h
 · subst e;unfold zba at h;rw [hd.kept] at h;simp at h
theorem zdW.close {g:Lg}(h:zdW w wr b g p d R i u base vd (.slice oa opn.length oc) P opn)
 (hg:wr.grownBy w4 vd.ownBlock) (ho:w4.ownsRow w.heap.size 64 1 v (P.length+1) (P.map zcn.v ++ [.slice oa opn.length oc]))
 (hrun:runL rdC g.first i ⟨P.map (·.l),opn,u⟩ (R.drop i)=runL rdC g.first (i+1) ⟨P.map (·.l) ++ [opn],[],i+1⟩ (R.drop (i+1))) :
 zdW w (w4.setCell ⟨b,4,none⟩ (.int .i64 ((i:Int)+1))) b g p d R (i+1) (i+1) (w4.setCell ⟨b,4,none⟩ (.int .i64 ((i:Int)+1))).heap.size v (.slice none 0 0) (P ++ [⟨oa,oc,opn⟩]) []∧w4.cell? ⟨b,4,none⟩=some (.int .i64 u)∧w4.frozen? ⟨b,4,none⟩=false:=by
 have hnb:=h.log.neRow h.ds.row (by decide);have hb4:w4.heap[b]?=wr.heap[b]?:=hg.block b h.log.lt (fun e=>hnb e.symm);have hs:∀ k,k≠b→(w4.setCell ⟨b,4,none⟩ (.int .i64 ((i:Int)+1))).heap[k]?=w4.heap[k]?:=fun k hk=>Below.heap_setCell w4 ⟨b,4,none⟩ _ k hk
 obtain ⟨n1,n2,n3,n4⟩:=h.log.neDisk h.disk
 have hdk:∀ k,(k=p.B∨k=p.gn∨k=p.gk∨p.wv.ownBlock=some k)→w4.heap[k]?=wr.heap[k]?∧k≠b:=fun k hk=>by
  have hlt:k<wr.heap.size:=by
   rcases hk with rfl | rfl | rfl | hk
   · exact (Array.getElem?_eq_some_iff.1 h.disk.blk).1
   · exact (Array.getElem?_eq_some_iff.1 h.disk.now).1
   · exact (Array.getElem?_eq_some_iff.1 h.disk.kept).1
   · exact (h.disk.wr.lt k hk).2
  refine ⟨hg.block k hlt (fun e=>?_),?_⟩
  · obtain ⟨c,f,e1⟩:=Lib.ownsRow_kind h.ds.row k e.symm
    rcases hk with rfl | rfl | rfl | hk
    · rw [h.disk.blk] at e1;simp at e1
    · rw [h.disk.now] at e1;simp at e1
    · rw [h.disk.kept] at e1;simp at e1
    · obtain ⟨c2,f2,e2⟩:=Lib.ownsRow_kind h.disk.wr k hk;rw [e1] at e2;simp at e2
  · rcases hk with rfl | rfl | rfl | hk
    · exact Ne.symm n1
    · exact Ne.symm n2
    · exact Ne.symm n3
    · intro e;subst e;exact n4 hk
 have hcl:=h.ds.close hg ho;have hL4:zba w4 b { g with used:=u }:=by unfold zba;rw [hb4];exact h.log
 refine ⟨⟨?_,?_,h.disk.far (fun k hk=>by rw [hs k (hdk k hk).2,(hdk k hk).1]),?_,?_,?_⟩,?_,?_⟩
 · have hsz:(w4.setCell ⟨b,4,none⟩ (.int .i64 ((i:Int)+1))).heap.size=w4.heap.size:=by simp
   rw [hsz];refine hcl.far (Nat.le_of_eq hsz.symm) (fun k C T fr _ hk hT=>hs k (fun e=>?_));subst e;unfold zba at hL4;rw [hL4] at hk;simp at hk;rcases hT with e | e <;> (rw [e] at hk;simp at hk)
 · have:=zaZ hL4 4 (.int .i64 ((i:Int)+1))
   exact this
 · refine ⟨hg.os.trans h.touch.os,hg.tape.trans h.touch.tape,hg.output.trans h.touch.output,by have:=hg.size;have:=h.touch.size;simp;omega,fun k hk hn=>?_⟩
   rw [hs k hn,hg.block k (Nat.lt_of_lt_of_le hk h.touch.size) (fun e=>by have:=(h.ds.row.lt k e.symm).1;omega),h.touch.block k hk hn]
 · rw [h.run,hrun,List.map_append]
   rfl
 · have:=h.few;simp;omega
 · rw [World.cell?_of_block (w:=wr) (a:=⟨b,4,none⟩) hb4];exact h.log.cells.2.2.2.2
 · rw [World.frozen?_of_block (w:=wr) (a:=⟨b,4,none⟩) hb4];exact zaE h.log 4
theorem zdW.more {g:Lg}{c:Ch}(h:zdW w wr b g p d R i u base vd vo P opn)
 (hg:wr.grownBy w4 vo.ownBlock) (ho:zan w4 base v (opn ++ [c])) (hrun:runL rdC g.first i ⟨P.map (·.l),opn,u⟩ (R.drop i)=runL rdC g.first (i+1) ⟨P.map (·.l),opn ++ [c],u⟩ (R.drop (i+1))) :
 zdW w w4 b g p d R (i+1) u base vd v P (opn ++ [c]):=by
 have hnb:=h.log.neRow h.ds.opn (by decide);have hb4:w4.heap[b]?=wr.heap[b]?:=hg.block b h.log.lt (fun e=>hnb e.symm)
 have hdk:∀ k,(k=p.B∨k=p.gn∨k=p.gk∨p.wv.ownBlock=some k)→w4.heap[k]?=wr.heap[k]?:=fun k hk=>by
  have hlt:k<wr.heap.size:=by
   rcases hk with rfl | rfl | rfl | hk
   · exact (Array.getElem?_eq_some_iff.1 h.disk.blk).1
   · exact (Array.getElem?_eq_some_iff.1 h.disk.now).1
   · exact (Array.getElem?_eq_some_iff.1 h.disk.kept).1
   · exact (h.disk.wr.lt k hk).2
  refine hg.block k hlt (fun e=>?_);obtain ⟨c,f,e1⟩:=Lib.ownsRow_kind h.ds.opn k e.symm;rcases hk with rfl | rfl | rfl | hk
  · rw [h.disk.blk] at e1;simp at e1
  · rw [h.disk.now] at e1;simp at e1
  · rw [h.disk.kept] at e1;simp at e1
  · obtain ⟨c2,f2,e2⟩:=Lib.ownsRow_kind h.disk.wr k hk;rw [e1] at e2;simp at e2
 refine ⟨h.ds.more hg ho,by unfold zba;rw [hb4];exact h.log,h.disk.far hdk,?_,by rw [h.run,hrun],by have:=h.few;simp;omega⟩;refine ⟨hg.os.trans h.touch.os,hg.tape.trans h.touch.tape,hg.output.trans h.touch.output,Nat.le_trans h.touch.size hg.size,fun k hk hn=>?_⟩;rw [hg.block k (Nat.lt_of_lt_of_le hk h.touch.size) (fun e=>by have h1:=(h.ds.opn.lt k e.symm).1;have h2:=h.ds.base.1;omega),h.touch.block k hk hn]
theorem ztK (w:World)(c:Ch)(t:TypeId)(n:Nat)(hn:w.heap.size=n):∀ j u,[Value.string c.key,.string c.val,.bool c.gone][j]?=some u→(w.alloc (.cells #[.string c.key,.string c.val,.bool c.gone] t)).cell? ((⟨n,0,none⟩:Addr).add j)=some u:=by
 subst hn;intro j u hj
 match j,hj with
 | 0,hj=>simp at hj;subst hj;simp [Addr.add]
 | 1,hj=>simp at hj;subst hj;simp [Addr.add]
 | 2,hj=>simp at hj;subst hj;simp [Addr.add]
 | j+3,hj=>simp at hj
theorem ztH (a:Option Addr)(n c:Nat):∀ u ∈ [Value.slice a n c],u.oneCell'=true:=by
 intro u hu;simp at hu;subst hu;rfl
def ze8 (w:World)(b:Nat)(g:Lg)(p:Dp)(d:Dk)(e:Ending)(w':World):Prop :=
 ∃ vd vo P base opn,e=.returned (.tuple #[vd,.nilIface])∧DS w' w.heap.size base vd vo P opn∧P.map (·.l)=(zcv rdC d.now g.start g.many g.first).1∧zba w' b { g with used:=(zcv rdC d.now g.start g.many g.first).2 }∧zab w' p d∧zat (fun k=>k=b) w w'∧P.length≤g.many
theorem zdW.stop {g:Lg}(h:zdW w wr b g p d (zao d.now g.start g.many) i u base vd vo P opn)(hi:i≤g.many)(hr:runL rdC g.first i ⟨P.map (·.l),opn,u⟩ ((zao d.now g.start g.many).drop i)=⟨P.map (·.l),opn,u⟩):ze8 w b g p d (.returned (.tuple #[vd,.nilIface])) wr:=by
 have hrun:=h.run;rw [hr] at hrun;refine ⟨vd,vo,P,base,opn,rfl,h.ds,?_,?_,h.disk,h.touch,by have:=h.few;omega⟩
 · simp only [zcv,zaH,hrun]
 · simp only [zcv,zaH,hrun]
   exact h.log
theorem znG (b:Nat) (g:Lg) (p:Dp) (d:Dk) (w:World) (hl:zba w b g) (hg:LgOk g) (hu:g.used=0) (hd:zab w p d) (hB:g.dB=p.B) (hup:d.down=false) (hin:g.start+g.many≤d.now.length) :
 Calls Tryz.prog 128 #[.pointer (some ⟨b,0,none⟩)] w (ze8 w b g p d):=by
 have HL:Hid (zba w b g):=hl;have HG:Hid (LgOk g):=hg;have HD:Hid (zab w p d):=hd;have HBB:Hid (g.dB=p.B):=hB;have HIN:Hid (g.start+g.many≤d.now.length):=hin;have h60:=hg.start;obtain ⟨c0,c1,c2,c3,c4⟩:=hl.cells
 have HM:Hid (zdW w w b g p d (zao d.now g.start g.many) 0 0 w.heap.size (.slice none 0 0) (.slice none 0 0) [] []) :=
  ⟨⟨World.ownsRow_nil _ _ _ _,fun p hp=>by simp at hp,fun p hp=>by simp at hp,World.ownsRow_nil _ _ _ _,Nat.le_refl _,Nat.le_refl _⟩,by rw [← hu];exact hl,hd,zat.refl _ _,rfl,by simp⟩
 clear hl hg hd hB hin hu
 go_enter Tryz.func128,Tryz.ntmps128
 go_wp2_with fail
 go_loopg [4,5,17] (g.many+1) (fun kx vd vo vi wr=>∃ (i u base:Nat) (P:List zcn) (opn:List Ch),vi=.int .i64 i∧i≤g.many∧g.many - i≤kx∧Hid (zdW w wr b g p d (zao d.now g.start g.many) i u base vd vo P opn))
 case atStart=>exact ⟨0,0,w.heap.size,[],[],rfl,by omega,by omega,HM⟩
 case round =>
  obtain ⟨i,u,base,P,opn,rfl,hi,hix,HR⟩:=hrel;clear HM c0 c1 c2 c3 c4
  by_cases hlt:i<g.many
  · have hltz : (i:Int)<(g.many:Int):=by omega
    obtain ⟨c0,c1,c2,c3,c4⟩:=HR.out.log.cells;simp only at c0 c1 c2 c3 c4;have hin:g.start+i<d.now.length:=by have:=HIN.out;omega
    obtain ⟨sec,hsec⟩:∃ s,s=d.now[g.start+i]:=⟨_,rfl⟩
    have h40:sec.length=40:=by rw [hsec];exact HD.out.snow _ (List.getElem_mem hin)
    have HRD:Hid (zgK d ((g.start:Int)+(i:Int))=(sec,0)):=by
     show _=_;unfold zgK;rw [if_neg (by rw [hup];decide),if_pos (by omega),show ((g.start:Int)+(i:Int)).toNat=g.start+i by omega,hsec];simp [hin]
    have HDR:Hid ((zao d.now g.start g.many).drop i=sec :: (zao d.now g.start g.many).drop (i+1)):=by
     show _=_;have hlen:=zaU HIN.out;rw [List.drop_eq_getElem_cons (by omega)]
     congr 1
     have:=za8 (now:=d.now) (from':=g.start) (many:=g.many) (j:=i);rw [if_pos hlt,List.getElem?_eq_getElem (by omega),List.getElem?_eq_getElem hin] at this
     rw [hsec];exact Option.some.inj this
    have some':=zcW.ne wr;have p0:=zcW.cell c0;have p1:=zcW.cell c1;rw [HBB.out] at p0
    have KR:Hid (∀ pl:zcW wr,Calls Tryz.prog 160 #[.pointer (some ⟨p.B,0,none⟩),.int .i64 ((g.start:Int)+(i:Int))] pl.W fun e w'=>e=.returned (.tuple #[.string (baL sec),.nilIface])∧w'=pl.W):=fun pl=>by
     have h:=zfP p d ((g.start:Int)+(i:Int)) pl.W (HR.out.below pl.h).disk;rw [HRD.out,zac rfl] at h;exact h
    clear hsec c0 c1 c2 c3 c4;obtain ⟨S,hS⟩:∃ S,S=baL sec:=⟨_,rfl⟩
    rw [← hS] at KR;have HS:Hid _:=hS;have hs40:S.size=40:=by rw [hS,za3,h40]
    clear hS
    go_wp2_with fail
    refine zbV (by kernel_rfl) (by kernel_rfl) ?_
    repeat (go_big_quiet_step ((go_at_call 160;exact zkG _ (KR.out _))))
    refine wpQuiet_nil ?_;rintro _ ⟨pl,rfl⟩;have HR1:Hid _:=HR.out.below pl.h;obtain ⟨W1,hW1⟩:∃ u,u=pl.W:=⟨_,rfl⟩
    rw [← hW1] at HR1;rw [← hW1];clear hW1 pl p0 p1 some' KR HR;have hSd:S.data.toList=sec:=by rw [HS.out];rfl
    have kw:=zku b { g with used:=u } i S W1 HR1.out.log HG.out.first (by omega) hs40;rw [hSd] at kw;obtain ⟨oa,oc,hvo,-,-,-,-,-⟩:=zan.files HR1.out.ds.opn;obtain ⟨i0,hif,hz0,hz1,hz2⟩:=info_parts Tryz.infoChanges;obtain ⟨j0,hjf,jz0,jz1,jz2⟩:=info_parts Tryz.infoChange;subst hvo;clear hSd HS;cases hso:zfr (g.first+i) sec with
    | none =>
      have e0:zcG (g.first+i) sec=(⟨#[]⟩,⟨#[]⟩):=by unfold zcG;rw [hso]
      simp only [e0] at kw;have HEND:Hid _:=HR1.out.stop (by omega) (by rw [HDR.out];simp [runL,zef,hso]);have HSTOP:Hid (∀ W,Below W1.heap.size W1 W→ze8 w b g p d (.returned (.tuple #[u4,.nilIface])) W):=fun W hb=>(HR1.out.below hb).stop (by omega) (by rw [HDR.out];simp [runL,zef,hso])
      have KW:Hid _:=kw;clear kw e0 hso
      go_wp2_with fail
      refine Calls.mono KW.out ?_;rintro en w2 ⟨rfl,hb⟩;have HB2:Hid _:=hb;clear hb KW;go_wp2;go_ret2;exact HSTOP.out _ HB2.out
    | some kt =>
      obtain ⟨k,t⟩:=kt;have e0:zcG (g.first+i) sec=(⟨#[k]⟩,baL t):=by unfold zcG;rw [hso]
      simp only [e0] at kw;have ht33:=zru hso;have hK:(⟨#[k]⟩:ByteArray).toList=[k]:=by rw [zbD]
      have hTz:(baL t).size≤33:=by rw [za3];exact ht33
      have hT:baL t=baL t:=rfl;generalize hK1:(⟨#[k]⟩:ByteArray)=K1 at *;generalize hT1:baL t=T at kw hTz;have HT1:Hid (baL t=T):=hT1;have KW:Hid _:=kw;clear kw e0 hT hT1 hK1
      by_cases k99:k=99
      · have q1:(K1.toList == [99])=true:=by rw [hK,k99];rfl
        have q2:(K1.toList == [111])=false:=by rw [hK,k99];rfl
        clear hK
        by_cases ht:t=leB 4 opn.length
        · have KC:Hid (∀ W,Calls Tryz.prog 166 #[.int .i64 opn.length] W fun e w'=>e=.returned (.string T)∧Below W.heap.size W w'):=fun W=>by
           rw [← HT1.out,ht];exact zf6 opn.length W (by have:=HR1.out.few;omega)
          have HRUN:Hid (runL rdC g.first i ⟨P.map (·.l),opn,u⟩ ((zao d.now g.start g.many).drop i)=runL rdC g.first (i+1) ⟨P.map (·.l) ++ [opn],[],i+1⟩ ((zao d.now g.start g.many).drop (i+1))):=by
           show _=_;rw [HDR.out];simp [runL,zef,hso,k99,ht]
          clear hso k99 ht
          go_wp2_with fail
          refine Calls.mono KW.out ?_;rintro en w2 ⟨rfl,hb⟩;have HB2:Hid (Below W1.heap.size W1 w2):=hb;clear hb KW
          go_wp2_with fail
          refine Calls.mono (KC.out w2) ?_;rintro en w3 ⟨rfl,hb⟩;have HR3:Hid _:=HR1.out.below (HB2.out.trans (hb.mono HB2.out.size));have hP:P.length≤60:=by have:=HR1.out.few;omega
          have HRA:Hid (∀ o,zdW w (w3.alloc o) b g p d (zao d.now g.start g.many) i u base u4 (.slice oa opn.length oc) P opn):=fun o=>HR3.out.below ((Below.refl _ _).alloc (Nat.le_refl _) o)
          have hlo:∀ o,w.heap.size≤(w3.alloc o).heap.size:=fun o=>(HRA.out o).touch.size
          have HLO:Hid _:=hlo;clear hb KC HB2 hlo
          go_wp2_with (at_builtin;refine wpList_append_own _ rfl _ _ 157 rfl w.heap.size 64 i0 _ 1 24 (by kernel_rfl) hif hz0 hz1 hz2 rfl (by decide) u4 P.length (P.map zcn.v) rfl (HRA.out _).ds.row ⟨w3.heap.size,0,none⟩ 1 1 [.slice oa opn.length oc] rfl rfl (zbz _ _ _) (ztH _ _ _) (by unfold maxLen;omega) (by omega) (HLO.out _) ?_;intro v' w4 hown4 hgrow4 hnil4;obtain ⟨xa,xc,rfl⟩:=zcz hown4;obtain ⟨hA,hc1,hc2⟩:=(HRA.out _).close hgrow4 hown4 HRUN.out;have HA:Hid _:=hA;clear hA hown4 hgrow4 hnil4)
          go_roundg (g.many - (i+1))
          case measure=>omega
          case rel=>exact ⟨i+1,i+1,_,P ++ [⟨oa,oc,opn⟩],[],by go_num,by omega,Nat.le_refl _,HA⟩
        · have KC:Hid (∀ W,Calls Tryz.prog 166 #[.int .i64 opn.length] W fun e w'=>e=.returned (.string (baL (leB 4 opn.length)))∧Below W.heap.size W w'):=fun W=>zf6 opn.length W (by have:=HR1.out.few;omega)
          have qz:(T.toList == (baL (leB 4 opn.length)).toList)=false:=by
           rw [beq_eq_false_iff_ne,← HT1.out,zbD,zbD];exact fun h=>ht h
          have HSTOP:Hid (∀ W,Below W1.heap.size W1 W→ze8 w b g p d (.returned (.tuple #[u4,.nilIface])) W):=fun W hb=>(HR1.out.below hb).stop (by omega) (by rw [HDR.out];simp [runL,zef,hso,k99,ht])
          generalize baL (leB 4 opn.length)=Z at *;clear hso k99 ht
          go_wp2_with fail
          refine Calls.mono KW.out ?_;rintro en w2 ⟨rfl,hb⟩;have HB2:Hid (Below W1.heap.size W1 w2):=hb;clear hb KW
          go_wp2_with fail
          refine Calls.mono (KC.out w2) ?_;rintro en w3 ⟨rfl,hb⟩;have HB3:Hid (Below W1.heap.size W1 w3):=HB2.out.trans (hb.mono HB2.out.size);clear hb KC;go_wp2;go_ret2;exact HSTOP.out _ HB3.out
      · have q1:(K1.toList == [99])=false:=by rw [hK,beq_eq_false_iff_ne];intro h;injection h with h;exact k99 h
        by_cases k111:k=111
        · have q2:(K1.toList == [111])=true:=by rw [hK,k111];rfl
          clear hK;have kp:=fun W=>zix T W (by omega)
          cases hrd:zdw T with
          | none =>
            rw [hrd,zdd hrd,zak (by decide)] at kp;have KP:Hid (∀ W,Calls _ _ _ W _):=kp;have hrd2:rdC t=none:=by unfold rdC;rw [HT1.out];exact hrd
            have HSTOP:Hid (∀ W,Below W1.heap.size W1 W→ze8 w b g p d (.returned (.tuple #[u4,.nilIface])) W):=fun W hb=>(HR1.out.below hb).stop (by omega) (by rw [HDR.out];simp [runL,zef,hso,k111,hrd2])
            clear kp hso k99 k111 hrd hrd2
            go_wp2_with fail
            refine Calls.mono KW.out ?_;rintro en w2 ⟨rfl,hb⟩;have HB2:Hid (Below W1.heap.size W1 w2):=hb;clear hb KW
            go_wp2_with fail
            refine Calls.mono (KP.out w2) ?_;rintro en w3 ⟨rfl,hb⟩;have HB3:Hid (Below W1.heap.size W1 w3):=HB2.out.trans (hb.mono HB2.out.size);clear hb KP;go_wp2;go_ret2;exact HSTOP.out _ (HB3.out.alloc HB3.out.size _)
          | some c =>
            rw [hrd,zgY hrd,zac rfl] at kp;simp only [Option.getD_some] at kp;have KP:Hid (∀ W,Calls _ _ _ W _):=kp;have hrd2:rdC t=some c:=by unfold rdC;rw [HT1.out];exact hrd
            have HRUN:Hid (runL rdC g.first i ⟨P.map (·.l),opn,u⟩ ((zao d.now g.start g.many).drop i)=runL rdC g.first (i+1) ⟨P.map (·.l),opn ++ [c],u⟩ ((zao d.now g.start g.many).drop (i+1))):=by
             show _=_;rw [HDR.out];simp [runL,zef,hso,k111,hrd2]
            clear kp hso k99 k111 hrd hrd2
            go_wp2_with fail
            refine Calls.mono KW.out ?_;rintro en w2 ⟨rfl,hb⟩;have HB2:Hid (Below W1.heap.size W1 w2):=hb;clear hb KW
            go_wp2_with fail
            refine Calls.mono (KP.out w2) ?_;rintro en w3 ⟨rfl,hb⟩;have HR3:Hid _:=HR1.out.below (HB2.out.trans (hb.mono HB2.out.size));have hO:opn.length≤60:=by have:=HR1.out.few;omega
            have HRA:Hid (∀ o o',zdW w ((w3.alloc o).alloc o') b g p d (zao d.now g.start g.many) i u base u4 (.slice oa opn.length oc) P opn):=fun o o'=>(HR3.out.below ((Below.refl _ _).alloc (Nat.le_refl _) o)).below ((Below.refl _ _).alloc (Nat.le_refl _) o')
            have HLO:Hid (∀ o o',base≤((w3.alloc o).alloc o').heap.size):=fun o o'=>(HRA.out o o').ds.base.2
            clear hb KP HB2
            go_wp2_with (at_builtin;refine wpList_append_own _ rfl _ _ 64 rfl base 143 j0 _ 3 40 (by kernel_rfl) hjf jz0 jz1 jz2 rfl (by decide) (.slice oa opn.length oc) opn.length (flatC opn) rfl (HRA.out _ _).ds.opn ⟨w3.heap.size+1,0,none⟩ 1 1 [.string c.key,.string c.val,.bool c.gone] rfl rfl (ztK _ _ _ _ (by simp)) (zc8 _) (by unfold maxLen;omega) (by omega) (HLO.out _ _) ?_;intro v' w4 hown4 hgrow4 hnil4;obtain ⟨xa,xc,rfl⟩:=zcz hown4;have HA:Hid _:=(HRA.out _ _).more hgrow4 (zan.snoc hown4) HRUN.out;clear hown4 hgrow4 hnil4)
            go_roundg (g.many - (i+1))
            case measure=>omega
            case rel=>exact ⟨i+1,u,base,P,opn ++ [c],by go_num,by omega,Nat.le_refl _,HA⟩
        · have q2:(K1.toList == [111])=false:=by rw [hK,beq_eq_false_iff_ne];intro h;injection h with h;exact k111 h
          clear hK;have HSTOP:Hid (∀ W,Below W1.heap.size W1 W→ze8 w b g p d (.returned (.tuple #[u4,.nilIface])) W):=fun W hb=>(HR1.out.below hb).stop (by omega) (by rw [HDR.out];simp [runL,zef,hso,k99,k111])
          clear hso k99 k111
          go_wp2_with fail
          refine Calls.mono KW.out ?_;rintro en w2 ⟨rfl,hb⟩;have HB2:Hid (Below W1.heap.size W1 w2):=hb;clear hb KW;go_wp2;go_ret2;exact HSTOP.out _ HB2.out
  · have e:i=g.many:=by omega
    have HSTOP:Hid (ze8 w b g p d (.returned (.tuple #[u4,.nilIface])) wr):=HR.out.stop hi (by rw [List.drop_eq_nil_of_le (by rw [zaU HIN.out];omega)];rfl);go_wp2;go_ret2;exact HSTOP.out
def zrn (w:World)(p:Dp)(d:Dk)(start many first:Nat)(e:Ending)(w':World):Prop :=
 ∃ b vd vo P base opn,e=.returned (.tuple #[.pointer (some ⟨b,0,none⟩),vd,.nilIface])∧w.heap.size≤b∧zba w' b ⟨p.B,start,many,first,(zcv rdC d.now start many first).2⟩∧DS w' w.heap.size base vd vo P opn∧P.map (·.l)=(zcv rdC d.now start many first).1∧zab w' p d∧Below w.heap.size w w'∧P.length≤many
theorem DS.base0 (h:DS w lo base vd vo P opn)(hl:lo'≤lo):DS w lo' base vd vo P opn:=by
 have hb:∀ {B B':Nat} {T:TypeId} {size n:Nat} {v:Value} {xs:List Value},w.ownsRow B T size v n xs→B'≤B→w.ownsRow B' T size v n xs:=fun h hB=>by
  refine ⟨h.1,?_⟩;rcases h.2 with h0 | ⟨g,cap,cur,e,hg,rest⟩
  · exact .inl h0
  · exact .inr ⟨g,cap,cur,e,by omega,rest⟩
 exact ⟨hb h.row hl,fun p hp=>hb (h.parts p hp) hl,h.low,h.opn,Nat.le_trans hl h.base.1,h.base.2⟩
theorem zmv (p:Dp)(d:Dk)(start many first:Nat)(w:World)(hd:zab w p d)(hup:d.down=false)(hm:1≤many)(hf:1≤first)(hf2:first≤4000000)(hin:start+many≤d.now.length) :
 Calls Tryz.prog 89 #[.pointer (some ⟨p.B,0,none⟩),.int .i64 start,.int .i64 many,.int .i64 first] w (zrn w p d start many first):=by
 have h60:=hd.few;have HD:Hid (zab w p d):=hd;have KS:Hid _:=zff p d w hd;have h1:¬ ((start:Int)<0):=by omega
 have h2:¬ ((many:Int)<1):=by omega
 have h3:¬ ((first:Int)<1):=by omega
 have h4:¬ ((d.now.length:Int) - (start:Int)<(many:Int)):=by omega
 clear hd
 go_enter Tryz.func89,Tryz.ntmps89
 go_wp2_with fail
 refine Calls.mono KS.out ?_;rintro e w1 ⟨rfl,hw⟩;rw [hw];clear hw w1 KS
 go_wp2_with fail
 refine (zh0 p.B start many first w).mono ?_;rintro e w2 ⟨rfl,hl,hb⟩;have HL2:Hid _:=hl;have HB2:Hid _:=hb
 have HD2:Hid (zab w2 p d):=HD.out.far fun k hk=>hb.block k (by
  rcases hk with rfl | rfl | rfl | hk
  · exact (Array.getElem?_eq_some_iff.1 HD.out.blk).1
  · exact (Array.getElem?_eq_some_iff.1 HD.out.now).1
  · exact (Array.getElem?_eq_some_iff.1 HD.out.kept).1
  · exact (HD.out.wr.lt k hk).2)
 clear hl hb
 go_wp2_with fail
 refine (znG w.heap.size ⟨p.B,start,many,first,0⟩ p d w2 HL2.out ⟨by simp only;omega,hf2,Nat.zero_le _⟩ rfl HD2.out rfl hup hin).mono ?_;rintro e w3 ⟨vd,vo,P,base,opn,rfl,hds,hP,hlog,hdk,hto,hfew⟩
 have HE:Hid (zrn w p d start many first (.returned (.tuple #[.pointer (some ⟨w.heap.size,0,none⟩),vd,.nilIface])) w3) :=
  ⟨w.heap.size,vd,vo,P,base,opn,rfl,Nat.le_refl _,hlog,hds.base0 HB2.out.size,hP,hdk,HB2.out.trans (hto.below (fun k hk=>by rw [hk];exact Nat.le_refl _) HB2.out.size),hfew⟩
 clear hds hP hlog hdk hto hfew;go_wp2
 go_ret3
 exact HE.out
end Go.Proofs.YtihnghnafpgdfadGreatDoor
namespace Go.Proofs.YtihnghnafpgdfadGreatDoor
variable {B C a b base few first from' i j k lo lo' m many n num oc size u:Nat}{s t:List UInt8}{L R now y:List (List UInt8)}{W w w' w4 wr wx:World}{p p':Dp}{D d:Dk}{T e:TypeId}{v v' vd vo:Value}{P:List zcn}{c opn:List Ch}{oa:Option Addr}{fr:Nat × Nat}{l:List ByteArray}{z:Int}
theorem zbT (l:List UInt8):(baL l).data.toList=l:=by simp [baL]
theorem zeW (l:List UInt8):padD (baL l)=zdG l:=by
 unfold padD zdG;rw [zbT,za3]
def za1:List Ch→Int
 | []=>0
 | c :: l=>if zae c=0 then za1 l else zae c
theorem zb5:∀ {l:List Ch},za1 l=0→∀ c ∈ l,zae c=0
 | [],_,c,hc=>by cases hc
 | x :: l,h,c,hc=>by
   unfold za1 at h
   split at h
   · rename_i hx
     rcases List.mem_cons.1 hc with rfl | h1
     · exact hx
     · exact zb5 h c h1
   · rename_i hx;exact absurd h hx
theorem zdT:∀ {l:List Ch},(∀ c ∈ l,zae c=0)→za1 l=0
 | [],_=>rfl
 | x :: l,h=>by
   unfold za1;rw [if_pos (h x (by simp))];exact zdT (fun c hc=>h c (List.mem_cons_of_mem _ hc))
theorem zjS:∀ {l:List Ch} {i:Nat} (h:i<l.length),(∀ j (hj:j<i),zae (l[j]'(by omega))=0)→¬ zae l[i]=0→za1 l=zae l[i]
 | x :: l,0,h,_,hx=>by
   unfold za1;rw [if_neg (by simpa using hx)]
   rfl
 | x :: l,i+1,h,hb,hx=>by
   unfold za1;rw [if_pos (by simpa using hb 0 (by omega))];simp only [List.length_cons] at h;simp only [List.getElem_cons_succ] at hx ⊢;exact zjS (by omega) (fun j hj=>by simpa using hb (j+1) (by omega)) hx
def zeg (first:Nat):Nat→List Ch→Nat→List ByteArray
 | i,[],n=>[baL (secL 99 (first+i) (leB 4 n))]
 | i,c :: l,n=>baL (secL 111 (first+i) (zaM c)) :: zeg first (i+1) l n
def zfq (first i:Nat)(l:List Ch):List ByteArray:=match l with
 | []=>[]
 | c :: l=>baL (secL 111 (first+i) (zaM c)) :: zfq first (i+1) l
theorem zka (first:Nat):∀ (l:List Ch) (i n:Nat),zeg first i l n=zfq first i l ++ [baL (secL 99 (first+(i+l.length)) (leB 4 n))]
 | [],i,n=>rfl
 | c :: l,i,n=>by
   simp only [zeg,zfq,zka first l,List.cons_append,List.length_cons];rw [show i+1+l.length=i+(l.length+1) by omega]
theorem zds (first:Nat):∀ (l:List Ch) (i:Nat),(zfq first i l).length=l.length
 | [],i=>rfl
 | c :: l,i=>by simp [zfq,zds first l]
theorem zkB (first:Nat):∀ (l:List Ch) (i:Nat) (c:Ch),zfq first i (l ++ [c])=zfq first i l ++ [baL (secL 111 (first+(i+l.length)) (zaM c))]
 | [],i,c=>rfl
 | x :: l,i,c=>by
   simp only [List.cons_append,zfq,zkB first l,List.length_cons];rw [show i+1+l.length=i+(l.length+1) by omega]
theorem zcg (first:Nat)(l:List Ch)(i n:Nat):(zeg first i l n).length=l.length+1:=by
 rw [zka];simp [zds]
theorem zhg (first:Nat):∀ (l:List Ch) (i n:Nat),(zeg first i l n).map padD=zeC zaM first i l n
 | [],i,n=>by simp [zeg,zeC,zeW]
 | c :: l,i,n=>by simp [zeg,zeC,zeW,zhg first l]
theorem zc9 {c:Ch}(h:zae c=0):(zaM c).length≤26:=by
 obtain ⟨h1,h2,h3,h4⟩:=zeh h;have e1:c.key.toList.length=c.key.size:=by rw [zbD,zhf]
 have e2:c.val.toList.length=c.val.size:=by rw [zbD,zhf]
 simp only [zaM,List.length_cons,List.length_append,e1,e2];omega
theorem zdc (first:Nat):∀ (l:List Ch) (i n:Nat),(∀ c ∈ l,zae c=0)→∀ s ∈ zeg first i l n,s.size≤40
 | [],i,n,_,s,hs=>by
   simp [zeg] at hs;subst hs;rw [za3,zju,zaT];omega
 | c :: l,i,n,h,s,hs=>by
   rw [zeg] at hs;rcases List.mem_cons.1 hs with rfl | h1
   · rw [za3,zju]
     have:=zc9 (h c (by simp));omega
   · exact zdc first l (i+1) n (fun x hx=>h x (List.mem_cons_of_mem _ hx)) s h1
theorem zh6 {c:Ch}(h:zae c=0):rdC (zaM c)=some c:=by
 obtain ⟨h1,h2,h3,h4⟩:=zeh h;have e1:c.key.toList.length=c.key.size:=by rw [zbD,zhf]
 have e2:c.val.toList.length=c.val.size:=by rw [zbD,zhf]
 have b0:zbn (baL (zaM c)) 0=(zoC c).toNat:=by unfold zbn;rw [zbT];rfl
 have b1:zbn (baL (zaM c)) 1=c.key.size:=by
  unfold zbn;rw [zbT]
  show (UInt8.ofNat c.key.size).toNat=_;simp;omega
 have hz:(baL (zaM c)).size=2+c.key.size+c.val.size:=by
  rw [za3];simp only [zaM,List.length_cons,List.length_append,e1,e2];omega
 have g0:(zoC c).toNat≤1∧(((zoC c).toNat:Int) == 1)=c.gone:=by
  unfold zoC;cases c.gone <;> decide
 have hk:(baL (zaM c)).extract 2 (2+c.key.size)=c.key:=by
  apply ByteArray.ext
  apply Array.toList_inj.1
  rw [zbM,zbT];show List.take _ (c.key.toList ++ c.val.toList)=_;rw [show 2+c.key.size - 2=c.key.toList.length by omega,List.take_left,zbD]
 have hv:(baL (zaM c)).extract (2+c.key.size) (2+c.key.size+c.val.size)=c.val:=by
  apply ByteArray.ext
  apply Array.toList_inj.1
  rw [zbM,zbT]
  have e:(zaM c).drop (2+c.key.size)=c.val.toList:=by
   rw [← List.drop_drop];show List.drop _ (c.key.toList ++ c.val.toList)=_;rw [← e1,List.drop_left]
  rw [e,List.take_of_length_le (by omega),zbD]
 have hp:zfB (baL (zaM c))=c:=by
  unfold zfB;rw [b0,b1,hz,hk,hv,g0.2]
 have hb:¬ BadC (baL (zaM c)):=by
  unfold BadC;rw [b0,b1,hz];omega
 unfold rdC;rw [zkX hb (by rw [hp];exact h),hp]
def addD (g:Lg)(d:Dk)(c:List Ch):Dk × Int :=
 if 14<c.length then (d,2) else if g.many - g.used<c.length+1 then (d,7) else if za1 c≠0 then (d,za1 c)
 else if (layD d (g.start+g.used) (List.replicate (min (c.length+2) (g.many - g.used)) ⟨#[]⟩)).2≠0 then layD d (g.start+g.used) (List.replicate (min (c.length+2) (g.many - g.used)) ⟨#[]⟩)
 else layD (layD d (g.start+g.used) (List.replicate (min (c.length+2) (g.many - g.used)) ⟨#[]⟩)).1 (g.start+g.used) (zeg g.first g.used c c.length)
def addG (g:Lg)(d:Dk)(c:List Ch):Lg:=if (addD g d c).2=0 then { g with used:=g.used+c.length+1 } else g
theorem zjQ (d:Dk)(a:Nat)(l:List ByteArray)(hup:d.down=false)(hfree:d.left<0)(hl:a+l.length≤d.now.length)(hs:∀ s ∈ l,s.size≤40) :
 (layD d a l).2=0∧(layD d a l).1.now=zgt d.now a (l.map padD)∧(layD d a l).1.down=false∧(layD d a l).1.left=d.left∧(layD d a l).1.wr=[]∧zdt (layD d a l).1:=by
 unfold layD;rcases zgU l d a hup hl hs with ⟨k0,km,kl⟩ | ⟨k8,kf,kd,kk,kw⟩
 · rw [if_pos k0]
   rcases ze0 _ km.up with ⟨h8,hl0,hst⟩ | ⟨h0,hl0,hnow,hkept,hwr,hbit,hdn,hleft⟩
   · have:=kl hfree;omega
   · have e:zaO (zap d a l).1={ zaK (zap d a l).1 with kept:=(zap d a l).1.now,wr:=[],bit:=0 }:=by unfold zaO;rw [if_pos h0]
     simp only [e];refine ⟨h0,by rw [← km.now];exact hnow,hdn,?_,trivial,⟨hnow.symm,rfl,hdn⟩⟩;show (zaK (zap d a l).1).left=d.left;rw [hleft,kl hfree,if_neg (by omega)]
 · omega
theorem zsy {g:Lg}{D:List (List Ch)}(hg:LgOk g)(hf:1≤g.first)(hin:g.start+g.many≤d.now.length)(hup:d.down=false)(hfree:d.left<0)(h14:¬ 14<c.length)(hroom:¬ g.many - g.used<c.length+1)(hok:za1 c=0)
 (hlog:zcv rdC d.now g.start g.many g.first=(D,g.used)) :
 (addD g d c).2=0∧(addD g d c).1.down=false∧(addD g d c).1.left=d.left∧(addD g d c).1.wr=[]∧(addD g d c).1.now.length=d.now.length∧zcv rdC (addD g d c).1.now g.start g.many g.first=(D ++ [c],g.used+c.length+1):=by
 have h1:=hg.start;have h2:=hg.used;have h3:=hg.first;unfold addD;rw [if_neg h14,if_neg hroom,if_neg (by simpa using hok)];obtain ⟨m,hm⟩:∃ m,m=min (c.length+2) (g.many - g.used):=⟨_,rfl⟩
 rw [← hm];obtain ⟨k1,k2,k3,k4,k5,k6⟩:=zjQ d (g.start+g.used) (List.replicate m ⟨#[]⟩) hup hfree (by simp;omega) (by intro s hs;rw [List.eq_of_mem_replicate hs];decide);rw [if_neg (by simpa using k1)];have hl1:(layD d (g.start+g.used) (List.replicate m ⟨#[]⟩)).1.now.length=d.now.length:=by rw [k2,zbx]
 obtain ⟨q1,q2,q3,q4,q5,q6⟩:=zjQ (layD d (g.start+g.used) (List.replicate m ⟨#[]⟩)).1 (g.start+g.used) (zeg g.first g.used c c.length) k3 (by rw [k4];exact hfree) (by rw [hl1,zcg];omega) (zdc _ _ _ _ (zb5 hok));refine ⟨q1,q3,by rw [q4,k4],q5,by rw [q2,zbx,hl1],?_⟩;rw [q2,k2,zhg,List.map_replicate];have e:padD ⟨#[]⟩=blank:=by decide
 rw [e];exact zpI rdC (zl4 hf (by omega)) (by omega) hin hm (by omega) hlog (fun x hx=>⟨zh6 (zb5 hok x hx),by have:=zc9 (zb5 hok x hx);omega⟩)
end Go.Proofs.YtihnghnafpgdfadGreatDoor
namespace Go.Proofs.YtihnghnafpgdfadGreatDoor
open Go.RowKit Go.BigFrame
variable {B C a b base few first from' i j k lo lo' m many n num oc size u:Nat}{s t:List UInt8}{L R now y:List (List UInt8)}{W w w' w4 wr wx:World}{p p':Dp}{D d:Dk}{T e:TypeId}{v v' vd vo:Value}{P:List zcn}{c opn:List Ch}{oa:Option Addr}{fr:Nat × Nat}{l:List ByteArray}{z:Int}
def dOwn (p:Dp)(k:Nat):Prop:=k=p.B∨k=p.gn∨k=p.gk∨p.wv.ownBlock=some k
theorem Near.touch (h:Near p w w'):zat (dOwn p) w w':=⟨h.os,h.tape,h.output,h.size,fun k hk hn=>h.block k hk (fun e=>hn (.inl e)) (fun e=>hn (.inr (.inl e))) (fun e=>hn (.inr (.inr (.inl e)))) (fun e=>hn (.inr (.inr (.inr e))))⟩
theorem zat.step {a b c:World}(h:zat (dOwn p) a b)(k:zat (dOwn p') b c)(hB:p'.B=p.B)(hn:p'.gn=p.gn)(hk:p'.gk=p.gk)(hv:zbw p a p'.wv):zat (dOwn p) a c :=
 ⟨k.os.trans h.os,k.tape.trans h.tape,k.output.trans h.output,Nat.le_trans h.size k.size,fun i hi hno=>by
  refine (k.block i (Nat.lt_of_lt_of_le hi h.size) (fun ho=>?_)).trans (h.block i hi hno);rcases ho with e | e | e | e
  · exact hno (.inl (by rw [e,hB]))
  · exact hno (.inr (.inl (by rw [e,hn])))
  · exact hno (.inr (.inr (.inl (by rw [e,hk]))))
  · rcases hv i e with e | e
    · exact hno (.inr (.inr (.inr e)))
    · omega⟩
theorem zab.kind (h:zab w p d)(hk:dOwn p k):∃ C T fr,w.heap[k]?=some (.cells C T fr)∧(T=78∨T=84∨T=86):=by
 rcases hk with rfl | rfl | rfl | hk
 · exact ⟨_,_,_,h.blk,.inl rfl⟩
 · exact ⟨_,_,_,h.now,.inr (.inl rfl)⟩
 · exact ⟨_,_,_,h.kept,.inr (.inl rfl)⟩
 · obtain ⟨c,f,e⟩:=Lib.ownsRow_kind h.wr k hk;exact ⟨c,_,f,e,.inr (.inr rfl)⟩
theorem zat.other (h:zat (dOwn p) w w')(hd:zab w p d){C:Array Value}(hk:w.heap[k]?=some (.cells C T fr))(hT:T≠78∧T≠84∧T≠86):w'.heap[k]?=w.heap[k]? :=
 h.block k (Array.getElem?_eq_some_iff.1 hk).1 (fun ho=>by
  obtain ⟨C',T',fr',e,hT'⟩:=hd.kind ho;rw [hk] at e;simp at e;rcases hT' with e' | e' | e'
  · exact hT.1 (by rw [e.2.1,e'])
  · exact hT.2.1 (by rw [e.2.1,e'])
  · exact hT.2.2 (by rw [e.2.1,e']))
theorem zba.touch {g:Lg}(h:zba w b g)(hd:zab w p d)(ht:zat (dOwn p) w w'):zba w' b g:=by
 have:=ht.other hd h (by decide);unfold zba at h ⊢;rw [this];exact h
theorem za0.touch (h:za0 w B v l)(hd:zab w p d)(ht:zat (dOwn p) w w'):za0 w' B v l :=
 zaj h (fun g hg=>by obtain ⟨c,f,e⟩:=Lib.ownsRow_kind h g hg;exact ht.other hd e (by decide))
theorem zig (hi:i<l.length):zap d (a+i) (l.drop i)=if zcd d ((a+i:Nat):Int) l[i]=0 then zap (zaN d ((a+i:Nat):Int) l[i]) (a+(i+1)) (l.drop (i+1)) else (zaN d ((a+i:Nat):Int) l[i],zcd d ((a+i:Nat):Int) l[i]):=by
 rw [List.drop_eq_getElem_cons hi,zap]
 rfl
theorem zhP (d:Dk)(k:Int)(s:ByteArray):(zaN d k s).wr.length≤d.wr.length+1:=by
 unfold zaN;have h:=(zbU d).2.2.1
 split
 · omega
 · split
   · simp
   · rw [h];omega
structure ztB (w w':World)(b:Nat)(g:Lg)(p:Dp)(u:Value)(D:Dk)(few:Nat):Prop where
 disk:zab w' { p with wv:=u } D
 touch:zat (dOwn p) w w'
 new:zbw p w u
 log:zba w' b g
 few:D.wr.length≤few
theorem zha (h:0≤z∧z≤1000000):IntKind.i64.wrap z=z:=by rw [IntKind.wrap_i64];omega
theorem zsH (a b i:Nat)(h:a+b+i≤1000000):IntKind.i64.wrap (IntKind.i64.wrap ((a:Int)+(b:Int))+(i:Int))=((a+b+i:Nat):Int):=by
 rw [zha (z:=(a:Int)+(b:Int)) (by omega),zha (by omega)];omega
theorem zuH (h:a+n<120)(hi:i<n):a+i<120:=by omega
theorem zab.drew (h:zab w p d):zab w.drew p d:=h.far fun k _=>rfl
theorem ztf {g:Lg}{u:Value}(h:ztB w wr b g p u D few)(hl:zba w b g)(hd:zab w p d)(k:Nat)(s:ByteArray)(hs:s.size≤1000)(hfew:few<120):
 Calls Tryz.prog 28 #[.pointer (some ⟨p.B,0,none⟩),.int .i64 k,.string s] wr.drew fun e w'=>e=.returned (errV (zcd D (k:Int) s))∧∃ v,ztB w w' b g p v (zaN D (k:Int) s) (few+1):=by
 refine (zdI { p with wv:=u } D (k:Int) s wr.drew h.disk.drew (by unfold maxLen;omega) (by have:=h.few;omega)).mono ?_;rintro e w5 ⟨he,u',hd5,hn5,hnew5⟩;have hT5:zat (dOwn { p with wv:=u }) wr w5:=⟨hn5.os,hn5.tape,hn5.output,hn5.size,fun k hk hno=>hn5.block k hk (fun e=>hno (.inl e)) (fun e=>hno (.inr (.inl e))) (fun e=>hno (.inr (.inr (.inl e)))) (fun e=>hno (.inr (.inr (.inr e))))⟩;have hT:zat (dOwn p) w w5:=h.touch.step hT5 rfl rfl rfl h.new;refine ⟨he,u',hd5,hT,fun k hk=>?_,hl.touch hd hT,?_⟩
 · rcases hnew5 k hk with e | e
   · exact h.new k e
   · exact .inr (Nat.le_trans h.touch.size e)
 · have:=zhP D (k:Int) s
   have:=h.few;omega
theorem zqm (b:Nat) (g:Lg) (p:Dp) (d:Dk) (B:Nat) (v:Value) (ss:List ByteArray) (w:World) (hl:zba w b g) (hg:LgOk g) (hd:zab w p d) (hB:g.dB=p.B) (hs:za0 w B v ss) (hfew:ss.length≤60) (hz:∀ s ∈ ss,s.size≤1000) (hwr:d.wr.length+ss.length<120) :
 Calls Tryz.prog 153 #[.pointer (some ⟨b,0,none⟩),v] w fun e w'=>e=.returned (errV (layD d (g.start+g.used) ss).2)∧∃ u,zab w' { p with wv:=u } (layD d (g.start+g.used) ss).1∧zat (dOwn p) w w'∧zbw p w u:=by
 have HL:Hid (zba w b g):=hl;have HD:Hid (zab w p d):=hd;have HBB:Hid (g.dB=p.B):=hB;have HS:Hid (za0 w B v ss):=hs;have HZ:Hid (∀ s ∈ ss,s.size≤1000):=hz;have h60:=hg.start;have hus:=hg.used;have HWR:Hid (d.wr.length+ss.length<120):=hwr;obtain ⟨sa,sc,rfl,-,-,-,-,-⟩:=za0.texts hs;clear hl hg hd hB hs hz hwr
 go_enter Tryz.func153,Tryz.ntmps153
 go_wp2_with fail
 go_loopg [10] (ss.length+1) (fun kx vi wr=>∃ (i:Nat) (u:Value) (D:Dk),vi=.int .i64 i∧i≤ss.length∧ss.length - i≤kx∧Hid (zap d (g.start+g.used) ss=zap D (g.start+g.used+i) (ss.drop i))∧Hid (ztB w wr b g p u D (d.wr.length+i)))
 case atStart=>exact ⟨0,p.wv,d,rfl,by omega,by omega,(rfl:zap d (g.start+g.used) ss=zap d (g.start+g.used+0) (ss.drop 0)),⟨HD.out,zat.refl _ _,(fun k hk=>.inl hk),HL.out,Nat.le_refl _⟩⟩
 case round =>
  obtain ⟨i,u,D,rfl,hi,hix,HW,HA⟩:=hrel
  by_cases hlt:i<ss.length
  · have hltz:(i:Int)<(ss.length:Int):=by omega
    obtain ⟨xa,xc,hxv,hstr,-⟩:=za0.texts (HS.out.touch HD.out HA.out.touch)
    injection hxv with e1 e2 e3
    subst e1 e3;obtain ⟨sb,so,rfl,sc0⟩:=hstr i hlt;have hsz:ss[i].size≤1000:=HZ.out _ (List.getElem_mem hlt);have HST:Hid _:=zig (d:=D) (a:=g.start+g.used) hlt;have KWr:Hid _:=ztf HA.out HL.out HD.out (g.start+g.used+i) ss[i] hsz (zuH HWR.out hlt)
    have KW:Hid (Calls Tryz.prog 28 #[.pointer (some ⟨p.B,0,none⟩),.int .i64 (IntKind.i64.wrap (IntKind.i64.wrap ((g.start:Int)+(g.used:Int))+(i:Int))),.string ss[i]] wr.drew fun e w'=>e=.returned (errV (zcd D ((g.start+g.used+i:Nat):Int) ss[i]))∧∃ v,ztB w w' b g p v (zaN D ((g.start+g.used+i:Nat):Int) ss[i]) (d.wr.length+i+1)):=by
     have e9:IntKind.i64.wrap (IntKind.i64.wrap ((g.start:Int)+(g.used:Int))+(i:Int))=((g.start+g.used+i:Nat):Int):=zsH g.start g.used i (by omega);show Calls _ _ _ _ _;rw [e9];exact KWr.out
    clear KWr;have keepH:Hid (∀ W,zba W b g→W.cell? ⟨b,0,none⟩=some (.pointer (some ⟨p.B,0,none⟩))∧W.cell? ⟨b,1,none⟩=some (.int .i64 g.start)∧W.cell? ⟨b,4,none⟩=some (.int .i64 g.used)):=fun W h=>⟨by have:=h.cells.1;rw [HBB.out] at this;exact this,h.cells.2.1,h.cells.2.2.2.2⟩
    obtain ⟨c0,c1,c4⟩:=keepH.out _ HA.out.log;have HLD:Hid (zba wr.drew b g):=HA.out.log;generalize zcd D ((g.start+g.used+i:Nat):Int) ss[i]=m at *;generalize zaN D ((g.start+g.used+i:Nat):Int) ss[i]=D' at *
    go_wp2_with fail
    go_region_held3 (fun W=>W.cell? ⟨b,0,none⟩=some (.pointer (some ⟨p.B,0,none⟩))∧W.cell? ⟨b,1,none⟩=some (.int .i64 g.start)∧W.cell? ⟨b,4,none⟩=some (.int .i64 g.used))
     (first | exact keepH.out _ HLD.out | exact keepH.out _ HA5.out.log)
     (first
       | (go_at_call 28
          refine Calls.mono KW.out ?_;rintro en w5 ⟨rfl,u',ha5⟩;have HA5:Hid _:=ha5;clear ha5))
    all_goals
     by_cases hm:m=0
     · have HW5:Hid (zap d (g.start+g.used) ss=zap D' (g.start+g.used+(i+1)) (ss.drop (i+1))):=by
        show _=_;rw [HW.out,HST.out,if_pos hm]
       rw [hm,zac rfl];go_wp2
       go_roundg (ss.length - (i+1))
       case measure=>omega
       case rel=>exact ⟨i+1,u',D',by go_num,by omega,Nat.le_refl _,HW5,HA5⟩
     · have HW5:Hid (layD d (g.start+g.used) ss=(D',m)):=by
        show _=_;have e:zap d (g.start+g.used) ss=(D',m):=by rw [HW.out,HST.out,if_neg hm]
        unfold layD;rw [e,if_neg hm]
       have HEV:Hid (errV m=.iface 90 (.int .i64 m)):=zak hm;rw [zak hm];go_wp2;go_ret;rw [HW5.out,HEV.out];exact ⟨rfl,u',HA5.out.disk,HA5.out.touch,HA5.out.new⟩
  · have HW5:Hid (zap d (g.start+g.used) ss=(D,0)):=by
     show _=_;rw [HW.out,List.drop_eq_nil_of_le (by omega)]
     rfl
    have HLA:Hid (layD d (g.start+g.used) ss=(zaO D,zb1 D)):=by
     show _=_;unfold layD;rw [HW5.out,if_pos rfl]
    obtain ⟨c0,c1,c2,c3,c4⟩:=HA.out.log.cells;rw [HBB.out] at c0;have KF:Hid _:=zdB { p with wv:=u } D wr HA.out.disk;clear c1 c2 c3 c4
    go_wp2_with fail
    refine Calls.mono KF.out ?_;rintro en w5 ⟨rfl,hd5,hn5⟩;have HT5:Hid (zat (dOwn p) w w5):=HA.out.touch.step hn5.touch rfl rfl rfl HA.out.new
    have HD5:Hid (∃ u',zab w5 { p with wv:=u' } (zaO D)∧zat (dOwn p) w w5∧zbw p w u'):=by
     unfold zgA at hd5
     split at hd5
     · exact ⟨_,hd5,HT5.out,fun k hk=>by cases hk⟩
     · exact ⟨_,hd5,HT5.out,HA.out.new⟩
    clear hd5 hn5;go_wp2;go_ret;rw [HLA.out];exact ⟨rfl,HD5.out⟩
structure zd1 (w wr:World)(g:Lg)(c:List Ch)(i:Nat)(v:Value):Prop where
 own:za0 wr w.heap.size v (zfq g.first g.used (c.take i))
 good:∀ j (hj:j<i) (h:j<c.length),zae c[j]=0
 below:Below w.heap.size w wr
theorem zd1.row {g:Lg}(h:zd1 w wr g c i v)(hi:i≤c.length):wr.ownsRow w.heap.size 9 1 v i ((zfq g.first g.used (c.take i)).map Value.string):=by
 have:=h.own;unfold za0 at this
 rw [zds,List.length_take,Nat.min_eq_left hi] at this
 exact this
theorem zd1.go {g:Lg}(h:zd1 w wr g c i v)(hb:Below wr.heap.size wr wx):zd1 w wx g c i v :=
 ⟨zaj h.own (fun k hk=>hb.block k (h.own.lt k hk).2),h.good,h.below.trans (hb.mono h.below.size)⟩
theorem zd1.more {g:Lg}(h:zd1 w wr g c i v)(hi:i<c.length)(hf:zae c[i]=0)(hg:wr.grownBy w4 v.ownBlock)
 (ho:w4.ownsRow w.heap.size 9 1 v' (i+1) ((zfq g.first g.used (c.take i)).map Value.string ++ [.string (baL (secL 111 (g.first+(g.used+i)) (zaM c[i])))])):zd1 w w4 g c (i+1) v':=by
 refine ⟨?_,fun j hj hjl=>?_,h.below.grown hg h.below.size (fun k hk=>(h.own.lt k hk).1)⟩
 · unfold za0
   rw [List.take_succ_eq_append_getElem hi,zkB,List.map_append,List.length_append,zds,List.length_take,Nat.min_eq_left (Nat.le_of_lt hi)];exact ho
 · by_cases e:j=i
   · subst e;exact hf
   · exact h.good j (by omega) hjl
theorem ztt (a i:Nat)(h:a+i≤1000000):IntKind.i64.wrap ((a:Int)+(i:Int))=((a+i:Nat):Int):=by
 rw [zha (by omega)];omega
theorem ztk {g:Lg}(h:zd1 w wr g c c.length v)(hg:wr.grownBy w4 v.ownBlock)
 (ho:w4.ownsRow w.heap.size 9 1 v' (c.length+1) ((zfq g.first g.used (c.take c.length)).map Value.string ++ [.string (baL (secL 99 (g.first+(g.used+c.length)) (leB 4 c.length)))])) :
 za0 w4 w.heap.size v' (zeg g.first g.used c c.length)∧Below w.heap.size w w4:=by
 refine ⟨?_,h.below.grown hg h.below.size (fun k hk=>(h.own.lt k hk).1)⟩;unfold za0;rw [zka,List.map_append,List.length_append,zds];rw [List.take_length] at ho;exact ho
theorem zow (b:Nat) (g:Lg) (a:Option Addr) (cap:Nat) (c:List Ch) (w:World) (hl:zba w b g) (hg:LgOk g) (hc:CC w a c) (hfew:c.length≤14) :
 Calls Tryz.prog 152 #[.pointer (some ⟨b,0,none⟩),.slice a c.length cap] w fun e w'=>Below w.heap.size w w'∧((za1 c≠0∧e=.returned (.tuple #[.slice none 0 0,errV (za1 c)]))∨(za1 c=0∧∃ v,e=.returned (.tuple #[v,.nilIface])∧za0 w' w.heap.size v (zeg g.first g.used c c.length))):=by
 have HL:Hid (zba w b g):=hl;have HC:Hid (CC w a c):=hc;have hst:=hg.start;have hus:=hg.used;have hfi:=hg.first;obtain ⟨i0,hif,hz0,hz1,hz2⟩:=info_parts Tryz.infoString;clear hl hg hc
 go_enter Tryz.func152,Tryz.ntmps152
 go_wp2_with fail
 go_loopg [13,6] (c.length+1) (fun kx vi v6 wr=>∃ (i:Nat),vi=.int .i64 i∧i≤c.length∧c.length - i≤kx∧Hid (zd1 w wr g c i v6))
 case atStart=>exact ⟨0,rfl,by omega,by omega,⟨World.ownsRow_nil _ _ _ _,fun j hj=>absurd hj (Nat.not_lt_zero _),Below.refl _ _⟩⟩
 case round =>
  obtain ⟨i,rfl,hi,hix,HM⟩:=hrel;have HLR:Hid (zba wr b g):=HL.out.below HM.out.below;obtain ⟨va,vc,hv⟩:=zcz (HM.out.row hi);subst hv
  by_cases hlt:i<c.length
  · have hltz:(i:Int)<(c.length:Int):=by omega
    obtain ⟨cb,co,rfl,c0,c1,c2⟩:=(HC.out.below HM.out.below) i hlt;obtain ⟨x,hx⟩:∃ x,x=c[i]:=⟨_,rfl⟩
    rw [← hx] at c0 c1 c2;have KB:Hid (∀ W,Calls _ _ _ W _):=fun W=>zio x W
    have HX:Hid (x=c[i]):=hx;clear hx;have KB2:Hid (∀ W,Calls Tryz.prog 192 #[x.v] W fun e w'=>e=.returned (.tuple #[.string (if zae x=0 then ⟨(zaM x).toArray⟩ else ⟨#[]⟩),errV (zae x)])∧Below W.heap.size W w'):=KB.out;clear KB
    by_cases hf:zae x=0
    · have HF:Hid (zae c[i]=0):=by show _=_;rw [← HX.out];exact hf
      rw [hf,zac rfl,if_pos rfl] at KB2;have hbl:(zaM x).length≤26:=zc9 hf
      have KS:Hid (∀ W,Below wr.heap.size wr W→Calls Tryz.prog 194 #[.pointer (some ⟨b,0,none⟩),.int .i64 ((g.used:Int)+(i:Int)),.string ⟨#[111]⟩,.string ⟨(zaM x).toArray⟩] W fun e w'=>e=.returned (.string (baL (secL 111 (g.first+(g.used+i)) (zaM x))))∧Below W.heap.size W w'):=fun W h=>by
       have:=zhk b g (g.used+i) 111 (zaM x) W (HLR.out.below h) (by omega) (by omega) (by omega);rw [show ((g.used+i:Nat):Int)=(g.used:Int)+(i:Int) by omega] at this
       exact this
      have HMO:Hid (∀ W w4 v',Below wr.heap.size wr W→W.grownBy w4 (Value.slice va i vc).ownBlock→w4.ownsRow w.heap.size 9 1 v' (i+1) ((zfq g.first g.used (c.take i)).map Value.string ++ [.string (baL (secL 111 (g.first+(g.used+i)) (zaM x)))])→zd1 w w4 g c (i+1) v'):=fun W w4 v' hb hg ho =>
       (HM.out.go hb).more hlt HF.out hg (by rw [← HX.out];exact ho)
      have HRO:Hid (∀ W,Below wr.heap.size wr W→W.ownsRow w.heap.size 9 1 (.slice va i vc) i ((zfq g.first g.used (c.take i)).map Value.string)):=fun W hb=>(HM.out.go hb).row hi
      have HLO:Hid (w.heap.size≤wr.heap.size):=HM.out.below.size;have hc4:Hid (∀ W,Below wr.heap.size wr W→W.cell? ⟨b,4,none⟩=some (.int .i64 g.used)):=fun W h=>(HLR.out.below h).cells.2.2.2.2
      generalize baL (secL 111 (g.first+(g.used+i)) (zaM x))=Z at *;generalize (⟨(zaM x).toArray⟩:ByteArray)=Y at *;have k1:∀ o,(wr.alloc o).heap.size=wr.heap.size+1:=fun o=>World.size_alloc _ _
      have KB3:Hid (∀ o,Calls Tryz.prog 192 #[x.v] (wr.alloc o) fun e w'=>e=.returned (.tuple #[.string Y,.nilIface])∧Below wr.heap.size wr w'):=fun o=>(KB2.out _).mono fun e w' ⟨he,hb⟩=>⟨he,((Below.refl wr.heap.size wr).alloc (Nat.le_refl _) o).trans (hb.mono (by rw [k1];omega))⟩
      clear KB2 HF hf k1
      go_wp2_with fail
      refine Calls.mono (KB3.out _) ?_;rintro e w2 ⟨rfl,hb2⟩;have h4:=hc4.out w2 hb2;have HB2:Hid (Below wr.heap.size wr w2):=hb2;clear hb2
      go_wp2_with fail
      refine Calls.mono (KS.out w2 HB2.out) ?_;rintro e w3 ⟨rfl,hb3⟩;have HB3:Hid (Below wr.heap.size wr w3):=HB2.out.trans (hb3.mono HB2.out.size);have HBX:Hid (∀ o,Below wr.heap.size wr (w3.alloc o)):=fun o=>HB3.out.alloc HB3.out.size _
      have HLX:Hid (∀ o,w.heap.size≤(w3.alloc o).heap.size):=fun o=>Nat.le_trans HLO.out (HBX.out o).size
      clear hb3 h4;have h63:i+1≤maxLen:=by unfold maxLen;omega
      go_wp2_with (at_builtin;refine wpList_append_own _ rfl _ _ 34 rfl w.heap.size 9 i0 _ 1 16 (by kernel_rfl) hif hz0 hz1 hz2 rfl (by decide) (.slice va i vc) i ((zfq g.first g.used (c.take i)).map Value.string) rfl (HRO.out _ (HBX.out _)) ⟨w3.heap.size,0,none⟩ 1 1 [.string Z] rfl rfl (zbz _ _ _) (zfL _) h63 (by omega) (HLX.out _) ?_;intro v' w4 hown4 hgrow4 hnil4;obtain ⟨xa,xc,rfl⟩:=zcz hown4;have HA:Hid _:=HMO.out _ _ _ (HBX.out _) hgrow4 hown4;clear hown4 hgrow4 hnil4)
      go_roundg (c.length - (i+1))
      case measure=>omega
      case rel=>exact ⟨i+1,by go_num,by omega,Nat.le_refl _,HA⟩
    · have HFL:Hid (za1 c=zae x):=by
       show _=_;rw [HX.out];exact zjS hlt (fun j hj=>HM.out.good j hj (by omega)) (by rw [← HX.out];exact hf)
      have HEV:Hid (errV (zae x)=.iface 90 (.int .i64 (zae x))):=zak hf;rw [zak hf,if_neg hf] at KB2;have HNZ:Hid (¬ zae x=0):=hf;have HB0:Hid (Below w.heap.size w wr):=HM.out.below;clear hf;generalize zae x=f at *
      go_wp2_with fail
      refine Calls.mono (KB2.out _) ?_;rintro e w2 ⟨rfl,hb2⟩;have HB2:Hid _:=hb2;clear hb2;go_wp2;go_ret2;refine ⟨HB0.out.trans (((Below.refl wr.heap.size wr).alloc (Nat.le_refl _) _).trans (HB2.out.mono ((Below.refl wr.heap.size wr).alloc (Nat.le_refl _) _).size) |>.mono HB0.out.size),.inl ⟨by rw [HFL.out];exact HNZ.out,by rw [HFL.out];exact congrArg (fun z=>Ending.returned (.tuple #[.slice none 0 0,z])) HEV.out.symm⟩⟩
  · have e : i=c.length:=by omega
    have HGOOD:Hid (za1 c=0):=by
     show _=_;refine zdT (fun y hy=>?_);obtain ⟨j,hj,rfl⟩:=List.getElem_of_mem hy;exact HM.out.good j (by omega) hj
    subst e;clear hlt;have KC:Hid (∀ W,Calls Tryz.prog 166 #[.int .i64 c.length] W fun e w'=>e=.returned (.string (baL (leB 4 c.length)))∧Below W.heap.size W w'):=fun W=>zf6 c.length W (by omega)
    have KS:Hid (∀ W,Below wr.heap.size wr W→Calls Tryz.prog 194 #[.pointer (some ⟨b,0,none⟩),.int .i64 (IntKind.i64.wrap ((g.used:Int)+(c.length:Int))),.string ⟨#[99]⟩,.string (baL (leB 4 c.length))] W fun e w'=>e=.returned (.string (baL (secL 99 (g.first+(g.used+c.length)) (leB 4 c.length))))∧Below W.heap.size W w'):=fun W h=>by
     have:=zhk b g (g.used+c.length) 99 (leB 4 c.length) W (HLR.out.below h) (by omega) (by omega) (by rw [zaT];omega);rw [ztt g.used c.length (by omega)];exact this
    have HAL:Hid (∀ W w4 v',Below wr.heap.size wr W→W.grownBy w4 (Value.slice va c.length vc).ownBlock→w4.ownsRow w.heap.size 9 1 v' (c.length+1) ((zfq g.first g.used (c.take c.length)).map Value.string ++ [.string (baL (secL 99 (g.first+(g.used+c.length)) (leB 4 c.length)))])→za0 w4 w.heap.size v' (zeg g.first g.used c c.length)∧Below w.heap.size w w4):=fun W w4 v' hb hg ho =>
     ztk (HM.out.go hb) hg ho
    have HRO:Hid (∀ W,Below wr.heap.size wr W→W.ownsRow w.heap.size 9 1 (.slice va c.length vc) c.length ((zfq g.first g.used (c.take c.length)).map Value.string)):=fun W hb=>(HM.out.go hb).row hi
    have HLO:Hid (w.heap.size≤wr.heap.size):=HM.out.below.size;have hc4:Hid (∀ W,Below wr.heap.size wr W→W.cell? ⟨b,4,none⟩=some (.int .i64 g.used)):=fun W h=>(HLR.out.below h).cells.2.2.2.2
    have h4:=hc4.out wr (Below.refl _ _);generalize baL (secL 99 (g.first+(g.used+c.length)) (leB 4 c.length))=Z at *;generalize baL (leB 4 c.length)=Y at *;have h63:c.length+1≤maxLen:=by unfold maxLen;omega
    have hby:(c.length+1) * 16≤140737488355328:=by omega
    go_wp2_with fail
    go_region_law
     (first
       | (rw [if_pos (by rfl)]
          refine zcr _ _ 34 rfl w.heap.size 9 i0 _ 1 16 Tryz.underlying34 hif hz0 hz1 hz2 rfl Nat.one_pos (.slice va c.length vc) c.length ((zfq g.first g.used (c.take c.length)).map Value.string) rfl (HRO.out _ (hbX.out _)) ⟨wb.heap.size,0,none⟩ 1 1 [.string Z] rfl rfl (zbz _ _ _) (zfL _) h63 hby (hloa.out _) ?_;intro v' w4 hown4 hgrow4 hnew4;obtain ⟨xa,xc,rfl⟩:=zcz hown4;have HA:Hid _:=HAL.out _ _ _ (hbX.out _) hgrow4 hown4;clear hown4 hgrow4 hnew4)
       | (go_simp
          go_at_call 166
          refine Calls.mono (KC.out _) ?_;rintro e wa ⟨rfl,hb⟩;have hbW:Hid (Below wr.heap.size wr wa):=⟨hb.os,hb.tape,hb.output,hb.size,hb.block⟩;have h4a:=hc4.out wa hbW.out;clear hb)
       | (go_simp
          go_at_call 194
          refine Calls.mono (KS.out _ hbW.out) ?_;rintro e wb ⟨rfl,hb⟩;have hbV:Hid (Below wr.heap.size wr wb):=hbW.out.trans (hb.mono hbW.out.size);have hbX:Hid (∀ o,Below wr.heap.size wr (wb.alloc o)):=fun o=>hbV.out.alloc hbV.out.size _
          have hloa:Hid (∀ o,w.heap.size≤(wb.alloc o).heap.size):=fun o=>Nat.le_trans HLO.out (hbX.out o).size
          clear hb))
    all_goals
     go_wp2;go_ret2;exact ⟨HA.out.2,.inr ⟨HGOOD.out,_,rfl,HA.out.1⟩⟩
theorem zkn (n:Nat)(hn:n≤60)(w:World):(Instr.makeSlice 34 (.int .i64 n) (.int .i64 n)).run Tryz.prog w=.ok (.slice (some ⟨w.heap.size,0,none⟩) n n) (w.alloc (.cells (List.replicate n (Value.string ⟨#[]⟩)).toArray 9)):=by
 obtain ⟨i0,hi,hz0,hz1,hz2⟩:=info_parts Tryz.infoString;have h:=run_make (P:=Tryz.prog) w 34 9 i0 _ (by kernel_rfl) hi hz0 .i64 .i64 n n (by omega) (Int.le_refl _) (by rw [hz2];omega) (by omega);rw [hz1,Int.toNat_natCast,Nat.mul_one] at h
 have e:madeCells (Value.string ⟨#[]⟩).cells n=(List.replicate n (Value.string ⟨#[]⟩)).toArray:=by
  apply Array.ext
  · simp [madeCells]
  · intro k h1 h2
    simp only [madeCells,Array.getElem_map,Array.getElem_range,List.getElem_toArray,List.getElem_replicate];have:(Value.string ⟨#[]⟩).cells=#[Value.string ⟨#[]⟩]:=rfl;rw [this];simp [Nat.mod_one]
 rw [e] at h;exact h
theorem zsr (w:World)(B n:Nat)(hB:B≤w.heap.size)(hn:n≤60):za0 (w.alloc (.cells (List.replicate n (Value.string ⟨#[]⟩)).toArray 9)) B (.slice (some ⟨w.heap.size,0,none⟩) n n) (List.replicate n ⟨#[]⟩):=by
 unfold za0;rw [List.map_replicate,List.length_replicate];refine ⟨by simp,.inr ⟨w.heap.size,n,(List.replicate n (Value.string ⟨#[]⟩)).toArray,rfl,hB,heap_alloc_new w _,Nat.le_refl _,by unfold maxLen;omega,by simp,by simp⟩⟩
structure zeO (w w':World)(b:Nat)(g:Lg)(p:Dp)(u:Value)(D:Dk):Prop where
 disk:zab w' { p with wv:=u } D
 touch:zat (fun k=>dOwn p k∨k=b) w w'
 new:zbw p w u
 log:zba w' b g
theorem zat.wide {S S':Nat→Prop}(h:zat S w w')(hS:∀ k,S k→S' k):zat S' w w':=⟨h.os,h.tape,h.output,h.size,fun k hk hn=>h.block k hk (fun e=>hn (hS k e))⟩
theorem zab.lts (h:zab w p d)(hk:k=p.B∨k=p.gn∨k=p.gk∨p.wv.ownBlock=some k):k<w.heap.size:=by
 rcases hk with rfl | rfl | rfl | hk
 · exact (Array.getElem?_eq_some_iff.1 h.blk).1
 · exact (Array.getElem?_eq_some_iff.1 h.now).1
 · exact (Array.getElem?_eq_some_iff.1 h.kept).1
 · exact (h.wr.lt k hk).2
theorem zab.below (h:zab w p d)(hb:Below w.heap.size w w'):zab w' p d:=h.far fun k hk=>hb.block k (h.lts hk)
theorem ziM (d:Dk)(a:Nat)(l:List ByteArray)(h:(layD d a l).2=0):(layD d a l).1.wr=[]:=by
 unfold layD at h ⊢
 split at h
 · rename_i h0
   rw [if_pos h0];simp only at h ⊢;unfold zaO;rw [if_pos h]
 · rename_i h0;exact absurd h h0
theorem zat.step2 {S:Nat→Prop}{a b c:World}(h:zat S a b)(k:zat (dOwn p') b c)(hS:∀ k,dOwn p k→S k)(hB:p'.B=p.B)(hn:p'.gn=p.gn)(hk:p'.gk=p.gk)(hv:zbw p a p'.wv):zat S a c :=
 ⟨k.os.trans h.os,k.tape.trans h.tape,k.output.trans h.output,Nat.le_trans h.size k.size,fun i hi hno=>by
  refine (k.block i (Nat.lt_of_lt_of_le hi h.size) (fun ho=>?_)).trans (h.block i hi hno);rcases ho with e | e | e | e
  · exact hno (hS _ (.inl (by rw [e,hB])))
  · exact hno (hS _ (.inr (.inl (by rw [e,hn]))))
  · exact hno (hS _ (.inr (.inr (.inl (by rw [e,hk])))))
  · rcases hv i e with e | e
    · exact hno (hS _ (.inr (.inr (.inr e))))
    · omega⟩
theorem ztS {g:Lg}{u:Value}(h:zeO w W b g p u D)(hg:LgOk g)(hB:g.dB=p.B)(B:Nat)(v:Value)(ss:List ByteArray)(hs:za0 W B v ss)(hfew:ss.length≤40)(hz:∀ s ∈ ss,s.size≤1000)(hwr:D.wr.length≤60):
 Calls Tryz.prog 153 #[.pointer (some ⟨b,0,none⟩),v] W fun e w'=>e=.returned (errV (layD D (g.start+g.used) ss).2)∧∃ u',zeO w w' b g p u' (layD D (g.start+g.used) ss).1∧∀ B' v' l,za0 W B' v' l→za0 w' B' v' l:=by
 refine (zqm b g { p with wv:=u } D B v ss W h.log hg h.disk hB hs (by omega) hz (by omega)).mono ?_;rintro e w' ⟨he,u',hd,ht,hn⟩
 exact ⟨he,u',⟨hd,h.touch.step2 ht (fun k hk=>.inl hk) rfl rfl rfl h.new,fun k hk=>by
  rcases hn k hk with e | e
  · exact h.new k e
  · exact .inr (Nat.le_trans h.touch.size e),h.log.touch h.disk ht⟩,fun B' v' l ho=>za0.touch ho h.disk ht⟩
theorem zeO.used {g:Lg}{u:Value}(h:zeO w W b g p u D)(n:Nat):zeO w (W.setCell ⟨b,4,none⟩ (.int .i64 n)) b { g with used:=n } p u D∧W.cell? ⟨b,4,none⟩=some (.int .i64 g.used)∧W.frozen? ⟨b,4,none⟩=false:=by
 obtain ⟨n1,n2,n3,n4⟩:=h.log.neDisk h.disk;have hs:∀ k,k≠b→(W.setCell ⟨b,4,none⟩ (.int .i64 n)).heap[k]?=W.heap[k]?:=fun k hk=>Below.heap_setCell W ⟨b,4,none⟩ _ k hk
 refine ⟨⟨h.disk.far fun k hk=>hs k ?_,⟨h.touch.os,h.touch.tape,h.touch.output,?_,fun k hk hno=>?_⟩,h.new,zaZ (w:=W) h.log 4 _⟩,h.log.cells.2.2.2.2,zaE h.log 4⟩
 · rcases hk with rfl | rfl | rfl | hk
   · exact Ne.symm n1
   · exact Ne.symm n2
   · exact Ne.symm n3
   · rintro rfl;exact n4 hk
 · have:(W.setCell ⟨b,4,none⟩ (.int .i64 n)).heap.size=W.heap.size:=World.size_setCell _ _ _
   rw [this];exact h.touch.size
 · rw [hs k (fun e=>hno (.inr e))]
   exact h.touch.block k hk hno
theorem zkR (b:Nat) (g:Lg) (p:Dp) (d:Dk) (a:Option Addr) (cap:Nat) (c:List Ch) (w:World) (hl:zba w b g) (hg:LgOk g) (hd:zab w p d) (hB:g.dB=p.B) (hc:CC w a c) (hfew:c.length≤1000) (hwr:d.wr.length≤60) :
 Calls Tryz.prog 112 #[.pointer (some ⟨b,0,none⟩),.slice a c.length cap] w fun e w'=>e=.returned (errV (addD g d c).2)∧∃ u,zeO w w' b (addG g d c) p u (addD g d c).1:=by
 have HL:Hid (zba w b g):=hl;have HD:Hid (zab w p d):=hd;have HBB:Hid (g.dB=p.B):=hB;have HG:Hid (LgOk g):=hg;have hst:=hg.start;have hus:=hg.used;have HSAME:Hid (∀ W,Below w.heap.size w W→∃ u,zeO w W b g p u d):=fun W h=>⟨p.wv,hd.below h,zat.of_below h,fun k hk=>.inl hk,hl.below h⟩
 by_cases h14:14<c.length
 · have e1:addD g d c=(d,2):=by unfold addD;rw [if_pos h14]
   have e2:addG g d c=g:=by unfold addG;rw [e1];rfl
   have h14z:(14:Int)<(c.length:Int):=by omega
   have ev:errV (addD g d c).2=.iface 90 (.int .i64 2):=by rw [e1];exact zak (show ¬ (2:Int)=0 by decide)
   rw [ev,e1,e2];clear hl hg hd hB hc ev e1 e2
   go_enter Tryz.func112,Tryz.ntmps112
   go_wp2;go_ret;exact ⟨rfl,HSAME.out _ (Below.refl _ _)⟩
 · have KR : Hid (∀ W,zba W b g→Calls Tryz.prog 110 #[.pointer (some ⟨b,0,none⟩)] W fun e w'=>e=.returned (.int .i64 ((g.many - g.used:Nat):Int))∧∃ n,w'=W.drewN n):=fun W h=>zg3 b g W h hg
   obtain ⟨room,hroom⟩:∃ r,r=g.many - g.used:=⟨_,rfl⟩
   have HRM:Hid (room=g.many - g.used):=hroom;rw [← hroom] at KR;have h14z:¬ (14:Int)<(c.length:Int):=by omega
   by_cases hfull:room<c.length+1
   · have e1:addD g d c=(d,7):=by unfold addD;rw [if_neg h14,if_pos (by omega)]
     have e2:addG g d c=g:=by unfold addG;rw [e1];rfl
     have hfz:(room:Int)<(c.length:Int)+1:=by omega
     have ev:errV (addD g d c).2=.iface 90 (.int .i64 7):=by rw [e1];exact zak (show ¬ (7:Int)=0 by decide)
     rw [ev,e1,e2];clear hl hg hd hB hc hroom ev e1 e2
     go_enter Tryz.func112,Tryz.ntmps112
     go_wp2_with fail
     refine Calls.mono (KR.out w HL.out) ?_;rintro e w1 ⟨rfl,n,rfl⟩;go_wp2;go_ret;exact ⟨rfl,HSAME.out _ (below_drewN (Below.refl _ _) n)⟩
   · have hfz:¬ (room:Int)<(c.length:Int)+1:=by omega
     have hrm:room≤60:=by omega
     have KDE:Hid (∀ W,Below w.heap.size w W→Calls _ _ _ W _):=fun W hb=>zow b g a cap c W (hl.below hb) hg (hc.below hb) (by omega)
     by_cases hfl:za1 c=0
     · obtain ⟨m,hm⟩:∃ m,m=min (c.length+2) room:=⟨_,rfl⟩
       have hm60:m≤40:=by omega
       have HR:Hid (addD g d c=if (layD d (g.start+g.used) (List.replicate m ⟨#[]⟩)).2≠0 then layD d (g.start+g.used) (List.replicate m ⟨#[]⟩) else layD (layD d (g.start+g.used) (List.replicate m ⟨#[]⟩)).1 (g.start+g.used) (zeg g.first g.used c c.length)):=by
        show _=_;unfold addD;rw [if_neg h14,if_neg (by omega),if_neg (by simpa using hfl),hm,HRM.out]
       have hdl:=zcg g.first c g.used c.length;have hsm:=zdc g.first c g.used c.length (zb5 hfl)
       have KDG:Hid (∀ W,Below w.heap.size w W→Calls Tryz.prog 152 #[.pointer (some ⟨b,0,none⟩),.slice a c.length cap] W fun e w'=>∃ va,∃ cap',e=.returned (.tuple #[.slice va (c.length+1) cap',.nilIface])∧za0 w' W.heap.size (.slice va (c.length+1) cap') (zeg g.first g.used c c.length)∧Below w.heap.size w w'):=fun W hb=>(KDE.out W hb).mono fun e w' ⟨hb2,h⟩=>by
        rcases h with ⟨h0,_⟩ | ⟨_,v,he,ho⟩
        · exact absurd hfl h0
        · obtain ⟨va,vc,hv⟩:=zcz ho
          rw [hdl] at hv;subst hv;exact ⟨va,vc,he,ho,hb.trans (hb2.mono hb.size)⟩
       have HAT:Hid (∀ W,Below w.heap.size w W→zeO w W b g p p.wv d):=fun W h=>⟨hd.below h,zat.of_below h,fun k hk=>.inl hk,hl.below h⟩
       generalize zeg g.first g.used c c.length=T at *
       have KL1:Hid (∀ W v,Below w.heap.size w W→za0 W w.heap.size v (List.replicate m ⟨#[]⟩)→Calls Tryz.prog 153 #[.pointer (some ⟨b,0,none⟩),v] W fun e w'=>e=.returned (errV (layD d (g.start+g.used) (List.replicate m ⟨#[]⟩)).2)∧∃ u',zeO w w' b g p u' (layD d (g.start+g.used) (List.replicate m ⟨#[]⟩)).1∧∀ B' v' l,za0 W B' v' l→za0 w' B' v' l):=fun W v hb ho =>
        ztS (HAT.out W hb) hg hB _ v _ ho (by simpa using hm60) (by intro s hs;rw [List.eq_of_mem_replicate hs];decide) hwr
       have KL2:Hid (∀ W u D B v,zeO w W b g p u D→D.wr=[]→za0 W B v T→Calls Tryz.prog 153 #[.pointer (some ⟨b,0,none⟩),v] W fun e w'=>e=.returned (errV (layD D (g.start+g.used) T).2)∧∃ u',zeO w w' b g p u' (layD D (g.start+g.used) T).1):=fun W u D B v h hw ho =>
        (ztS h hg hB _ v _ ho (by rw [hdl];omega) (fun s hs=>by have:=hsm s hs;omega) (by rw [hw];simp)).mono fun e w' ⟨he,u',h,_⟩=>⟨he,u',h⟩
       have HLEN:Hid _:=ziM d (g.start+g.used) (List.replicate m ⟨#[]⟩);generalize layD d (g.start+g.used) (List.replicate m ⟨#[]⟩)=R1 at *;obtain ⟨D1,n1⟩:=R1;simp only at HR KL1 HLEN;have KM:Hid (∀ W,(Instr.makeSlice 34 (.int .i64 m) (.int .i64 m)).run Tryz.prog W=.ok (.slice (some ⟨W.heap.size,0,none⟩) m m) (W.alloc (.cells (List.replicate m (Value.string ⟨#[]⟩)).toArray 9))):=fun W=>zkn m (by omega) W
       clear hl hg hd hB hc hroom hfl KDE hdl hsm;have hmz:(m:Int)=min ((c.length:Int)+1+1) (room:Int):=by omega
       have HMZ:Hid _:=hmz;clear hmz hm
       go_enter Tryz.func112,Tryz.ntmps112
       go_wp2_with fail
       refine Calls.mono (KR.out w HL.out) ?_;rintro e w1 ⟨rfl,n,rfl⟩
       go_wp2_with fail
       refine Calls.mono (KDG.out _ (below_drewN (Below.refl _ _) n)) ?_;rintro e w2 ⟨va,vc,rfl,ho2,hb2⟩;have HO2:Hid (za0 w2 (w.drewN n).heap.size (.slice va (c.length+1) vc) T):=ho2;have HB2:Hid _:=hb2;clear ho2 hb2
       go_wp2_with fail
       refine Calls.mono (KR.out w2 (HL.out.below HB2.out)) ?_;rintro e w3 ⟨rfl,n3,rfl⟩
       go_wp2_with fail
       rw [← HMZ.out,KM.out];have HB3:Hid (∀ o,Below w.heap.size w ((w2.drewN n3).alloc o)):=fun o=>(below_drewN HB2.out n3).alloc (below_drewN HB2.out n3).size o
       have HO3:Hid (∀ o,za0 ((w2.drewN n3).alloc o) (w.drewN n).heap.size (.slice va (c.length+1) vc) T):=fun o=>zaj (w:=w2) HO2.out (fun k hk=>((below_drewN (Below.refl w2.heap.size w2) n3).alloc (Nat.le_refl _) o).block k (HO2.out.lt k hk).2)
       have HO4:Hid (za0 ((w2.drewN n3).alloc (.cells (List.replicate m (Value.string ⟨#[]⟩)).toArray 9)) w.heap.size (.slice (some ⟨w2.heap.size,0,none⟩) m m) (List.replicate m ⟨#[]⟩)):=zsr (w2.drewN n3) w.heap.size m (below_drewN HB2.out n3).size (by omega);generalize (List.replicate m (Value.string ⟨#[]⟩)).toArray=Z at *;clear HMZ KM
       by_cases hn1:n1=0
       · rw [hn1,zac rfl] at KL1
         have HR2:Hid (addD g d c=layD D1 (g.start+g.used) T):=by show _=_;rw [HR.out,if_neg (by simpa using hn1)]
         have HW1:Hid (D1.wr=[]):=HLEN.out hn1;have HG2:Hid (addG g d c=if (layD D1 (g.start+g.used) T).2=0 then { g with used:=g.used+c.length+1 } else g):=by show _=_;unfold addG;rw [HR2.out]
         clear hn1 HR HLEN
         go_wp2_with fail
         refine Calls.mono (KL1.out _ _ (HB3.out _) HO4.out) ?_;rintro e w4 ⟨rfl,u4,ha4,hk4⟩;have HO5:Hid (za0 w4 (w.drewN n).heap.size (.slice va (c.length+1) vc) T):=hk4 _ _ _ (HO3.out _);have HA4:Hid (zeO w w4 b g p u4 D1):=ha4;have KL3:Hid _:=KL2.out w4 u4 D1 _ _ ha4 HW1.out HO5.out;clear ha4 hk4 KL1 KL2 HO3 HO4;generalize layD D1 (g.start+g.used) T=R2 at *;obtain ⟨D2,n2⟩:=R2;simp only at HR2 HG2 KL3
         by_cases hn2:n2=0
         · rw [hn2,zac rfl] at KL3
           go_wp2_with fail
           refine Calls.mono KL3.out ?_;rintro e w5 ⟨rfl,u5,ha5⟩;obtain ⟨ha6,c5,f5⟩:=ha5.used (g.used+c.length+1);have HA6:Hid _:=ha6;have HE6:Hid (((g.used+c.length+1:Nat):Int)=(g.used:Int)+((c.length:Int)+1)):=by show _=_;omega
           rw [HE6.out] at HA6;clear ha5 ha6;go_wp2;go_ret;rw [HR2.out,HG2.out,hn2,if_pos rfl];exact ⟨congrArg Ending.returned (zac rfl).symm,u5,HA6.out⟩
         · have HEV:Hid (errV n2=.iface 90 (.int .i64 n2)):=zak hn2
           rw [zak hn2] at KL3
           go_wp2_with fail
           refine Calls.mono KL3.out ?_;rintro e w5 ⟨rfl,u5,ha5⟩;have HA6:Hid _:=ha5;clear ha5;go_wp2;go_ret;rw [HR2.out,HG2.out,if_neg hn2];exact ⟨congrArg Ending.returned HEV.out.symm,u5,HA6.out⟩
       · have HEV:Hid (errV n1=.iface 90 (.int .i64 n1)):=zak hn1
         have HR2:Hid (addD g d c=(D1,n1)):=by show _=_;rw [HR.out,if_pos (by simpa using hn1)]
         have HG2:Hid (addG g d c=g):=by show _=_;unfold addG;rw [HR2.out];simp only;rw [if_neg hn1]
         rw [zak hn1] at KL1;clear hn1 HR HLEN
         go_wp2_with fail
         refine Calls.mono (KL1.out _ _ (HB3.out _) HO4.out) ?_;rintro e w4 ⟨rfl,u4,ha4,hk4⟩;have HA4:Hid (zeO w w4 b g p u4 D1):=ha4;clear ha4 hk4 KL1 KL2 HO3 HO4;go_wp2;go_ret;rw [HR2.out,HG2.out];exact ⟨congrArg Ending.returned HEV.out.symm,u4,HA4.out⟩
     · have e1:addD g d c=(d,za1 c):=by unfold addD;rw [if_neg h14,if_neg (by omega),if_pos hfl]
       have e2:addG g d c=g:=by unfold addG;rw [e1];simp only;rw [if_neg hfl]
       have HEV:Hid (errV (za1 c)=.iface 90 (.int .i64 (za1 c))):=zak hfl;rw [e1,e2]
       have KDF:Hid (∀ W,Below w.heap.size w W→Calls Tryz.prog 152 #[.pointer (some ⟨b,0,none⟩),.slice a c.length cap] W fun e w'=>e=.returned (.tuple #[.slice none 0 0,.iface 90 (.int .i64 (za1 c))])∧Below w.heap.size w w'):=fun W hb=>(KDE.out W hb).mono fun e w' ⟨hb2,h⟩=>by
        rcases h with ⟨_,he⟩ | ⟨h0,_⟩
        · exact ⟨by rw [← HEV.out];exact he,hb.trans (hb2.mono hb.size)⟩
        · exact absurd h0 hfl
       clear hl hg hd hB hc hroom e1 e2 hfl KDE;generalize za1 c=f at *
       go_enter Tryz.func112,Tryz.ntmps112
       go_wp2_with fail
       refine Calls.mono (KR.out w HL.out) ?_;rintro e w1 ⟨rfl,n,rfl⟩
       go_wp2_with fail
       refine Calls.mono (KDF.out _ (below_drewN (Below.refl _ _) n)) ?_;rintro e w2 ⟨rfl,hb2⟩;have HB2:Hid _:=hb2;clear hb2;go_wp2;go_ret;exact ⟨congrArg Ending.returned HEV.out.symm,HSAME.out _ HB2.out⟩
def Safe (lo:Nat)(w:World)(k:Nat):Prop:=k<lo∨∃ C T fr,w.heap[k]?=some (.cells C T fr)∧T≠78∧T≠84∧T≠86∧T≠208
structure zvd (lo:Nat)(w:World)(q:zcn):Prop where
 cc:CC w q.a q.l
 safe:∀ x,q.a=some x→q.l≠[]→Safe lo w x.block
structure zvf (lo:Nat)(w:World)(a:Option Addr)(cap:Nat)(P:List zcn):Prop where
 nil:a=none→cap=0
 cell:∀ i (h:i<P.length),∃ b off,a=some ⟨b,off,none⟩∧w.cell? ⟨b,off+i,none⟩=some P[i].v∧Safe lo w b
 parts:∀ q ∈ P,zvd lo w q
 few:∀ q ∈ P,q.l.length≤1000
theorem zti (b off i:Nat):(⟨b,off,none⟩:Addr).add i=⟨b,off+i,none⟩:=by
 by_cases h:i=0 <;> simp [Addr.add,h]
end Go.Proofs.YtihnghnafpgdfadGreatDoor
