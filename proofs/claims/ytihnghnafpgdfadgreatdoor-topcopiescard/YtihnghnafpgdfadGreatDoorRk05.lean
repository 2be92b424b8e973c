/- What the proofs stand on, part 5: LogFall. -/
import Derived.Test.YtihnghnafpgdfadGreatDoorRk04
set_option linter.unusedVariables false
set_option linter.unusedSimpArgs false
namespace Go.Proofs.YtihnghnafpgdfadGreatDoor
def leB:Nat→Nat→List UInt8
  | 0,_=>[]
  | k+1,n=>UInt8.ofNat (n % 256) :: leB k (n / 256)
def ofLE:List UInt8→Nat
  | []=>0
  | b :: l=>b.toNat+256 * ofLE l
theorem leB_length:∀ k n,(leB k n).length=k
  | 0,_=>rfl
  | k+1,n=>by simp [leB,leB_length k]
theorem ofLE_leB:∀ k n,ofLE (leB k n)=n % 256 ^ k
  | 0,n=>by simp [leB,ofLE,Nat.mod_one]
  | k+1,n=>by
    simp only [leB,ofLE,ofLE_leB k]
    have:(UInt8.ofNat (n % 256)).toNat=n % 256:=by simp
    rw [this,Nat.pow_succ,Nat.mul_comm (256 ^ k) 256,Nat.mod_mul]
theorem leB_inj {k n m:Nat}(hn:n<256 ^ k)(hm:m<256 ^ k)(h:leB k n=leB k m):n=m:=by
  have:=congrArg ofLE h
  rwa [ofLE_leB,ofLE_leB,Nat.mod_eq_of_lt hn,Nat.mod_eq_of_lt hm] at this
theorem leB_zero:∀ k,leB k 0=List.replicate k 0
  | 0=>rfl
  | k+1=>by simp [leB,leB_zero k,List.replicate_succ]
theorem ofLE_lt:∀ l:List UInt8,ofLE l<256 ^ l.length
  | []=>by simp [ofLE]
  | b :: l=>by
    have:=ofLE_lt l
    have hb:=b.toNat_lt
    simp only [ofLE,List.length_cons,Nat.pow_succ]
    omega
section
variable {C:Type} (rd:List UInt8→Option C)
def secOf (num:Nat)(s:List UInt8):Option (UInt8 × List UInt8) :=
  if (s.drop 1).take 4=leB 4 num∧ofLE ((s.drop 5).take 2)≤33 then some (s.headD 0,(s.drop 7).take (ofLE ((s.drop 5).take 2))) else none
structure Pl (C:Type) where
  deeds:List (List C)
  opn:List C
  used:Nat
def stepL (first i:Nat) (st:Pl C) (s:List UInt8):Option (Pl C) :=
  match secOf (first+i) s with
  | none=>none
  | some (k,t)=>if k=99∧t=leB 4 st.opn.length then some ⟨st.deeds ++ [st.opn],[],i+1⟩
    else if k=111 then (match rd t with
      | some c=>some ⟨st.deeds,st.opn ++ [c],st.used⟩
      | none=>none)
    else none
def runL (first:Nat):Nat→Pl C→List (List UInt8)→Pl C
  | _,st,[]=>st
  | i,st,s :: r=>match stepL rd first i st s with
    | some st'=>runL first (i+1) st' r
    | none=>st
def closedL (first:Nat)(l:List (List UInt8)):List (List C) × Nat:=((runL rd first 0 ⟨[],[],0⟩ l).deeds,(runL rd first 0 ⟨[],[],0⟩ l).used)
theorem stepL_cases {first i:Nat} {st st':Pl C} {s:List UInt8} (h:stepL rd first i st s=some st'):(st'=⟨st.deeds ++ [st.opn],[],i+1⟩)∨∃ c,st'=⟨st.deeds,st.opn ++ [c],st.used⟩:=by
  unfold stepL at h
  split at h
  · cases h
  · split at h
    · left;injection h with h;exact h.symm
    · split at h
      · split at h
        · right;injection h with h;exact ⟨_,h.symm⟩
        · cases h
      · cases h
theorem runL_mark (first:Nat):∀ (l:List (List UInt8)) (i:Nat) (st:Pl C),((runL rd first i st l).used=st.used∧(runL rd first i st l).deeds=st.deeds∧∀ j,(runL rd first i st (l.take j)).used=st.used∧(runL rd first i st (l.take j)).deeds=st.deeds) ∨
    ∃ j,0<j∧j≤l.length∧(runL rd first i st l).used=i+j∧∀ x,runL rd first i st (l.take j ++ x)=runL rd first (i+j) ⟨(runL rd first i st l).deeds,[],i+j⟩ x
  | [],i,st=>.inl ⟨rfl,rfl,fun j=>by simp [runL]⟩
  | s :: r,i,st=>by
    cases hs:stepL rd first i st s with
    | none=>exact .inl ⟨by simp [runL,hs],by simp [runL,hs],fun j=>by cases j <;> simp [runL,hs]⟩
    | some st' =>
      have e:runL rd first i st (s :: r)=runL rd first (i+1) st' r:=by simp [runL,hs]
      have e2:∀ y,runL rd first i st (s :: y)=runL rd first (i+1) st' y:=fun y=>by simp [runL,hs]
      rw [e]
      rcases runL_mark first r (i+1) st' with ⟨h1,h2,h3⟩ | ⟨j,hj,hjl,h1,h2⟩
      · rcases stepL_cases rd hs with h | ⟨c,h⟩
        · right
          refine ⟨1,Nat.one_pos,by simp,by rw [h1,h],fun x=>?_⟩
          show runL rd first i st (s :: ([] ++ x))=_
          rw [e2,h2,h]
          rfl
        · left
          subst h
          refine ⟨h1,h2,fun j=>?_⟩
          cases j with
          | zero=>simp [runL]
          | succ j=>rw [List.take_succ_cons,e2];exact h3 j
      · right
        refine ⟨j+1,Nat.succ_pos _,by simpa using hjl,by rw [h1];omega,fun x=>?_⟩
        rw [List.take_succ_cons,List.cons_append,e2,h2,show i+(j+1)=i+1+j by omega]
theorem closedL_from (first:Nat)(l:List (List UInt8)):∀ y,runL rd first 0 ⟨[],[],0⟩ (l.take (closedL rd first l).2 ++ y)=runL rd first (closedL rd first l).2 ⟨(closedL rd first l).1,[],(closedL rd first l).2⟩ y:=by
  intro y
  rcases runL_mark rd first l 0 ⟨[],[],0⟩ with ⟨h1,h2,h3⟩ | ⟨j,hj,hjl,h1,h2⟩
  · simp only [closedL,h1,h2]
    simp
  · have e:(closedL rd first l).2=j:=by simp only [closedL,h1];omega
    rw [e,h2 y]
    simp only [closedL,Nat.zero_add]
theorem closedL_le (first:Nat)(l:List (List UInt8)):(closedL rd first l).2≤l.length:=by
  rcases runL_mark rd first l 0 ⟨[],[],0⟩ with ⟨h1,h2,h3⟩ | ⟨j,hj,hjl,h1,h2⟩
  · simp only [closedL,h1];omega
  · simp only [closedL,h1];omega
theorem closedL_rest (first:Nat)(l:List (List UInt8))(k:Nat):(runL rd first (closedL rd first l).2 ⟨(closedL rd first l).1,[],(closedL rd first l).2⟩ ((l.drop (closedL rd first l).2).take k)).used=(closedL rd first l).2 ∧
    (runL rd first (closedL rd first l).2 ⟨(closedL rd first l).1,[],(closedL rd first l).2⟩ ((l.drop (closedL rd first l).2).take k)).deeds=(closedL rd first l).1:=by
  have h:=closedL_from rd first l (l.drop (closedL rd first l).2)
  rw [List.take_append_drop] at h
  rcases runL_mark rd first (l.drop (closedL rd first l).2) (closedL rd first l).2 ⟨(closedL rd first l).1,[],(closedL rd first l).2⟩ with ⟨h1,h2,h3⟩ | ⟨j,hj,hjl,h1,h2⟩
  · exact h3 k
  · rw [← h] at h1
    have:(closedL rd first l).2=(runL rd first 0 ⟨[],[],0⟩ l).used:=rfl
    omega
def blank:List UInt8:=List.replicate 40 0
theorem secOf_blank {num:Nat}(h:¬ num % 4294967296=0):secOf num blank=none:=by
  unfold secOf
  rw [if_neg]
  intro hh
  have e:(blank.drop 1).take 4=leB 4 0:=by rw [leB_zero];decide
  rw [e] at hh
  have h2:=congrArg ofLE hh.1
  rw [ofLE_leB,ofLE_leB] at h2
  simp at h2
  omega
theorem runL_blank {first i:Nat}(h:¬ (first+i) % 4294967296=0)(st:Pl C)(x:List (List UInt8)):runL rd first i st (blank :: x)=st:=by
  simp [runL,stepL,secOf_blank h]
theorem runL_blanked (first:Nat) (hf:∀ i,i<1000→¬ (first+i) % 4294967296=0):∀ (l y:List (List UInt8)) (i:Nat) (st:Pl C),y.length=l.length→i+l.length≤1000→(∀ k (h:k<l.length) (h2:k<y.length),y[k]=l[k]∨y[k]=blank) →
    (∀ k,(runL rd first i st (l.take k)).used=st.used∧(runL rd first i st (l.take k)).deeds=st.deeds)→(runL rd first i st y).used=st.used∧(runL rd first i st y).deeds=st.deeds
  | [],[],i,st,_,_,_,_=>by simp [runL]
  | s :: r,z :: q,i,st,hl,hi,hy,hk=>by
    have h0:=hy 0 (by simp) (by simp)
    simp only [List.getElem_cons_zero] at h0
    simp only [List.length_cons] at hl hi
    rcases h0 with h0 | h0
    · subst h0
      cases hs:stepL rd first i st z with
      | none=>simp [runL,hs]
      | some st' =>
        have e2:∀ y,runL rd first i st (z :: y)=runL rd first (i+1) st' y:=fun y=>by simp [runL,hs]
        have h1:=hk 1
        rw [List.take_succ_cons,e2] at h1
        simp only [List.take_zero,runL] at h1
        rw [e2]
        have:=runL_blanked first hf r q (i+1) st' (by omega) (by omega) (fun k h h2=>by have:=hy (k+1) (by simpa using h) (by simpa using h2);simpa only [List.getElem_cons_succ] using this) (fun k=>by
          have:=hk (k+1)
          rw [List.take_succ_cons,e2] at this
          rw [h1.1,h1.2]
          exact this)
        rw [this.1,this.2]
        exact h1
    · subst h0
      rw [runL_blank rd (hf i (by omega))]
      exact ⟨rfl,rfl⟩
def pad40 (l:List UInt8):List UInt8:=l ++ List.replicate (40 - l.length) 0
def secL (kind:UInt8)(num:Nat)(data:List UInt8):List UInt8:=kind :: (leB 4 num ++ (leB 2 data.length ++ data))
theorem secL_length (kind:UInt8)(num:Nat)(data:List UInt8):(secL kind num data).length=data.length+7:=by simp [secL,leB_length];omega
theorem secOf_secL (kind:UInt8)(num:Nat)(data:List UInt8)(h:data.length≤33):secOf num (pad40 (secL kind num data))=some (kind,data):=by
  have e1:(pad40 (secL kind num data)).drop 1=leB 4 num ++ (leB 2 data.length ++ (data ++ List.replicate (40 - (secL kind num data).length) 0)):=by simp [pad40,secL]
  have e5:(pad40 (secL kind num data)).drop 5=leB 2 data.length ++ (data ++ List.replicate (40 - (secL kind num data).length) 0):=by
    rw [show 5=1+4 from rfl,← List.drop_drop,e1,List.drop_append,leB_length]
    simp [leB_length]
  have e7:(pad40 (secL kind num data)).drop 7=data ++ List.replicate (40 - (secL kind num data).length) 0:=by
    rw [show 7=5+2 from rfl,← List.drop_drop,e5,List.drop_append,leB_length]
    simp [leB_length]
  have t1:((pad40 (secL kind num data)).drop 1).take 4=leB 4 num:=by
    rw [e1,List.take_append_of_le_length (by rw [leB_length];omega),List.take_of_length_le (by rw [leB_length];omega)]
  have t5:ofLE (((pad40 (secL kind num data)).drop 5).take 2)=data.length:=by
    rw [e5,List.take_append_of_le_length (by rw [leB_length];omega),List.take_of_length_le (by rw [leB_length];omega),ofLE_leB]
    omega
  have t0:(pad40 (secL kind num data)).headD 0=kind:=by simp [pad40,secL]
  unfold secOf
  rw [t1,t5,t0,e7,if_pos ⟨rfl,h⟩,List.take_append_of_le_length (by omega),List.take_of_length_le (by omega)]
def deedS (enc:C→List UInt8)(first:Nat):Nat→List C→Nat→List (List UInt8)
  | i,[],n=>[pad40 (secL 99 (first+i) (leB 4 n))]
  | i,c :: l,n=>pad40 (secL 111 (first+i) (enc c)) :: deedS enc first (i+1) l n
theorem deedS_length (enc:C→List UInt8)(first:Nat):∀ (l:List C) (i n:Nat),(deedS enc first i l n).length=l.length+1
  | [],i,n=>rfl
  | c :: l,i,n=>by simp [deedS,deedS_length enc first l]
variable {enc:C→List UInt8}
theorem runL_deed (first:Nat):∀ (l:List C) (i:Nat) (st:Pl C) (x:List (List UInt8)),(∀ c ∈ l,rd (enc c)=some c∧(enc c).length≤33) →
    runL rd first i st (deedS enc first i l (st.opn.length+l.length) ++ x)=runL rd first (i+l.length+1) ⟨st.deeds ++ [st.opn ++ l],[],i+l.length+1⟩ x
  | [],i,st,x,_=>by
    simp only [deedS,List.length_nil,Nat.add_zero,List.singleton_append,List.append_nil]
    have:stepL rd first i st (pad40 (secL 99 (first+i) (leB 4 st.opn.length)))=some ⟨st.deeds ++ [st.opn],[],i+1⟩:=by
      have h4:(leB 4 st.opn.length).length≤33:=by rw [leB_length];omega
      simp [stepL,secOf_secL 99 (first+i) _ h4]
    simp [runL,this]
  | c :: l,i,st,x,h=>by
    obtain ⟨h1,h2⟩:=h c (by simp)
    have hs:stepL rd first i st (pad40 (secL 111 (first+i) (enc c)))=some ⟨st.deeds,st.opn ++ [c],st.used⟩:=by
      simp [stepL,secOf_secL _ _ _ h2,h1]
    have ih:=runL_deed first l (i+1) ⟨st.deeds,st.opn ++ [c],st.used⟩ x (fun y hy=>h y (List.mem_cons_of_mem _ hy))
    simp only [deedS,List.cons_append,runL,hs,List.length_cons]
    have e1:(st.opn ++ [c]).length+l.length=st.opn.length+(l.length+1):=by simp;omega
    simp only [e1] at ih
    rw [ih,List.append_assoc,List.singleton_append,show i+1+l.length+1=i+(l.length+1)+1 by omega]
theorem runL_part (first:Nat) (hf:∀ i,i<1000→¬ (first+i) % 4294967296=0):∀ (l:List C) (i n:Nat) (st:Pl C) (y x:List (List UInt8)),(∀ c ∈ l,rd (enc c)=some c∧(enc c).length≤33)→i+l.length<1000→n=st.opn.length+l.length→y.length=l.length+1 →
    (∀ k (h:k<y.length) (h2:k<(deedS enc first i l n).length),y[k]=(deedS enc first i l n)[k]∨y[k]=blank)→(∃ k,∃ h:k<y.length,y[k]=blank)→(runL rd first i st (y ++ x)).used=st.used∧(runL rd first i st (y ++ x)).deeds=st.deeds
  | [],i,n,st,[z],x,_,hi,hn,hl,hy,⟨k,hk,hb⟩=>by
    have e:k=0:=by simpa using hk
    subst e
    simp only [List.getElem_cons_zero] at hb
    subst hb
    rw [List.singleton_append,runL_blank rd (hf i (by simp at hi;omega))]
    exact ⟨rfl,rfl⟩
  | c :: l,i,n,st,z :: q,x,hc,hi,hn,hl,hy,⟨k,hk,hb⟩=>by
    simp only [List.length_cons] at hi hl hn
    rw [List.cons_append]
    have h0:=hy 0 (by simp) (by simp [deedS])
    simp only [List.getElem_cons_zero,deedS] at h0
    obtain ⟨h1,h2⟩:=hc c (by simp)
    by_cases hz:z=blank
    · subst hz
      rw [runL_blank rd (hf i (by omega))]
      exact ⟨rfl,rfl⟩
    · have h0:z=pad40 (secL 111 (first+i) (enc c)):=by
        rcases h0 with h | h
        · exact h
        · exact absurd h hz
      have hs:stepL rd first i st z=some ⟨st.deeds,st.opn ++ [c],st.used⟩:=by
        rw [h0]
        simp [stepL,secOf_secL _ _ _ h2,h1]
      have ih:=runL_part first hf l (i+1) n ⟨st.deeds,st.opn ++ [c],st.used⟩ q x (fun y hy=>hc y (List.mem_cons_of_mem _ hy)) (by omega) (by simp;omega) (by omega)
        (fun k h h2=>by have:=hy (k+1) (by simpa using h) (by simpa [deedS] using h2);simpa only [List.getElem_cons_succ,deedS] using this)
        (by
          cases k with
          | zero=>exact absurd (by simpa using hb) hz
          | succ k=>exact ⟨k,by simpa using hk,by simpa using hb⟩)
      simp only [runL,hs]
      exact ih
end
end Go.Proofs.YtihnghnafpgdfadGreatDoor
namespace Go.Proofs.YtihnghnafpgdfadGreatDoor
def May (wr:List Wr)(kept k:List (List UInt8)):Prop:=k.length=kept.length∧∀ j,k[j]?=kept[j]?∨∃ x ∈ wr,x.spot=j∧k[j]?=some x.data
theorem May.refl (wr:List Wr)(kept:List (List UInt8)):May wr kept kept:=⟨rfl,fun j=>.inl rfl⟩
theorem keptBy_may (keep:Nat):∀ (wr:List Wr) (k:List (List UInt8)),May wr k (keptBy keep wr k)
  | [],k=>May.refl _ _
  | x :: l, k=>by
    obtain ⟨h1,h2⟩:=keptBy_may keep l (if bitSet keep x.bit=true then k.set x.spot x.data else k)
    refine ⟨?_,fun j=>?_⟩
    · rw [keptBy,h1];split <;> simp
    · rw [keptBy]
      rcases h2 j with h | ⟨y,hy,e,h⟩
      · rw [h]
        split
        · by_cases e:x.spot=j
          · subst e
            by_cases hl:x.spot<k.length
            · exact .inr ⟨x,by simp,rfl,by simp [hl]⟩
            · exact .inl (by simp [hl])
          · exact .inl (by simp [e])
        · exact .inl rfl
      · exact .inr ⟨y,List.mem_cons_of_mem _ hy,e,h⟩
def laidL (now:List (List UInt8))(at':Nat):List (List UInt8)→List (List UInt8)
  | []=>now
  | s :: r=>laidL (now.set at' s) (at'+1) r
theorem laidL_length:∀ (l:List (List UInt8)) (now:List (List UInt8)) (a:Nat),(laidL now a l).length=now.length
  | [],_,_=>rfl
  | s :: r,now,a=>by rw [laidL,laidL_length r];simp
theorem laidL_at:∀ (l:List (List UInt8)) (now:List (List UInt8)) (a j:Nat),a+l.length≤now.length→(laidL now a l)[j]?=if a≤j∧j<a+l.length then l[j - a]? else now[j]?
  | [],now,a,j,h=>by
    rw [laidL,if_neg]
    simp <;> omega
  | s :: r,now,a,j,h=>by
    simp only [List.length_cons] at h
    rw [laidL,laidL_at r (now.set a s) (a+1) j (by simp;omega)]
    by_cases h1:a+1≤j∧j<a+1+r.length
    · rw [if_pos h1,if_pos (by simp;omega)]
      obtain ⟨i,rfl⟩:∃ i,j=a+1+i:=⟨j - (a+1),by omega⟩
      rw [show a+1+i - (a+1)=i by omega,show a+1+i - a=i+1 by omega,List.getElem?_cons_succ]
    · rw [if_neg h1]
      by_cases h2:j=a
      · subst h2
        rw [if_pos (by simp)]
        simp [show j<now.length by omega]
      · rw [if_neg (by simp;omega),List.getElem?_set_ne (Ne.symm h2)]
structure Clean (d:Dk):Prop where
  kept:d.kept=d.now
  wr:d.wr=[]
  up:d.down=false
structure Fell (d:Dk)(S:List (List UInt8)→Prop):Prop where
  down:d.down=true
  may:∀ keep,S (keptBy keep d.wr d.kept)
def writesD:Dk→Nat→List ByteArray→Dk × Int
  | d,_,[]=>(d,0)
  | d,a,s :: r=>if writeN d a s=0 then writesD (writeD d a s) (a+1) r else (writeD d a s,writeN d a s)
def layD (d:Dk)(a:Nat)(l:List ByteArray):Dk × Int :=
  if (writesD d a l).2=0 then (flushD (writesD d a l).1,stepN (writesD d a l).1) else writesD d a l
def Mixed (now:List (List UInt8))(a:Nat)(l:List (List UInt8))(k:List (List UInt8)):Prop :=
  k.length=now.length∧∀ j,k[j]?=now[j]?∨a≤j∧j<a+l.length∧k[j]?=l[j - a]?
theorem stepN_cases (d:Dk)(h:d.down=false):(stepN d=8∧d.left=0∧stepD d={ d with down:=true })∨(stepN d=0∧d.left≠0∧(stepD d).now=d.now∧(stepD d).kept=d.kept∧(stepD d).wr=d.wr∧(stepD d).bit=d.bit∧(stepD d).down=false∧(stepD d).left=if 0<d.left then d.left - 1 else d.left):=by
  unfold stepN stepD
  by_cases h0:d.left=0
  · exact .inl (by simp [h0])
  · refine .inr ?_
    by_cases h1:0<d.left
    · simp [h,h0,h1]
    · simp [h,h0,h1]
structure Midway (d0 d:Dk)(a:Nat)(l:List (List UInt8)):Prop where
  kept:d.kept=d0.kept
  up:d.down=false
  now:d.now=laidL d0.now a l
  wr:d.wr.length=d0.wr.length+l.length∧∀ x ∈ d.wr,x ∈ d0.wr∨a≤x.spot∧x.spot<a+l.length∧l[x.spot - a]?=some x.data
theorem writesD_any:∀ (l:List ByteArray) (d:Dk) (a:Nat),d.down=false→a+l.length≤d.now.length→(∀ s ∈ l,s.size≤40) →
    ((writesD d a l).2=0∧Midway d (writesD d a l).1 a (l.map padD)∧(d.left<0→(writesD d a l).1.left=d.left)) ∨
    ((writesD d a l).2=8∧0≤d.left∧(writesD d a l).1.down=true∧(writesD d a l).1.kept=d.kept∧∀ x ∈ (writesD d a l).1.wr,x ∈ d.wr∨a≤x.spot∧x.spot<a+l.length∧(l.map padD)[x.spot - a]?=some x.data)
  | [],d,a,hd,_,_=>.inl ⟨rfl,⟨rfl,hd,rfl,by simp [writesD],fun x hx=>.inl hx⟩,fun _=>rfl⟩
  | s :: r, d,a,hd,hl,hs=>by
    simp only [List.length_cons] at hl
    have hgood:¬ (¬ (0≤(a:Int)∧(a:Int)<(d.now.length:Int))∨40<s.size):=by
      have:=hs s (by simp)
      omega
    have e1:writeN d a s=stepN d:=by unfold writeN;rw [if_neg hgood]
    rcases stepN_cases d hd with ⟨h8,hl0,hst⟩ | ⟨h0,hl0,hnow,hkept,hwr,hbit,hdn,hleft⟩
    · right
      have e2:writeD d a s=stepD d:=by unfold writeD;rw [if_neg hgood,if_neg (by rw [h8];decide)]
      have e3:writesD d a (s :: r)=(stepD d,8):=by rw [writesD,e1,if_neg (by rw [h8];decide),e2,h8]
      rw [e3,hst]
      exact ⟨rfl,by omega,rfl,rfl,fun x hx=>.inl hx⟩
    · have e2 : writeD d a s={ stepD d with now:=d.now.set a (padD s),wr:=d.wr ++ [⟨a,d.bit,padD s⟩],bit:=(d.bit+1) % 64 }:=by unfold writeD;rw [if_neg hgood,if_pos h0];rfl
      have e3:writesD d a (s :: r)=writesD (writeD d a s) (a+1) r:=by rw [writesD,e1,if_pos h0]
      have hwl:(writeD d a s).left=if 0<d.left then d.left - 1 else d.left:=by rw [e2];exact hleft
      rw [e3]
      rcases writesD_any r (writeD d a s) (a+1) (by rw [e2];exact hdn) (by rw [e2];simp;omega) (fun x hx=>hs x (List.mem_cons_of_mem _ hx)) with ⟨k0,km,kl⟩ | ⟨k8,kf,kd,kk,kw⟩
      · left
        refine ⟨k0,⟨?_,km.up,?_,?_,?_⟩,fun hneg=>?_⟩
        · rw [km.kept,e2];exact hkept
        · rw [km.now,e2];rfl
        · rw [km.wr.1,e2];simp;omega
        · intro x hx
          rcases km.wr.2 x hx with h | ⟨h1,h2,h3⟩
          · rw [e2] at h
            simp at h
            rcases h with h | h
            · exact .inl h
            · subst h
              exact .inr ⟨Nat.le_refl _,by simp,by simp⟩
          · refine .inr ⟨by omega,by simp at h2 ⊢;omega,?_⟩
            rw [show x.spot - a=(x.spot - (a+1))+1 by omega]
            simpa using h3
        · rw [kl (by rw [hwl,if_neg (by omega)];exact hneg),hwl,if_neg (by omega)]
      · right
        refine ⟨k8,by rw [hwl] at kf;split at kf <;> omega,kd,by rw [kk,e2];exact hkept,fun x hx=>?_⟩
        rcases kw x hx with h | ⟨h1,h2,h3⟩
        · rw [e2] at h
          simp at h
          rcases h with h | h
          · exact .inl h
          · subst h
            exact .inr ⟨Nat.le_refl _,by simp,by simp⟩
        · refine .inr ⟨by omega,by simp at h2 ⊢;omega,?_⟩
          rw [show x.spot - a=(x.spot - (a+1))+1 by omega]
          simpa using h3
theorem may_mixed {wr:List Wr}{now k:List (List UInt8)}{a:Nat}{l:List (List UInt8)}(h:May wr now k)(hw:∀ x ∈ wr,a≤x.spot∧x.spot<a+l.length∧l[x.spot - a]?=some x.data):Mixed now a l k :=
  ⟨h.1,fun j=>by
    rcases h.2 j with e | ⟨x,hx,rfl,e⟩
    · exact .inl e
    · obtain ⟨h1,h2,h3⟩:=hw x hx
      exact .inr ⟨h1,h2,by rw [e,h3]⟩⟩
theorem layD_any (d:Dk) (a:Nat) (l:List ByteArray) (hc:Clean d) (hl:a+l.length≤d.now.length) (hs:∀ s ∈ l,s.size≤40) :
    ((layD d a l).2=0∧Clean (layD d a l).1∧(layD d a l).1.now=laidL d.now a (l.map padD)∧(d.left<0→(layD d a l).1.left=d.left)) ∨
    ((layD d a l).2=8∧0≤d.left∧Fell (layD d a l).1 (Mixed d.now a (l.map padD))):=by
  unfold layD
  rcases writesD_any l d a hc.up hl hs with ⟨k0,km,kl⟩ | ⟨k8,kf,kd,kk,kw⟩
  · rw [if_pos k0]
    rcases stepN_cases _ km.up with ⟨h8,hl0,hst⟩ | ⟨h0,hl0,hnow,hkept,hwr,hbit,hdn,hleft⟩
    · right
      have e:flushD (writesD d a l).1=stepD (writesD d a l).1:=by unfold flushD;rw [if_neg (by rw [h8];decide)]
      have hneg:¬ d.left<0:=fun h=>by have:=kl h;omega
      simp only [e,hst]
      refine ⟨h8,by omega,⟨rfl,fun keep=>?_⟩⟩
      show Mixed _ _ _ (keptBy keep (writesD d a l).1.wr (writesD d a l).1.kept)
      have:=keptBy_may keep (writesD d a l).1.wr (writesD d a l).1.kept
      rw [km.kept,hc.kept] at this
      rw [km.kept,hc.kept]
      refine may_mixed this (fun x hx=>?_)
      rcases km.wr.2 x hx with h | h
      · rw [hc.wr] at h;simp at h
      · exact h
    · left
      have e:flushD (writesD d a l).1={ stepD (writesD d a l).1 with kept:=(writesD d a l).1.now,wr:=[],bit:=0 }:=by unfold flushD;rw [if_pos h0]
      simp only [e]
      refine ⟨h0,⟨?_,rfl,hdn⟩,?_,fun hneg=>?_⟩
      · exact hnow.symm
      · rw [← km.now];exact hnow
      · show (stepD (writesD d a l).1).left=d.left
        rw [hleft,kl hneg,if_neg (by omega)]
  · right
    rw [if_neg (by rw [k8];decide)]
    refine ⟨k8,kf,⟨kd,fun keep=>?_⟩⟩
    have:=keptBy_may keep (writesD d a l).1.wr (writesD d a l).1.kept
    rw [kk,hc.kept] at this
    rw [kk,hc.kept]
    refine may_mixed this (fun x hx=>?_)
    rcases kw x hx with h | h
    · rw [hc.wr] at h;simp at h
    · simpa using h
end Go.Proofs.YtihnghnafpgdfadGreatDoor
namespace Go.Proofs.YtihnghnafpgdfadGreatDoor
def regionL (now:List (List UInt8))(from' many:Nat):List (List UInt8):=(now.drop from').take many
theorem regionL_length {now:List (List UInt8)}{from' many:Nat}(h:from'+many≤now.length):(regionL now from' many).length=many:=by simp [regionL];omega
theorem regionL_at {now:List (List UInt8)}{from' many j:Nat}:(regionL now from' many)[j]?=if j<many then now[from'+j]? else none:=by
  simp only [regionL,List.getElem?_take,List.getElem?_drop]
theorem regionL_laid {now L:List (List UInt8)} {from' many u:Nat} (h:from'+many≤now.length) (hu:u+L.length≤many) :
    regionL (laidL now (from'+u) L) from' many=(regionL now from' many).take u ++ (L ++ (regionL now from' many).drop (u+L.length)):=by
  apply List.ext_getElem?
  intro j
  have hR:=regionL_length h
  rw [regionL_at,laidL_at _ _ _ _ (by omega),List.getElem?_append,List.getElem?_append,List.length_take,hR,List.getElem?_take,List.getElem?_drop,regionL_at,regionL_at]
  by_cases h1:j<u
  · rw [if_pos (show j<many by omega),if_neg (by omega),if_pos (by omega),if_pos h1,if_pos (by omega)]
  · by_cases h2:j<u+L.length
    · rw [if_pos (show j<many by omega),if_pos (by omega),if_neg (by omega),if_pos (by omega)]
      congr 1;omega
    · by_cases h3:j<many
      · rw [if_pos h3,if_neg (by omega),if_neg (by omega),if_neg (by omega),if_pos (by omega)]
        congr 1;omega
      · rw [if_neg h3,if_neg (by omega),if_neg (by omega),if_neg (by omega)]
theorem regionL_mixed {now L k:List (List UInt8)} {from' many u:Nat} (h:from'+many≤now.length) (hu:u+L.length≤many) (hm:Mixed now (from'+u) L k) :
    ∃ y,y.length=L.length∧regionL k from' many=(regionL now from' many).take u ++ (y ++ (regionL now from' many).drop (u+L.length))∧∀ i (h1:i<y.length),y[i]?=(regionL now from' many)[u+i]?∨y[i]?=L[i]?:=by
  obtain ⟨hk,hm⟩:=hm
  have hR:=regionL_length h
  have hK:(regionL k from' many).length=many:=regionL_length (by omega)
  refine ⟨((regionL k from' many).drop u).take L.length,by simp [hK];omega,?_,fun i hi=>?_⟩
  · apply List.ext_getElem?
    intro j
    rw [List.getElem?_append,List.getElem?_append,List.length_take,hR,List.length_take,List.length_drop,hK]
    simp only [List.getElem?_take,List.getElem?_drop,regionL_at]
    by_cases h1:j<u
    · rw [if_pos (show j<many by omega),if_pos h1,if_pos (show j<many by omega),if_pos (show j<min u many by omega)]
      rcases hm (from'+j) with e | e
      · rw [e]
      · omega
    · by_cases h2:j<u+L.length
      · rw [if_neg (show ¬ j<min u many by omega),if_pos (show j - min u many<min L.length (many - u) by omega),if_pos (show j<many by omega),if_pos (show j - min u many<L.length by omega),if_pos (show u+(j - min u many)<many by omega)]
        congr 1;omega
      · by_cases h3:j<many
        · rw [if_neg (show ¬ j<min u many by omega),if_neg (show ¬ j - min u many<min L.length (many - u) by omega),if_pos h3,if_pos (show u+L.length+(j - min u many - min L.length (many - u))<many by omega)]
          rcases hm (from'+j) with e | e
          · rw [e];congr 1;omega
          · omega
        · rw [if_neg (show ¬ j<min u many by omega),if_neg (show ¬ j - min u many<min L.length (many - u) by omega),if_neg h3,if_neg (show ¬ u+L.length+(j - min u many - min L.length (many - u))<many by omega)]
  · have hi2:i<L.length:=by simp [hK] at hi;omega
    simp only [List.getElem?_take,List.getElem?_drop,regionL_at]
    rw [if_pos hi2,if_pos (show u+i<many by omega),if_pos (show u+i<many by omega)]
    rcases hm (from'+(u+i)) with e | ⟨_,_,e⟩
    · exact .inl e
    · refine .inr ?_
      rw [e];congr 1;omega
section
variable {C:Type} (rd:List UInt8→Option C)
def logOf (now:List (List UInt8))(from' many first:Nat):List (List C) × Nat:=closedL rd first (regionL now from' many)
theorem logOf_le {now:List (List UInt8)}{from' many first:Nat}(h:from'+many≤now.length):(logOf rd now from' many first).2≤many:=by
  have:=closedL_le rd first (regionL now from' many)
  rwa [regionL_length h] at this
theorem closed_of {first:Nat}{R y:List (List UInt8)}{D:List (List C)}{u:Nat}(h:closedL rd first R=(D,u)):closedL rd first (R.take u ++ y)=((runL rd first u ⟨D,[],u⟩ y).deeds,(runL rd first u ⟨D,[],u⟩ y).used):=by
  have:=closedL_from rd first R y
  rw [h] at this
  simp only at this
  simp only [closedL,this]
def FirstOk (first:Nat):Prop:=∀ i,i<1000→¬ (first+i) % 4294967296=0
theorem firstOk {first:Nat}(h1:1≤first)(h2:first≤4000000000):FirstOk first:=fun i hi=>by omega
variable {enc:C→List UInt8}
theorem log_blanking {now k:List (List UInt8)}{from' many first u m:Nat}{D:List (List C)}(hf:FirstOk first)(hmany:many≤1000)(h:from'+many≤now.length)(hu:u+m≤many)(hlog:logOf rd now from' many first=(D,u))
    (hk:Mixed now (from'+u) (List.replicate m blank) k):logOf rd k from' many first=(D,u):=by
  obtain ⟨y,hy,hreg,hyi⟩:=regionL_mixed h (by simpa using hu) hk
  have hR:=regionL_length h
  unfold logOf at hlog ⊢
  rw [hreg,closed_of rd hlog]
  have hrest:=closedL_rest rd first (regionL now from' many)
  rw [hlog] at hrest
  simp only [List.length_replicate] at hy hreg ⊢
  have:=runL_blanked rd first hf ((regionL now from' many).drop u) (y ++ (regionL now from' many).drop (u+m)) u ⟨D,[],u⟩ (by simp [hR];omega) (by simp [hR];omega) (fun i h1 h2=>by
    simp only [List.length_drop,hR] at h1
    by_cases hlt:i<m
    · have:=hyi i (by omega)
      rw [List.getElem_append_left (by omega)]
      rw [List.getElem?_eq_getElem (by omega),List.getElem?_eq_getElem (by omega),List.getElem?_replicate,if_pos hlt] at this
      simpa using this
    · left
      rw [List.getElem_append_right (by omega)]
      simp only [List.getElem_drop]
      congr 1;omega) hrest
  rw [this.1,this.2]
theorem log_laying {now k:List (List UInt8)}{from' many first u m:Nat}{D:List (List C)}{c:List C}(hf:FirstOk first)(hmany:many≤1000)(h:from'+many≤now.length)(hm:m=min (c.length+2) (many - u))(hu:u+c.length+1≤many)(hlog:logOf rd now from' many first=(D,u))
    (hc:∀ x ∈ c,rd (enc x)=some x∧(enc x).length≤33)
    (hk:Mixed (laidL now (from'+u) (List.replicate m blank)) (from'+u) (deedS enc first u c c.length) k):logOf rd k from' many first=(D,u)∨logOf rd k from' many first=(D ++ [c],u+c.length+1):=by
  have hR:=regionL_length h
  have hdl:=deedS_length enc first c u c.length
  obtain ⟨y,hy,hreg,hyi⟩:=regionL_mixed (by rw [laidL_length];exact h) (by rw [hdl];omega) hk
  rw [regionL_laid h (by simp;omega),hdl,List.length_replicate] at hreg
  rw [hdl] at hy
  have t1:((regionL now from' many).take u ++ (List.replicate m blank ++ (regionL now from' many).drop (u+m))).take u=(regionL now from' many).take u:=by
    rw [List.take_append_of_le_length (by simp [hR];omega),List.take_take,Nat.min_self]
  have t2:((regionL now from' many).take u ++ (List.replicate m blank ++ (regionL now from' many).drop (u+m))).drop (u+(c.length+1))=List.replicate (m - (c.length+1)) blank ++ (regionL now from' many).drop (u+m):=by
    rw [List.drop_append,List.length_take,hR,List.drop_eq_nil_of_le (by simp [hR];omega),List.nil_append,show u+(c.length+1) - min u many=c.length+1 by omega,List.drop_append_of_le_length (by simp;omega),List.drop_replicate]
  rw [t1,t2] at hreg
  have hyi2:∀ i (h1:i<y.length) (h2:i<(deedS enc first u c c.length).length),y[i]=(deedS enc first u c c.length)[i]∨y[i]=blank:=by
    intro i h1 h2
    have:=hyi i h1
    rw [regionL_laid h (by simp;omega),List.getElem?_append_right (by simp [hR];omega),List.length_take,hR,List.getElem?_append_left (by simp;omega),List.getElem?_replicate,if_pos (by omega),List.getElem?_eq_getElem h1,List.getElem?_eq_getElem h2] at this
    rcases this with e | e
    · right;simpa using e
    · left;simpa using e
  unfold logOf at hlog ⊢
  rw [hreg,closed_of rd hlog]
  by_cases hb:∃ i,∃ h1:i<y.length,y[i]=blank
  · left
    have:=runL_part (enc:=enc) rd first hf c u c.length ⟨D,[],u⟩ y (List.replicate (m - (c.length+1)) blank ++ (regionL now from' many).drop (u+m)) hc (by omega) (by simp) (by omega) hyi2 hb
    rw [this.1,this.2]
  · right
    have e:y=deedS enc first u c c.length:=List.ext_getElem (by rw [hy,hdl]) (fun i h1 h2=>by
      rcases hyi2 i h1 h2 with e | e
      · exact e
      · exact absurd ⟨i,h1,e⟩ hb)
    rw [e]
    have hrun:=runL_deed (enc:=enc) rd first c u ⟨D,[],u⟩ (List.replicate (m - (c.length+1)) blank ++ (regionL now from' many).drop (u+m)) hc
    simp only [List.length_nil,Nat.zero_add,List.nil_append] at hrun
    rw [hrun]
    by_cases h1:m=c.length+1
    · have e2:(regionL now from' many).drop (u+m)=[]:=List.drop_eq_nil_of_le (by rw [hR];omega)
      rw [e2,h1,Nat.sub_self]
      rfl
    · have e2:m - (c.length+1)=0+1:=by omega
      rw [e2,List.replicate_succ,List.cons_append,runL_blank rd (hf _ (by omega))]
theorem mixed_all (now:List (List UInt8))(a:Nat)(L:List (List UInt8))(h:a+L.length≤now.length):Mixed now a L (laidL now a L):=by
  refine ⟨laidL_length _ _ _,fun j=>?_⟩
  rw [laidL_at _ _ _ _ h]
  split
  · rename_i h1;exact .inr ⟨h1.1,h1.2,rfl⟩
  · exact .inl rfl
theorem log_laid {now:List (List UInt8)}{from' many first u m:Nat}{D:List (List C)}{c:List C}(hf:FirstOk first)(hmany:many≤1000)(h:from'+many≤now.length)(hm:m=min (c.length+2) (many - u))(hu:u+c.length+1≤many)(hlog:logOf rd now from' many first=(D,u))
    (hc:∀ x ∈ c,rd (enc x)=some x∧(enc x).length≤33) :
    logOf rd (laidL (laidL now (from'+u) (List.replicate m blank)) (from'+u) (deedS enc first u c c.length)) from' many first=(D ++ [c],u+c.length+1):=by
  have hR:=regionL_length h
  have hdl:=deedS_length enc first c u c.length
  unfold logOf at hlog ⊢
  rw [regionL_laid (by rw [laidL_length];exact h) (by rw [hdl];omega),regionL_laid h (by simp;omega),hdl,List.length_replicate]
  have t1:((regionL now from' many).take u ++ (List.replicate m blank ++ (regionL now from' many).drop (u+m))).take u=(regionL now from' many).take u:=by
    rw [List.take_append_of_le_length (by simp [hR];omega),List.take_take,Nat.min_self]
  have t2:((regionL now from' many).take u ++ (List.replicate m blank ++ (regionL now from' many).drop (u+m))).drop (u+(c.length+1))=List.replicate (m - (c.length+1)) blank ++ (regionL now from' many).drop (u+m):=by
    rw [List.drop_append,List.length_take,hR,List.drop_eq_nil_of_le (by simp [hR];omega),List.nil_append,show u+(c.length+1) - min u many=c.length+1 by omega,List.drop_append_of_le_length (by simp;omega),List.drop_replicate]
  rw [t1,t2,closed_of rd hlog]
  have hrun:=runL_deed (enc:=enc) rd first c u ⟨D,[],u⟩ (List.replicate (m - (c.length+1)) blank ++ (regionL now from' many).drop (u+m)) hc
  simp only [List.length_nil,Nat.zero_add,List.nil_append] at hrun
  rw [hrun]
  by_cases h1:m=c.length+1
  · have e2:(regionL now from' many).drop (u+m)=[]:=List.drop_eq_nil_of_le (by rw [hR];omega)
    rw [e2,h1,Nat.sub_self]
    rfl
  · have e2:m - (c.length+1)=0+1:=by omega
    rw [e2,List.replicate_succ,List.cons_append,runL_blank rd (hf _ (by omega))]
end
end Go.Proofs.YtihnghnafpgdfadGreatDoor
