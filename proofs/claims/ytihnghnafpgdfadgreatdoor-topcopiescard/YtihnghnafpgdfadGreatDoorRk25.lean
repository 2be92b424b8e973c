/- What the proofs stand on, part 25: TopLogBase, StoreFall, StoreSaid, TopCrashBase, TrioPure, TrioState, ImageTold, ImagePure. -/
import Derived.Lib.AppendIntMem
import Derived.Test.YtihnghnafpgdfadGreatDoorRk24
import Derived.Test.YtihnghnafpgdfadGreatDoorRk23
import Derived.Test.YtihnghnafpgdfadGreatDoorRk15
import Derived.Test.YtihnghnafpgdfadGreatDoorNums
set_option linter.unusedVariables false
set_option linter.unusedSimpArgs false
namespace Go.Proofs.YtihnghnafpgdfadGreatDoor
open Go.RowKit Go.BigFrame
theorem writesD_len:∀ (l:List ByteArray) (d:Dk) (a:Nat),(writesD d a l).1.wr.length≤d.wr.length+l.length
  | [],d,a=>by simp [writesD]
  | s :: r,d,a=>by
    have h1:=writeD_len d (a:Int) s
    have h2:=writesD_len r (writeD d (a:Int) s) (a+1)
    rw [writesD]
    split
    · simp only [List.length_cons];omega
    · simp only [List.length_cons];omega
theorem layD_len2 (d:Dk)(a:Nat)(l:List ByteArray):(layD d a l).1.wr.length≤d.wr.length+l.length:=by
  have h:=writesD_len l d a
  unfold layD
  split
  · show (flushD (writesD d a l).1).wr.length≤_
    unfold flushD
    have h3:=(stepD_rest (writesD d a l).1).2.2.1
    split
    · simp
    · rw [h3];exact h
  · exact h
theorem changeF_two (c:Ch):changeF c=0∨changeF c=2∨changeF c=3:=by
  unfold changeF
  split
  · exact .inr (.inr rfl)
  · split
    · exact .inr (.inl rfl)
    · exact .inl rfl
theorem faultL_two:∀ l:List Ch,faultL l=0∨faultL l=2∨faultL l=3
  | []=>.inl rfl
  | c :: l=>by
    unfold faultL
    split
    · exact faultL_two l
    · exact changeF_two c
end Go.Proofs.YtihnghnafpgdfadGreatDoor
namespace Go.Proofs.YtihnghnafpgdfadGreatDoor
open Go Go.RowKit Go.BigFrame
def dk (L:List (List UInt8)):Dk:=⟨L,L,[],0,-1,false⟩
structure KeptL (N:Nat)(L:List (List UInt8))(side used:Nat)(rows:List Ch):Prop where
  len:L.length=N
  sd:side≤1
  said:∃ rows0 D,whOf (dk L) side=some rows0∧logAtD (dk L) side=(D,used)∧foldRows rows0 D=some rows
  blank:side=0→L[1]?=some blank
structure KeptG (N:Nat)(L:List (List UInt8))(side used:Nat)(rows:List Ch):Prop where
  len:L.length=N
  sd:side≤1
  said:∃ rows0 D,laidX (whOf (dk L))=some (side,rows0)∧logAtD (dk L) side=(D,used)∧foldRows rows0 D=some rows
theorem KeptL.g {N side used:Nat}{L:List (List UInt8)}{rows:List Ch}(h:KeptL N L side used rows):KeptG N L side used rows:=by
  obtain ⟨r0,D,h1,h2,h3⟩:=h.said
  have hs:=h.sd
  refine ⟨h.len,h.sd,r0,D,?_,h2,h3⟩
  unfold laidX
  rcases (by omega:side=0∨side=1) with rfl | rfl
  · have hb:(dk L).now[1]?=some Go.Proofs.YtihnghnafpgdfadGreatDoor.blank:=h.blank rfl
    rw [whOf_blank hb,h1]
  · rw [h1]
theorem KeptG.opens {N side used:Nat}{L:List (List UInt8)}{rows:List Ch}(h:KeptG N L side used rows):openD (dk L)=some (side,rows,used):=by
  obtain ⟨r0,D,h1,h2,h3⟩:=h.said
  unfold openD
  rw [h1]
  simp only
  rw [h2]
  simp only
  rw [h3]
theorem Kept.l {N side used:Nat}{d:Dk}{rows:List Ch}(h:Kept N d side used rows):KeptL N d.now side used rows:=⟨h.free.len,h.sd,h.said,fun e=>by have:=h.blank;rw [e] at this;exact this⟩
theorem whOf_side {d d':Dk}{i:Nat}(h:∀ j,j=i∨(2+i * 12≤j∧j<14+i * 12)→d'.now[j]?=d.now[j]?):whOf d' i=whOf d i:=by
  have e1:headS d' i=headS d i:=by unfold headS;rw [List.getD_eq_getElem?_getD,List.getD_eq_getElem?_getD,h i (.inl rfl)]
  have e2:headC d' i=headC d i:=by unfold headC;rw [e1]
  by_cases h12:headC d i≤12
  · have e3:sideT d' i=sideT d i:=by
      unfold sideT
      rw [e2]
      congr 2
      apply List.ext_getElem?
      intro j
      rw [regionL_at,regionL_at]
      split
      · exact h _ (.inr (by omega))
      · rfl
    have e4:HeadOk d' i↔HeadOk d i:=by unfold HeadOk;rw [e1,e2,e3]
    unfold whOf
    by_cases hh:HeadOk d i
    · rw [if_pos hh,if_pos (e4.2 hh),e3,e2]
    · rw [if_neg hh,if_neg (fun x=>hh (e4.1 x))]
  · unfold whOf
    rw [if_neg (fun x=>h12 (by rw [← e2];exact x.1)),if_neg (fun x=>h12 x.1)]
theorem flat_inj:∀ {l m:List (List UInt8)},(∀ x ∈ l,x.length=40)→(∀ x ∈ m,x.length=40)→l.flatten=m.flatten→l=m
  | [],[],_,_,_=>rfl
  | [],y :: m,_,h2,h=>by
    have:=congrArg List.length h
    have hy:=h2 y (by simp)
    simp at this
    omega
  | x :: l,[],h1,_,h=>by
    have:=congrArg List.length h
    have hx:=h1 x (by simp)
    simp at this
    rw [this.1] at hx
    simp at hx
  | x :: l,y :: m,h1,h2,h=>by
    simp only [List.flatten_cons] at h
    obtain ⟨e1,e2⟩:=List.append_inj h (by rw [h1 x (by simp),h2 y (by simp)])
    rw [e1,flat_inj (fun z hz=>h1 z (by simp [hz])) (fun z hz=>h2 z (by simp [hz])) e2]
theorem region_rows {d:Dk}{i:Nat}{rows:List Ch}(hF:Forty d.now)(h:whOf d i=some rows)(hl:2+i * 12+12≤d.now.length):∀ j,j<rows.length→d.now[2+i * 12+j]?=(rows.map rowL)[j]?:=by
  unfold whOf at h
  split at h
  · rename_i hh
    obtain ⟨h1,h2,h3,h4⟩:=parseT_rows h
    have hc:=hh.1
    unfold sideT at h4
    rw [baL_list] at h4
    have e:rows.map rowL=regionL d.now (2+i * 12) (headC d i):=flat_inj (fun x hx=>by obtain ⟨c,hc,rfl⟩:=List.mem_map.1 hx;exact rowL_length (h2 c hc)) (fun x hx=>hF x (List.mem_of_mem_drop (List.mem_of_mem_take hx))) h4
    intro j hj
    rw [e,regionL_at,if_pos (by omega)]
  · cases h
theorem mixed_one {now k:List (List UInt8)}{a:Nat}{x:List UInt8}(h:Mixed now a [x] k)(ha:a<now.length):k=now∨(k.length=now.length∧∀ j,k[j]?=if j=a then some x else now[j]?):=by
  by_cases hk:k[a]?=some x
  · refine .inr ⟨h.1,fun j=>?_⟩
    by_cases hj:j=a
    · subst hj;rw [if_pos rfl];exact hk
    · rw [if_neg hj]
      rcases h.2 j with e | ⟨e1,e2,-⟩
      · exact e
      · simp at e2;omega
  · left
    apply List.ext_getElem?
    intro j
    rcases h.2 j with e | ⟨e1,e2,e3⟩
    · exact e
    · simp at e2
      have:j=a:=by omega
      subst this
      simp at e3
      exact absurd e3 hk
theorem laid_one {now:List (List UInt8)}{a:Nat}{x:List UInt8}(ha:a<now.length):(laidL now a [x]).length=now.length∧∀ j,(laidL now a [x])[j]?=if j=a then some x else now[j]?:=by
  refine ⟨laidL_length _ _ _,fun j=>?_⟩
  rw [laidL_at _ _ _ _ (by simp;omega)]
  by_cases hj:j=a
  · subst hj;rw [if_pos ⟨Nat.le_refl _,by simp⟩,if_pos rfl];simp
  · rw [if_neg (by simp;omega),if_neg hj]
theorem KeptL.rows {N side used:Nat}{L:List (List UInt8)}{rows:List Ch}(h:KeptL N L side used rows):Rowed rows∧(∀ c ∈ rows,changeF c=0)∧rows.length≤12:=by
  obtain ⟨r0,D,h1,h2,h3⟩:=h.said
  obtain ⟨a,b,c⟩:=whOf_rows h1
  refine foldRows_rowed a b c (fun l hl x hx=>?_) h3
  have e:D=(logAtD (dk L) side).1:=by rw [h2]
  rw [e] at hl
  exact (logOf_ok rdC rdC_ok l hl).1 x hx
theorem KeptL.usedLe {N side used:Nat}{L:List (List UInt8)}{rows:List Ch}(h:KeptL N L side used rows)(hN:42≤N):used≤N - 26:=by
  obtain ⟨r0,D,h1,h2,h3⟩:=h.said
  have:=logOf_le rdC (now:=L) (from':=26) (many:=L.length - 26) (first:=firstOf (dk L) side) (by rw [h.len];omega)
  have h2':logOf rdC L 26 (L.length - 26) (firstOf (dk L) side)=(D,used):=h2
  rw [h2',h.len] at this
  exact this
theorem KeptL.none {N side:Nat}{L:List (List UInt8)}{rows:List Ch}(h:KeptL N L side 0 rows):whOf (dk L) side=some rows∧logAtD (dk L) side=([],0):=by
  obtain ⟨r0,D,h1,h2,h3⟩:=h.said
  have hz:(closedL rdC (firstOf (dk L) side) (regionL L 26 (L.length - 26))).2=0:=by
    have:(logAtD (dk L) side).2=0:=by rw [h2]
    exact this
  have hD:D=[]:=by
    have e2:D=(logAtD (dk L) side).1:=by rw [h2]
    rw [e2];exact closedL_zero rdC hz
  subst hD
  simp only [foldRows] at h3
  cases h3
  exact ⟨h1,h2⟩
theorem KeptL.other {N side used:Nat}{L:List (List UInt8)}{rows:List Ch}(h:KeptL N L side used rows)(hN:42≤N)(hN2:N≤60)(hu:¬ used=0):logAtD (dk L) (1 - side)=([],0):=by
  obtain ⟨r0,D,h1,h2,h3⟩:=h.said
  have hs:=h.sd
  have hl:(dk L).now.length=N:=h.len
  have hp:0<(closedL rdC (firstOf (dk L) side) (regionL (dk L).now 26 ((dk L).now.length - 26))).2:=by
    have:(logAtD (dk L) side).2=used:=by rw [h2]
    unfold logAtD logOf at this
    omega
  obtain ⟨x,r,hx,hno⟩:=closedL_used rdC hp
  have h26:(dk L).now[26]?=some x:=by
    have:=regionL_at (now:=(dk L).now) (from':=26) (many:=(dk L).now.length - 26) (j:=0)
    rw [hx,if_pos (by omega)] at this
    simpa using this.symm
  refine logAt_none (by omega) h26 (secOf_other hno ?_ ?_ ?_)
  all_goals
    unfold firstOf
    rw [hl]
    rcases (by omega:side=0∨side=1) with e | e <;> rw [e] <;> simp <;> omega
theorem KeptL.same {N side used:Nat}{L k:List (List UInt8)}{rows:List Ch}(h:KeptL N L side used rows)(hl:k.length=L.length)(h1:k[1 - side]?=L[1 - side]?)(h2:∀ j,j=side∨(2+side * 12≤j∧j<14+side * 12)→k[j]?=L[j]?)(h3:∀ j,26≤j→k[j]?=L[j]?):KeptL N k side used rows:=by
  obtain ⟨r0,D,e1,e2,e3⟩:=h.said
  exact ⟨by rw [hl];exact h.len,h.sd,⟨r0,D,by rw [whOf_side (d:=dk L) (d':=dk k) h2];exact e1,by rw [logAt_congr (d:=dk L) (d':=dk k) hl h3];exact e2,e3⟩,fun e=>by rw [e] at h1;exact h1.trans (h.blank e)⟩
theorem rows_laying {N side used i:Nat} {d:Dk} {k:List (List UInt8)} {rows:List Ch} (h:KeptL N d.now side used rows) (hF:Forty d.now) (hN:42≤N) (hi:(i=side∧used=0)∨(i=1 - side∧¬ used=0)) (hk:Mixed d.now (2+i * 12) (rows.map rowL) k) :
    KeptL N k side used rows:=by
  obtain ⟨q1,q2,q3⟩:=h.rows
  have hs:=h.sd
  have hlen:=h.len
  have out:∀ j,¬ (2+i * 12≤j∧j<2+i * 12+rows.length)→k[j]?=d.now[j]?:=fun j hj=>by
    rcases hk.2 j with e | ⟨e1,e2,-⟩
    · exact e
    · rw [List.length_map] at e2;exact absurd ⟨e1,e2⟩ hj
  rcases hi with ⟨rfl,rfl⟩ | ⟨rfl,hu⟩
  · have hw:=h.none.1
    have hreg:=region_rows (d:=d) hF hw (by omega)
    have e:k=d.now:=by
      apply List.ext_getElem?
      intro j
      rcases hk.2 j with e | ⟨e1,e2,e3⟩
      · exact e
      · rw [List.length_map] at e2
        rw [e3,← hreg (j - (2+i * 12)) (by omega)]
        congr 1
        omega
    rw [e]
    exact h
  · have h2:(1 - side) * 12+side * 12=12:=by rcases (by omega:side=0∨side=1) with e | e <;> rw [e]
    have h3:(1 - side) * 12≤12:=by omega
    refine h.same hk.1 (out _ (by omega)) (fun j hj=>out j ?_) (fun j hj=>out j (by omega))
    rcases (by omega:side=0∨side=1) with e | e <;> subst e <;> simp at hj ⊢ <;> omega
theorem head_laid {N side used i:Nat} {L k:List (List UInt8)} {rows:List Ch} (h:KeptL N L side used rows) (hN:42≤N) (hN2:N≤60) (hi:(i=side∧used=0)∨(i=1 - side∧¬ used=0)) (hrow:∀ j,j<rows.length→L[2+i * 12+j]?=(rows.map rowL)[j]?)
    (hlen:k.length=L.length) (hk:∀ j,k[j]?=if j=i then some (pad40 (headL i (baL (textL rows)))) else L[j]?) :
    whOf (dk k) i=some rows∧logAtD (dk k) i=([],0)∧∃ side used,KeptL N k side used rows:=by
  obtain ⟨q1,q2,q3⟩:=h.rows
  have hs:=h.sd
  have hi1:i≤1:=by omega
  have hw:whOf (dk k) i=some rows:=by
    refine whOf_laid hi1 q1 q2 q3 ?_ ?_
    · show k[i]?=_
      rw [hk,if_pos rfl]
    · intro j hj
      show k[_]?=_
      rw [hk,if_neg (by omega)]
      exact hrow j hj
  have hcong:∀ n,logAtD (dk k) n=logAtD (dk L) n:=fun n=>logAt_congr (d:=dk L) (d':=dk k) hlen (fun j hj=>by
    show k[j]?=L[j]?
    rw [hk,if_neg (by omega)])
  have hlog:logAtD (dk k) i=([],0):=by
    rw [hcong]
    rcases hi with ⟨rfl,rfl⟩ | ⟨rfl,hu⟩
    · exact h.none.2
    · exact h.other hN hN2 hu
  refine ⟨hw,hlog,?_⟩
  have hlk:k.length=N:=by rw [hlen];exact h.len
  by_cases hone:i=1
  · exact ⟨1,0,hlk,by omega,⟨rows,[],by rw [← hone];exact hw,by rw [← hone];exact hlog,rfl⟩,fun e=>absurd e (by decide)⟩
  · have h0:i=0:=by omega
    rcases hi with ⟨e,hu⟩ | ⟨e,hu⟩
    · have hb:(dk k).now[1]?=some Go.Proofs.YtihnghnafpgdfadGreatDoor.blank:=by
        show k[1]?=_
        rw [hk,if_neg (by omega)]
        exact h.blank (by omega)
      have hlog0:logAtD (dk k) 0=([],0):=by have:=hlog;rw [h0] at this;exact this
      rw [h0] at hw
      exact ⟨0,0,hlk,by omega,⟨rows,[],hw,hlog0,rfl⟩,fun _=>hb⟩
    · have hs1:side=1:=by omega
      obtain ⟨r0,D,e1,e2,e3⟩:=h.said
      have hw1:whOf (dk k) 1=some r0:=by
        rw [whOf_side (d:=dk L) (d':=dk k) (fun j hj=>by
          show k[j]?=L[j]?
          rw [hk,if_neg (by omega)]),← hs1]
        exact e1
      exact ⟨side,used,hlk,hs,⟨r0,D,by rw [hs1];exact hw1,by rw [hcong];exact e2,e3⟩,fun e=>by omega⟩
theorem save_cases {N:Nat} {d:Dk} {s:St} {g:Lg} (hk:KeptL N d.now s.side g.used s.rows) (hc:Clean d) (hF:Forty d.now) (hN:42≤N) (hN2:N≤60) (hm:g.many=N - 26) :
    ((saveD d s g).2=0∧Clean (saveD d s g).1∧KeptL N (saveD d s g).1.now (sideTo d s g) 0 s.rows) ∨
    ((saveD d s g).2=8∧(saveD d s g).1.wr.length≤100∧Fell (saveD d s g).1 (fun k=>∃ side used,KeptL N k side used s.rows)):=by
  obtain ⟨q1,q2,q3⟩:=hk.rows
  have hs:=hk.sd
  have hlen:=hk.len
  have hu:=hk.usedLe hN
  obtain ⟨i,hi⟩:∃ i,i=sideTo d s g:=⟨_,rfl⟩
  have hside:(i=s.side∧g.used=0)∨(i=1 - s.side∧¬ g.used=0):=by
    rw [hi]
    unfold sideTo
    rw [hlen]
    split <;> omega
  have hi1:i≤1:=by omega
  have hi12:i * 12≤12:=by omega
  unfold saveD
  rw [← hi]
  clear hi
  obtain ⟨T,hT⟩:∃ T,T=baL (textL s.rows):=⟨_,rfl⟩
  have hpl:(piecesT T s.rows.length).length=s.rows.length:=piecesT_length _ _
  have hpr:(piecesT T s.rows.length).map padD=s.rows.map rowL:=by rw [hT];exact pieces_rows q2
  have hsz:∀ x ∈ piecesT T s.rows.length,x.size≤40:=by
    intro x hx
    unfold piecesT at hx
    obtain ⟨j,hj,rfl⟩:=List.mem_map.1 hx
    rw [baL_size]
    unfold pieceL
    rw [List.length_take]
    omega
  have pb:padD ⟨#[]⟩=Go.Proofs.YtihnghnafpgdfadGreatDoor.blank:=by decide
  have w1:=layD_len2 d (2+i * 12) (piecesT T s.rows.length)
  rw [hc.wr,hpl] at w1
  rw [← hT]
  unfold layT
  rcases layD_any d (2+i * 12) (piecesT T s.rows.length) hc (by rw [hpl];omega) hsz with ⟨a1,a2,a3,-⟩ | ⟨a1,-,a3⟩
  case inr =>
    right
    rw [if_neg (by rw [a1];decide)]
    refine ⟨a1,by simp at w1;omega,a3.down,fun keep=>?_⟩
    have:=a3.may keep
    rw [hpr] at this
    exact ⟨_,_,rows_laying hk hF hN hside this⟩
  rw [if_pos a1]
  simp only [seqD]
  rw [hpr] at a3
  generalize (layD d (2+i * 12) (piecesT T s.rows.length)).1=d1 at *
  have hk1:KeptL N d1.now s.side g.used s.rows:=by
    rw [a3]
    exact rows_laying hk hF hN hside (mixed_all _ _ _ (by rw [List.length_map];omega))
  have hlen1:=hk1.len
  have hrow:∀ j,j<s.rows.length→d1.now[2+i * 12+j]?=(s.rows.map rowL)[j]?:=fun j hj=>by
    rw [a3,laidL_at _ _ _ _ (by rw [List.length_map];omega),if_pos (by rw [List.length_map];omega)]
    congr 1
    omega
  have w2:=layD_len2 d1 i [baL (headL i T)]
  rw [a2.wr] at w2
  rcases layD_any d1 i [baL (headL i T)] a2 (by simp;omega) (by intro x hx;simp at hx;rw [hx,baL_size,headL_length];omega) with ⟨b1,b2,b3,-⟩ | ⟨b1,-,b3⟩
  case inr =>
    right
    rw [if_neg (by rw [b1];decide)]
    refine ⟨b1,by simp at w2;omega,b3.down,fun keep=>?_⟩
    have:=b3.may keep
    simp only [List.map_cons,List.map_nil,padD_baL] at this
    rcases mixed_one this (by omega) with e | ⟨e1,e2⟩
    · rw [e];exact ⟨_,_,hk1⟩
    · exact (head_laid hk1 hN hN2 hside hrow e1 (by rw [← hT];exact e2)).2.2
  rw [if_pos b1]
  simp only [List.map_cons,List.map_nil,padD_baL] at b3
  generalize (layD d1 i [baL (headL i T)]).1=d2 at *
  obtain ⟨x1,x2⟩:=laid_one (now:=d1.now) (a:=i) (x:=pad40 (headL i T)) (by omega)
  rw [← b3] at x1 x2
  rw [hT] at x2
  obtain ⟨y1,y2,y3⟩:=head_laid hk1 hN hN2 hside hrow x1 x2
  have hlen2:d2.now.length=N:=by rw [x1];exact hlen1
  have last:∀ k:List (List UInt8),k.length=d2.now.length→(∀ j,k[j]?=if j=1 - i then some Go.Proofs.YtihnghnafpgdfadGreatDoor.blank else d2.now[j]?)→KeptL N k i 0 s.rows:=fun k z1 z2=>by
    refine ⟨by rw [z1];exact hlen2,hi1,⟨s.rows,[],?_,?_,rfl⟩,fun e=>by rw [z2,if_pos (by omega)]⟩
    · rw [whOf_side (d:=dk d2.now) (d':=dk k) (fun j hj=>by
        show k[j]?=d2.now[j]?
        rw [z2,if_neg (by omega)])]
      exact y1
    · rw [logAt_congr (d:=dk d2.now) (d':=dk k) z1 (fun j hj=>by
        show k[j]?=d2.now[j]?
        rw [z2,if_neg (by omega)])]
      exact y2
  have w3:=layD_len2 d2 (1 - i) [⟨#[]⟩]
  rw [b2.wr] at w3
  rcases layD_any d2 (1 - i) [⟨#[]⟩] b2 (by simp;omega) (by intro x hx;simp at hx;rw [hx];decide) with ⟨c1,c2,c3,-⟩ | ⟨c1,-,c3⟩
  case inr =>
    right
    rw [if_neg (by rw [c1];decide)]
    refine ⟨c1,by simp at w3;omega,c3.down,fun keep=>?_⟩
    have:=c3.may keep
    simp only [List.map_cons,List.map_nil,pb] at this
    rcases mixed_one this (by omega) with e | ⟨e1,e2⟩
    · rw [e];exact y3
    · exact ⟨_,_,last _ e1 e2⟩
  left
  rw [if_pos c1]
  simp only [List.map_cons,List.map_nil,pb] at c3
  refine ⟨rfl,c2,?_⟩
  obtain ⟨z1,z2⟩:=laid_one (now:=d2.now) (a:=1 - i) (x:=Go.Proofs.YtihnghnafpgdfadGreatDoor.blank) (by omega)
  exact last _ (by rw [c3];exact z1) (by rw [c3];exact z2)
theorem add_cases {N:Nat}{d:Dk}{side used B:Nat}{rows c:List Ch}(hk:KeptL N d.now side used rows)(hc:Clean d)(hN:42≤N)(hN2:N≤60)(h14:¬ 14<c.length)(hroom:¬ N - 26 - used<c.length+1)(hok:faultL c=0)(h12:(appliedC rows c).length≤12) :
    ((addD ⟨B,26,N - 26,firstOf d side,used⟩ d c).2=0∧Clean (addD ⟨B,26,N - 26,firstOf d side,used⟩ d c).1∧KeptL N (addD ⟨B,26,N - 26,firstOf d side,used⟩ d c).1.now side (used+c.length+1) (appliedC rows c)) ∨
    ((addD ⟨B,26,N - 26,firstOf d side,used⟩ d c).2=8∧(addD ⟨B,26,N - 26,firstOf d side,used⟩ d c).1.wr.length≤100∧Fell (addD ⟨B,26,N - 26,firstOf d side,used⟩ d c).1 (fun k=>∃ side used,KeptL N k side used rows∨KeptL N k side used (appliedC rows c))):=by
  obtain ⟨r0,D,h1,h2,h3⟩:=hk.said
  have hs:=hk.sd
  have hlen:=hk.len
  have hu:=hk.usedLe hN
  have hfirst:1≤firstOf d side∧firstOf d side≤4000000:=by
    unfold firstOf
    rw [hlen]
    rcases (by omega:side=0∨side=1) with e | e <;> rw [e] <;> simp <;> omega
  have hlog:logOf rdC d.now 26 (N - 26) (firstOf d side)=(D,used):=by
    have h2':logOf rdC d.now 26 (d.now.length - 26) (firstOf d side)=(D,used):=h2
    rw [hlen] at h2'
    exact h2'
  have get:∀ (k:List (List UInt8)) (u:Nat) (D':List (List Ch)) (R:List Ch),k.length=N→(∀ j,j<26→k[j]?=d.now[j]?)→logOf rdC k 26 (N - 26) (firstOf d side)=(D',u)→foldRows r0 D'=some R→KeptL N k side u R:=fun k u D' R z1 z2 z3 z4=>by
    refine ⟨z1,hs,⟨r0,D',?_,?_,z4⟩,fun e=>by rw [z2 _ (by omega)];exact hk.blank e⟩
    · rw [whOf_congr (d:=dk d.now) (d':=dk k) hs z2];exact h1
    · show logOf rdC k 26 (k.length - 26) (firstOf (dk k) side)=_
      rw [firstOf_len (d:=d) (d':=dk k) (by show k.length=_;rw [z1,hlen]),z1]
      exact z3
  generalize firstOf d side=first at *
  have hcg:∀ x ∈ c,rdC (bytesC x)=some x∧(bytesC x).length≤33:=fun x hx=>⟨rdC_bytesC (faultL_all hok x hx),by have:=bytesC_len (faultL_all hok x hx);omega⟩
  have hb:padD ⟨#[]⟩=Go.Proofs.YtihnghnafpgdfadGreatDoor.blank:=by decide
  unfold addD
  rw [if_neg h14,if_neg (show ¬ N - 26 - used<c.length+1 from hroom),if_neg (by simpa using hok)]
  obtain ⟨m,hm⟩:∃ m,m=min (c.length+2) (N - 26 - used):=⟨_,rfl⟩
  rw [← hm]
  have hsm:∀ s ∈ List.replicate m (⟨#[]⟩:ByteArray),s.size≤40:=by intro s hs;rw [List.eq_of_mem_replicate hs];decide
  have w1:=layD_len2 d (26+used) (List.replicate m ⟨#[]⟩)
  rw [hc.wr,List.length_replicate] at w1
  have low:∀ (now k:List (List UInt8)) (l:List (List UInt8)),Mixed now (26+used) l k→∀ j,j<26→k[j]?=now[j]?:=fun now k l hx j hj=>by
    rcases hx.2 j with e | ⟨e,-⟩
    · exact e
    · omega
  rcases layD_any d (26+used) (List.replicate m ⟨#[]⟩) hc (by simp;omega) hsm with ⟨k1,k2,k3,-⟩ | ⟨k1,-,k3⟩
  case inr =>
    right
    rw [if_pos (by rw [k1];decide)]
    refine ⟨k1,Nat.le_trans w1 (by simp;omega),k3.down,fun keep=>?_⟩
    have hx:=k3.may keep
    rw [List.map_replicate,hb] at hx
    exact ⟨_,_,.inl (get _ _ _ _ (by rw [hx.1];exact hlen) (low _ _ _ hx) (log_blanking rdC (firstOk hfirst.1 (by omega)) (by omega) (by omega) (by omega) hlog hx) h3)⟩
  rw [if_neg (by simpa using k1)]
  rw [List.map_replicate,hb] at k3
  have hl1:(layD d (26+used) (List.replicate m ⟨#[]⟩)).1.now.length=N:=by rw [k3,laidL_length];exact hlen
  have low1:∀ j,j<26→(layD d (26+used) (List.replicate m ⟨#[]⟩)).1.now[j]?=d.now[j]?:=by
    rw [k3]
    exact low _ _ _ (mixed_all _ _ _ (by simp;omega))
  have w2:=layD_len2 (layD d (26+used) (List.replicate m ⟨#[]⟩)).1 (26+used) (deedT first used c c.length)
  rw [k2.wr,deedT_length] at w2
  rcases layD_any (layD d (26+used) (List.replicate m ⟨#[]⟩)).1 (26+used) (deedT first used c c.length) k2 (by rw [hl1,deedT_length];omega) (deedT_small _ _ _ _ (faultL_all hok)) with ⟨q1,q2,q3,-⟩ | ⟨q1,-,q3⟩
  · left
    refine ⟨q1,q2,get _ _ _ _ (by rw [q3,laidL_length];exact hl1) (fun j hj=>?_) ?_ (foldRows_snoc h3 h12)⟩
    · rw [q3,low _ _ _ (mixed_all _ _ _ (by rw [List.length_map,deedT_length,hl1];omega)) j hj]
      exact low1 j hj
    · rw [q3,k3,deedT_pad]
      exact log_laid rdC (firstOk hfirst.1 (by omega)) (by omega) (by omega) hm (by omega) hlog hcg
  · right
    refine ⟨q1,Nat.le_trans w2 (by simp;omega),q3.down,fun keep=>?_⟩
    have hx:=q3.may keep
    have hlow:=low _ _ _ hx
    have hxl:=hx.1
    rw [k3,deedT_pad] at hx
    rcases log_laying rdC (firstOk hfirst.1 (by omega)) (by omega) (by omega) hm (by omega) hlog hcg hx with h | h
    · exact ⟨_,_,.inl (get _ _ _ _ (by rw [hxl];exact hl1) (fun j hj=>by rw [hlow j hj];exact low1 j hj) h h3)⟩
    · exact ⟨_,_,.inr (get _ _ _ _ (by rw [hxl];exact hl1) (fun j hj=>by rw [hlow j hj];exact low1 j hj) h (foldRows_snoc h3 h12))⟩
def refused (d:Dk)(rows c:List Ch):Prop:=14<c.length∨¬ faultL c=0∨12<(appliedC rows c).length∨d.now.length - 26<c.length+1
theorem commit_cases {N:Nat} {d:Dk} {s:St} {g:Lg} {c:List Ch} (hk:KeptL N d.now s.side g.used s.rows) (hc:Clean d) (hF:Forty d.now) (hN:42≤N) (hN2:N≤60) (hg:g=⟨g.dB,26,N - 26,firstOf d s.side,g.used⟩) :
    (¬ (commitC d s g c).e=0∧¬ (commitC d s g c).e=8∧0≤(commitC d s g c).e∧(commitC d s g c).e≤100∧commitC d s g c=.stay d (commitC d s g c).e s g) ∨
    ((commitC d s g c).e=0∧Clean (commitC d s g c).d∧(commitC d s g c).rows=appliedC s.rows c∧KeptL N (commitC d s g c).d.now (commitC d s g c).side (commitC d s g c).g.used (appliedC s.rows c)∧(commitC d s g c).g=⟨g.dB,26,N - 26,firstOf (commitC d s g c).d (commitC d s g c).side,(commitC d s g c).g.used⟩) ∨
    ((commitC d s g c).e=8∧(commitC d s g c).d.wr.length≤100∧Fell (commitC d s g c).d (fun k=>∃ side used,KeptL N k side used s.rows∨KeptL N k side used (appliedC s.rows c))):=by
  have hlen:=hk.len
  have hu:=hk.usedLe hN
  have hgm:g.many=N - 26:=by rw [hg]
  unfold commitC
  by_cases h14:14<c.length
  · rw [if_pos h14]
    exact .inl ⟨(show ¬ (2:Int)=0 by decide),(show ¬ (2:Int)=8 by decide),(show (0:Int)≤2 by decide),(show (2:Int)≤100 by decide),rfl⟩
  rw [if_neg h14]
  by_cases hf:faultL c=0
  case neg =>
    rw [if_pos hf]
    have h2:=faultL_two c
    exact .inl ⟨hf,(show ¬ faultL c=8 by omega),(show 0≤faultL c by omega),(show faultL c≤100 by omega),rfl⟩
  have hff:¬ ¬ faultL c=0:=fun x=>x hf
  rw [if_neg hff]
  by_cases hr:12<(appliedC s.rows c).length∨d.now.length - 26<c.length+1
  · rw [if_pos hr]
    exact .inl ⟨(show ¬ (7:Int)=0 by decide),(show ¬ (7:Int)=8 by decide),(show (0:Int)≤7 by decide),(show (7:Int)≤100 by decide),rfl⟩
  rw [if_neg hr]
  right
  have h12:(appliedC s.rows c).length≤12:=by omega
  have fell:∀ {R:Dk × Int} {P:List (List UInt8)→Prop},Fell R.1 P→(∀ k,P k→∃ side used,KeptL N k side used s.rows∨KeptL N k side used (appliedC s.rows c))→Fell R.1 (fun k=>∃ side used,KeptL N k side used s.rows∨KeptL N k side used (appliedC s.rows c)):=fun h hP=>⟨h.down,fun keep=>hP _ (h.may keep)⟩
  by_cases hroom:g.many - g.used<c.length+1
  · rw [if_pos hroom]
    rcases save_cases (g:=g) hk hc hF hN hN2 hgm with ⟨a1,a2,a3⟩ | ⟨a1,a2,a3⟩
    case inr =>
      rw [if_neg (by rw [a1];decide)]
      exact .inr ⟨a1,a2,fell (R:=saveD d s g) a3 (fun k ⟨sd,us,h⟩=>⟨sd,us,.inl h⟩)⟩
    rw [if_pos a1]
    have hlen2:=a3.len
    have hsg:savedG d s g=⟨g.dB,26,N - 26,firstOf (saveD d s g).1 (sideTo d s g),0⟩:=by
      unfold savedG
      rw [hlen,firstOf_len (d:=d) (d':=(saveD d s g).1) (by rw [hlen2,hlen])]
    rw [hsg]
    unfold addC
    rcases add_cases (B:=g.dB) (c:=c) a3 a2 hN hN2 h14 (by omega) hf h12 with ⟨b1,b2,b3⟩ | ⟨b1,b2,b3⟩
    · left
      rw [if_pos b1]
      have e:firstOf (addD ⟨g.dB,26,N - 26,firstOf (saveD d s g).1 (sideTo d s g),0⟩ (saveD d s g).1 c).1 (sideTo d s g)=firstOf (saveD d s g).1 (sideTo d s g):=firstOf_len (by rw [b3.len,hlen2])
      have eg:addG ⟨g.dB,26,N - 26,firstOf (saveD d s g).1 (sideTo d s g),0⟩ (saveD d s g).1 c=⟨g.dB,26,N - 26,firstOf (saveD d s g).1 (sideTo d s g),0+c.length+1⟩:=by unfold addG;rw [if_pos b1]
      rw [eg]
      refine ⟨rfl,b2,rfl,b3,?_⟩
      show Lg.mk _ _ _ _ _=Lg.mk _ _ _ (firstOf (addD ⟨g.dB,26,N - 26,firstOf (saveD d s g).1 (sideTo d s g),0⟩ (saveD d s g).1 c).1 (sideTo d s g)) _
      rw [e]
    · right
      rw [if_neg (by rw [b1];decide)]
      exact ⟨b1,b2,b3⟩
  · rw [if_neg hroom]
    have hroom':¬ N - 26 - g.used<c.length+1:=by rw [← hgm];exact hroom
    unfold addC
    have key:=add_cases (B:=g.dB) (c:=c) hk hc hN hN2 h14 hroom' hf h12
    rw [← hg] at key
    rcases key with ⟨b1,b2,b3⟩ | ⟨b1,b2,b3⟩
    · left
      rw [if_pos b1]
      have e:firstOf (addD g d c).1 s.side=g.first:=by
        rw [firstOf_len (d:=d) (by rw [b3.len,hlen])]
        rw [hg]
      have eg:addG g d c={ g with used:=g.used+c.length+1 }:=by unfold addG;rw [if_pos b1]
      rw [eg]
      refine ⟨rfl,b2,rfl,b3,?_⟩
      show Lg.mk _ _ _ _ _=Lg.mk _ _ _ (firstOf (addD g d c).1 s.side) _
      rw [e]
      have e1:g.start=26:=by rw [hg]
      rw [e1,hgm]
    · right
      rw [if_neg (by rw [b1];decide)]
      exact ⟨b1,b2,b3⟩
theorem open_kept (p:Dp)(d:Dk)(N side used:Nat)(rows:List Ch)(w:World)(h:DiskAt w p d)(hk:Kept N d side used rows)(hN:42≤N) :
    Calls Tryz.prog 61 #[.pointer (some ⟨p.B,0,none⟩)] w fun e w'=>∃ b ra rc lb,e=.returned (.tuple #[.pointer (some ⟨b,0,none⟩),.nilIface])∧Below w.heap.size w w'∧StoreOwn w' w.heap.size b ⟨p.B,side,ra,rc,rows,lb⟩ ⟨p.B,26,N - 26,firstOf d side,used⟩:=by
  refine (storeOpen_any p d w h hk.free.up (by rw [hk.free.len];exact hN)).mono ?_
  rintro e w' ⟨hb,hor⟩
  rcases hor with ⟨ho,-⟩ | ⟨b,side',rows',used',ra,rc,lb,ho,h1,h2,h3,h4,rfl,hs⟩
  · rw [hk.opens] at ho
    cases ho
  · rw [hk.opens] at ho
    cases ho
    rw [hk.free.len] at hs
    exact ⟨b,ra,rc,lb,rfl,hb,hs⟩
abbrev StoreT (T:TypeId):Prop:=T=78∨T=84∨T=86∨T=208∨T=163∨T=143
theorem StoreOwn.far {w w':World}{lo b:Nat}{s:St}{g:Lg}(h:StoreOwn w lo b s g)(hk:∀ (k:Nat) (C:Array Value) (T:TypeId) (fr:Nat × Nat),w.heap[k]?=some (.cells C T fr)→StoreT T→w'.heap[k]?=w.heap[k]?):StoreOwn w' lo b s g:=by
  have ho:OwnsC w' lo (.slice s.ra s.rows.length s.rc) s.rows:=ownsRow_far h.own (fun k e=>by
    obtain ⟨C,f,e⟩:=Lib.ownsRow_kind h.own k e
    exact hk _ _ _ _ e (by simp [StoreT]))
  refine ⟨⟨(hk _ _ _ _ h.at'.blk (by simp [StoreT])).trans h.at'.blk,OwnsC.slice ho⟩,ho,?_,h.low⟩
  have hl:=h.log
  unfold LogAt at hl ⊢
  exact (hk _ _ _ _ hl (by simp [StoreT])).trans hl
theorem DiskAt.farT {w w':World}{p:Dp}{d:Dk}(h:DiskAt w p d)(hk:∀ (k:Nat) (C:Array Value) (T:TypeId) (fr:Nat × Nat),w.heap[k]?=some (.cells C T fr)→StoreT T→w'.heap[k]?=w.heap[k]?):DiskAt w' p d :=
  h.far fun k hk'=>by
    obtain ⟨C,T,fr,e,hT⟩:=h.kind (k:=k) hk'
    refine hk _ _ _ _ e ?_
    rcases hT with rfl | rfl | rfl <;> simp [StoreT]
theorem StoreOwn.lower {w:World}{lo lo' b:Nat}{s:St}{g:Lg}(h:StoreOwn w lo b s g)(hl:lo'≤lo):StoreOwn w lo' b s g :=
  ⟨h.at',OwnsC.base h.own hl,h.log,⟨Nat.le_trans hl h.low.1,Nat.le_trans hl h.low.2⟩⟩
def Let (w w':World):Prop:=∀ (k:Nat) (C:Array Value) (T:TypeId) (fr:Nat × Nat),w.heap[k]?=some (.cells C T fr)→(T≠78∧T≠84∧T≠86∧T≠208∧T≠163)→w'.heap[k]?=w.heap[k]?
end Go.Proofs.YtihnghnafpgdfadGreatDoor
namespace Go.Proofs.YtihnghnafpgdfadGreatDoor
open Go.RowKit Go.BigFrame
def k0:Ms:=⟨none,0,[],0,24⟩
end Go.Proofs.YtihnghnafpgdfadGreatDoor
namespace Go.Proofs.YtihnghnafpgdfadGreatDoor
open Go Go.RowKit Go.BigFrame
theorem first_ok {N side:Nat}{d:Dk}(hl:d.now.length=N)(hs:side≤1)(hN:42≤N)(hN2:N≤60):1≤firstOf d side∧firstOf d side≤4000000:=by
  unfold firstOf
  rw [hl]
  rcases (by omega:side=0∨side=1) with e | e <;> rw [e] <;> simp <;> omega
theorem lg_ok {N side used B:Nat}{d:Dk}{g:Lg}(hg:g=⟨B,26,N - 26,firstOf d side,used⟩)(hl:d.now.length=N)(hs:side≤1)(hu:used≤N - 26)(hN:42≤N)(hN2:N≤60):LgOk g∧1≤g.first:=by
  obtain ⟨h1,h2⟩:=first_ok (d:=d) hl hs hN hN2
  rw [hg]
  exact ⟨⟨by simp only;omega,h2,hu⟩,h1⟩
theorem own_let {wr w':World}{lo b:Nat}{s:St}{g:Lg}{p:Dp}{d:Dk}(hd:DiskAt wr p d)(ho:StoreOwn wr lo b s g)(ht:Touch (fun k=>(dOwn p k∨k=b)∨k=s.lb) wr w'):Let wr w':=by
  intro k C T fr hk hT
  refine ht.block _ (Array.getElem?_eq_some_iff.1 hk).1 (fun hx=>?_)
  rcases hx with (hx | hx) | hx
  · obtain ⟨C',T',fr',e,hT'⟩:=hd.kind hx
    rw [hk] at e
    simp at e
    rcases hT' with e' | e' | e'
    · exact hT.1 (by rw [e.2.1,e'])
    · exact hT.2.1 (by rw [e.2.1,e'])
    · exact hT.2.2.1 (by rw [e.2.1,e'])
  · rw [hx,ho.at'.blk] at hk
    simp at hk
    exact hT.2.2.2.2 hk.2.1.symm
  · have hl:=ho.log
    unfold LogAt at hl
    rw [hx,hl] at hk
    simp at hk
    exact hT.2.2.2.1 hk.2.1.symm
theorem KeptG.usedLe {N side used:Nat}{L:List (List UInt8)}{rows:List Ch}(h:KeptG N L side used rows)(hN:42≤N):used≤N - 26:=by
  obtain ⟨r0,D,h1,h2,h3⟩:=h.said
  have:=logOf_le rdC (now:=L) (from':=26) (many:=L.length - 26) (first:=firstOf (dk L) side) (by rw [h.len];omega)
  have h2':logOf rdC L 26 (L.length - 26) (firstOf (dk L) side)=(D,used):=h2
  rw [h2',h.len] at this
  exact this
theorem writesD_nlen:∀ (l:List ByteArray) (D:Dk) (a:Nat),(writesD D a l).1.now.length=D.now.length:=by
  intro l
  induction l with
  | nil=>intro D a;rfl
  | cons s r ih =>
    intro D a
    unfold writesD
    have hw:(writeD D a s).now.length=D.now.length:=by
      unfold writeD
      have h:=(stepD_rest D).1
      repeat' split
      all_goals simp [h]
    split
    · rw [ih,hw]
    · exact hw
theorem layD_nlen (D:Dk)(a:Nat)(l:List ByteArray):(layD D a l).1.now.length=D.now.length:=by
  unfold layD
  split
  · have:(flushD (writesD D a l).1).now=(stepD (writesD D a l).1).now:=by unfold flushD;split <;> rfl
    simp only [this,(stepD_rest _).1]
    exact writesD_nlen l D a
  · exact writesD_nlen l D a
theorem flushD_clean {d:Dk}(h:stepN d=0):Clean (flushD d):=by
  unfold flushD
  rw [if_pos h]
  have hn:¬ (d.down=true∨d.left=0):=by
    unfold stepN at h
    intro e
    rw [if_pos e] at h
    cases h
  have hd:(stepD d).down=false:=by
    unfold stepD
    rw [if_neg hn]
    have:d.down=false:=by cases hx:d.down <;> simp_all
    split <;> exact this
  exact ⟨((stepD_rest d).1).symm,rfl,hd⟩
theorem layD_clean {d:Dk}{a:Nat}{l:List ByteArray}(h:(layD d a l).2=0):Clean (layD d a l).1:=by
  unfold layD at h ⊢
  by_cases e:(writesD d a l).2=0
  · rw [if_pos e] at h ⊢
    exact flushD_clean h
  · rw [if_neg e] at h
    exact absurd h e
theorem addD_nlen (g:Lg)(d:Dk)(c:List Ch):(addD g d c).1.now.length=d.now.length:=by
  unfold addD
  repeat' split
  all_goals first | rfl | simp only [layD_nlen]
theorem addD_clean {g:Lg}{d:Dk}{c:List Ch}(h:(addD g d c).2=0):Clean (addD g d c).1∧¬ 14<c.length∧¬ g.many - g.used<c.length+1∧faultL c=0:=by
  unfold addD at h ⊢
  by_cases h14:14<c.length
  · rw [if_pos h14] at h;exact absurd h (show ¬ (2:Int)=0 by decide)
  rw [if_neg h14] at h ⊢
  by_cases hr:g.many - g.used<c.length+1
  · rw [if_pos hr] at h;exact absurd h (show ¬ (7:Int)=0 by decide)
  rw [if_neg hr] at h ⊢
  by_cases hf:faultL c=0
  case neg=>rw [if_pos hf] at h;exact absurd h hf
  rw [if_neg (by simpa using hf)] at h ⊢
  by_cases hl:(layD d (g.start+g.used) (List.replicate (min (c.length+2) (g.many - g.used)) ⟨#[]⟩)).2=0
  case neg=>rw [if_pos hl] at h;exact absurd h hl
  rw [if_neg (by simpa using hl)] at h ⊢
  exact ⟨layD_clean h,h14,hr,hf⟩
theorem addC_done {d:Dk}{sd:Nat}{g:Lg}{r c:List Ch}(h:(addC d sd g r c).e=0):Clean (addC d sd g r c).d∧(addC d sd g r c).rows=appliedC r c∧(addC d sd g r c).side=sd∧(addC d sd g r c).g={ g with used:=g.used+c.length+1 }∧(addC d sd g r c).d.now.length=d.now.length∧¬ g.many - g.used<c.length+1:=by
  unfold addC at h ⊢
  by_cases h0:(addD g d c).2=0
  · rw [if_pos h0]
    obtain ⟨a1,a2,a3,a4⟩:=addD_clean h0
    refine ⟨a1,rfl,rfl,?_,addD_nlen _ _ _,a3⟩
    show addG g d c=_
    unfold addG
    rw [if_pos h0]
  · rw [if_neg h0] at h
    exact absurd h h0
theorem addC_len (d:Dk)(sd:Nat)(g:Lg)(r c:List Ch):(addC d sd g r c).d.now.length=d.now.length:=by
  unfold addC
  split <;> exact addD_nlen _ _ _
theorem commitC_len (d:Dk)(s:St)(g:Lg)(c:List Ch):(commitC d s g c).d.now.length=d.now.length:=by
  unfold commitC
  split
  · rfl
  split
  · rfl
  split
  · rfl
  split
  · split
    · rw [addC_len];exact layT_len _ _ _ _
    · exact layT_len _ _ _ _
  · exact addC_len _ _ _ _ _
structure Did (N:Nat)(s:St)(g:Lg)(c:List Ch)(M:Cm):Prop where
  clean:Clean M.d
  len:M.d.now.length=N
  sd:M.side≤1
  rows:M.rows=appliedC s.rows c
  gf:M.g=⟨g.dB,26,N - 26,firstOf M.d M.side,M.g.used⟩
  used:M.g.used≤N - 26
theorem commit_done {N:Nat} {d:Dk} {s:St} {g:Lg} {c:List Ch} (hlen:d.now.length=N) (hg:g=⟨g.dB,26,N - 26,firstOf d s.side,g.used⟩) (hu:g.used≤N - 26) (hs:s.side≤1) (h0:(commitC d s g c).e=0):Did N s g c (commitC d s g c):=by
  have hm:g.many=N - 26:=by rw [hg]
  have hst:g.start=26:=by rw [hg]
  have hfi:g.first=firstOf d s.side:=by rw [hg]
  have hL:=commitC_len d s g c
  unfold commitC at h0 hL ⊢
  by_cases h14:14<c.length
  · rw [if_pos h14] at h0;exact absurd h0 (show ¬ (2:Int)=0 by decide)
  rw [if_neg h14] at h0 hL ⊢
  by_cases hf:faultL c=0
  case neg=>rw [if_pos hf] at h0;exact absurd h0 hf
  rw [if_neg (fun x=>x hf)] at h0 hL ⊢
  by_cases hr:12<(appliedC s.rows c).length∨d.now.length - 26<c.length+1
  · rw [if_pos hr] at h0;exact absurd h0 (show ¬ (7:Int)=0 by decide)
  rw [if_neg hr] at h0 hL ⊢
  by_cases hroom:g.many - g.used<c.length+1
  · rw [if_pos hroom] at h0 hL ⊢
    by_cases hsv:(saveD d s g).2=0
    case neg=>rw [if_neg hsv] at h0;exact absurd h0 hsv
    rw [if_pos hsv] at h0 hL ⊢
    obtain ⟨a1,a2,a3,a4,a5,a6⟩:=addC_done h0
    have hsd:sideTo d s g≤1:=by unfold sideTo;split <;> omega
    have hl1:(saveD d s g).1.now.length=N:=by rw [← hlen];exact layT_len _ _ _ _
    refine ⟨a1,by rw [hL,hlen],by rw [a3];exact hsd,a2,?_,?_⟩
    · rw [a4,a3]
      unfold savedG
      rw [hlen,firstOf_len (d:=d) (d':=(addC (saveD d s g).1 (sideTo d s g) ⟨g.dB,26,N - 26,firstOf d (sideTo d s g),0⟩ s.rows c).d) (by rw [addC_len,hl1,hlen])]
    · rw [a4]
      have:¬ N - 26 - 0<c.length+1:=by
        have h:=a6
        unfold savedG at h
        rw [hlen] at h
        exact h
      show 0+c.length+1≤N - 26
      omega
  · rw [if_neg hroom] at h0 hL ⊢
    obtain ⟨a1,a2,a3,a4,a5,a6⟩:=addC_done h0
    refine ⟨a1,by rw [hL,hlen],by rw [a3];exact hs,a2,?_,?_⟩
    · rw [a4,a3,firstOf_len (d:=d) (d':=(addC d s.side g s.rows c).d) (by rw [addC_len])]
      show Lg.mk _ _ _ _ _=Lg.mk _ _ _ _ _
      rw [hst,hm,hfi]
    · rw [a4]
      show g.used+c.length+1≤N - 26
      omega
theorem commit_free {N:Nat}{d:Dk}{s:St}{g:Lg}{c:List Ch}(hf:Free d N 0)(hN:42≤N)(hN2:N≤60)(hg:g=⟨g.dB,26,N - 26,firstOf d s.side,g.used⟩)(hu:g.used≤N - 26)(hs:s.side≤1)(hr:Rowed s.rows)(hrf:∀ c ∈ s.rows,changeF c=0)(h12:s.rows.length≤12)
    (h14:c.length≤14) (hok:faultL c=0) (ha:(appliedC s.rows c).length≤12):(commitC d s g c).e=0∧Free (commitC d s g c).d N 0:=by
  have hm:g.many=N - 26:=by rw [hg]
  have hst:g.start=26:=by rw [hg]
  have key:∀ (sd:Nat) (g:Lg) (D:Dk) (R:List Ch),Free D N 0→g.many=N - 26→g.start=26→g.used≤N - 26→¬ g.many - g.used<c.length+1→(addC D sd g R c).e=0∧Free (addC D sd g R c).d N 0:=by
    intro sd g D R hf hm hst hu hroom
    have h0:(addD g D c).2=0∧Free (addD g D c).1 N 0:=by
      unfold addD
      rw [if_neg (by omega),if_neg hroom,if_neg (by simpa using hok)]
      obtain ⟨m,hmm⟩:∃ m,m=min (c.length+2) (g.many - g.used):=⟨_,rfl⟩
      rw [← hmm]
      obtain ⟨a1,a2,a3⟩:=lays_free (a:=g.start+g.used) (l:=List.replicate m ⟨#[]⟩) hf (by simp;omega) (by intro s hs;rw [List.eq_of_mem_replicate hs];decide)
      rw [if_neg (by simpa using a1)]
      obtain ⟨b1,b2,b3⟩:=lays_free (a:=g.start+g.used) (l:=deedT g.first g.used c c.length) a2 (by rw [deedT_length];omega) (deedT_small _ _ _ _ (faultL_all hok))
      exact ⟨b1,b2⟩
    unfold addC
    rw [if_pos h0.1]
    exact ⟨rfl,h0.2⟩
  unfold commitC
  rw [if_neg (by omega),if_neg (fun x=>x hok),if_neg (by rw [hf.len];omega)]
  by_cases hroom:g.many - g.used<c.length+1
  · rw [if_pos hroom]
    have hsd:sideTo d s g≤1:=by unfold sideTo;split <;> omega
    obtain ⟨a1,a2,-⟩:=layT_free (i:=sideTo d s g) hf hN hsd hr hrf h12
    have b1:(saveD d s g).2=0:=a1
    rw [if_pos b1]
    exact key _ (savedG d s g) _ _ a2 (by unfold savedG;rw [hf.len]) rfl (Nat.zero_le _) (by unfold savedG;rw [hf.len];show ¬ N - 26 - 0<_;omega)
  · rw [if_neg hroom]
    exact key _ g _ _ hf hm hst hu hroom
def Sound (N:Nat)(d:Dk)(R:List Ch):Prop:=∃ side used,KeptL N d.now side used R∧Clean d∧Free d N 0
def Tells (d:Dk)(R:List Ch):Prop:=∃ side used,openD d=some (side,R,used)
theorem Sound.tells {N:Nat}{d:Dk}{R:List Ch}(h:Sound N d R):Tells d R:=by
  obtain ⟨sd,us,h1,-⟩:=h
  exact ⟨sd,us,h1.g.opens⟩
theorem Kept.sound {N side used:Nat}{d:Dk}{R:List Ch}(h:Kept N d side used R)(hc:Clean d):Sound N d R:=⟨side,used,h.l,hc,h.free⟩
theorem Sound.free {N:Nat}{d:Dk}{R:List Ch}(h:Sound N d R):Free d N 0:=by
  obtain ⟨sd,us,h1,h2,h3⟩:=h
  exact h3
def Says (d:Dk)(R:List Ch)(s:St)(g:Lg):Prop:=∀ side used,openD d=some (side,R,used)→s.side=side∧g.used=used
theorem Sound.commit {N:Nat}{d:Dk}{R c:List Ch}{s:St}{g:Lg}(h:Sound N d R)(hN:42≤N)(hN2:N≤60)(hF:Forty d.now)(hR:s.rows=R)(hsay:Says d R s g)(hg:g=⟨g.dB,26,N - 26,firstOf d s.side,g.used⟩)(h0:(commitC d s g c).e=0)(hf:Free (commitC d s g c).d N 0):Sound N (commitC d s g c).d (appliedC R c):=by
  obtain ⟨sd,us,h1,h2,h3⟩:=h
  obtain ⟨e1,e2⟩:=hsay sd us h1.g.opens
  subst e1 e2
  subst hR
  rcases commit_cases (c:=c) h1 h2 hF hN hN2 hg with ⟨a1,-⟩ | ⟨a1,a2,a3,a4,-⟩ | ⟨a1,-⟩
  · exact absurd h0 a1
  · exact ⟨_,_,a4,a2,hf⟩
  · rw [a1] at h0
    exact absurd h0 (by decide)
def LetOf (C:Array Value)(T:TypeId):Prop:=(T≠78∧T≠84∧T≠86∧T≠208∧T≠163∧T≠72)∨∃ (o:Nat) (s:ByteArray),C[o]?=some (.string s)
def LetT (w w':World):Prop:=∀ (k:Nat) (C:Array Value) (T:TypeId) (fr:Nat × Nat),w.heap[k]?=some (.cells C T fr)→LetOf C T→w'.heap[k]?=some (.cells C T fr)
theorem LetT.refl (w:World):LetT w w:=fun _ _ _ _ e _=>e
theorem LetT.trans {a b c:World}(h:LetT a b)(k:LetT b c):LetT a c:=fun i C T fr e hT=>k i C T fr (h i C T fr e hT) hT
theorem LetT.of_below {w w':World}(hb:Below w.heap.size w w'):LetT w w':=fun k C T fr e _=>(hb.block k (Array.getElem?_eq_some_iff.1 e).1).trans e
theorem flatS_noStr:∀ {l:List (List UInt8)} {v:Value},v ∈ flatS l→∀ s,v≠.string s:=by
  intro l
  induction l with
  | nil=>intro v h;cases h
  | cons x l ih =>
    intro v h s
    rcases List.mem_append.1 h with h | h
    · unfold bytesV at h
      obtain ⟨b,_,rfl⟩:=List.mem_map.1 h
      intro e;cases e
    · exact ih h s
theorem DiskAt.noStr {w:World}{p:Dp}{d:Dk}(h:DiskAt w p d)(hw:d.wr=[]){k:Nat}{C:Array Value}{T:TypeId}{fr:Nat × Nat}(hk:dOwn p k)(e:w.heap[k]?=some (.cells C T fr)):¬ LetOf C T:=by
  intro hT
  rcases hT with hT | ⟨o,s,ho⟩
  · obtain ⟨C',T',fr',e',hT'⟩:=h.kind hk
    rw [e] at e'
    simp at e'
    rcases hT' with x | x | x
    · exact hT.1 (by rw [e'.2.1,x])
    · exact hT.2.1 (by rw [e'.2.1,x])
    · exact hT.2.2.1 (by rw [e'.2.1,x])
  · have wv:=h.idle hw
    rcases hk with rfl | rfl | rfl | hk
    · have e2:=h.blk
      rw [e] at e2
      simp at e2
      rw [e2.1,wv] at ho
      rcases o with _ | _ | _ | _ | _ | _ | o <;> simp at ho
    · have e2:=h.now
      rw [e] at e2
      simp at e2
      rw [e2.1] at ho
      exact flatS_noStr (List.mem_of_getElem? (by simpa using ho)) s rfl
    · have e2:=h.kept
      rw [e] at e2
      simp at e2
      rw [e2.1] at ho
      exact flatS_noStr (List.mem_of_getElem? (by simpa using ho)) s rfl
    · rw [wv] at hk
      cases hk
theorem LetT.of_touch {w w':World}{p:Dp}{d:Dk}(hd:DiskAt w p d)(hw:d.wr=[])(ht:Touch (dOwn p) w w'):LetT w w':=fun k C T fr e hT=>(ht.block k (Array.getElem?_eq_some_iff.1 e).1 (fun ho=>hd.noStr hw ho e hT)).trans e
theorem LetT.of_commit {w w':World}{lo b:Nat}{s:St}{g:Lg}{p:Dp}{d:Dk}(hd:DiskAt w p d)(hw:d.wr=[])(ho:StoreOwn w lo b s g)(ht:Touch (fun k=>(dOwn p k∨k=b)∨k=s.lb) w w'):LetT w w':=fun k C T fr e hT=>(ht.block k (Array.getElem?_eq_some_iff.1 e).1 (fun hs=>by
  rcases hs with (hs | hs) | hs
  · exact hd.noStr hw hs e hT
  · have e2:=ho.at'.blk
    rw [← hs,e] at e2
    simp at e2
    rcases hT with hT | ⟨o,x,hx⟩
    · exact hT.2.2.2.2.1 e2.2.1
    · rw [e2.1] at hx
      rcases o with _ | _ | _ | _ | o <;> simp at hx
  · have e2:=ho.log
    unfold LogAt at e2
    rw [← hs,e] at e2
    simp at e2
    rcases hT with hT | ⟨o,x,hx⟩
    · exact hT.2.2.2.1 e2.2.1
    · rw [e2.1] at hx
      rcases o with _ | _ | _ | _ | _ | o <;> simp at hx)).trans e
def upd {α:Type}(f:Nat→α)(i:Nat)(x:α):Nat→α:=fun j=>if j=i then x else f j
theorem upd_same {α:Type}(f:Nat→α)(i:Nat)(x:α):upd f i x i=x:=if_pos rfl
theorem upd_other {α:Type}(f:Nat→α){i j:Nat}(x:α)(h:¬ j=i):upd f i x j=f j:=if_neg h
structure Three (lo:Nat)(w:World)(P:Nat→Dp)(D:Nat→Dk):Prop where
  disk:∀ i,i<3→DiskAt w (P i) (D i)
  lo:∀ i,i<3→lo≤(P i).lo
  apart:∀ i j,i<3→j<3→i≠j→∀ k,dOwn (P i) k→¬ dOwn (P j) k
theorem Three.below {lo:Nat}{w w':World}{P:Nat→Dp}{D:Nat→Dk}(h:Three lo w P D)(hb:Below w.heap.size w w'):Three lo w' P D :=
  ⟨fun i hi=>(h.disk i hi).below hb,h.lo,h.apart⟩
theorem Three.step {lo:Nat} {w w':World} {P:Nat→Dp} {D:Nat→Dk} (h:Three lo w P D) {i:Nat} (hi:i<3) {u:Value} {d':Dk} (hd:DiskAt w' { P i with wv:=u } d') (hn:NewTo (P i) w u)
    {S:Nat→Prop} (ht:Touch S w w') (hS:∀ k,S k→dOwn (P i) k∨∀ j,j<3→¬ dOwn (P j) k):Three lo w' (upd P i { P i with wv:=u }) (upd D i d'):=by
  have own:∀ k,dOwn { P i with wv:=u } k→dOwn (P i) k∨w.heap.size≤k:=by
    intro k hk
    rcases hk with e | e | e | e
    · exact .inl (.inl e)
    · exact .inl (.inr (.inl e))
    · exact .inl (.inr (.inr (.inl e)))
    · rcases hn k e with e2 | e2
      · exact .inl (.inr (.inr (.inr e2)))
      · exact .inr e2
  refine ⟨fun j hj=>?_,fun j hj=>?_,fun a b ha hb hab k hk1 hk2=>?_⟩
  · by_cases e:j=i
    · subst e
      rw [upd_same,upd_same]
      exact hd
    · rw [upd_other _ _ e,upd_other _ _ e]
      refine (h.disk j hj).far (fun k hk=>ht.block k ((h.disk j hj).lts hk) (fun hs=>?_))
      rcases hS k hs with h1 | h1
      · exact h.apart i j hi hj (fun e2=>e e2.symm) k h1 hk
      · exact h1 j hj hk
  · by_cases e:j=i
    · subst e
      rw [upd_same]
      exact h.lo j hi
    · rw [upd_other _ _ e]
      exact h.lo j hj
  · by_cases e1:a=i
    · subst e1
      rw [upd_same] at hk1
      rw [upd_other _ _ (fun e=>hab e.symm)] at hk2
      rcases own k hk1 with h1 | h1
      · exact h.apart a b ha hb hab k h1 hk2
      · have:=(h.disk b hb).lts hk2
        omega
    · rw [upd_other _ _ e1] at hk1
      by_cases e2:b=i
      · subst e2
        rw [upd_same] at hk2
        rcases own k hk2 with h1 | h1
        · exact h.apart b a hb ha (fun e=>hab e.symm) k h1 hk1
        · have:=(h.disk a ha).lts hk1
          omega
      · rw [upd_other _ _ e2] at hk2
        exact h.apart a b ha hb hab k hk1 hk2
theorem Three.none {lo:Nat}{w:World}{P:Nat→Dp}{D:Nat→Dk}(h:Three lo w P D){k:Nat}{C:Array Value}{T:TypeId}{fr:Nat × Nat}(hk:w.heap[k]?=some (.cells C T fr))(hT:T≠78∧T≠84∧T≠86):∀ j,j<3→¬ dOwn (P j) k:=fun j hj ho=>by
  obtain ⟨C',T',fr',e,hT'⟩:=(h.disk j hj).kind ho
  rw [hk] at e
  simp at e
  rcases hT' with e' | e' | e'
  · exact hT.1 (by rw [e.2.1,e'])
  · exact hT.2.1 (by rw [e.2.1,e'])
  · exact hT.2.2 (by rw [e.2.1,e'])
theorem kept_format_free {N:Nat}{d:Dk}(hf:Free d N 0)(hN:42≤N)(hN2:N≤60):(formatD d).2=0∧Kept N (formatD d).1 1 0 []:=by
  have hl:d.now.length=N:=hf.len
  have e:formatD d=seqD d formL:=by unfold formatD;rw [if_neg (by omega)]
  rw [e]
  have hz:(⟨#[]⟩:ByteArray).size≤40:=by decide
  have hh:(baL (headL 1 ⟨#[]⟩)).size≤40:=by rw [baL_size,headL_length];omega
  obtain ⟨a1,a2,a3⟩:=lay_free (a:=0) hf (by omega) hz
  obtain ⟨b1,b2,b3⟩:=lay_free (a:=1) a2 (by omega) hz
  obtain ⟨c1,c2,c3⟩:=lay_free (a:=26) b2 (by omega) hz
  obtain ⟨d1,d2,d3⟩:=lay_free (a:=1) c2 (by omega) hh
  have eq:seqD d formL=((layD (layD (layD (layD d 0 [⟨#[]⟩]).1 1 [⟨#[]⟩]).1 26 [⟨#[]⟩]).1 1 [baL (headL 1 ⟨#[]⟩)]).1,0):=by
    unfold formL
    simp only [seqD]
    rw [if_pos a1,if_pos b1,if_pos c1,if_pos d1]
  rw [eq]
  have pb:padD ⟨#[]⟩=Go.Proofs.YtihnghnafpgdfadGreatDoor.blank:=by decide
  rw [pb] at a3 b3 c3
  refine ⟨rfl,d2,by omega,⟨[],[],?_,?_,rfl⟩,?_⟩
  · refine whOf_laid (by omega) Rowed.nil (by intro c hc;cases hc) (by simp) ?_ (by intro j hj;simp at hj)
    rw [d3,if_pos rfl,padD_baL]
    try rfl
  · refine logAt_none (by rw [d2.len];omega) (s:=Go.Proofs.YtihnghnafpgdfadGreatDoor.blank) ?_ (secOf_blank ?_)
    · rw [d3,if_neg (by omega),c3,if_pos rfl]
    · unfold firstOf;omega
  · rw [d3,if_neg (by omega),c3,if_neg (by omega),b3,if_neg (by omega),a3,if_pos rfl]
theorem repeat_one (x:UInt8):∀ n,Lib.repeatL [x] n=List.replicate n x
  | 0=>rfl
  | n+1=>by rw [Lib.repeatL,repeat_one x n];rfl
theorem nDigits_step {u k:Nat}(h:Lib.nDigits (u / 10)≤k):Lib.nDigits u≤k+1:=by
  rw [Lib.nDigits]
  split <;> omega
theorem itoa_four {u:Nat}(h:u<10000):(Lib.itoa (u:Int)).length≤4:=by
  rw [Lib.itoa_nonneg,Lib.decDigits_length]
  exact nDigits_step (nDigits_step (nDigits_step (Nat.le_of_eq (Lib.nDigits_small (by omega)))))
def toldL (n:Int):List UInt8:=Lib.repeatL [48] (4 - (Lib.itoa n).length) ++ Lib.itoa n
set_option maxRecDepth 100000 in
theorem told_any (n:Int)(w:World)(h0:0≤n)(h1:n≤100000)(hlen:(Lib.itoa n).length≤4)(htab:Lib.TabIs Tryz.prog w "internal/strconv.uint64pow10" .u64 Lib.pow10Tab) :
    Calls Tryz.prog 105 #[.int .i64 n] w fun e w'=>e=.returned (.string ⟨(toldL n).toArray⟩)∧Below w.heap.size w w':=by
  have KI:Hid _:=Tryz.strconv_Itoa n (by omega) (by omega) w htab
  have HT:Hid (toldL n=Lib.repeatL [48] (4 - (Lib.itoa n).length) ++ Lib.itoa n):=rfl
  clear htab
  generalize Lib.itoa n=D at *
  generalize toldL n=T at *
  have hmax:max (0:Int) (4 - (D.length:Int))=((4 - D.length:Nat):Int):=by omega
  have HMAX:Hid (max (0:Int) (4 - (D.length:Int))=((4 - D.length:Nat):Int)):=hmax
  clear hmax
  go_enter Tryz.func105,Tryz.ntmps105
  go_wp2_with fail
  refine Calls.mono KI.out ?_
  rintro e w1 ⟨rfl,k,os,hw⟩
  have HB1:Hid (Below w.heap.size w w1):=by show Below _ _ _;rw [hw];exact Lib.below_grow _ w (Nat.le_refl _) k os
  have KR:Hid _:=Tryz.strings_Repeat ⟨#[48]⟩ (4 - D.length) w1 (by omega) (by simp [ByteArray.size];omega)
  clear KI hw
  go_wp2_with fail
  rw [HMAX.out]
  refine Calls.mono KR.out ?_
  rintro e w2 ⟨rfl,hb⟩
  have HB2:Hid (Below w.heap.size w w2):=HB1.out.trans (hb.mono HB1.out.size)
  clear hb KR HB1
  have hsz:(⟨(Lib.repeatL [48] (4 - D.length)).toArray⟩:ByteArray).size+(⟨D.toArray⟩:ByteArray).size≤4:=by
    rw [repeat_one]
    simp [ByteArray.size]
    omega
  have HJ:Hid ((⟨(Lib.repeatL [48] (4 - D.length)).toArray⟩:ByteArray) ++ (⟨D.toArray⟩:ByteArray)=⟨T.toArray⟩):=by
    show _=_
    rw [HT.out]
    apply ByteArray.ext
    simp
  have hs1:(⟨(Lib.repeatL [48] (4 - D.length)).toArray⟩:ByteArray).size≤4:=by omega
  have hs2:(⟨D.toArray⟩:ByteArray).size≤4:=by omega
  clear hlen
  generalize (⟨(Lib.repeatL [48] (4 - D.length)).toArray⟩:ByteArray)=S1 at *
  generalize (⟨D.toArray⟩:ByteArray)=S2 at *
  go_wp2
  go_ret
  rw [HJ.out]
  exact ⟨rfl,HB2.out⟩
def t4 (n:Nat):List UInt8:=[UInt8.ofNat (48+n / 1000),UInt8.ofNat (48+n / 100 % 10),UInt8.ofNat (48+n / 10 % 10),UInt8.ofNat (48+n % 10)]
theorem dec_small {n:Nat}(h:n<10):Lib.decDigits n=[UInt8.ofNat (48+n)]:=by rw [Lib.decDigits,dif_pos h]
theorem dec_big {n:Nat}(h:¬ n<10):Lib.decDigits n=Lib.decDigits (n / 10) ++ [UInt8.ofNat (48+n % 10)]:=by rw [Lib.decDigits,dif_neg h]
theorem toldL_t4 {n:Nat} (h:n<10000):toldL (n:Int)=t4 n:=by
  unfold toldL t4
  rw [Lib.itoa_nonneg]
  by_cases h1:n<10
  · rw [dec_small h1,repeat_one]
    have e1:n / 1000=0:=by omega
    have e2:n / 100 % 10=0:=by omega
    have e3:n / 10 % 10=0:=by omega
    have e4:n % 10=n:=by omega
    rw [e1,e2,e3,e4]
    rfl
  · by_cases h2:n<100
    · rw [dec_big h1,dec_small (show n / 10<10 by omega),repeat_one]
      have e1:n / 1000=0:=by omega
      have e2:n / 100 % 10=0:=by omega
      have e3:n / 10 % 10=n / 10:=by omega
      rw [e1,e2,e3]
      rfl
    · by_cases h3:n<1000
      · rw [dec_big h1,dec_big (show ¬ n / 10<10 by omega),dec_small (show n / 10 / 10<10 by omega),repeat_one]
        have e1:n / 1000=0:=by omega
        have e2:n / 100 % 10=n / 10 / 10:=by omega
        rw [e1,e2]
        rfl
      · rw [dec_big h1,dec_big (show ¬ n / 10<10 by omega),dec_big (show ¬ n / 10 / 10<10 by omega),dec_small (show n / 10 / 10 / 10<10 by omega),repeat_one]
        have e1:n / 1000=n / 10 / 10 / 10:=by omega
        have e2:n / 100 % 10=n / 10 / 10 % 10:=by omega
        rw [e1,e2]
        rfl
theorem ofNat_val (d:Nat)(h:d<10):(UInt8.ofNat (48+d)).toNat=48+d:=by
  rw [UInt8.toNat_ofNat']
  omega
theorem digitVal_of (d:Nat)(h:d<10):Lib.digitVal (UInt8.ofNat (48+d))=some d:=by
  unfold Lib.digitVal
  rw [ofNat_val d h,if_pos (by omega)]
  congr 1
  omega
theorem atoi_t4 {n:Nat}(h:n<10000):Lib.atoi (t4 n)=some (n:Int):=by
  have hne:∀ d,d<10→(UInt8.ofNat (48+d) == 45)=false∧(UInt8.ofNat (48+d) == 43)=false:=by
    intro d hd
    have hv:=ofNat_val d hd
    constructor
    · rw [beq_eq_false_iff_ne];intro e;rw [e] at hv;have:(45:UInt8).toNat=45:=rfl;omega
    · rw [beq_eq_false_iff_ne];intro e;rw [e] at hv;have:(43:UInt8).toNat=43:=rfl;omega
  have hd:n / 1000<10:=by omega
  unfold t4 Lib.atoi
  simp only [(hne _ hd).1,(hne _ hd).2,Bool.false_eq_true,if_false]
  simp only [Lib.decNat,List.isEmpty_cons,Bool.false_eq_true,if_false,Lib.decFrom,digitVal_of _ hd,digitVal_of _ (show n / 100 % 10<10 by omega),digitVal_of _ (show n / 10 % 10<10 by omega),digitVal_of _ (show n % 10<10 by omega),Option.map_some,Option.some.injEq]
  omega
def pre (v:List UInt8):Nat→Nat
  | 0=>0
  | k+1=>10 * pre v k+((v[k]?.map UInt8.toNat).getD 48 - 48)
def digB (b:UInt8):Bool:=decide (48≤b.toNat) && decide (b.toNat≤57)
def kf:ByteArray:=⟨#[102]⟩
def kturn:ByteArray:=⟨#[116,117,114,110]⟩
def frow (f:Fi):Ch:=⟨kf ++ f.n,(⟨(toldL f.k).toArray⟩:ByteArray) ++ f.t,false⟩
def trow (t:Int):Ch:=⟨kturn,⟨(toldL t).toArray⟩,false⟩
def rowsL (l:List Fi)(t:Int):List Ch:=l.map frow ++ [trow t]
theorem rowsL_length (l:List Fi)(t:Int):(rowsL l t).length=l.length+1:=by simp [rowsL]
theorem rowsL_f (l:List Fi)(t:Int)(i:Nat)(h:i<l.length)(h':i<(rowsL l t).length):(rowsL l t)[i]=frow l[i]:=by
  have e:(rowsL l t)[i]?=some (frow l[i]):=by
    unfold rowsL
    rw [List.getElem?_append_left (by simpa using h),List.getElem?_map,List.getElem?_eq_getElem h]
    rfl
  rw [List.getElem?_eq_getElem h'] at e
  exact Option.some.inj e
theorem rowsL_t (l:List Fi)(t:Int)(i:Nat)(h:i=l.length)(h':i<(rowsL l t).length):(rowsL l t)[i]=trow t:=by
  have e:(rowsL l t)[i]?=some (trow t):=by
    unfold rowsL
    rw [List.getElem?_append_right (by simp;omega),show i - (l.map frow).length=0 by simp;omega]
    rfl
  rw [List.getElem?_eq_getElem h'] at e
  exact Option.some.inj e
theorem baI_toList (a:ByteArray):a.toList=a.data.toList:=ByteArray.toList_eq a
theorem ba_append (a b:ByteArray):(a ++ b).toList=a.toList ++ b.toList:=by
  rw [baI_toList,baI_toList,baI_toList]
  simp
theorem ltB_kf (a b:ByteArray):ltB (kf ++ a) (kf ++ b)=ltB a b:=by
  unfold ltB
  rw [ba_append,ba_append]
  have e:kf.toList=[102]:=by rw [baI_toList];rfl
  rw [e]
  simp [Op.bytesLess]
theorem kturn_list:kturn.toList=[116,117,114,110]:=by rw [baI_toList];rfl
theorem ltB_ft {a:ByteArray}{r:List UInt8}(h:a.toList=102 :: r):ltB a kturn=true:=by
  unfold ltB
  rw [h,kturn_list]
  simp [Op.bytesLess]
theorem kf_list (a:ByteArray):(kf ++ a).toList=102 :: a.toList:=by
  rw [ba_append]
  have e:kf.toList=[102]:=by rw [baI_toList];rfl
  rw [e]
  rfl
theorem ltB_kft (a:ByteArray):ltB (kf ++ a) kturn=true:=ltB_ft (kf_list a)
theorem kf_ne (a:ByteArray):¬ kf ++ a=kturn:=fun e=>by
  have:=ltB_kft a
  rw [e,ltB_irrefl] at this
  cases this
theorem stb_eq:∀ {T S:List Ch},Rises ltC S→T.Pairwise (fun x y=>ltC x y=true)→(∀ z,S.filter (eqv ltC z)=T.filter (eqv ltC z))→S=T
  | [],S,_,_,h=>by
    cases S with
    | nil=>rfl
    | cons s S =>
      have:=h s
      have e:eqv ltC s s=true:=by rw [eqvC];exact sameK_iff.2 rfl
      rw [List.filter_cons,if_pos e] at this
      cases this
  | t :: T, S,hS,hT,h=>by
    have self:∀ x:Ch,eqv ltC x x=true:=fun x=>by rw [eqvC];exact sameK_iff.2 rfl
    have mem:∀ x,x ∈ S↔x ∈ t :: T:=fun x=>by
      have:x ∈ S.filter (eqv ltC x)↔x ∈ (t :: T).filter (eqv ltC x):=by rw [h x]
      simpa [List.mem_filter,self] using this
    cases S with
    | nil=>exact absurd ((mem t).2 (List.mem_cons_self ..)) (by simp)
    | cons s S =>
      have hp:=List.pairwise_cons.1 hT
      have hq:=List.pairwise_cons.1 hS
      have est:s=t:=by
        rcases List.mem_cons.1 ((mem s).1 (List.mem_cons_self ..)) with e | e
        · exact e
        · have h1:=hp.1 s e
          rcases List.mem_cons.1 ((mem t).2 (List.mem_cons_self ..)) with e2 | e2
          · exact e2.symm
          · have h2:=hq.1 t e2
            rw [h1] at h2
            cases h2
      subst est
      congr 1
      refine stb_eq hq.2 hp.2 (fun z=>?_)
      have:=h z
      rw [List.filter_cons,List.filter_cons] at this
      by_cases e:eqv ltC z s=true
      · rw [if_pos e,if_pos e] at this
        exact (List.cons.inj this).2
      · rw [if_neg e,if_neg e] at this
        exact this
theorem Good.frows {l:List Fi}(h:Good l):(l.map frow).Pairwise (fun x y=>ltC x y=true):=by
  rw [List.pairwise_map]
  refine h.pw.imp ?_
  intro a b hab
  show ltB (kf ++ a.n) (kf ++ b.n)=true
  rw [ltB_kf]
  exact hab
theorem Good.rows_rise {l:List Fi}(h:Good l)(t:Int):(rowsL l t).Pairwise (fun x y=>ltC x y=true):=by
  unfold rowsL
  rw [List.pairwise_append]
  refine ⟨h.frows,List.pairwise_singleton ..,?_⟩
  intro a ha b hb
  obtain ⟨f,_,rfl⟩:=List.mem_map.1 ha
  rw [List.mem_singleton.1 hb]
  exact ltB_kft _
theorem sorted_rows {l:List Fi}(h:Good l)(t:Int){S:List Ch}(hS:Stb ltC (trow t :: l.map frow) S):S=rowsL l t:=by
  refine stb_eq hS.rises (h.rows_rise t) (fun z=>?_)
  rw [hS.same z]
  unfold rowsL
  rw [List.filter_append,List.filter_cons]
  by_cases e:eqv ltC z (trow t)=true
  · rw [if_pos e,List.filter_cons,if_pos e]
    have e1:(l.map frow).filter (eqv ltC z)=[]:=by
      rw [List.filter_eq_nil_iff]
      intro a ha hz
      obtain ⟨f,_,rfl⟩:=List.mem_map.1 ha
      rw [eqvC,sameK_iff] at hz e
      exact kf_ne f.n (hz.trans e.symm)
    rw [e1]
    rfl
  · rw [if_neg e,List.filter_cons,if_neg e]
    simp
structure Img (rows:List Ch)(l:List Fi)(t:Int):Prop where
  good:GoodQ l t
  rows:rows=rowsL l t
theorem Img.length {rows:List Ch}{l:List Fi}{t:Int}(h:Img rows l t):rows.length=l.length+1:=by rw [h.rows,rowsL_length]
theorem Img.f {rows:List Ch}{l:List Fi}{t:Int}(h:Img rows l t)(i:Nat)(hi:i<rows.length)(hl:i<l.length):rows[i]=frow l[i]:=by
  have:=h.rows
  subst this
  exact rowsL_f l t i hl hi
theorem Img.t {rows:List Ch}{l:List Fi}{t:Int}(h:Img rows l t)(i:Nat)(hi:i<rows.length)(hl:¬ i<l.length):rows[i]=trow t:=by
  have hn:=h.length
  have:=h.rows
  subst this
  exact rowsL_t l t i (by omega) hi
theorem GoodQ.times {l:List Fi}{t:Int}(h:GoodQ l t){f:Fi}(hf:f ∈ l):∃ k:Nat,f.k=k∧1≤k∧k≤9999:=by
  obtain ⟨_,_,h3,h4⟩:=fault_zero (h.files.each f hf)
  exact ⟨f.k.toNat,by omega,by omega,by omega⟩
theorem GoodQ.turn {l:List Fi}{t:Int}(h:GoodQ l t):∃ k:Nat,t=k∧1≤k∧k≤9999:=⟨t.toNat,by have:=h.low;omega,by have:=h.low;omega,by have:=h.high;have:=h.low;omega⟩
end Go.Proofs.YtihnghnafpgdfadGreatDoor
