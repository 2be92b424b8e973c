/- What the proofs stand on, part 25: TopLogBase, StoreFall, StoreSaid, TopCrashBase, TrioPure, TrioState. -/
import Derived.Test.YtihnghnafpgdfadGreatDoorSk24
import Derived.Test.YtihnghnafpgdfadGreatDoorSk23
import Derived.Test.YtihnghnafpgdfadGreatDoorSk07
set_option linter.unusedVariables false
set_option linter.unusedSimpArgs false
namespace Go.Proofs.YtihnghnafpgdfadGreatDoor
open Go.RowKit Go.BigFrame
variable {B N a b i j lo lo' sd side used:Nat}{L k now:List (List UInt8)}{d d':Dk}{x:List UInt8}{s:St}{R c r:List Ch}{w w' wr:World}{p:Dp}{C:Array Value}{T:TypeId}{fr:Nat × Nat}{P:Nat→Dp}{D:Nat→Dk}{u:Value}
theorem zjh:∀ (l:List ByteArray) (d:Dk) (a:Nat),(zap d a l).1.wr.length≤d.wr.length+l.length
 | [],d,a=>by simp [zap]
 | s :: r,d,a=>by
   have h1:=zhP d (a:Int) s;have h2:=zjh r (zaN d (a:Int) s) (a+1);rw [zap]
   split
   · simp only [List.length_cons];omega
   · simp only [List.length_cons];omega
theorem zfy (d:Dk)(a:Nat)(l:List ByteArray):(layD d a l).1.wr.length≤d.wr.length+l.length:=by
 have h:=zjh l d a;unfold layD
 split
 · show (zaO (zap d a l).1).wr.length≤_
   unfold zaO;have h3:=(zbU (zap d a l).1).2.2.1
   split
   · simp
   · rw [h3];exact h
 · exact h
theorem zov (c:Ch):zae c=0∨zae c=2∨zae c=3:=by
 unfold zae
 split
 · exact .inr (.inr rfl)
 · split
   · exact .inr (.inl rfl)
   · exact .inl rfl
theorem zkQ:∀ l:List Ch,za1 l=0∨za1 l=2∨za1 l=3
 | []=>.inl rfl
 | c :: l=>by
   unfold za1
   split
   · exact zkQ l
   · exact zov c
end Go.Proofs.YtihnghnafpgdfadGreatDoor
namespace Go.Proofs.YtihnghnafpgdfadGreatDoor
open Go Go.RowKit Go.BigFrame
variable {B N a b i j lo lo' sd side used:Nat}{L k now:List (List UInt8)}{d d':Dk}{x:List UInt8}{s:St}{R c r:List Ch}{w w' wr:World}{p:Dp}{C:Array Value}{T:TypeId}{fr:Nat × Nat}{P:Nat→Dp}{D:Nat→Dk}{u:Value}
def dk (L:List (List UInt8)):Dk:=⟨L,L,[],0,-1,false⟩
structure zbZ (N:Nat)(L:List (List UInt8))(side used:Nat)(rows:List Ch):Prop where
 len:L.length=N
 sd:side≤1
 said:∃ rows0 D,whOf (dk L) side=some rows0∧zbg (dk L) side=(D,used)∧za6 rows0 D=some rows
 blank:side=0→L[1]?=some blank
structure zqt (N:Nat)(L:List (List UInt8))(side used:Nat)(rows:List Ch):Prop where
 len:L.length=N
 sd:side≤1
 said:∃ rows0 D,zew (whOf (dk L))=some (side,rows0)∧zbg (dk L) side=(D,used)∧za6 rows0 D=some rows
theorem zbZ.g {rows:List Ch}(h:zbZ N L side used rows):zqt N L side used rows:=by
 obtain ⟨r0,D,h1,h2,h3⟩:=h.said;have hs:=h.sd;refine ⟨h.len,h.sd,r0,D,?_,h2,h3⟩;unfold zew;rcases (by omega:side=0∨side=1) with rfl | rfl
 · have hb:(dk L).now[1]?=some Go.Proofs.YtihnghnafpgdfadGreatDoor.blank:=h.blank rfl
   rw [zk0 hb,h1]
 · rw [h1]
theorem zqt.opens {rows:List Ch}(h:zqt N L side used rows):zc3 (dk L)=some (side,rows,used):=by
 obtain ⟨r0,D,h1,h2,h3⟩:=h.said;unfold zc3;rw [h1];simp only;rw [h2];simp only;rw [h3]
theorem Kept.l {rows:List Ch}(h:Kept N d side used rows):zbZ N d.now side used rows:=⟨h.free.len,h.sd,h.said,fun e=>by have:=h.blank;rw [e] at this;exact this⟩
theorem zjY (h:∀ j,j=i∨(2+i * 12≤j∧j<14+i * 12)→d'.now[j]?=d.now[j]?):whOf d' i=whOf d i:=by
 have e1:zdC d' i=zdC d i:=by unfold zdC;rw [List.getD_eq_getElem?_getD,List.getD_eq_getElem?_getD,h i (.inl rfl)]
 have e2:zee d' i=zee d i:=by unfold zee;rw [e1]
 by_cases h12:zee d i≤12
 · have e3:zcF d' i=zcF d i:=by
    unfold zcF;rw [e2]
    congr 2
    apply List.ext_getElem?
    intro j;rw [za8,za8]
    split
    · exact h _ (.inr (by omega))
    · rfl
   have e4:zdh d' i↔zdh d i:=by unfold zdh;rw [e1,e2,e3]
   unfold whOf
   by_cases hh:zdh d i
   · rw [if_pos hh,if_pos (e4.2 hh),e3,e2]
   · rw [if_neg hh,if_neg (fun x=>hh (e4.1 x))]
 · unfold whOf
   rw [if_neg (fun x=>h12 (by rw [← e2];exact x.1)),if_neg (fun x=>h12 x.1)]
theorem zpE:∀ {l m:List (List UInt8)},(∀ x ∈ l,x.length=40)→(∀ x ∈ m,x.length=40)→l.flatten=m.flatten→l=m
 | [],[],_,_,_=>rfl
 | [],y :: m,_,h2,h=>by
   have:=congrArg List.length h;have hy:=h2 y (by simp);simp at this
   omega
 | x :: l,[],h1,_,h=>by
   have:=congrArg List.length h;have hx:=h1 x (by simp);simp at this
   rw [this.1] at hx;simp at hx
 | x :: l,y :: m,h1,h2,h=>by
   simp only [List.flatten_cons] at h;obtain ⟨e1,e2⟩:=List.append_inj h (by rw [h1 x (by simp),h2 y (by simp)]);rw [e1,zpE (fun z hz=>h1 z (by simp [hz])) (fun z hz=>h2 z (by simp [hz])) e2]
theorem zoG {rows:List Ch}(hF:zgu d.now)(h:whOf d i=some rows)(hl:2+i * 12+12≤d.now.length):∀ j,j<rows.length→d.now[2+i * 12+j]?=(rows.map rowL)[j]?:=by
 unfold whOf at h
 split at h
 · rename_i hh
   obtain ⟨h1,h2,h3,h4⟩:=zj4 h;have hc:=hh.1;unfold zcF at h4;rw [zbT] at h4;have e:rows.map rowL=zao d.now (2+i * 12) (zee d i):=zpE (fun x hx=>by obtain ⟨c,hc,rfl⟩:=List.mem_map.1 hx;exact zgQ (h2 c hc)) (fun x hx=>hF x (List.mem_of_mem_drop (List.mem_of_mem_take hx))) h4;intro j hj;rw [e,za8,if_pos (by omega)]
 · cases h
theorem znA (h:zkf now a [x] k)(ha:a<now.length):k=now∨(k.length=now.length∧∀ j,k[j]?=if j=a then some x else now[j]?):=by
 by_cases hk:k[a]?=some x
 · refine .inr ⟨h.1,fun j=>?_⟩
   by_cases hj:j=a
   · subst hj;rw [if_pos rfl];exact hk
   · rw [if_neg hj]
     rcases h.2 j with e | ⟨e1,e2,-⟩
     · exact e
     · simp at e2;omega
 · left
   apply List.ext_getElem?
   intro j;rcases h.2 j with e | ⟨e1,e2,e3⟩
   · exact e
   · simp at e2
     have:j=a:=by omega
     subst this
     simp at e3;exact absurd e3 hk
theorem zpF (ha:a<now.length):(zgt now a [x]).length=now.length∧∀ j,(zgt now a [x])[j]?=if j=a then some x else now[j]?:=by
 refine ⟨zbx _ _ _,fun j=>?_⟩;rw [zgo _ _ _ _ (by simp;omega)]
 by_cases hj:j=a
 · subst hj;rw [if_pos ⟨Nat.le_refl _,by simp⟩,if_pos rfl];simp
 · rw [if_neg (by simp;omega),if_neg hj]
theorem zbZ.rows {rows:List Ch}(h:zbZ N L side used rows):zaY rows∧(∀ c ∈ rows,zae c=0)∧rows.length≤12:=by
 obtain ⟨r0,D,h1,h2,h3⟩:=h.said;obtain ⟨a,b,c⟩:=zjF h1;refine zex a b c (fun l hl x hx=>?_) h3;have e:D=(zbg (dk L) side).1:=by rw [h2]
 rw [e] at hl;exact (zlN rdC zqY l hl).1 x hx
theorem zbZ.usedLe {rows:List Ch}(h:zbZ N L side used rows)(hN:42≤N):used≤N - 26:=by
 obtain ⟨r0,D,h1,h2,h3⟩:=h.said;have:=zlz rdC (now:=L) (from':=26) (many:=L.length - 26) (first:=zaf (dk L) side) (by rw [h.len];omega);have h2':zcv rdC L 26 (L.length - 26) (zaf (dk L) side)=(D,used):=h2;rw [h2',h.len] at this
 exact this
theorem zbZ.none {rows:List Ch}(h:zbZ N L side 0 rows):whOf (dk L) side=some rows∧zbg (dk L) side=([],0):=by
 obtain ⟨r0,D,h1,h2,h3⟩:=h.said
 have hz:(zaH rdC (zaf (dk L) side) (zao L 26 (L.length - 26))).2=0:=by
  have:(zbg (dk L) side).2=0:=by rw [h2]
  exact this
 have hD:D=[]:=by
  have e2:D=(zbg (dk L) side).1:=by rw [h2]
  rw [e2];exact ziv rdC hz
 subst hD;simp only [za6] at h3;cases h3;exact ⟨h1,h2⟩
theorem zbZ.other {rows:List Ch}(h:zbZ N L side used rows)(hN:42≤N)(hN2:N≤60)(hu:¬ used=0):zbg (dk L) (1 - side)=([],0):=by
 obtain ⟨r0,D,h1,h2,h3⟩:=h.said;have hs:=h.sd;have hl:(dk L).now.length=N:=h.len
 have hp:0<(zaH rdC (zaf (dk L) side) (zao (dk L).now 26 ((dk L).now.length - 26))).2:=by
  have:(zbg (dk L) side).2=used:=by rw [h2]
  unfold zbg zcv at this
  omega
 obtain ⟨x,r,hx,hno⟩:=zh8 rdC hp
 have h26:(dk L).now[26]?=some x:=by
  have:=za8 (now:=(dk L).now) (from':=26) (many:=(dk L).now.length - 26) (j:=0);rw [hx,if_pos (by omega)] at this
  simpa using this.symm
 refine zhR (by omega) h26 (zjd hno ?_ ?_ ?_)
 all_goals
  unfold zaf;rw [hl];rcases (by omega:side=0∨side=1) with e | e <;> rw [e] <;> simp <;> omega
theorem zbZ.same {rows:List Ch}(h:zbZ N L side used rows)(hl:k.length=L.length)(h1:k[1 - side]?=L[1 - side]?)(h2:∀ j,j=side∨(2+side * 12≤j∧j<14+side * 12)→k[j]?=L[j]?)(h3:∀ j,26≤j→k[j]?=L[j]?):zbZ N k side used rows:=by
 obtain ⟨r0,D,e1,e2,e3⟩:=h.said;exact ⟨by rw [hl];exact h.len,h.sd,⟨r0,D,by rw [zjY (d:=dk L) (d':=dk k) h2];exact e1,by rw [ze5 (d:=dk L) (d':=dk k) hl h3];exact e2,e3⟩,fun e=>by rw [e] at h1;exact h1.trans (h.blank e)⟩
theorem zj8 {rows:List Ch} (h:zbZ N d.now side used rows) (hF:zgu d.now) (hN:42≤N) (hi:(i=side∧used=0)∨(i=1 - side∧¬ used=0)) (hk:zkf d.now (2+i * 12) (rows.map rowL) k):
 zbZ N k side used rows:=by
 obtain ⟨q1,q2,q3⟩:=h.rows;have hs:=h.sd;have hlen:=h.len
 have out:∀ j,¬ (2+i * 12≤j∧j<2+i * 12+rows.length)→k[j]?=d.now[j]?:=fun j hj=>by
  rcases hk.2 j with e | ⟨e1,e2,-⟩
  · exact e
  · rw [List.length_map] at e2;exact absurd ⟨e1,e2⟩ hj
 rcases hi with ⟨rfl,rfl⟩ | ⟨rfl,hu⟩
 · have hw:=h.none.1
   have hreg:=zoG (d:=d) hF hw (by omega)
   have e:k=d.now:=by
    apply List.ext_getElem?
    intro j;rcases hk.2 j with e | ⟨e1,e2,e3⟩
    · exact e
    · rw [List.length_map] at e2
      rw [e3,← hreg (j - (2+i * 12)) (by omega)]
      congr 1
      omega
   rw [e];exact h
 · have h2:(1 - side) * 12+side * 12=12:=by rcases (by omega:side=0∨side=1) with e | e <;> rw [e]
   have h3:(1 - side) * 12≤12:=by omega
   refine h.same hk.1 (out _ (by omega)) (fun j hj=>out j ?_) (fun j hj=>out j (by omega));rcases (by omega:side=0∨side=1) with e | e <;> subst e <;> simp at hj ⊢ <;> omega
theorem zmf {rows:List Ch} (h:zbZ N L side used rows) (hN:42≤N) (hN2:N≤60) (hi:(i=side∧used=0)∨(i=1 - side∧¬ used=0)) (hrow:∀ j,j<rows.length→L[2+i * 12+j]?=(rows.map rowL)[j]?)
 (hlen:k.length=L.length) (hk:∀ j,k[j]?=if j=i then some (zdG (zbP i (baL (zbc rows)))) else L[j]?) :
 whOf (dk k) i=some rows∧zbg (dk k) i=([],0)∧∃ side used,zbZ N k side used rows:=by
 obtain ⟨q1,q2,q3⟩:=h.rows;have hs:=h.sd;have hi1:i≤1:=by omega
 have hw:whOf (dk k) i=some rows:=by
  refine zjl hi1 q1 q2 q3 ?_ ?_
  · show k[i]?=_
    rw [hk,if_pos rfl]
  · intro j hj
    show k[_]?=_;rw [hk,if_neg (by omega)];exact hrow j hj
 have hcong:∀ n,zbg (dk k) n=zbg (dk L) n:=fun n=>ze5 (d:=dk L) (d':=dk k) hlen (fun j hj=>by
  show k[j]?=L[j]?;rw [hk,if_neg (by omega)])
 have hlog:zbg (dk k) i=([],0):=by
  rw [hcong];rcases hi with ⟨rfl,rfl⟩ | ⟨rfl,hu⟩
  · exact h.none.2
  · exact h.other hN hN2 hu
 refine ⟨hw,hlog,?_⟩;have hlk:k.length=N:=by rw [hlen];exact h.len
 by_cases hone:i=1
 · exact ⟨1,0,hlk,by omega,⟨rows,[],by rw [← hone];exact hw,by rw [← hone];exact hlog,rfl⟩,fun e=>absurd e (by decide)⟩
 · have h0:i=0:=by omega
   rcases hi with ⟨e,hu⟩ | ⟨e,hu⟩
   · have hb:(dk k).now[1]?=some Go.Proofs.YtihnghnafpgdfadGreatDoor.blank:=by
      show k[1]?=_;rw [hk,if_neg (by omega)];exact h.blank (by omega)
     have hlog0:zbg (dk k) 0=([],0):=by have:=hlog;rw [h0] at this;exact this
     rw [h0] at hw;exact ⟨0,0,hlk,by omega,⟨rows,[],hw,hlog0,rfl⟩,fun _=>hb⟩
   · have hs1:side=1:=by omega
     obtain ⟨r0,D,e1,e2,e3⟩:=h.said
     have hw1:whOf (dk k) 1=some r0:=by
      rw [zjY (d:=dk L) (d':=dk k) (fun j hj=>by
       show k[j]?=L[j]?;rw [hk,if_neg (by omega)]),← hs1]
      exact e1
     exact ⟨side,used,hlk,hs,⟨r0,D,by rw [hs1];exact hw1,by rw [hcong];exact e2,e3⟩,fun e=>by omega⟩
theorem zqu {g:Lg} (hk:zbZ N d.now s.side g.used s.rows) (hc:zdt d) (hF:zgu d.now) (hN:42≤N) (hN2:N≤60) (hm:g.many=N - 26):
 ((zbe d s g).2=0∧zdt (zbe d s g).1∧zbZ N (zbe d s g).1.now (zaW d s g) 0 s.rows) ∨
 ((zbe d s g).2=8∧(zbe d s g).1.wr.length≤100∧Fell (zbe d s g).1 (fun k=>∃ side used,zbZ N k side used s.rows)):=by
 obtain ⟨q1,q2,q3⟩:=hk.rows;have hs:=hk.sd;have hlen:=hk.len;have hu:=hk.usedLe hN;obtain ⟨i,hi⟩:∃ i,i=zaW d s g:=⟨_,rfl⟩
 have hside:(i=s.side∧g.used=0)∨(i=1 - s.side∧¬ g.used=0):=by
  rw [hi];unfold zaW;rw [hlen]
  split <;> omega
 have hi1:i≤1:=by omega
 have hi12:i * 12≤12:=by omega
 unfold zbe;rw [← hi];clear hi;obtain ⟨T,hT⟩:∃ T,T=baL (zbc s.rows):=⟨_,rfl⟩
 have hpl:(za4 T s.rows.length).length=s.rows.length:=zcE _ _;have hpr:(za4 T s.rows.length).map padD=s.rows.map rowL:=by rw [hT];exact zjT q2
 have hsz:∀ x ∈ za4 T s.rows.length,x.size≤40:=by
  intro x hx;unfold za4 at hx;obtain ⟨j,hj,rfl⟩:=List.mem_map.1 hx;rw [za3];unfold zfo;rw [List.length_take];omega
 have pb:padD ⟨#[]⟩=Go.Proofs.YtihnghnafpgdfadGreatDoor.blank:=by decide
 have w1:=zfy d (2+i * 12) (za4 T s.rows.length);rw [hc.wr,hpl] at w1;rw [← hT];unfold layT;rcases zhu d (2+i * 12) (za4 T s.rows.length) hc (by rw [hpl];omega) hsz with ⟨a1,a2,a3,-⟩ | ⟨a1,-,a3⟩
 case inr =>
  right
  rw [if_neg (by rw [a1];decide)];refine ⟨a1,by simp at w1;omega,a3.down,fun keep=>?_⟩;have:=a3.may keep;rw [hpr] at this
  exact ⟨_,_,zj8 hk hF hN hside this⟩
 rw [if_pos a1];simp only [seqD];rw [hpr] at a3;generalize (layD d (2+i * 12) (za4 T s.rows.length)).1=d1 at *
 have hk1:zbZ N d1.now s.side g.used s.rows:=by
  rw [a3];exact zj8 hk hF hN hside (zi9 _ _ _ (by rw [List.length_map];omega))
 have hlen1:=hk1.len
 have hrow:∀ j,j<s.rows.length→d1.now[2+i * 12+j]?=(s.rows.map rowL)[j]?:=fun j hj=>by
  rw [a3,zgo _ _ _ _ (by rw [List.length_map];omega),if_pos (by rw [List.length_map];omega)]
  congr 1
  omega
 have w2:=zfy d1 i [baL (zbP i T)];rw [a2.wr] at w2;rcases zhu d1 i [baL (zbP i T)] a2 (by simp;omega) (by intro x hx;simp at hx;rw [hx,za3,zcL];omega) with ⟨b1,b2,b3,-⟩ | ⟨b1,-,b3⟩
 case inr =>
  right
  rw [if_neg (by rw [b1];decide)];refine ⟨b1,by simp at w2;omega,b3.down,fun keep=>?_⟩;have:=b3.may keep;simp only [List.map_cons,List.map_nil,zeW] at this
  rcases znA this (by omega) with e | ⟨e1,e2⟩
  · rw [e];exact ⟨_,_,hk1⟩
  · exact (zmf hk1 hN hN2 hside hrow e1 (by rw [← hT];exact e2)).2.2
 rw [if_pos b1];simp only [List.map_cons,List.map_nil,zeW] at b3;generalize (layD d1 i [baL (zbP i T)]).1=d2 at *;obtain ⟨x1,x2⟩:=zpF (now:=d1.now) (a:=i) (x:=zdG (zbP i T)) (by omega);rw [← b3] at x1 x2;rw [hT] at x2;obtain ⟨y1,y2,y3⟩:=zmf hk1 hN hN2 hside hrow x1 x2;have hlen2:d2.now.length=N:=by rw [x1];exact hlen1
 have last:∀ k:List (List UInt8),k.length=d2.now.length→(∀ j,k[j]?=if j=1 - i then some Go.Proofs.YtihnghnafpgdfadGreatDoor.blank else d2.now[j]?)→zbZ N k i 0 s.rows:=fun k z1 z2=>by
  refine ⟨by rw [z1];exact hlen2,hi1,⟨s.rows,[],?_,?_,rfl⟩,fun e=>by rw [z2,if_pos (by omega)]⟩
  · rw [zjY (d:=dk d2.now) (d':=dk k) (fun j hj=>by
     show k[j]?=d2.now[j]?;rw [z2,if_neg (by omega)])]
    exact y1
  · rw [ze5 (d:=dk d2.now) (d':=dk k) z1 (fun j hj=>by
     show k[j]?=d2.now[j]?;rw [z2,if_neg (by omega)])]
    exact y2
 have w3:=zfy d2 (1 - i) [⟨#[]⟩];rw [b2.wr] at w3;rcases zhu d2 (1 - i) [⟨#[]⟩] b2 (by simp;omega) (by intro x hx;simp at hx;rw [hx];decide) with ⟨c1,c2,c3,-⟩ | ⟨c1,-,c3⟩
 case inr =>
  right
  rw [if_neg (by rw [c1];decide)];refine ⟨c1,by simp at w3;omega,c3.down,fun keep=>?_⟩;have:=c3.may keep;simp only [List.map_cons,List.map_nil,pb] at this
  rcases znA this (by omega) with e | ⟨e1,e2⟩
  · rw [e];exact y3
  · exact ⟨_,_,last _ e1 e2⟩
 left
 rw [if_pos c1];simp only [List.map_cons,List.map_nil,pb] at c3;refine ⟨rfl,c2,?_⟩;obtain ⟨z1,z2⟩:=zpF (now:=d2.now) (a:=1 - i) (x:=Go.Proofs.YtihnghnafpgdfadGreatDoor.blank) (by omega);exact last _ (by rw [c3];exact z1) (by rw [c3];exact z2)
theorem zmE {rows c:List Ch}(hk:zbZ N d.now side used rows)(hc:zdt d)(hN:42≤N)(hN2:N≤60)(h14:¬ 14<c.length)(hroom:¬ N - 26 - used<c.length+1)(hok:za1 c=0)(h12:(zah rows c).length≤12):
 ((addD ⟨B,26,N - 26,zaf d side,used⟩ d c).2=0∧zdt (addD ⟨B,26,N - 26,zaf d side,used⟩ d c).1∧zbZ N (addD ⟨B,26,N - 26,zaf d side,used⟩ d c).1.now side (used+c.length+1) (zah rows c)) ∨
 ((addD ⟨B,26,N - 26,zaf d side,used⟩ d c).2=8∧(addD ⟨B,26,N - 26,zaf d side,used⟩ d c).1.wr.length≤100∧Fell (addD ⟨B,26,N - 26,zaf d side,used⟩ d c).1 (fun k=>∃ side used,zbZ N k side used rows∨zbZ N k side used (zah rows c))):=by
 obtain ⟨r0,D,h1,h2,h3⟩:=hk.said;have hs:=hk.sd;have hlen:=hk.len;have hu:=hk.usedLe hN
 have hfirst:1≤zaf d side∧zaf d side≤4000000:=by
  unfold zaf;rw [hlen];rcases (by omega:side=0∨side=1) with e | e <;> rw [e] <;> simp <;> omega
 have hlog:zcv rdC d.now 26 (N - 26) (zaf d side)=(D,used):=by
  have h2':zcv rdC d.now 26 (d.now.length - 26) (zaf d side)=(D,used):=h2;rw [hlen] at h2';exact h2'
 have get:∀ (k:List (List UInt8)) (u:Nat) (D':List (List Ch)) (R:List Ch),k.length=N→(∀ j,j<26→k[j]?=d.now[j]?)→zcv rdC k 26 (N - 26) (zaf d side)=(D',u)→za6 r0 D'=some R→zbZ N k side u R:=fun k u D' R z1 z2 z3 z4=>by
  refine ⟨z1,hs,⟨r0,D',?_,?_,z4⟩,fun e=>by rw [z2 _ (by omega)];exact hk.blank e⟩
  · rw [zkH (d:=dk d.now) (d':=dk k) hs z2];exact h1
  · show zcv rdC k 26 (k.length - 26) (zaf (dk k) side)=_
    rw [zbA (d:=d) (d':=dk k) (by show k.length=_;rw [z1,hlen]),z1];exact z3
 generalize zaf d side=first at *;have hcg:∀ x ∈ c,rdC (zaM x)=some x∧(zaM x).length≤33:=fun x hx=>⟨zh6 (zb5 hok x hx),by have:=zc9 (zb5 hok x hx);omega⟩
 have hb:padD ⟨#[]⟩=Go.Proofs.YtihnghnafpgdfadGreatDoor.blank:=by decide
 unfold addD;rw [if_neg h14,if_neg (show ¬ N - 26 - used<c.length+1 from hroom),if_neg (by simpa using hok)];obtain ⟨m,hm⟩:∃ m,m=min (c.length+2) (N - 26 - used):=⟨_,rfl⟩
 rw [← hm];have hsm:∀ s ∈ List.replicate m (⟨#[]⟩:ByteArray),s.size≤40:=by intro s hs;rw [List.eq_of_mem_replicate hs];decide
 have w1:=zfy d (26+used) (List.replicate m ⟨#[]⟩);rw [hc.wr,List.length_replicate] at w1
 have low:∀ (now k:List (List UInt8)) (l:List (List UInt8)),zkf now (26+used) l k→∀ j,j<26→k[j]?=now[j]?:=fun now k l hx j hj=>by
  rcases hx.2 j with e | ⟨e,-⟩
  · exact e
  · omega
 rcases zhu d (26+used) (List.replicate m ⟨#[]⟩) hc (by simp;omega) hsm with ⟨k1,k2,k3,-⟩ | ⟨k1,-,k3⟩
 case inr =>
  right
  rw [if_pos (by rw [k1];decide)];refine ⟨k1,Nat.le_trans w1 (by simp;omega),k3.down,fun keep=>?_⟩;have hx:=k3.may keep;rw [List.map_replicate,hb] at hx;exact ⟨_,_,.inl (get _ _ _ _ (by rw [hx.1];exact hlen) (low _ _ _ hx) (znI rdC (zl4 hfirst.1 (by omega)) (by omega) (by omega) (by omega) hlog hx) h3)⟩
 rw [if_neg (by simpa using k1)];rw [List.map_replicate,hb] at k3;have hl1:(layD d (26+used) (List.replicate m ⟨#[]⟩)).1.now.length=N:=by rw [k3,zbx];exact hlen
 have low1:∀ j,j<26→(layD d (26+used) (List.replicate m ⟨#[]⟩)).1.now[j]?=d.now[j]?:=by
  rw [k3];exact low _ _ _ (zi9 _ _ _ (by simp;omega))
 have w2:=zfy (layD d (26+used) (List.replicate m ⟨#[]⟩)).1 (26+used) (zeg first used c c.length);rw [k2.wr,zcg] at w2;rcases zhu (layD d (26+used) (List.replicate m ⟨#[]⟩)).1 (26+used) (zeg first used c c.length) k2 (by rw [hl1,zcg];omega) (zdc _ _ _ _ (zb5 hok)) with ⟨q1,q2,q3,-⟩ | ⟨q1,-,q3⟩
 · left
   refine ⟨q1,q2,get _ _ _ _ (by rw [q3,zbx];exact hl1) (fun j hj=>?_) ?_ (zdE h3 h12)⟩
   · rw [q3,low _ _ _ (zi9 _ _ _ (by rw [List.length_map,zcg,hl1];omega)) j hj]
     exact low1 j hj
   · rw [q3,k3,zhg]
     exact zpI rdC (zl4 hfirst.1 (by omega)) (by omega) (by omega) hm (by omega) hlog hcg
 · right
   refine ⟨q1,Nat.le_trans w2 (by simp;omega),q3.down,fun keep=>?_⟩;have hx:=q3.may keep;have hlow:=low _ _ _ hx;have hxl:=hx.1;rw [k3,zhg] at hx;rcases zp0 rdC (zl4 hfirst.1 (by omega)) (by omega) (by omega) hm (by omega) hlog hcg hx with h | h
   · exact ⟨_,_,.inl (get _ _ _ _ (by rw [hxl];exact hl1) (fun j hj=>by rw [hlow j hj];exact low1 j hj) h h3)⟩
   · exact ⟨_,_,.inr (get _ _ _ _ (by rw [hxl];exact hl1) (fun j hj=>by rw [hlow j hj];exact low1 j hj) h (zdE h3 h12))⟩
def zu3 (d:Dk)(rows c:List Ch):Prop:=14<c.length∨¬ za1 c=0∨12<(zah rows c).length∨d.now.length - 26<c.length+1
theorem znj {g:Lg} (hk:zbZ N d.now s.side g.used s.rows) (hc:zdt d) (hF:zgu d.now) (hN:42≤N) (hN2:N≤60) (hg:g=⟨g.dB,26,N - 26,zaf d s.side,g.used⟩):
 (¬ (zai d s g c).e=0∧¬ (zai d s g c).e=8∧0≤(zai d s g c).e∧(zai d s g c).e≤100∧zai d s g c=.stay d (zai d s g c).e s g) ∨
 ((zai d s g c).e=0∧zdt (zai d s g c).d∧(zai d s g c).rows=zah s.rows c∧zbZ N (zai d s g c).d.now (zai d s g c).side (zai d s g c).g.used (zah s.rows c)∧(zai d s g c).g=⟨g.dB,26,N - 26,zaf (zai d s g c).d (zai d s g c).side,(zai d s g c).g.used⟩) ∨
 ((zai d s g c).e=8∧(zai d s g c).d.wr.length≤100∧Fell (zai d s g c).d (fun k=>∃ side used,zbZ N k side used s.rows∨zbZ N k side used (zah s.rows c))):=by
 have hlen:=hk.len;have hu:=hk.usedLe hN;have hgm:g.many=N - 26:=by rw [hg]
 unfold zai
 by_cases h14:14<c.length
 · rw [if_pos h14]
   exact .inl ⟨(show ¬ (2:Int)=0 by decide),(show ¬ (2:Int)=8 by decide),(show (0:Int)≤2 by decide),(show (2:Int)≤100 by decide),rfl⟩
 rw [if_neg h14]
 by_cases hf:za1 c=0
 case neg =>
  rw [if_pos hf];have h2:=zkQ c;exact .inl ⟨hf,(show ¬ za1 c=8 by omega),(show 0≤za1 c by omega),(show za1 c≤100 by omega),rfl⟩
 have hff:¬ ¬ za1 c=0:=fun x=>x hf
 rw [if_neg hff]
 by_cases hr:12<(zah s.rows c).length∨d.now.length - 26<c.length+1
 · rw [if_pos hr]
   exact .inl ⟨(show ¬ (7:Int)=0 by decide),(show ¬ (7:Int)=8 by decide),(show (0:Int)≤7 by decide),(show (7:Int)≤100 by decide),rfl⟩
 rw [if_neg hr]
 right
 have h12:(zah s.rows c).length≤12:=by omega
 have fell:∀ {R:Dk × Int} {P:List (List UInt8)→Prop},Fell R.1 P→(∀ k,P k→∃ side used,zbZ N k side used s.rows∨zbZ N k side used (zah s.rows c))→Fell R.1 (fun k=>∃ side used,zbZ N k side used s.rows∨zbZ N k side used (zah s.rows c)):=fun h hP=>⟨h.down,fun keep=>hP _ (h.may keep)⟩
 by_cases hroom:g.many - g.used<c.length+1
 · rw [if_pos hroom]
   rcases zqu (g:=g) hk hc hF hN hN2 hgm with ⟨a1,a2,a3⟩ | ⟨a1,a2,a3⟩
   case inr =>
    rw [if_neg (by rw [a1];decide)];exact .inr ⟨a1,a2,fell (R:=zbe d s g) a3 (fun k ⟨sd,us,h⟩=>⟨sd,us,.inl h⟩)⟩
   rw [if_pos a1];have hlen2:=a3.len
   have hsg:zb9 d s g=⟨g.dB,26,N - 26,zaf (zbe d s g).1 (zaW d s g),0⟩:=by
    unfold zb9;rw [hlen,zbA (d:=d) (d':=(zbe d s g).1) (by rw [hlen2,hlen])]
   rw [hsg];unfold addC;rcases zmE (B:=g.dB) (c:=c) a3 a2 hN hN2 h14 (by omega) hf h12 with ⟨b1,b2,b3⟩ | ⟨b1,b2,b3⟩
   · left
     rw [if_pos b1];have e:zaf (addD ⟨g.dB,26,N - 26,zaf (zbe d s g).1 (zaW d s g),0⟩ (zbe d s g).1 c).1 (zaW d s g)=zaf (zbe d s g).1 (zaW d s g):=zbA (by rw [b3.len,hlen2]);have eg:addG ⟨g.dB,26,N - 26,zaf (zbe d s g).1 (zaW d s g),0⟩ (zbe d s g).1 c=⟨g.dB,26,N - 26,zaf (zbe d s g).1 (zaW d s g),0+c.length+1⟩:=by unfold addG;rw [if_pos b1]
     rw [eg];refine ⟨rfl,b2,rfl,b3,?_⟩;show Lg.mk _ _ _ _ _=Lg.mk _ _ _ (zaf (addD ⟨g.dB,26,N - 26,zaf (zbe d s g).1 (zaW d s g),0⟩ (zbe d s g).1 c).1 (zaW d s g)) _;rw [e]
   · right
     rw [if_neg (by rw [b1];decide)];exact ⟨b1,b2,b3⟩
 · rw [if_neg hroom]
   have hroom':¬ N - 26 - g.used<c.length+1:=by rw [← hgm];exact hroom
   unfold addC;have key:=zmE (B:=g.dB) (c:=c) hk hc hN hN2 h14 hroom' hf h12;rw [← hg] at key;rcases key with ⟨b1,b2,b3⟩ | ⟨b1,b2,b3⟩
   · left
     rw [if_pos b1]
     have e:zaf (addD g d c).1 s.side=g.first:=by
      rw [zbA (d:=d) (by rw [b3.len,hlen])];rw [hg]
     have eg:addG g d c={ g with used:=g.used+c.length+1 }:=by unfold addG;rw [if_pos b1]
     rw [eg];refine ⟨rfl,b2,rfl,b3,?_⟩;show Lg.mk _ _ _ _ _=Lg.mk _ _ _ (zaf (addD g d c).1 s.side) _;rw [e];have e1:g.start=26:=by rw [hg]
     rw [e1,hgm]
   · right
     rw [if_neg (by rw [b1];decide)];exact ⟨b1,b2,b3⟩
theorem zr7 (p:Dp)(d:Dk)(N side used:Nat)(rows:List Ch)(w:World)(h:zab w p d)(hk:Kept N d side used rows)(hN:42≤N) :
 Calls Tryz.prog 61 #[.pointer (some ⟨p.B,0,none⟩)] w fun e w'=>∃ b ra rc lb,e=.returned (.tuple #[.pointer (some ⟨b,0,none⟩),.nilIface])∧Below w.heap.size w w'∧zag w' w.heap.size b ⟨p.B,side,ra,rc,rows,lb⟩ ⟨p.B,26,N - 26,zaf d side,used⟩:=by
 refine (zg8 p d w h hk.free.up (by rw [hk.free.len];exact hN)).mono ?_;rintro e w' ⟨hb,hor⟩;rcases hor with ⟨ho,-⟩ | ⟨b,side',rows',used',ra,rc,lb,ho,h1,h2,h3,h4,rfl,hs⟩
 · rw [hk.opens] at ho
   cases ho
 · rw [hk.opens] at ho
   cases ho;rw [hk.free.len] at hs;exact ⟨b,ra,rc,lb,rfl,hb,hs⟩
abbrev zcD (T:TypeId):Prop:=T=78∨T=84∨T=86∨T=208∨T=163∨T=143
theorem zag.far {g:Lg}(h:zag w lo b s g)(hk:∀ (k:Nat) (C:Array Value) (T:TypeId) (fr:Nat × Nat),w.heap[k]?=some (.cells C T fr)→zcD T→w'.heap[k]?=w.heap[k]?):zag w' lo b s g:=by
 have ho:zan w' lo (.slice s.ra s.rows.length s.rc) s.rows:=zaj h.own (fun k e=>by
  obtain ⟨C,f,e⟩:=Lib.ownsRow_kind h.own k e;exact hk _ _ _ _ e (by simp [zcD]))
 refine ⟨⟨(hk _ _ _ _ h.at'.blk (by simp [zcD])).trans h.at'.blk,zan.slice ho⟩,ho,?_,h.low⟩;have hl:=h.log;unfold zba at hl ⊢;exact (hk _ _ _ _ hl (by simp [zcD])).trans hl
theorem zab.farT (h:zab w p d)(hk:∀ (k:Nat) (C:Array Value) (T:TypeId) (fr:Nat × Nat),w.heap[k]?=some (.cells C T fr)→zcD T→w'.heap[k]?=w.heap[k]?):zab w' p d :=
 h.far fun k hk'=>by
  obtain ⟨C,T,fr,e,hT⟩:=h.kind (k:=k) hk';refine hk _ _ _ _ e ?_;rcases hT with rfl | rfl | rfl <;> simp [zcD]
theorem zag.lower {g:Lg}(h:zag w lo b s g)(hl:lo'≤lo):zag w lo' b s g :=
 ⟨h.at',zan.base h.own hl,h.log,⟨Nat.le_trans hl h.low.1,Nat.le_trans hl h.low.2⟩⟩
def Let (w w':World):Prop:=∀ (k:Nat) (C:Array Value) (T:TypeId) (fr:Nat × Nat),w.heap[k]?=some (.cells C T fr)→(T≠78∧T≠84∧T≠86∧T≠208∧T≠163)→w'.heap[k]?=w.heap[k]?
end Go.Proofs.YtihnghnafpgdfadGreatDoor
namespace Go.Proofs.YtihnghnafpgdfadGreatDoor
open Go.RowKit Go.BigFrame
variable {B N a b i j lo lo' sd side used:Nat}{L k now:List (List UInt8)}{d d':Dk}{x:List UInt8}{s:St}{R c r:List Ch}{w w' wr:World}{p:Dp}{C:Array Value}{T:TypeId}{fr:Nat × Nat}{P:Nat→Dp}{D:Nat→Dk}{u:Value}
def k0:Ms:=⟨none,0,[],0,24⟩
end Go.Proofs.YtihnghnafpgdfadGreatDoor
namespace Go.Proofs.YtihnghnafpgdfadGreatDoor
open Go Go.RowKit Go.BigFrame
variable {B N a b i j lo lo' sd side used:Nat}{L k now:List (List UInt8)}{d d':Dk}{x:List UInt8}{s:St}{R c r:List Ch}{w w' wr:World}{p:Dp}{C:Array Value}{T:TypeId}{fr:Nat × Nat}{P:Nat→Dp}{D:Nat→Dk}{u:Value}
theorem zpi (hl:d.now.length=N)(hs:side≤1)(hN:42≤N)(hN2:N≤60):1≤zaf d side∧zaf d side≤4000000:=by
 unfold zaf;rw [hl];rcases (by omega:side=0∨side=1) with e | e <;> rw [e] <;> simp <;> omega
theorem zve {g:Lg}(hg:g=⟨B,26,N - 26,zaf d side,used⟩)(hl:d.now.length=N)(hs:side≤1)(hu:used≤N - 26)(hN:42≤N)(hN2:N≤60):LgOk g∧1≤g.first:=by
 obtain ⟨h1,h2⟩:=zpi (d:=d) hl hs hN hN2;rw [hg];exact ⟨⟨by simp only;omega,h2,hu⟩,h1⟩
theorem ztZ {g:Lg}(hd:zab wr p d)(ho:zag wr lo b s g)(ht:zat (fun k=>(dOwn p k∨k=b)∨k=s.lb) wr w'):Let wr w':=by
 intro k C T fr hk hT;refine ht.block _ (Array.getElem?_eq_some_iff.1 hk).1 (fun hx=>?_);rcases hx with (hx | hx) | hx
 · obtain ⟨C',T',fr',e,hT'⟩:=hd.kind hx
   rw [hk] at e;simp at e;rcases hT' with e' | e' | e'
   · exact hT.1 (by rw [e.2.1,e'])
   · exact hT.2.1 (by rw [e.2.1,e'])
   · exact hT.2.2.1 (by rw [e.2.1,e'])
 · rw [hx,ho.at'.blk] at hk
   simp at hk;exact hT.2.2.2.2 hk.2.1.symm
 · have hl:=ho.log
   unfold zba at hl;rw [hx,hl] at hk;simp at hk;exact hT.2.2.2.1 hk.2.1.symm
theorem zqt.usedLe {rows:List Ch}(h:zqt N L side used rows)(hN:42≤N):used≤N - 26:=by
 obtain ⟨r0,D,h1,h2,h3⟩:=h.said;have:=zlz rdC (now:=L) (from':=26) (many:=L.length - 26) (first:=zaf (dk L) side) (by rw [h.len];omega);have h2':zcv rdC L 26 (L.length - 26) (zaf (dk L) side)=(D,used):=h2;rw [h2',h.len] at this
 exact this
theorem ziB:∀ (l:List ByteArray) (D:Dk) (a:Nat),(zap D a l).1.now.length=D.now.length:=by
 intro l
 induction l with
 | nil=>intro D a;rfl
 | cons s r ih =>
   intro D a;unfold zap
   have hw:(zaN D a s).now.length=D.now.length:=by
    unfold zaN;have h:=(zbU D).1
    repeat' split
    all_goals simp [h]
   split
   · rw [ih,hw]
   · exact hw
theorem zrH (D:Dk)(a:Nat)(l:List ByteArray):(layD D a l).1.now.length=D.now.length:=by
 unfold layD
 split
 · have:(zaO (zap D a l).1).now=(zaK (zap D a l).1).now:=by unfold zaO;split <;> rfl
   simp only [this,(zbU _).1];exact ziB l D a
 · exact ziB l D a
theorem ziz (h:zb1 d=0):zdt (zaO d):=by
 unfold zaO;rw [if_pos h]
 have hn:¬ (d.down=true∨d.left=0):=by
  unfold zb1 at h;intro e;rw [if_pos e] at h;cases h
 have hd:(zaK d).down=false:=by
  unfold zaK;rw [if_neg hn];have:d.down=false:=by cases hx:d.down <;> simp_all
  split <;> exact this
 exact ⟨((zbU d).1).symm,rfl,hd⟩
theorem zp7 {l:List ByteArray}(h:(layD d a l).2=0):zdt (layD d a l).1:=by
 unfold layD at h ⊢
 by_cases e:(zap d a l).2=0
 · rw [if_pos e] at h ⊢
   exact ziz h
 · rw [if_neg e] at h
   exact absurd h e
theorem znl (g:Lg)(d:Dk)(c:List Ch):(addD g d c).1.now.length=d.now.length:=by
 unfold addD
 repeat' split
 all_goals first | rfl | simp only [zrH]
theorem zp8 {g:Lg}(h:(addD g d c).2=0):zdt (addD g d c).1∧¬ 14<c.length∧¬ g.many - g.used<c.length+1∧za1 c=0:=by
 unfold addD at h ⊢
 by_cases h14:14<c.length
 · rw [if_pos h14] at h;exact absurd h (show ¬ (2:Int)=0 by decide)
 rw [if_neg h14] at h ⊢
 by_cases hr:g.many - g.used<c.length+1
 · rw [if_pos hr] at h;exact absurd h (show ¬ (7:Int)=0 by decide)
 rw [if_neg hr] at h ⊢
 by_cases hf:za1 c=0
 case neg=>rw [if_pos hf] at h;exact absurd h hf
 rw [if_neg (by simpa using hf)] at h ⊢
 by_cases hl:(layD d (g.start+g.used) (List.replicate (min (c.length+2) (g.many - g.used)) ⟨#[]⟩)).2=0
 case neg=>rw [if_pos hl] at h;exact absurd h hl
 rw [if_neg (by simpa using hl)] at h ⊢;exact ⟨zp7 h,h14,hr,hf⟩
theorem zmg {g:Lg}(h:(addC d sd g r c).e=0):zdt (addC d sd g r c).d∧(addC d sd g r c).rows=zah r c∧(addC d sd g r c).side=sd∧(addC d sd g r c).g={ g with used:=g.used+c.length+1 }∧(addC d sd g r c).d.now.length=d.now.length∧¬ g.many - g.used<c.length+1:=by
 unfold addC at h ⊢
 by_cases h0:(addD g d c).2=0
 · rw [if_pos h0]
   obtain ⟨a1,a2,a3,a4⟩:=zp8 h0;refine ⟨a1,rfl,rfl,?_,znl _ _ _,a3⟩;show addG g d c=_;unfold addG;rw [if_pos h0]
 · rw [if_neg h0] at h
   exact absurd h h0
theorem ziN (d:Dk)(sd:Nat)(g:Lg)(r c:List Ch):(addC d sd g r c).d.now.length=d.now.length:=by
 unfold addC
 split <;> exact znl _ _ _
theorem zo4 (d:Dk)(s:St)(g:Lg)(c:List Ch):(zai d s g c).d.now.length=d.now.length:=by
 unfold zai
 split
 · rfl
 split
 · rfl
 split
 · rfl
 split
 · split
   · rw [ziN];exact ziS _ _ _ _
   · exact ziS _ _ _ _
 · exact ziN _ _ _ _ _
structure Did (N:Nat)(s:St)(g:Lg)(c:List Ch)(M:Cm):Prop where
 clean:zdt M.d
 len:M.d.now.length=N
 sd:M.side≤1
 rows:M.rows=zah s.rows c
 gf:M.g=⟨g.dB,26,N - 26,zaf M.d M.side,M.g.used⟩
 used:M.g.used≤N - 26
theorem zj2 {g:Lg} (hlen:d.now.length=N) (hg:g=⟨g.dB,26,N - 26,zaf d s.side,g.used⟩) (hu:g.used≤N - 26) (hs:s.side≤1) (h0:(zai d s g c).e=0):Did N s g c (zai d s g c):=by
 have hm:g.many=N - 26:=by rw [hg]
 have hst:g.start=26:=by rw [hg]
 have hfi:g.first=zaf d s.side:=by rw [hg]
 have hL:=zo4 d s g c;unfold zai at h0 hL ⊢
 by_cases h14:14<c.length
 · rw [if_pos h14] at h0;exact absurd h0 (show ¬ (2:Int)=0 by decide)
 rw [if_neg h14] at h0 hL ⊢
 by_cases hf:za1 c=0
 case neg=>rw [if_pos hf] at h0;exact absurd h0 hf
 rw [if_neg (fun x=>x hf)] at h0 hL ⊢
 by_cases hr:12<(zah s.rows c).length∨d.now.length - 26<c.length+1
 · rw [if_pos hr] at h0;exact absurd h0 (show ¬ (7:Int)=0 by decide)
 rw [if_neg hr] at h0 hL ⊢
 by_cases hroom:g.many - g.used<c.length+1
 · rw [if_pos hroom] at h0 hL ⊢
   by_cases hsv:(zbe d s g).2=0
   case neg=>rw [if_neg hsv] at h0;exact absurd h0 hsv
   rw [if_pos hsv] at h0 hL ⊢;obtain ⟨a1,a2,a3,a4,a5,a6⟩:=zmg h0;have hsd:zaW d s g≤1:=by unfold zaW;split <;> omega
   have hl1:(zbe d s g).1.now.length=N:=by rw [← hlen];exact ziS _ _ _ _
   refine ⟨a1,by rw [hL,hlen],by rw [a3];exact hsd,a2,?_,?_⟩
   · rw [a4,a3]
     unfold zb9;rw [hlen,zbA (d:=d) (d':=(addC (zbe d s g).1 (zaW d s g) ⟨g.dB,26,N - 26,zaf d (zaW d s g),0⟩ s.rows c).d) (by rw [ziN,hl1,hlen])]
   · rw [a4]
     have:¬ N - 26 - 0<c.length+1:=by
      have h:=a6;unfold zb9 at h;rw [hlen] at h;exact h
     show 0+c.length+1≤N - 26;omega
 · rw [if_neg hroom] at h0 hL ⊢
   obtain ⟨a1,a2,a3,a4,a5,a6⟩:=zmg h0;refine ⟨a1,by rw [hL,hlen],by rw [a3];exact hs,a2,?_,?_⟩
   · rw [a4,a3,zbA (d:=d) (d':=(addC d s.side g s.rows c).d) (by rw [ziN])]
     show Lg.mk _ _ _ _ _=Lg.mk _ _ _ _ _;rw [hst,hm,hfi]
   · rw [a4]
     show g.used+c.length+1≤N - 26;omega
theorem zot {g:Lg}(hf:Free d N 0)(hN:42≤N)(hN2:N≤60)(hg:g=⟨g.dB,26,N - 26,zaf d s.side,g.used⟩)(hu:g.used≤N - 26)(hs:s.side≤1)(hr:zaY s.rows)(hrf:∀ c ∈ s.rows,zae c=0)(h12:s.rows.length≤12)
 (h14:c.length≤14) (hok:za1 c=0) (ha:(zah s.rows c).length≤12):(zai d s g c).e=0∧Free (zai d s g c).d N 0:=by
 have hm:g.many=N - 26:=by rw [hg]
 have hst:g.start=26:=by rw [hg]
 have key:∀ (sd:Nat) (g:Lg) (D:Dk) (R:List Ch),Free D N 0→g.many=N - 26→g.start=26→g.used≤N - 26→¬ g.many - g.used<c.length+1→(addC D sd g R c).e=0∧Free (addC D sd g R c).d N 0:=by
  intro sd g D R hf hm hst hu hroom
  have h0:(addD g D c).2=0∧Free (addD g D c).1 N 0:=by
   unfold addD;rw [if_neg (by omega),if_neg hroom,if_neg (by simpa using hok)];obtain ⟨m,hmm⟩:∃ m,m=min (c.length+2) (g.many - g.used):=⟨_,rfl⟩
   rw [← hmm];obtain ⟨a1,a2,a3⟩:=zeH (a:=g.start+g.used) (l:=List.replicate m ⟨#[]⟩) hf (by simp;omega) (by intro s hs;rw [List.eq_of_mem_replicate hs];decide);rw [if_neg (by simpa using a1)];obtain ⟨b1,b2,b3⟩:=zeH (a:=g.start+g.used) (l:=zeg g.first g.used c c.length) a2 (by rw [zcg];omega) (zdc _ _ _ _ (zb5 hok));exact ⟨b1,b2⟩
  unfold addC;rw [if_pos h0.1];exact ⟨rfl,h0.2⟩
 unfold zai;rw [if_neg (by omega),if_neg (fun x=>x hok),if_neg (by rw [hf.len];omega)]
 by_cases hroom:g.many - g.used<c.length+1
 · rw [if_pos hroom]
   have hsd:zaW d s g≤1:=by unfold zaW;split <;> omega
   obtain ⟨a1,a2,-⟩:=znm (i:=zaW d s g) hf hN hsd hr hrf h12;have b1:(zbe d s g).2=0:=a1;rw [if_pos b1];exact key _ (zb9 d s g) _ _ a2 (by unfold zb9;rw [hf.len]) rfl (Nat.zero_le _) (by unfold zb9;rw [hf.len];show ¬ N - 26 - 0<_;omega)
 · rw [if_neg hroom]
   exact key _ g _ _ hf hm hst hu hroom
def zez (N:Nat)(d:Dk)(R:List Ch):Prop:=∃ side used,zbZ N d.now side used R∧zdt d∧Free d N 0
def zdj (d:Dk)(R:List Ch):Prop:=∃ side used,zc3 d=some (side,R,used)
theorem zez.tells (h:zez N d R):zdj d R:=by
 obtain ⟨sd,us,h1,-⟩:=h;exact ⟨sd,us,h1.g.opens⟩
theorem Kept.sound (h:Kept N d side used R)(hc:zdt d):zez N d R:=⟨side,used,h.l,hc,h.free⟩
theorem zez.free (h:zez N d R):Free d N 0:=by
 obtain ⟨sd,us,h1,h2,h3⟩:=h;exact h3
def Says (d:Dk)(R:List Ch)(s:St)(g:Lg):Prop:=∀ side used,zc3 d=some (side,R,used)→s.side=side∧g.used=used
theorem zez.commit {g:Lg}(h:zez N d R)(hN:42≤N)(hN2:N≤60)(hF:zgu d.now)(hR:s.rows=R)(hsay:Says d R s g)(hg:g=⟨g.dB,26,N - 26,zaf d s.side,g.used⟩)(h0:(zai d s g c).e=0)(hf:Free (zai d s g c).d N 0):zez N (zai d s g c).d (zah R c):=by
 obtain ⟨sd,us,h1,h2,h3⟩:=h;obtain ⟨e1,e2⟩:=hsay sd us h1.g.opens;subst e1 e2;subst hR;rcases znj (c:=c) h1 h2 hF hN hN2 hg with ⟨a1,-⟩ | ⟨a1,a2,a3,a4,-⟩ | ⟨a1,-⟩
 · exact absurd h0 a1
 · exact ⟨_,_,a4,a2,hf⟩
 · rw [a1] at h0
   exact absurd h0 (by decide)
def zqJ (C:Array Value)(T:TypeId):Prop:=(T≠78∧T≠84∧T≠86∧T≠208∧T≠163∧T≠72)∨∃ (o:Nat) (s:ByteArray),C[o]?=some (.string s)
def LetT (w w':World):Prop:=∀ (k:Nat) (C:Array Value) (T:TypeId) (fr:Nat × Nat),w.heap[k]?=some (.cells C T fr)→zqJ C T→w'.heap[k]?=some (.cells C T fr)
theorem LetT.refl (w:World):LetT w w:=fun _ _ _ _ e _=>e
theorem LetT.trans {a b c:World}(h:LetT a b)(k:LetT b c):LetT a c:=fun i C T fr e hT=>k i C T fr (h i C T fr e hT) hT
theorem LetT.of_below (hb:Below w.heap.size w w'):LetT w w':=fun k C T fr e _=>(hb.block k (Array.getElem?_eq_some_iff.1 e).1).trans e
theorem zjI:∀ {l:List (List UInt8)} {v:Value},v ∈ zbr l→∀ s,v≠.string s:=by
 intro l
 induction l with
 | nil=>intro v h;cases h
 | cons x l ih =>
   intro v h s;rcases List.mem_append.1 h with h | h
   · unfold zaI at h
     obtain ⟨b,_,rfl⟩:=List.mem_map.1 h;intro e;cases e
   · exact ih h s
theorem zab.noStr (h:zab w p d)(hw:d.wr=[]){k:Nat}(hk:dOwn p k)(e:w.heap[k]?=some (.cells C T fr)):¬ zqJ C T:=by
 intro hT;rcases hT with hT | ⟨o,s,ho⟩
 · obtain ⟨C',T',fr',e',hT'⟩:=h.kind hk
   rw [e] at e';simp at e';rcases hT' with x | x | x
   · exact hT.1 (by rw [e'.2.1,x])
   · exact hT.2.1 (by rw [e'.2.1,x])
   · exact hT.2.2.1 (by rw [e'.2.1,x])
 · have wv:=h.idle hw
   rcases hk with rfl | rfl | rfl | hk
   · have e2:=h.blk
     rw [e] at e2;simp at e2;rw [e2.1,wv] at ho;rcases o with _ | _ | _ | _ | _ | _ | o <;> simp at ho
   · have e2:=h.now
     rw [e] at e2;simp at e2;rw [e2.1] at ho;exact zjI (List.mem_of_getElem? (by simpa using ho)) s rfl
   · have e2:=h.kept
     rw [e] at e2;simp at e2;rw [e2.1] at ho;exact zjI (List.mem_of_getElem? (by simpa using ho)) s rfl
   · rw [wv] at hk
     cases hk
theorem LetT.of_touch (hd:zab w p d)(hw:d.wr=[])(ht:zat (dOwn p) w w'):LetT w w':=fun k C T fr e hT=>(ht.block k (Array.getElem?_eq_some_iff.1 e).1 (fun ho=>hd.noStr hw ho e hT)).trans e
theorem LetT.of_commit {g:Lg}(hd:zab w p d)(hw:d.wr=[])(ho:zag w lo b s g)(ht:zat (fun k=>(dOwn p k∨k=b)∨k=s.lb) w w'):LetT w w':=fun k C T fr e hT=>(ht.block k (Array.getElem?_eq_some_iff.1 e).1 (fun hs=>by
 rcases hs with (hs | hs) | hs
 · exact hd.noStr hw hs e hT
 · have e2:=ho.at'.blk
   rw [← hs,e] at e2;simp at e2;rcases hT with hT | ⟨o,x,hx⟩
   · exact hT.2.2.2.2.1 e2.2.1
   · rw [e2.1] at hx
     rcases o with _ | _ | _ | _ | o <;> simp at hx
 · have e2:=ho.log
   unfold zba at e2;rw [← hs,e] at e2;simp at e2;rcases hT with hT | ⟨o,x,hx⟩
   · exact hT.2.2.2.1 e2.2.1
   · rw [e2.1] at hx
     rcases o with _ | _ | _ | _ | _ | o <;> simp at hx)).trans e
def upd {α:Type}(f:Nat→α)(i:Nat)(x:α):Nat→α:=fun j=>if j=i then x else f j
theorem zay {α:Type}(f:Nat→α)(i:Nat)(x:α):upd f i x i=x:=if_pos rfl
theorem zal {α:Type}(f:Nat→α)(x:α)(h:¬ j=i):upd f i x j=f j:=if_neg h
structure zcH (lo:Nat)(w:World)(P:Nat→Dp)(D:Nat→Dk):Prop where
 disk:∀ i,i<3→zab w (P i) (D i)
 lo:∀ i,i<3→lo≤(P i).lo
 apart:∀ i j,i<3→j<3→i≠j→∀ k,dOwn (P i) k→¬ dOwn (P j) k
theorem zcH.below (h:zcH lo w P D)(hb:Below w.heap.size w w'):zcH lo w' P D :=
 ⟨fun i hi=>(h.disk i hi).below hb,h.lo,h.apart⟩
theorem zcH.step (h:zcH lo w P D) (hi:i<3) (hd:zab w' { P i with wv:=u } d') (hn:zbw (P i) w u)
 {S:Nat→Prop} (ht:zat S w w') (hS:∀ k,S k→dOwn (P i) k∨∀ j,j<3→¬ dOwn (P j) k):zcH lo w' (upd P i { P i with wv:=u }) (upd D i d'):=by
 have own:∀ k,dOwn { P i with wv:=u } k→dOwn (P i) k∨w.heap.size≤k:=by
  intro k hk;rcases hk with e | e | e | e
  · exact .inl (.inl e)
  · exact .inl (.inr (.inl e))
  · exact .inl (.inr (.inr (.inl e)))
  · rcases hn k e with e2 | e2
    · exact .inl (.inr (.inr (.inr e2)))
    · exact .inr e2
 refine ⟨fun j hj=>?_,fun j hj=>?_,fun a b ha hb hab k hk1 hk2=>?_⟩
 · by_cases e:j=i
   · subst e
     rw [zay,zay];exact hd
   · rw [zal _ _ e,zal _ _ e]
     refine (h.disk j hj).far (fun k hk=>ht.block k ((h.disk j hj).lts hk) (fun hs=>?_));rcases hS k hs with h1 | h1
     · exact h.apart i j hi hj (fun e2=>e e2.symm) k h1 hk
     · exact h1 j hj hk
 · by_cases e:j=i
   · subst e
     rw [zay];exact h.lo j hi
   · rw [zal _ _ e]
     exact h.lo j hj
 · by_cases e1:a=i
   · subst e1
     rw [zay] at hk1;rw [zal _ _ (fun e=>hab e.symm)] at hk2;rcases own k hk1 with h1 | h1
     · exact h.apart a b ha hb hab k h1 hk2
     · have:=(h.disk b hb).lts hk2
       omega
   · rw [zal _ _ e1] at hk1
     by_cases e2:b=i
     · subst e2
       rw [zay] at hk2;rcases own k hk2 with h1 | h1
       · exact h.apart b a hb ha (fun e=>hab e.symm) k h1 hk1
       · have:=(h.disk a ha).lts hk1
         omega
     · rw [zal _ _ e2] at hk2
       exact h.apart a b ha hb hab k hk1 hk2
theorem zcH.none (h:zcH lo w P D){k:Nat}(hk:w.heap[k]?=some (.cells C T fr))(hT:T≠78∧T≠84∧T≠86):∀ j,j<3→¬ dOwn (P j) k:=fun j hj ho=>by
 obtain ⟨C',T',fr',e,hT'⟩:=(h.disk j hj).kind ho;rw [hk] at e;simp at e;rcases hT' with e' | e' | e'
 · exact hT.1 (by rw [e.2.1,e'])
 · exact hT.2.1 (by rw [e.2.1,e'])
 · exact hT.2.2 (by rw [e.2.1,e'])
theorem ziE (hf:Free d N 0)(hN:42≤N)(hN2:N≤60):(zcw d).2=0∧Kept N (zcw d).1 1 0 []:=by
 have hl:d.now.length=N:=hf.len;have e:zcw d=seqD d zhZ:=by unfold zcw;rw [if_neg (by omega)]
 rw [e];have hz:(⟨#[]⟩:ByteArray).size≤40:=by decide
 have hh:(baL (zbP 1 ⟨#[]⟩)).size≤40:=by rw [za3,zcL];omega
 obtain ⟨a1,a2,a3⟩:=zgj (a:=0) hf (by omega) hz;obtain ⟨b1,b2,b3⟩:=zgj (a:=1) a2 (by omega) hz;obtain ⟨c1,c2,c3⟩:=zgj (a:=26) b2 (by omega) hz;obtain ⟨d1,d2,d3⟩:=zgj (a:=1) c2 (by omega) hh
 have eq:seqD d zhZ=((layD (layD (layD (layD d 0 [⟨#[]⟩]).1 1 [⟨#[]⟩]).1 26 [⟨#[]⟩]).1 1 [baL (zbP 1 ⟨#[]⟩)]).1,0):=by
  unfold zhZ;simp only [seqD];rw [if_pos a1,if_pos b1,if_pos c1,if_pos d1]
 rw [eq];have pb:padD ⟨#[]⟩=Go.Proofs.YtihnghnafpgdfadGreatDoor.blank:=by decide
 rw [pb] at a3 b3 c3;refine ⟨rfl,d2,by omega,⟨[],[],?_,?_,rfl⟩,?_⟩
 · refine zjl (by omega) zaY.nil (by intro c hc;cases hc) (by simp) ?_ (by intro j hj;simp at hj)
   rw [d3,if_pos rfl,zeW]
   try rfl
 · refine zhR (by rw [d2.len];omega) (s:=Go.Proofs.YtihnghnafpgdfadGreatDoor.blank) ?_ (zjo ?_)
   · rw [d3,if_neg (by omega),c3,if_pos rfl]
   · unfold zaf;omega
 · rw [d3,if_neg (by omega),c3,if_neg (by omega),b3,if_neg (by omega),a3,if_pos rfl]
end Go.Proofs.YtihnghnafpgdfadGreatDoor
