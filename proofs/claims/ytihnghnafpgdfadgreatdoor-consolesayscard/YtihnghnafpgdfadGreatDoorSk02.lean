/- What the proofs stand on, part 2: ShelfCat. -/
import Derived.Lib.AppendZerosOnto
import Derived.Deep.LoopGhost
import Derived.Laws.AppendOwnNone
import Derived.Deep.RegionWith
import Derived.Test.YtihnghnafpgdfadGreatDoorSk01
set_option linter.unusedVariables false
set_option linter.unusedSimpArgs false
set_option maxRecDepth 100000
set_option maxHeartbeats 2000000
namespace Go.Proofs.YtihnghnafpgdfadGreatDoor
open Go.RowKit
variable {W w w' w1:World}{B B' b cap j k off p:Nat}{l m:List Fi}{a:Option Addr}{x:Addr}{f:Fi}
theorem zpo (i:Nat)(a:Option Addr)(cap:Nat)(l:List Fi)(name:ByteArray)(bl bn:Nat)(w:World)(hlen:l.length≤maxLen)(h1:w.cell? ⟨bl,0,none⟩=some (.slice a l.length cap))(h2:w.cell? ⟨bn,0,none⟩=some (.string name))(hi:i<l.length)(hc:zaF w a l) :
 Calls Tryz.prog 196 #[.int .i64 i,.pointer (some ⟨bl,0,none⟩),.pointer (some ⟨bn,0,none⟩)] w fun e w'=>e=.returned (.bool (!ltB l[i].n name))∧∃ n,w'=w.drewN n:=by
 unfold maxLen at hlen;obtain ⟨b,off,rfl,c0,c1,c2⟩:=hc i hi;clear hc
 go_enter Tryz.func196,Tryz.ntmps196
 go_wp2
 go_quiet (fail)
 go_wp2;go_ret;exact ⟨rfl,_,rfl⟩
theorem zli (a:Option Addr) (cap:Nat) (l:List Fi) (name:ByteArray) (bl bn:Nat) (w:World) (hlen:l.length≤1000) (h1:w.cell? ⟨bl,0,none⟩=some (.slice a l.length cap)) (h2:w.cell? ⟨bn,0,none⟩=some (.string name)) (hc:zaF w a l) (hm:Mono l name) :
 Calls Tryz.prog 195 #[.int .i64 l.length,.func (.func 196) #[] #[.pointer (some ⟨bl,0,none⟩),.pointer (some ⟨bn,0,none⟩)]] w fun e w'=>e=.returned (.int .i64 (posF l name))∧∃ n,w'=w.drewN n:=by
 have HC:Hid (zaF w a l):=hc;have HM:Hid (Mono l name):=hm;have H1:Hid (w.cell? ⟨bl,0,none⟩=some (.slice a l.length cap)):=h1;have H2:Hid (w.cell? ⟨bn,0,none⟩=some (.string name)):=h2;clear hc hm h1 h2
 go_enter Tryz.func195,Tryz.ntmps195
 go_wp2_with fail
 go_loopw [5,6] (fun u v wr=>∃ i j q:Nat,i≤j∧j≤l.length∧u=.int .i64 i∧v=.int .i64 j∧wr=w.drewN q∧(∀ k (h:k<l.length),k<i→ltB l[k].n name=true)∧(∀ k (h:k<l.length),j≤k→ltB l[k].n name=false)) (fun u v _=>(intOf v).toNat - (intOf u).toNat)
 case atStart=>exact ⟨0,l.length,0,Nat.zero_le _,Nat.le_refl _,rfl,rfl,rfl,fun k h h'=>absurd h' (Nat.not_lt_zero _),fun k h h'=>absurd h (by omega)⟩
 case round =>
  obtain ⟨i,j,q,hij,hj,rfl,rfl,rfl,hlo,hhi⟩:=hrel;have HLO:Hid (∀ k (h:k<l.length),k<i→ltB l[k].n name=true):=hlo;have HHI:Hid (∀ k (h:k<l.length),j≤k→ltB l[k].n name=false):=hhi;clear hlo hhi
  by_cases hlt:i<j
  · have hh:((i:Int)+(j:Int)) / 2=(((i+j) / 2:Nat):Int):=by omega
    have hm1:i≤(i+j) / 2:=by omega
    have hm2:(i+j) / 2<j:=by omega
    generalize (i+j) / 2=m at hh hm1 hm2;have HH:Hid (((i:Int)+(j:Int)) / 2=(m:Int)):=hh;clear hh;have hml:m<l.length:=by omega
    cases hb:ltB l[m].n name
    · go_wp2_with fail
      rw [HH.out];refine (zpo m a cap l name bl bn _ (by unfold maxLen;omega) (by simpa using H1.out) (by simpa using H2.out) hml (by exact HC.out.drewN q)).mono ?_;rintro e w' ⟨rfl,q',rfl⟩;rw [hb];go_wp2;refine ⟨⟨i,m,_,by omega,by omega,rfl,rfl,rfl,HLO.out,fun k hk hmk=>HM.out m k hml hk hmk hb⟩,by simp [intOf];omega⟩
    · go_wp2_with fail
      rw [HH.out];refine (zpo m a cap l name bl bn _ (by unfold maxLen;omega) (by simpa using H1.out) (by simpa using H2.out) hml (by exact HC.out.drewN q)).mono ?_;rintro e w' ⟨rfl,q',rfl⟩;rw [hb];go_wp2;refine ⟨⟨m+1,j,_,by omega,by omega,by go_num,rfl,rfl,fun k hk hmk=>?_,HHI.out⟩,by simp [intOf];omega⟩;cases hbk:ltB l[k].n name
      · rw [HM.out k m hk hml (by omega) hbk] at hb
        exact absurd hb (by simp)
      · rfl
  · go_wp2
    go_ret;have e:i=j:=by omega
    subst e;exact ⟨zca (by rw [ztV hj HLO.out HHI.out]),_,rfl⟩
theorem zdX (a:Option Addr)(cap:Nat)(l:List Fi)(name:ByteArray)(w:World)(hlen:l.length≤1000)(hc:zaF w a l)(hm:Mono l name) :
 Calls Tryz.prog 154 #[.slice a l.length cap,.string name] w fun e w'=>e=.returned (.tuple #[.int .i64 (posF l name),.bool (hasF l name)])∧Below w.heap.size w w':=by
 have HC:Hid (zaF w a l):=hc;have HM:Hid (Mono l name):=hm;clear hc hm;have hp:=zgR l name
 by_cases hlt:posF l name<l.length
 · have hhas:hasF l name=(l[posF l name].n.toList == name.toList):=by unfold hasF;rw [List.getElem?_eq_getElem hlt]
   have Hhas:Hid (hasF l name=(l[posF l name].n.toList == name.toList)):=hhas;clear hhas;generalize hpos:posF l name=r at *;have HPOS:Hid (posF l name=r):=hpos;clear hpos;obtain ⟨b,off,rfl,c0,c1,c2⟩:=HC.out r hlt;have hbl:b<w.heap.size:=World.block_lt_of_cell? _ _ c0;have hd:decide ((r:Int)<(l.length:Int))=true:=by simp;omega
   have hd':decide (r<l.length)=true:=by simp;omega
   go_enter Tryz.func154,Tryz.ntmps154
   go_wp2_with fail
   refine (zli (some ⟨b,off,none⟩) cap l name _ _ _ hlen (by simp [go_sem]) (by simp [go_sem]) (by exact ((HC.out.alloc _).alloc _)) HM.out).mono ?_;rintro e w' ⟨rfl,q,rfl⟩;rw [HPOS.out];go_wp2
   go_quiet (fail)
   go_wp2;go_ret2;refine ⟨by rw [Hhas.out];rfl,?_⟩
   repeat (first | exact Below.refl _ _ | refine below_drewN ?_ _ | refine Below.drew ?_ | refine Below.alloc ?_ (by simp;try omega) _)
 · have hhas:hasF l name=false:=by unfold hasF;rw [List.getElem?_eq_none (by omega)]
   have Hhas:Hid (hasF l name=false):=hhas;clear hhas;generalize hpos:posF l name=r at *;have HPOS:Hid (posF l name=r):=hpos;clear hpos;have hd:decide ((r:Int)<(l.length:Int))=false:=by simp;omega
   have hd':decide (r<l.length)=false:=by simp;omega
   go_enter Tryz.func154,Tryz.ntmps154
   go_wp2_with fail
   refine (zli a cap l name _ _ _ hlen (by simp [go_sem]) (by simp [go_sem]) (by exact ((HC.out.alloc _).alloc _)) HM.out).mono ?_;rintro e w' ⟨rfl,q,rfl⟩;rw [HPOS.out];go_wp2
   go_quiet (fail)
   go_wp2;go_ret2;refine ⟨by rw [Hhas.out];rfl,?_⟩
   repeat (first | exact Below.refl _ _ | refine below_drewN ?_ _ | refine Below.drew ?_ | refine Below.alloc ?_ (by simp;try omega) _)
def getV:Option Fi→Value
 | some f=>.tuple #[.agg #[.string f.n,.string f.t,.int .i64 f.k],.bool true]
 | none=>.tuple #[.agg #[.string ⟨#[]⟩,.string ⟨#[]⟩,.int .i64 0],.bool false]
theorem zbQ (a:Option Addr) (cap:Nat) (l:List Fi) (name:ByteArray) (w:World) (hlen:l.length≤maxLen) (hc:zaF w a l) :
 Calls Tryz.prog 41 #[.slice a l.length cap,.string name] w fun e w'=>e=.returned (getV (getF l name))∧Below w.heap.size w w':=by
 unfold maxLen at hlen;have HC:Hid (zaF w a l):=hc;clear hc
 go_enter Tryz.func41,Tryz.ntmps41
 go_wp2_with fail
 go_loop [6] (fun i=>∃ k:Nat,k≤l.length∧i=.int .i64 k∧∀ i (hi:i<l.length),i<k→(l[i].n.toList == name.toList)=false) (fun i=>l.length - (intOf i).toNat)
 case atStart=>exact ⟨0,Nat.zero_le _,rfl,fun i hi h=>absurd h (Nat.not_lt_zero _)⟩
 case round =>
  obtain ⟨k,hk,rfl,hall⟩:=hrel;have Hall:Hid (∀ i (hi:i<l.length),i<k→(l[i].n.toList == name.toList)=false):=hall;clear hall
  by_cases hlt:k<l.length
  · obtain ⟨b,off,rfl,c0,c1,c2⟩:=HC.out k hlt
    have hbl:b<w.heap.size:=World.block_lt_of_cell? _ _ c0;cases he:l[k].n.toList == name.toList
    · go_wp2
      refine ⟨⟨k+1,by omega,by go_num,fun i hi h=>?_⟩,by simp [intOf];omega⟩;rcases Nat.lt_or_ge i k with h1 | h1
      · exact Hall.out i hi h1
      · have e:i=k:=by omega
        subst e;exact he
    · have hg:getF l name=some l[k]:=zmI hlt Hall.out he
      have Hg:Hid (getF l name=some l[k]):=hg;clear hg;go_wp2;refine bodyPost_ret (v:=.tuple #[.agg #[.string l[k].n,.string l[k].t,.int .i64 l[k].k],.bool true]) (by simp [results,Tryz.results41,go_sem]) rfl ⟨by rw [Hg.out];rfl,?_⟩;exact (Below.refl _ _).alloc (Nat.le_refl _) _
  · have hg:getF l name=none:=zmj (fun i hi=>Hall.out i hi (by omega))
    have Hg:Hid (getF l name=none):=hg;clear hg;go_wp2;refine bodyPost_ret (v:=.tuple #[.agg #[.string ⟨#[]⟩,.string ⟨#[]⟩,.int .i64 0],.bool false]) (by simp [results,Tryz.results41,go_sem]) rfl ⟨by rw [Hg.out];rfl,?_⟩;exact (Below.refl _ _).alloc (Nat.le_refl _) _
theorem Tryz.infoFile:(Tryz.prog.info? 98).map (fun i=>(i.zero,i.size,i.bytes))=some (some (.agg #[.string ⟨#[]⟩,.string ⟨#[]⟩,.int .i64 0]),3,40):=by kernel_rfl
def flat:List Fi→List Value
 | []=>[]
 | f :: r=>.string f.n :: .string f.t :: .int .i64 f.k :: flat r
theorem zdU:∀ l:List Fi,(flat l).length=l.length * 3
 | []=>rfl
 | f :: r=>by simp only [flat,List.length_cons,zdU r];omega
theorem zgN:∀ l m:List Fi,flat (l ++ m)=flat l ++ flat m
 | [],m=>rfl
 | f :: r,m=>by simp only [List.cons_append,flat,zgN r m]
theorem ziO:∀ l:List Fi,∀ u ∈ flat l,u.oneCell'=true
 | [],u,h=>by simp [flat] at h
 | f :: r,u,h=>by
   simp only [flat,List.mem_cons] at h;rcases h with rfl | rfl | rfl | h
   · rfl
   · rfl
   · rfl
   · exact ziO r u h
theorem zlQ:∀ (l:List Fi) (i:Nat) (h:i<l.length),(flat l)[i * 3]?=some (.string l[i].n)∧(flat l)[i * 3+1]?=some (.string l[i].t)∧(flat l)[i * 3+2]?=some (.int .i64 l[i].k)
 | f :: r,0,h=>by simp [flat]
 | f :: r,i+1,h=>by
   have ih:=zlQ r i (by simpa using h);simp only [flat,List.getElem_cons_succ];rw [show (i+1) * 3=i * 3+1+1+1 by omega]
   simpa [Nat.add_assoc] using ih
theorem zaF.flat (h:zaF w (some ⟨b,off,none⟩) l):∀ j u,(flat l)[j]?=some u→w.cell? ((⟨b,off,none⟩:Addr).add j)=some u:=by
 intro j u hu
 have hj:j<(Go.Proofs.YtihnghnafpgdfadGreatDoor.flat l).length:=by
  rcases Nat.lt_or_ge j (Go.Proofs.YtihnghnafpgdfadGreatDoor.flat l).length with h1 | h1
  · exact h1
  · rw [List.getElem?_eq_none h1] at hu;exact absurd hu (by simp)
 rw [zdU] at hj;obtain ⟨b',off',e,c0,c1,c2⟩:=h (j / 3) (by omega);cases e;obtain ⟨f0,f1,f2⟩:=zlQ l (j / 3) (by omega);have hadd:(⟨b,off,none⟩:Addr).add j=⟨b,off+j,none⟩:=by unfold Addr.add;split <;> simp_all
 rw [hadd];have h3:j=j / 3 * 3∨j=j / 3 * 3+1∨j=j / 3 * 3+2:=by omega
 rcases h3 with h3 | h3 | h3
 · rw [h3,f0] at hu
   rw [h3,← hu];exact c0
 · rw [h3,f1] at hu
   rw [h3,← hu,← Nat.add_assoc];exact c1
 · rw [h3,f2] at hu
   rw [h3,← hu,← Nat.add_assoc];exact c2
abbrev Owns (w:World)(base:Nat)(v:Value)(l:List Fi):Prop:=w.ownsRow base 98 3 v l.length (flat l)
theorem Owns.files {base:Nat}{v:Value}(h:Owns w base v l):∃ a cap,v=.slice a l.length cap∧zaF w a l∧(a=none→cap=0)∧cap≤maxLen∧l.length≤cap∧(∀ x,a=some x→base≤x.block∧x.off=0∧x.spot=none):=by
 rcases h.2 with ⟨rfl,h0⟩ | ⟨g,cap,cur,rfl,hb,hg,hn,hm,hs,ht⟩
 · have e:l=[]:=List.eq_nil_of_length_eq_zero h0
   subst e;exact ⟨none,0,rfl,zaF.nil _ _,fun _=>rfl,Nat.zero_le _,Nat.le_refl _,fun x hx=>by cases hx⟩
 · refine ⟨some ⟨g,0,none⟩,cap,rfl,?_,(fun h=>by cases h),hm,hn,(fun x hx=>by cases hx;exact ⟨hb,rfl,rfl⟩)⟩
   intro i hi;obtain ⟨f0,f1,f2⟩:=zlQ l i hi;refine ⟨g,0,rfl,?_,?_,?_⟩
   · rw [h.cellAt (0+i * 3) (by omega),Nat.zero_add];exact f0
   · rw [h.cellAt (0+i * 3+1) (by omega),Nat.zero_add];exact f1
   · rw [h.cellAt (0+i * 3+2) (by omega),Nat.zero_add];exact f2
theorem zkY (z:Array Value)(n:Nat):(Builtin.zeroCells z n).size=n * z.size:=by simp [Builtin.zeroCells]
theorem ztE (n:Nat)(w:World)(hn:n≤1000) :
 Calls Tryz.prog 197 #[.slice none 0 0,.int .i64 n] w fun e w'=>∃ v,e=.returned v∧Owns w' w.heap.size v []∧Below w.heap.size w w':=by
 by_cases h0:n=0
 · subst h0
   go_enter Tryz.func197,Tryz.ntmps197
   go_wp2;go_ret;exact ⟨_,rfl,World.ownsRow_nil _ _ _ _,Below.refl _ _⟩
 · obtain ⟨i0,hi,hz0,hz1,hz2⟩:=info_parts Tryz.infoFile
   have hpos:(0:Int)<(n:Int):=by omega
   have hby:Tryz.t98.bytes=40:=by kernel_rfl
   have hns:Builtin.nextslicecap n 0=n:=nextslicecap_zero (by omega);have hge:=grownCap_ge w n 0 98;have hle:=grownCap_le_maxLen w n 0 98 (by unfold maxLen;omega);have HGE:Hid (n≤grownCap w n 0 98):=hge;have HLE:Hid (grownCap w n 0 98≤maxLen):=hle;clear hge hle
   go_enter Tryz.func197,Tryz.ntmps197
   go_wp2;go_ret;refine ⟨_,rfl,?_,(Below.refl _ _).drew.alloc (Nat.le_refl _) _⟩;refine World.ownsRow_made w.drew _ _ (Nat.le_refl _) HLE.out ?_;have h1:=HGE.out;simp only [grownCap] at h1;simp [zkY];omega
structure Part where
 a:Option Addr
 cap:Nat
 l:List Fi
def Part.v (p:Part):Value:=.slice p.a p.l.length p.cap
def zcX (P:List Part):List Fi:=P.flatMap (fun p=>p.l)
def zfF (w:World)(B:Nat)(P:List Part):Prop :=
 ∀ i (h:i<P.length),w.cell? ⟨B,i,none⟩=some (.slice P[i].a P[i].l.length P[i].cap)∧zaF w P[i].a P[i].l∧(P[i].a=none→P[i].cap=0)∧(∀ x,P[i].a=some x→P[i].l=[]∨x.spot=none)
theorem zfF.below {P:List Part}(h:zfF w B P)(hb:Below w.heap.size w w'):zfF w' B P:=by
 intro i hi;obtain ⟨h1,h2,h3,h4⟩:=h i hi;exact ⟨by rw [hb.cell (World.block_lt_of_cell? _ _ h1)];exact h1,h2.below hb,h3,h4⟩
def lens:List Part→Nat
 | []=>0
 | p :: r=>p.l.length+lens r
theorem zjv:∀ (P:List Part) (k:Nat) (h:k<P.length),lens (P.take (k+1))=lens (P.take k)+P[k].l.length
 | p :: r,0,h=>by simp [lens]
 | p :: r,k+1,h=>by
   have:=zjv r k (by simpa using h);simp only [List.take_succ_cons,lens,List.getElem_cons_succ,this];omega
theorem zjO:∀ (P:List Part) (k:Nat),lens (P.take k)≤lens P
 | [],k=>by simp [lens]
 | p :: r,0=>by simp [lens]
 | p :: r,k+1=>by
   have:=zjO r k;simp only [List.take_succ_cons,lens];omega
theorem zho:∀ P:List Part,(zcX P).length=lens P
 | []=>rfl
 | p :: r=>by
   have:=zho r;simp only [zcX,List.flatMap_cons,List.length_append,lens] at *;omega
theorem zoQ (P:List Part)(k:Nat)(h:k<P.length):zcX (P.take (k+1))=zcX (P.take k) ++ P[k].l:=by
 unfold zcX;rw [zb8 P k h,List.flatMap_append];simp only [List.flatMap_cons,List.flatMap_nil,List.append_nil]
theorem zc7 (B m:Nat) (P:List Part) (w:World) (hm:P.length=m) (hfew:P.length≤10) (hlen:lens P≤1000) (hp:zfF w B P) :
 Calls Tryz.prog 156 #[.slice (some ⟨B,0,none⟩) m m] w fun e w'=>∃ v,e=.returned v∧Owns w' w.heap.size v (zcX P)∧Below w.heap.size w w':=by
 obtain ⟨i0,hi,hz0,hz1,hz2⟩:=info_parts Tryz.infoFile;have HP:Hid (zfF w B P):=hp;clear hp;subst hm
 go_enter Tryz.func156,Tryz.ntmps156
 go_wp2_with fail
 go_loop [3,11] (fun s i=>∃ k:Nat,k≤P.length∧i=.int .i64 k∧s=.int .i64 (lens (P.take k))) (fun _ i=>P.length - (intOf i).toNat)
 case atStart=>exact ⟨0,Nat.zero_le _,rfl,rfl⟩
 case round =>
  obtain ⟨k,hk,rfl,rfl⟩:=hrel;have hl1:=zjO P k
  by_cases hlt:k<P.length
  · obtain ⟨c0,_,_,_⟩:=HP.out k hlt
    have hl2:=zjO P (k+1);have hsn:=zjv P k hlt;have HSN:Hid (lens (P.take (k+1))=lens (P.take k)+P[k].l.length):=hsn;have hl3:lens (P.take k)+P[k].l.length≤1000:=by omega
    clear hsn hl2;go_wp2;exact ⟨⟨k+1,by omega,by go_num,by rw [HSN.out];go_num⟩,by simp [intOf];omega⟩
  · go_wp2_with fail
    refine (ztE (lens (P.take k)) w (by omega)).mono ?_;rintro e w1 ⟨v,rfl,hown,hb⟩;have X:Aside (Owns w1 w.heap.size v []∧Below w.heap.size w w1):=⟨hown,hb⟩;clear hown hb
    go_wp2_with fail
    go_loopw [6,27] (fun v i wr=>∃ j:Nat,j≤P.length∧i=.int .i64 j∧Owns wr w.heap.size v (zcX (P.take j))∧Below w.heap.size w wr) (fun _ i _=>P.length - (intOf i).toNat)
    case atStart=>exact ⟨0,Nat.zero_le _,rfl,X.out.1,X.out.2⟩
    case round =>
     obtain ⟨j,hj,rfl,hown,hb⟩:=hrel;have HB:Hid (Below w.heap.size w wr):=hb;have hsz:=hb.size;clear hb;have hjl:(zcX (P.take j)).length≤1000:=by rw [zho];have:=zjO P j;omega
     by_cases hltj:j<P.length
     · obtain ⟨c0,hcl,hnone,hspot⟩:=HP.out.below HB.out j hltj
       have hjs:=zoQ P j hltj;have HJS:Hid (zcX (P.take (j+1))=zcX (P.take j) ++ P[j].l):=hjs;have hl2:P[j].l.length≤1000:=by have h1:=zjv P j hltj;have h2:=zjO P (j+1);omega
       clear hjs;generalize P[j].a=pa at *;generalize P[j].cap=pc at *;generalize P[j].l=pl at *;cases pa with
       | none =>
         have e:pl=[]:=by
          cases pl with
          | nil=>rfl
          | cons f r=>obtain ⟨_,_,e,_⟩:=hcl 0 (by simp);cases e
         subst e;have e:=hnone rfl;subst e;clear hcl hnone hspot;have HOWN:Hid (Owns wr w.heap.size u6 (zcX (P.take j))):=hown;clear hown
         go_wp2_with (at_builtin;refine wpList_append_own_none rfl _ _ 30 rfl w.heap.size 98 i0 3 Tryz.underlying30 hi _ _ _ rfl HOWN.out rfl ?_)
         refine ⟨⟨j+1,by omega,by go_num,?_,HB.out⟩,by simp [intOf];omega⟩;rw [HJS.out,List.append_nil];exact HOWN.out
       | some x =>
         have hcells:∀ q u,(flat pl)[q]?=some u→wr.cell? (x.add q)=some u:=by
          rcases hspot x rfl with rfl | hsp
          · intro q u hu;simp [flat] at hu
          · obtain ⟨xb,xo,xs⟩:=x
            simp at hsp;subst hsp;exact hcl.flat
         have HCL:Hid (∀ q u,(flat pl)[q]?=some u→wr.cell? (x.add q)=some u):=hcells;clear hcells hcl hnone hspot;have HOWN:Hid (Owns wr w.heap.size u6 (zcX (P.take j))):=hown;clear hown
         go_wp2_with (at_builtin;refine (wpList_append_own _ rfl _ _ 30 rfl w.heap.size 98 i0 _ 3 40 Tryz.underlying30 hi hz0 hz1 hz2 rfl (by decide) _ _ _ rfl HOWN.out x pl.length pc (flat pl) rfl (zdU _) HCL.out (ziO _) (by unfold maxLen;omega) (by omega) (by omega) ?_);intro v' w3 hown' hgrow3 hnil3)
         refine ⟨⟨j+1,by omega,by go_num,?_,?_⟩,by simp [intOf];omega⟩
         · rw [HJS.out]
           show World.ownsRow _ _ _ _ _ _ _;rw [zgN,List.length_append];exact hown'
         · exact HB.out.grown hgrow3 hsz (fun q hq=>(HOWN.out.lt q hq).1)
     · go_wp2
       go_ret;rw [zft P j (by omega)] at hown;exact ⟨_,rfl,hown,HB.out⟩
theorem zaF.take (h:zaF w a l)(p:Nat):zaF w a (l.take p):=by
 intro i hi;simp only [List.length_take] at hi;obtain ⟨b,off,e,c0,c1,c2⟩:=h i (by omega);exact ⟨b,off,e,by simpa using c0,by simpa using c1,by simpa using c2⟩
theorem zaF.drop (h:zaF w (some x) l)(p:Nat):zaF w (some (x.add (p * 3))) (l.drop p):=by
 intro i hi;simp only [List.length_drop] at hi;obtain ⟨b,off,e,c0,c1,c2⟩:=h (p+i) (by omega);cases e;refine ⟨b,off+p * 3,?_,?_,?_,?_⟩
 · unfold Addr.add;split <;> simp_all
 · rw [show off+p * 3+i * 3=off+(p+i) * 3 by omega];simpa using c0
 · rw [show off+p * 3+i * 3+1=off+(p+i) * 3+1 by omega];simpa using c1
 · rw [show off+p * 3+i * 3+2=off+(p+i) * 3+2 by omega];simpa using c2
theorem zaF.one (w:World)(f:Fi)(t:TypeId):zaF (w.alloc (.cells #[.string f.n,.string f.t,.int .i64 f.k] t)) (some ⟨w.heap.size,0,none⟩) [f]:=by
 intro i hi;have e:i=0:=by simp at hi;exact hi
 subst e;exact ⟨w.heap.size,0,rfl,by simp [go_sem],by simp [go_sem],by simp [go_sem]⟩
structure znF (w:World)(p:Part):Prop where
 cells:zaF w p.a p.l
 nil:p.a=none→p.cap=0
 spot:∀ x,p.a=some x→p.l=[]∨x.spot=none
theorem zaF.spot (h:zaF w a l):∀ x,a=some x→l=[]∨x.spot=none:=by
 intro x hx;cases l with
 | nil=>exact .inl rfl
 | cons f r =>
   obtain ⟨b,off,e,_⟩:=h 0 (by simp);rw [hx] at e;cases e;exact .inr rfl
theorem ztN {p q r:Part}(c0:W.cell? ⟨B,0,none⟩=some p.v)(c1:W.cell? ⟨B,1,none⟩=some q.v)(c2:W.cell? ⟨B,2,none⟩=some r.v)(hp:znF W p)(hq:znF W q)(hr:znF W r):zfF W B [p,q,r]:=by
 intro i hi;have h:i=0∨i=1∨i=2:=by simp at hi;omega
 rcases h with rfl | rfl | rfl
 · exact ⟨c0,hp.cells,hp.nil,hp.spot⟩
 · exact ⟨c1,hq.cells,hq.nil,hq.spot⟩
 · exact ⟨c2,hr.cells,hr.nil,hr.spot⟩
theorem zuY {p q:Part}(c0:W.cell? ⟨B,0,none⟩=some p.v)(c1:W.cell? ⟨B,1,none⟩=some q.v)(hp:znF W p)(hq:znF W q):zfF W B [p,q]:=by
 intro i hi;have h:i=0∨i=1:=by simp at hi;omega
 rcases h with rfl | rfl
 · exact ⟨c0,hp.cells,hp.nil,hp.spot⟩
 · exact ⟨c1,hq.cells,hq.nil,hq.spot⟩
theorem Owns.base {v:Value}(h:Owns w B v l)(hb:B'≤B):Owns w B' v l:=by
 refine ⟨h.1,?_⟩;rcases h.2 with h0 | ⟨g,cap,cur,e,hg,rest⟩
 · exact .inl h0
 · exact .inr ⟨g,cap,cur,e,by omega,rest⟩
theorem zed:getV none=.tuple #[.agg #[.string ⟨#[]⟩,.string ⟨#[]⟩,.int .i64 0],.bool false]:=rfl
theorem zeJ (f:Fi):getV (some f)=.tuple #[.agg #[.string f.n,.string f.t,.int .i64 f.k],.bool true]:=rfl
theorem zaq (w:World)(a b c:Value)(t:TypeId):∀ j u,[a,b,c][j]?=some u→(w.alloc (.cells #[a,b,c] t)).cell? ((⟨w.heap.size,0,none⟩:Addr).add j)=some u:=by
 intro j u hj
 match j,hj with
 | 0,hj=>simp at hj;subst hj;simp [Addr.add]
 | 1,hj=>simp at hj;subst hj;simp [Addr.add]
 | 2,hj=>simp at hj;subst hj;simp [Addr.add]
 | j+3,hj=>simp at hj
theorem zbK (f:Fi):∀ u ∈ [Value.string f.n,.string f.t,.int .i64 f.k],u.oneCell'=true:=by
 intro u hu;simp at hu;rcases hu with rfl | rfl | rfl <;> rfl
theorem Owns.snoc {v:Value}(h:w.ownsRow B 98 3 v (l.length+1) (flat l ++ [.string f.n,.string f.t,.int .i64 f.k])):Owns w B v (l ++ [f]):=by
 show World.ownsRow _ _ _ _ _ _ _;rw [zgN,List.length_append];exact h
theorem Owns.drewN {v:Value}(h:Owns w B v l)(n:Nat):Owns (w.drewN n) B v l:=h
theorem zpV (l:List Fi)(name:ByteArray)(k:Nat)(h:k<l.length):zgr (l.take (k+1)) name=zgr (l.take k) name ++ (if (l[k].n.toList == name.toList)=true then [] else [l[k]]):=by
 unfold zgr;rw [zb8 l k h,List.filter_append];cases he:l[k].n.toList == name.toList <;> simp [he]
theorem zm6 (a:Option Addr) (cap:Nat) (l:List Fi) (name:ByteArray) (w:World) (hl:l.length≤100) (hc:zaF w a l) :
 Calls Tryz.prog 67 #[.slice a l.length cap,.string name] w fun e w'=>∃ v,e=.returned (.tuple #[v,.int .i64 (if (getF l name).isSome=true then 0 else 5)])∧Owns w' w.heap.size v (if (getF l name).isSome=true then zgr l name else [])∧Below w.heap.size w w':=by
 obtain ⟨i0,hi,hz0,hz1,hz2⟩:=info_parts Tryz.infoFile;have HC:Hid (zaF w a l):=hc;clear hc;cases hg:getF l name with
 | none =>
   have HG:Hid (getF l name=none):=hg;clear hg
   go_enter Tryz.func67,Tryz.ntmps67
   go_wp2_with fail
   refine (zbQ a cap l name _ (by unfold maxLen;omega) HC.out).mono ?_;rintro e w1 ⟨rfl,hb⟩;rw [HG.out,zed];have HB:Hid (Below w.heap.size w w1):=hb;have hsz:=hb.size;clear hb;go_wp2;go_ret2;exact ⟨_,rfl,World.ownsRow_nil _ _ _ _,HB.out.alloc HB.out.size _⟩
 | some f =>
   have HG:Hid (getF l name=some f):=hg;clear hg
   go_enter Tryz.func67,Tryz.ntmps67
   go_wp2_with fail
   refine (zbQ a cap l name _ (by unfold maxLen;omega) HC.out).mono ?_;rintro e w1 ⟨rfl,hb⟩;rw [HG.out,zeJ];have HB1:Hid (Below w.heap.size w w1):=hb;have hsz1:=hb.size;clear hb
   go_wp2_with fail
   go_loopw [8,9] (fun v i wr=>∃ k:Nat,k≤l.length∧i=.int .i64 k∧Owns wr w.heap.size v (zgr (l.take k) name)∧Below w.heap.size w wr) (fun _ i _=>l.length - (intOf i).toNat)
   case atStart=>exact ⟨0,Nat.zero_le _,rfl,World.ownsRow_nil _ _ _ _,by first | exact HB1.out.alloc HB1.out.size _ | exact (((HB1.out.alloc HB1.out.size _).setCell (by simpa using HB1.out.size) _).setCell (by simpa using HB1.out.size) _).setCell (by simpa using HB1.out.size) _⟩
   case round =>
    obtain ⟨k,hk,rfl,hown,hb⟩:=hrel;have HB:Hid (Below w.heap.size w wr):=hb;have hsz:=hb.size;clear hb;have HOWN:Hid (Owns wr w.heap.size u8 (zgr (l.take k) name)):=hown;clear hown
    by_cases hlt:k<l.length
    · obtain ⟨b,off,rfl,c0,c1,c2⟩:=HC.out.below HB.out k hlt
      have hsn:=zpV l name k hlt
      have hlen:(zgr (l.take k) name).length≤100:=by
       unfold zgr;have h1:=List.length_filter_le (fun g:Fi=>!(g.n.toList == name.toList)) (l.take k);have h2:(l.take k).length≤k:=by simp;omega
       omega
      cases he:l[k].n.toList == name.toList
      · rw [he] at hsn
        have HSN:Hid (zgr (l.take (k+1)) name=zgr (l.take k) name ++ [l[k]]):=hsn;clear hsn;have hne:(l[k].n.toList != name.toList)=true:=by simp [bne,he]
        go_wp2_with (at_builtin;refine wpList_append_own _ rfl _ _ 30 rfl w.heap.size 98 i0 _ 3 40 Tryz.underlying30 hi hz0 hz1 hz2 rfl (by decide) _ _ _ rfl (HOWN.out.alloc _) ⟨wr.heap.size,0,none⟩ 1 1 [.string l[k].n,.string l[k].t,.int .i64 l[k].k] rfl rfl (zaq _ _ _ _ _) (zbK l[k]) (by unfold maxLen;omega) (by omega) (by simp;omega) ?_;intro v' w3 hown' hgrow3 hnil3)
        refine ⟨⟨k+1,by omega,by go_num,?_,?_⟩,by simp [intOf];omega⟩
        · rw [HSN.out]
          exact Owns.snoc hown'
        · exact (HB.out.alloc HB.out.size _).grown hgrow3 (by simp;omega) (fun q hq=>(HOWN.out.lt q hq).1)
      · rw [he] at hsn
        have HSN:Hid (zgr (l.take (k+1)) name=zgr (l.take k) name):=by show _=_;rw [hsn];simp
        clear hsn;have hne:(l[k].n.toList != name.toList)=false:=by simp [bne,he]
        go_wp2;refine ⟨⟨k+1,by omega,by go_num,?_,HB.out⟩,by simp [intOf];omega⟩;rw [HSN.out];exact HOWN.out
    · go_wp2
      go_ret2;have h:=HOWN.out;rw [zft l k (by omega)] at h;exact ⟨_,rfl,h,HB.out⟩
def putS (f:Fi):List Fi→Bool→List Fi→List Fi
 | out,laid,[]=>if laid=true then out else out ++ [f]
 | out,laid,g :: r=>putS f ((if laid=false∧ltB g.n f.n=false then out ++ [f] else out) ++ (if g.n=f.n then [] else [g])) (laid || !ltB g.n f.n) r
theorem zor (f:Fi):∀ (l out:List Fi) (laid:Bool),putS f out laid l=out ++ putR f laid l
 | [],out,laid=>by cases laid <;> simp [putS,putR]
 | g :: r,out,laid=>by
   simp only [putS,putR];rw [zor f r];cases laid <;> cases ltB g.n f.n <;> by_cases hn:g.n=f.n <;> simp [hn]
theorem znz (f:Fi)(l out:List Fi)(laid:Bool)(k:Nat)(h:k<l.length):putS f out laid (l.drop k)=putS f ((if laid=false∧ltB l[k].n f.n=false then out ++ [f] else out) ++ (if l[k].n=f.n then [] else [l[k]])) (laid || !ltB l[k].n f.n) (l.drop (k+1)):=by
 rw [List.drop_eq_getElem_cons h];rfl
theorem zoe (a:Option Addr)(cap:Nat)(l:List Fi)(f:Fi)(w:World)(hz:f.n.size≤maxLen∧f.t.size≤maxLen)(hf:f.fault≠0) :
 Calls Tryz.prog 102 #[.slice a l.length cap,zjj f.n f.t f.k] w fun e w'=>e=.returned (.tuple #[.slice none 0 0,.int .i64 f.fault])∧Below w.heap.size w w':=by
 have hr:=f.fault_range;have hpos:0<zcB f.n.data.toList f.t.data.toList f.k:=by unfold Fi.fault at *;omega
 clear hf hr
 go_enter Tryz.func102,Tryz.ntmps102
 go_wp2_with (go_at_call 146;refine (ze6 _ _ _ _ hz.1 hz.2).mono ?_;rintro e w' ⟨rfl,rfl⟩)
 go_ret2;refine ⟨rfl,?_⟩
 repeat (first | exact Below.refl _ _ | refine below_drewN ?_ _ | refine Below.drew ?_ | refine Below.alloc ?_ (by simp;try omega) _)
theorem zmw (a:Option Addr)(cap:Nat)(l:List Fi)(f:Fi)(w:World)(hz:f.n.size≤maxLen∧f.t.size≤maxLen)(hf:f.fault=0)(hl:l.length≤100)(hc:zaF w a l)(hg:getF l f.n=none)(h8:8≤l.length) :
 Calls Tryz.prog 102 #[.slice a l.length cap,zjj f.n f.t f.k] w fun e w'=>e=.returned (.tuple #[.slice none 0 0,.int .i64 7])∧Below w.heap.size w w':=by
 have hzero:zcB f.n.data.toList f.t.data.toList f.k≤0:=by unfold Fi.fault at *;omega
 have HC:Hid (zaF w a l):=hc;have HG:Hid (getF l f.n=none):=hg;clear hf hc hg
 go_enter Tryz.func102,Tryz.ntmps102
 go_wp2_with (go_at_call 146;refine (ze6 _ _ _ _ hz.1 hz.2).mono ?_;rintro e w' ⟨rfl,rfl⟩)
 refine (zbQ a cap l f.n _ (by unfold maxLen;omega) (by exact (HC.out.alloc _).alloc _)).mono ?_;rintro e w1 ⟨rfl,hb⟩;rw [HG.out,zed];have hb':Below w.heap.size w w1:=(((Below.refl _ _).alloc (Nat.le_refl _) _).alloc (by simp) _).trans (hb.mono (by simp;omega));have HB:Hid (Below w.heap.size w w1):=hb';clear hb hb';go_wp2;go_ret2;exact ⟨rfl,HB.out.alloc HB.out.size _⟩
theorem zif (a:Option Addr) (cap:Nat) (l:List Fi) (f:Fi) (o:Option Fi) (w:World) (hz:f.n.size≤maxLen∧f.t.size≤maxLen) (hf:f.fault=0) (hl:l.length≤100) (hc:zaF w a l) (hg:getF l f.n=o) (h8:o=none→l.length<8) :
 Calls Tryz.prog 102 #[.slice a l.length cap,zjj f.n f.t f.k] w fun e w'=>∃ v,e=.returned (.tuple #[v,.int .i64 0])∧Owns w' w.heap.size v (putR f false l)∧Below w.heap.size w w':=by
 obtain ⟨i0,hi,hz0,hz1,hz2⟩:=info_parts Tryz.infoFile;have hzero:zcB f.n.data.toList f.t.data.toList f.k≤0:=by unfold Fi.fault at *;omega
 have HC:Hid (zaF w a l):=hc;have HG:Hid (getF l f.n=o):=hg;clear hf hc hg
 go_enter Tryz.func102,Tryz.ntmps102
 go_wp2_with (go_at_call 146;refine (ze6 _ _ _ _ hz.1 hz.2).mono ?_;rintro e w' ⟨rfl,rfl⟩)
 refine (zbQ a cap l f.n _ (by unfold maxLen;omega) (by exact (HC.out.alloc _).alloc _)).mono ?_;rintro e w1 ⟨rfl,hb⟩;rw [HG.out];obtain ⟨hcc,hff⟩:=zgB hb;have hcc0:w1.cell? ⟨w.heap.size,0,none⟩=some (.string f.n):=by rw [hcc _ _ (by simp;omega)];simp [go_sem]
 have hcc1:w1.cell? ⟨w.heap.size,1,none⟩=some (.string f.t):=by rw [hcc _ _ (by simp;omega)];simp [go_sem]
 have hcc2:w1.cell? ⟨w.heap.size,2,none⟩=some (.int .i64 f.k):=by rw [hcc _ _ (by simp;omega)];simp [go_sem]
 have hsz1:w.heap.size+2≤w1.heap.size:=by have:=hb.size;simp at this;omega
 have hb':Below w.heap.size w w1:=(((Below.refl _ _).alloc (Nat.le_refl _) _).alloc (by simp) _).trans (hb.mono (by simp;omega));have HB1:Hid (Below w.heap.size w w1):=hb';have HBOX:Hid (w1.cell? ⟨w.heap.size,0,none⟩=some (.string f.n)∧w1.cell? ⟨w.heap.size,1,none⟩=some (.string f.t)∧w1.cell? ⟨w.heap.size,2,none⟩=some (.int .i64 f.k)):=⟨hcc0,hcc1,hcc2⟩;clear hb hb' hcc hff hcc0 hcc1 hcc2;cases o with
 | none =>
   have h8':=h8 rfl;clear h8;rw [zed]
   go_wp2_with fail
   go_loopw [9,10,11] (fun v b i wr=>∃ (k:Nat) (out:List Fi) (laid:Bool),k≤l.length∧i=.int .i64 k∧b=.bool laid∧Owns wr (w.heap.size+1) v out∧Below (w.heap.size+1) w1 wr∧out.length≤2 * k∧Hid (putS f out laid (l.drop k)=putR f false l)) (fun _ _ i _=>l.length - (intOf i).toNat)
   case atStart=>exact ⟨0,[],false,Nat.zero_le _,rfl,rfl,World.ownsRow_nil _ _ _ _,(Below.refl _ _).alloc (by omega) _,by simp,(by show _=_;rw [List.drop_zero,zor];rfl)⟩
   case round =>
    obtain ⟨k,out,laid,hk,rfl,rfl,hown,hb,hout,HT⟩:=hrel;have HOWN:Hid (Owns wr (w.heap.size+1) u9 out):=hown;have HB:Hid (Below (w.heap.size+1) w1 wr):=hb;have hsz:=hb.size;clear hown hb;have hbw:Below w.heap.size w wr:=HB1.out.trans (HB.out.mono (by omega));have HBW:Hid (Below w.heap.size w wr):=hbw;clear hbw;obtain ⟨x0,x1,x2⟩:=HBOX.out;have y0:wr.cell? ⟨w.heap.size,0,none⟩=some (.string f.n):=by rw [HB.out.cell (p:=⟨w.heap.size,0,none⟩) (by show w.heap.size<_;omega)];exact x0
    have y1:wr.cell? ⟨w.heap.size,1,none⟩=some (.string f.t):=by rw [HB.out.cell (p:=⟨w.heap.size,1,none⟩) (by show w.heap.size<_;omega)];exact x1
    have y2:wr.cell? ⟨w.heap.size,2,none⟩=some (.int .i64 f.k):=by rw [HB.out.cell (p:=⟨w.heap.size,2,none⟩) (by show w.heap.size<_;omega)];exact x2
    have hsz2:w.heap.size<wr.heap.size:=by omega
    clear x0 x1 x2
    by_cases hlt:k<l.length
    · obtain ⟨b,off,rfl,c0,c1,c2⟩:=HC.out.below HBW.out k hlt
      have hbl:b<wr.heap.size:=World.block_lt_of_cell? _ _ c0;have hbl2:b<w.heap.size:=by obtain ⟨b',off',e,d0,_⟩:=HC.out k hlt;cases e;exact World.block_lt_of_cell? _ _ d0
      have HS:=znz f l out laid k hlt;have hle:=leqB f.n l[k].n
      by_cases hn:l[k].n=f.n
      · have hne':(l[k].n.toList == f.n.toList)=true:=zbE hn
        have hlb:ltB l[k].n f.n=false:=by rw [hn,zaB]
        rw [hlb] at hle HS;simp only [Bool.not_false] at hle HS;cases laid with
        | true =>
          have HS':Hid (putS f out true (l.drop (k+1))=putR f false l):=by show _=_;rw [← HT.out,HS];simp [hn]
          clear HS hlb hn;go_wp2
          go_quiet (fail)
          go_wp2
          go_quiet (fail)
          go_wp2;exact ⟨⟨k+1,out,true,by omega,by go_num,rfl,HOWN.out,by exact below_drewN HB.out _,by omega,HS'⟩,by simp [intOf];omega⟩
        | false =>
          have HS':Hid (putS f (out ++ [f]) true (l.drop (k+1))=putR f false l):=by show _=_;rw [← HT.out,HS];simp [hn]
          clear HS hlb hn;go_wp2
          go_quiet (fail)
          go_wp2_with (at_builtin;refine wpList_append_own _ rfl _ _ 30 rfl (w.heap.size+1) 98 i0 _ 3 40 Tryz.underlying30 hi hz0 hz1 hz2 rfl (by decide) _ _ _ rfl ((Owns.drewN HOWN.out _).alloc _) ⟨wr.heap.size,0,none⟩ 1 1 [.string f.n,.string f.t,.int .i64 f.k] rfl rfl (zaq _ _ _ _ _) (zbK f) (by unfold maxLen;omega) (by omega) (by simp;omega) ?_;intro v3 w3 hown3 hgrow3 hnil3)
          have hb3:Below (w.heap.size+1) w1 w3:=((below_drewN HB.out _).alloc (by simp;omega) _).grown hgrow3 (by simp;omega) (fun q hq=>(HOWN.out.lt q hq).1);have HB3:Hid (Below (w.heap.size+1) w1 w3):=hb3;have hcc:∀ p,w3.cell? ⟨w.heap.size,p,none⟩=w1.cell? ⟨w.heap.size,p,none⟩:=fun p=>hb3.cell (p:=⟨w.heap.size,p,none⟩) (by show w.heap.size<_;omega)
          have z0:w3.cell? ⟨w.heap.size,0,none⟩=some (.string f.n):=by rw [hcc];exact HBOX.out.1
          have e0:w3.cell? ⟨b,off+k * 3,none⟩=some (.string l[k].n):=by rw [hb3.cell (p:=⟨b,off+k * 3,none⟩) (by show b<_;omega),← HB.out.cell (p:=⟨b,off+k * 3,none⟩) (by show b<_;omega)];exact c0
          have HOWN3:Hid (Owns w3 (w.heap.size+1) v3 (out ++ [f])):=Owns.snoc hown3;clear hb3 hcc hgrow3 hnil3 hown3 c0 c1 c2 y0 y1 y2;go_wp2
          go_quiet (fail)
          go_wp2;exact ⟨⟨k+1,out ++ [f],true,by omega,by go_num,rfl,HOWN3.out,by exact below_drewN HB3.out _,by simp;omega,HS'⟩,by simp [intOf];omega⟩
      · have hne':(l[k].n.toList == f.n.toList)=false:=zaS hn
        cases laid with
        | true =>
          have HS':Hid (putS f (out ++ [l[k]]) true (l.drop (k+1))=putR f false l):=by show _=_;rw [← HT.out,HS];simp [hn]
          clear HS hle;go_wp2
          go_quiet (fail)
          go_wp2
          go_quiet (fail)
          go_wp2_with (at_builtin;refine wpList_append_own _ rfl _ _ 30 rfl (w.heap.size+1) 98 i0 _ 3 40 Tryz.underlying30 hi hz0 hz1 hz2 rfl (by decide) _ _ _ rfl ((Owns.drewN HOWN.out _).alloc _) ⟨wr.heap.size,0,none⟩ 1 1 [.string l[k].n,.string l[k].t,.int .i64 l[k].k] rfl rfl (zaq _ _ _ _ _) (zbK l[k]) (by unfold maxLen;omega) (by omega) (by simp;omega) ?_;intro v3 w3 hown3 hgrow3 hnil3)
          exact ⟨⟨k+1,out ++ [l[k]],true,by omega,by go_num,rfl,Owns.snoc hown3,((below_drewN HB.out _).alloc (by simp;omega) _).grown hgrow3 (by simp;omega) (fun q hq=>(HOWN.out.lt q hq).1),by simp;omega,HS'⟩,by simp [intOf];omega⟩
        | false =>
          cases hlb:ltB l[k].n f.n
          · rw [hlb] at hle HS
            simp only [Bool.not_false] at hle HS;have HS':Hid (putS f (out ++ [f] ++ [l[k]]) true (l.drop (k+1))=putR f false l):=by show _=_;rw [← HT.out,HS];simp [hn]
            clear HS hlb;go_wp2
            go_quiet (fail)
            go_wp2_with (at_builtin;refine wpList_append_own _ rfl _ _ 30 rfl (w.heap.size+1) 98 i0 _ 3 40 Tryz.underlying30 hi hz0 hz1 hz2 rfl (by decide) _ _ _ rfl ((Owns.drewN HOWN.out _).alloc _) ⟨wr.heap.size,0,none⟩ 1 1 [.string f.n,.string f.t,.int .i64 f.k] rfl rfl (zaq _ _ _ _ _) (zbK f) (by unfold maxLen;omega) (by omega) (by simp;omega) ?_;intro v3 w3 hown3 hgrow3 hnil3)
            have hb3:Below (w.heap.size+1) w1 w3:=((below_drewN HB.out _).alloc (by simp;omega) _).grown hgrow3 (by simp;omega) (fun q hq=>(HOWN.out.lt q hq).1);have HB3:Hid (Below (w.heap.size+1) w1 w3):=hb3;have hsz3:=hb3.size;have hcc:∀ p,w3.cell? ⟨w.heap.size,p,none⟩=w1.cell? ⟨w.heap.size,p,none⟩:=fun p=>hb3.cell (p:=⟨w.heap.size,p,none⟩) (by show w.heap.size<_;omega)
            have z0:w3.cell? ⟨w.heap.size,0,none⟩=some (.string f.n):=by rw [hcc];exact HBOX.out.1
            have e0:w3.cell? ⟨b,off+k * 3,none⟩=some (.string l[k].n):=by rw [hb3.cell (p:=⟨b,off+k * 3,none⟩) (by show b<_;omega),← HB.out.cell (p:=⟨b,off+k * 3,none⟩) (by show b<_;omega)];exact c0
            have e1:w3.cell? ⟨b,off+k * 3+1,none⟩=some (.string l[k].t):=by rw [hb3.cell (p:=⟨b,off+k * 3+1,none⟩) (by show b<_;omega),← HB.out.cell (p:=⟨b,off+k * 3+1,none⟩) (by show b<_;omega)];exact c1
            have e2:w3.cell? ⟨b,off+k * 3+2,none⟩=some (.int .i64 l[k].k):=by rw [hb3.cell (p:=⟨b,off+k * 3+2,none⟩) (by show b<_;omega),← HB.out.cell (p:=⟨b,off+k * 3+2,none⟩) (by show b<_;omega)];exact c2
            have HOWN3:Hid (Owns w3 (w.heap.size+1) v3 (out ++ [f])):=Owns.snoc hown3;have hol:(out ++ [f]).length≤300:=by simp;omega
            clear hb3 hcc hgrow3 hnil3 hown3 c0 c1 c2 y0 y1 y2;go_wp2
            go_quiet (fail)
            go_wp2_with (at_builtin;refine wpList_append_own _ rfl _ _ 30 rfl (w.heap.size+1) 98 i0 _ 3 40 Tryz.underlying30 hi hz0 hz1 hz2 rfl (by decide) _ _ _ rfl ((Owns.drewN HOWN3.out _).alloc _) ⟨w3.heap.size,0,none⟩ 1 1 [.string l[k].n,.string l[k].t,.int .i64 l[k].k] rfl rfl (zaq _ _ _ _ _) (zbK l[k]) (by unfold maxLen;omega) (by omega) (by simp;omega) ?_;intro v4 w4 hown4 hgrow4 hnil4)
            exact ⟨⟨k+1,out ++ [f] ++ [l[k]],true,by omega,by go_num,rfl,Owns.snoc hown4,((below_drewN HB3.out _).alloc (by simp;omega) _).grown hgrow4 (by simp;omega) (fun q hq=>(HOWN3.out.lt q hq).1),by simp;omega,HS'⟩,by simp [intOf];omega⟩
          · rw [hlb] at hle HS
            simp only [Bool.not_true] at hle HS;have HS':Hid (putS f (out ++ [l[k]]) false (l.drop (k+1))=putR f false l):=by show _=_;rw [← HT.out,HS];simp [hn]
            clear HS hlb;go_wp2
            go_quiet (fail)
            go_wp2
            go_quiet (fail)
            go_wp2_with (at_builtin;refine wpList_append_own _ rfl _ _ 30 rfl (w.heap.size+1) 98 i0 _ 3 40 Tryz.underlying30 hi hz0 hz1 hz2 rfl (by decide) _ _ _ rfl ((Owns.drewN HOWN.out _).alloc _) ⟨wr.heap.size,0,none⟩ 1 1 [.string l[k].n,.string l[k].t,.int .i64 l[k].k] rfl rfl (zaq _ _ _ _ _) (zbK l[k]) (by unfold maxLen;omega) (by omega) (by simp;omega) ?_;intro v3 w3 hown3 hgrow3 hnil3)
            exact ⟨⟨k+1,out ++ [l[k]],false,by omega,by go_num,rfl,Owns.snoc hown3,((below_drewN HB.out _).alloc (by simp;omega) _).grown hgrow3 (by simp;omega) (fun q hq=>(HOWN.out.lt q hq).1),by simp;omega,HS'⟩,by simp [intOf];omega⟩
    · have hfin:=HT.out
      rw [List.drop_eq_nil_of_le (by omega)] at hfin;cases laid with
      | true =>
        have HF:Hid (out=putR f false l):=hfin;clear hfin;go_wp2;go_ret2;rw [← HF.out];exact ⟨_,rfl,HOWN.out.base (by omega),HBW.out⟩
      | false =>
        have HF:Hid (out ++ [f]=putR f false l):=hfin;clear hfin
        go_wp2_with (at_builtin;refine wpList_append_own _ rfl _ _ 30 rfl (w.heap.size+1) 98 i0 _ 3 40 Tryz.underlying30 hi hz0 hz1 hz2 rfl (by decide) _ _ _ rfl (HOWN.out.alloc _) ⟨wr.heap.size,0,none⟩ 1 1 [.string f.n,.string f.t,.int .i64 f.k] rfl rfl (zaq _ _ _ _ _) (zbK f) (by unfold maxLen;omega) (by omega) (by simp;omega) ?_;intro v3 w3 hown3 hgrow3 hnil3)
        go_ret2;rw [← HF.out];exact ⟨_,rfl,(Owns.snoc hown3).base (by omega),(HBW.out.alloc HBW.out.size _).grown hgrow3 (by simp;omega) (fun q hq=>by have:=(HOWN.out.lt q hq).1;omega)⟩
 | some g =>
   clear h8;rw [zeJ]
   go_wp2_with fail
   go_loopw [9,10,11] (fun v b i wr=>∃ (k:Nat) (out:List Fi) (laid:Bool),k≤l.length∧i=.int .i64 k∧b=.bool laid∧Owns wr (w.heap.size+1) v out∧Below (w.heap.size+1) w1 wr∧out.length≤2 * k∧Hid (putS f out laid (l.drop k)=putR f false l)) (fun _ _ i _=>l.length - (intOf i).toNat)
   case atStart=>exact ⟨0,[],false,Nat.zero_le _,rfl,rfl,World.ownsRow_nil _ _ _ _,(Below.refl _ _).alloc (by omega) _,by simp,(by show _=_;rw [List.drop_zero,zor];rfl)⟩
   case round =>
    obtain ⟨k,out,laid,hk,rfl,rfl,hown,hb,hout,HT⟩:=hrel;have HOWN:Hid (Owns wr (w.heap.size+1) u9 out):=hown;have HB:Hid (Below (w.heap.size+1) w1 wr):=hb;have hsz:=hb.size;clear hown hb;have hbw:Below w.heap.size w wr:=HB1.out.trans (HB.out.mono (by omega));have HBW:Hid (Below w.heap.size w wr):=hbw;clear hbw;obtain ⟨x0,x1,x2⟩:=HBOX.out;have y0:wr.cell? ⟨w.heap.size,0,none⟩=some (.string f.n):=by rw [HB.out.cell (p:=⟨w.heap.size,0,none⟩) (by show w.heap.size<_;omega)];exact x0
    have y1:wr.cell? ⟨w.heap.size,1,none⟩=some (.string f.t):=by rw [HB.out.cell (p:=⟨w.heap.size,1,none⟩) (by show w.heap.size<_;omega)];exact x1
    have y2:wr.cell? ⟨w.heap.size,2,none⟩=some (.int .i64 f.k):=by rw [HB.out.cell (p:=⟨w.heap.size,2,none⟩) (by show w.heap.size<_;omega)];exact x2
    have hsz2:w.heap.size<wr.heap.size:=by omega
    clear x0 x1 x2
    by_cases hlt:k<l.length
    · obtain ⟨b,off,rfl,c0,c1,c2⟩:=HC.out.below HBW.out k hlt
      have hbl:b<wr.heap.size:=World.block_lt_of_cell? _ _ c0;have hbl2:b<w.heap.size:=by obtain ⟨b',off',e,d0,_⟩:=HC.out k hlt;cases e;exact World.block_lt_of_cell? _ _ d0
      have HS:=znz f l out laid k hlt;have hle:=leqB f.n l[k].n
      by_cases hn:l[k].n=f.n
      · have hne':(l[k].n.toList == f.n.toList)=true:=zbE hn
        have hlb:ltB l[k].n f.n=false:=by rw [hn,zaB]
        rw [hlb] at hle HS;simp only [Bool.not_false] at hle HS;cases laid with
        | true =>
          have HS':Hid (putS f out true (l.drop (k+1))=putR f false l):=by show _=_;rw [← HT.out,HS];simp [hn]
          clear HS hlb hn;go_wp2
          go_quiet (fail)
          go_wp2
          go_quiet (fail)
          go_wp2;exact ⟨⟨k+1,out,true,by omega,by go_num,rfl,HOWN.out,by exact below_drewN HB.out _,by omega,HS'⟩,by simp [intOf];omega⟩
        | false =>
          have HS':Hid (putS f (out ++ [f]) true (l.drop (k+1))=putR f false l):=by show _=_;rw [← HT.out,HS];simp [hn]
          clear HS hlb hn;go_wp2
          go_quiet (fail)
          go_wp2_with (at_builtin;refine wpList_append_own _ rfl _ _ 30 rfl (w.heap.size+1) 98 i0 _ 3 40 Tryz.underlying30 hi hz0 hz1 hz2 rfl (by decide) _ _ _ rfl ((Owns.drewN HOWN.out _).alloc _) ⟨wr.heap.size,0,none⟩ 1 1 [.string f.n,.string f.t,.int .i64 f.k] rfl rfl (zaq _ _ _ _ _) (zbK f) (by unfold maxLen;omega) (by omega) (by simp;omega) ?_;intro v3 w3 hown3 hgrow3 hnil3)
          have hb3:Below (w.heap.size+1) w1 w3:=((below_drewN HB.out _).alloc (by simp;omega) _).grown hgrow3 (by simp;omega) (fun q hq=>(HOWN.out.lt q hq).1);have HB3:Hid (Below (w.heap.size+1) w1 w3):=hb3;have hcc:∀ p,w3.cell? ⟨w.heap.size,p,none⟩=w1.cell? ⟨w.heap.size,p,none⟩:=fun p=>hb3.cell (p:=⟨w.heap.size,p,none⟩) (by show w.heap.size<_;omega)
          have z0:w3.cell? ⟨w.heap.size,0,none⟩=some (.string f.n):=by rw [hcc];exact HBOX.out.1
          have e0:w3.cell? ⟨b,off+k * 3,none⟩=some (.string l[k].n):=by rw [hb3.cell (p:=⟨b,off+k * 3,none⟩) (by show b<_;omega),← HB.out.cell (p:=⟨b,off+k * 3,none⟩) (by show b<_;omega)];exact c0
          have HOWN3:Hid (Owns w3 (w.heap.size+1) v3 (out ++ [f])):=Owns.snoc hown3;clear hb3 hcc hgrow3 hnil3 hown3 c0 c1 c2 y0 y1 y2;go_wp2
          go_quiet (fail)
          go_wp2;exact ⟨⟨k+1,out ++ [f],true,by omega,by go_num,rfl,HOWN3.out,by exact below_drewN HB3.out _,by simp;omega,HS'⟩,by simp [intOf];omega⟩
      · have hne':(l[k].n.toList == f.n.toList)=false:=zaS hn
        cases laid with
        | true =>
          have HS':Hid (putS f (out ++ [l[k]]) true (l.drop (k+1))=putR f false l):=by show _=_;rw [← HT.out,HS];simp [hn]
          clear HS hle;go_wp2
          go_quiet (fail)
          go_wp2
          go_quiet (fail)
          go_wp2_with (at_builtin;refine wpList_append_own _ rfl _ _ 30 rfl (w.heap.size+1) 98 i0 _ 3 40 Tryz.underlying30 hi hz0 hz1 hz2 rfl (by decide) _ _ _ rfl ((Owns.drewN HOWN.out _).alloc _) ⟨wr.heap.size,0,none⟩ 1 1 [.string l[k].n,.string l[k].t,.int .i64 l[k].k] rfl rfl (zaq _ _ _ _ _) (zbK l[k]) (by unfold maxLen;omega) (by omega) (by simp;omega) ?_;intro v3 w3 hown3 hgrow3 hnil3)
          exact ⟨⟨k+1,out ++ [l[k]],true,by omega,by go_num,rfl,Owns.snoc hown3,((below_drewN HB.out _).alloc (by simp;omega) _).grown hgrow3 (by simp;omega) (fun q hq=>(HOWN.out.lt q hq).1),by simp;omega,HS'⟩,by simp [intOf];omega⟩
        | false =>
          cases hlb:ltB l[k].n f.n
          · rw [hlb] at hle HS
            simp only [Bool.not_false] at hle HS;have HS':Hid (putS f (out ++ [f] ++ [l[k]]) true (l.drop (k+1))=putR f false l):=by show _=_;rw [← HT.out,HS];simp [hn]
            clear HS hlb;go_wp2
            go_quiet (fail)
            go_wp2_with (at_builtin;refine wpList_append_own _ rfl _ _ 30 rfl (w.heap.size+1) 98 i0 _ 3 40 Tryz.underlying30 hi hz0 hz1 hz2 rfl (by decide) _ _ _ rfl ((Owns.drewN HOWN.out _).alloc _) ⟨wr.heap.size,0,none⟩ 1 1 [.string f.n,.string f.t,.int .i64 f.k] rfl rfl (zaq _ _ _ _ _) (zbK f) (by unfold maxLen;omega) (by omega) (by simp;omega) ?_;intro v3 w3 hown3 hgrow3 hnil3)
            have hb3:Below (w.heap.size+1) w1 w3:=((below_drewN HB.out _).alloc (by simp;omega) _).grown hgrow3 (by simp;omega) (fun q hq=>(HOWN.out.lt q hq).1);have HB3:Hid (Below (w.heap.size+1) w1 w3):=hb3;have hsz3:=hb3.size;have hcc:∀ p,w3.cell? ⟨w.heap.size,p,none⟩=w1.cell? ⟨w.heap.size,p,none⟩:=fun p=>hb3.cell (p:=⟨w.heap.size,p,none⟩) (by show w.heap.size<_;omega)
            have z0:w3.cell? ⟨w.heap.size,0,none⟩=some (.string f.n):=by rw [hcc];exact HBOX.out.1
            have e0:w3.cell? ⟨b,off+k * 3,none⟩=some (.string l[k].n):=by rw [hb3.cell (p:=⟨b,off+k * 3,none⟩) (by show b<_;omega),← HB.out.cell (p:=⟨b,off+k * 3,none⟩) (by show b<_;omega)];exact c0
            have e1:w3.cell? ⟨b,off+k * 3+1,none⟩=some (.string l[k].t):=by rw [hb3.cell (p:=⟨b,off+k * 3+1,none⟩) (by show b<_;omega),← HB.out.cell (p:=⟨b,off+k * 3+1,none⟩) (by show b<_;omega)];exact c1
            have e2:w3.cell? ⟨b,off+k * 3+2,none⟩=some (.int .i64 l[k].k):=by rw [hb3.cell (p:=⟨b,off+k * 3+2,none⟩) (by show b<_;omega),← HB.out.cell (p:=⟨b,off+k * 3+2,none⟩) (by show b<_;omega)];exact c2
            have HOWN3:Hid (Owns w3 (w.heap.size+1) v3 (out ++ [f])):=Owns.snoc hown3;have hol:(out ++ [f]).length≤300:=by simp;omega
            clear hb3 hcc hgrow3 hnil3 hown3 c0 c1 c2 y0 y1 y2;go_wp2
            go_quiet (fail)
            go_wp2_with (at_builtin;refine wpList_append_own _ rfl _ _ 30 rfl (w.heap.size+1) 98 i0 _ 3 40 Tryz.underlying30 hi hz0 hz1 hz2 rfl (by decide) _ _ _ rfl ((Owns.drewN HOWN3.out _).alloc _) ⟨w3.heap.size,0,none⟩ 1 1 [.string l[k].n,.string l[k].t,.int .i64 l[k].k] rfl rfl (zaq _ _ _ _ _) (zbK l[k]) (by unfold maxLen;omega) (by omega) (by simp;omega) ?_;intro v4 w4 hown4 hgrow4 hnil4)
            exact ⟨⟨k+1,out ++ [f] ++ [l[k]],true,by omega,by go_num,rfl,Owns.snoc hown4,((below_drewN HB3.out _).alloc (by simp;omega) _).grown hgrow4 (by simp;omega) (fun q hq=>(HOWN3.out.lt q hq).1),by simp;omega,HS'⟩,by simp [intOf];omega⟩
          · rw [hlb] at hle HS
            simp only [Bool.not_true] at hle HS;have HS':Hid (putS f (out ++ [l[k]]) false (l.drop (k+1))=putR f false l):=by show _=_;rw [← HT.out,HS];simp [hn]
            clear HS hlb;go_wp2
            go_quiet (fail)
            go_wp2
            go_quiet (fail)
            go_wp2_with (at_builtin;refine wpList_append_own _ rfl _ _ 30 rfl (w.heap.size+1) 98 i0 _ 3 40 Tryz.underlying30 hi hz0 hz1 hz2 rfl (by decide) _ _ _ rfl ((Owns.drewN HOWN.out _).alloc _) ⟨wr.heap.size,0,none⟩ 1 1 [.string l[k].n,.string l[k].t,.int .i64 l[k].k] rfl rfl (zaq _ _ _ _ _) (zbK l[k]) (by unfold maxLen;omega) (by omega) (by simp;omega) ?_;intro v3 w3 hown3 hgrow3 hnil3)
            exact ⟨⟨k+1,out ++ [l[k]],false,by omega,by go_num,rfl,Owns.snoc hown3,((below_drewN HB.out _).alloc (by simp;omega) _).grown hgrow3 (by simp;omega) (fun q hq=>(HOWN.out.lt q hq).1),by simp;omega,HS'⟩,by simp [intOf];omega⟩
    · have hfin:=HT.out
      rw [List.drop_eq_nil_of_le (by omega)] at hfin;cases laid with
      | true =>
        have HF:Hid (out=putR f false l):=hfin;clear hfin;go_wp2;go_ret2;rw [← HF.out];exact ⟨_,rfl,HOWN.out.base (by omega),HBW.out⟩
      | false =>
        have HF:Hid (out ++ [f]=putR f false l):=hfin;clear hfin
        go_wp2_with (at_builtin;refine wpList_append_own _ rfl _ _ 30 rfl (w.heap.size+1) 98 i0 _ 3 40 Tryz.underlying30 hi hz0 hz1 hz2 rfl (by decide) _ _ _ rfl (HOWN.out.alloc _) ⟨wr.heap.size,0,none⟩ 1 1 [.string f.n,.string f.t,.int .i64 f.k] rfl rfl (zaq _ _ _ _ _) (zbK f) (by unfold maxLen;omega) (by omega) (by simp;omega) ?_;intro v3 w3 hown3 hgrow3 hnil3)
        go_ret2;rw [← HF.out];exact ⟨_,rfl,(Owns.snoc hown3).base (by omega),(HBW.out.alloc HBW.out.size _).grown hgrow3 (by simp;omega) (fun q hq=>by have:=(HOWN.out.lt q hq).1;omega)⟩
theorem zlh (h:∀ i,i<k→zbj l i=0)(hk:zbj l k=0):∀ i,i<k+1→zbj l i=0:=by
 intro i hi;rcases Nat.lt_or_ge i k with h1 | h1
 · exact h i h1
 · have e:i=k:=by omega
   subst e;exact hk
theorem zmc (hk:k<l.length)(hj:j<l.length)(e:k=j+1)(hf:l[k].fault=0):zbj l k=if ltB l[j].n l[k].n=true then 0 else 3:=by
 subst e;exact zfW hk hf
theorem zgG (a:Option Addr) (cap:Nat) (l:List Fi) (w:World) (hl:l.length≤maxLen) (hz:zok l) (hc:zaF w a l) :
 Calls Tryz.prog 133 #[.slice a l.length cap] w fun e w'=>e=.returned (errV (zcR l))∧Below w.heap.size w w':=by
 unfold maxLen at hl;have HC:Hid (zaF w a l):=hc;have HZ:Hid (zok l):=hz;clear hc hz
 by_cases h8:8<l.length
 · have e:zcR l=2:=zjZ h8
   rw [e];clear e
   go_enter Tryz.func133,Tryz.ntmps133
   go_wp2;go_ret;exact ⟨rfl,Below.refl _ _⟩
 · go_enter Tryz.func133,Tryz.ntmps133
   go_wp2_with fail
   go_loopw [12] (fun i wr=>∃ k:Nat,k≤l.length∧i=.int .i64 k∧Below w.heap.size w wr∧∀ i,i<k→zbj l i=0) (fun i _=>l.length - (intOf i).toNat)
   case atStart=>exact ⟨0,Nat.zero_le _,rfl,Below.refl _ _,fun i hi=>absurd hi (Nat.not_lt_zero _)⟩
   case round =>
    obtain ⟨k,hk,rfl,hb,hall⟩:=hrel;have HB:Hid (Below w.heap.size w wr):=hb;have Hall:Hid (∀ i,i<k→zbj l i=0):=hall;clear hall hb
    by_cases hlt:k<l.length
    · obtain ⟨b,off,rfl,c0,c1,c2⟩:=HC.out.below HB.out k hlt
      obtain ⟨z1,z2⟩:=HZ.out.at hlt;have hbl:b<wr.heap.size:=World.block_lt_of_cell? _ _ c0;have hr:0≤zcB l[k].n.data.toList l[k].t.data.toList l[k].k:=l[k].fault_range.1
      by_cases hf:0<zcB l[k].n.data.toList l[k].t.data.toList l[k].k
      · have he:errV (zcB l[k].n.data.toList l[k].t.data.toList l[k].k)=.iface 90 (.int .i64 (zcB l[k].n.data.toList l[k].t.data.toList l[k].k)):=by unfold errV;rw [if_neg (by omega)]
        go_wp2_with (go_at_call 155;refine (zdm _ _ _ _ z1 z2).mono ?_;rintro e w' ⟨rfl,rfl⟩)
        go_ret;have hne:l[k].fault≠0:=by unfold Fi.fault;omega
        have e:zcR l=zcB l[k].n.data.toList l[k].t.data.toList l[k].k:=by
         rw [zgW (by omega) hlt Hall.out (by rw [zgO hlt hne];exact hne),zgO hlt hne];rfl
        exact ⟨by rw [e,he];rfl,(HB.out.alloc HB.out.size _).alloc (by simp;have:=HB.out.size;omega) _⟩
      · have hzero:l[k].fault=0:=by unfold Fi.fault;omega
        have HF:Hid (l[k].fault=0):=hzero;have he:errV (zcB l[k].n.data.toList l[k].t.data.toList l[k].k)=.nilIface:=by unfold errV;rw [if_pos (by omega)]
        clear hzero
        by_cases hk0:k=0
        · have hd:decide ((0:Int)<(k:Int))=false:=by simp [hk0]
          have hd':decide (0<k)=false:=by simp [hk0]
          have hfa:zbj l k=0:=by subst hk0;exact zih hlt HF.out
          have HFA:Hid (zbj l k=0):=hfa;clear hk0 hfa
          go_wp2_with (go_at_call 155;refine (zdm _ _ _ _ z1 z2).mono ?_;rintro e w' ⟨rfl,rfl⟩)
          go_quiet (fail)
          go_wp2;exact ⟨⟨k+1,by omega,by go_num,below_drewN ((HB.out.alloc HB.out.size _).alloc (by simp;have:=HB.out.size;omega) _) _,zlh Hall.out HFA.out⟩,by simp [intOf];omega⟩
        · have hd:decide ((0:Int)<(k:Int))=true:=by simp;omega
          have hd':decide (0<k)=true:=by simp;omega
          obtain ⟨j,HJ⟩:∃ j,Hid (k=j+1):=⟨k - 1,show k=k - 1+1 by omega⟩
          have hj1:((k:Int) - 1)=(j:Int):=by have:=HJ.out;omega
          have hj2:j<l.length:=by have:=HJ.out;omega
          clear hk0;obtain ⟨_,_,e,d0,d1,d2⟩:=HC.out.below HB.out j hj2;cases e;have hfa:=zmc hlt hj2 HJ.out HF.out;cases hlb:ltB l[j].n l[k].n
          · have hle:(Op.bytesLess l[k].n.toList l[j].n.toList || l[k].n.toList == l[j].n.toList)=true:=by rw [leqB,hlb];rfl
            rw [hlb] at hfa;have HFA:Hid (zbj l k=3):=hfa;clear hfa hlb
            go_wp2_with (go_at_call 155;refine (zdm _ _ _ _ z1 z2).mono ?_;rintro e w' ⟨rfl,rfl⟩)
            go_quiet (fail)
            go_wp2;go_ret;exact ⟨by rw [zgW (by omega) hlt Hall.out (by rw [HFA.out];decide),HFA.out];rfl,below_drewN ((HB.out.alloc HB.out.size _).alloc (by simp;have:=HB.out.size;omega) _) _⟩
          · have hle:(Op.bytesLess l[k].n.toList l[j].n.toList || l[k].n.toList == l[j].n.toList)=false:=by rw [leqB,hlb];rfl
            rw [hlb] at hfa;have HFA:Hid (zbj l k=0):=hfa;clear hfa hlb
            go_wp2_with (go_at_call 155;refine (zdm _ _ _ _ z1 z2).mono ?_;rintro e w' ⟨rfl,rfl⟩)
            go_quiet (fail)
            go_wp2;exact ⟨⟨k+1,by omega,by go_num,below_drewN ((HB.out.alloc HB.out.size _).alloc (by simp;have:=HB.out.size;omega) _) _,zlh Hall.out HFA.out⟩,by simp [intOf];omega⟩
    · go_wp2
      go_ret;exact ⟨by rw [zjG (by omega) (fun i hi=>Hall.out i (by omega))];rfl,HB.out⟩
theorem zfv (a:Option Addr)(cap:Nat)(l:List Fi)(name:ByteArray)(w:World)(hg:Good l)(hc:zaF w a l) :
 Calls Tryz.prog 113 #[.slice a l.length cap,.string name] w fun e w'=>e=.returned (getV (getF l name))∧Below w.heap.size w w':=by
 have HC:Hid (zaF w a l):=hc;have h8:=hg.few;have HG:Hid (Good l):=hg;clear hc hg;cases hh:hasF l name
 · have hget:=zgm HG.out hh
   rw [hget];clear hget;have HH:Hid (hasF l name=false):=hh;clear hh
   go_enter Tryz.func113,Tryz.ntmps113
   go_wp2_with fail
   refine (zdX a cap l name _ (by omega) (by exact HC.out.alloc _) (HG.out.mono name)).mono ?_;rintro e w1 ⟨rfl,hb⟩;rw [HH.out];have hz:w.heap.size<w1.heap.size:=by have:=hb.size;simp at this;omega
   obtain ⟨hcc,hff⟩:=zgB hb;have hb':Below w.heap.size w w1:=((Below.refl _ _).alloc (Nat.le_refl _) _).trans (hb.mono (by simp));have HB:Hid (Below w.heap.size w w1):=hb';clear hb hb';go_wp2;refine bodyPost_ret (v:=.tuple #[.agg #[.string ⟨#[]⟩,.string ⟨#[]⟩,.int .i64 0],.bool false]) (by simp [results,Tryz.results113,go_sem,hcc,hz]) rfl ⟨rfl,?_⟩;exact ((HB.out.setCell (Nat.le_refl _) _).setCell (Nat.le_refl _) _).setCell (Nat.le_refl _) _
 · obtain ⟨hp,hnm⟩:=zce hh
   clear hnm;have hget:=zlm HG.out hh hp;rw [hget];clear hget;have HH:Hid (hasF l name=true):=hh;clear hh;obtain ⟨b,off,rfl,c0,c1,c2⟩:=HC.out _ hp;have hbl:b<w.heap.size:=World.block_lt_of_cell? _ _ c0
   go_enter Tryz.func113,Tryz.ntmps113
   go_wp2_with fail
   refine (zdX _ cap l name _ (by omega) (by exact HC.out.alloc _) (HG.out.mono name)).mono ?_;rintro e w1 ⟨rfl,hb⟩;rw [HH.out];have hz:w.heap.size<w1.heap.size:=by have:=hb.size;simp at this;omega
   obtain ⟨hcc,hff⟩:=zgB hb;have hb':Below w.heap.size w w1:=((Below.refl _ _).alloc (Nat.le_refl _) _).trans (hb.mono (by simp));have HB:Hid (Below w.heap.size w w1):=hb';clear hb hb';go_wp2;refine bodyPost_ret (v:=.tuple #[.agg #[.string l[posF l name].n,.string l[posF l name].t,.int .i64 l[posF l name].k],.bool true]) (by simp [results,Tryz.results113,go_sem,hcc,hz]) rfl ⟨rfl,?_⟩;exact ((HB.out.setCell (Nat.le_refl _) _).setCell (Nat.le_refl _) _).setCell (Nat.le_refl _) _
theorem stood:Tryz.prog.stoodInHeld 98=false:=by kernel_rfl
theorem zkx (a b c d:ByteArray)(k j:Int)(w:World):(Op.equalIn 10000 98 (.agg #[.string a,.string b,.int .i64 k]) (.agg #[.string c,.string d,.int .i64 j])).run Tryz.prog w=.ok ((a.toList == c.toList) && ((b.toList == d.toList) && (k == j))) w:=by
 have h:=run_equalIn_agg (P:=Tryz.prog) w 9999 98 #[.string a,.string b,.int .i64 k] #[.string c,.string d,.int .i64 j] (by kernel_rfl) stood;rw [h];simp [go_sem,Op.eqFields,Program.fieldsOf,Tryz.underlying98]
 by_cases h1:a.toList=c.toList <;> by_cases h2:b.toList=d.toList <;> by_cases h3:k=j <;> simp [h1,h2,h3]
def eqFi (f g:Fi):Bool:=(f.n.toList == g.n.toList) && ((f.t.toList == g.t.toList) && (f.k == g.k))
theorem zhl (f g:Fi):eqFi f g=true↔f=g:=by
 constructor
 · intro h
   simp only [eqFi,Bool.and_eq_true,beq_iff_eq] at h;exact Fi.ext' (toList_inj h.1) (toList_inj h.2.1) h.2.2
 · rintro rfl
   simp [eqFi]
theorem ziA (f g:Fi)(w:World):(binOp .neq 98 (.agg #[.string f.n,.string f.t,.int .i64 f.k]) (.agg #[.string g.n,.string g.t,.int .i64 g.k])).run Tryz.prog w=.ok (.bool (!eqFi f g)) w:=by
 rw [run_neq_struct,zkx];rfl
def zlv (l m:List Fi):Bool:=decide (l.length=m.length) && (List.range l.length).all (fun i=>match l[i]?,m[i]? with | some f,some g=>eqFi f g | _,_=>false)
theorem zd8 (l m:List Fi):zlv l m=true↔l=m:=by
 constructor
 · intro h
   simp only [zlv,Bool.and_eq_true,decide_eq_true_eq,List.all_eq_true,List.mem_range] at h
   apply List.ext_getElem h.1
   intro i h1 h2;have:=h.2 i h1;rw [List.getElem?_eq_getElem h1,List.getElem?_eq_getElem h2] at this
   exact (zhl _ _).1 this
 · rintro rfl
   simp only [zlv,decide_true,Bool.true_and,List.all_eq_true,List.mem_range];intro i h1;rw [List.getElem?_eq_getElem h1];exact (zhl _ _).2 rfl
theorem zr3 (h:¬ l.length=m.length):zlv l m=false:=by
 rw [Bool.eq_false_iff];intro e;exact h (by rw [(zd8 l m).1 e])
theorem zsK (h1:k<l.length)(h2:k<m.length)(h:eqFi l[k] m[k]=false):zlv l m=false:=by
 rw [Bool.eq_false_iff];intro e
 have:=(zd8 l m).1 e;subst this
 rw [(zhl _ _).2 rfl] at h;exact absurd h (by simp)
theorem zrO (hl:l.length=m.length)(h:∀ i (h1:i<l.length) (h2:i<m.length),eqFi l[i] m[i]=true):zlv l m=true:=by
 rw [zd8]
 apply List.ext_getElem hl
 intro i h1 h2;exact (zhl _ _).1 (h i h1 h2)
def zco (l:List Fi)(name:ByteArray):Int:=if hasF l name=true then 0 else 5
def zdJ (l:List Fi)(name:ByteArray):List Fi:=if hasF l name=true then zbG l name else []
theorem ztc (x:Addr)(n cap p:Nat)(h1:p+1≤n)(hne:¬ cap=p+1)(w:World) :
 (Instr.slice 30 (.slice (some x) n cap) (some (.int .i64 ((p:Int)+1))) none none).run Tryz.prog w=.ok (.slice (some (x.add ((p+1) * 3))) (n - (p+1)) (cap - (p+1))) w:=by
 have e:((p:Int)+1).toNat=p+1:=by omega
 have hs:(sizeOf 98).run Tryz.prog w=.ok 3 w:=by kernel_rfl
 rw [run_slice_l (P:=Tryz.prog) w 30 (some x) n cap Tryz.underlying30 .i64 ((p:Int)+1) (by omega) (by omega)];rw [show Tryz.prog.elem 30=98 by kernel_rfl,hs];simp [sliced,e,hne]
theorem ztu (x:Addr)(n p:Nat)(h1:p+1≤n)(h2:n≤p+1)(w:World) :
 (Instr.slice 30 (.slice (some x) n (p+1)) (some (.int .i64 ((p:Int)+1))) none none).run Tryz.prog w=.ok (.slice (some x) 0 0) w:=by
 have e:((p:Int)+1).toNat=p+1:=by omega
 have hs:(sizeOf 98).run Tryz.prog w=.ok 3 w:=by kernel_rfl
 rw [run_slice_l (P:=Tryz.prog) w 30 (some x) n (p+1) Tryz.underlying30 .i64 ((p:Int)+1) (by omega) (by omega)];rw [show Tryz.prog.elem 30=98 by kernel_rfl,hs];simp [sliced,e];omega
theorem zkT (r:Part)(hc:zaF w1 (some x) l)(hy:zaF w1 r.a r.l)(hr:r.a=none→r.cap=0)(hp:p≤l.length):
 zfF ((w1.alloc (.cells #[.slice (some x) p cap,.slice r.a r.l.length r.cap] 30)).drew) w1.heap.size
  [⟨some x,cap,l.take p⟩,r]:=by
 have hb1:Below w1.heap.size w1 ((w1.alloc (.cells #[.slice (some x) p cap,.slice r.a r.l.length r.cap] 30)).drew) :=
  ((Below.refl _ _).alloc (Nat.le_refl _) _).drew
 refine zuY ?_ ?_ ⟨(hc.take p).below hb1,(fun h=>by cases h),((hc.take p).below hb1).spot⟩ ⟨hy.below hb1,hr,(hy.below hb1).spot⟩
 · simp [go_sem,Part.v,Nat.min_eq_left hp]
 · simp [go_sem,Part.v]
theorem zsa (a:Option Addr)(cap:Nat)(l:List Fi)(name:ByteArray)(w:World)(hg:Good l)(hc:zaF w a l)(hh:hasF l name=false) :
 Calls Tryz.prog 116 #[.slice a l.length cap,.string name] w fun e w'=>e=.returned (.tuple #[.slice none 0 0,errV 5])∧Below w.heap.size w w':=by
 have HC:Hid (zaF w a l):=hc;have HG:Hid (Good l):=hg;have HH:Hid (hasF l name=false):=hh;have hl:=hg.few;clear hc hg hh
 go_enter Tryz.func116,Tryz.ntmps116
 go_wp2_with fail
 refine (zdX a cap l name _ (by omega) (by exact HC.out) (HG.out.mono name)).mono ?_;rintro e w1 ⟨rfl,hb⟩;rw [HH.out];have HB:Hid (Below w.heap.size w w1):=hb;clear hb;go_wp2;go_ret2;exact ⟨rfl,HB.out⟩
theorem zr2 (a:Option Addr) (cap:Nat) (l:List Fi) (name:ByteArray) (w:World) (hg:Good l) (hc:zaF w a l) (hcap:l.length≤cap) (hcm:cap≤maxLen) (hh:hasF l name=true) :
 Calls Tryz.prog 116 #[.slice a l.length cap,.string name] w fun e w'=>∃ v,e=.returned (.tuple #[v,.nilIface])∧Owns w' w.heap.size v (zbG l name)∧Below w.heap.size w w':=by
 unfold maxLen at hcm;have HC:Hid (zaF w a l):=hc;have HG:Hid (Good l):=hg;have HH:Hid (hasF l name=true):=hh;have hl:=hg.few;have hp:=zgR l name;have hpc:posF l name≤cap:=by omega
 have hpl:posF l name<l.length:=(zce hh).1;have hpl':posF l name+1≤l.length:=hpl;have hpc':posF l name+1≤cap:=by omega
 have hq1:(0:Int)≤(posF l name:Int)+1:=by omega
 have hq2:(posF l name:Int)+1≤(l.length:Int):=by omega
 have hwr:IntKind.i64.wrap ((posF l name:Int)+1)=(posF l name:Int)+1:=by rw [IntKind.wrap_i64];omega
 have hpc2:(posF l name:Int)≤(posF l name:Int)+1:=by omega
 have hq3:((posF l name:Int)+1).toNat=posF l name+1:=by omega
 clear hc hg hh
 go_enter Tryz.func116,Tryz.ntmps116
 go_wp2_with fail
 refine (zdX a cap l name _ (by omega) (by exact HC.out) (HG.out.mono name)).mono ?_;rintro e w1 ⟨rfl,hb⟩;rw [HH.out];have HB:Hid (Below w.heap.size w w1):=hb;clear hb;cases a with
 | none =>
   obtain ⟨_,_,e,_⟩:=HC.out 0 (by omega);cases e
 | some x =>
   have HC1:=HC.out.below HB.out
   by_cases hcp:cap=posF l name+1
   · have hd:l.drop (posF l name+1)=[]:=List.drop_eq_nil_of_le (by omega)
     have hparts:=zkT (cap:=cap) (p:=posF l name) ⟨some x,0,[]⟩ HC1 (zaF.nil _ _) (fun h=>by cases h) hp;subst hcp;simp only [List.length_nil] at hparts;have HPA:Hid (zfF _ _ _):=hparts;have HD:Hid (l.drop (posF l name+1)=[]):=hd;clear hparts HC1 hd;have hsl:=ztu x l.length (posF l name) hpl' hcap;go_wp2
     go_region_with (go_at_call 156;refine (zc7 _ 2 _ _ rfl (by simp) (by simp [lens];omega) HPA.out).mono ?_;rintro e w3 ⟨v,rfl,hown,hb3⟩)
     all_goals
      go_wp2;go_ret2;have hb0:Below w.heap.size w w3:=(((HB.out.alloc HB.out.size _).drew).trans (hb3.mono (by simp;have:=HB.out.size;omega)));refine ⟨v,rfl,?_,hb0⟩;have h2:=hown.base (B':=w.heap.size) (by simp;have:=HB.out.size;omega);unfold zbG
      simpa [zcX,HD.out] using h2
   · have hparts:=zkT (cap:=cap) (p:=posF l name) ⟨some (x.add ((posF l name+1) * 3)),cap - (posF l name+1),l.drop (posF l name+1)⟩ HC1 (HC1.drop (posF l name+1)) (fun h=>by cases h) hp
     simp only [List.length_drop] at hparts;have HPA:Hid (zfF _ _ _):=hparts;clear hparts HC1;have hsl:=ztc x l.length cap (posF l name) hpl' hcp;go_wp2
     go_region_with (go_at_call 156;refine (zc7 _ 2 _ _ rfl (by simp) (by simp [lens];omega) HPA.out).mono ?_;rintro e w3 ⟨v,rfl,hown,hb3⟩)
     all_goals
      go_wp2;go_ret2;have hb0:Below w.heap.size w w3:=(((HB.out.alloc HB.out.size _).drew).trans (hb3.mono (by simp;have:=HB.out.size;omega)));refine ⟨v,rfl,?_,hb0⟩;have h2:=hown.base (B':=w.heap.size) (by simp;have:=HB.out.size;omega);unfold zbG
      simpa [zcX] using h2
end Go.Proofs.YtihnghnafpgdfadGreatDoor
