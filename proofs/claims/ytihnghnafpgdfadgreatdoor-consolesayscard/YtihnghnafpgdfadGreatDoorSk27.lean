/- What the proofs stand on, part 27: ImageChanges, ImageChgPure, TrioLay, ImageAdd. -/
import Derived.Test.YtihnghnafpgdfadGreatDoorSk07
import Derived.Test.YtihnghnafpgdfadGreatDoorSk24
import Derived.Test.YtihnghnafpgdfadGreatDoorSk25
import Derived.Test.YtihnghnafpgdfadGreatDoorSk26
import Derived.Test.YtihnghnafpgdfadGreatDoorNums
set_option linter.unusedVariables false
set_option linter.unusedSimpArgs false
set_option maxRecDepth 100000
set_option maxHeartbeats 4000000
namespace Go.Proofs.YtihnghnafpgdfadGreatDoor
open Go.RowKit Go.BigFrame
variable {a b:List Ch}{B i k lo:Nat}{c:Ch}{l:List Fi}{t:Int}{W W' w w':World}{v:Value}{p:Dp}{d:Dk}
def zdQ (c:Ch):Ch:=⟨c.key,⟨#[]⟩,true⟩
def chg:List Ch→List Ch→List Ch
 | [],[]=>[]
 | x :: a,[]=>zdQ x :: chg a []
 | [],y :: b=>y :: chg [] b
 | x :: a,y :: b=>if ltB x.key y.key=true then zdQ x :: chg a (y :: b) else if ltB y.key x.key=true then y :: chg (x :: a) b else (if eqCh x y=true then [] else [y]) ++ chg a b
termination_by a b=>a.length+b.length
theorem zuk (hi:¬ i<a.length)(hk:¬ k<b.length):chg (a.drop i) (b.drop k)=[]:=by
 rw [List.drop_eq_nil_of_le (by omega),List.drop_eq_nil_of_le (by omega),chg]
theorem zs8 (hi:i<a.length)(h:¬ k<b.length):chg (a.drop i) (b.drop k)=zdQ a[i] :: chg (a.drop (i+1)) (b.drop k):=by
 have e:b.drop k=[]:=List.drop_eq_nil_of_le (by omega);rw [List.drop_eq_getElem_cons hi,e,chg]
theorem zuA (hi:i<a.length)(hk:k<b.length)(h:ltB a[i].key b[k].key=true):chg (a.drop i) (b.drop k)=zdQ a[i] :: chg (a.drop (i+1)) (b.drop k):=by
 conv=>lhs;rw [List.drop_eq_getElem_cons hi,List.drop_eq_getElem_cons hk,chg,if_pos h]
 rw [← List.drop_eq_getElem_cons hk]
theorem zul (hi:¬ i<a.length)(hk:k<b.length):chg (a.drop i) (b.drop k)=b[k] :: chg (a.drop i) (b.drop (k+1)):=by
 have e:a.drop i=[]:=List.drop_eq_nil_of_le (by omega);rw [List.drop_eq_getElem_cons hk,e,chg]
theorem zuI (hi:i<a.length)(hk:k<b.length)(h:ltB a[i].key b[k].key=false)(h2:ltB b[k].key a[i].key=true):chg (a.drop i) (b.drop k)=b[k] :: chg (a.drop i) (b.drop (k+1)):=by
 conv=>lhs;rw [List.drop_eq_getElem_cons hi,List.drop_eq_getElem_cons hk,chg,if_neg (by rw [h];decide),if_pos h2]
 rw [← List.drop_eq_getElem_cons hi]
theorem ztz (hi:i<a.length)(hk:k<b.length)(h:ltB a[i].key b[k].key=false)(h2:ltB b[k].key a[i].key=false):chg (a.drop i) (b.drop k)=(if eqCh a[i] b[k]=true then [] else [b[k]]) ++ chg (a.drop (i+1)) (b.drop (k+1)):=by
 rw [List.drop_eq_getElem_cons hi,List.drop_eq_getElem_cons hk,chg,if_neg (by rw [h];decide),if_neg (by rw [h2];decide)]
end Go.Proofs.YtihnghnafpgdfadGreatDoor
namespace Go.Proofs.YtihnghnafpgdfadGreatDoor
open Go Go.RowKit Go.BigFrame
variable {a b:List Ch}{B i k lo:Nat}{c:Ch}{l:List Fi}{t:Int}{W W' w w':World}{v:Value}{p:Dp}{d:Dk}
theorem zer:∀ {a b:List Ch} {c:Ch},c ∈ chg a b→(∃ x ∈ a,x.key=c.key∧c=zdQ x)∨c ∈ b
 | [],[],c,h=>by rw [chg] at h;cases h
 | x :: a,[],c,h=>by
   rw [chg] at h;rcases List.mem_cons.1 h with rfl | h
   · exact .inl ⟨x,List.mem_cons_self ..,rfl,rfl⟩
   · rcases zer h with ⟨y,h1,h2⟩ | h1
     · exact .inl ⟨y,List.mem_cons_of_mem _ h1,h2⟩
     · cases h1
 | [],y :: b,c,h=>by
   rw [chg] at h;rcases List.mem_cons.1 h with rfl | h
   · exact .inr (List.mem_cons_self ..)
   · rcases zer h with ⟨y,h1,h2⟩ | h1
     · cases h1
     · exact .inr (List.mem_cons_of_mem _ h1)
 | x :: a, y :: b,c,h=>by
   rw [chg] at h
   split at h
   · rcases List.mem_cons.1 h with rfl | h
     · exact .inl ⟨x,List.mem_cons_self ..,rfl,rfl⟩
     · rcases zer h with ⟨y,h1,h2⟩ | h1
       · exact .inl ⟨y,List.mem_cons_of_mem _ h1,h2⟩
       · exact .inr h1
   · split at h
     · rcases List.mem_cons.1 h with rfl | h
       · exact .inr (List.mem_cons_self ..)
       · rcases zer h with h1 | h1
         · exact .inl h1
         · exact .inr (List.mem_cons_of_mem _ h1)
     · rcases List.mem_append.1 h with h | h
       · split at h
         · cases h
         · rw [List.mem_singleton.1 h]
           exact .inr (List.mem_cons_self ..)
       · rcases zer h with ⟨y,h1,h2⟩ | h1
         · exact .inl ⟨y,List.mem_cons_of_mem _ h1,h2⟩
         · exact .inr (List.mem_cons_of_mem _ h1)
termination_by a b=>a.length+b.length
theorem zsp {l:List Ch}{k:ByteArray}(h:lastK l k=some c):c ∈ l∧c.key=k:=by
 unfold lastK at h;have:=List.mem_of_getLast? h;obtain ⟨h1,h2⟩:=List.mem_filter.1 this
 exact ⟨h1,zav.1 h2⟩
theorem zdK (x:Ch)(l:List Ch)(k:ByteArray):lastK (x :: l) k=(lastK l k).or (if zbk k x=true then some x else none):=by
 have:=zdn [x] l k;rw [List.singleton_append] at this
 rw [this]
 congr 1
 unfold lastK;rw [List.filter_cons]
 split <;> rfl
theorem zd6 (x:Ch)(l:List Ch)(k:ByteArray):look (x :: l) k=if zbk k x=true then some x else look l k:=by
 unfold look;rw [List.find?_cons];cases zbk k x <;> rfl
theorem zhi {k:ByteArray}(ha:∀ x ∈ a,ltB k x.key=true)(hb:∀ y ∈ b,ltB k y.key=true):lastK (chg a b) k=none:=by
 cases h:lastK (chg a b) k with
 | none=>rfl
 | some c =>
   exfalso
   obtain ⟨h1,h2⟩:=zsp h;rcases zer h1 with ⟨x,hx,e,_⟩ | hy
   · have:=ha x hx
     rw [e,h2,zaB] at this
     cases this
   · have:=hb c hy
     rw [h2,zaB] at this
     cases this
theorem zq9 {k:ByteArray}(ha:∀ x ∈ a,ltB k x.key=true):look a k=none:=by
 unfold look;rw [List.find?_eq_none];intro x hx e;rw [zav] at e;have:=ha x hx;rw [e,zaB] at this
 cases this
theorem zgi:∀ {a b:List Ch},zaY a→zaY b→∀ k,zfG ((lastK (chg a b) k).or (look a k))=look b k
 | [],[],_,_,k=>by rw [chg];rfl
 | x :: a,[],ha,hb,k=>by
   have ih:=zgi ha.tail hb k;rw [chg,zdK,zd6]
   by_cases e:x.key=k
   · have h1:zbk k (zdQ x)=true:=zav.2 e
     have h2:lastK (chg a []) k=none:=zhi (fun z hz=>by rw [← e];exact ha.head z hz) (fun z hz=>by cases hz);rw [h2,h1]
     rfl
   · have h1:¬ zbk k (zdQ x)=true:=fun h=>e (zav.1 h)
     have h2:¬ zbk k x=true:=fun h=>e (zav.1 h)
     rw [if_neg h1,if_neg h2,Option.or_none];exact ih
 | [],y :: b,ha,hb,k=>by
   have ih:=zgi ha hb.tail k;rw [chg,zdK,zd6]
   by_cases e:y.key=k
   · have h1:zbk k y=true:=zav.2 e
     have h2:lastK (chg [] b) k=none:=zhi (fun z hz=>by cases hz) (fun z hz=>by rw [← e];exact hb.head z hz);rw [h2,if_pos h1,if_pos h1];have hg:y.gone=false:=hb.here y (List.mem_cons_self ..);simp [zfG,hg,Option.filter]
   · have h1:¬ zbk k y=true:=fun h=>e (zav.1 h)
     rw [if_neg h1,if_neg h1,Option.or_none];exact ih
 | x :: a, y :: b,ha,hb,k=>by
   rw [chg]
   by_cases hl:ltB x.key y.key=true
   · rw [if_pos hl]
     have ih:=zgi ha.tail hb k;rw [zdK,zd6 x]
     by_cases e:x.key=k
     · have h1:zbk k (zdQ x)=true:=zav.2 e
       have hy:∀ z ∈ y :: b,ltB k z.key=true:=fun z hz=>by
        rw [← e];rcases List.mem_cons.1 hz with rfl | hz
        · exact hl
        · exact zcZ hl (hb.head z hz)
       have h2:lastK (chg a (y :: b)) k=none:=zhi (fun z hz=>by rw [← e];exact ha.head z hz) hy;rw [h2,h1,zq9 hy]
       rfl
     · have h1:¬ zbk k (zdQ x)=true:=fun h=>e (zav.1 h)
       have h2:¬ zbk k x=true:=fun h=>e (zav.1 h)
       rw [if_neg h1,if_neg h2,Option.or_none];exact ih
   · rw [if_neg hl]
     by_cases hg:ltB y.key x.key=true
     · rw [if_pos hg]
       have ih:=zgi ha hb.tail k;rw [zdK,zd6 y]
       by_cases e:y.key=k
       · have h1:zbk k y=true:=zav.2 e
         have hx:∀ z ∈ x :: a,ltB k z.key=true:=fun z hz=>by
          rw [← e];rcases List.mem_cons.1 hz with rfl | hz
          · exact hg
          · exact zcZ hg (ha.head z hz)
         have h2:lastK (chg (x :: a) b) k=none:=zhi hx (fun z hz=>by rw [← e];exact hb.head z hz);rw [h2,if_pos h1,if_pos h1];have hgn:y.gone=false:=hb.here y (List.mem_cons_self ..);simp [zfG,hgn,Option.filter]
       · have h1:¬ zbk k y=true:=fun h=>e (zav.1 h)
         rw [if_neg h1,if_neg h1,Option.or_none];exact ih
     · rw [if_neg hg]
       have hxy:x.key=y.key:=zdu (by simpa using hl) (by simpa using hg);have ih:=zgi ha.tail hb.tail k;rw [zdn,zd6 x,zd6 y]
       by_cases e:y.key=k
       · have h1:zbk k y=true:=zav.2 e
         have h2:zbk k x=true:=zav.2 (hxy.trans e);have h3:lastK (chg a b) k=none:=zhi (fun z hz=>by rw [← e,← hxy];exact ha.head z hz) (fun z hz=>by rw [← e];exact hb.head z hz);have hgn:y.gone=false:=hb.here y (List.mem_cons_self ..);rw [h3,if_pos h1,if_pos h2]
         by_cases he:eqCh x y=true
         · rw [if_pos he]
           have hx:x=y:=(zgn _ _).1 he;simp [lastK,zfG,hgn,Option.filter,hx]
         · rw [if_neg he,zdK,if_pos h1]
           simp [lastK,zfG,hgn,Option.filter]
       · have h1:¬ zbk k y=true:=fun h=>e (zav.1 h)
         have h2:¬ zbk k x=true:=fun h=>e ((hxy.symm.trans (zav.1 h)))
         have h3:lastK (if eqCh x y=true then [] else [y]) k=none:=by
          split
          · rfl
          · rw [zdK,if_neg h1]
            rfl
         rw [h3,if_neg h1,if_neg h2,Option.or_none];exact ih
termination_by a b=>a.length+b.length
theorem zgP (ha:zaY a)(hb:zaY b):zah a (chg a b)=b :=
 (zbI ha).ext hb (fun k=>by rw [zdp k ha];exact zgi ha hb k)
theorem zau.rowed (h:zau l t):zaY (zaw l t):=by
 refine ⟨h.files.rows_rise t,fun c hc=>?_⟩;obtain ⟨i,hi,rfl⟩:=List.getElem_of_mem hc;exact (Img.ok (⟨h,rfl⟩:Img (zaw l t) l t) i hi).here
theorem zls (hb:zaY b):zah [] b=b:=by
 refine (zbI zaY.nil).ext hb (fun k=>?_);rw [zdp k zaY.nil,hb.lastK];show zfG ((look b k).or none)=_;rw [Option.or_none,hb.alive_look]
theorem zeR (h:zau l t):∀ c ∈ zaw l t,zae c=0:=by
 intro c hc;obtain ⟨i,hi,rfl⟩:=List.getElem_of_mem hc;have him:Img (zaw l t) l t:=⟨h,rfl⟩;have ho:=him.ok i hi
 have hsz:(zaw l t)[i].key.size≤7∧(zaw l t)[i].val.size≤16:=by
  by_cases hl:i<l.length
  · rw [him.f i hi hl]
    obtain ⟨k,hk,hk2⟩:=h.four _ (List.getElem_mem hl);obtain ⟨hn,ht,_,_⟩:=zdN (h.files.each _ (List.getElem_mem hl));have hn6:=zjz hn;refine ⟨?_,?_⟩
    · show (kf ++ l[i].n).size≤7
      rw [ByteArray.size_append];have:kf.size=1:=rfl;omega
    · rw [zda,zhA hk hk2,List.length_append,zcC,← zda]
      omega
  · rw [him.t i hi hl]
    obtain ⟨k,hk,_,hk2⟩:=h.turn;refine ⟨by show zjr.size≤7;decide,?_⟩;rw [zda,zhF hk (show k<10000 by omega),zcC]
    decide
 unfold zae;rw [if_neg (by rintro (e | ⟨e,_⟩);exact ho.key e;rw [ho.here] at e;cases e),if_neg (by omega)]
theorem QBox.keep (h:QBox W B v t)(hk:W'.heap[B]?=W.heap[B]?)(hs:W.heap.size≤W'.heap.size):QBox W' B v t :=
 ⟨by rw [World.cell?_of_block (a:=⟨B,0,none⟩) hk];exact h.c0,by rw [World.cell?_of_block (a:=⟨B,1,none⟩) hk];exact h.c1,by rw [World.frozen?_of_block (a:=⟨B,0,none⟩) hk];exact h.f0,by rw [World.frozen?_of_block (a:=⟨B,1,none⟩) hk];exact h.f1,Nat.lt_of_lt_of_le h.lt hs,fun o ho=>by rw [World.cell?_of_block (a:=⟨B,o,none⟩) hk];exact h.only o ho⟩
def zbF (lo:Nat)(w:World):Prop:=∃ w0,Vars w0∧w0.heap.size≤lo∧Below w0.heap.size w0 w
theorem zbF.vars (h:zbF lo w):Vars w:=by
 obtain ⟨w0,h1,h2,h3⟩:=h;exact h1.below h3
theorem zbF.go (h:zbF lo w)(hb:Below lo w w'):zbF lo w':=by
 obtain ⟨w0,h1,h2,h3⟩:=h;exact ⟨w0,h1,h2,h3.trans (hb.mono h2)⟩
theorem zd7 (h:zab w p d):∀ k,dOwn p k→p.lo≤k:=fun k hk=>by
 rcases hk with rfl | rfl | rfl | hk
 · exact h.lo1
 · exact h.lo2
 · exact h.lo3
 · exact (h.wr.lt k hk).1
structure Laid (w w':World)(N:Nat)(p:Dp)(b:Nat)(s:St)(g:Lg)(u:Value)(d:Dk)(R:List Ch):Prop where
 disk:zab w' { p with wv:=u } d
 new:zbw p w u
 touch:zat (dOwn p) w w'
 own:zag w' p.lo b s g
 dB:s.dB=p.B
 gf:g=⟨p.B,26,N - 26,zaf d s.side,g.used⟩
 kept:Kept N d s.side g.used s.rows
 clean:zdt d
 rows:s.rows=R
theorem zrR (N:Nat) (p:Dp) (d:Dk) (a:Option Addr) (cap:Nat) (l:List Fi) (t:Int) (w:World) (hd:zab w p d) (hf:Free d N 0) (hN:42≤N) (hN2:N≤60) (hg:zau l t) (hc:zad w a cap l) (hv:zbF p.lo w) (hlo:p.lo≤w.heap.size) :
 Calls Tryz.prog 60 #[.pointer (some ⟨p.B,0,none⟩),.agg #[.slice a l.length cap,.int .i64 t]] w fun e w'=>∃ b s g u d',e=.returned (.tuple #[.pointer (some ⟨b,0,none⟩),.nilIface])∧Laid w w' N p b s g u d' (zaw l t):=by
 have HC:Hid (zad w a cap l):=hc;have HG:Hid (zau l t):=hg;have HV:Hid (zbF p.lo w):=hv;have hl8:l.length≤8:=hg.files.few;obtain ⟨f1,f2⟩:=ziE hf hN hN2;have HK1:Hid (Kept N (zcw d).1 1 0 []):=f2;have HD:Hid (zab w p d):=hd;obtain ⟨W0,hW⟩:∃ x,x=w.alloc (.cells #[.slice a l.length cap,.int .i64 t] 32):=⟨_,rfl⟩
 have HB0:Hid (Below w.heap.size w W0):=by rw [hW];exact (Below.refl _ _).alloc (Nat.le_refl _) _
 have HQ0:Hid (QBox W0 w.heap.size (.slice a l.length cap) t):=by rw [hW];exact QBox.new w _ t _
 have kfm:=zjb p d W0 (hd.below HB0.out) (by have:=hf.wr;omega);rw [f1,zac rfl] at kfm;have KF:Hid _:=kfm;clear hc hg hv hd kfm f1 f2
 go_enter Tryz.func60,Tryz.ntmps60
 go_wp2_with fail
 rw [← hW];clear hW;refine Calls.mono KF.out ?_;rintro e w1 ⟨rfl,u1,hd1,ht1,hn1⟩;have HD0:Hid (zab W0 p d):=HD.out.below HB0.out;have HD1:Hid (zab w1 { p with wv:=u1 } (zcw d).1):=hd1;have HT1:Hid (zat (dOwn p) W0 w1):=ht1;have HN1:Hid (zbw p W0 u1):=hn1;have HQ1:Hid (QBox w1 w.heap.size (.slice a l.length cap) t):=HQ0.out.keep (ht1.block _ HQ0.out.lt (fun ho=>by have:=HD.out.lts ho;omega)) ht1.size;have HC1:Hid (zad w1 a cap l):=(HC.out.below HB0.out).keep (fun k C fr e=>ht1.other HD0.out e ⟨by decide,by decide,by decide⟩);have HV1:Hid (zbF p.lo w1):=(HV.out.go (HB0.out.mono hlo)).go (ht1.below (zd7 HD0.out) (Nat.le_trans hlo HB0.out.size));have KO:Hid _:=zr7 { p with wv:=u1 } (zcw d).1 N 1 0 [] w1 hd1 HK1.out hN;clear hd1 ht1 hn1 KF HQ0;generalize (zcw d).1=d1 at *
 go_wp2_with fail
 refine Calls.mono KO.out ?_;rintro e w2 ⟨b,ra,rc,lb,rfl,hb2,hso⟩;have HB2:Hid (Below w1.heap.size w1 w2):=hb2;have HSO:Hid (zag w2 w1.heap.size b ⟨p.B,1,ra,rc,[],lb⟩ ⟨p.B,26,N - 26,zaf d1 1,0⟩):=hso;have HQ2:Hid (QBox w2 w.heap.size (.slice a l.length cap) t):=HQ1.out.below hb2 HQ1.out.lt;have KR:Hid _:=zdA a cap l t w2 HG.out (HC1.out.below hb2).cells (HV1.out.vars.below hb2);obtain ⟨q0,q1,_,_,ql,_⟩:=HQ2.out;clear hb2 hso KO
 go_wp2_with fail
 refine Calls.mono KR.out ?_;rintro e w3 ⟨pr,cr,rfl,hcc,hle,⟨_,hty⟩,hb3⟩;have HB3:Hid (Below w1.heap.size w1 w3):=HB2.out.trans (hb3.mono HB2.out.size);have hR:=zbY l t;have hrow:=HG.out.rowed;have hflt:=zeR HG.out;have hap:=zls hrow;have HS3:Hid (zag w3 p.lo b ⟨p.B,1,ra,rc,[],lb⟩ ⟨p.B,26,N - 26,zaf d1 1,0⟩):=(HSO.out.below hb3).lower (Nat.le_trans hlo (Nat.le_trans HB0.out.size HT1.out.size));have HD3:Hid (zab w3 { p with wv:=u1 } d1):=HD1.out.below HB3.out;have hfst:=zpi (d:=d1) (side:=1) HK1.out.free.len (Nat.le_refl _) hN hN2
 have hcF:zhV ⟨none,0,[],0,N - 26⟩ (zaw l t)=0:=by
  unfold zhV;rw [if_neg (by omega),if_neg (by simp [zdT hflt]),if_neg (by rw [show (⟨none,0,[],0,N - 26⟩:Ms).rows=[] from rfl,hap];show ¬ (12<_∨N - 26<_);omega)]
 have hkc:=zol (d:=d1) (s:=⟨p.B,1,ra,rc,[],lb⟩) (g:=⟨p.B,26,N - 26,zaf d1 1,0⟩) (c:=zaw l t) (m:=⟨none,0,[],0,N - 26⟩) HK1.out hN hN2 rfl rfl rfl rfl;obtain ⟨hce,sd,us,hkept,hsd,hgg,hor⟩:=hkc;rw [hcF] at hce hor;have hdid:=zj2 (N:=N) (d:=d1) (s:=⟨p.B,1,ra,rc,[],lb⟩) (g:=⟨p.B,26,N - 26,zaf d1 1,0⟩) HK1.out.free.len rfl (Nat.zero_le _) (Nat.le_refl _) hce
 have hrows:(zai d1 ⟨p.B,1,ra,rc,[],lb⟩ ⟨p.B,26,N - 26,zaf d1 1,0⟩ (zaw l t)).rows=zaw l t:=by
  rcases hor with ⟨h0,_⟩ | ⟨_,_,h2⟩
  · exact absurd rfl h0
  · rw [h2];exact hap
 have kcm:=zfQ p.lo b { p with wv:=u1 } d1 ⟨p.B,1,ra,rc,[],lb⟩ ⟨p.B,26,N - 26,zaf d1 1,0⟩ pr cr (zaw l t) w3 HS3.out HD3.out (Nat.le_refl _) rfl rfl ⟨by show 26+(N - 26)≤_;omega,hfst.2,Nat.zero_le _⟩ rfl hfst.1 (by show N - 26=_;rw [HK1.out.free.len]) (by rw [HK1.out.free.len];exact hN) (Nat.le_refl _) (Nat.zero_le _) zaY.nil (by intro c hc;cases hc) (by have:=HK1.out.free.wr;omega) ⟨hcc,fun x hx _=>.inr (hty x hx)⟩ (fun e=>by subst e;obtain ⟨b9,o9,e9,_⟩:=hcc 0 (by omega);cases e9) (by omega);have hlow:w.heap.size≤w1.heap.size:=Nat.le_trans HB0.out.size HT1.out.size
 have HEND:Hid (∀ e w4,zgk w3 p.lo b { p with wv:=u1 } d1 ⟨p.B,1,ra,rc,[],lb⟩ ⟨p.B,26,N - 26,zaf d1 1,0⟩ (zaw l t) e w4→e=.returned .nilIface∧∃ s g u d',Laid w w4 N p b s g u d' (zaw l t)):=fun e w4 hcs=>by
  obtain ⟨he,u2,lb2,ra2,rc2,hd4,hn4,ht4,ho4⟩:=hcs;rw [hce,zac rfl] at he;refine ⟨he,_,_,u2,_,⟨hd4,?_,⟨?_,?_,?_,?_,?_⟩,ho4,rfl,?_,?_,hdid.clean,hrows⟩⟩
  · intro k hk
    rcases hn4 k hk with h1 | h1
    · rcases HN1.out k h1 with h2 | h2
      · exact .inl h2
      · exact .inr (Nat.le_trans HB0.out.size h2)
    · exact .inr (Nat.le_trans hlow (Nat.le_trans HB3.out.size h1))
  · exact ht4.os.trans (HB3.out.os.trans (HT1.out.os.trans HB0.out.os))
  · exact ht4.tape.trans (HB3.out.tape.trans (HT1.out.tape.trans HB0.out.tape))
  · exact ht4.output.trans (HB3.out.output.trans (HT1.out.output.trans HB0.out.output))
  · exact Nat.le_trans hlow (Nat.le_trans HB3.out.size ht4.size)
  · intro k hk hno
    have hk0:k<W0.heap.size:=Nat.lt_of_lt_of_le hk HB0.out.size;have hk1:k<w1.heap.size:=Nat.lt_of_lt_of_le hk hlow
    rw [ht4.block k (Nat.lt_of_lt_of_le hk1 HB3.out.size) (fun hs=>by
     rcases hs with ((e | e | e | e) | e) | e
     · exact hno (.inl e)
     · exact hno (.inr (.inl e))
     · exact hno (.inr (.inr (.inl e)))
     · rcases HN1.out k e with e2 | e2
       · exact hno (.inr (.inr (.inr e2)))
       · omega
     · have:=HSO.out.low.1;omega
     · have:w1.heap.size≤lb:=HSO.out.low.2
       have e3:k=lb:=e;omega),HB3.out.block k hk1,HT1.out.block k hk0 hno,HB0.out.block k hk]
  · rw [hgg,hsd]
  · rw [hsd,hgg]
    exact hkept
 have KC:Hid (Calls Tryz.prog 76 #[.pointer (some ⟨b,0,none⟩),.slice pr (zaw l t).length cr] w3 fun e w'=>e=.returned .nilIface∧∃ s g u d',Laid w w' N p b s g u d' (zaw l t)):=kcm.mono HEND.out;clear kcm hdid hkept hor hce hgg hsd hcF hrow hflt hap HEND hty hcc hR hle hfst hrows hb3
 go_wp2_with fail
 refine Calls.mono KC.out ?_;rintro e w4 ⟨rfl,s4,g4,u4,d4,hlaid⟩;have HL:Hid _:=hlaid;clear hlaid KC;go_wp2;go_ret2;exact ⟨b,s4,g4,u4,d4,rfl,HL.out⟩
def zik (c:Ch)(n:Int):Fi:=⟨⟨(Lib.trimPrefix c.key.data.toList [102]).toArray⟩,c.val.extract 4 c.val.size,n⟩
def addP (c:Ch)(fs:List Fi)(t:Int):Option (List Fi × Int) :=
 if c.val.size<4 then none else match Lib.atoi (c.val.data.toList.take 4) with
 | none=>none
 | some n=>if c.key.toList=[116,117,114,110] then some (fs,n) else if Lib.hasPrefix c.key.data.toList [102]=true then some (fs ++ [zik c n],t) else none
def zuL (w:World)(B:Nat)(c:Ch)(fs:List Fi)(t:Int)(e:Ending)(w':World):Prop :=
 (∃ fs' t',addP c fs t=some (fs',t')∧e=.returned (.bool true)∧QM w' B fs' t'∧Below B w w')∨(addP c fs t=none∧e=.returned (.bool false)∧Below B w w')
theorem zu4 (s:ByteArray)(h:4≤s.size):(s.extract 0 4).data.toList=s.data.toList.take 4:=by
 rw [zlf];simp
theorem zuo (B:Nat) (c:Ch) (fs:List Fi) (t:Int) (w:World) (hk:c.key.size≤100) (hv:c.val.size≤100) (hf:fs.length≤100) (hm:QM w B fs t) (hvar:Vars w) :
 Calls Tryz.prog 93 #[.pointer (some ⟨B,0,none⟩),c.v] w (zuL w B c fs t):=by
 obtain ⟨i0,hi,hz0,hz1,hz2⟩:=info_parts Tryz.infoFile;have HM:Hid (QM w B fs t):=hm;have HV:Hid (Vars w):=hvar;have hBl:B<w.heap.size:=by obtain ⟨_,_,h,_⟩:=hm;exact h.lt
 clear hm hvar
 by_cases h4:c.val.size<4
 · have HN:Hid (addP c fs t=none):=if_pos h4
   have hd:((c.val.size:Int)<4):=by omega
   go_enter Tryz.func93,Tryz.ntmps93
   go_wp2_with fail
   go_ret;exact .inr ⟨HN.out,rfl,(Below.refl _ _).alloc (Nat.le_of_lt hBl) _⟩
 have hd:¬ ((c.val.size:Int)<4):=by omega
 have hd4:(4:Int)≤(c.val.size:Int):=by omega
 obtain ⟨W1,hW⟩:∃ x,x=w.alloc (.cells #[.string c.key,.string c.val,.bool c.gone] 143):=⟨_,rfl⟩
 have HB1:Hid (Below w.heap.size w W1):=by rw [hW];exact (Below.refl _ _).alloc (Nat.le_refl _) _
 have HE1:Hid (W1.cell? ⟨w.heap.size,0,none⟩=some (.string c.key)∧W1.cell? ⟨w.heap.size,1,none⟩=some (.string c.val)∧w.heap.size<W1.heap.size):=by rw [hW];exact ⟨by simp,by simp,by simp⟩
 have HV1:Hid (Vars W1):=HV.out.below HB1.out;have hsz:(c.val.extract 0 4).size≤18:=by simp [ByteArray.size_extract];omega
 have ht4:=zu4 c.val (by omega);cases ha:Lib.atoi (c.val.data.toList.take 4) with
 | none =>
   have HN:Hid (addP c fs t=none):=by
    show _=_;unfold addP;rw [if_neg h4,ha]
   obtain ⟨tp,p,hvar⟩:=HV1.out.2;have KA:Hid _:=Tryz.strconv_Atoi_err_var (c.val.extract 0 4) hsz (by rw [ht4];exact ha) tp p W1 hvar;clear ht4 ha h4 hvar
   go_enter Tryz.func93,Tryz.ntmps93
   go_wp2_with fail
   rw [← hW];clear hW;refine Calls.mono KA.out ?_;rintro e w2 ⟨N,rfl,_,_,hb⟩;have HB2:Hid (Below w.heap.size w w2):=HB1.out.trans (hb.mono HB1.out.size);clear hb;go_wp2;go_ret;exact .inr ⟨HN.out,rfl,HB2.out.mono (Nat.le_of_lt hBl)⟩
 | some n =>
   have KA:Hid _:=Tryz.strconv_Atoi (c.val.extract 0 4) n hsz (by rw [ht4];exact ha) W1
   have HA:Hid (∀ x,addP c fs t=x↔(if c.key.toList=[116,117,114,110] then some (fs,n) else if Lib.hasPrefix c.key.data.toList [102]=true then some (fs ++ [zik c n],t) else none)=x):=fun x=>by
    unfold addP;rw [if_neg h4,ha]
   clear ht4 ha h4
   go_enter Tryz.func93,Tryz.ntmps93
   go_wp2_with fail
   rw [← hW];clear hW;refine Calls.mono KA.out ?_;rintro e w2 ⟨rfl,tb,hw2⟩;have HB2:Hid (Below w.heap.size w w2):=by rw [hw2];exact HB1.out.trans ((Lib.bytesWorld_below _ _ _).mono HB1.out.size)
   have HE2:Hid (w2.cell? ⟨w.heap.size,0,none⟩=some (.string c.key)∧w2.cell? ⟨w.heap.size,1,none⟩=some (.string c.val)∧w.heap.size<w2.heap.size):=by
    have hb:Below W1.heap.size W1 w2:=by rw [hw2];exact Lib.bytesWorld_below _ _ _
    obtain ⟨e0,e1,el⟩:=HE1.out;exact ⟨by rw [hb.cell el];exact e0,by rw [hb.cell el];exact e1,Nat.lt_of_lt_of_le el hb.size⟩
   clear hw2 KA;obtain ⟨e0,e1,el⟩:=HE2.out;obtain ⟨va,vc,hqb,how⟩:=HM.out.far HB2.out;have HQB:Hid (QBox w2 B (.slice va fs.length vc) t):=hqb;have HOW0:Hid (Owns w2 (B+1) (.slice va fs.length vc) fs):=how;have HB2':Hid (Below B w w2):=HB2.out.mono (Nat.le_of_lt hBl);obtain ⟨x0,x1,xf0,xf1,xl,_⟩:=hqb;clear how
   by_cases hkt:c.key.toList=[116,117,114,110]
   · have HN:Hid (addP c fs t=some (fs,n)):=(HA.out _).2 (by rw [if_pos hkt])
     go_wp2_with fail
     go_ret;exact .inl ⟨fs,n,HN.out,rfl,⟨va,vc,HQB.out.turn,ownsRow_setCell_below HOW0.out (Nat.lt_succ_self _) _⟩,HB2'.out.setCell (p:=⟨B,1,none⟩) (Nat.le_refl _) _⟩
   · have hkb:(c.key.toList == [116,117,114,110])=false:=beq_eq_false_iff_ne.2 hkt
     have KP:Hid (∀ W,Calls Tryz.prog 132 #[.string c.key,.string ⟨#[102]⟩] W fun e w'=>e=.returned (.tuple #[.string ⟨(Lib.trimPrefix c.key.data.toList [102]).toArray⟩,.bool (Lib.hasPrefix c.key.data.toList [102])])∧w'=W):=fun W=>Tryz.strings_CutPrefix c.key ⟨#[102]⟩ W
     have hsz2:(⟨(Lib.trimPrefix c.key.data.toList [102]).toArray⟩:ByteArray).size≤100:=by
      have h1:=Lib.trimPrefix_le c.key.data.toList [102];have h3:c.key.data.toList.length=c.key.size:=(zda _).symm;rw [zda];simp only [List.toList_toArray];omega
     have HFO:Hid (zik c n=⟨⟨(Lib.trimPrefix c.key.data.toList [102]).toArray⟩,c.val.extract 4 c.val.size,n⟩):=rfl;have HN:Hid (∀ b,Lib.hasPrefix c.key.data.toList [102]=b→addP c fs t=if b=true then some (fs ++ [zik c n],t) else none):=fun b hb=>(HA.out _).2 (by rw [if_neg hkt,hb])
     have hBw:B≤w.heap.size:=Nat.le_of_lt hBl;have HB2s:Hid (w.heap.size≤w2.heap.size):=HB2.out.size;clear HA;generalize (⟨(Lib.trimPrefix c.key.data.toList [102]).toArray⟩:ByteArray)=Y at *;generalize hP:Lib.hasPrefix c.key.data.toList [102]=P at *;have HNP:Hid (addP c fs t=if P=true then some (fs ++ [zik c n],t) else none):=HN.out P rfl;clear hP HN
     go_wp2_with fail
     refine Calls.mono (KP.out _) ?_;rintro e w3 ⟨rfl,hw3⟩;rw [hw3];clear hw3 w3 KP;have HOW:Hid (∀ W,Below w2.heap.size w2 W→Owns W (B+1) (.slice va fs.length vc) fs):=fun W h=>zll HOW0.out h
     have HEND:Hid (∀ W W9 v9,Below w2.heap.size w2 W→W.grownBy W9 (Value.slice va fs.length vc).ownBlock→W9.ownsRow (B+1) 98 3 v9 (fs.length+1) (flat fs ++ [.string Y,.string (c.val.extract 4 c.val.size),.int .i64 n]) →
      QBox W9 B (.slice va fs.length vc) t∧QM (W9.setCell ⟨B,0,none⟩ v9) B (fs ++ [zik c n]) t∧Below B w (W9.setCell ⟨B,0,none⟩ v9)):=fun W W9 v9 hb hg ho=>by
      have hlt9:∀ k,(Value.slice va fs.length vc).ownBlock=some k→B+1≤k:=fun k hk=>(HOW0.out.lt k hk).1
      have q9:=(HQB.out.below hb HQB.out.lt).grown hg hlt9;have b9:=(HB2'.out.trans (hb.mono (Nat.le_of_lt HQB.out.lt))).grown hg (Nat.le_trans (Nat.le_of_lt HQB.out.lt) hb.size) (fun k hk=>by have:=hlt9 k hk;omega);have o9:Owns W9 (B+1) v9 (fs ++ [zik c n]):=by rw [HFO.out];exact Owns.snoc (f:=⟨Y,c.val.extract 4 c.val.size,n⟩) ho
      obtain ⟨xa,xc,hx⟩:=zf9 o9;refine ⟨q9,⟨xa,xc,by rw [← hx];exact q9.files,by rw [← hx];exact ownsRow_setCell_below o9 (Nat.lt_succ_self _) _⟩,b9.setCell (p:=⟨B,0,none⟩) (Nat.le_refl _) _⟩
     have hlo5:B+1≤w2.heap.size:=xl;have hbX:Hid (∀ o,Below w2.heap.size w2 (w2.drew.alloc o)):=fun o=>((Below.refl _ _).drew).alloc (Nat.le_refl _) o
     have hloa:Hid (∀ o,B+1≤(w2.drew.alloc o).heap.size):=fun o=>Nat.le_trans hlo5 (hbX.out o).size
     have h63:fs.length+1≤maxLen:=by unfold maxLen;omega
     have hby:(fs.length+1) * 40≤140737488355328:=by omega
     clear HOW0
     go_wp2_with fail
     go_region_law
      (first
        | (rw [if_pos (by rfl)]
           refine zcr _ _ 30 rfl (B+1) 98 i0 _ 3 40 Tryz.underlying30 hi hz0 hz1 hz2 rfl (by decide) (.slice va fs.length vc) fs.length (flat fs) rfl (HOW.out _ (hbX.out _)) ⟨w2.heap.size,0,none⟩ 1 1 [.string Y,.string (c.val.extract 4 c.val.size),.int .i64 n] rfl rfl (zaq _ _ _ _ _) (zbK ⟨Y,c.val.extract 4 c.val.size,n⟩) h63 hby (hloa.out _) ?_;intro v9 W9 hown9 hgrow9 hnew9;obtain ⟨xa,xc,rfl⟩:=zf9 hown9;obtain ⟨hy,hA⟩:=HEND.out _ _ _ (hbX.out _) hgrow9 hown9;have HAA:Hid _:=hA;obtain ⟨y0,y1,yf0,yf1,yl,_⟩:=hy;clear hown9 hgrow9 hnew9 hA))
     all_goals
      cases P
      · go_wp2
        go_ret;exact .inr ⟨HNP.out,rfl,HAA.out.2⟩
      · go_wp2
        go_ret;exact .inl ⟨_,_,HNP.out,rfl,HAA.out.1,HAA.out.2⟩
end Go.Proofs.YtihnghnafpgdfadGreatDoor
