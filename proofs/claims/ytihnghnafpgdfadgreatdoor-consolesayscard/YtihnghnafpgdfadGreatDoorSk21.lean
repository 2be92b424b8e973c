/- What the proofs stand on, part 21: StoreAt, StoreOpens. -/
import Derived.Test.YtihnghnafpgdfadGreatDoorSk13
import Derived.Test.YtihnghnafpgdfadGreatDoorSk20
set_option linter.unusedVariables false
set_option linter.unusedSimpArgs false
set_option maxRecDepth 100000
set_option maxHeartbeats 4000000
namespace Go.Proofs.YtihnghnafpgdfadGreatDoor
open Go.RowKit Go.BigFrame
variable {w w':World}{b base cap first from' i k lo many n side size:Nat}{T:ByteArray}{l opn r rows:List Ch}{d:Dk}{now:List (List UInt8)}{v vd vo:Value}{P:List zcn}{a:Option Addr}
structure St where
 dB:Nat
 side:Nat
 ra:Option Addr
 rc:Nat
 rows:List Ch
 lb:Nat
structure zg0 (w:World)(b:Nat)(s:St):Prop where
 blk:w.heap[b]?=some (.cells #[.pointer (some ⟨s.dB,0,none⟩),.int .i64 s.side,.slice s.ra s.rows.length s.rc,.pointer (some ⟨s.lb,0,none⟩)] 163 (0,0))
 rows:zdk w s.ra s.rc s.rows
theorem zg0.cells {s:St}(h:zg0 w b s):w.cell? ⟨b,0,none⟩=some (.pointer (some ⟨s.dB,0,none⟩))∧w.cell? ⟨b,1,none⟩=some (.int .i64 s.side)∧w.cell? ⟨b,2,none⟩=some (.slice s.ra s.rows.length s.rc)∧w.cell? ⟨b,3,none⟩=some (.pointer (some ⟨s.lb,0,none⟩)) :=
 ⟨by rw [zaa h.blk];rfl,by rw [zaa h.blk];rfl,by rw [zaa h.blk];rfl,by rw [zaa h.blk];rfl⟩
theorem zg0.below {s:St}(h:zg0 w b s)(hb:Below w.heap.size w w'):zg0 w' b s :=
 ⟨by rw [hb.block b (Array.getElem?_eq_some_iff.1 h.blk).1];exact h.blk,h.rows.below hb⟩
theorem zlB (b:Nat)(s:St)(w:World)(h:zg0 w b s)(hl:s.rows.length≤100) :
 Calls Tryz.prog 63 #[.pointer (some ⟨b,0,none⟩)] w fun e w'=>∃ v,e=.returned v∧zan w' w.heap.size v s.rows∧Below w.heap.size w w':=by
 obtain ⟨c0,c1,c2,c3⟩:=h.cells;have KR:Hid _:=zp1 s.ra s.rc s.rows w hl h.rows;clear h c0 c1 c3
 go_enter Tryz.func63,Tryz.ntmps63
 go_wp2_with fail
 refine Calls.mono KR.out ?_;rintro e w1 ⟨v,rfl,ho,hb⟩;have HA:Hid (zan w1 w.heap.size v s.rows∧Below w.heap.size w w1):=⟨ho,hb⟩;obtain ⟨va,vc,hv,-⟩:=zan.files ho;subst hv;clear ho hb;go_wp2;go_ret;exact ⟨_,rfl,HA.out⟩
end Go.Proofs.YtihnghnafpgdfadGreatDoor
namespace Go.Proofs.YtihnghnafpgdfadGreatDoor
open Go Go.RowKit Go.BigFrame
variable {w w':World}{b base cap first from' i k lo many n side size:Nat}{T:ByteArray}{l opn r rows:List Ch}{d:Dk}{now:List (List UInt8)}{v vd vo:Value}{P:List zcn}{a:Option Addr}
instance (d:Dk) (i:Nat):Decidable (zdh d i):=by unfold zdh;infer_instance
def whOf (d:Dk)(i:Nat):Option (List Ch):=if zdh d i then zep (zcF d i) (zee d i) else none
theorem zj4 (h:zep T k=some rows):zaY rows∧(∀ c ∈ rows,zae c=0)∧rows.length=k∧zbc rows=T.data.toList:=by
 unfold zep at h;cases hr:zbC (cutL T k) with
 | none=>rw [hr] at h;cases h
 | some l =>
   rw [hr] at h;simp only at h
   split at h
   · rename_i hc
     cases h;obtain ⟨h1,h2⟩:=zeP hr;have e:=(zc5 _ _).1 hc.1;refine ⟨by rw [← e];exact zbI zaY.nil,h1,by rw [h2,zgV],by simpa using hc.2⟩
   · cases h
theorem zjF (h:whOf d i=some rows):zaY rows∧(∀ c ∈ rows,zae c=0)∧rows.length≤12:=by
 unfold whOf at h
 split at h
 · rename_i hh
   obtain ⟨h1,h2,h3,-⟩:=zj4 h;exact ⟨h1,h2,by rw [h3];exact hh.1⟩
 · cases h
theorem ztv (hF:zgu d.now)(h42:42≤d.now.length)(hi:i≤1)(hc:zee d i≤12):(zcF d i).size=40 * zee d i:=by
 unfold zcF;rw [za3,zhI (R:=zao d.now (2+i * 12) (zee d i)) (fun x hx=>hF x (List.mem_of_mem_drop (List.mem_of_mem_take hx))),zaU (by omega)];omega
theorem zqL (p:Dp)(d:Dk)(i:Nat)(w W:World)(h:zab w p d)(hup:d.down=false)(h42:42≤d.now.length)(hi:i≤1)(hb:Below w.heap.size w W) :
 Calls Tryz.prog 126 #[.pointer (some ⟨p.B,0,none⟩),.int .i64 i] W (zfD w (whOf d i) W):=by
 refine (zkw p d i W (fun e w'=>zfD w (whOf d i) W e w') (h.below hb) hup h42 hi ?_ ?_).mono (fun e w' h=>h)
 · intro W' hb' hno
   exact ⟨hb',.inl ⟨by unfold whOf;rw [if_neg hno],rfl⟩⟩
 · intro hok W' hb'
   refine (zkv (zcF d i) (zee d i) (ztv h.snow h42 hi hok.1) hok.1 W').mono ?_;rintro e w' ⟨hbl,hor⟩;have ew:whOf d i=zep (zcF d i) (zee d i):=by unfold whOf;rw [if_pos hok]
   rcases hor with ⟨hno,rfl⟩ | ⟨rows,va,vc,hyes,rfl,ho⟩
   · exact ⟨_,_,_,_,rfl,hb'.trans (hbl.mono hb'.size),.inl ⟨by rw [ew,hno],rfl⟩⟩
   · exact ⟨_,_,_,_,rfl,hb'.trans (hbl.mono hb'.size),.inr ⟨rows,va,vc,by rw [ew,hyes],rfl,zan.base ho hb'.size⟩⟩
theorem zrE (p:Dp)(d:Dk)(w:World)(h:zab w p d)(hup:d.down=false)(h42:42≤d.now.length) :
 Calls Tryz.prog 88 #[.pointer (some ⟨p.B,0,none⟩)] w fun e w'=>zpb w (whOf d) e w' :=
 zlw p d w (whOf d) h hup h42 (fun i hi W hb=>zqL p d i w W h hup h42 hi hb)
theorem zkO {wh:Nat→Option (List Ch)}(h:zew wh=some (side,rows)):side≤1∧wh side=some rows:=by
 unfold zew at h
 split at h
 · rename_i r hr;cases h;exact ⟨Nat.le_refl _,hr⟩
 · split at h
   · rename_i r hr;cases h;exact ⟨by omega,hr⟩
   · cases h
def za6:List Ch→List (List Ch)→Option (List Ch)
 | r,[]=>some r
 | r,c :: l=>if 12<(zah r c).length then none else za6 (zah r c) l
def zaf (d:Dk)(side:Nat):Nat:=1+(1 - side) * (d.now.length - 26)
def zbg (d:Dk)(side:Nat):List (List Ch) × Nat:=zcv rdC d.now 26 (d.now.length - 26) (zaf d side)
def zc3 (d:Dk):Option (Nat × List Ch × Nat):=match zew (whOf d) with
 | none=>none
 | some (side,rows)=>match za6 rows (zbg d side).1 with
   | none=>none
   | some r=>some (side,r,(zbg d side).2)
structure zag (w:World)(lo b:Nat)(s:St)(g:Lg):Prop where
 at':zg0 w b s
 own:zan w lo (.slice s.ra s.rows.length s.rc) s.rows
 log:zba w s.lb g
 low:lo≤b∧lo≤s.lb
section
variable {C:Type} (rd:List UInt8→Option C)
theorem zsD {Q:C→Prop} (hq:∀ t c,rd t=some c→Q c) (first:Nat):∀ (l:List (List UInt8)) (i:Nat) (st:Pl C),(∀ D ∈ st.deeds,(∀ c ∈ D,Q c)∧D.length≤i)→((∀ c ∈ st.opn,Q c)∧st.opn.length≤i)→∀ D ∈ (runL rd first i st l).deeds,(∀ c ∈ D,Q c)∧D.length≤i+l.length
 | [],i,st,h1,h2,D,hD=>by simpa using h1 D (by simpa [runL] using hD)
 | s :: r, i,st,h1,h2,D,hD=>by
   cases hs:zef rd first i st s with
   | none =>
     rw [runL,hs] at hD;obtain ⟨a,b⟩:=h1 D hD;exact ⟨a,by simp;omega⟩
   | some st' =>
     rw [runL,hs] at hD
     have key:(∀ D ∈ st'.deeds,(∀ c ∈ D,Q c)∧D.length≤i+1)∧((∀ c ∈ st'.opn,Q c)∧st'.opn.length≤i+1):=by
      unfold zef at hs
      split at hs
      · cases hs
      · split at hs
        · injection hs with hs
          subst hs;refine ⟨fun D hD=>?_,by simp,by simp⟩;rcases List.mem_append.1 hD with h | h
          · obtain ⟨a,b⟩:=h1 D h;exact ⟨a,by omega⟩
          · simp at h;subst h;exact ⟨h2.1,by omega⟩
        · split at hs
          · split at hs
            · rename_i c hc
              injection hs with hs
              subst hs;refine ⟨fun D hD=>by obtain ⟨a,b⟩:=h1 D hD;exact ⟨a,by omega⟩,fun x hx=>?_,by simp;omega⟩;rcases List.mem_append.1 hx with h | h
              · exact h2.1 x h
              · simp at h;subst h;exact hq _ _ hc
            · cases hs
          · cases hs
     obtain ⟨a,b⟩:=zsD hq first r (i+1) st' key.1 key.2 D hD;exact ⟨a,by simp;omega⟩
theorem zlN {Q:C→Prop}(hq:∀ t c,rd t=some c→Q c):∀ D ∈ (zcv rd now from' many first).1,(∀ c ∈ D,Q c)∧D.length≤many:=fun D hD=>by
 obtain ⟨a,b⟩:=zsD rd hq first (zao now from' many) 0 ⟨[],[],0⟩ (by simp) (by simp) D hD;have h2:(zao now from' many).length≤many:=by simp [zao];omega
 exact ⟨a,by omega⟩
end
theorem zqY:∀ t c,rdC t=some c→zae c=0:=fun t c h=>by
 unfold rdC zdw at h
 split at h
 · cases h
 · split at h
   · rename_i h3;cases h;exact h3
   · cases h
theorem ztD (h:DS w lo base vd vo P opn)(hb:Below w.heap.size w w'):DS w' lo base vd vo P opn :=
 h.far hb.size (fun k C T fr _ hk _=>hb.block k (Array.getElem?_eq_some_iff.1 hk).1)
theorem zss {T:TypeId}{xs:List Value}(h:w.ownsRow base T size v n xs):∃ a cap,v=.slice a n cap:=by
 rcases h.2 with ⟨rfl,h0⟩ | ⟨g,cap,cur,rfl,_⟩
 · subst h0;exact ⟨_,_,rfl⟩
 · exact ⟨_,_,rfl⟩
theorem zva (h:DS w lo base (.slice a P.length cap) vo P opn)(hi:i<P.length):
 ∃ b off,a=some ⟨b,off,none⟩∧w.cell? ⟨b,off+i,none⟩=some (.slice P[i].a P[i].l.length P[i].cap)∧zdk w P[i].a P[i].cap P[i].l:=by
 have hp:=h.parts P[i] (List.getElem_mem hi);obtain ⟨a',c',e,hcc,hnil,-⟩:=zan.files (l:=P[i].l) hp;unfold zcn.v at e
 injection e with e1 e2 e3
 have hs:zdk w P[i].a P[i].cap P[i].l:=⟨by rw [e1];exact hcc,by rw [e1,e3];exact hnil⟩;rcases h.row.2 with ⟨e,h0⟩ | ⟨g,cap',cur,e,hB,hg,hn,hm,hcs,ht⟩
 · omega
 · injection e with e1' e2' e3'
   subst e1';refine ⟨g,0,rfl,?_,hs⟩;have:=h.row.cellAt (0+i) (by omega);rw [Nat.zero_add] at this ⊢
   rw [this];rw [List.getElem?_map,List.getElem?_eq_getElem hi]
   rfl
def ztG (w:World) (p:Dp) (d:Dk) (e:Ending) (w':World):Prop :=
 Below w.heap.size w w'∧((zc3 d=none∧e=.returned (.tuple #[.pointer none,.iface 90 (.int .i64 4)])) ∨
  ∃ b side rows used ra rc lb,zc3 d=some (side,rows,used)∧side≤1∧zaY rows∧rows.length≤12∧(∀ c ∈ rows,zae c=0)∧e=.returned (.tuple #[.pointer (some ⟨b,0,none⟩),.nilIface])∧zag w' w.heap.size b ⟨p.B,side,ra,rc,rows,lb⟩ ⟨p.B,26,d.now.length - 26,zaf d side,used⟩)
theorem zlX (hi:i<P.length):za6 r ((P.map (·.l)).drop i)=if 12<(zah r P[i].l).length then none else za6 (zah r P[i].l) ((P.map (·.l)).drop (i+1)):=by
 rw [List.drop_eq_getElem_cons (by simpa using hi)];simp only [za6,List.getElem_map]
theorem zkZ (h1:∀ c ∈ rows,zae c=0)(h2:∀ c ∈ l,zae c=0):∀ c ∈ zah rows l,zae c=0:=by
 induction l generalizing rows with
 | nil=>exact h1
 | cons x r ih =>
   intro c hc;refine ih (rows:=layC x x.gone rows) (fun y hy=>?_) (fun y hy=>h2 y (List.mem_cons_of_mem _ hy)) c hc;rcases zmb x hy with ⟨rfl,_⟩ | hy
   · exact h2 _ (by simp)
   · exact h1 y hy
theorem ziw (a a':Option Addr)(c c':Nat)(R l:List Ch)(W:World)(h1:R.length≤100)(h2:l.length≤100)(hr:zaY R)(hs:zdk W a c R)(hs':zdk W a' c' l) :
 Calls Tryz.prog 92 #[.slice a R.length c,.slice a' l.length c'] W fun e w'=>∃ va vc,e=.returned (.slice va (zah R l).length vc)∧zan w' W.heap.size (.slice va (zah R l).length vc) (zah R l)∧Below W.heap.size W w':=by
 refine (zis a a' c c' R l W h1 h2 hs hs').mono ?_;rintro e w' ⟨v,S,rfl,hst,ho,hb⟩;rw [zfm hr hst] at ho;obtain ⟨va,vc,hv,-⟩:=zan.files ho;subst hv;exact ⟨va,vc,rfl,ho,hb⟩
theorem zg8 (p:Dp) (d:Dk) (w:World) (h:zab w p d) (hup:d.down=false) (h42:42≤d.now.length) :
 Calls Tryz.prog 61 #[.pointer (some ⟨p.B,0,none⟩)] w fun e w'=>ztG w p d e w':=by
 have HD:Hid (zab w p d):=h;have h60:=h.few;have KL:Hid _:=zrE p d w h hup h42;clear h
 go_enter Tryz.func61,Tryz.ntmps61
 go_wp2_with fail
 refine Calls.mono KL.out ?_;rintro e w1 ⟨hb1,hor⟩;have HB1:Hid (Below w.heap.size w w1):=hb1;have HD1:Hid (zab w1 p d):=HD.out.below hb1;clear hb1 KL;rcases hor with ⟨hno,rfl⟩ | ⟨side,rows,va,vc,hyes,rfl,ho⟩
 · have HO:Hid (zc3 d=none):=by show _=_;unfold zc3;rw [hno]
   clear hno;go_wp2;go_ret2;exact ⟨HB1.out,.inl ⟨HO.out,rfl⟩⟩
 · obtain ⟨hs1,hwh⟩:=zkO hyes
   obtain ⟨hr1,hr2,hr3⟩:=zjF hwh;have HROW:Hid (zaY rows∧∀ c ∈ rows,zae c=0):=⟨hr1,hr2⟩;have HLX:Hid (zew (whOf d)=some (side,rows)):=hyes;have HOWN:Hid (zan w1 w.heap.size (.slice va rows.length vc) rows):=ho;have KS:Hid _:=zbl p d w1 HD1.out;have kf:=zev p d side w1 HD1.out hs1 (by omega);obtain ⟨fs,hfs⟩:∃ fs,fs=zaf d side:=⟨_,rfl⟩
   have HFS:Hid (fs=zaf d side):=hfs;have KF:Hid (Calls Tryz.prog 91 #[.pointer (some ⟨p.B,0,none⟩),.int .i64 side] w1 fun e w'=>e=.returned (.int .i64 fs)∧w'=w1):=by rw [hfs];exact kf
   have hf1:1≤fs∧fs≤1000:=by
    rw [hfs];unfold zaf;have:(1 - side) * (d.now.length - 26)≤1 * 34:=Nat.mul_le_mul (by omega) (by omega);omega
   obtain ⟨many,hmany⟩:∃ many,many=d.now.length - 26:=⟨_,rfl⟩
   have HMANY:Hid (many=d.now.length - 26):=hmany;have hmz:(d.now.length:Int) - 26=(many:Int):=by omega
   rw [hmz] at KS;have KO:Hid _:=zmv p d 26 many fs w1 HD1.out hup (by omega) hf1.1 (by omega) (by omega);clear hs1 hwh hr1 hr2 hyes ho kf hfs hmany hmz hf1
   go_wp2_with fail
   refine Calls.mono KS.out ?_;rintro e w2 ⟨rfl,hw⟩;rw [hw];clear hw w2 KS
   go_wp2_with fail
   refine Calls.mono KF.out ?_;rintro e w2 ⟨rfl,hw⟩;rw [hw];clear hw w2 KF
   go_wp2_with fail
   refine Calls.mono KO.out ?_;rintro e w2 ⟨b,vd,vo,P,base,opn,rfl,hlb,hlog,hds,hdl,hd2,hb2,hPl⟩;obtain ⟨da,dc,hvd⟩:=zss hds.row;subst hvd;obtain ⟨used,hused⟩:∃ used,used=(zcv rdC d.now 26 many fs).2:=⟨_,rfl⟩
   have HUSED:Hid (used=(zbg d side).2):=by show _=_;rw [hused];unfold zbg;rw [HMANY.out,HFS.out]
   have HLOG:Hid (zba w2 b ⟨p.B,26,many,fs,used⟩):=by rw [hused];exact hlog
   have HDS:Hid (DS w2 w1.heap.size base (.slice da P.length dc) vo P opn):=hds;have HDL:Hid (P.map (·.l)=(zbg d side).1):=by show _=_;rw [hdl];unfold zbg;rw [HMANY.out,HFS.out]
   have HPOK:Hid (∀ i (h:i<P.length),(∀ c ∈ P[i].l,zae c=0)∧P[i].l.length≤34):=fun i h=>by
    have hm:P[i].l ∈ (zcv rdC d.now 26 many fs).1:=by rw [← hdl];exact List.mem_map.2 ⟨P[i],List.getElem_mem h,rfl⟩
    obtain ⟨q1,q2⟩:=zlN rdC zqY _ hm;exact ⟨q1,by have:=HMANY.out;omega⟩
   have HB2:Hid (Below w.heap.size w w2):=HB1.out.trans (hb2.mono HB1.out.size);have HOWN2:Hid (zan w2 w.heap.size (.slice va rows.length vc) rows):=zaj HOWN.out (fun k hk=>hb2.block k (HOWN.out.lt k hk).2);have HLB:Hid (w.heap.size≤b):=Nat.le_trans HB1.out.size hlb;have hP60:P.length≤60:=by have:=HMANY.out;omega
   clear hlog hds hdl hd2 hb2 hPl hlb hused KO
   go_wp2_with fail
   go_loopg [5,36] (P.length+1) (fun kx v5 vi wr=>∃ (i:Nat) (a:Option Addr) (n c:Nat) (R:List Ch),vi=.int .i64 i∧v5=.slice a n c∧n=R.length∧n≤12∧i≤P.length∧P.length - i≤kx∧Hid (Below w2.heap.size w2 wr)∧Hid (zan wr w.heap.size (.slice a n c) R)∧Hid (za6 rows (P.map (·.l))=za6 R ((P.map (·.l)).drop i))∧Hid (zaY R∧∀ c ∈ R,zae c=0))
   case atStart=>exact ⟨0,va,rows.length,vc,rows,rfl,rfl,rfl,hr3,by omega,by omega,Below.refl _ _,HOWN2,rfl,HROW⟩
   case round =>
    obtain ⟨i,a,n,c,R,rfl,rfl,hn,hn12,hi,hix,HBR,HOR,HFR,HRR⟩:=hrel;have HN:Hid (n=R.length):=hn;clear hn
    by_cases hlt:i<P.length
    · have hltz:(i:Int)<(P.length:Int):=by omega
      obtain ⟨cb,co,rfl,ci,hsl⟩:=zva (ztD HDS.out HBR.out) hlt;obtain ⟨q1,q2⟩:=HPOK.out i hlt
      have KA:Hid (Calls Tryz.prog 92 #[.slice a n c,.slice P[i].a P[i].l.length P[i].cap] wr fun e w'=>∃ va vc,e=.returned (.slice va (zah R P[i].l).length vc)∧zan w' wr.heap.size (.slice va (zah R P[i].l).length vc) (zah R P[i].l)∧Below wr.heap.size wr w'):=by
       have hsr:zdk wr a c R:=by
        obtain ⟨a',c',e,hcc,hnil,-⟩:=zan.files HOR.out
        injection e with e1 e2 e3
        exact ⟨by rw [e1];exact hcc,by rw [e1,e3];exact hnil⟩
       rw [HN.out];exact ziw a P[i].a c P[i].cap R P[i].l wr (by have:=HN.out;omega) (by omega) HRR.out.1 hsr hsl
      have HST:Hid (za6 R ((P.map (·.l)).drop i)=if 12<(zah R P[i].l).length then none else za6 (zah R P[i].l) ((P.map (·.l)).drop (i+1))):=zlX hlt;have HRN:Hid (zaY (zah R P[i].l)∧∀ c ∈ zah R P[i].l,zae c=0):=⟨zbI HRR.out.1,zkZ HRR.out.2 q1⟩;obtain ⟨R',hR'⟩:∃ R',R'=zah R P[i].l:=⟨_,rfl⟩
      obtain ⟨m,hm⟩:∃ m,m=R'.length:=⟨_,rfl⟩
      rw [← hR',← hm] at KA HST;rw [← hR'] at HRN;have HM:Hid (m=R'.length):=hm;clear hR' hm hsl q1 q2
      go_wp2_with fail
      refine Calls.mono KA.out ?_;rintro e w5 ⟨va5,vc5,rfl,ho5,hb5⟩;have HB5:Hid (Below w2.heap.size w2 w5):=HBR.out.trans (hb5.mono HBR.out.size);have HO5:Hid (zan w5 w.heap.size (.slice va5 m vc5) R'):=zan.base ho5 (Nat.le_trans HB2.out.size HBR.out.size);clear ho5 hb5 KA
      by_cases h12:12<m
      · have h12z:(12:Int)<(m:Int):=by omega
        have HO:Hid (zc3 d=none):=by
         show _=_;unfold zc3;rw [HLX.out];simp only;rw [← HDL.out,HFR.out,HST.out,if_pos h12]
        go_wp2;go_ret2;exact ⟨HB2.out.trans (HB5.out.mono HB2.out.size),.inl ⟨HO.out,rfl⟩⟩
      · have h12z:¬ (12:Int)<(m:Int):=by omega
        have HFR2:Hid (za6 rows (P.map (·.l))=za6 R' ((P.map (·.l)).drop (i+1))):=by show _=_;rw [HFR.out,HST.out,if_neg h12]
        go_wp2
        go_roundg (P.length - (i+1))
        case measure=>omega
        case rel=>exact ⟨i+1,va5,m,vc5,R',by go_num,rfl,HM.out,by omega,by omega,Nat.le_refl _,HB5,HO5,HFR2,HRN⟩
    · have hge:¬ (i:Int)<(P.length:Int):=by omega
      have HO:Hid (zc3 d=some (side,R,used)):=by
       show _=_;unfold zc3;rw [HLX.out];simp only;rw [← HDL.out,HFR.out,List.drop_eq_nil_of_le (by rw [List.length_map];omega)];simp only [za6];rw [HUSED.out]
      go_wp2;go_ret2;have hb:=HB2.out.trans (HBR.out.mono HB2.out.size);have hl:zba wr b ⟨p.B,26,many,fs,used⟩:=(HLOG.out).below HBR.out;refine ⟨hb.alloc hb.size _,.inr ⟨wr.heap.size,side,R,used,a,c,b,HO.out,(zkO HLX.out).1,HRR.out.1,by rw [← HN.out];exact hn12,HRR.out.2,rfl,⟨⟨?_,?_⟩,?_,?_,hb.size,HLB.out⟩⟩⟩
      · rw [← HN.out]
        exact heap_alloc_new wr _
      · obtain ⟨a',c',e,hcc,hnil,-⟩:=zan.files HOR.out
        injection e with e1 e2 e3
        exact zdk.below ⟨by rw [e1];exact hcc,by rw [e1,e3];exact hnil⟩ ((Below.refl _ _).alloc (Nat.le_refl _) _)
      · rw [← HN.out]
        exact (HOR.out).alloc _
      · rw [HMANY.out,HFS.out] at hl
        exact hl.below ((Below.refl _ _).alloc (Nat.le_refl _) _)
end Go.Proofs.YtihnghnafpgdfadGreatDoor
