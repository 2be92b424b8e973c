/- What the proofs stand on, part 23: StoreCommits. -/
import Derived.Test.YtihnghnafpgdfadGreatDoorSk22
import Derived.Test.YtihnghnafpgdfadGreatDoorSk21
set_option linter.unusedVariables false
set_option linter.unusedSimpArgs false
set_option maxRecDepth 100000
set_option maxHeartbeats 4000000
namespace Go.Proofs.YtihnghnafpgdfadGreatDoor
open Go Go.RowKit Go.BigFrame
variable {b base i k l l' lo:Nat}{W W' w w':World}{a:Option Addr}{R c:List Ch}{s:St}{g g':Lg}{p:Dp}{D d:Dk}{u u' v:Value}{e:Int}{C Cb Cl:Array Value}{T:TypeId}{fb fl fr:Nat × Nat}
structure Deed (lo:Nat)(w:World)(a:Option Addr)(c:List Ch):Prop where
 cc:CC w a c
 safe:∀ x,a=some x→¬ c=[]→x.block<lo∨∃ C fr,w.heap[x.block]?=some (.cells C 143 fr)
theorem Deed.touch {S:Nat→Prop}(h:Deed lo w a c)(ht:zat S w w')(hS:∀ k,S k→lo≤k∧∃ C T fr,w.heap[k]?=some (.cells C T fr)∧T≠143):Deed lo w' a c:=by
 have key:∀ x,a=some x→¬ c=[]→x.block<w.heap.size→w'.heap[x.block]?=w.heap[x.block]?:=fun x hx hne hlt=>ht.block _ hlt (fun hs=>by
  obtain ⟨h1,C,T,fr,e,hT⟩:=hS _ hs;rcases h.safe x hx hne with h2 | ⟨C',fr',e'⟩
  · omega
  · rw [e] at e'
    simp at e';exact hT e'.2.1)
 refine ⟨fun i hi=>?_,fun x hx hne=>?_⟩
 · obtain ⟨b,off,rfl,c0,c1,c2⟩:=h.cc i hi
   have hne:¬ c=[]:=fun e=>by subst e;exact absurd hi (Nat.not_lt_zero _)
   have hlt:b<w.heap.size:=World.block_lt_of_cell? _ _ c0;have hk:w'.heap[b]?=w.heap[b]?:=key _ rfl hne hlt;refine ⟨b,off,rfl,?_,?_,?_⟩
   · rw [World.cell?_of_block (w:=w) (a:=⟨b,_,none⟩) hk];exact c0
   · rw [World.cell?_of_block (w:=w) (a:=⟨b,_,none⟩) hk];exact c1
   · rw [World.cell?_of_block (w:=w) (a:=⟨b,_,none⟩) hk];exact c2
 · rcases h.safe x hx hne with h2 | ⟨C,fr,e⟩
   · exact .inl h2
   · exact .inr ⟨C,fr,by rw [key x hx hne (Array.getElem?_eq_some_iff.1 e).1];exact e⟩
theorem Deed.below (h:Deed lo w a c)(hb:Below w.heap.size w w'):Deed lo w' a c :=
 h.touch (S:=fun _=>False) (zat.of_below hb) (fun _ hf=>hf.elim)
structure Cm where
 d:Dk
 e:Int
 side:Nat
 g:Lg
 rows:List Ch
def Cm.stay (d:Dk)(e:Int)(s:St)(g:Lg):Cm:=⟨d,e,s.side,g,s.rows⟩
def addC (d:Dk)(side:Nat)(g:Lg)(rows c:List Ch):Cm :=
 if (addD g d c).2=0 then ⟨(addD g d c).1,0,side,addG g d c,zah rows c⟩ else ⟨(addD g d c).1,(addD g d c).2,side,addG g d c,rows⟩
def zb9 (d:Dk)(s:St)(g:Lg):Lg:=⟨g.dB,26,d.now.length - 26,zaf d (zaW d s g),0⟩
def zai (d:Dk)(s:St)(g:Lg)(c:List Ch):Cm :=
 if 14<c.length then .stay d 2 s g else if ¬ za1 c=0 then .stay d (za1 c) s g
 else if 12<(zah s.rows c).length∨d.now.length - 26<c.length+1 then .stay d 7 s g
 else if g.many - g.used<c.length+1 then (if (zbe d s g).2=0 then addC (zbe d s g).1 (zaW d s g) (zb9 d s g) s.rows c else .stay (zbe d s g).1 (zbe d s g).2 s g)
 else addC d s.side g s.rows c
def zgk (w:World) (lo b:Nat) (p:Dp) (d:Dk) (s:St) (g:Lg) (c:List Ch) (e:Ending) (w':World):Prop :=
 e = .returned (errV (zai d s g c).e)∧∃ u lb ra rc,zab w' { p with wv:=u } (zai d s g c).d∧zbw p w u∧zat (fun k=>(dOwn p k∨k=b)∨k=s.lb) w w' ∧
   zag w' lo b ⟨p.B,(zai d s g c).side,ra,rc,(zai d s g c).rows,lb⟩ (zai d s g c).g
theorem zag.added (h:zag w lo b s g)(hd:zab w p d)(ha:zeO w w' s.lb g' p u D):zag w' lo b s g':=by
 have far:∀ {k:Nat} {C:Array Value} {T:TypeId} {fr:Nat × Nat},w.heap[k]?=some (.cells C T fr)→T≠78∧T≠84∧T≠86∧T≠208→w'.heap[k]?=w.heap[k]?:=fun {k C T fr} hk hT=>by
  refine ha.touch.block k (Array.getElem?_eq_some_iff.1 hk).1 (fun ho=>?_);rcases ho with ho | ho
  · obtain ⟨C',T',fr',e,hT'⟩:=hd.kind ho
    rw [hk] at e;simp at e;rcases hT' with e' | e' | e'
    · exact hT.1 (by rw [e.2.1,e'])
    · exact hT.2.1 (by rw [e.2.1,e'])
    · exact hT.2.2.1 (by rw [e.2.1,e'])
  · have hl:=h.log
    unfold zba at hl;rw [ho,hl] at hk;simp at hk;exact hT.2.2.2 hk.2.1.symm
 have ho:zan w' lo (.slice s.ra s.rows.length s.rc) s.rows:=zaj h.own (fun k hk=>by obtain ⟨c,f,e⟩:=Lib.ownsRow_kind h.own k hk;exact far e (by decide));exact ⟨⟨(far h.at'.blk (by decide)).trans h.at'.blk,zan.slice ho⟩,ho,ha.log,h.low⟩
theorem zag.rowed {n c:Nat}(h:zag w lo b s g)(hd:zab w p d)(hn:n=R.length)(ho:zan w lo (.slice a n c) R):
 zab (w.setCell ⟨b,2,none⟩ (.slice a n c)) p d∧zag (w.setCell ⟨b,2,none⟩ (.slice a n c)) lo b { s with ra:=a,rc:=c,rows:=R } g:=by
 subst hn;have h1:=zaZ h.at'.blk 2 (.slice a R.length c)
 have ho':zan (w.setCell ⟨b,2,none⟩ (.slice a R.length c)) lo (.slice a R.length c) R:=by
  refine zaj ho (fun k hk=>?_);obtain ⟨C,f,e⟩:=Lib.ownsRow_kind ho k hk
  exact Below.heap_setCell _ _ _ _ (fun e'=>by
   simp only at e';rw [e',h.at'.blk] at e;simp at e)
 have hlb:s.lb≠b:=fun e=>by
  have hl:=h.log;unfold zba at hl;rw [e,h.at'.blk] at hl;simp at hl
 refine ⟨zhW _ hd h.at'.blk (by decide),⟨⟨h1,zan.slice ho'⟩,ho',?_,h.low⟩⟩;show _=_;rw [Below.heap_setCell _ _ _ _ hlb];exact h.log
theorem zhy (hc:zai d s g c=.stay d e s g)(hB:s.dB=p.B)(h:zag w lo b s g)(hd:zab w p d)(hb:Below w.heap.size w w'):
 ∃ u lb ra rc,zab w' { p with wv:=u } (zai d s g c).d∧zbw p w u∧zat (fun k=>(dOwn p k∨k=b)∨k=s.lb) w w'∧zag w' lo b ⟨p.B,(zai d s g c).side,ra,rc,(zai d s g c).rows,lb⟩ (zai d s g c).g:=by
 rw [hc];refine ⟨p.wv,s.lb,s.ra,s.rc,hd.below hb,fun k hk=>.inl hk,zat.of_below hb,?_⟩;have:=h.below hb;have e:(⟨p.B,s.side,s.ra,s.rc,s.rows,s.lb⟩:St)=s:=by rw [← hB]
 simp only [Cm.stay];rw [e];exact this
theorem znT {lo b l:Nat}(hd:zab w p d)(hb:w.heap[b]?=some (.cells Cb 163 fb))(hl:w.heap[l]?=some (.cells Cl 208 fl))(ht:zat (fun k=>(dOwn p k∨k=b)∨k=l) w w')(hk:w.heap[k]?=some (.cells C T fr))(hT:T=143):w'.heap[k]?=w.heap[k]?:=by
 refine ht.block k (Array.getElem?_eq_some_iff.1 hk).1 (fun ho=>?_);subst hT;rcases ho with (ho | ho) | ho
 · obtain ⟨C',T',fr',e,hT'⟩:=hd.kind ho
   rw [hk] at e;simp at e;rcases hT' with e' | e' | e'
   · rw [e'] at e;exact absurd e.2.1 (by decide)
   · rw [e'] at e;exact absurd e.2.1 (by decide)
   · rw [e'] at e;exact absurd e.2.1 (by decide)
 · rw [ho,hb] at hk;simp at hk
 · rw [ho,hl] at hk;simp at hk
theorem zqs (h:zan w base v R)(hd:zab w p d)(hs:zag w lo b s g)(ht:zat (fun k=>dOwn p k∨k=b) w w'):zan w' base v R :=
 zaj h (fun k hk=>by
  obtain ⟨c,f,e⟩:=Lib.ownsRow_kind h k hk;exact znT (lo:=lo) (l:=s.lb) hd hs.at'.blk hs.log (ht.wide (fun k hk=>.inl hk)) e rfl)
theorem zlj (h:zan w base v R)(hd:zab w p d)(hs:zag w lo b s g)(ha:zeO w w' s.lb g' p u D):zan w' base v R :=
 zaj h (fun k hk=>by
  obtain ⟨c,f,e⟩:=Lib.ownsRow_kind h k hk;refine znT (lo:=lo) (l:=s.lb) hd hs.at'.blk hs.log (ha.touch.wide (fun k hk=>?_)) e rfl;rcases hk with hk | hk
  · exact .inl (.inl hk)
  · exact .inr hk)
theorem zoX (hd:zab w p d)(hs:zag w lo b s g)(hlo:lo≤p.lo):∀ k,(dOwn p k∨k=b)→lo≤k∧∃ C T fr,w.heap[k]?=some (.cells C T fr)∧T≠143:=fun k hk=>by
 rcases hk with hk | hk
 · obtain ⟨C,T,fr,e,hT⟩:=hd.kind hk
   refine ⟨?_,C,T,fr,e,?_⟩
   · rcases hk with rfl | rfl | rfl | hk
     · exact Nat.le_trans hlo hd.lo1
     · exact Nat.le_trans hlo hd.lo2
     · exact Nat.le_trans hlo hd.lo3
     · exact Nat.le_trans hlo (hd.wr.lt k hk).1
   · rcases hT with rfl | rfl | rfl <;> decide
 · subst hk
   exact ⟨hs.low.1,_,_,_,hs.at'.blk,by decide⟩
theorem znB {S S':Nat→Prop}(h:zat (fun k=>(S k∨k=b)∨S' k) w W)(i:Nat)(v:Value):zat (fun k=>(S k∨k=b)∨S' k) w (W.setCell ⟨b,i,none⟩ v) :=
 ⟨h.os,h.tape,h.output,by rw [World.size_setCell];exact h.size,fun k hk hn=>(Below.heap_setCell W ⟨b,i,none⟩ v k (fun e=>hn (.inl (.inr e)))).trans (h.block k hk hn)⟩
theorem zna (h:zat (fun k=>(dOwn p k∨k=b)∨k=l) w W)(hn:zbw p w u)(hl:l'=l∨w.heap.size≤l')(ha:zeO W W' l' g' { p with wv:=u } u' D):zat (fun k=>(dOwn p k∨k=b)∨k=l) w W'∧zbw p w u':=by
 refine ⟨⟨ha.touch.os.trans h.os,ha.touch.tape.trans h.tape,ha.touch.output.trans h.output,Nat.le_trans h.size ha.touch.size,fun k hk hno=>?_⟩,fun k hk=>?_⟩
 · refine (ha.touch.block k (Nat.lt_of_lt_of_le hk h.size) (fun ho=>?_)).trans (h.block k hk hno)
   rcases ho with (e | e | e | e) | e
   · exact hno (.inl (.inl (.inl e)))
   · exact hno (.inl (.inl (.inr (.inl e))))
   · exact hno (.inl (.inl (.inr (.inr (.inl e)))))
   · rcases hn k e with e' | e'
     · exact hno (.inl (.inl (.inr (.inr (.inr e')))))
     · omega
   · rcases hl with e' | e'
     · exact hno (.inr (e.trans e'))
     · omega
 · rcases ha.new k hk with e | e
   · exact hn k e
   · exact .inr (Nat.le_trans h.size e)
theorem zrM (h42:42≤d.now.length)(h60:d.now.length≤60):LgOk (zb9 d s g):=by
 refine ⟨?_,?_,Nat.zero_le _⟩
 · show 26+(d.now.length - 26)≤60;omega
 · show zaf d (zaW d s g)≤4000000
   unfold zaf;have:(1 - zaW d s g) * (d.now.length - 26)≤1 * 34:=Nat.mul_le_mul (by omega) (by omega);omega
theorem zue {T:ByteArray} (h:(layT d i T k).2=0):(layT d i T k).1.wr=[]:=by
 unfold layT at h ⊢
 split at h
 · rename_i h0
   rw [if_pos h0];simp only [seqD] at h ⊢
   split at h
   · rename_i h1
     rw [if_pos h1]
     split at h
     · rename_i h2
       rw [if_pos h2];exact ziM _ _ _ h2
     · rename_i h2;exact absurd h h2
   · rename_i h1;exact absurd h h1
 · rename_i h0;exact absurd h h0
theorem zsF (h:(zbe d s g).2=0):(zbe d s g).1.wr=[]:=zue h
theorem zfQ (lo b:Nat) (p:Dp) (d:Dk) (s:St) (g:Lg) (a:Option Addr) (cap:Nat) (c:List Ch) (w:World) (h:zag w lo b s g) (hd:zab w p d) (hlo:lo≤p.lo) (hB:s.dB=p.B) (hgB:g.dB=p.B) (hg:LgOk g) (hgs:g.start=26) (hgf:1≤g.first) (hgm:g.many=d.now.length - 26) (h42:42≤d.now.length) (hs1:s.side≤1) (hr12:s.rows.length≤12) (hrow:zaY s.rows) (hok:∀ c ∈ s.rows,zae c=0) (hwr:d.wr.length≤60) (hc:Deed lo w a c) (hcn:a=none→cap=0) (hcl:c.length≤100) :
 Calls Tryz.prog 76 #[.pointer (some ⟨b,0,none⟩),.slice a c.length cap] w fun e w'=>zgk w lo b p d s g c e w':=by
 have HS:Hid (zag w lo b s g):=h;have HD:Hid (zab w p d):=hd;have HC:Hid (Deed lo w a c):=hc;have HBB:Hid (s.dB=p.B):=hB;have HGG:Hid (g.dB=p.B∧LgOk g∧g.start=26∧1≤g.first∧g.many=d.now.length - 26):=⟨hgB,hg,hgs,hgf,hgm⟩;have HRR:Hid (zaY s.rows∧∀ c ∈ s.rows,zae c=0):=⟨hrow,hok⟩;have h60:=hd.few;have HCN:Hid (a=none→cap=0):=hcn;clear hcn h hd hc hB hgB hg hgs hgf hgm hrow hok
 by_cases h14:14<c.length
 · have h14z:(14:Int)<(c.length:Int):=by omega
   have HF:Hid (zai d s g c=.stay d 2 s g):=by show _=_;unfold zai;rw [if_pos h14]
   go_enter Tryz.func76,Tryz.ntmps76
   go_wp2;go_ret;exact ⟨by rw [HF.out];rfl,zhy HF.out HBB.out HS.out HD.out (Below.refl _ _)⟩
 have h14z:¬ (14:Int)<(c.length:Int):=by omega
 have HC14:Hid (¬ 14<c.length):=h14
 go_enter Tryz.func76,Tryz.ntmps76
 go_wp2
 go_loopg [17] (c.length+1) (fun kx vi wr=>∃ i:Nat,vi=.int .i64 i∧i≤c.length∧c.length - i≤kx∧Hid (Below w.heap.size w wr)∧Hid (∀ j (hj:j<i) (h2:j<c.length),zae c[j]=0))
 case atStart=>exact ⟨0,rfl,by omega,by omega,Below.refl _ _,fun j hj=>absurd hj (Nat.not_lt_zero _)⟩
 case round =>
  obtain ⟨i,rfl,hi,hix,HB,HG⟩:=hrel
  by_cases hlt:i<c.length
  · have hltz:(i:Int)<(c.length:Int):=by omega
    obtain ⟨cb,co,rfl,c0,c1,c2⟩:=(HC.out.cc.below HB.out) i hlt;obtain ⟨x,hx⟩:∃ x,x=c[i]:=⟨_,rfl⟩
    rw [← hx] at c0 c1 c2;have HX:Hid (x=c[i]):=hx;clear hx;have KF:Hid (∀ o,Calls Tryz.prog 109 #[x.v] (wr.alloc o) fun e w'=>e=.returned (errV (zae x))∧Below wr.heap.size wr w'):=fun o=>(zdr x (wr.alloc o)).mono fun e w' ⟨he,hb⟩=>⟨he,((Below.refl wr.heap.size wr).alloc (Nat.le_refl _) o).trans (hb.mono (by simp))⟩
    by_cases hf:zae x=0
    · rw [hf,zac rfl] at KF
      have HNX:Hid (∀ j (hj:j<i+1) (h2:j<c.length),zae c[j]=0):=fun j hj h2=>by
       by_cases e:j=i
       · subst e;rw [← HX.out];exact hf
       · exact HG.out j (by omega) h2
      clear hf
      go_wp2_with fail
      refine Calls.mono (KF.out _) ?_;rintro e w2 ⟨rfl,hb⟩;have HB2:Hid (Below w.heap.size w w2):=HB.out.trans (hb.mono HB.out.size);clear hb KF;go_wp2
      go_roundg (c.length - (i+1))
      case measure=>omega
      case rel=>exact ⟨i+1,by go_num,by omega,Nat.le_refl _,HB2,HNX⟩
    · have HFL:Hid (za1 c=zae x):=by
       show _=_;rw [HX.out];exact zjS hlt (fun j hj=>HG.out j hj (by omega)) (by rw [← HX.out];exact hf)
      have HCF:Hid (zai d s g c=.stay d (zae x) s g):=by show _=_;unfold zai;rw [if_neg HC14.out,HFL.out,if_pos hf]
      have HEV:Hid _:=zak hf;rw [HEV.out] at KF;clear hf
      go_wp2_with fail
      refine Calls.mono (KF.out _) ?_;rintro e w2 ⟨rfl,hb⟩;have HB2:Hid (Below w.heap.size w w2):=HB.out.trans (hb.mono HB.out.size);clear hb KF;go_wp2;go_ret;exact ⟨by rw [HCF.out,← HEV.out];rfl,zhy HCF.out HBB.out HS.out HD.out HB2.out⟩
  · have hge:¬ (i:Int)<(c.length:Int):=by omega
    have HOK:Hid (za1 c=0):=by
     refine zdT (fun y hy=>?_);obtain ⟨j,hj,rfl⟩:=List.getElem_of_mem hy;exact HG.out j (by omega) hj
    have HSR:Hid (zag wr lo b s g):=HS.out.below HB.out;have HDR:Hid (zab wr p d):=HD.out.below HB.out;have HCR:Hid (Deed lo wr a c):=HC.out.below HB.out;obtain ⟨-,c1,c2,c3⟩:=HSR.out.at'.cells;have KA:Hid _:=ziw s.ra a s.rc cap s.rows c wr (by omega) (by omega) HRR.out.1 HSR.out.at'.rows ⟨HCR.out.cc,HCN.out⟩;obtain ⟨n,hn⟩:∃ n,n=(zah s.rows c).length:=⟨_,rfl⟩
    have HN:Hid (n=(zah s.rows c).length):=hn
    have HCF:Hid (zai d s g c=if 12<n∨d.now.length - 26<c.length+1 then .stay d 7 s g else if g.many - g.used<c.length+1 then (if (zbe d s g).2=0 then addC (zbe d s g).1 (zaW d s g) (zb9 d s g) s.rows c else .stay (zbe d s g).1 (zbe d s g).2 s g) else addC d s.side g s.rows c):=by
     show _=_;unfold zai;rw [if_neg HC14.out,if_neg (by simpa using HOK.out),← HN.out]
    rw [← hn] at KA;clear hn HG hlt
    go_wp2_with fail
    refine Calls.mono KA.out ?_;rintro e w2 ⟨va,vc,rfl,ho,hb⟩;have HB2:Hid (Below w.heap.size w w2):=HB.out.trans (hb.mono HB.out.size);have HS2:Hid (zag w2 lo b s g):=HSR.out.below hb;have HD2:Hid (zab w2 p d):=HDR.out.below hb;have HC2:Hid (Deed lo w2 a c):=HCR.out.below hb;have HO2:Hid (zan w2 lo (.slice va n vc) (zah s.rows c)):=zan.base ho (Nat.le_trans HS.out.low.1 (Nat.le_trans (Nat.le_of_lt (Array.getElem?_eq_some_iff.1 HS.out.at'.blk).1) HB.out.size));clear ho hb KA c1 c2 c3;have c0:=zjn HS2.out HBB.out;have c3:=HS2.out.at'.cells.2.2.2;obtain ⟨many,hmany⟩:∃ many,many=d.now.length - 26:=⟨_,rfl⟩
    have ks:=zbl p d w2 HD2.out;rw [show (d.now.length:Int) - 26=(many:Int) by omega] at ks;have KS:Hid _:=ks;rw [← hmany] at HCF;clear ks hmany
    by_cases h12:12<n
    · have h12z:(12:Int)<(n:Int):=by omega
      rw [if_pos (.inl h12)] at HCF;go_wp2;go_ret;exact ⟨by rw [HCF.out];rfl,zhy HCF.out HBB.out HS.out HD.out HB2.out⟩
    have h12z:¬ (12:Int)<(n:Int):=by omega
    by_cases hmany:many<c.length+1
    · have hmz:(many:Int)<(c.length:Int)+1:=by omega
      rw [if_pos (.inr hmany)] at HCF
      go_wp2_with fail
      refine Calls.mono KS.out ?_;rintro e w3 ⟨rfl,hw⟩;rw [hw];clear hw w3 KS;go_wp2;go_ret;exact ⟨by rw [HCF.out];rfl,zhy HCF.out HBB.out HS.out HD.out HB2.out⟩
    have hmz:¬ (many:Int)<(c.length:Int)+1:=by omega
    rw [if_neg (by omega)] at HCF;obtain ⟨room,hroom⟩:∃ room,room=g.many - g.used:=⟨_,rfl⟩
    have KR:Hid (Calls Tryz.prog 110 #[.pointer (some ⟨s.lb,0,none⟩)] w2 fun e w'=>e=.returned (.int .i64 room)∧∃ n,w'=w2.drewN n):=by rw [hroom];exact zg3 s.lb g w2 HS2.out.log HGG.out.2.1
    rw [← hroom] at HCF;clear hroom
    go_wp2_with fail
    refine Calls.mono KS.out ?_;rintro e w3 ⟨rfl,hw⟩;rw [hw];clear hw w3 KS
    go_wp2_with fail
    refine Calls.mono KR.out ?_;rintro e w3 ⟨rfl,nn,hw⟩;have hb3:Below w2.heap.size w2 w3:=by rw [hw];exact below_drewN (Below.refl _ _) nn
    have HB3:Hid (Below w.heap.size w w3):=HB2.out.trans (hb3.mono HB2.out.size);have HS3:Hid (zag w3 lo b s g):=HS2.out.below hb3;have HD3:Hid (zab w3 p d):=HD2.out.below hb3;have HC3:Hid (Deed lo w3 a c):=HC2.out.below hb3;have HO3:Hid (zan w3 lo (.slice va n vc) (zah s.rows c)):=zaj HO2.out (fun k hk=>hb3.block k (HO2.out.lt k hk).2);clear hb3 hw KR c0 c3 HS2 HD2 HC2 HO2
    by_cases hrm:room<c.length+1
    · have hrz:(room:Int)<(c.length:Int)+1:=by omega
      rw [if_pos hrm] at HCF;have KV:Hid _:=zlI lo b p d s g w3 HS3.out HD3.out HBB.out HGG.out.2.1 HGG.out.2.2.2.2 h42 hs1 hr12 HRR.out.2 hwr
      go_wp2_with fail
      refine Calls.mono KV.out ?_;rintro e w5 ⟨rfl,u5,hd5,hn5,ht5,hor⟩;have HD5:Hid (zab w5 { p with wv:=u5 } (zbe d s g).1):=hd5;have HT5:Hid (zat (fun k=>(dOwn p k∨k=b)∨k=s.lb) w w5∧zbw p w u5):=⟨(zat.of_below HB3.out).trans (ht5.wide (fun k hk=>.inl hk)),zg5 hn5 HB3.out.size⟩;have HO5:Hid (zan w5 lo (.slice va n vc) (zah s.rows c)):=zqs HO3.out HD3.out HS3.out ht5;have HC5:Hid (Deed lo w5 a c):=HC3.out.touch ht5 (zoX HD3.out HS3.out hlo);clear hd5 hn5 ht5 KV;rcases hor with ⟨h0,hs5⟩ | ⟨h0,lb5,hlb5,hs5⟩
      · rw [if_neg h0] at HCF
        have HEV:Hid _:=zak h0;have HS5:Hid (zag w5 lo b s g):=hs5;rw [HEV.out];clear h0 hs5;go_wp2;go_ret;refine ⟨by rw [HCF.out,← HEV.out];rfl,u5,s.lb,s.ra,s.rc,by rw [HCF.out];exact HD5.out,HT5.out.2,HT5.out.1,?_⟩;rw [HCF.out,← HBB.out];exact HS5.out
      · rw [if_pos h0] at HCF
        rw [zac h0]
        have HSM:Hid (zag w5 lo b ⟨p.B,zaW d s g,s.ra,s.rc,s.rows,lb5⟩ (zb9 d s g)):=by
         rw [← HBB.out];unfold zb9;rw [HGG.out.1];rw [← HBB.out] at hs5 ⊢;exact hs5
        have HDM:Hid (zab w5 { p with wv:=u5 } (zbe d s g).1):=HD5.out;have HNM:Hid (zbw p w u5):=HT5.out.2;have HTM:Hid (zat (fun k=>(dOwn p k∨k=b)∨k=s.lb) w w5):=HT5.out.1;have HCM:Hid (Deed lo w5 a c):=HC5.out;have HOM:Hid (zan w5 lo (.slice va n vc) (zah s.rows c)):=HO5.out;have HLM:Hid (lb5=s.lb∨w.heap.size≤lb5):=.inr (Nat.le_trans HB3.out.size hlb5);have HGM:Hid ((zb9 d s g).dB=p.B∧LgOk (zb9 d s g)):=⟨HGG.out.1,zrM h42 h60⟩;have HWM:Hid ((zbe d s g).1.wr.length≤60):=by show _≤_;rw [zsF h0];decide
        have HXM:Hid (zai d s g c=addC (zbe d s g).1 (zaW d s g) (zb9 d s g) s.rows c):=HCF.out;clear h0 hs5 hlb5;obtain ⟨GD,hGD⟩:∃ GD,GD=addD (zb9 d s g) (zbe d s g).1 c:=⟨_,rfl⟩
        have KADD:Hid (Calls Tryz.prog 112 #[.pointer (some ⟨lb5,0,none⟩),.slice a c.length cap] w5 fun e w'=>e=.returned (errV GD.2)∧∃ u,zeO w5 w' lb5 (addG (zb9 d s g) (zbe d s g).1 c) { p with wv:=u5 } u GD.1):=by
         rw [hGD];exact zkR lb5 (zb9 d s g) { p with wv:=u5 } (zbe d s g).1 a cap c w5 HSM.out.log HGM.out.2 HDM.out HGM.out.1 HCM.out.cc (by omega) HWM.out
        have HXX:Hid (zai d s g c=if GD.2=0 then ⟨GD.1,0,(zaW d s g),addG (zb9 d s g) (zbe d s g).1 c,zah s.rows c⟩ else ⟨GD.1,GD.2,(zaW d s g),addG (zb9 d s g) (zbe d s g).1 c,s.rows⟩):=by show _=_;rw [HXM.out,hGD];rfl
        have m3:=HSM.out.at'.cells.2.2.2;clear hGD hrm
        go_wp2_with fail
        refine Calls.mono KADD.out ?_;rintro e w8 ⟨rfl,u8,ha8⟩;have HA8:Hid (zeO w5 w8 lb5 (addG (zb9 d s g) (zbe d s g).1 c) { p with wv:=u5 } u8 GD.1):=ha8;have HS8:Hid (zag w8 lo b ⟨p.B,(zaW d s g),s.ra,s.rc,s.rows,lb5⟩ (addG (zb9 d s g) (zbe d s g).1 c)):=HSM.out.added HDM.out ha8;have HT8:Hid (zat (fun k=>(dOwn p k∨k=b)∨k=s.lb) w w8∧zbw p w u8):=zna HTM.out HNM.out HLM.out ha8;have HO8:Hid (zan w8 lo (.slice va n vc) (zah s.rows c)):=zlj HOM.out HDM.out HSM.out ha8;clear ha8 KADD m3
        by_cases h0:GD.2=0
        · rw [zac h0]
          rw [if_pos h0] at HXX;clear h0;have f2:=zaE HS8.out.at'.blk 2;have c2':=HS8.out.at'.cells.2.2.1;go_wp2;go_ret;obtain ⟨k1,k2⟩:=HS8.out.rowed HA8.out.disk HN.out HO8.out;refine ⟨by rw [HXX.out];rfl,u8,lb5,va,vc,by rw [HXX.out];exact k1,HT8.out.2,znB HT8.out.1 2 _,by rw [HXX.out];exact k2⟩
        · rw [if_neg h0] at HXX
          have HEV:Hid _:=zak h0;rw [HEV.out];clear h0;go_wp2;go_ret;refine ⟨by rw [HXX.out,← HEV.out];rfl,u8,lb5,s.ra,s.rc,by rw [HXX.out];exact HA8.out.disk,HT8.out.2,HT8.out.1,by rw [HXX.out];exact HS8.out⟩
    · have hrz:¬ (room:Int)<(c.length:Int)+1:=by omega
      rw [if_neg hrm] at HCF;have HSM:Hid (zag w3 lo b ⟨p.B,s.side,s.ra,s.rc,s.rows,s.lb⟩ g):=by rw [← HBB.out];exact HS3.out
      have HDM:Hid (zab w3 { p with wv:=p.wv } d):=HD3.out;have HNM:Hid (zbw p w p.wv):=fun k hk=>.inl hk
      have HTM:Hid (zat (fun k=>(dOwn p k∨k=b)∨k=s.lb) w w3):=zat.of_below HB3.out;have HCM:Hid (Deed lo w3 a c):=HC3.out;have HOM:Hid (zan w3 lo (.slice va n vc) (zah s.rows c)):=HO3.out;have HLM:Hid (s.lb=s.lb∨w.heap.size≤s.lb):=.inl rfl;have HGM:Hid (g.dB=p.B∧LgOk g):=⟨HGG.out.1,HGG.out.2.1⟩;have HWM:Hid (d.wr.length≤60):=hwr;have HXM:Hid (zai d s g c=addC d s.side g s.rows c):=HCF.out;obtain ⟨GD,hGD⟩:∃ GD,GD=addD g d c:=⟨_,rfl⟩
      have KADD:Hid (Calls Tryz.prog 112 #[.pointer (some ⟨s.lb,0,none⟩),.slice a c.length cap] w3 fun e w'=>e=.returned (errV GD.2)∧∃ u,zeO w3 w' s.lb (addG g d c) { p with wv:=p.wv } u GD.1):=by
       rw [hGD];exact zkR s.lb g { p with wv:=p.wv } d a cap c w3 HSM.out.log HGM.out.2 HDM.out HGM.out.1 HCM.out.cc (by omega) HWM.out
      have HXX:Hid (zai d s g c=if GD.2=0 then ⟨GD.1,0,s.side,addG g d c,zah s.rows c⟩ else ⟨GD.1,GD.2,s.side,addG g d c,s.rows⟩):=by show _=_;rw [HXM.out,hGD];rfl
      have m3:=HSM.out.at'.cells.2.2.2;clear hGD hrm
      go_wp2_with fail
      refine Calls.mono KADD.out ?_;rintro e w8 ⟨rfl,u8,ha8⟩;have HA8:Hid (zeO w3 w8 s.lb (addG g d c) { p with wv:=p.wv } u8 GD.1):=ha8;have HS8:Hid (zag w8 lo b ⟨p.B,s.side,s.ra,s.rc,s.rows,s.lb⟩ (addG g d c)):=HSM.out.added HDM.out ha8;have HT8:Hid (zat (fun k=>(dOwn p k∨k=b)∨k=s.lb) w w8∧zbw p w u8):=zna HTM.out HNM.out (.inl rfl) ha8;have HO8:Hid (zan w8 lo (.slice va n vc) (zah s.rows c)):=zlj HOM.out HDM.out HSM.out ha8;clear ha8 KADD m3
      by_cases h0:GD.2=0
      · rw [zac h0]
        rw [if_pos h0] at HXX;clear h0;have f2:=zaE HS8.out.at'.blk 2;have c2':=HS8.out.at'.cells.2.2.1;go_wp2;go_ret;obtain ⟨k1,k2⟩:=HS8.out.rowed HA8.out.disk HN.out HO8.out;refine ⟨by rw [HXX.out];rfl,u8,s.lb,va,vc,by rw [HXX.out];exact k1,HT8.out.2,znB HT8.out.1 2 _,by rw [HXX.out];exact k2⟩
      · rw [if_neg h0] at HXX
        have HEV:Hid _:=zak h0;rw [HEV.out];clear h0;go_wp2;go_ret;refine ⟨by rw [HXX.out,← HEV.out];rfl,u8,s.lb,s.ra,s.rc,by rw [HXX.out];exact HA8.out.disk,HT8.out.2,HT8.out.1,by rw [HXX.out];exact HS8.out⟩
end Go.Proofs.YtihnghnafpgdfadGreatDoor
