/- What the proofs stand on, part 22: StoreSaves. -/
import Derived.Test.YtihnghnafpgdfadGreatDoorSk14
import Derived.Test.YtihnghnafpgdfadGreatDoorSk21
import Derived.Test.YtihnghnafpgdfadGreatDoorSk07
set_option linter.unusedVariables false
set_option linter.unusedSimpArgs false
set_option maxRecDepth 100000
set_option maxHeartbeats 4000000
namespace Go.Proofs.YtihnghnafpgdfadGreatDoor
open Go Go.RowKit Go.BigFrame
variable {W w w':World}{b c i lo n:Nat}{a:Option Addr}{l:List Ch}{s:St}{g g':Lg}{p:Dp}{d:Dk}{C:Array Value}{T:TypeId}{fr:Nat × Nat}{u:Value}
theorem zan.slice (h:zan w lo (.slice a n c) l):zdk w a c l:=by
 obtain ⟨a',c',e,hcc,hnil,-⟩:=zan.files h
 injection e with e1 e2 e3
 exact ⟨by rw [e1];exact hcc,by rw [e1,e3];exact hnil⟩
theorem zag.touch (h:zag w lo b s g)(hd:zab w p d)(ht:zat (dOwn p) w w'):zag w' lo b s g:=by
 have ho:zan w' lo (.slice s.ra s.rows.length s.rc) s.rows:=zaj h.own (fun k hk=>by obtain ⟨c,f,e⟩:=Lib.ownsRow_kind h.own k hk;exact ht.other hd e (by decide));exact ⟨⟨(ht.other hd h.at'.blk (by decide)).trans h.at'.blk,zan.slice ho⟩,ho,h.log.touch hd ht,h.low⟩
theorem zag.below (h:zag w lo b s g)(hb:Below w.heap.size w w'):zag w' lo b s g :=
 ⟨h.at'.below hb,zaj h.own (fun k hk=>hb.block k (h.own.lt k hk).2),h.log.below hb,h.low⟩
def zaW (d:Dk)(s:St)(g:Lg):Nat:=if g.many - g.used<d.now.length - 26 then 1 - s.side else s.side
def zbe (d:Dk)(s:St)(g:Lg):Dk × Int:=layT d (zaW d s g) (baL (zbc s.rows)) s.rows.length
def ztn (w:World) (lo b:Nat) (p:Dp) (d:Dk) (s:St) (g:Lg) (e:Ending) (w':World):Prop :=
 e = .returned (errV (zbe d s g).2)∧∃ u,zab w' { p with wv:=u } (zbe d s g).1∧zbw p w u∧zat (fun k=>dOwn p k∨k=b) w w' ∧
   ((¬ (zbe d s g).2=0∧zag w' lo b s g)∨((zbe d s g).2=0∧∃ lb,w.heap.size≤lb∧zag w' lo b { s with side:=zaW d s g,lb:=lb } ⟨p.B,26,d.now.length - 26,zaf d (zaW d s g),0⟩))
theorem ziS (d:Dk) (i k:Nat) (T:ByteArray):(layT d i T k).1.now.length=d.now.length:=by
 have h1:∀ (l:List ByteArray) (D:Dk) (a:Nat),(zap D a l).1.now.length=D.now.length:=by
  intro l
  induction l with
  | nil=>intro D a;rfl
  | cons s r ih =>
    intro D a;unfold zap
    have hw:(zaN D a s).now.length=D.now.length:=by
     unfold zaN;have h:=(zbU D).1
     repeat' split
     all_goals simp [h]
    split
    · rw [ih,hw]
    · exact hw
 have h2:∀ (D:Dk) (a:Nat) (l:List ByteArray),(layD D a l).1.now.length=D.now.length:=by
  intro D a l;unfold layD
  split
  · have:(zaO (zap D a l).1).now=(zaK (zap D a l).1).now:=by unfold zaO;split <;> rfl
    simp only [this,(zbU _).1];exact h1 l D a
  · exact h1 l D a
 unfold layT
 split
 · simp only [seqD]
   repeat' split
   all_goals simp only [h2]
 · exact h2 _ _ _
theorem zjn (h:zag w lo b s g)(hB:s.dB=p.B):w.cell? ⟨b,0,none⟩=some (.pointer (some ⟨p.B,0,none⟩)):=by
 have:=h.at'.cells.1;rw [hB] at this
 exact this
theorem zkM (h:zag w lo b s g)(hB:s.dB=p.B)(x:Value):(w.setCell ⟨b,1,none⟩ x).cell? ⟨b,0,none⟩=some (.pointer (some ⟨p.B,0,none⟩)):=by
 have h1:=zaZ h.at'.blk 1 x;rw [zaa h1,← hB];rfl
theorem zle (h:zag w lo b s g)(hB:s.dB=p.B)(x y:Value):((w.setCell ⟨b,1,none⟩ x).setCell ⟨b,3,none⟩ y).cell? ⟨b,0,none⟩=some (.pointer (some ⟨p.B,0,none⟩)):=by
 have h1:=zaZ h.at'.blk 1 x;have h2:=zaZ (w:=w.setCell ⟨b,1,none⟩ x) h1 3 y;rw [zaa h2,← hB];rfl
theorem zhX (h:zag w lo b s g)(hB:s.dB=p.B):w.cell? ⟨b,0,none⟩=some (.pointer (some ⟨p.B,0,none⟩))∧w.cell? ⟨b,2,none⟩=some (.slice s.ra s.rows.length s.rc):=⟨zjn h hB,h.at'.cells.2.2.1⟩
theorem ziK {S:Nat→Prop}(h:zat (fun k=>S k∨k=b) w W)(i:Nat)(v:Value):zat (fun k=>S k∨k=b) w (W.setCell ⟨b,i,none⟩ v) :=
 ⟨h.os,h.tape,h.output,by rw [World.size_setCell];exact h.size,fun k hk hn=>(Below.heap_setCell W ⟨b,i,none⟩ v k (fun e=>hn (.inr e))).trans (h.block k hk hn)⟩
theorem zhW (v:Value)(h:zab W p d)(hb:W.heap[b]?=some (.cells C T fr))(hT:T≠78∧T≠84∧T≠86):zab (W.setCell ⟨b,i,none⟩ v) p d :=
 h.far fun k hk=>Below.heap_setCell _ _ _ _ (fun e=>by
  obtain ⟨C',T',fr',e',hT'⟩:=h.kind hk;simp only at e;rw [e,hb] at e';simp at e';rcases hT' with hT' | hT' | hT'
  · exact hT.1 (by rw [e'.2.1,hT'])
  · exact hT.2.1 (by rw [e'.2.1,hT'])
  · exact hT.2.2 (by rw [e'.2.1,hT']))
theorem zag.moved {l:Nat}(h:zag w lo b s g)(hd:zab w p d)(hl:zba w l g')(sd:Nat)(hlo:lo≤l):
 zab ((w.setCell ⟨b,1,none⟩ (.int .i64 sd)).setCell ⟨b,3,none⟩ (.pointer (some ⟨l,0,none⟩))) p d∧zag ((w.setCell ⟨b,1,none⟩ (.int .i64 sd)).setCell ⟨b,3,none⟩ (.pointer (some ⟨l,0,none⟩))) lo b { s with side:=sd,lb:=l } g':=by
 have h1:=zaZ h.at'.blk 1 (.int .i64 sd);have h2:=zaZ (w:=w.setCell ⟨b,1,none⟩ (.int .i64 sd)) h1 3 (.pointer (some ⟨l,0,none⟩))
 have ho:zan ((w.setCell ⟨b,1,none⟩ (.int .i64 sd)).setCell ⟨b,3,none⟩ (.pointer (some ⟨l,0,none⟩))) lo (.slice s.ra s.rows.length s.rc) s.rows:=by
  refine zaj h.own (fun k hk=>?_);obtain ⟨c,f,e⟩:=Lib.ownsRow_kind h.own k hk
  have hne:k≠b:=fun e'=>by
   rw [e',h.at'.blk] at e;simp at e
  exact (Below.heap_setCell _ _ _ _ hne).trans (Below.heap_setCell _ _ _ _ hne)
 have hlb:l≠b:=fun e=>by
  unfold zba at hl;rw [e,h.at'.blk] at hl;simp at hl
 refine ⟨zhW _ (zhW _ hd h.at'.blk (by decide)) h1 (by decide),⟨⟨h2,zan.slice ho⟩,ho,?_,h.low.1,hlo⟩⟩;show _=_;rw [Below.heap_setCell _ _ _ _ hlb,Below.heap_setCell _ _ _ _ hlb];exact hl
theorem zg5 (h:zbw p W u)(hs:w.heap.size≤W.heap.size):zbw p w u:=fun k hk=>by
 rcases h k hk with e | e
 · exact .inl e
 · exact .inr (Nat.le_trans hs e)
theorem zlI (lo b:Nat) (p:Dp) (d:Dk) (s:St) (g:Lg) (w:World) (h:zag w lo b s g) (hd:zab w p d) (hB:s.dB=p.B) (hg:LgOk g) (hgm:g.many=d.now.length - 26) (h42:42≤d.now.length) (hs1:s.side≤1) (hr12:s.rows.length≤12) (hok:∀ c ∈ s.rows,zae c=0) (hwr:d.wr.length≤60) :
 Calls Tryz.prog 111 #[.pointer (some ⟨b,0,none⟩)] w fun e w'=>ztn w lo b p d s g e w':=by
 have HS:Hid (zag w lo b s g):=h;have HD:Hid (zab w p d):=hd;obtain ⟨c0,c1,c2,c3⟩:=h.at'.cells;rw [hB] at c0;have HC0:Hid _:=c0;have hmix:Tryz.prog.follows .mixedOrders=true:=by kernel_rfl
 have hu:=hg.used;have h60:=hd.few;obtain ⟨many,hmany⟩:∃ many,many=d.now.length - 26:=⟨_,rfl⟩
 obtain ⟨room,hroom⟩:∃ room,room=g.many - g.used:=⟨_,rfl⟩
 have HTO:Hid (zaW d s g=if room<many then 1 - s.side else s.side):=by show _=_;unfold zaW;rw [hmany,hroom]
 have KR:Hid (∀ q:zcW w,Calls Tryz.prog 110 #[.pointer (some ⟨s.lb,0,none⟩)] q.W fun e w'=>e=.returned (.int .i64 room)∧∃ q:zcW w,w'=q.W):=fun q=>by rw [hroom];exact zqA q (zg3 s.lb g q.W (h.log.below q.h) hg)
 have hmz:(d.now.length:Int) - 26=(many:Int):=by omega
 have KS:Hid (∀ q:zcW w,Calls Tryz.prog 90 #[.pointer (some ⟨p.B,0,none⟩)] q.W fun e w'=>e=.returned (.int .i64 many)∧∃ q:zcW w,w'=q.W):=fun q=>by
  have:=zbl p d q.W (hd.below q.h);rw [hmz] at this
  exact zkG q this
 have some':=zcW.ne w;have l0:=zcW.cell c0;have l1:=zcW.cell c1;have l2:=zcW.cell c2;have l3:=zcW.cell c3;have HMANY:Hid (many=d.now.length - 26):=hmany;clear h hd hg hgm hmany hroom hu
 go_enter Tryz.func111,Tryz.ntmps111
 go_wp2_with fail
 refine zbV (by kernel_rfl) (by kernel_rfl) ?_
 repeat (go_big_quiet_step ((first | (go_at_call 110;exact KR.out _) | (go_at_call 90;exact KS.out _))))
 refine wpQuiet_nil ?_;rintro _ ⟨q,rfl⟩;obtain ⟨wq,hwq⟩:∃ wq,wq=q.W:=⟨_,rfl⟩
 have HSQ:Hid (zag wq lo b s g):=by rw [hwq];exact HS.out.below q.h
 have HDQ:Hid (zab wq p d):=by rw [hwq];exact HD.out.below q.h
 have HBLQ:Hid (Below w.heap.size w wq.drew):=by rw [hwq];exact q.h.drew
 have HSQD:Hid (zag wq.drew lo b s g):=HSQ.out.below (Below.refl _ wq).drew;have HDQD:Hid (zab wq.drew p d):=HDQ.out.below (Below.refl _ wq).drew;have HBB:Hid (s.dB=p.B):=hB;have c0:=zjn HSQ.out HBB.out;obtain ⟨-,c1,c2,c3⟩:=HSQ.out.at'.cells;rw [← hwq];obtain ⟨T,hT⟩:∃ T,T=baL (zbc s.rows):=⟨_,rfl⟩
 have hTs:T.size=40 * s.rows.length:=by rw [hT,za3,zcM hok];omega
 obtain ⟨sd,hsd⟩:∃ sd,sd=zaW d s g:=⟨_,rfl⟩
 have hsd1:sd≤1:=by rw [hsd,HTO.out];split <;> omega
 obtain ⟨R,hR⟩:∃ R,R=layT d sd T s.rows.length:=⟨_,rfl⟩
 have HRR:Hid (zbe d s g=R):=by show _=_;rw [hR,hsd,hT];rfl
 have HRL:Hid (R.1.now.length=d.now.length):=by show _=_;rw [hR];exact ziS _ _ _ _
 have KT:Hid (∀ W,zag W lo b s g→Calls Tryz.prog 151 #[.slice s.ra s.rows.length s.rc] W fun e w'=>e=.returned (.string T)∧Below W.heap.size W w'):=fun W hW=>by rw [hT];exact zf3 s.ra s.rc s.rows W (by omega) hW.at'.rows.cells hok
 have KLY:Hid (∀ W,zab W p d→Calls Tryz.prog 150 #[.pointer (some ⟨p.B,0,none⟩),.int .i64 sd,.string T] W fun e w'=>e=.returned (errV R.2)∧∃ u,zab w' { p with wv:=u } R.1∧zat (dOwn p) W w'∧zbw p W u):=fun W hW=>by rw [hR];exact zmd p d sd s.rows.length T W hW hsd1 hr12 hTs hwr
 have HSD:Hid (sd=zaW d s g):=hsd;rw [← hsd] at HTO;have KO:Hid (∀ W,Calls Tryz.prog 122 #[.int .i64 s.side] W fun e w'=>e=.returned (.int .i64 ((1 - s.side:Nat):Int))∧w'=W):=fun W=>zde s.side W hs1
 clear hwq q KR KS l0 l1 l2 l3 some' hsd hR hT hok HC0
 by_cases hrm:room<many
 · rw [if_pos hrm] at HTO
   rw [← HTO.out] at KO
   go_wp2_with fail
   refine Calls.mono (KO.out _) ?_;rintro e w2 ⟨rfl,hw⟩;rw [hw];clear hw w2 KO
   go_wp2_with fail
   refine zfu ?_
   go_region_held3 (fun W=>W.cell? ⟨b,0,none⟩=some (.pointer (some ⟨p.B,0,none⟩))∧W.cell? ⟨b,2,none⟩=some (.slice s.ra s.rows.length s.rc))
    (first | exact zhX HSQD.out HBB.out | exact zhX HS3.out HBB.out | exact zhX HS4.out HBB.out)
    (first
      | (go_at_call 151
         refine Calls.mono (KT.out _ HSQD.out) ?_;rintro e w3 ⟨rfl,hb3⟩;have HS3:Hid (zag w3 lo b s g):=HSQD.out.below hb3;have HD3:Hid (zab w3 p d):=HDQD.out.below hb3;have HBL3:Hid (Below w.heap.size w w3):=HBLQ.out.trans (hb3.mono HBLQ.out.size);have c0c:=zjn HS3.out HBB.out;clear hb3)
      | (go_at_call 150
         refine Calls.mono (KLY.out _ HD3.out) ?_;rintro e w4 ⟨rfl,u4,hd4,ht4,hn4⟩;have HS4:Hid (zag w4 lo b s g):=HS3.out.touch HD3.out ht4;have HD4:Hid (zab w4 { p with wv:=u4 } R.1):=hd4;have HT4:Hid (zat (dOwn p) w w4):=(zat.of_below HBL3.out).trans ht4;have HN4:Hid (zbw p w u4):=zg5 hn4 HBL3.out.size;clear hd4 ht4 hn4))
   all_goals
    simp only [zdy]
    by_cases h0:R.2=0
    · rw [zac h0]
      have HEV:Hid (errV R.2=.nilIface):=zac h0;have HR0:Hid (R.2=0):=h0;clear h0;have HS5:Hid (zag w4.drew lo b s g):=HS4.out.below (Below.refl _ w4).drew;have HD5:Hid (zab w4.drew { p with wv:=u4 } R.1):=HD4.out.below (Below.refl _ w4).drew;have kc:=zbl { p with wv:=u4 } R.1 w4.drew HD5.out;rw [HRL.out,hmz] at kc;have KC:Hid _:=kc;have kf:=zev { p with wv:=u4 } R.1 sd w4.drew HD5.out hsd1 (by rw [HRL.out];omega);rw [HRL.out] at kf;obtain ⟨fs,hfs⟩:∃ fs,fs=zaf d sd:=⟨_,rfl⟩
      have HFS:Hid (fs=zaf d sd):=hfs;have KF:Hid (Calls Tryz.prog 91 #[.pointer (some ⟨p.B,0,none⟩),.int .i64 sd] w4.drew fun e w'=>e=.returned (.int .i64 fs)∧w'=w4.drew):=by rw [hfs];exact kf
      have KN:Hid _:=zh0 p.B 26 many fs w4.drew;have d0:=zjn HS4.out HBB.out;obtain ⟨-,d1,d2,d3⟩:=HS4.out.at'.cells;clear kc kf hfs c0 c1 c2 c3 c0c
      go_wp2_with fail
      refine zfu ?_
      go_region_held3 (fun W=>W.cell? ⟨b,0,none⟩=some (.pointer (some ⟨p.B,0,none⟩)))
       (first | exact zjn HS5.out HBB.out | exact zjn HS6.out HBB.out | exact zkM HS6.out HBB.out _ | exact zle HS6.out HBB.out _ _)
       (first
         | (go_at_call 90
            refine Calls.mono KC.out ?_;rintro e w6 ⟨rfl,hw⟩;rw [hw];clear hw w6)
         | (go_at_call 91
            refine Calls.mono KF.out ?_;rintro e w6 ⟨rfl,hw⟩;rw [hw];clear hw w6)
         | (go_at_call 127
            refine Calls.mono KN.out ?_;rintro e w6 ⟨rfl,hlog6,hb6⟩;have HS6:Hid (zag w6 lo b s g):=HS5.out.below hb6;have HLOG6:Hid (zba w6 w4.heap.size ⟨p.B,26,many,fs,0⟩):=hlog6;have HB6:Hid (Below w4.drew.heap.size w4.drew w6):=hb6;have e1:=HS6.out.at'.cells.2.1;have e3:=HS6.out.at'.cells.2.2.2;have f1:=zaE HS6.out.at'.blk 1;have f3:=zaE HS6.out.at'.blk 3;clear hlog6 hb6))
      all_goals
       simp only [zdy];go_wp2;go_ret;have hto:=HT4.out.wide (S':=fun k=>dOwn p k∨k=b) (fun k hk=>.inl hk);have hto6:=hto.trans (zat.of_below ((Below.refl w4.heap.size w4).drew.trans HB6.out));obtain ⟨k1,k2⟩:=HS6.out.moved (HD5.out.below HB6.out) HLOG6.out sd (Nat.le_trans HS6.out.low.1 (Nat.le_of_lt (Array.getElem?_eq_some_iff.1 HS4.out.at'.blk).1));rw [HMANY.out,HFS.out] at k2;exact ⟨by rw [HRR.out,HEV.out];rfl,u4,by rw [HRR.out];exact k1,HN4.out,ziK (ziK hto6 1 _) 3 _,.inr ⟨by rw [HRR.out];exact HR0.out,_,HT4.out.size,by rw [← HSD.out];exact k2⟩⟩
    · have HEV:Hid _:=zak h0
      have HR0:Hid (¬ R.2=0):=h0;rw [HEV.out];clear h0;go_wp2;go_ret;refine ⟨by rw [HRR.out,HEV.out];rfl,u4,by rw [HRR.out];exact HD4.out,HN4.out,HT4.out.wide (fun k hk=>.inl hk),.inl ⟨by rw [HRR.out];exact HR0.out,HS4.out⟩⟩
 · rw [if_neg hrm] at HTO
   have hss:s.side=sd:=HTO.out.symm;rw [hss] at c1 ⊢;clear KO hss
   go_wp2_with fail
   refine zfu ?_
   go_region_held3 (fun W=>W.cell? ⟨b,0,none⟩=some (.pointer (some ⟨p.B,0,none⟩))∧W.cell? ⟨b,2,none⟩=some (.slice s.ra s.rows.length s.rc))
    (first | exact zhX HSQD.out HBB.out | exact zhX HS3.out HBB.out | exact zhX HS4.out HBB.out)
    (first
      | (go_at_call 151
         refine Calls.mono (KT.out _ HSQD.out) ?_;rintro e w3 ⟨rfl,hb3⟩;have HS3:Hid (zag w3 lo b s g):=HSQD.out.below hb3;have HD3:Hid (zab w3 p d):=HDQD.out.below hb3;have HBL3:Hid (Below w.heap.size w w3):=HBLQ.out.trans (hb3.mono HBLQ.out.size);have c0c:=zjn HS3.out HBB.out;clear hb3)
      | (go_at_call 150
         refine Calls.mono (KLY.out _ HD3.out) ?_;rintro e w4 ⟨rfl,u4,hd4,ht4,hn4⟩;have HS4:Hid (zag w4 lo b s g):=HS3.out.touch HD3.out ht4;have HD4:Hid (zab w4 { p with wv:=u4 } R.1):=hd4;have HT4:Hid (zat (dOwn p) w w4):=(zat.of_below HBL3.out).trans ht4;have HN4:Hid (zbw p w u4):=zg5 hn4 HBL3.out.size;clear hd4 ht4 hn4))
   all_goals
    simp only [zdy]
    by_cases h0:R.2=0
    · rw [zac h0]
      have HEV:Hid (errV R.2=.nilIface):=zac h0;have HR0:Hid (R.2=0):=h0;clear h0;have HS5:Hid (zag w4.drew lo b s g):=HS4.out.below (Below.refl _ w4).drew;have HD5:Hid (zab w4.drew { p with wv:=u4 } R.1):=HD4.out.below (Below.refl _ w4).drew;have kc:=zbl { p with wv:=u4 } R.1 w4.drew HD5.out;rw [HRL.out,hmz] at kc;have KC:Hid _:=kc;have kf:=zev { p with wv:=u4 } R.1 sd w4.drew HD5.out hsd1 (by rw [HRL.out];omega);rw [HRL.out] at kf;obtain ⟨fs,hfs⟩:∃ fs,fs=zaf d sd:=⟨_,rfl⟩
      have HFS:Hid (fs=zaf d sd):=hfs;have KF:Hid (Calls Tryz.prog 91 #[.pointer (some ⟨p.B,0,none⟩),.int .i64 sd] w4.drew fun e w'=>e=.returned (.int .i64 fs)∧w'=w4.drew):=by rw [hfs];exact kf
      have KN:Hid _:=zh0 p.B 26 many fs w4.drew;have d0:=zjn HS4.out HBB.out;obtain ⟨-,d1,d2,d3⟩:=HS4.out.at'.cells;clear kc kf hfs c0 c1 c2 c3 c0c
      go_wp2_with fail
      refine zfu ?_
      go_region_held3 (fun W=>W.cell? ⟨b,0,none⟩=some (.pointer (some ⟨p.B,0,none⟩)))
       (first | exact zjn HS5.out HBB.out | exact zjn HS6.out HBB.out | exact zkM HS6.out HBB.out _ | exact zle HS6.out HBB.out _ _)
       (first
         | (go_at_call 90
            refine Calls.mono KC.out ?_;rintro e w6 ⟨rfl,hw⟩;rw [hw];clear hw w6)
         | (go_at_call 91
            refine Calls.mono KF.out ?_;rintro e w6 ⟨rfl,hw⟩;rw [hw];clear hw w6)
         | (go_at_call 127
            refine Calls.mono KN.out ?_;rintro e w6 ⟨rfl,hlog6,hb6⟩;have HS6:Hid (zag w6 lo b s g):=HS5.out.below hb6;have HLOG6:Hid (zba w6 w4.heap.size ⟨p.B,26,many,fs,0⟩):=hlog6;have HB6:Hid (Below w4.drew.heap.size w4.drew w6):=hb6;have e1:=HS6.out.at'.cells.2.1;have e3:=HS6.out.at'.cells.2.2.2;have f1:=zaE HS6.out.at'.blk 1;have f3:=zaE HS6.out.at'.blk 3;clear hlog6 hb6))
      all_goals
       simp only [zdy];go_wp2;go_ret;have hto:=HT4.out.wide (S':=fun k=>dOwn p k∨k=b) (fun k hk=>.inl hk);have hto6:=hto.trans (zat.of_below ((Below.refl w4.heap.size w4).drew.trans HB6.out));obtain ⟨k1,k2⟩:=HS6.out.moved (HD5.out.below HB6.out) HLOG6.out sd (Nat.le_trans HS6.out.low.1 (Nat.le_of_lt (Array.getElem?_eq_some_iff.1 HS4.out.at'.blk).1));rw [HMANY.out,HFS.out] at k2;exact ⟨by rw [HRR.out,HEV.out];rfl,u4,by rw [HRR.out];exact k1,HN4.out,ziK (ziK hto6 1 _) 3 _,.inr ⟨by rw [HRR.out];exact HR0.out,_,HT4.out.size,by rw [← HSD.out];exact k2⟩⟩
    · have HEV:Hid _:=zak h0
      have HR0:Hid (¬ R.2=0):=h0;rw [HEV.out];clear h0;go_wp2;go_ret;refine ⟨by rw [HRR.out,HEV.out];rfl,u4,by rw [HRR.out];exact HD4.out,HN4.out,HT4.out.wide (fun k hk=>.inl hk),.inl ⟨by rw [HRR.out];exact HR0.out,HS4.out⟩⟩
end Go.Proofs.YtihnghnafpgdfadGreatDoor
