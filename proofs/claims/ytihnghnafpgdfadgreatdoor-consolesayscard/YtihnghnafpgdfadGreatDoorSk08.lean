/- What the proofs stand on, part 8: QuiltSwap. -/
import Derived.Deep.RegionWith
import Derived.Test.YtihnghnafpgdfadGreatDoorSk04
import Derived.Test.YtihnghnafpgdfadGreatDoorSk07
set_option linter.unusedVariables false
set_option linter.unusedSimpArgs false
set_option maxRecDepth 100000
set_option maxHeartbeats 4000000
namespace Go.Proofs.YtihnghnafpgdfadGreatDoor
open Go.RowKit
variable {l:List Fi}{a b:ByteArray}{f g:Fi}
theorem zoS (hg:Good l)(hf:getF l a=some f)(hgg:getF l b=some g)(h1:f.k<9999)(h2:g.k<9999)(hab:¬ a=b):
 putN l ⟨a,g.t,f.k+1⟩=0∧Good (putF l ⟨a,g.t,f.k+1⟩)∧putN (putF l ⟨a,g.t,f.k+1⟩) ⟨b,f.t,g.k+1⟩=0∧Good (zfO l a b f g):=by
 obtain ⟨fm,fn⟩:=zbh hf;obtain ⟨gm,gn⟩:=zbh hgg;have tf:=hg.times fm;have tg:=hg.times gm;have hha:hasF l a=true:=(zrh hg a).2 ⟨f,fm,fn⟩;have f1:(Fi.mk a g.t (f.k+1)).fault=0:=ziR (by rw [← fn];exact tf.1) tg.2.1 (by show 1≤f.k+1;omega) (by show f.k+1≤9999;omega);have g1:Good (putF l ⟨a,g.t,f.k+1⟩):=zfe hg f1 (fun h=>by rw [hha] at h;cases h);have hb:getF (putF l ⟨a,g.t,f.k+1⟩) b=some g:=by rw [zbp hg g1 (fun e=>hab e.symm)];exact hgg
 have hhb:hasF (putF l ⟨a,g.t,f.k+1⟩) b=true:=(zrh g1 b).2 ⟨g,(zbh hb).1,gn⟩;have f2:(Fi.mk b f.t (g.k+1)).fault=0:=ziR (by rw [← gn];exact tg.1) tf.2.1 (by show 1≤g.k+1;omega) (by show g.k+1≤9999;omega);refine ⟨by simp [putN,f1,hha],g1,by simp [putN,f2,hhb],?_⟩;exact zfe g1 f2 (fun h=>by rw [hhb] at h;cases h)
theorem ztJ (a:Option Addr) (cap:Nat) (l:List Fi) (t:Int) (na nb:ByteArray) (w:World) (hq:zau l t) (hs:za5 w a cap l) (hn:na.size≤maxLen) (hx:nb.size≤maxLen) :
 Calls Tryz.prog 80 #[.agg #[.slice a l.length cap,.int .i64 t],.string na,.string nb] w (zdb w (zbs l t na nb)):=by
 have HS:Hid (za5 w a cap l):=hs;have HQ:Hid (zau l t):=hq;have hl:=hq.files.few;have ht0:=hq.low;have ht1:=hq.high;clear hs hq;generalize hr:zbs l t na nb=r;have HRN:Hid (zbs l t na nb=r):=hr;clear hr
 go_enter Tryz.func80,Tryz.ntmps80
 go_wp2_with fail
 refine (zfv a cap l na _ HQ.out.files (by exact (HS.out.cells.alloc _).alloc _)).mono ?_;rintro e w1 ⟨rfl,hb⟩;have q1:QBox w1 w.heap.size (.slice a l.length cap) t:=((QBox.new w _ t _).alloc _).below hb (by simp;omega)
 have s1:QBox w1 (w.heap.size+1) (.slice none 0 0) 0:=by
  have:=QBox.new (w.alloc (.cells #[.slice a l.length cap,.int .i64 t] 32)) (.slice none 0 0) 0 32;rw [World.size_alloc] at this
  exact this.below hb (by simp)
 have HB1:Hid (Below w.heap.size w w1):=(((Below.refl _ _).alloc (Nat.le_refl _) _).alloc (by simp) _).trans (hb.mono (by simp;omega));have HS1:Hid (za5 w1 a cap l):=HS.out.below HB1.out;have HQ1:Hid (QBox w1 w.heap.size (.slice a l.length cap) t):=q1;have HR1:Hid (QBox w1 (w.heap.size+1) (.slice none 0 0) 0):=s1;rw [zh3];generalize hgd:zdq (getF l na)=f;generalize hgb:(getF l na).isSome=fb;have HGF:Hid (zdq (getF l na)=f):=hgd;have HGB:Hid ((getF l na).isSome=fb):=hgb;clear hb hgd hgb s1;obtain ⟨x0,x1,_,_,xl,_⟩:=q1
 go_wp2_with fail
 refine (zfv a cap l nb _ HQ.out.files (by exact HS1.out.cells.alloc _)).mono ?_;rintro e w2 ⟨rfl,hb⟩;rw [zh3];generalize hgd:zdq (getF l nb)=g;generalize hgb:(getF l nb).isSome=gb;have HGG:Hid (zdq (getF l nb)=g):=hgd;have HGC:Hid ((getF l nb).isSome=gb):=hgb;have HF2:Hid (FBox w2 w1.heap.size f):=(FBox.new w1 f _).below hb (by simp);have HQ2:Hid (QBox w2 w.heap.size (.slice a l.length cap) t):=(HQ1.out.alloc _).below hb (by simp;have:=HQ1.out.lt;omega);have HR2:Hid (QBox w2 (w.heap.size+1) (.slice none 0 0) 0):=(HR1.out.alloc _).below hb (by simp;have:=HR1.out.lt;omega);have HB2:Hid (Below w.heap.size w w2):=(HB1.out.alloc HB1.out.size _).trans (hb.mono (by simp;have:=HB1.out.size;omega));have HS2:Hid (za5 w2 a cap l):=HS.out.below HB2.out;clear x0 x1 xl hb hgd hgb HQ1 HR1 HS1 HB1 HS;obtain ⟨x0,x1,_,_,xl,_⟩:=HQ2.out;obtain ⟨y0,y1,yf0,yf1,yl,yo⟩:=HR2.out;obtain ⟨z0,z1,z2,zf,zl⟩:=HF2.out;clear yo;cases fb with
 | false =>
   have hga:getF l na=none:=by have:=HGB.out;cases h:getF l na with | none=>rfl | some _=>rw [h] at this;cases this
   have HRR:Hid (r=⟨[],0,5⟩):=by show _=_;rw [← HRN.out];simp [zbs,hga,zd0]
   clear hga;go_wp2;rw [HRR.out];refine bodyPost_ret (v:=.tuple #[.agg #[.slice none 0 0,.int .i64 0],errV 5]) (by simp [results,Tryz.results80,go_sem,y0,y1,yl,errV]) rfl ⟨none,0,rfl,zc6 _,?_⟩
   repeat (first | exact HB2.out | refine Below.setCell ?_ (Nat.le_succ _) _ | refine Below.alloc ?_ (by simp;have:=HB2.out.size;omega) _)
 | true =>
   have hga:getF l na=some f:=by have h1:=HGB.out;have h2:=HGF.out;cases h:getF l na with | none=>rw [h] at h1;cases h1 | some _=>rw [h] at h2;rw [← h2];rfl
   have HGA:Hid (getF l na=some f):=hga;clear hga;cases gb with
   | false =>
     have hgb:getF l nb=none:=by have:=HGC.out;cases h:getF l nb with | none=>rfl | some _=>rw [h] at this;cases this
     have HRR:Hid (r=⟨[],0,5⟩):=by show _=_;rw [← HRN.out];simp [zbs,HGA.out,hgb,zd0]
     clear hgb;go_wp2;rw [HRR.out];refine bodyPost_ret (v:=.tuple #[.agg #[.slice none 0 0,.int .i64 0],errV 5]) (by simp [results,Tryz.results80,go_sem,y0,y1,yl,errV]) rfl ⟨none,0,rfl,zc6 _,?_⟩
     repeat (first | exact HB2.out | refine Below.setCell ?_ (Nat.le_succ _) _ | refine Below.alloc ?_ (by simp;have:=HB2.out.size;omega) _)
   | true =>
     have hgb:getF l nb=some g:=by have h1:=HGC.out;have h2:=HGG.out;cases h:getF l nb with | none=>rw [h] at h1;cases h1 | some _=>rw [h] at h2;rw [← h2];rfl
     have HGBB:Hid (getF l nb=some g):=hgb;have tf:=HQ.out.files.times (zbh HGA.out).1;have tg:=HQ.out.files.times (zbh hgb).1;obtain ⟨_,tf1,tf2,tf3⟩:=tf;obtain ⟨_,tg1,tg2,tg3⟩:=tg;clear hgb
     by_cases hfull:9999≤f.k∨9999≤g.k
     · have HRR:Hid (r=⟨[],0,7⟩):=by show _=_;rw [← HRN.out];simp [zbs,HGA.out,HGBB.out,hfull,zd0]
       have hd:(decide (9999≤f.k) || decide (9999≤g.k))=true:=by simpa using hfull
       by_cases h9:9999≤f.k
       all_goals
        have h9':9999≤f.k∨9999≤g.k:=hfull;clear hfull hd
       · go_wp2
         rw [HRR.out];refine bodyPost_ret (v:=.tuple #[.agg #[.slice none 0 0,.int .i64 0],errV 7]) (by simp [results,Tryz.results80,go_sem,y0,y1,yl,errV]) rfl ⟨none,0,rfl,zc6 _,?_⟩
         repeat (first | exact HB2.out | refine Below.setCell ?_ (Nat.le_succ _) _ | refine Below.alloc ?_ (by simp;have:=HB2.out.size;omega) _)
       · have h8:f.k<9999:=by omega
         have h9g:9999≤g.k:=by omega
         clear h9 h9';go_wp2;rw [HRR.out];refine bodyPost_ret (v:=.tuple #[.agg #[.slice none 0 0,.int .i64 0],errV 7]) (by simp [results,Tryz.results80,go_sem,y0,y1,yl,errV]) rfl ⟨none,0,rfl,zc6 _,?_⟩
         repeat (first | exact HB2.out | refine Below.setCell ?_ (Nat.le_succ _) _ | refine Below.alloc ?_ (by simp;have:=HB2.out.size;omega) _)
     · have h9:f.k<9999:=by omega
       have h9g:g.k<9999:=by omega
       clear hfull
       by_cases hab:na=nb
       · have hE:(na.toList == nb.toList)=true:=zbE hab
         have HRT:Hid (r=zeT t l):=by
          show _=_;rw [← HRN.out];simp only [zbs,HGA.out,HGBB.out];rw [if_neg (by omega),if_pos hab]
         clear hab;go_wp2
         go_region_with (first
          | (go_at_call 52
             refine (zmr a cap l _ (by omega) (by refine HS2.out.below ?_;repeat (first | exact Below.refl _ _ | refine Below.drew ?_ | refine below_drewN ?_ _ | refine Below.alloc ?_ (by simp) _))).mono ?_;rintro e w3 ⟨v,rfl,hown,hb⟩
             have hbW:Below w2.heap.size w2 w3:=by
              refine Below.trans ?_ (hb.mono ?_)
              · repeat (first | exact Below.refl _ _ | refine Below.drew ?_ | refine below_drewN ?_ _ | refine Below.alloc ?_ (by simp) _)
              · simp
             obtain ⟨a3,cap3,rfl,hs3⟩:=hown.slice;have HS3:Hid (za5 w3 a3 cap3 l):=hs3;have HR3:Hid (QBox w3 (w.heap.size+1) (.slice none 0 0) 0):=HR2.out.below hbW HR2.out.lt;have HB3:Hid (Below w.heap.size w w3):=HB2.out.trans (hbW.mono HB2.out.size);have x0':=(HQ2.out.below hbW HQ2.out.lt).c0;have x1':=(HQ2.out.below hbW HQ2.out.lt).c1;clear hown hb hs3 hbW)
          | (go_at_call 115
             refine (zeD t a3 cap3 l _ (by omega) a l.length cap (by refine HS3.out.below ?_;repeat (first | exact Below.refl _ _ | refine Below.drew ?_ | refine below_drewN ?_ _ | refine Below.alloc ?_ (by simp) _))).mono ?_;rintro e w6 ⟨a6,cap6,rfl,hs6,hb⟩;rw [← HRT.out];rw [← HRT.out] at hs6
             have hbW:Below w3.heap.size w3 w6:=by
              refine Below.trans ?_ (hb.mono ?_)
              · repeat (first | exact Below.refl _ _ | refine Below.drew ?_ | refine below_drewN ?_ _ | refine Below.alloc ?_ (by simp) _)
              · simp
             have HR6:Hid (QBox w6 (w.heap.size+1) (.slice none 0 0) 0):=HR3.out.below hbW HR3.out.lt;have HB6:Hid (Below w.heap.size w w6):=HB3.out.trans (hbW.mono HB3.out.size);have HS6:Hid (za5 w6 a6 cap6 r.l):=hs6;obtain ⟨y0',y1',yf0',yf1',yl',yo'⟩:=HR6.out;clear yo' hb hs6 hbW))
         all_goals
          go_wp2;refine bodyPost_ret (v:=.tuple #[.agg #[.slice a6 r.l.length cap6,.int .i64 r.t],errV r.n]) (by simp [results,Tryz.results80,go_sem,y0',y1',yl']) rfl ⟨a6,cap6,rfl,?_,?_⟩
          · exact HS6.out.store2 HR6.out.only _ _
          · exact (HB6.out.setCell (Nat.le_succ _) _).setCell (Nat.le_succ _) _
       · have hE:(na.toList == nb.toList)=false:=zaS hab
         obtain ⟨hp1,hg1,hp2,hg2⟩:=zoS HQ.out.files HGA.out HGBB.out h9 h9g hab
         have HRT:Hid (r=zeT t (zfO l na nb f g)):=by
          show _=_;rw [← HRN.out];simp only [zbs,HGA.out,HGBB.out];rw [if_neg (by omega),if_neg hab]
         have HP1:Hid (putN l ⟨na,g.t,f.k+1⟩=0):=hp1;have HG1:Hid (Good (putF l ⟨na,g.t,f.k+1⟩)):=hg1;have HP2:Hid (putN (putF l ⟨na,g.t,f.k+1⟩) ⟨nb,f.t,g.k+1⟩=0):=hp2;clear hab hp1 hg1 hp2 hg2
         go_wp2_with fail
         refine (zlG a cap l ⟨na,g.t,f.k+1⟩ _ ⟨hn,by unfold maxLen;show g.t.size≤_;omega⟩ HQ.out.files (by exact HS2.out.below ((Below.refl _ _).alloc (Nat.le_refl _) _))).mono ?_;rintro e w3 ⟨v,rfl,hown,hb⟩;rw [HP1.out,zac rfl];have e1:putL l ⟨na,g.t,f.k+1⟩=putF l ⟨na,g.t,f.k+1⟩:=by unfold putL;rw [HP1.out];rfl
         rw [e1] at hown;obtain ⟨a3,cap3,rfl,hs3⟩:=hown.slice;have HF3:Hid (FBox w3 w1.heap.size f):=(HF2.out.alloc _).below hb (by simp;have:=HF2.out.lt;omega);have HG3:Hid (FBox w3 w2.heap.size g):=(FBox.new w2 g _).below hb (by simp);have HQ3:Hid (QBox w3 w.heap.size (.slice a l.length cap) t):=(HQ2.out.alloc _).below hb (by simp;have:=HQ2.out.lt;omega);have HR3:Hid (QBox w3 (w.heap.size+1) (.slice none 0 0) 0):=(HR2.out.alloc _).below hb (by simp;have:=HR2.out.lt;omega);have HB3:Hid (Below w.heap.size w w3):=(HB2.out.alloc HB2.out.size _).trans (hb.mono (by simp;have:=HB2.out.size;omega));have HS3:Hid (za5 w3 a3 cap3 (putF l ⟨na,g.t,f.k+1⟩)):=hs3;clear x0 x1 xl y0 y1 yf0 yf1 yl z0 z1 z2 zf zl hb hown hs3 e1 HQ2 HR2 HF2 HS2 HB2;obtain ⟨z0,z1,z2,_,zl⟩:=HF3.out;obtain ⟨u0,u1,u2,_,ul⟩:=HG3.out;generalize hpl:putF l ⟨na,g.t,f.k+1⟩=pl at *;have HPL:Hid (putF l ⟨na,g.t,f.k+1⟩=pl):=hpl;clear hpl
         go_wp2_with fail
         refine (zlG a3 cap3 pl ⟨nb,f.t,g.k+1⟩ _ ⟨hx,by unfold maxLen;show f.t.size≤_;omega⟩ HG1.out HS3.out).mono ?_;rintro e w4 ⟨v,rfl,hown,hb⟩;rw [HP2.out,zac rfl];have e1:putL pl ⟨nb,f.t,g.k+1⟩=zfO l na nb f g:=by unfold putL;rw [HP2.out,← HPL.out];rfl
         rw [e1] at hown;obtain ⟨a4,cap4,hv4,hs4⟩:=hown.slice;rw [hv4];have HQ4:Hid (QBox w4 w.heap.size (.slice a l.length cap) t):=HQ3.out.below hb HQ3.out.lt;have HR4:Hid (QBox w4 (w.heap.size+1) (.slice none 0 0) 0):=HR3.out.below hb HR3.out.lt;have HB4:Hid (Below w.heap.size w w4):=HB3.out.trans (hb.mono HB3.out.size);have HS4:Hid (za5 w4 a4 cap4 (zfO l na nb f g)):=hs4;clear z0 z1 z2 zl u0 u1 u2 ul hb hown hs4 e1 hv4 HQ3 HR3 HF3 HG3 HS3 HB3;obtain ⟨x0,x1,_,_,xl,_⟩:=HQ4.out;obtain ⟨y0,y1,yf0,yf1,yl,yo⟩:=HR4.out;clear yo;generalize zfO l na nb f g=sl at *
         go_wp2_with fail
         refine (zeD t a4 cap4 _ _ (by omega) a l.length cap HS4.out).mono ?_;rintro e w6 ⟨a6,cap6,rfl,hs6,hb⟩;rw [← HRT.out];rw [← HRT.out] at hs6;have s6:=HR4.out.below hb HR4.out.lt;have HB6:Hid (Below w.heap.size w w6):=HB4.out.trans (hb.mono HB4.out.size);have HS6:Hid (za5 w6 a6 cap6 r.l):=hs6;clear y0 y1 yf0 yf1 yl hb hs6;obtain ⟨y0,y1,yf0,yf1,yl,yo⟩:=s6;have HYO:Hid (∀ o,2≤o→w6.cell? ⟨w.heap.size+1,o,none⟩=none):=yo;clear yo;go_wp2;refine bodyPost_ret (v:=.tuple #[.agg #[.slice a6 r.l.length cap6,.int .i64 r.t],errV r.n]) (by simp [results,Tryz.results80,go_sem,y0,y1,yl]) rfl ⟨a6,cap6,rfl,?_,?_⟩
         · exact HS6.out.store2 HYO.out _ _
         · exact (HB6.out.setCell (Nat.le_succ _) _).setCell (Nat.le_succ _) _
end Go.Proofs.YtihnghnafpgdfadGreatDoor
