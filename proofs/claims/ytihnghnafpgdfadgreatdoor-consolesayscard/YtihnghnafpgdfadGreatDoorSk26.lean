/- What the proofs stand on, part 26: ImageRows. -/
import Derived.Test.YtihnghnafpgdfadGreatDoorSk07
import Derived.Test.YtihnghnafpgdfadGreatDoorSk19
set_option linter.unusedVariables false
set_option linter.unusedSimpArgs false
set_option maxRecDepth 100000
set_option maxHeartbeats 4000000
namespace Go.Proofs.YtihnghnafpgdfadGreatDoor
open Go Go.RowKit Go.BigFrame Go.Sort
variable {W w:World}{g:Nat}
theorem zo2 (x y:Ch)(W:World):Calls Tryz.prog 107 #[x.v,y.v] W fun e w'=>e=.returned (.int .i64 (cfC x y))∧∃ q os',w'=grow (W.drewN q) os':=by
 have hcon:=fun W'=>zj6 x.key y.key W'
 generalize hr:zcO x.key y.key=r at hcon;have HR:Hid (cfC x y=r):=hr;clear hr
 go_enter Tryz.func107,Tryz.ntmps107
 go_wp2_with (go_at_call 108;refine (hcon _).mono ?_;rintro e w' ⟨rfl,rfl⟩)
 go_ret;exact ⟨zca HR.out.symm,0,_,by rw [alloc_eq_grow,alloc_eq_grow,grow_grow];rfl⟩
theorem zmG (blk off size:Nat)(w:World):CmpLays Tryz.prog 107 #[] encC 3 cfC blk off size w:=fun _ _ _ _ x y=>zo2 x y _
theorem zko:∀ args w,(callFunc 107 args).run Tryz.prog w=.ok (.enter 107 args) w:=enters_of Tryz.func107 (by kernel_rfl) rfl
theorem zq8 {d:Array Ch}(h:SWK encC 3 w g 0 d W)(ht:∃ C fr,w.heap[g]?=some (.cells C 143 fr)):∃ C fr,W.heap[g]?=some (.cells C 143 fr):=by
 obtain ⟨C,fr,hg⟩:=ht;have hlt:g<w.heap.size:=(Array.getElem?_eq_some_iff.1 hg).1;obtain ⟨n,os,rfl⟩:=h;show ∃ C fr,(w.heap.modify g _ ++ os)[g]?=_
 rw [Array.getElem?_append_left (by simp;exact hlt),Array.getElem?_modify,if_pos rfl,hg];exact ⟨_,_,rfl⟩
def zlP (w:World)(R:List Ch)(e:Ending)(w':World):Prop :=
 ∃ pa ca,e=.returned (.slice pa R.length ca)∧CC w' pa R∧R.length≤ca∧(ca≤maxLen∧∀ x,pa=some x→∃ C fr,w'.heap[x.block]?=some (.cells C 143 fr))∧Below w.heap.size w w'
theorem zdA (a:Option Addr) (cap:Nat) (l:List Fi) (t:Int) (w:World) (hg:zau l t) (hc:zaF w a l) (hv:Vars w) :
 Calls Tryz.prog 75 #[.agg #[.slice a l.length cap,.int .i64 t]] w (zlP w (zaw l t)):=by
 obtain ⟨i0,hi,hz0,hz1,hz2⟩:=info_parts Tryz.infoChange;have HC:Hid (zaF w a l):=hc;have HG:Hid (zau l t):=hg;have HV:Hid (Vars w):=hv;have hl8:l.length≤8:=hg.files.few;clear hc hg hv;obtain ⟨tn,htn,_,htn9⟩:=HG.out.turn;have KT:Hid (∀ W,Vars W→Calls Tryz.prog 105 #[.int .i64 t] W fun e w'=>e=.returned (.string ⟨(zg4 t).toArray⟩)∧Below W.heap.size W w'):=fun W hv=>zpu t W (by omega) (by omega) (by rw [htn];exact zmC (by omega)) hv.1
 have HT:Hid (trow t=⟨⟨#[116,117,114,110]⟩,⟨(zg4 t).toArray⟩,false⟩):=rfl;clear htn htn9;generalize (⟨(zg4 t).toArray⟩:ByteArray)=T at KT HT
 go_enter Tryz.func75,Tryz.ntmps75
 go_wp2_with fail
 obtain ⟨W1,hW⟩:∃ x,x=w.alloc (.cells #[.slice a l.length cap,.int .i64 t] 32):=⟨_,rfl⟩
 have HB1:Hid (Below w.heap.size w W1):=by rw [hW];exact (Below.refl _ _).alloc (Nat.le_refl _) _
 have HQ1:Hid (QBox W1 w.heap.size (.slice a l.length cap) t):=by rw [hW];exact QBox.new w _ t _
 have HV1:Hid (Vars W1):=HV.out.below HB1.out;rw [← hW];clear hW;refine Calls.mono (KT.out _ HV1.out) ?_;rintro e w2 ⟨rfl,hb⟩;have HB2:Hid (Below W1.heap.size W1 w2):=hb;obtain ⟨q0,q1,_,_,_,_⟩:=HQ1.out.below HB2.out HQ1.out.lt;clear hb
 go_wp2_with fail
 obtain ⟨W3,hW⟩:∃ x,x=w2.alloc (.cells #[.string ⟨#[116,117,114,110]⟩,.string T,.bool false] 143):=⟨_,rfl⟩
 have HB3:Hid (Below W1.heap.size W1 W3):=by rw [hW];exact HB2.out.alloc HB2.out.size _
 have HN3:Hid (zan W3 W1.heap.size (.slice (some ⟨w2.heap.size,0,none⟩) 1 1) [trow t]):=by rw [hW,HT.out];exact zan.lit w2 W1.heap.size ⟨⟨#[116,117,114,110]⟩,T,false⟩ HB2.out.size
 rw [← hW];clear hW q0 q1 HB2
 go_loopg [3,14] (l.length+1) (fun kx vl vi wr=>∃ (k:Nat) (R:List Ch),vi=.int .i64 k∧k≤l.length∧l.length - k≤kx∧Hid (R=trow t :: (l.take k).map frow)∧R.length≤k+1∧Hid (zan wr W1.heap.size vl R)∧Hid (Below W1.heap.size W1 wr))
 case atStart=>exact ⟨0,[trow t],rfl,by omega,by omega,(by show _=_;simp),by simp,HN3,HB3⟩
 case round =>
  obtain ⟨k,R,rfl,hk,hkx,HR,hlen,HN0,HW0⟩:=hrel;obtain ⟨q0,q1,_,_,_,_⟩:=HQ1.out.below HW0.out HQ1.out.lt
  by_cases hlt:k<l.length
  · obtain ⟨b,off,rfl,c0,c1,c2⟩:=(HC.out.below HB1.out).below HW0.out k hlt
    obtain ⟨n,hn,_,hn9⟩:=HG.out.times (List.getElem_mem hlt);obtain ⟨hnm,hnt,_,_⟩:=zdN (HG.out.files.each _ (List.getElem_mem hlt));have hzn:=zjz hnm;have KN:Hid (∀ W,Vars W→Calls Tryz.prog 105 #[.int .i64 l[k].k] W fun e w'=>e=.returned (.string ⟨(zg4 l[k].k).toArray⟩)∧Below W.heap.size W w'):=fun W hv=>zpu l[k].k W (by omega) (by omega) (by rw [hn];exact zmC (by omega)) hv.1
    have hT4:(zg4 l[k].k).length=4:=by rw [hn,zlT (by omega)];rfl
    have hs1:(⟨(zg4 l[k].k).toArray⟩:ByteArray).size=4:=by simpa [ByteArray.size] using hT4
    have hsum1:¬ 9223372036854775807<1+l[k].n.size:=by omega
    have hsum2:¬ 9223372036854775807<4+l[k].t.size:=by omega
    have hkf:(⟨#[102]⟩:ByteArray).size=1:=rfl;have HF:Hid (frow l[k]=⟨(⟨#[102]⟩:ByteArray) ++ l[k].n,(⟨(zg4 l[k].k).toArray⟩:ByteArray) ++ l[k].t,false⟩):=rfl
    have HX:Hid (R ++ [frow l[k]]=trow t :: (l.take (k+1)).map frow):=by
     show _=_;rw [HR.out,zb8 l k hlt,List.map_append]
     rfl
    have hlo:W1.heap.size≤wr.heap.size:=HW0.out.size;obtain ⟨va,vc,rfl⟩:=zf9 HN0.out;clear hn hnm hT4;generalize hY:(⟨(zg4 l[k].k).toArray⟩:ByteArray)=Y at *;clear hY
    go_wp2_with fail
    obtain ⟨W2,hW⟩:∃ x,x=wr.alloc (.cells #[.string l[k].n,.string l[k].t,.int .i64 l[k].k] 98):=⟨_,rfl⟩
    have HW2:Hid (Below W1.heap.size W1 W2):=by rw [hW];exact HW0.out.alloc hlo _
    have HN2:Hid (zan W2 W1.heap.size (.slice va R.length vc) R):=by rw [hW];exact HN0.out.alloc _
    have HF2:Hid (W2.cell? ⟨wr.heap.size,0,none⟩=some (.string l[k].n)∧W2.cell? ⟨wr.heap.size,1,none⟩=some (.string l[k].t)∧W2.cell? ⟨wr.heap.size,2,none⟩=some (.int .i64 l[k].k)∧wr.heap.size<W2.heap.size):=by rw [hW];exact ⟨by simp [go_sem],by simp [go_sem],by simp [go_sem],by simp⟩
    have HV2:Hid (Vars W2):=HV1.out.below HW2.out;rw [← hW];clear hW c0 c1 c2 q0 q1 HN0 HW0;obtain ⟨f0,f1,f2,flt⟩:=HF2.out;have hlo2:W1.heap.size≤W2.heap.size:=HW2.out.size;have HFF:Hid (∀ W,Below W2.heap.size W2 W→W.cell? ⟨wr.heap.size,0,none⟩=some (.string l[k].n)∧W.cell? ⟨wr.heap.size,1,none⟩=some (.string l[k].t)):=fun W h=>⟨by rw [h.cell flt];exact f0,by rw [h.cell flt];exact f1⟩
    have HOW:Hid (∀ W,Below W2.heap.size W2 W→zan W W1.heap.size (.slice va R.length vc) R):=fun W h=>HN2.out.far h
    have HEND:Hid (∀ W w4 v',Below W2.heap.size W2 W→W.grownBy w4 (Value.slice va R.length vc).ownBlock→w4.ownsRow W1.heap.size 143 3 v' (R.length+1) (flatC R ++ [.string ((⟨#[102]⟩:ByteArray) ++ l[k].n),.string (Y ++ l[k].t),.bool false])→zan w4 W1.heap.size v' (R ++ [frow l[k]])∧Below W1.heap.size W1 w4):=fun W w4 v' hb hg ho =>
     ⟨by rw [HF.out];exact zan.snoc (f:=⟨(⟨#[102]⟩:ByteArray) ++ l[k].n,Y ++ l[k].t,false⟩) ho,(HW2.out.trans (hb.mono hlo2)).grown hg (Nat.le_trans hlo2 hb.size) (fun q hq=>((HOW.out W hb).lt q hq).1)⟩
    have h63:R.length+1≤maxLen:=by unfold maxLen;omega
    have hby:(R.length+1) * 40≤140737488355328:=by omega
    clear HN2 HF2 HF
    go_region_law
     (first
       | (go_simp
          go_at_call 105
          refine Calls.mono (KN.out _ (HV2.out.below ⟨rfl,rfl,rfl,Nat.le_refl _,fun _ _=>rfl⟩)) ?_;rintro e wa ⟨rfl,hb⟩;have hbW:Hid (Below W2.heap.size W2 wa):=⟨hb.os,hb.tape,hb.output,hb.size,hb.block⟩;obtain ⟨f0a,f1a⟩:=HFF.out wa hbW.out;have hbX:Hid (∀ o,Below W2.heap.size W2 (wa.alloc o)):=fun o=>hbW.out.alloc hbW.out.size _
          have hloa:Hid (∀ o,W1.heap.size≤(wa.alloc o).heap.size):=fun o=>Nat.le_trans hlo2 (hbX.out o).size
          clear hb)
       | (rw [if_pos (by rfl)]
          refine zcr _ _ 64 rfl W1.heap.size 143 i0 _ 3 40 Tryz.underlying64 hi hz0 hz1 hz2 rfl (by decide) (.slice va R.length vc) R.length (flatC R) rfl (HOW.out _ (hbX.out _)) ⟨wa.heap.size,0,none⟩ 1 1 [.string ((⟨#[102]⟩:ByteArray) ++ l[k].n),.string (Y ++ l[k].t),.bool false] rfl rfl (zaq _ _ _ _ _) (zc8 ⟨(⟨#[102]⟩:ByteArray) ++ l[k].n,Y ++ l[k].t,false⟩) h63 hby (hloa.out _) ?_;intro v' w4 hown4 hgrow4 hnew4;obtain ⟨xa,xc,rfl⟩:=zf9 hown4;have HA:Hid _:=HEND.out _ _ _ (hbX.out _) hgrow4 hown4;clear hown4 hgrow4 hnew4))
    all_goals
     go_wp2
     go_roundg (l.length - (k+1))
     case measure=>omega
     case rel=>exact ⟨k+1,R ++ [frow l[k]],by go_num,by omega,Nat.le_refl _,HX,(by simp;omega),HA.out.1,HA.out.2⟩
  · have HKL:Hid (R=trow t :: l.map frow):=by
     show _=_;rw [HR.out,zft _ _ (by omega)]
    clear HR q0 q1;have hpos:0<R.length:=by rw [HKL.out];simp
    obtain ⟨g,cp,rfl,hH,hgs,hgb⟩:=zan.holds HN0.out hpos
    have hmm:R.length≤cp∧cp≤maxLen:=by
     obtain ⟨pa9,cp9,e9,_,_,hmx,hle,_⟩:=zan.files HN0.out;have e:cp=cp9:=by injection e9
     rw [e];exact ⟨hle,hmx⟩
    have HTY:Hid (∃ C fr,wr.heap[g]?=some (.cells C 143 fr)):=by
     rcases HN0.out.2 with ⟨h9,_⟩ | ⟨g9,cap9,cur9,h9,_,hg9,_⟩
     · cases h9
     · have e9:g=g9:=by injection h9 with h9;injection h9 with h9;injection h9
       exact ⟨cur9,(0,0),by rw [e9];exact hg9⟩
    have F:Fam cfC 107 #[] g 0 R.toArray wr:=⟨by rw [ziP];exact swoC,zko,zmG _ _ _ _,⟨fun _=>rfl,fun x u hu=>by simp [encC] at hu;rcases hu with rfl | rfl | rfl <;> rfl,hH,hgs⟩,by simp;omega⟩;have hcon:=zgE cfC 107 #[] g 0 cp R.toArray wr F (by simp;omega);rw [ziP] at hcon;simp only [List.size_toArray] at hcon;have HCON:Hid _:=hcon;have HGG:Hid (g<wr.heap.size∧w.heap.size≤g):=⟨hgs,Nat.le_trans HB1.out.size hgb⟩;have HH:Hid (HoldsK encC 3 wr g 0 R.toArray):=hH;have HBW:Hid (Below w.heap.size w wr):=HB1.out.trans (HW0.out.mono HB1.out.size);have HME:Hid (R.length≤cp∧cp≤maxLen):=hmm;clear hcon F hH hgs hgb HN0 hmm
    go_wp2_with fail
    refine Calls.mono HCON.out ?_;rintro _ w4 ⟨rfl,d2,hst,hsz2,hsw⟩
    have HEND:Hid (zlP w (zaw l t) (.returned (.slice (some ⟨g,0,none⟩) R.length cp)) w4):=by
     have h1:Stb ltC R d2.toList:=hst;rw [HKL.out] at h1;have h2:=zoJ HG.out.files t h1;have h3:(zaw l t).length=R.length:=by rw [← h2];simpa using hsz2
     have hcc:=zpg (hsw.holds HGG.out.1 HH.out (by simpa using hsz2));rw [h2] at hcc
     have htyped:∀ x,(some ⟨g,0,none⟩:Option Addr)=some x→∃ C fr,w4.heap[x.block]?=some (.cells C 143 fr):=fun x hx=>by
      cases hx;exact zq8 hsw HTY.out
     exact ⟨_,cp,by rw [h3],hcc,by rw [h3];exact HME.out.1,⟨HME.out.2,htyped⟩,SWK.below hsw HBW.out HGG.out.2 HGG.out.1⟩
    clear hst hsz2 hsw HCON HH;go_wp2;go_ret;exact HEND.out
end Go.Proofs.YtihnghnafpgdfadGreatDoor
