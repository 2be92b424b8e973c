/- What the proofs stand on, part 19: RowApply. -/
import Derived.Test.YtihnghnafpgdfadGreatDoorSk05
import Derived.Test.YtihnghnafpgdfadGreatDoorSk06
import Derived.Test.YtihnghnafpgdfadGreatDoorSk18
set_option linter.unusedVariables false
set_option linter.unusedSimpArgs false
set_option maxRecDepth 100000
set_option maxHeartbeats 2000000
namespace Go.Proofs.YtihnghnafpgdfadGreatDoor
open Go.RowKit Go.Lib Go.Sort
variable {W w w' w0:World}{B base g:Nat}{v:Value}{l:List Ch}
def zcO (x y:ByteArray):Int:=if ltB x y=true then -1 else if ltB y x=true then 1 else 0
theorem zi0 (x:ByteArray)(w:World):Calls Tryz.prog 149 #[.string x] w fun e w'=>e=.returned (.bool false)∧w'=w:=by
 go_enter Tryz.func149,Tryz.ntmps149
 go_wp2;go_ret;exact ⟨zbS (by simp),rfl⟩
theorem zj6 (x y:ByteArray)(w:World):Calls Tryz.prog 108 #[.string x,.string y] w fun e w'=>e=.returned (.int .i64 (zcO x y))∧w'=w:=by
 cases h1:ltB x y
 · cases h2:ltB y x
   · have HR:Hid (zcO x y=0):=by show _=_;unfold zcO;rw [h1,h2];rfl
     have he:(x.toList == y.toList)=true:=zbE (zdu h1 h2);unfold ltB at h1 h2
     go_enter Tryz.func108,Tryz.ntmps108
     go_wp2_with (go_at_call 149;refine (zi0 _ _).mono ?_;rintro e w' ⟨rfl,rfl⟩)
     go_ret;exact ⟨zca HR.out.symm,rfl⟩
   · have HR:Hid (zcO x y=1):=by show _=_;unfold zcO;rw [h1,h2];rfl
     have he:(x.toList == y.toList)=false:=zaS (fun e=>by rw [e,zaB] at h2;cases h2);unfold ltB at h1 h2
     go_enter Tryz.func108,Tryz.ntmps108
     go_wp2_with (go_at_call 149;refine (zi0 _ _).mono ?_;rintro e w' ⟨rfl,rfl⟩)
     go_ret;exact ⟨zca HR.out.symm,rfl⟩
 · have HR:Hid (zcO x y = -1):=by show _=_;unfold zcO;rw [h1];rfl
   unfold ltB at h1
   go_enter Tryz.func108,Tryz.ntmps108
   go_wp2_with (go_at_call 149;refine (zi0 _ _).mono ?_;rintro e w' ⟨rfl,rfl⟩)
   go_ret;exact ⟨zca HR.out.symm,rfl⟩
def cfC (x y:Ch):Int:=zcO x.key y.key
theorem ziP:ltOf cfC=ltC:=by
 funext x y
 unfold ltOf cfC zcO ltC;cases h1:ltB x.key y.key
 · cases h2:ltB y.key x.key <;> simp
 · simp
theorem zm7 (x y:Ch)(W:World):Calls Tryz.prog 130 #[x.v,y.v] W fun e w'=>e=.returned (.int .i64 (cfC x y))∧∃ q os',w'=grow (W.drewN q) os':=by
 have hcon:=fun W'=>zj6 x.key y.key W'
 generalize hr:zcO x.key y.key=r at hcon;have HR:Hid (cfC x y=r):=hr;clear hr
 go_enter Tryz.func130,Tryz.ntmps130
 go_wp2_with (go_at_call 108;refine (hcon _).mono ?_;rintro e w' ⟨rfl,rfl⟩)
 go_ret;exact ⟨zca HR.out.symm,0,_,by rw [alloc_eq_grow,alloc_eq_grow,grow_grow];rfl⟩
theorem zlJ (blk off size:Nat)(w:World):CmpLays Tryz.prog 130 #[] encC 3 cfC blk off size w:=fun _ _ _ _ x y=>zm7 x y _
theorem zjg:∀ args w,(callFunc 130 args).run Tryz.prog w=.ok (.enter 130 args) w:=enters_of Tryz.func130 (by kernel_rfl) rfl
theorem zs1 (l:List Ch)(t:Nat)(ht:t<l.length * 3):(flatC l)[t]?=some (flatK encC 3 l.toArray)[t]! := by
 obtain ⟨f0,f1,f2⟩:=ziJ l (t / 3) (by omega);rw [get_flatK encC 3 l.toArray t (by simpa using ht),getElem!_pos l.toArray (t / 3) (by simp;omega)];have h3:t % 3=0∨t % 3=1∨t % 3=2:=by omega
 rcases h3 with h | h | h
 · rw [h,show (flatC l)[t]?=(flatC l)[t / 3 * 3]? by congr 1;omega,f0]
   simp [encC]
 · rw [h,show (flatC l)[t]?=(flatC l)[t / 3 * 3+1]? by congr 1;omega,f1]
   simp [encC]
 · rw [h,show (flatC l)[t]?=(flatC l)[t / 3 * 3+2]? by congr 1;omega,f2]
   simp [encC]
theorem zan.holds (h:zan w base v l)(hl:0<l.length):∃ g cap,v=.slice (some ⟨g,0,none⟩) l.length cap∧HoldsK encC 3 w g 0 l.toArray∧g<w.heap.size∧base≤g:=by
 rcases h.2 with ⟨rfl,h0⟩ | ⟨g,cap,cur,rfl,hb,hg,hn,hm,hs,ht⟩
 · omega
 · refine ⟨g,cap,rfl,?_,(Array.getElem?_eq_some_iff.1 hg).1,hb⟩
   intro t ht;rw [size_flatK] at ht;simp only [List.size_toArray] at ht;refine ⟨?_,by simp [World.frozen?,hg]⟩;rw [h.cellAt (0+t) (by omega),Nat.zero_add,zs1 l t ht]
   rfl
theorem zpg {d:Array Ch}(h:HoldsK encC 3 w g 0 d):CC w (some ⟨g,0,none⟩) d.toList:=by
 intro i hi;have hi':i<d.size:=by simpa using hi
 have c0:=(h.cell hi' (c:=0) (by omega)).1;have c1:=(h.cell hi' (c:=1) (by omega)).1;have c2:=(h.cell hi' (c:=2) (by omega)).1;rw [getElem!_pos d i hi'] at c0 c1 c2;exact ⟨g,0,rfl,c0,c1,c2⟩
theorem SWK.below {d:Array Ch}(h:SWK encC 3 w0 g 0 d W)(hb:Below B w w0)(hg:B≤g)(hgs:g<w0.heap.size):Below B w W:=by
 have hsz:=h.le;obtain ⟨n,os,rfl⟩:=h;refine hb.trans ⟨?_,?_,?_,hsz,fun k hk=>?_⟩
 · rfl
 · rfl
 · rfl
 · have h1:k<w0.heap.size:=by omega
   show (w0.heap.modify g _ ++ os)[k]?=_;rw [Array.getElem?_append_left (by simp;exact h1),Array.getElem?_modify,if_neg (by omega)]
theorem CC.over (h:CC w (some ⟨g,0,none⟩) l)(hb:Below (g+1) w w'):CC w' (some ⟨g,0,none⟩) l:=by
 intro i hi;obtain ⟨b,off,e,c0,c1,c2⟩:=h i hi;cases e;exact ⟨g,0,rfl,by rw [hb.cell (by simp)];exact c0,by rw [hb.cell (by simp)];exact c1,by rw [hb.cell (by simp)];exact c2⟩
theorem CC.at0 (h:CC w (some ⟨g,0,none⟩) l)(i:Nat)(hi:i<l.length):w.cell? ⟨g,i * 3,none⟩=some (.string l[i].key)∧w.cell? ⟨g,i * 3+1,none⟩=some (.string l[i].val)∧w.cell? ⟨g,i * 3+2,none⟩=some (.bool l[i].gone):=by
 obtain ⟨b,off,e,c0,c1,c2⟩:=h i hi;cases e;rw [Nat.zero_add] at c0 c1 c2;exact ⟨c0,c1,c2⟩
theorem zcU (S:List Ch)(k:Nat)(h:k<S.length):za2 (S.drop k)=(if (ze3 S[k] (S.drop (k+1)) && !S[k].gone)=true then [S[k]] else []) ++ za2 (S.drop (k+1)):=by
 rw [List.drop_eq_getElem_cons h,za2]
theorem zji (p:Option Addr) (cap:Nat) (fv:Value) (w:World) :
 Calls Tryz.prog 106 #[.slice p 0 cap,fv] w fun e w'=>e=.returned (.tuple #[])∧w'=w:=by
 have h1:Calls Tryz.prog 189 #[.slice p 0 cap,.int .i64 0,.int .i64 0,fv] w fun e w'=>e=.returned (.tuple #[])∧w'=w:=by
  go_enter Tryz.func189,Tryz.ntmps189
  go_wp2_with fail
  go_loopg [8] 1 (fun kx v wr=>v=.int .i64 1∧wr=w)
  case atStart=>exact ⟨rfl,rfl⟩
  case round =>
   obtain ⟨rfl,rfl⟩:=hrel;go_wp2
   go_end0
   exact ⟨rfl,rfl⟩
 have h2:Calls Tryz.prog 148 #[.slice p 0 cap,.int .i64 0,fv] w fun e w'=>e=.returned (.tuple #[])∧w'=w:=by
  have H1:Hid _:=h1;clear h1
  go_enter Tryz.func148,Tryz.ntmps148
  go_wp2_with fail
  go_loopg [7,8] 1 (fun kx va vb wr=>va=.int .i64 0∧vb=.int .i64 20∧wr=w)
  case atStart=>exact ⟨rfl,rfl,rfl⟩
  case round =>
   obtain ⟨rfl,rfl,rfl⟩:=hrel
   go_wp2_with fail
   refine Calls.mono H1.out ?_;rintro _ w2 ⟨rfl,rfl⟩
   go_wp2_with fail
   go_loopg [6] 1 (fun kx vs wr=>vs=.int .i64 20∧wr=w2)
   case atStart=>exact ⟨rfl,rfl⟩
   case round =>
    obtain ⟨rfl,rfl⟩:=hrel;go_wp2
    go_end0
    exact ⟨rfl,rfl⟩
 have H2:Hid _:=h2;clear h1 h2
 go_enter Tryz.func106,Tryz.ntmps106
 go_wp2_with fail
 refine Calls.mono H2.out ?_;rintro _ w2 ⟨rfl,rfl⟩;go_wp2
 go_end0
 exact ⟨rfl,rfl⟩
theorem zis (a a':Option Addr) (cap cap':Nat) (rows l:List Ch) (w:World) (h1:rows.length≤100) (h2:l.length≤100) (hr:zdk w a cap rows) (hl:zdk w a' cap' l) :
 Calls Tryz.prog 92 #[.slice a rows.length cap,.slice a' l.length cap'] w fun e w'=>∃ v S,e=.returned v∧Stb ltC (rows ++ l) S∧zan w' w.heap.size v (za2 S)∧Below w.heap.size w w':=by
 have HR:Hid (zdk w a cap rows):=hr;have HL:Hid (zdk w a' cap' l):=hl;clear hr hl;obtain ⟨wp,hwp⟩:∃ x,x=w.alloc (Obj.cells #[Value.slice a rows.length cap,Value.slice a' l.length cap'] 64):=⟨_,rfl⟩
 have hcon:=zon w.heap.size 2 [⟨a,cap,rows⟩,⟨a',cap',l⟩] wp rfl (by simp) (by simp [zeX];omega) (by
  subst hwp;have hbw:Below w.heap.size w (w.alloc (Obj.cells #[Value.slice a rows.length cap,Value.slice a' l.length cap'] 64)):=(Below.refl _ _).alloc (Nat.le_refl _) _;exact ztW (by simp [zcn.v]) (by simp [zcn.v]) ⟨HR.out.cells.below hbw,HR.out.nil,(HR.out.cells.below hbw).spot⟩ ⟨HL.out.cells.below hbw,HL.out.nil,(HL.out.cells.below hbw).spot⟩)
 have hj:zcS [⟨a,cap,rows⟩,⟨a',cap',l⟩]=rows ++ l:=by simp [zcS]
 rw [hj] at hcon;obtain ⟨all,hall⟩:∃ x,x=rows ++ l:=⟨_,rfl⟩
 have h3:all.length≤200:=by rw [hall];simp;omega
 rw [← hall] at hcon ⊢;clear hall;have HB0:Hid (Below w.heap.size w wp):=by subst hwp;exact (Below.refl _ _).alloc (Nat.le_refl _) _
 have HZ0:Hid (w.heap.size≤wp.heap.size):=HB0.out.size;have HCON:Hid _:=hcon;clear hcon hj
 go_enter Tryz.func92,Tryz.ntmps92
 go_wp2_with fail
 rw [← hwp];refine Calls.mono HCON.out ?_;rintro _ w1 ⟨v,rfl,hown,hb1⟩;have HB1:Hid (Below w.heap.size w w1):=HB0.out.trans (hb1.mono HZ0.out);have HOWN:Hid (zan w1 w.heap.size v all):=hown.base HZ0.out;clear hown hb1 HCON HB0 HZ0 hwp wp h1 h2 HR HL
 by_cases h0:0<all.length
 · obtain ⟨g,cp,rfl,hH,hgs,hgb⟩:=zan.holds HOWN.out h0
   have F:Fam cfC 130 #[] g 0 all.toArray w1:=⟨by rw [ziP];exact swoC,zjg,zlJ _ _ _ _,⟨fun _=>rfl,fun x u hu=>by simp [encC] at hu;rcases hu with rfl | rfl | rfl <;> rfl,hH,hgs⟩,by simp;omega⟩;have hcon:=zgE cfC 130 #[] g 0 cp all.toArray w1 F (by simp;omega);rw [ziP] at hcon;simp only [List.size_toArray] at hcon;have HCON:Hid _:=hcon;have HG:Hid (g<w1.heap.size∧w.heap.size≤g):=⟨hgs,hgb⟩;have HH:Hid (HoldsK encC 3 w1 g 0 all.toArray):=hH;clear hcon F hH hgs hgb
   go_wp2_with fail
   refine Calls.mono HCON.out ?_;rintro _ w2 ⟨rfl,d2,hst,hsz2,hsw⟩;obtain ⟨S,hS⟩:∃ S,S=d2.toList:=⟨_,rfl⟩
   have HST:Hid (Stb ltC all S):=by rw [hS];exact hst
   have hlen:all.length=S.length:=by rw [hS];simp at hsz2 ⊢;exact hsz2.symm
   have HCC:Hid (CC w2 (some ⟨g,0,none⟩) S):=by rw [hS];exact zpg (hsw.holds HG.out.1 HH.out (by simpa using hsz2))
   have HB2:Hid (Below w.heap.size w w2):=SWK.below hsw HB1.out HG.out.2 HG.out.1;rw [hlen];have h4:S.length≤200:=by omega
   clear hS hst hsz2 hsw HCON HH HOWN HB1 hlen h3 h0;obtain ⟨i0,hi,hz0,hz1,hz2⟩:=info_parts Tryz.infoChange
   go_wp2_with fail
   go_loopg [6,18] (S.length+1) (fun kx v vi wr=>∃ (k:Nat) (out:List Ch),vi=.int .i64 k∧k≤S.length∧S.length - k≤kx∧Hid (out.length≤k)∧Hid (za2 S=out ++ za2 (S.drop k))∧Hid (zan wr (g+1) v out)∧Hid (Below w.heap.size w wr)∧Hid (CC wr (some ⟨g,0,none⟩) S))
   case atStart=>exact ⟨0,[],rfl,Nat.zero_le _,by omega,Nat.zero_le _,(by show _=_;simp),World.ownsRow_nil _ _ _ _,HB2,HCC⟩
   case round =>
    clear HCC HB2;obtain ⟨k,out,rfl,hk,hkx,HOL,HK,HOUT,HB,HCC⟩:=hrel
    by_cases hlt:k<S.length
    · obtain ⟨c0,c1,c2⟩:=CC.at0 HCC.out k hlt
      have hltz:(k:Int)<(S.length:Int):=by omega
      have hgl:g<wr.heap.size:=World.block_lt_of_cell? _ _ c0
      go_wp2_with fail
      obtain ⟨w5,hw5⟩:∃ x,x=wr.alloc (Obj.cells #[.string S[k].key,.string S[k].val,.bool S[k].gone] 143):=⟨_,rfl⟩
      have x0:w5.cell? ⟨wr.heap.size,0,none⟩=some (.string S[k].key):=by rw [hw5];simp
      have x1:w5.cell? ⟨wr.heap.size,1,none⟩=some (.string S[k].val):=by rw [hw5];simp
      have x2:w5.cell? ⟨wr.heap.size,2,none⟩=some (.bool S[k].gone):=by rw [hw5];simp
      have hbw:Below wr.heap.size wr w5:=by rw [hw5];exact (Below.refl _ _).alloc (Nat.le_refl _) _
      have HB5:Hid (Below w.heap.size w w5):=HB.out.trans (hbw.mono HB.out.size);have HC5:Hid (CC w5 (some ⟨g,0,none⟩) S):=HCC.out.below hbw;have HO5:Hid (zan w5 (g+1) u6 out):=by rw [hw5];exact HOUT.out.alloc _
      have hz5:wr.heap.size<w5.heap.size:=by rw [hw5];simp
      have hz6:w.heap.size≤w5.heap.size:=HB5.out.size;rw [← hw5];clear hw5 hbw c0 c1 c2 HB HCC HOUT
      by_cases hend:k+1=S.length
      · have hE:((k:Int)+1 == (S.length:Int))=true:=by rw [beq_iff_eq];omega
        have HEND:Hid (ze3 S[k] (S.drop (k+1))=true):=by show _=_;rw [List.drop_eq_nil_of_le (by omega)];rfl
        go_quiet (fail)
        cases hg:S[k].gone
        · have HK2:Hid (za2 S=(out ++ [S[k]]) ++ za2 (S.drop (k+1))):=by
           show _=_;rw [HK.out,zcU S k hlt,HEND.out,hg];simp
          have hol:out.length≤200:=Nat.le_trans HOL.out (by omega);obtain ⟨w6,hw6⟩:∃ x,x=w5.drewN nq:=⟨_,rfl⟩
          have y0:w6.cell? ⟨wr.heap.size,0,none⟩=some (.string S[k].key):=by rw [hw6];simpa using x0
          have y1:w6.cell? ⟨wr.heap.size,1,none⟩=some (.string S[k].val):=by rw [hw6];simpa using x1
          have y2:w6.cell? ⟨wr.heap.size,2,none⟩=some (.bool S[k].gone):=by rw [hw6];simpa using x2
          have HB6:Hid (Below w.heap.size w w6):=by rw [hw6];exact below_drewN HB5.out _
          have HC6:Hid (CC w6 (some ⟨g,0,none⟩) S):=by rw [hw6];exact HC5.out.drewN _
          have HO6:Hid (zan w6 (g+1) u6 out):=by rw [hw6];exact HO5.out.drewN _
          have HZ8:Hid (g<w6.heap.size):=by rw [hw6];show g<w5.heap.size;omega
          rw [← hw6];clear x0 x1 x2 HB5 HC5 HO5 hw6;have hz7:=HB6.out.size;have hz8:g<w6.heap.size:=HZ8.out
          go_wp2_with (at_builtin;refine wpList_append_own _ rfl _ _ 64 rfl (g+1) 143 i0 _ 3 40 Tryz.underlying64 hi hz0 hz1 hz2 rfl (by decide) _ _ _ rfl (HO6.out.alloc _) ⟨w6.heap.size,0,none⟩ 1 1 [.string S[k].key,.string S[k].val,.bool false] rfl rfl (zaq _ _ _ _ _) (by intro u hu;simp at hu;rcases hu with rfl | rfl | rfl <;> rfl) (by unfold maxLen;omega) (by omega) (by simp;omega) ?_;intro v' w3 hown' hgrow3 hnil3)
          go_roundg (S.length - (k+1))
          case measure=>omega
          case rel =>
           have hnb:Below (g+1) w6 w3:=((Below.refl _ _).alloc (by omega) _).grown hgrow3 (by simp;omega) (fun q hq=>(HO6.out.lt q hq).1);exact ⟨k+1,out ++ [S[k]],by go_num,by omega,Nat.le_refl _,(by have:=HOL.out;show _≤_;simp;omega),HK2,(zan.snoc (f:=S[k]) (by rw [hg];exact hown'):zan _ _ _ _),HB6.out.trans (hnb.mono (by have:=HG.out.2;omega)),HC6.out.over hnb⟩
        · have HK2:Hid (za2 S=out ++ za2 (S.drop (k+1))):=by
           show _=_;rw [HK.out,zcU S k hlt,HEND.out];simp [hg]
          go_wp2
          go_roundg (S.length - (k+1))
          case measure=>omega
          case rel=>exact ⟨k+1,out,by go_num,by omega,Nat.le_refl _,Nat.le_trans HOL.out (Nat.le_succ _),HK2,HO5.out.drewN _,below_drewN HB5.out _,HC5.out.drewN _⟩
      · have hE:((k:Int)+1 == (S.length:Int))=false:=by rw [beq_eq_false_iff_ne];omega
        have hlt1:k+1<S.length:=by omega
        obtain ⟨d0,d1,d2⟩:=CC.at0 HC5.out (k+1) hlt1;have hb1:(k:Int)+1<(S.length:Int):=by omega
        have hb2:((k:Int)+1).toNat=k+1:=by omega
        have hb3:IntKind.i64.wrap ((k:Int)+1)=(k:Int)+1:=by rw [IntKind.wrap_i64];omega
        have hb4:(0:Int)≤(k:Int)+1:=by omega
        have HED:Hid (ze3 S[k] (S.drop (k+1))=!(S[k+1].key.toList == S[k].key.toList)):=by
         show _=_;rw [List.drop_eq_getElem_cons hlt1]
         rfl
        cases hs:S[k+1].key.toList == S[k].key.toList
        · have HEND:Hid (ze3 S[k] (S.drop (k+1))=true):=by show _=_;rw [HED.out,hs];rfl
          have hne:(S[k+1].key.toList != S[k].key.toList)=true:=by simp [bne,hs]
          go_quiet (fail)
          cases hg:S[k].gone
          · have HK2:Hid (za2 S=(out ++ [S[k]]) ++ za2 (S.drop (k+1))):=by
             show _=_;rw [HK.out,zcU S k hlt,HEND.out,hg];simp
            have hol:out.length≤200:=Nat.le_trans HOL.out (by omega);obtain ⟨w6,hw6⟩:∃ x,x=w5.drewN nq:=⟨_,rfl⟩
            have y0:w6.cell? ⟨wr.heap.size,0,none⟩=some (.string S[k].key):=by rw [hw6];simpa using x0
            have y1:w6.cell? ⟨wr.heap.size,1,none⟩=some (.string S[k].val):=by rw [hw6];simpa using x1
            have y2:w6.cell? ⟨wr.heap.size,2,none⟩=some (.bool S[k].gone):=by rw [hw6];simpa using x2
            have HB6:Hid (Below w.heap.size w w6):=by rw [hw6];exact below_drewN HB5.out _
            have HC6:Hid (CC w6 (some ⟨g,0,none⟩) S):=by rw [hw6];exact HC5.out.drewN _
            have HO6:Hid (zan w6 (g+1) u6 out):=by rw [hw6];exact HO5.out.drewN _
            have HZ8:Hid (g<w6.heap.size):=by rw [hw6];show g<w5.heap.size;omega
            rw [← hw6];clear x0 x1 x2 HB5 HC5 HO5 hw6;have hz7:=HB6.out.size;have hz8:g<w6.heap.size:=HZ8.out
            go_wp2_with (at_builtin;refine wpList_append_own _ rfl _ _ 64 rfl (g+1) 143 i0 _ 3 40 Tryz.underlying64 hi hz0 hz1 hz2 rfl (by decide) _ _ _ rfl (HO6.out.alloc _) ⟨w6.heap.size,0,none⟩ 1 1 [.string S[k].key,.string S[k].val,.bool false] rfl rfl (zaq _ _ _ _ _) (by intro u hu;simp at hu;rcases hu with rfl | rfl | rfl <;> rfl) (by unfold maxLen;omega) (by omega) (by simp;omega) ?_;intro v' w3 hown' hgrow3 hnil3)
            go_roundg (S.length - (k+1))
            case measure=>omega
            case rel =>
             have hnb:Below (g+1) w6 w3:=((Below.refl _ _).alloc (by omega) _).grown hgrow3 (by simp;omega) (fun q hq=>(HO6.out.lt q hq).1);exact ⟨k+1,out ++ [S[k]],by go_num,by omega,Nat.le_refl _,(by have:=HOL.out;show _≤_;simp;omega),HK2,(zan.snoc (f:=S[k]) (by rw [hg];exact hown'):zan _ _ _ _),HB6.out.trans (hnb.mono (by have:=HG.out.2;omega)),HC6.out.over hnb⟩
          · have HK2:Hid (za2 S=out ++ za2 (S.drop (k+1))):=by
             show _=_;rw [HK.out,zcU S k hlt,HEND.out];simp [hg]
            go_wp2
            go_roundg (S.length - (k+1))
            case measure=>omega
            case rel=>exact ⟨k+1,out,by go_num,by omega,Nat.le_refl _,Nat.le_trans HOL.out (Nat.le_succ _),HK2,HO5.out.drewN _,below_drewN HB5.out _,HC5.out.drewN _⟩
        · have HEND:Hid (ze3 S[k] (S.drop (k+1))=false):=by show _=_;rw [HED.out,hs];rfl
          have hne:(S[k+1].key.toList != S[k].key.toList)=false:=by simp [bne,hs]
          go_quiet (fail)
          have HK2:Hid (za2 S=out ++ za2 (S.drop (k+1))):=by
           show _=_;rw [HK.out,zcU S k hlt,HEND.out];simp
          go_wp2
          go_roundg (S.length - (k+1))
          case measure=>omega
          case rel=>exact ⟨k+1,out,by go_num,by omega,Nat.le_refl _,Nat.le_trans HOL.out (Nat.le_succ _),HK2,HO5.out.drewN _,below_drewN HB5.out _,HC5.out.drewN _⟩
    · go_wp2
      go_ret;have h:=HOUT.out;have hk2:=HK.out;rw [List.drop_eq_nil_of_le (by omega)] at hk2;simp only [za2,List.append_nil] at hk2;exact ⟨_,S,rfl,HST.out,by rw [hk2];exact h.base (by have:=HG.out.2;omega),HB.out⟩
 · have e0:all=[]:=List.eq_nil_of_length_eq_zero (by omega)
   subst e0;obtain ⟨p,cp,rfl,_⟩:=HOWN.out.files;have HCON:Hid _:=zji p cp (.func (.func 130) #[] #[]) w1
   go_wp2_with fail
   refine Calls.mono HCON.out ?_;rintro _ w2 ⟨rfl,rfl⟩;clear HOWN HCON
   go_wp2_with fail
   go_loopg [6,18] 1 (fun kx v vi wr=>v=.slice none 0 0∧vi=.int .i64 0∧wr=w2)
   case atStart=>exact ⟨rfl,rfl,rfl⟩
   case round =>
    obtain ⟨rfl,rfl,rfl⟩:=hrel;go_wp2;go_ret;exact ⟨_,[],rfl,⟨List.Pairwise.nil,fun z=>rfl⟩,World.ownsRow_nil _ _ _ _,HB1.out⟩
end Go.Proofs.YtihnghnafpgdfadGreatDoor
