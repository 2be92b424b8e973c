/- What the proofs stand on, part 18: StableAll. -/
import Derived.Sort.WalkC
import Derived.Test.YtihnghnafpgdfadGreatDoorSk17
set_option linter.unusedVariables false
set_option linter.unusedSimpArgs false
set_option maxRecDepth 100000
set_option maxHeartbeats 4000000
namespace Go.Proofs.YtihnghnafpgdfadGreatDoor
open Go.RowKit Go.Lib Go.Sort
theorem zhK (cf:Ch→Ch→Int) (g:Nat) (cb:Array Value) (blk off cap a b:Nat) (d0 d:Array Ch) (w0 w:World) (F:Fam cf g cb blk off d0 w0) (hs:d.size=d0.size) (S:SWK encC 3 w0 blk off d w) (hab:a≤b) (hb:b≤d0.size) :
 Calls Tryz.prog 189 #[.slice (some ⟨blk,off,none⟩) d0.size cap,.int .i64 a,.int .i64 b,.func (.func g) #[] cb] w fun e w'=>e=.returned (.tuple #[])∧SWK encC 3 w0 blk off (Sort.insertionSort (ltOf cf) d a b) w':=by
 have mixed:Tryz.prog.follows Departure.mixedOrders=true:=by kernel_rfl
 have hsz:=F.few;have eg:=F.enters;have FF:Hid (Fam cf g cb blk off d0 w0):=F;have S0:Aside (SWK encC 3 w0 blk off d w):=S;clear S F
 go_enter Tryz.func189,Tryz.ntmps189
 go_wp2
 go_loopg [8] (b - a) (fun g1 vi wr=>∃ (i:Nat) (dk:Array Ch),vi=.int .i64 i∧a<i∧i≤b+1∧b+1 - i≤g1+1∧dk.size=d0.size∧Aside (SWK encC 3 w0 blk off dk wr)∧Hid (insOuter (ltOf cf) a b i dk=insOuter (ltOf cf) a b (a+1) d))
 case atStart=>exact ⟨a+1,d,by go_num,by omega,by omega,by omega,hs,S0,rfl⟩
 case round =>
  clear S0;obtain ⟨i,dk,rfl,hai,hib,hg1,hsk,S1,HO⟩:=hrel
  by_cases hlt:i<b
  · have hltz:(i:Int)<(b:Int):=by omega
    go_wp2
    go_loopg [9] i (fun g2 vj wr2=>∃ (j:Nat) (dj:Array Ch),vj=.int .i64 j∧a≤j∧j≤i∧j≤g2∧dj.size=d0.size∧Aside (SWK encC 3 w0 blk off dj wr2)∧Hid (insInner (ltOf cf) a j dj=insInner (ltOf cf) a i dk))
    case atStart=>exact ⟨i,dk,rfl,by omega,Nat.le_refl _,Nat.le_refl _,hsk,S1,rfl⟩
    case round =>
     clear S1;obtain ⟨j,dj,rfl,haj,hji,hg2,hsj,S1,HI⟩:=hrel
     have out:(j≤a∨ltOf cf dj[j]! dj[j - 1]! = false)→Hid (insOuter (ltOf cf) a b (i+1) dj=insOuter (ltOf cf) a b (a+1) d):=fun hs=>by
      show _=_;rw [← HO.out,insOuter_go _ _ _ _ _ hlt,← HI.out,insInner_stop _ _ _ _ hs]
     have OUT:Aside _:=out;clear out
     by_cases hja:a<j
     · have hjaz:(a:Int)<(j:Int):=by omega
       obtain ⟨jp,rfl⟩:∃ jp,j=jp+1:=⟨j - 1,by omega⟩
       have hwp:IntKind.i64.wrap (jp:Int)=(jp:Int):=by rw [IntKind.wrap_i64];omega
       have jz:(jp:Int)+1<(d0.size:Int):=by omega
       have jz1:(jp:Int)<(d0.size:Int):=by omega
       have hjaz':(a:Int)<(jp:Int)+1:=by omega
       have p0:(0:Int)≤(jp:Int)+1:=by omega
       have e0:((jp:Int)+1).toNat=jp+1:=by omega
       have k0:=fun n os=>(SWK.grown3 S1.out FF.out.row (by omega) (jp+1) (by omega) n os).1
       have k1:=fun n os=>(SWK.grown3 S1.out FF.out.row (by omega) (jp+1) (by omega) n os).2.1
       have k2:=fun n os=>(SWK.grown3 S1.out FF.out.row (by omega) (jp+1) (by omega) n os).2.2
       have a0:=fun n os=>(SWK.grown3 S1.out FF.out.row (by omega) jp (by omega) n os).1
       have a1:=fun n os=>(SWK.grown3 S1.out FF.out.row (by omega) jp (by omega) n os).2.1
       have a2:=fun n os=>(SWK.grown3 S1.out FF.out.row (by omega) jp (by omega) n os).2.2
       have hcc:=SWK.cmp3 S1.out FF.out.cmp (by omega) dj[jp+1]! dj[jp]!
       by_cases hlv:cf dj[jp+1]! dj[jp]!<0
       · go_wp2_with fail
         go_quiet_grown (first | (go_at_fn g;refine Calls.grown_of (hcc _ _)))
         have S2:Aside (SWK encC 3 w0 blk off dj (grow (wr.drewN nq) osq)):=S1.out.grown nq osq;clear k0 k1 k2 a0 a1 a2 hcc S1;generalize grow (wr.drewN nq) osq=w2 at S2 ⊢;clear nq osq;have S3:=SWK.swap3 S2.out FF.out.row (jp+1) jp (by omega) (by omega);have S3:Aside _:=S3;obtain ⟨⟨c0,c1,c2⟩,f0,f1,f2⟩:=SWK.three S2.out FF.out.row (by omega) jp (by omega);obtain ⟨⟨e0',e1,e2⟩,g0,g1',g2'⟩:=SWK.three S2.out FF.out.row (by omega) (jp+1) (by omega);clear S2
         go_wp2_with fail
         go_big_region_o
         clear c0 c1 c2 e0' e1 e2 f0 f1 f2 g0 g1' g2'
         generalize ((((((w2.setCell ⟨blk,off+(jp+1) * 3,none⟩ (.string dj[jp]!.key)).setCell ⟨blk,off+(jp+1) * 3+1,none⟩ (.string dj[jp]!.val)).setCell ⟨blk,off+(jp+1) * 3+2,none⟩ (.bool dj[jp]!.gone)).setCell
          ⟨blk,off+jp * 3,none⟩ (.string dj[jp+1]!.key)).setCell ⟨blk,off+jp * 3+1,none⟩ (.string dj[jp+1]!.val)).setCell ⟨blk,off+jp * 3+2,none⟩ (.bool dj[jp+1]!.gone)).drew=w3 at S3 ⊢
         go_wp2
         go_roundg jp
         case measure=>omega
         case rel =>
          refine ⟨jp,swp dj (jp+1) jp,by first | rfl | go_num | (congr 1;omega),by omega,by omega,Nat.le_refl _,by rw [size_swp];exact hsj,S3,(show Hid _ from ?_)⟩;show _=_;have:=insInner_go (ltOf cf) a (jp+1) dj hja (by simp only [Nat.add_sub_cancel];exact decide_eq_true hlv);simp only [Nat.add_sub_cancel] at this
          rw [← HI.out,this]
       · go_wp2_with fail
         go_quiet_grown (first | (go_at_fn g;refine Calls.grown_of (hcc _ _)))
         have S2:Aside (SWK encC 3 w0 blk off dj (grow (wr.drewN nq) osq)):=S1.out.grown nq osq;clear k0 k1 k2 a0 a1 a2 hcc S1;generalize grow (wr.drewN nq) osq=w2 at S2 ⊢;clear nq osq;go_wp2
         go_roundg (b - (i+1))
         case measure=>omega
         case rel=>exact ⟨i+1,dj,by go_num,by omega,by omega,by omega,hsj,S2,OUT.out (Or.inr (by simp only [Nat.add_sub_cancel];exact decide_eq_false (by omega)))⟩
     · have hjaz:decide ((j:Int) > (a:Int))=false:=decide_eq_false (by omega)
       have hjaz':¬ (a:Int)<(j:Int):=by omega
       have S2:Aside (SWK encC 3 w0 blk off dj wr.drew):=S1.out.drew;clear S1
       go_wp2_with fail
       go_big_region_o
       all_goals go_wp2
       go_roundg (b - (i+1))
       case measure=>omega
       case rel=>exact ⟨i+1,dj,by go_num,by omega,by omega,by omega,hsj,S2,OUT.out (Or.inl (by omega))⟩
  · have hltz:¬ (i:Int)<(b:Int):=by omega
    go_wp2
    go_end0
    refine ⟨rfl,?_⟩;unfold Sort.insertionSort;rw [← HO.out,insOuter_stop _ _ _ _ _ hlt];exact S1.out
theorem zqc (cf:Ch→Ch→Int) (g:Nat) (cb:Array Value) (blk off cap:Nat) (d0:Array Ch) (w0:World) (F:Fam cf g cb blk off d0 w0) (hfew:d0.size≤100000) :
 Calls Tryz.prog 148 #[.slice (some ⟨blk,off,none⟩) d0.size cap,.int .i64 d0.size,.func (.func g) #[] cb] w0 fun e w'=>e=.returned (.tuple #[])∧∃ d',Stb (ltOf cf) d0.toList d'.toList∧d'.size=d0.size∧SWK encC 3 w0 blk off d' w':=by
 have FF:Hid (Fam cf g cb blk off d0 w0):=F;have S0:Aside (SWK encC 3 w0 blk off d0 w0):=SWK.start F.row.hH;obtain ⟨n,hn⟩:∃ n,n=d0.size:=⟨_,rfl⟩
 rw [← hn];have hfew':n≤100000:=by omega
 have HN:Hid (n=d0.size):=hn;clear F hn hfew
 go_enter Tryz.func148,Tryz.ntmps148
 go_wp2_with fail
 go_loopg [7,8] (n+1) (fun kx va vb wr=>∃ (q A:Nat) (dk:Array Ch),va=.int .i64 A∧vb=.int .i64 (A+20:Nat)∧Hid (A=q * 20)∧A≤n∧n - A≤kx∧Aside (zch (ltOf cf) d0 dk 20 q)∧Aside (SWK encC 3 w0 blk off dk wr))
 case atStart=>exact ⟨0,0,d0,rfl,rfl,(by show _=_;omega),Nat.zero_le _,by omega,zch.zero _ d0 20,S0⟩
 case round =>
  clear S0;obtain ⟨q,A,dk,rfl,rfl,HA,hA,hkx,HB,S1⟩:=hrel
  by_cases hlt:A+20≤n
  · have hltz:(A:Int)+20≤(n:Int):=by omega
    go_wp2_with fail
    have hcon:=zhK cf g cb blk off cap A (A+20) d0 dk w0 wr FF.out HB.out.size S1.out (by omega) (by have:=HN.out;omega);rw [← HN.out] at hcon;refine Calls.mono hcon ?_;clear hcon;rintro _ w2 ⟨rfl,S2⟩;have S3:Aside (SWK encC 3 w0 blk off (Sort.insertionSort (ltOf cf) dk A (A+20)) w2):=S2
    have HB2:Aside (zch (ltOf cf) d0 (Sort.insertionSort (ltOf cf) dk A (A+20)) 20 (q+1)):=by
     obtain ⟨x1,x2,x3⟩:=zhJ (ltOf cf) FF.out.swo dk (a:=A) (b:=A+20) (by omega) (by have:=HB.out.size;have:=HN.out;omega);have hn:=HN.out;have hA':=HA.out;refine HB.out.next (ltOf cf) x2 (fun t ht=>x3 t (by omega)) (fun _=>?_);rw [Nat.min_eq_left (by omega),← hA'];exact x1
    clear S1 S2 HB;generalize Sort.insertionSort (ltOf cf) dk A (A+20)=d2 at S3 HB2;go_wp2
    go_roundg (n - (A+20))
    case measure=>omega
    case rel=>exact ⟨q+1,A+20,d2,by go_num,by go_num,(by have:=HA.out;show _=_;omega),hlt,Nat.le_refl _,HB2,S3⟩
  · have hltz : ¬ (A:Int)+20≤(n:Int):=by omega
    go_wp2_with fail
    have hcon:=zhK cf g cb blk off cap A n d0 dk w0 wr FF.out HB.out.size S1.out hA (by have:=HN.out;omega);rw [← HN.out] at hcon;refine Calls.mono hcon ?_;clear hcon;rintro _ w2 ⟨rfl,S2⟩;have S3:Aside (SWK encC 3 w0 blk off (Sort.insertionSort (ltOf cf) dk A n) w2):=S2
    have HB2:Aside (zb6 (ltOf cf) d0 (Sort.insertionSort (ltOf cf) dk A n) 20):=by
     obtain ⟨x1,x2,x3⟩:=zhJ (ltOf cf) FF.out.swo dk (a:=A) (b:=n) hA (by have:=HB.out.size;have:=HN.out;omega);have hn:=HN.out;have hA':=HA.out
     have hx:zch (ltOf cf) d0 (Sort.insertionSort (ltOf cf) dk A n) 20 (q+1):=by
      refine HB.out.next (ltOf cf) x2 (fun t ht=>x3 t (by omega)) (fun _=>?_);rw [Nat.min_eq_right (by omega),← hA',← hn];exact x1
     exact hx.done (ltOf cf) (by omega)
    clear S1 S2 HB HA hltz hlt hkx hA;generalize Sort.insertionSort (ltOf cf) dk A n=d1 at S3 HB2
    go_wp2_with fail
    go_loopg [6] n (fun kx vs wr=>∃ (s:Nat) (dk:Array Ch),vs=.int .i64 s∧20≤s∧s≤200000∧n - s≤kx∧Aside (zb6 (ltOf cf) d0 dk s)∧Aside (SWK encC 3 w0 blk off dk wr))
    case atStart=>exact ⟨20,d1,rfl,Nat.le_refl _,by omega,by omega,HB2,S3⟩
    case round =>
     clear S3 HB2;obtain ⟨s,dk,rfl,hs20,hs2,hkx,HB,S1⟩:=hrel
     by_cases hlt:s<n
     · have hltz : (s:Int)<(n:Int):=by omega
       have HD0:Aside (zcf (ltOf cf) d0 dk dk s 0):=zcf.zero (ltOf cf) HB.out
       go_wp2_with fail
       go_loopg [7,8] (n+1) (fun kx va vb wr=>∃ (q A B:Nat) (d2:Array Ch),va=.int .i64 A∧vb=.int .i64 B∧Hid (A=q * (2 * s))∧Hid (B=A+2 * s)∧A≤n∧B≤600000∧n - A≤kx∧Aside (zcf (ltOf cf) d0 dk d2 s q)∧Aside (SWK encC 3 w0 blk off d2 wr))
       case atStart=>exact ⟨0,0,2 * s,dk,rfl,by go_num,(by show _=_;omega),(by show _=_;omega),Nat.zero_le _,by omega,by omega,HD0,S1⟩
       case round =>
        clear S1 HD0;obtain ⟨q,A,B,d2,rfl,rfl,HA,HB',hA,hB,hkx2,HD,S1⟩:=hrel;obtain ⟨M,hM⟩:∃ M,M=A+s:=⟨_,rfl⟩
        have hMz:(A:Int)+(s:Int)=(M:Int):=by omega
        have HM:Hid (M=A+s):=hM;have hAM:A<M:=by omega
        have hMB:M<B:=by have:=HB'.out;omega
        clear hM
        by_cases hlt2:B≤n
        · have hltz2:(B:Int)≤(n:Int):=by omega
          have HCON:Hid (Calls Tryz.prog 190 #[.slice (some ⟨blk,off,none⟩) n cap,.int .i64 A,.int .i64 M,.int .i64 B,.func (.func g) #[] cb] wr fun e w'=>e=.returned (.tuple #[])∧∃ d',zcf (ltOf cf) d0 dk d' s (q+1)∧SWK encC 3 w0 blk off d' w'):=by
           have hn:=HN.out;have hA':=HA.out;have hB':=HB'.out;have hM':=HM.out;have hq:q * (2 * s)+s<d0.size:=by omega
           obtain ⟨y1,y2⟩:=HD.out.rises (ltOf cf) FF.out.swo HB.out hq;rw [Nat.min_eq_left (by omega),← hA',← hM',← hB'] at y2;rw [← hA',← hM'] at y1;have hcon:=zfI cf g cb blk off cap d0 w0 FF.out _ A M B (Nat.le_refl _) (by omega) (by omega) (by omega) d2 wr HD.out.size S1.out y1 y2;rw [← hn] at hcon;refine Calls.mono hcon fun e w' he=>⟨he.1,?_⟩
           obtain ⟨d3,hmg,S2⟩:=he.2;refine ⟨d3,HD.out.next (ltOf cf) FF.out.swo HB.out hq ?_,S2⟩;rw [Nat.min_eq_left (by omega),← hA',← hM',← hB'];exact hmg
          go_wp2_with fail
          refine Calls.mono HCON.out ?_;rintro _ w2 ⟨rfl,d3,hd,S2⟩;have S3:Aside (SWK encC 3 w0 blk off d3 w2):=S2;have HD2:Aside (zcf (ltOf cf) d0 dk d3 s (q+1)):=hd;clear S1 S2 HD hd HCON;go_wp2
          go_roundg (n - B)
          case measure=>omega
          case rel=>exact ⟨q+1,B,B+2 * s,d3,rfl,by go_num,(by have:=HA.out;have:=HB'.out;show _=_;rw [Nat.add_mul,Nat.one_mul];omega),(show _=_ from rfl),hlt2,by omega,Nat.le_refl _,HD2,S3⟩
        · have hltz2:¬ (B:Int)≤(n:Int):=by omega
          by_cases hm:M<n
          · have hmz:(M:Int)<(n:Int):=by omega
            have HCON:Hid (Calls Tryz.prog 190 #[.slice (some ⟨blk,off,none⟩) n cap,.int .i64 A,.int .i64 M,.int .i64 n,.func (.func g) #[] cb] wr fun e w'=>e=.returned (.tuple #[])∧∃ d',zb6 (ltOf cf) d0 d' (2 * s)∧SWK encC 3 w0 blk off d' w'):=by
             have hn:=HN.out;have hA':=HA.out;have hB':=HB'.out;have hM':=HM.out;have hq:q * (2 * s)+s<d0.size:=by omega
             obtain ⟨y1,y2⟩:=HD.out.rises (ltOf cf) FF.out.swo HB.out hq;rw [Nat.min_eq_right (by omega),← hA',← hM',← hn] at y2;rw [← hA',← hM'] at y1;have hcon:=zfI cf g cb blk off cap d0 w0 FF.out _ A M n (Nat.le_refl _) (by omega) (by omega) (by omega) d2 wr HD.out.size S1.out y1 y2;rw [← hn] at hcon;refine Calls.mono hcon fun e w' he=>⟨he.1,?_⟩
             obtain ⟨d3,hmg,S2⟩:=he.2;refine ⟨d3,?_,S2⟩
             have hx:zcf (ltOf cf) d0 dk d3 s (q+1):=by
              refine HD.out.next (ltOf cf) FF.out.swo HB.out hq ?_;rw [Nat.min_eq_right (by omega),← hA',← hM',← hn];exact hmg
             refine hx.done (ltOf cf) ?_;rw [Nat.add_mul,Nat.one_mul,← hA'];omega
            go_wp2_with fail
            refine Calls.mono HCON.out ?_;rintro _ w2 ⟨rfl,d3,hd,S2⟩;have S3:Aside (SWK encC 3 w0 blk off d3 w2):=S2;have HB2:Aside (zb6 (ltOf cf) d0 d3 (2 * s)):=hd;clear S1 S2 HD HB hd HCON;go_wp2
            go_roundg (n - 2 * s)
            case measure=>omega
            case rel=>exact ⟨2 * s,d3,by go_num,by omega,by omega,Nat.le_refl _,HB2,S3⟩
          · have hmz:¬ (M:Int)<(n:Int):=by omega
            have HB2:Aside (zb6 (ltOf cf) d0 d2 (2 * s)):=HD.out.alone (ltOf cf) HB.out (by have:=HA.out;have:=HN.out;have:=HM.out;omega);clear HD HB;go_wp2
            go_roundg (n - 2 * s)
            case measure=>omega
            case rel=>exact ⟨2 * s,d2,by go_num,by omega,by omega,Nat.le_refl _,HB2,S1⟩
     · have hltz:¬ (s:Int)<(n:Int):=by omega
       go_wp2
       go_end0
       obtain ⟨x1,x2⟩:=HB.out.whole (ltOf cf) (by have:=HN.out;omega);exact ⟨rfl,dk,x1,x2.trans HN.out.symm,S1.out⟩
theorem zgE (cf:Ch→Ch→Int)(g:Nat)(cb:Array Value)(blk off cap:Nat)(d0:Array Ch)(w0:World)(F:Fam cf g cb blk off d0 w0)(hfew:d0.size≤100000) :
 Calls Tryz.prog 106 #[.slice (some ⟨blk,off,none⟩) d0.size cap,.func (.func g) #[] cb] w0 fun e w'=>e=.returned (.tuple #[])∧∃ d',Stb (ltOf cf) d0.toList d'.toList∧d'.size=d0.size∧SWK encC 3 w0 blk off d' w':=by
 have HF:Hid (Fam cf g cb blk off d0 w0):=F;clear F
 go_enter Tryz.func106,Tryz.ntmps106
 go_wp2_with fail
 refine Calls.mono (zqc cf g cb blk off cap d0 w0 HF.out hfew) ?_;rintro _ w2 ⟨rfl,d',h1,h2,h3⟩;have H1:Hid (Stb (ltOf cf) d0.toList d'.toList):=h1;have H2:Hid (d'.size=d0.size):=h2;have H3:Hid (SWK encC 3 w0 blk off d' w2):=h3;clear h1 h2 h3;go_wp2
 go_end0
 exact ⟨rfl,d',H1.out,H2.out,H3.out⟩
end Go.Proofs.YtihnghnafpgdfadGreatDoor
