/-
  THE WALK OF TrioSays: it returns true.
-/
import Derived.Test.YtihnghnafpgdfacGreatDoorYTrioSaysBase
import Derived.Test.YtihnghnafpgdfacGreatDoorRk24
import Derived.Test.YtihnghnafpgdfacGreatDoorRk01
import Derived.Deep.CutBlock
import Derived.Deep.RegionHeld3
import Derived.BigQuiet
namespace Go.Proofs.YtihnghnafpgdfacGreatDoor
open Go Go.RowKit Go.BigFrame
set_option linter.unusedVariables false
set_option linter.unusedSimpArgs false
set_option maxRecDepth 100000 in
set_option maxHeartbeats 2000000 in
theorem trioSays_any (a:Option Addr) (cap:Nat) (L:List Ac) (w:World) (hm:L.length≤maxLen) (hs:ActCells w a L) (hnum:∀ i (h:i<L.length),ActNum L[i]) (hv:Vars w) :
    Calls Tryz.prog 3 #[.slice a L.length cap] w fun e w'=>e=.returned (.bool true)∧Below w.heap.size w w':=by
  have HA:Hid (ActCells w a L):=hs
  have HNUM:Hid (∀ i (h:i<L.length),ActNum L[i]):=hnum
  have HV:Hid (VarsLo w.heap.size w):=⟨w,hv,Nat.le_refl _,Below.refl _ _⟩
  have KW:Hid _:=trios_any w HV.out
  clear hs hv hnum
  go_enter Tryz.func3,Tryz.ntmps3
  go_wp2_with fail
  refine Calls.mono KW.out ?_
  rintro e w1 ⟨rfl,hb1⟩
  have HB1:Hid (Below w.heap.size w w1):=hb1
  have KL:Hid _:=lightActs_any a cap L 50 w1 hm (by omega) (HA.out.below hb1)
  clear hb1 KW
  go_wp2_with fail
  refine Calls.mono KL.out ?_
  rintro e w2 ⟨⟨lb,rfl,hlb⟩,hw2⟩
  rw [hw2]
  clear hw2 w2 KL
  cases lb with
  | false =>
    go_wp2
    go_ret
    exact ⟨rfl,HB1.out⟩
  | true =>
  have HLA:Hid (LightA L 50):=hlb rfl
  have K3:Hid _:=three_any w1.heap.size w1 ((HV.out.go HB1.out).mono HB1.out.size) (Nat.le_refl _)
  clear hlb
  go_wp2_with fail
  refine Calls.mono K3.out ?_
  rintro e w2 ⟨P,D,tb,so,aq,cq,rfl,hw,hb2⟩
  obtain ⟨V0,hW⟩:∃ y,y=w2.alloc (.cells #[dptr (P 0),dptr (P 1),dptr (P 2)] 26):=⟨_,rfl⟩
  have hb3:Below w2.heap.size w2 V0:=by rw [hW];exact (Below.refl _ _).alloc (Nat.le_refl _) _
  have HB:Hid (Below w.heap.size w V0):=HB1.out.trans ((hb2.trans (hb3.mono hb2.size)).mono HB1.out.size)
  have HL1:Hid (w.heap.size≤w1.heap.size∧w1.heap.size≤V0.heap.size):=⟨HB1.out.size,Nat.le_trans hb2.size hb3.size⟩
  have HD:Hid (DBox V0 w2.heap.size (dptr (P 0)) (dptr (P 1)) (dptr (P 2))):=by rw [hW];exact DBox.new w2 _ _ _
  have HW:Hid (Well w1.heap.size V0 P D tb so aq cq [] 1):=hw.below hb3
  have hm':=hm
  unfold maxLen at hm'
  clear hb2 hb3 hw K3
  go_upto_region 7 with fail
  rw [← hW]
  clear hW
  obtain ⟨W1,hW1⟩:∃ y,y=V0.alloc (.cells #[.slice none 0 0,.int .i64 1] 32):=⟨_,rfl⟩
  have hb01:Below V0.heap.size V0 W1:=by rw [hW1];exact (Below.refl _ _).alloc (Nat.le_refl _) _
  have HS1:Hid (Spoilt w1.heap.size V0 W1 P P D tb so aq cq [] 1 3):=HW.out.open_.below hb01
  have HQ1:Hid (QSome W1 V0.heap.size none 0 [] 1):=⟨by rw [hW1];exact World.alloc_heap_new V0 _,⟨fun i hi=>absurd hi (Nat.not_lt_zero _),Nat.le_refl _,by unfold maxLen;omega,fun _=>rfl⟩⟩
  clear hb01
  go_upto_region 8 with fail
  rw [← hW1]
  clear hW1
  go_wp2_with fail
  go_loopg [5,7,8] (L.length+1) (fun kx vt vs vi wr=>∃ (n k:Nat) (P':Nat→Dp) (D':Nat→Dk) (tb':Nat) (so':Nat→Option Nat) (aq':Option Addr) (cq':Nat) (l':List Fi) (t':Int) (a':Option Addr) (c':Nat),vt=.pointer (some ⟨tb',0,none⟩)∧vs=.int .i64 (spV k)∧vi=.int .i64 n∧n≤L.length∧L.length - n≤kx∧k≤3∧Hid (Spoilt w1.heap.size V0 wr P P' D' tb' so' aq' cq' l' t' k)∧Hid (QSome wr V0.heap.size a' c' l' t'))
  case atStart=>exact ⟨0,3,P,D,tb,so,aq,cq,[],1,none,0,rfl,rfl,rfl,Nat.zero_le _,by omega,by omega,HS1,HQ1⟩
  case round =>
    obtain ⟨n,k,P1,D1,tb1,so1,aq1,cq1,l,t,a1,c1,rfl,rfl,rfl,hn,hnx,hk3,HS,HQ⟩:=hrel
    have HBw:Hid (Below w.heap.size w wr):=HB.out.trans (HS.out.bel.mono HL1.out.1)
    by_cases hlt:n<L.length
    · have hltz : (n : Int)<(L.length:Int):=by omega
      obtain ⟨b,off,rfl,⟨x0,x1,x2,x3,x4,x5⟩,ok⟩:=HA.out.below HBw.out n hlt
      have HSZ:Hid (L[n].s.size≤maxLen∧L[n].t.size≤maxLen):=⟨ok.s,ok.t⟩
      have HNU:Hid (ActNum L[n]):=HNUM.out n hlt
      clear ok
      generalize L[n]=y at *
      go_upto_block 2 with fail
      obtain ⟨W,hW⟩:∃ u,u=wr.alloc (.cells #[.string y.kind,.string y.s,.string y.t,.int .i64 y.n,.int .u64 y.k,.slice y.ca y.cl.length y.cc] 36):=⟨_,rfl⟩
      have hbW:Below wr.heap.size wr W:=by rw [hW];exact (Below.refl _ _).alloc (Nat.le_refl _) _
      have HX:Hid (AHere W wr.heap.size y):=by rw [hW];exact AHere.new wr y
      have HSW:Hid (Spoilt w1.heap.size V0 W P P1 D1 tb1 so1 aq1 cq1 l t k):=HS.out.below hbW
      have HQW:Hid (QSome W V0.heap.size a1 c1 l t):=HQ.out.below hbW
      have HDW:Hid (DBox W w2.heap.size (dptr (P1 0)) (dptr (P1 1)) (dptr (P1 2))):=(HD.out.far HSW.out.far).place HSW.out.same
      have H8:Hid (l.length≤8):=HSW.out.life.good.files.few
      have HWB:Hid (V0.heap.size<W.heap.size):=Nat.lt_of_lt_of_le (Array.getElem?_eq_some_iff.1 HQ.out.blk).1 hbW.size
      rw [← hW]
      clear hW hbW x0 x1 x2 x3 x4 x5 HS HQ
      obtain ⟨x0,x1,x2,x3,x4,x5⟩:=HX.out.cells
      go_cut [5,7,10,11] (fun vt vs vn ve wx=>∃ (k2 n2:Nat) (P2:Nat→Dp) (D2:Nat→Dk) (tb2:Nat) (so2:Nat→Option Nat) (aq2:Option Addr) (cq2:Nat) (l2:List Fi) (t2:Int) (a2:Option Addr) (c2:Nat),vt=.pointer (some ⟨tb2,0,none⟩)∧vs=.int .i64 (spV k2)∧vn=.int .i64 n2∧ve=.nilIface∧k2≤3∧n2≤1∧(n2=1→k2<3)∧Hid (Spoilt w1.heap.size V0 wx P P2 D2 tb2 so2 aq2 cq2 l2 t2 (if n2=1 then 3 else k2))∧Hid (QSome wx V0.heap.size a2 c2 l2 t2))
      case first =>
        cases e1:(y.kind.toList == [115,112,111,105,108])
        · cases e2:(y.kind.toList == [115,99,114,117,98])
          · cases e3:(y.kind.toList == [111,112,101,110])
            · have KD:Hid _:=doneRef_any a1 c1 l t y W HSW.out.life.good HQW.out.files HSZ.out.1 HSZ.out.2
              have HDG:Hid (((doR l t y).n=0∧GoodQ (doR l t y).l (doR l t y).t)∨(0<(doR l t y).n∧(doR l t y).n≤100∧(doR l t y).l=[]∧(doR l t y).t=0)):=do_good HSW.out.life.good y
              obtain ⟨q0,q1⟩:=HQW.out.cells
              go_wp2_with fail
              refine Calls.mono KD.out ?_
              rintro e w4 ⟨a4,c4,rfl,hs4,hb4⟩
              obtain ⟨W5,hW5⟩:∃ z,z=w4.alloc (.cells #[.slice a4 (doR l t y).l.length c4,.int .i64 (doR l t y).t] 32):=⟨_,rfl⟩
              have hb5:Below w4.heap.size w4 W5:=by rw [hW5];exact (Below.refl _ _).alloc (Nat.le_refl _) _
              have hb45:Below W.heap.size W W5:=hb4.trans (hb5.mono hb4.size)
              have HN5:Hid (QSome W5 w4.heap.size a4 c4 (doR l t y).l (doR l t y).t):=⟨by rw [hW5];exact World.alloc_heap_new w4 _,hs4.below hb5⟩
              have HX5:Hid (AHere W5 wr.heap.size y):=HX.out.below hb45
              have HS5:Hid (Spoilt w1.heap.size V0 W5 P P1 D1 tb1 so1 aq1 cq1 l t k):=HSW.out.below hb45
              have HQ5:Hid (QSome W5 V0.heap.size a1 c1 l t):=HQW.out.below hb45
              have HNE:Hid (w4.heap.size≠V0.heap.size):=by have h1:=HWB.out;have h2:=hb4.size;show _≠_;omega
              clear hs4 hb4 hb5 hb45 KD x0 x1 x2 x3 x4 x5 q0 q1
              generalize hr:doR l t y=r at *
              have KA:Hid _:=act_spoilt2 HS5.out y HSZ.out.1 HSZ.out.2
              have hx5:=HX5.out.cells
              rw [hW5] at hx5
              obtain ⟨x0,x1,x2,x3,x4,x5⟩:=hx5
              go_wp2_with fail
              rw [← hW5]
              clear hW5
              refine Calls.mono KA.out ?_
              rintro e w6 ⟨rfl,hf56,P6,D6,so6,a6,c6,l6,t6,hs6,hor⟩
              rw [hr] at hor
              rw [hr]
              have HS6:Hid (Spoilt w1.heap.size V0 w6 P P6 D6 tb1 so6 a6 c6 l6 t6 k):=hs6
              have HOR:Hid _:=hor
              have HN6:Hid (QSome w6 w4.heap.size a4 c4 r.l r.t):=HN5.out.far hf56
              have HQ6:Hid (QSome w6 V0.heap.size a1 c1 l t):=HQ5.out.far hf56
              have hrg:0≤r.n∧r.n≤100:=by rcases HDG.out with ⟨h,-⟩ | ⟨h1,h2,-⟩ <;> omega
              have KY:Hid _:=same_yes r.n w6 hrg.1 hrg.2
              clear hs6 hor hrg hf56 KA x0 x1 x2 x3 x4 x5
              go_wp2_with fail
              refine Calls.mono KY.out ?_
              rintro e w7 ⟨rfl,hw7⟩
              rw [hw7]
              clear hw7 w7 KY
              by_cases hrn:r.n=0
              · obtain ⟨rfl,rfl⟩:l6=r.l∧t6=r.t:=by rcases HOR.out with ⟨h,-⟩ | ⟨-,h1,h2⟩;exact absurd hrn h;exact ⟨h1,h2⟩
                obtain ⟨n0,n1⟩:=HN6.out.cells
                obtain ⟨q0,q1⟩:=HQ6.out.cells
                have fr0:=frozen_block HQ6.out.blk 0
                have fr1:=frozen_block HQ6.out.blk 1
                have ql:V0.heap.size<w6.heap.size:=(Array.getElem?_eq_some_iff.1 HQ6.out.blk).1
                obtain ⟨W7,hW7⟩:∃ z,z=(w6.setCell ⟨V0.heap.size,0,none⟩ (.slice a4 r.l.length c4)).setCell ⟨V0.heap.size,1,none⟩ (.int .i64 r.t):=⟨_,rfl⟩
                obtain ⟨b1,b2,b3⟩:=box_over (u:=.slice a4 r.l.length c4) (v:=.int .i64 r.t) HQ6.out.blk
                have HSL:Hid (Slice W7 a4 c4 r.l):=by rw [hW7];exact HN6.out.files.store2 (fun o ho=>by rw [cell_block HQ6.out.blk];simp;omega) _ _
                rw [← hW7] at b1 b2 b3
                have hB67:Below w1.heap.size w6 W7:=by rw [hW7];exact ((Below.refl _ _).setCell HL1.out.2 _).setCell HL1.out.2 _
                have hk7:∀ (k:Nat) (C:Array Value) (T:TypeId) (fr:Nat × Nat),w6.heap[k]?=some (.cells C T fr)→T≠32→W7.heap[k]?=w6.heap[k]?:=fun k C T fr e hT=>b2 k (fun hk=>by
                  subst hk
                  rw [HQ6.out.blk] at e
                  exact hT (by cases e;rfl))
                have HS7:Hid (Spoilt w1.heap.size V0 W7 P P6 D6 tb1 so6 a6 c6 r.l r.t k):=HS6.out.keep (fun k C T fr e hT=>hk7 k C T fr e (by
                  rcases hT with h | rfl | rfl
                  · intro h2;subst h2;revert h;unfold StoreT;decide
                  · decide
                  · decide)) hB67 (fun k C T fr e hT=>(b2 k (by have:=(Array.getElem?_eq_some_iff.1 e).1;omega)).trans (HS6.out.far k C T fr e hT))
                have HQ7:Hid (QSome W7 V0.heap.size a4 c4 r.l r.t):=⟨b1,HSL.out⟩
                have HNZ:Hid (r.n=0):=hrn
                rw [hrn]
                clear hk7 hB67 b1 b2 b3 HSL HOR
                go_wp2_with fail
                rw [← hW7]
                go_meet
                exact ⟨k,0,P6,D6,tb1,so6,a6,c6,r.l,r.t,a4,c4,rfl,rfl,rfl,rfl,hk3,by omega,fun h=>by omega,HS7.out,HQ7.out⟩
              · obtain ⟨rfl,rfl⟩:l6=l∧t6=t:=by rcases HOR.out with ⟨-,h1,h2⟩ | ⟨h,-⟩;exact ⟨h1,h2⟩;exact absurd h hrn
                have hrz:(r.n == 0)=false:=by simpa using hrn
                clear HOR
                go_wp2_with fail
                go_meet
                exact ⟨k,0,P6,D6,tb1,so6,a6,c6,l6,t6,a1,c1,rfl,rfl,rfl,rfl,hk3,by omega,fun h=>by omega,HS6.out,HQ6.out⟩
            · obtain ⟨i0,j0,hi0,hj0,hij,hik,hjk⟩:=two_others4 k
              have KO:Hid _:=open_mended w1.heap.size P1 D1 l t W HSW.out.life.good HSW.out.life.three HSW.out.free HSW.out.life.vars HSW.out.life.low hi0 hj0 hij (HSW.out.sound i0 hi0 hik).tells (HSW.out.sound j0 hj0 hjk).tells
              clear hi0 hj0 hij hik hjk i0 j0
              obtain ⟨d0,d1,d2,-⟩:=HDW.out.cells
              go_wp2_with fail
              refine Calls.mono KO.out ?_
              rintro e w4 ⟨tb4,n4,P4,D4,S4,a4,c4,rfl,hsz,hmd⟩
              obtain ⟨h1,h2⟩:=HSW.out.mend hk3 hmd
              have hfew:=hmd.few
              have HM1:Hid _:=h1
              have HM2:Hid _:=h2
              have HQ4:Hid (QSome w4 V0.heap.size a1 c1 l t):=HQW.out.far hmd.far
              have HF4:Hid (n4≤1):=hfew
              clear h1 h2 hmd hfew hsz KO d0 d1 d2
              go_wp2_with fail
              all_goals go_meet
              all_goals exact ⟨k,n4,P4,D4,tb4,S4,a4,c4,l,t,a1,c1,rfl,rfl,rfl,rfl,hk3,HF4.out,HM2.out,HM1.out,HQ4.out⟩
          · obtain ⟨i0,j0,hi0,hj0,hij,hik,hjk⟩:=two_others4 k
            have KO:Hid _:=scrub_here HSW.out.life HSW.out.free hi0 hj0 hij (HSW.out.sound i0 hi0 hik).tells (HSW.out.sound j0 hj0 hjk).tells
            clear hi0 hj0 hij hik hjk i0 j0
            go_wp2_with fail
            refine Calls.mono KO.out ?_
            rintro e w4 ⟨n4,P4,D4,S4,rfl,hmd⟩
            obtain ⟨h1,h2⟩:=HSW.out.mend hk3 hmd
            have hfew:=hmd.few
            have HM1:Hid _:=h1
            have HM2:Hid _:=h2
            have HQ4:Hid (QSome w4 V0.heap.size a1 c1 l t):=HQW.out.far hmd.far
            have HF4:Hid (n4≤1):=hfew
            clear h1 h2 hmd hfew KO
            go_wp2_with fail
            all_goals go_meet
            all_goals exact ⟨k,n4,P4,D4,tb1,S4,aq1,cq1,l,t,a1,c1,rfl,rfl,rfl,rfl,hk3,HF4.out,HM2.out,HM1.out,HQ4.out⟩
        · obtain ⟨k',hk',hke⟩:=place_of y.n 3 (by omega)
          have hke3:(bits .and .i64 y.n 1023).tmod 3=(k':Int):=hke
          have hkz:(k':Int)<3:=by omega
          have hkz0:(0:Int)≤(k':Int):=by omega
          clear hke
          by_cases hgo:(0≤spV k∧¬ spV k=(k':Int))∨40<y.s.size
          · by_cases hz:0≤spV k
            · by_cases hne:spV k=(k':Int)
              · have hbz:(40:Int)<(y.s.size:Int):=by omega
                have hnez:(spV k != (k':Int))=false:=by simp [hne]
                clear hne hgo
                go_wp2
                go_roundg (L.length - (n+1))
                case measure=>omega
                case rel=>exact ⟨n+1,k,P1,D1,tb1,so1,aq1,cq1,l,t,a1,c1,rfl,rfl,by go_num,by omega,Nat.le_refl _,hk3,HSW,HQW⟩
              · have hnez:(spV k != (k':Int))=true:=by simpa using hne
                clear hne hgo
                go_wp2
                go_roundg (L.length - (n+1))
                case measure=>omega
                case rel=>exact ⟨n+1,k,P1,D1,tb1,so1,aq1,cq1,l,t,a1,c1,rfl,rfl,by go_num,by omega,Nat.le_refl _,hk3,HSW,HQW⟩
            · have hbz:(40:Int)<(y.s.size:Int):=by omega
              clear hgo
              go_wp2
              go_roundg (L.length - (n+1))
              case measure=>omega
              case rel=>exact ⟨n+1,k,P1,D1,tb1,so1,aq1,cq1,l,t,a1,c1,rfl,rfl,by go_num,by omega,Nat.le_refl _,hk3,HSW,HQW⟩
          · have hbz : ¬ (40:Int)<(y.s.size:Int):=by omega
            have hb40:y.s.size≤40:=by omega
            have hk0:k=3∨k=k':=by
              by_cases e:k=3
              · exact .inl e
              · have e2:spV k=(k:Int):=if_neg e
                rw [e2] at hgo
                omega
            have HK0:Hid (k=3∨k=k'):=hk0
            obtain ⟨kk,hkk⟩:∃ kk:Nat,y.k=kk:=⟨y.k.toNat,by have:=bounds_u64 HNU.out.k;omega⟩
            rw [hkk] at x4
            have HDk:Hid (DiskAt W (P1 k') (D1 k')):=HSW.out.life.three.disk k' hk'
            have KWr:Hid _:=spoil_write (P1 k') (D1 k') (kk % 50) y.s W HDk.out (HSW.out.free k' hk') (Nat.mod_lt _ (by omega)) hb40
            have dk:=HDW.out.at hk'
            have dl:=HDW.out.lt
            have HHZ:Hid (0≤spV k→spV k=(k':Int)):=fun h=>by
              rcases hk0 with e | e
              · rw [e] at h;simp [spV] at h
              · rw [e];unfold spV;rw [if_neg (by omega)]
            have H40:Hid (y.s.size≤40):=hb40
            have HMOD:Hid (IntKind.i64.wrap (((kk:Nat):Int).tmod 50)=((kk % 50:Nat):Int)):=by
              show _=_
              rw [IntKind.wrap_i64,Int.tmod_eq_emod_of_nonneg (by omega)]
              omega
            clear hgo hk0 hb40
            by_cases hz:0≤spV k
            · have hnez:(spV k != (k':Int))=false:=by simp [HHZ.out hz]
              have keepS:Hid (∀ V,LetT W V→(V.cell? ⟨w2.heap.size,k',none⟩=some (dptr (P1 k'))∧V.cell? ⟨wr.heap.size,4,none⟩=some (.int .u64 (kk:Int))∧V.cell? ⟨wr.heap.size,1,none⟩=some (.string y.s))):=fun V h=>by
                obtain ⟨-,z1,-,-,z4,-⟩:=(HX.out.far h).cells
                rw [hkk] at z4
                exact ⟨(HDW.out.far h).at hk',z4,z1⟩
              go_wp2_with fail
              go_region_held3 (fun V=>V.cell? ⟨w2.heap.size,k',none⟩=some (dptr (P1 k'))∧V.cell? ⟨wr.heap.size,4,none⟩=some (.int .u64 (kk:Int))∧V.cell? ⟨wr.heap.size,1,none⟩=some (.string y.s))
                (first | exact ⟨dk,x4,x1⟩ | exact keepS.out _ hfB.out | exact keepS.out _ hfA.out)
                (first
                  | (have _:=hfA
                     go_at_call 15
                     refine (spoil_flush hsA.out).mono ?_
                     rintro e wb ⟨rfl,hsp,hcl⟩
                     have hsB:Hid (SpoilTo W wb (P1 k') (.slice none 0 0) (flushD (writeD (D1 k') ((kk % 50:Nat):Int) y.s)) 0):=hsp
                     have hcB:Hid (Clean (flushD (writeD (D1 k') ((kk % 50:Nat):Int) y.s))):=hcl
                     have hfB:Hid (LetT W wb):=LetT.of_touch HDk.out (HSW.out.life.up k' hk').2.1 hsp.touch
                     clear hsp hcl)
                  | (go_at_call 14
                     rw [HMOD.out]
                     refine (spoil_write (P1 k') (D1 k') (kk % 50) y.s _ (HDk.out.below (Below.drew (Below.refl _ _))) (HSW.out.free k' hk') (Nat.mod_lt _ (by omega)) H40.out).mono ?_
                     rintro e wa ⟨rfl,va,hsp⟩
                     have hsA:Hid (SpoilTo W wa (P1 k') va (writeD (D1 k') ((kk % 50:Nat):Int) y.s) 1):=⟨hsp.disk,hsp.free,hsp.new,⟨hsp.touch.os,hsp.touch.tape,hsp.touch.output,hsp.touch.size,hsp.touch.block⟩⟩
                     have hfA:Hid (LetT W wa):=LetT.of_touch HDk.out (HSW.out.life.up k' hk').2.1 hsA.out.touch
                     clear hsp))
              rename_i hHeld
              clear hHeld
              have HSN:Hid (Spoilt w1.heap.size V0 wb P (upd P1 k' { P1 k' with wv:=.slice none 0 0 }) (upd D1 k' (flushD (writeD (D1 k') ((kk % 50:Nat):Int) y.s))) tb1 so1 aq1 cq1 l t k'):=HSW.out.spoil hk' HK0.out hsB.out hcB.out
              have HQN:Hid (QSome wb V0.heap.size a1 c1 l t):=HQW.out.far hfB.out
              have e9:spV k'=(k':Int):=if_neg (by omega)
              clear hsA hsB hcB hfA hfB keepS dk dl x0 x1 x2 x3 x4 x5
              go_wp2_with fail
              go_meet
              exact ⟨k',0,_,_,tb1,so1,aq1,cq1,l,t,a1,c1,rfl,by rw [e9],rfl,rfl,by omega,by omega,fun h=>by omega,HSN.out,HQN.out⟩
            · have hnez:True:=trivial
              have keepS:Hid (∀ V,LetT W V→(V.cell? ⟨w2.heap.size,k',none⟩=some (dptr (P1 k'))∧V.cell? ⟨wr.heap.size,4,none⟩=some (.int .u64 (kk:Int))∧V.cell? ⟨wr.heap.size,1,none⟩=some (.string y.s))):=fun V h=>by
                obtain ⟨-,z1,-,-,z4,-⟩:=(HX.out.far h).cells
                rw [hkk] at z4
                exact ⟨(HDW.out.far h).at hk',z4,z1⟩
              go_wp2_with fail
              go_region_held3 (fun V=>V.cell? ⟨w2.heap.size,k',none⟩=some (dptr (P1 k'))∧V.cell? ⟨wr.heap.size,4,none⟩=some (.int .u64 (kk:Int))∧V.cell? ⟨wr.heap.size,1,none⟩=some (.string y.s))
                (first | exact ⟨dk,x4,x1⟩ | exact keepS.out _ hfB.out | exact keepS.out _ hfA.out)
                (first
                  | (have _:=hfA
                     go_at_call 15
                     refine (spoil_flush hsA.out).mono ?_
                     rintro e wb ⟨rfl,hsp,hcl⟩
                     have hsB:Hid (SpoilTo W wb (P1 k') (.slice none 0 0) (flushD (writeD (D1 k') ((kk % 50:Nat):Int) y.s)) 0):=hsp
                     have hcB:Hid (Clean (flushD (writeD (D1 k') ((kk % 50:Nat):Int) y.s))):=hcl
                     have hfB:Hid (LetT W wb):=LetT.of_touch HDk.out (HSW.out.life.up k' hk').2.1 hsp.touch
                     clear hsp hcl)
                  | (go_at_call 14
                     rw [HMOD.out]
                     refine (spoil_write (P1 k') (D1 k') (kk % 50) y.s _ (HDk.out.below (Below.drew (Below.refl _ _))) (HSW.out.free k' hk') (Nat.mod_lt _ (by omega)) H40.out).mono ?_
                     rintro e wa ⟨rfl,va,hsp⟩
                     have hsA:Hid (SpoilTo W wa (P1 k') va (writeD (D1 k') ((kk % 50:Nat):Int) y.s) 1):=⟨hsp.disk,hsp.free,hsp.new,⟨hsp.touch.os,hsp.touch.tape,hsp.touch.output,hsp.touch.size,hsp.touch.block⟩⟩
                     have hfA:Hid (LetT W wa):=LetT.of_touch HDk.out (HSW.out.life.up k' hk').2.1 hsA.out.touch
                     clear hsp))
              rename_i hHeld
              clear hHeld
              have HSN:Hid (Spoilt w1.heap.size V0 wb P (upd P1 k' { P1 k' with wv:=.slice none 0 0 }) (upd D1 k' (flushD (writeD (D1 k') ((kk % 50:Nat):Int) y.s))) tb1 so1 aq1 cq1 l t k'):=HSW.out.spoil hk' HK0.out hsB.out hcB.out
              have HQN:Hid (QSome wb V0.heap.size a1 c1 l t):=HQW.out.far hfB.out
              have e9:spV k'=(k':Int):=if_neg (by omega)
              clear hsA hsB hcB hfA hfB keepS dk dl x0 x1 x2 x3 x4 x5
              go_wp2_with fail
              go_meet
              exact ⟨k',0,_,_,tb1,so1,aq1,cq1,l,t,a1,c1,rfl,by rw [e9],rfl,rfl,by omega,by omega,fun h=>by omega,HSN.out,HQN.out⟩
      case rest =>
        obtain ⟨k2,n2,P2,D2,tb2,so2,aq2,cq2,l2,t2,a2,c2,rfl,rfl,rfl,rfl,hk2,hn2,hnk,HS2,HQ2⟩:=hcut
        by_cases hn1:n2=1
        · subst hn1
          rw [if_pos rfl] at HS2
          have hk23:k2<3:=hnk rfl
          have esv:spV k2=(k2:Int):=if_neg (by omega)
          rw [esv]
          have hkz2:¬ (k2:Int)<0:=by omega
          have HS3:Hid (Spoilt w1.heap.size V0 wc P P2 D2 tb2 so2 aq2 cq2 l2 t2 3):=HS2.out
          have HQ3:Hid (QSome wc V0.heap.size a2 c2 l2 t2):=HQ2.out
          have G8:Hid (l2.length≤8):=HS3.out.life.good.files.few
          have keepQ:Hid (∀ V,Below wc.heap.size wc V→(V.cell? ⟨V0.heap.size,0,none⟩=some (.slice a2 l2.length c2)∧V.cell? ⟨V0.heap.size,1,none⟩=some (.int .i64 t2))):=fun V h=>(HQ3.out.below h).cells
          obtain ⟨q0,q1⟩:=keepQ.out wc (Below.refl _ _)
          clear HS2 HQ2
          go_wp2_with fail
          go_region_held3 (fun V=>V.cell? ⟨V0.heap.size,0,none⟩=some (.slice a2 l2.length c2)∧V.cell? ⟨V0.heap.size,1,none⟩=some (.int .i64 t2))
            (first | exact keepQ.out _ (Below.drew (Below.refl _ _)) | exact keepQ.out _ hbB.out | exact keepQ.out _ hbA.out)
            (first
              | (have _:=hbA
                 go_at_call 21
                 refine (sameSome_any G8.out hfA.out (HQ3.out.below hbA.out).files).mono ?_
                 rintro e wb ⟨rfl,hb⟩
                 have hbB:Hid (Below wc.heap.size wc wb):=hbA.out.trans (hb.mono hbA.out.size)
                 clear hb)
              | (go_at_call 22
                 refine (quilt_here P2 tb2 so2 aq2 cq2 l2 t2 _ (HS3.out.life.below (Below.drew (Below.refl _ _))).trio G8.out).mono ?_
                 rintro e wa ⟨a9,c9,rfl,hf,hb⟩
                 have hbA:Hid (Below wc.heap.size wc wa):=(Below.drew (Below.refl _ _)).trans hb
                 have hfA:Hid (FilesIn wa a9 c9 l2):=hf
                 clear hb hf))
          rename_i hHeld
          clear hHeld keepQ q0 q1
          have HS4:Hid (Spoilt w1.heap.size V0 wb P P2 D2 tb2 so2 aq2 cq2 l2 t2 3):=HS3.out.below hbB.out
          have HQ4:Hid (QSome wb V0.heap.size a2 c2 l2 t2):=HQ3.out.below hbB.out
          have HD4:Hid (DBox wb w2.heap.size (dptr (P2 0)) (dptr (P2 1)) (dptr (P2 2))):=(HD.out.far HS4.out.far).place HS4.out.same
          have KC:Hid _:=copies_any w1.heap.size P2 D2 wb HS4.out.life.three (fun i hi=>⟨(HS4.out.free i hi).up,by rw [(HS4.out.free i hi).len];omega⟩) HS4.out.life.vars HS4.out.life.low
          obtain ⟨d0,d1,d2,-⟩:=HD4.out.cells
          clear hbA hbB hfA
          go_wp2_with fail
          refine Calls.mono KC.out ?_
          rintro e w6 ⟨s,c,rfl,hb6,hrd⟩
          obtain ⟨W6,hW6⟩:∃ y,y=w6.alloc (.cells #[.bool (c 0).is,.slice (c 0).a (c 0).l.length (c 0).cap,.int .i64 (c 0).t,.bool (c 1).is,.slice (c 1).a (c 1).l.length (c 1).cap,.int .i64 (c 1).t,.bool (c 2).is,.slice (c 2).a (c 2).l.length (c 2).cap,.int .i64 (c 2).t] 53):=⟨_,rfl⟩
          have hbW:Below w6.heap.size w6 W6:=by rw [hW6];exact (Below.refl _ _).alloc (Nat.le_refl _) _
          have HN6:Hid (NBox W6 w6.heap.size c):=by rw [hW6];exact NBox.new w6 c
          have hb56:Below wb.heap.size wb W6:=hb6.trans (hbW.mono hb6.size)
          have HR6:Hid (∀ i,i<3→RdOk W6 wb.heap.size (P2 i) (D2 i) (s i) (c i)):=fun i hi=>(hrd i hi).below hbW
          have HS6:Hid (Spoilt w1.heap.size V0 W6 P P2 D2 tb2 so2 aq2 cq2 l2 t2 3):=HS4.out.below hb56
          have HQ6:Hid (QSome W6 V0.heap.size a2 c2 l2 t2):=HQ4.out.below hb56
          clear hb6 hrd hbW hb56 KC d0 d1 d2
          go_upto_region 40 with fail
          rw [← hW6]
          clear hW6
          go_wp2_with fail
          generalize W6=WJ at *
          go_loopg [17] 4 (fun kx vi wr=>∃ j:Nat,vi=.int .i64 j∧j≤3∧3 - j≤kx∧Hid (Below WJ.heap.size WJ wr))
          case atStart=>exact ⟨0,rfl,by omega,by omega,Below.refl _ _⟩
          case round =>
            obtain ⟨j,rfl,hj,hjx,HBr⟩:=hrel
            by_cases hltj:j<3
            · have hltjz:(j:Int)<3:=by omega
              have hjz0:(0:Int)≤(j:Int):=by omega
              obtain ⟨x0,x1,x2⟩:=(HN6.out.below HBr.out).cells j hltj
              obtain ⟨q0,q1⟩:=(HQ6.out.below HBr.out).cells
              have ax:=(HN6.out.below HBr.out).lt
              by_cases hjk:j=3
              · exact absurd hjk (by omega)
              · have hjs:((j:Int) != (-1))=true:=by simp <;> omega
                obtain ⟨hi1,hi2,hi3⟩:=((HR6.out j hltj).tells HS6.out.life.good).2 (HS6.out.sound j hltj hjk).tells
                have KSQ:Hid (∀ p:Later wr,Calls Tryz.prog 21 #[.agg #[.slice (c j).a (c j).l.length (c j).cap,.int .i64 (c j).t],.agg #[.slice a2 l2.length c2,.int .i64 t2]] p.W fun e w'=>e=.returned (.bool true)∧Below p.W.heap.size p.W w'):=fun p=>by
                  have hb:=HBr.out.trans (p.h.mono HBr.out.size)
                  rw [hi2,hi3]
                  have hc:=((HR6.out j hltj).co.below hb).slice
                  rw [hi2] at hc
                  refine (sameQuilt_any (c j).a a2 (c j).cap c2 l2 l2 t2 t2 p.W (by have:=G8.out;omega) (by have:=G8.out;omega) hc.cells (HQ6.out.below hb).files.cells).mono ?_
                  rintro e w' ⟨rfl,hb2⟩
                  exact ⟨by rw [sameL_true rfl];simp,hb2⟩
                have some':=Later.ne wr
                have p0:=Later.cell x0
                rw [hi1] at p0
                have p1:=Later.cell x1
                have p2:=Later.cell x2
                have p6:=Later.cell q0
                have p7:=Later.cell q1
                clear x0 x1 x2 q0 q1 hi1 hi2 hi3
                go_wp2_with fail
                refine wp_region_later (by kernel_rfl) (by kernel_rfl) ?_
                repeat (go_big_quiet_step ((go_at_call 21;exact later_of _ (KSQ.out _))))
                refine wpQuiet_nil ?_
                rintro _ ⟨p,rfl⟩
                have HBN:Hid (Below WJ.heap.size WJ p.W):=HBr.out.trans (p.h.mono HBr.out.size)
                clear p0 p1 p2 p6 p7
                go_wp2
                go_roundg (3 - (j+1))
                case measure=>omega
                case rel=>exact ⟨j+1,by go_num,by omega,Nat.le_refl _,HBN⟩
            · have hnlj:¬ (j:Int)<3:=by omega
              have HSE:Hid (Spoilt w1.heap.size V0 wr P P2 D2 tb2 so2 aq2 cq2 l2 t2 3):=HS6.out.below HBr.out
              have HQE:Hid (QSome wr V0.heap.size a2 c2 l2 t2):=HQ6.out.below HBr.out
              go_wp2_with fail
              go_roundg (L.length - (n+1))
              case measure=>omega
              case rel=>exact ⟨n+1,3,P2,D2,tb2,so2,aq2,cq2,l2,t2,a2,c2,rfl,rfl,by go_num,by omega,Nat.le_refl _,by omega,HSE,HQE⟩
        · obtain rfl:n2=0:=by omega
          rw [if_neg (by omega)] at HS2
          have HS3:Hid (Spoilt w1.heap.size V0 wc P P2 D2 tb2 so2 aq2 cq2 l2 t2 k2):=HS2.out
          have HQ3:Hid (QSome wc V0.heap.size a2 c2 l2 t2):=HQ2.out
          have G8:Hid (l2.length≤8):=HS3.out.life.good.files.few
          have keepQ:Hid (∀ V,Below wc.heap.size wc V→(V.cell? ⟨V0.heap.size,0,none⟩=some (.slice a2 l2.length c2)∧V.cell? ⟨V0.heap.size,1,none⟩=some (.int .i64 t2))):=fun V h=>(HQ3.out.below h).cells
          obtain ⟨q0,q1⟩:=keepQ.out wc (Below.refl _ _)
          clear HS2 HQ2
          go_wp2_with fail
          go_region_held3 (fun V=>V.cell? ⟨V0.heap.size,0,none⟩=some (.slice a2 l2.length c2)∧V.cell? ⟨V0.heap.size,1,none⟩=some (.int .i64 t2))
            (first | exact keepQ.out _ (Below.drew (Below.refl _ _)) | exact keepQ.out _ hbB.out | exact keepQ.out _ hbA.out)
            (first
              | (have _:=hbA
                 go_at_call 21
                 refine (sameSome_any G8.out hfA.out (HQ3.out.below hbA.out).files).mono ?_
                 rintro e wb ⟨rfl,hb⟩
                 have hbB:Hid (Below wc.heap.size wc wb):=hbA.out.trans (hb.mono hbA.out.size)
                 clear hb)
              | (go_at_call 22
                 refine (quilt_here P2 tb2 so2 aq2 cq2 l2 t2 _ (HS3.out.life.below (Below.drew (Below.refl _ _))).trio G8.out).mono ?_
                 rintro e wa ⟨a9,c9,rfl,hf,hb⟩
                 have hbA:Hid (Below wc.heap.size wc wa):=(Below.drew (Below.refl _ _)).trans hb
                 have hfA:Hid (FilesIn wa a9 c9 l2):=hf
                 clear hb hf))
          rename_i hHeld
          clear hHeld keepQ q0 q1
          have HS4:Hid (Spoilt w1.heap.size V0 wb P P2 D2 tb2 so2 aq2 cq2 l2 t2 k2):=HS3.out.below hbB.out
          have HQ4:Hid (QSome wb V0.heap.size a2 c2 l2 t2):=HQ3.out.below hbB.out
          have HD4:Hid (DBox wb w2.heap.size (dptr (P2 0)) (dptr (P2 1)) (dptr (P2 2))):=(HD.out.far HS4.out.far).place HS4.out.same
          have KC:Hid _:=copies_any w1.heap.size P2 D2 wb HS4.out.life.three (fun i hi=>⟨(HS4.out.free i hi).up,by rw [(HS4.out.free i hi).len];omega⟩) HS4.out.life.vars HS4.out.life.low
          obtain ⟨d0,d1,d2,-⟩:=HD4.out.cells
          clear hbA hbB hfA
          go_wp2_with fail
          refine Calls.mono KC.out ?_
          rintro e w6 ⟨s,c,rfl,hb6,hrd⟩
          obtain ⟨W6,hW6⟩:∃ y,y=w6.alloc (.cells #[.bool (c 0).is,.slice (c 0).a (c 0).l.length (c 0).cap,.int .i64 (c 0).t,.bool (c 1).is,.slice (c 1).a (c 1).l.length (c 1).cap,.int .i64 (c 1).t,.bool (c 2).is,.slice (c 2).a (c 2).l.length (c 2).cap,.int .i64 (c 2).t] 53):=⟨_,rfl⟩
          have hbW:Below w6.heap.size w6 W6:=by rw [hW6];exact (Below.refl _ _).alloc (Nat.le_refl _) _
          have HN6:Hid (NBox W6 w6.heap.size c):=by rw [hW6];exact NBox.new w6 c
          have hb56:Below wb.heap.size wb W6:=hb6.trans (hbW.mono hb6.size)
          have HR6:Hid (∀ i,i<3→RdOk W6 wb.heap.size (P2 i) (D2 i) (s i) (c i)):=fun i hi=>(hrd i hi).below hbW
          have HS6:Hid (Spoilt w1.heap.size V0 W6 P P2 D2 tb2 so2 aq2 cq2 l2 t2 k2):=HS4.out.below hb56
          have HQ6:Hid (QSome W6 V0.heap.size a2 c2 l2 t2):=HQ4.out.below hb56
          clear hb6 hrd hbW hb56 KC d0 d1 d2
          go_upto_region 40 with fail
          rw [← hW6]
          clear hW6
          go_wp2_with fail
          generalize W6=WJ at *
          go_loopg [17] 4 (fun kx vi wr=>∃ j:Nat,vi=.int .i64 j∧j≤3∧3 - j≤kx∧Hid (Below WJ.heap.size WJ wr))
          case atStart=>exact ⟨0,rfl,by omega,by omega,Below.refl _ _⟩
          case round =>
            obtain ⟨j,rfl,hj,hjx,HBr⟩:=hrel
            by_cases hltj:j<3
            · have hltjz:(j:Int)<3:=by omega
              have hjz0:(0:Int)≤(j:Int):=by omega
              obtain ⟨x0,x1,x2⟩:=(HN6.out.below HBr.out).cells j hltj
              obtain ⟨q0,q1⟩:=(HQ6.out.below HBr.out).cells
              have ax:=(HN6.out.below HBr.out).lt
              by_cases hjk:j=k2
              · have hjs:((j:Int) != spV k2)=false:=by subst hjk;simp;unfold spV;rw [if_neg (by omega)]
                have some':=Later.ne wr
                clear x0 x1 x2 q0 q1 ax hjk
                go_wp2_with fail
                refine wp_region_later (by kernel_rfl) (by kernel_rfl) ?_
                repeat (go_big_quiet_step ((go_at_call 21;exact absurd rfl (Later.ne wr))))
                refine wpQuiet_nil ?_
                rintro _ ⟨p,rfl⟩
                have HBN:Hid (Below WJ.heap.size WJ p.W):=HBr.out.trans (p.h.mono HBr.out.size)
                go_wp2
                go_roundg (3 - (j+1))
                case measure=>omega
                case rel=>exact ⟨j+1,by go_num,by omega,Nat.le_refl _,HBN⟩
              · have hjs:((j:Int) != spV k2)=true:=by have h9:=(spV_ne hk2 hltj).2 hjk;simpa using h9
                obtain ⟨hi1,hi2,hi3⟩:=((HR6.out j hltj).tells HS6.out.life.good).2 (HS6.out.sound j hltj hjk).tells
                have KSQ:Hid (∀ p:Later wr,Calls Tryz.prog 21 #[.agg #[.slice (c j).a (c j).l.length (c j).cap,.int .i64 (c j).t],.agg #[.slice a2 l2.length c2,.int .i64 t2]] p.W fun e w'=>e=.returned (.bool true)∧Below p.W.heap.size p.W w'):=fun p=>by
                  have hb:=HBr.out.trans (p.h.mono HBr.out.size)
                  rw [hi2,hi3]
                  have hc:=((HR6.out j hltj).co.below hb).slice
                  rw [hi2] at hc
                  refine (sameQuilt_any (c j).a a2 (c j).cap c2 l2 l2 t2 t2 p.W (by have:=G8.out;omega) (by have:=G8.out;omega) hc.cells (HQ6.out.below hb).files.cells).mono ?_
                  rintro e w' ⟨rfl,hb2⟩
                  exact ⟨by rw [sameL_true rfl];simp,hb2⟩
                have some':=Later.ne wr
                have p0:=Later.cell x0
                rw [hi1] at p0
                have p1:=Later.cell x1
                have p2:=Later.cell x2
                have p6:=Later.cell q0
                have p7:=Later.cell q1
                clear x0 x1 x2 q0 q1 hi1 hi2 hi3
                go_wp2_with fail
                refine wp_region_later (by kernel_rfl) (by kernel_rfl) ?_
                repeat (go_big_quiet_step ((go_at_call 21;exact later_of _ (KSQ.out _))))
                refine wpQuiet_nil ?_
                rintro _ ⟨p,rfl⟩
                have HBN:Hid (Below WJ.heap.size WJ p.W):=HBr.out.trans (p.h.mono HBr.out.size)
                clear p0 p1 p2 p6 p7
                go_wp2
                go_roundg (3 - (j+1))
                case measure=>omega
                case rel=>exact ⟨j+1,by go_num,by omega,Nat.le_refl _,HBN⟩
            · have hnlj:¬ (j:Int)<3:=by omega
              have HSE:Hid (Spoilt w1.heap.size V0 wr P P2 D2 tb2 so2 aq2 cq2 l2 t2 k2):=HS6.out.below HBr.out
              have HQE:Hid (QSome wr V0.heap.size a2 c2 l2 t2):=HQ6.out.below HBr.out
              go_wp2_with fail
              go_roundg (L.length - (n+1))
              case measure=>omega
              case rel=>exact ⟨n+1,k2,P2,D2,tb2,so2,aq2,cq2,l2,t2,a2,c2,rfl,rfl,by go_num,by omega,Nat.le_refl _,by omega,HSE,HQE⟩
    · have hnl:¬ (n:Int)<(L.length:Int):=by omega
      go_wp2
      go_ret
      exact ⟨rfl,HBw.out⟩
end Go.Proofs.YtihnghnafpgdfacGreatDoor
