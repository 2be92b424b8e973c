/-
  THE WALK OF TopFall: it returns true.
-/
import Derived.Test.YtihnghnafpgdfacGreatDoorYTrioFall
import Derived.Test.YtihnghnafpgdfacGreatDoorYTrioSpoil
import Derived.Test.YtihnghnafpgdfacGreatDoorYTopWholeBase
import Derived.Test.YtihnghnafpgdfacGreatDoorRk24
import Derived.Deep.RegionHeld3
import Derived.BigQuiet
namespace Go.Proofs.YtihnghnafpgdfacGreatDoor
open Go Go.RowKit Go.BigFrame
set_option linter.unusedVariables false
set_option linter.unusedSimpArgs false
set_option maxRecDepth 100000 in
set_option maxHeartbeats 1000000 in
theorem topFall_any (a:Option Addr) (cap:Nat) (L:List Ac) (y:Ac) (which fuse:Int) (keep:Nat) (w:World) (hm:L.length≤maxLen) (hs:ActCells w a L) (hy:AcOk w y) (hkeep:keep<18446744073709551616) (hv:Vars w) :
    Calls Tryz.prog 9 #[.slice a L.length cap,y.v,.int .i64 which,.int .i64 fuse,.int .u64 keep] w fun e w'=>e=.returned (.bool true)∧Below w.heap.size w w':=by
  have HA:Hid (ActCells w a L):=hs
  have HKP:Hid (keep<18446744073709551616):=hkeep
  have HY:Hid (AcOk w y):=hy
  have HV:Hid (VarsLo w.heap.size w):=⟨w,hv,Nat.le_refl _,Below.refl _ _⟩
  obtain ⟨W0,hW0⟩:∃ z,z=w.alloc (.cells #[.string y.kind,.string y.s,.string y.t,.int .i64 y.n,.int .u64 y.k,.slice y.ca y.cl.length y.cc] 36):=⟨_,rfl⟩
  have HB0:Hid (Below w.heap.size w W0):=by rw [hW0];exact (Below.refl _ _).alloc (Nat.le_refl _) _
  have HX0:Hid (AHere W0 w.heap.size y):=by rw [hW0];exact AHere.new w y
  have KW:Hid _:=works_any W0 ((HV.out.go HB0.out).mono HB0.out.size)
  clear hs hv hy hkeep
  go_enter Tryz.func9,Tryz.ntmps9
  go_wp2_with fail
  rw [← hW0]
  clear hW0
  refine Calls.mono KW.out ?_
  rintro e w1 ⟨rfl,hb1⟩
  have HB1:Hid (Below w.heap.size w w1):=HB0.out.trans (hb1.mono HB0.out.size)
  have HX1:Hid (AHere w1 w.heap.size y):=HX0.out.below hb1
  have KP:Hid _:=played_any a cap L w1 hm (HA.out.below HB1.out) ((HV.out.go HB1.out).mono HB1.out.size)
  clear hb1 KW
  go_wp2_with fail
  refine Calls.mono KP.out ?_
  rintro e w2 ⟨hb2,P,D,tb,so,aq,cq,l,t,v,ok,rfl,hok,hw⟩
  obtain ⟨W,hW⟩:∃ y,y=w2.alloc (.cells #[dptr (P 0),dptr (P 1),dptr (P 2)] 26):=⟨_,rfl⟩
  have hb3:Below w2.heap.size w2 W:=by rw [hW];exact (Below.refl _ _).alloc (Nat.le_refl _) _
  have hb23:Below w1.heap.size w1 W:=hb2.trans (hb3.mono hb2.size)
  have HB:Hid (Below w.heap.size w W):=HB1.out.trans (hb23.mono HB1.out.size)
  have HX:Hid (AHere W w.heap.size y):=HX1.out.below hb23
  have HL1:Hid (w.heap.size≤w1.heap.size∧w1.heap.size≤W.heap.size):=⟨HB1.out.size,Nat.le_trans hb2.size hb3.size⟩
  have HD:Hid (DBox W w2.heap.size (dptr (P 0)) (dptr (P 1)) (dptr (P 2))):=by rw [hW];exact DBox.new w2 _ _ _
  have HW:Hid (Well w1.heap.size W P D tb so aq cq l t):=hw.below hb3
  have HK:Hid (ok=true→v=.pointer (some ⟨tb,0,none⟩)):=hok
  have H8:Hid (l.length≤8):=hw.life.good.files.few
  clear hb2 hb3 hb23 hok hw KP
  go_upto_region 5 with fail
  rw [← hW]
  clear hW
  cases ok with
  | false =>
    go_wp2
    go_ret
    exact ⟨rfl,HB.out⟩
  | true =>
  obtain rfl:=HK.out rfl
  obtain ⟨W3,hW3⟩:∃ z,z=W.alloc (.cells #[.string y.kind,.string y.s,.string y.t,.int .i64 y.n,.int .u64 y.k,.slice y.ca y.cl.length y.cc] 36):=⟨_,rfl⟩
  have hbW3:Below W.heap.size W W3:=by rw [hW3];exact (Below.refl _ _).alloc (Nat.le_refl _) _
  have HBW3:Hid (Below W.heap.size W W3):=hbW3
  have HB3:Hid (Below w.heap.size w W3):=HB.out.trans (hbW3.mono HB.out.size)
  have hone:AHere W3 W.heap.size y:=by rw [hW3];exact AHere.new W y
  have KL:Hid _:=lightActs_any (some ⟨W.heap.size,0,none⟩) 1 [y] 1 W3 (by simp [maxLen]) (by omega) (ActCells.oneT hone (HY.out.laterT HB3.out))
  have KL2:Hid (Calls Tryz.prog 12 #[.slice (some ⟨W.heap.size,0,none⟩) 1 1,.int .i64 1] W3 _):=KL.out
  obtain ⟨x0,x1,x2,x3,x4,x5⟩:=HX.out.cells
  clear hbW3 hone KL
  go_wp2_with fail
  rw [← hW3]
  clear hW3
  refine Calls.mono KL2.out ?_
  rintro e w3 ⟨⟨lb,rfl,hlb⟩,hw3⟩
  rw [hw3]
  clear hw3 w3 KL2 x0 x1 x2 x3 x4 x5
  cases lb with
  | false =>
    go_wp2
    go_ret
    exact ⟨rfl,HB3.out⟩
  | true =>
  have HSZ:Hid (y.s.size≤maxLen∧y.t.size≤maxLen):=⟨HY.out.s,HY.out.t⟩
  have HX3:Hid (AHere W3 w.heap.size y):=HX.out.below HBW3.out
  have HD3:Hid (DBox W3 w2.heap.size (dptr (P 0)) (dptr (P 1)) (dptr (P 2))):=HD.out.below HBW3.out
  have HW3:Hid (Well w1.heap.size W3 P D tb so aq cq l t):=HW.out.below HBW3.out
  have KQ:Hid _:=quilt_here P tb so aq cq l t W3 HW3.out.life.trio H8.out
  clear hlb
  go_wp2_with fail
  refine Calls.mono KQ.out ?_
  rintro e w3 ⟨a3,c3,rfl,hf3,hb3⟩
  obtain ⟨W4,hW4⟩:∃ y,y=w3.alloc (.cells #[.slice a3 l.length c3,.int .i64 t] 32):=⟨_,rfl⟩
  have hb4:Below w3.heap.size w3 W4:=by rw [hW4];exact (Below.refl _ _).alloc (Nat.le_refl _) _
  have hb34:Below W3.heap.size W3 W4:=hb3.trans (hb4.mono hb3.size)
  have HQ:Hid (QHere W4 w3.heap.size a3 c3 l t):=by rw [hW4];exact QHere.new hf3
  have HB4:Hid (Below w.heap.size w W4):=HB3.out.trans (hb34.mono HB3.out.size)
  have HD4:Hid (DBox W4 w2.heap.size (dptr (P 0)) (dptr (P 1)) (dptr (P 2))):=HD3.out.below hb34
  have HW4:Hid (Well w1.heap.size W4 P D tb so aq cq l t):=HW3.out.below hb34
  have HX4:Hid (AHere W4 w.heap.size y):=HX3.out.below hb34
  clear hf3 hb3 hb4 hb34 KQ
  go_upto_region 8 with fail
  rw [← hW4]
  clear hW4
  have KD:Hid _:=do_any a3 c3 l t y W4 HW4.out.life.good HQ.out.files.slice HSZ.out.1 HSZ.out.2
  have HDG:Hid _:=do_good HW4.out.life.good y
  obtain ⟨x0,x1,x2,x3,x4,x5⟩:=HX4.out.cells
  obtain ⟨q0,q1⟩:=HQ.out.cells
  go_wp2_with fail
  refine Calls.mono KD.out ?_
  rintro e w5 ⟨a5,c5,rfl,hs5,hb5⟩
  obtain ⟨W5,hW5⟩:∃ z,z=w5.alloc (.cells #[.slice a5 (doR l t y).l.length c5,.int .i64 (doR l t y).t] 32):=⟨_,rfl⟩
  have hb55:Below w5.heap.size w5 W5:=by rw [hW5];exact (Below.refl _ _).alloc (Nat.le_refl _) _
  have hb45:Below W4.heap.size W4 W5:=hb5.trans (hb55.mono hb5.size)
  have HL5:Hid (w1.heap.size≤w5.heap.size):=Nat.le_trans HW4.out.life.low hb5.size
  have HN5:Hid (W5.heap[w5.heap.size]?=some (.cells #[.slice a5 (doR l t y).l.length c5,.int .i64 (doR l t y).t] 32 (0,0))):=by rw [hW5];exact World.alloc_heap_new w5 _
  have HS5:Hid (Slice W5 a5 c5 (doR l t y).l):=hs5.below hb55
  have HB5:Hid (Below w.heap.size w W5):=HB4.out.trans (hb45.mono HB4.out.size)
  have HQ5:Hid (QHere W5 w3.heap.size a3 c3 l t):=HQ.out.below hb45
  have HD5:Hid (DBox W5 w2.heap.size (dptr (P 0)) (dptr (P 1)) (dptr (P 2))):=HD4.out.below hb45
  have HW5:Hid (Well w1.heap.size W5 P D tb so aq cq l t):=HW4.out.below hb45
  have HX5:Hid (AHere W5 w.heap.size y):=HX4.out.below hb45
  clear hs5 hb5 hb55 hb45 KD x0 x1 x2 x3 x4 x5 q0 q1
  generalize hr:doR l t y=r at *
  go_upto_region 9 with fail
  rw [← hW5]
  clear hW5
  obtain ⟨k,hk,hke⟩:=place_of which 3 (by omega)
  have hke3:(bits .and .i64 which 1023).tmod 3=(k:Int):=hke
  have hkz:(k:Int)<3:=by omega
  have hkz0:(0:Int)≤(k:Int):=by omega
  have dk:=HD5.out.at hk
  have dl:=HD5.out.lt
  go_wp2_with fail
  refine Calls.mono (arm_any (P k) (D k) _ _ (by omega) (HW5.out.life.three.disk k hk)) ?_
  rintro e w6 ⟨rfl,hda,hna⟩
  obtain ⟨hl6,hb6,hf6,hs6⟩:=HW5.out.life.disk (u:=(P k).wv) (d':={ D k with left:=min (max fuse (-1)) 100 }) hk hda (fun j hj=>.inl hj) hna.touch (HW5.out.life.up k hk)
  have hst6:∀ i,i<3→Stood 50 (upd D k { D k with left:=min (max fuse (-1)) 100 } i) (rowsL l t):=fun i hi=>by
    by_cases ei:i=k
    · subst ei;rw [upd_same];exact (HW5.out.sound i hi).stood.arm _
    · rw [upd_other _ _ ei];exact (HW5.out.sound i hi).stood
  generalize (upd P k { P k with wv:=(P k).wv })=P6 at *
  generalize (upd D k { D k with left:=min (max fuse (-1)) 100 })=D6 at *
  have HL6:Hid (Life w1.heap.size 50 w6 P6 D6 tb so aq cq l t):=hl6
  have HST6:Hid (∀ i,i<3→Stood 50 (D6 i) (rowsL l t)):=hst6
  have HB6:Hid (Below w.heap.size w w6):=HB5.out.trans (hb6.mono HL1.out.1)
  have HQ6:Hid (QHere w6 w3.heap.size a3 c3 l t):=HQ5.out.far hf6
  have HD6:Hid (DBox w6 w2.heap.size (dptr (P6 0)) (dptr (P6 1)) (dptr (P6 2))):=(HD5.out.far hf6).place hs6
  have HS6:Hid (Slice w6 a5 c5 r.l):=HS5.out.farT hf6
  have HN6:Hid (w6.heap[w5.heap.size]?=some (.cells #[.slice a5 r.l.length c5,.int .i64 r.t] 32 (0,0))):=hf6 _ _ _ _ HN5.out (.inl ⟨by decide,by decide,by decide,by decide,by decide,by decide⟩)
  have HX6:Hid (AHere w6 w.heap.size y):=HX5.out.far hf6
  have KD:Hid _:=doTrio_any w1.heap.size P6 D6 tb so aq cq l t y w6 hl6 HSZ.out.1 HSZ.out.2
  have HG:Hid (GoodQ l t):=hl6.good
  clear hda hna hl6 hb6 hf6 hs6 hst6 dk dl hke hke3 hkz hkz0
  obtain ⟨x0,x1,x2,x3,x4,x5⟩:=HX6.out.cells
  go_wp2_with fail
  refine Calls.mono KD.out ?_
  rintro e w7 hsays
  obtain ⟨P7,D7,hfl⟩:=hsays.fallen HL6.out HST6.out
  obtain ⟨m,rfl,hup⟩:=hfl.m
  rw [hr] at hfl hup
  have HU0:Hid (Up3 w1.heap.size w6 w7 P6 P7 D7 D7 0):=hfl.up3
  have HUP:Hid (∀ (wr:World) (P2:Nat→Dp) (D2:Nat→Dk),Up3 w1.heap.size w6 wr P6 P2 D7 D2 3→Risen w1.heap.size w6 wr P6 l t r m P2 D2):=hup
  have HFW:Hid (∀ i,i<3→(D7 i).wr.length≤100):=hfl.few
  have HLO6:Hid (w1.heap.size≤w6.heap.size):=HL6.out.low
  have hsz7:w6.heap.size≤w7.heap.size:=HU0.out.bel.size
  clear hfl hup hsays KD x0 x1 x2 x3 x4 x5 hk hr
  go_wp2_with fail
  go_loopg [18] 4 (fun kx vi wr=>∃ (j:Nat) (P':Nat→Dp) (D':Nat→Dk),vi=.int .i64 j∧j≤3∧3 - j≤kx∧Hid (Up3 w1.heap.size w6 wr P6 P' D7 D' j))
  case atStart=>exact ⟨0,P7,D7,rfl,by omega,by omega,HU0⟩
  case round =>
    obtain ⟨j,P',D',rfl,hj,hjx,HU⟩:=hrel
    by_cases hlt:j<3
    · have hltz:(j:Int)<3:=by omega
      have HDr:Hid (DBox wr w2.heap.size (dptr (P' 0)) (dptr (P' 1)) (dptr (P' 2))):=(HD6.out.far HU.out.far).place HU.out.same
      have dj:=HDr.out.at hlt
      have dl:=HDr.out.lt
      have hdj:=HU.out.three.disk j hlt
      have h8a:IntKind.i64.wrap (8 * (j:Int))=8 * (j:Int):=by rw [IntKind.wrap_i64];omega
      have h8b:0≤8 * (j:Int):=by omega
      have h8c:8 * (j:Int)≤64:=by omega
      have hfew:(D' j).wr.length≤100:=by rw [HU.out.rest j hlt (Nat.le_refl _)];exact HFW.out j hlt
      go_wp2_with fail
      go_region_held3 (fun V=>V.cell? ⟨w2.heap.size,j,none⟩=some (dptr (P' j)))
        (first | exact dj | exact ((HD6.out.far hUa.out.far).place HU.out.same).at hlt)
        (first
          | (go_at_call 32
             refine (restart_any (P' j) (D' j) _ _ (shr_in HKP.out _) ((HU.out.three.below (Below.drew (Below.refl _ _))).disk j hlt) hfew).mono ?_
             rintro e wa ⟨rfl,KK,hda,hna⟩
             have hUa:Hid (Up3 w1.heap.size w6 wa P6 (upd P' j { P' j with wv:=.slice none 0 0 }) D7 (upd D' j (restartD (D' j) KK)) (j+1)):=HU.out.step hlt HLO6.out KK hda ⟨hna.os,hna.tape,hna.output,hna.size,hna.block⟩
             clear hda hna))
      rename_i hHeld
      clear hHeld dj dl hdj hfew h8a h8b h8c
      go_wp2
      go_roundg (3 - (j+1))
      case measure=>omega
      case rel=>exact ⟨j+1,_,_,by go_num,by omega,Nat.le_refl _,hUa⟩
    · have hnl:¬ (j:Int)<3:=by omega
      obtain rfl:j=3:=by omega
      have HR:Hid (Risen w1.heap.size w6 wr P6 l t r m P' D'):=HUP.out wr P' D' HU.out
      have HDr:Hid (DBox wr w2.heap.size (dptr (P' 0)) (dptr (P' 1)) (dptr (P' 2))):=(HD6.out.far HR.out.far).place HR.out.same
      obtain ⟨l2,t2,i1,i2,hg2,hi1,hi2,hi12,ht1,ht2,hwhich⟩:=HR.out.two HG.out
      have KO:Hid _:=open_mended w1.heap.size P' D' l2 t2 wr hg2 HR.out.three HR.out.free HR.out.vars (Nat.le_trans HLO6.out HR.out.bel.size) hi1 hi2 hi12 ht1 ht2
      have HWH:Hid ((¬ r.n=0∧m=r.n∧l2=l∧t2=t)∨(r.n=0∧m=0∧l2=r.l∧t2=r.t)∨(r.n=0∧(0<m∧m≤100)∧((l2=l∧t2=t)∨(l2=r.l∧t2=r.t)))):=hwhich
      clear HU HUP hg2 hi1 hi2 hi12 ht1 ht2 hwhich i1 i2
      obtain ⟨d0,d1,d2,-⟩:=HDr.out.cells
      go_wp2_with fail
      refine Calls.mono KO.out ?_
      rintro e w8 ⟨tb8,n8,P8,D8,S8,a8,c8,rfl,hsz8,hm⟩
      have hn1:(n8:Int)≤1:=by have:=hm.few;omega
      have HM:Hid (Mended w1.heap.size wr w8 P' P8 D' D8 tb8 S8 a8 c8 l2 t2 n8):=hm
      have HF8:Hid (LetT w6 w8):=HR.out.far.trans hm.far
      have HB8:Hid (Below w.heap.size w w8):=HB6.out.trans ((HR.out.bel.trans hm.bel).mono HL1.out.1)
      have HQ8:Hid (QHere w8 w3.heap.size a3 c3 l t):=HQ6.out.far HF8.out
      have HD8:Hid (DBox w8 w2.heap.size (dptr (P8 0)) (dptr (P8 1)) (dptr (P8 2))):=(HDr.out.far hm.far).place hm.same
      have HN8:Hid (QSome w8 w5.heap.size a5 c5 r.l r.t):=⟨HF8.out _ _ _ _ HN6.out (.inl ⟨by decide,by decide,by decide,by decide,by decide,by decide⟩),HS6.out.farT HF8.out⟩
      have G2:Hid (l2.length≤8):=hm.life.good.files.few
      clear hm hsz8 KO d0 d1 d2
      have KQ8:Hid _:=quilt_here P8 tb8 S8 a8 c8 l2 t2 w8 HM.out.life.trio G2.out
      go_wp2_with fail
      refine Calls.mono KQ8.out ?_
      rintro e w9 ⟨a9,c9,rfl,hf9,hb9⟩
      obtain ⟨W9,hW9⟩:∃ z,z=w9.alloc (.cells #[.slice a9 l2.length c9,.int .i64 t2] 32):=⟨_,rfl⟩
      have hb99:Below w9.heap.size w9 W9:=by rw [hW9];exact (Below.refl _ _).alloc (Nat.le_refl _) _
      have hb89:Below w8.heap.size w8 W9:=hb9.trans (hb99.mono hb9.size)
      have HQ9:Hid (QHere W9 w9.heap.size a9 c9 l2 t2):=by rw [hW9];exact QHere.new hf9
      have HB9:Hid (Below w.heap.size w W9):=HB8.out.trans (hb89.mono HB8.out.size)
      have HL9:Hid (Life w1.heap.size 50 W9 P8 D8 tb8 S8 a8 c8 l2 t2):=HM.out.life.below hb89
      have HW9:Hid (QHere W9 w3.heap.size a3 c3 l t):=HQ8.out.below hb89
      have HN9:Hid (QSome W9 w5.heap.size a5 c5 r.l r.t):=HN8.out.below hb89
      have HD9:Hid (DBox W9 w2.heap.size (dptr (P8 0)) (dptr (P8 1)) (dptr (P8 2))):=HD8.out.below hb89
      have KA:Hid _:=all_any w1.heap.size P8 D8 a9 c9 l2 t2 W9 HL9.out.three (fun i hi=>⟨(HM.out.free i hi).up,by rw [(HM.out.free i hi).len];omega⟩) HL9.out.vars HL9.out.low HL9.out.good HM.out.tells HQ9.out.files.slice
      clear hf9 hb9 hb99 hb89 KQ8 HN8 HQ8 HD8
      go_upto_region 19 with fail
      rw [← hW9]
      clear hW9
      obtain ⟨q0,q1⟩:=HQ9.out.cells
      obtain ⟨d0,d1,d2,-⟩:=HD9.out.cells
      go_wp2_with fail
      refine Calls.mono KA.out ?_
      rintro e w10 ⟨rfl,hb10⟩
      have HQ10:Hid (QHere w10 w9.heap.size a9 c9 l2 t2):=HQ9.out.below hb10
      have HW10:Hid (QHere w10 w3.heap.size a3 c3 l t):=HW9.out.below hb10
      have HN10:Hid (QSome w10 w5.heap.size a5 c5 r.l r.t):=HN9.out.below hb10
      have HB10:Hid (Below w.heap.size w w10):=HB9.out.trans (hb10.mono HB9.out.size)
      clear hb10 KA q0 q1 d0 d1 d2
      obtain ⟨q0,q1⟩:=HQ10.out.cells
      obtain ⟨p0,p1⟩:=HW10.out.cells
      obtain ⟨n0,n1⟩:=HN10.out.cells
      rcases HWH.out with ⟨k1,k2,k3,k4⟩ | ⟨k1,k2,k3,k4⟩ | ⟨k1,⟨k2,k2'⟩,k3⟩
      · subst k2 k3 k4
        have KS:Hid _:=sameSelf_any (t:=t2) G2.out HQ10.out.files HW10.out.files
        rw [errV_pos k1]
        go_wp2_with fail
        refine Calls.mono KS.out ?_
        rintro e w11 ⟨rfl,hb11⟩
        have HE:Hid (Below w.heap.size w w11):=HB10.out.trans (hb11.mono HB10.out.size)
        go_wp2
        go_ret
        exact ⟨rfl,HE.out⟩
      · subst k2 k3 k4
        have KS:Hid _:=sameSome_any (t:=r.t) G2.out HQ10.out.files HN10.out.files
        rw [errV_zero k1,errV_zero rfl]
        go_wp2_with fail
        refine Calls.mono KS.out ?_
        rintro e w11 ⟨rfl,hb11⟩
        have HE:Hid (Below w.heap.size w w11):=HB10.out.trans (hb11.mono HB10.out.size)
        go_wp2
        go_ret
        exact ⟨rfl,HE.out⟩
      · rw [errV_zero k1,errV_pos (show ¬ m=0 by omega)]
        rcases k3 with ⟨k3,k4⟩ | ⟨k3,k4⟩
        · subst k3 k4
          have KS:Hid _:=sameSelf_any (t:=t2) G2.out HQ10.out.files HW10.out.files
          go_wp2_with fail
          refine Calls.mono KS.out ?_
          rintro e w11 ⟨rfl,hb11⟩
          have HE:Hid (Below w.heap.size w w11):=HB10.out.trans (hb11.mono HB10.out.size)
          go_wp2
          go_ret
          exact ⟨rfl,HE.out⟩
        · subst k3 k4
          have KS:Hid _:=sameQuilt_any a9 a3 c9 c3 r.l l r.t t w10 (by have:=G2.out;omega) (by have:=H8.out;omega) HQ10.out.files.cells HW10.out.files.cells
          go_wp2_with fail
          refine Calls.mono KS.out ?_
          rintro e w11 ⟨rfl,hb11⟩
          have HB11:Hid (Below w.heap.size w w11):=HB10.out.trans (hb11.mono HB10.out.size)
          have HQ11:Hid (QHere w11 w9.heap.size a9 c9 r.l r.t):=HQ10.out.below hb11
          have HN11:Hid (QSome w11 w5.heap.size a5 c5 r.l r.t):=HN10.out.below hb11
          have KS2:Hid _:=sameSome_any (t:=r.t) G2.out HQ11.out.files HN11.out.files
          clear hb11 KS q0 q1 p0 p1 n0 n1
          obtain ⟨q0,q1⟩:=HQ11.out.cells
          obtain ⟨n0,n1⟩:=HN11.out.cells
          generalize hb:(sameL r.l l && _)=bb
          cases bb with
          | true =>
            go_wp2
            go_ret
            exact ⟨rfl,HB11.out⟩
          | false =>
            go_wp2_with fail
            refine Calls.mono KS2.out ?_
            rintro e w12 ⟨rfl,hb12⟩
            have HE:Hid (Below w.heap.size w w12):=HB11.out.trans (hb12.mono HB11.out.size)
            go_wp2
            go_ret
            exact ⟨rfl,HE.out⟩
end Go.Proofs.YtihnghnafpgdfacGreatDoor
