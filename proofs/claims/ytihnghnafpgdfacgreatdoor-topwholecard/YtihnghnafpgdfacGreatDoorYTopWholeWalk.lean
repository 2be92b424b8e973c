/-
  THE WALK OF TopWhole: it returns true.
-/
import Derived.Test.YtihnghnafpgdfacGreatDoorYTopWholeBase
import Derived.Test.YtihnghnafpgdfacGreatDoorYTrioNext
import Derived.Test.YtihnghnafpgdfacGreatDoorRk24
import Derived.Deep.RegionHeld3
import Derived.BigQuiet
namespace Go.Proofs.YtihnghnafpgdfacGreatDoor
open Go Go.RowKit Go.BigFrame
set_option linter.unusedVariables false
set_option linter.unusedSimpArgs false
set_option maxRecDepth 100000 in
set_option maxHeartbeats 1000000 in
theorem topWhole_any (a:Option Addr) (cap:Nat) (L:List Ac) (y:Ac) (w:World) (hm:L.length≤maxLen) (hs:ActCells w a L) (hy:AcOk w y) (hv:Vars w) :
    Calls Tryz.prog 5 #[.slice a L.length cap,y.v] w fun e w'=>e=.returned (.bool true)∧Below w.heap.size w w':=by
  have HA:Hid (ActCells w a L):=hs
  have HY:Hid (AcOk w y):=hy
  have HV:Hid (VarsLo w.heap.size w):=⟨w,hv,Nat.le_refl _,Below.refl _ _⟩
  obtain ⟨W0,hW0⟩:∃ z,z=w.alloc (.cells #[.string y.kind,.string y.s,.string y.t,.int .i64 y.n,.int .u64 y.k,.slice y.ca y.cl.length y.cc] 36):=⟨_,rfl⟩
  have HB0:Hid (Below w.heap.size w W0):=by rw [hW0];exact (Below.refl _ _).alloc (Nat.le_refl _) _
  have HX0:Hid (AHere W0 w.heap.size y):=by rw [hW0];exact AHere.new w y
  have KW:Hid _:=works_any W0 ((HV.out.go HB0.out).mono HB0.out.size)
  clear hs hv hy
  go_enter Tryz.func5,Tryz.ntmps5
  go_wp2_with fail
  rw [← hW0]
  clear hW0
  refine Calls.mono KW.out ?_
  rintro e w1 ⟨rfl,hb1⟩
  have HB1:Hid (Below w.heap.size w w1):=HB0.out.trans (hb1.mono HB0.out.size)
  have HX1:Hid (AHere w1 w.heap.size y):=HX0.out.below hb1
  have KP:Hid _:=played_any a cap L w1 hm (HA.out.below HB1.out) ((HV.out.go HB1.out).mono HB1.out.size)
  clear hb1 KW
  go_wp2_with fail
  refine Calls.mono KP.out ?_
  rintro e w2 ⟨hb2,P,D,tb,so,aq,cq,l,t,v,ok,rfl,hok,hw⟩
  obtain ⟨W,hW⟩:∃ y,y=w2.alloc (.cells #[dptr (P 0),dptr (P 1),dptr (P 2)] 26):=⟨_,rfl⟩
  have hb3:Below w2.heap.size w2 W:=by rw [hW];exact (Below.refl _ _).alloc (Nat.le_refl _) _
  have hb23:Below w1.heap.size w1 W:=hb2.trans (hb3.mono hb2.size)
  have HB:Hid (Below w.heap.size w W):=HB1.out.trans (hb23.mono HB1.out.size)
  have HX:Hid (AHere W w.heap.size y):=HX1.out.below hb23
  have HL1:Hid (w.heap.size≤w1.heap.size∧w1.heap.size≤W.heap.size):=⟨HB1.out.size,Nat.le_trans hb2.size hb3.size⟩
  have HD:Hid (DBox W w2.heap.size (dptr (P 0)) (dptr (P 1)) (dptr (P 2))):=by rw [hW];exact DBox.new w2 _ _ _
  have HW:Hid (Well w1.heap.size W P D tb so aq cq l t):=hw.below hb3
  have HK:Hid (ok=true→v=.pointer (some ⟨tb,0,none⟩)):=hok
  have H8:Hid (l.length≤8):=hw.life.good.files.few
  clear hb2 hb3 hb23 hok hw KP
  go_upto_region 5 with fail
  rw [← hW]
  clear hW
  cases ok with
  | false =>
    go_wp2
    go_ret
    exact ⟨rfl,HB.out⟩
  | true =>
  obtain rfl:=HK.out rfl
  obtain ⟨W3,hW3⟩:∃ z,z=W.alloc (.cells #[.string y.kind,.string y.s,.string y.t,.int .i64 y.n,.int .u64 y.k,.slice y.ca y.cl.length y.cc] 36):=⟨_,rfl⟩
  have hbW3:Below W.heap.size W W3:=by rw [hW3];exact (Below.refl _ _).alloc (Nat.le_refl _) _
  have HBW3:Hid (Below W.heap.size W W3):=hbW3
  have HB3:Hid (Below w.heap.size w W3):=HB.out.trans (hbW3.mono HB.out.size)
  have hone:AHere W3 W.heap.size y:=by rw [hW3];exact AHere.new W y
  have KL:Hid _:=lightActs_any (some ⟨W.heap.size,0,none⟩) 1 [y] 1 W3 (by simp [maxLen]) (by omega) (ActCells.oneT hone (HY.out.laterT HB3.out))
  have KL2:Hid (Calls Tryz.prog 12 #[.slice (some ⟨W.heap.size,0,none⟩) 1 1,.int .i64 1] W3 _):=KL.out
  obtain ⟨x0,x1,x2,x3,x4,x5⟩:=HX.out.cells
  clear hbW3 hone KL
  go_wp2_with fail
  rw [← hW3]
  clear hW3
  refine Calls.mono KL2.out ?_
  rintro e w3 ⟨⟨lb,rfl,hlb⟩,hw3⟩
  rw [hw3]
  clear hw3 w3 KL2 x0 x1 x2 x3 x4 x5
  cases lb with
  | false =>
    go_wp2
    go_ret
    exact ⟨rfl,HB3.out⟩
  | true =>
  have HSZ:Hid (y.s.size≤maxLen∧y.t.size≤maxLen):=⟨HY.out.s,HY.out.t⟩
  have HX3:Hid (AHere W3 w.heap.size y):=HX.out.below HBW3.out
  have HD3:Hid (DBox W3 w2.heap.size (dptr (P 0)) (dptr (P 1)) (dptr (P 2))):=HD.out.below HBW3.out
  have HW3:Hid (Well w1.heap.size W3 P D tb so aq cq l t):=HW.out.below HBW3.out
  have KQ:Hid _:=quilt_here P tb so aq cq l t W3 HW3.out.life.trio H8.out
  clear hlb
  go_wp2_with fail
  refine Calls.mono KQ.out ?_
  rintro e w3 ⟨a3,c3,rfl,hf3,hb3⟩
  obtain ⟨W4,hW4⟩:∃ y,y=w3.alloc (.cells #[.slice a3 l.length c3,.int .i64 t] 32):=⟨_,rfl⟩
  have hb4:Below w3.heap.size w3 W4:=by rw [hW4];exact (Below.refl _ _).alloc (Nat.le_refl _) _
  have hb34:Below W3.heap.size W3 W4:=hb3.trans (hb4.mono hb3.size)
  have HQ:Hid (QHere W4 w3.heap.size a3 c3 l t):=by rw [hW4];exact QHere.new hf3
  have HB4:Hid (Below w.heap.size w W4):=HB3.out.trans (hb34.mono HB3.out.size)
  have HD4:Hid (DBox W4 w2.heap.size (dptr (P 0)) (dptr (P 1)) (dptr (P 2))):=HD3.out.below hb34
  have HW4:Hid (Well w1.heap.size W4 P D tb so aq cq l t):=HW3.out.below hb34
  have HX4:Hid (AHere W4 w.heap.size y):=HX3.out.below hb34
  clear hf3 hb3 hb4 hb34 KQ
  go_upto_region 8 with fail
  rw [← hW4]
  clear hW4
  have KD:Hid _:=do_any a3 c3 l t y W4 HW4.out.life.good HQ.out.files.slice HSZ.out.1 HSZ.out.2
  have HDG:Hid _:=do_good HW4.out.life.good y
  obtain ⟨x0,x1,x2,x3,x4,x5⟩:=HX4.out.cells
  obtain ⟨q0,q1⟩:=HQ.out.cells
  go_wp2_with fail
  refine Calls.mono KD.out ?_
  rintro e w5 ⟨a5,c5,rfl,hs5,hb5⟩
  obtain ⟨W5,hW5⟩:∃ z,z=w5.alloc (.cells #[.slice a5 (doR l t y).l.length c5,.int .i64 (doR l t y).t] 32):=⟨_,rfl⟩
  have hb55:Below w5.heap.size w5 W5:=by rw [hW5];exact (Below.refl _ _).alloc (Nat.le_refl _) _
  have hb45:Below W4.heap.size W4 W5:=hb5.trans (hb55.mono hb5.size)
  have HL5:Hid (w1.heap.size≤w5.heap.size):=Nat.le_trans HW4.out.life.low hb5.size
  have HN5:Hid (W5.heap[w5.heap.size]?=some (.cells #[.slice a5 (doR l t y).l.length c5,.int .i64 (doR l t y).t] 32 (0,0))):=by rw [hW5];exact World.alloc_heap_new w5 _
  have HS5:Hid (Slice W5 a5 c5 (doR l t y).l):=hs5.below hb55
  have HB5:Hid (Below w.heap.size w W5):=HB4.out.trans (hb45.mono HB4.out.size)
  have HQ5:Hid (QHere W5 w3.heap.size a3 c3 l t):=HQ.out.below hb45
  have HD5:Hid (DBox W5 w2.heap.size (dptr (P 0)) (dptr (P 1)) (dptr (P 2))):=HD4.out.below hb45
  have HW5:Hid (Well w1.heap.size W5 P D tb so aq cq l t):=HW4.out.below hb45
  have HX5:Hid (AHere W5 w.heap.size y):=HX4.out.below hb45
  have KA:Hid _:=act_well w1.heap.size P D tb so aq cq l t y W5 HW5.out HSZ.out.1 HSZ.out.2
  clear hs5 hb5 hb55 hb45 KD x0 x1 x2 x3 x4 x5 q0 q1
  generalize hr:doR l t y=r at *
  clear hr
  obtain ⟨x0,x1,x2,x3,x4,x5⟩:=HX5.out.cells
  go_upto_region 9 with fail
  rw [← hW5]
  clear hW5
  go_wp2_with fail
  refine Calls.mono KA.out ?_
  rintro e w6 ⟨rfl,⟨hb6,hf6⟩,P6,D6,so6,aq6,cq6,l6,t6,hs6,hw6,hor⟩
  have HB6:Hid (Below w.heap.size w w6):=HB5.out.trans (hb6.mono HL1.out.1)
  have HQ6:Hid (QHere w6 w3.heap.size a3 c3 l t):=HQ5.out.far hf6
  have HD6:Hid (DBox w6 w2.heap.size (dptr (P6 0)) (dptr (P6 1)) (dptr (P6 2))):=(HD5.out.far hf6).place hs6
  have HW6:Hid (Well w1.heap.size w6 P6 D6 tb so6 aq6 cq6 l6 t6):=hw6
  have HS6:Hid (Slice w6 a5 c5 r.l):=HS5.out.farT hf6
  have HN6:Hid (w6.heap[w5.heap.size]?=some (.cells #[.slice a5 r.l.length c5,.int .i64 r.t] 32 (0,0))):=hf6 _ _ _ _ HN5.out (.inl ⟨by decide,by decide,by decide,by decide,by decide,by decide⟩)
  have HOR:Hid ((¬ r.n=0∧l6=l∧t6=t)∨(r.n=0∧l6=r.l∧t6=r.t)):=hor
  have HRN:Hid (0≤r.n∧r.n≤100):=by
    show 0≤r.n∧r.n≤100
    rcases HDG.out with ⟨h,-⟩ | ⟨h1,h2,-⟩ <;> omega
  clear hb6 hf6 hs6 hw6 hor KA x0 x1 x2 x3 x4 x5
  have KN:Hid _:=numT_any r.n w6 HRN.out
  go_wp2_with fail
  refine Calls.mono KN.out ?_
  rintro e w7 ⟨rfl,hw7⟩
  rw [hw7]
  clear hw7 w7
  go_wp2_with fail
  refine Calls.mono KN.out ?_
  rintro e w7 ⟨rfl,hw7⟩
  rw [hw7]
  clear hw7 w7 KN
  obtain ⟨n0,n1⟩:w6.cell? ⟨w5.heap.size,0,none⟩=some (.slice a5 r.l.length c5)∧w6.cell? ⟨w5.heap.size,1,none⟩=some (.int .i64 r.t):=⟨by rw [cell_block HN6.out];rfl,by rw [cell_block HN6.out];rfl⟩
  obtain ⟨q0,q1⟩:=HQ6.out.cells
  by_cases hrn:r.n=0
  · rw [errV_zero hrn]
    obtain ⟨rfl,rfl⟩:l6=r.l∧t6=r.t:=by rcases HOR.out with ⟨h,-⟩ | ⟨-,h1,h2⟩;exact absurd hrn h;exact ⟨h1,h2⟩
    have HSm:Hid (QSome w6 w5.heap.size a5 c5 r.l r.t):=⟨HN6.out,HS6.out⟩
    clear HN6 HS6 HOR HRN q0 q1
    have G8:Hid (r.l.length≤8):=HW6.out.life.good.files.few
    have HWx:=HW6
    have HBx:=HB6
    have HDx:=HD6
    have keepH:Hid (∀ V,Below w6.heap.size w6 V→(V.cell? ⟨w5.heap.size,0,none⟩=some (.slice a5 r.l.length c5)∧V.cell? ⟨w5.heap.size,1,none⟩=some (.int .i64 r.t)∧V.cell? ⟨w2.heap.size,0,none⟩=some (dptr (P6 0))∧V.cell? ⟨w2.heap.size,1,none⟩=some (dptr (P6 1))∧V.cell? ⟨w2.heap.size,2,none⟩=some (dptr (P6 2)))):=fun V h=>by
      obtain ⟨q0,q1⟩:=(HSm.out.below h).cells
      obtain ⟨d0,d1,d2,-⟩:=(HDx.out.below h).cells
      exact ⟨q0,q1,d0,d1,d2⟩
    obtain ⟨q0,q1,d0,d1,d2⟩:=keepH.out w6 (Below.refl _ _)
    go_wp2_with fail
    go_region_held3 (fun V=>V.cell? ⟨w5.heap.size,0,none⟩=some (.slice a5 r.l.length c5)∧V.cell? ⟨w5.heap.size,1,none⟩=some (.int .i64 r.t)∧V.cell? ⟨w2.heap.size,0,none⟩=some (dptr (P6 0))∧V.cell? ⟨w2.heap.size,1,none⟩=some (dptr (P6 1))∧V.cell? ⟨w2.heap.size,2,none⟩=some (dptr (P6 2)))
      (first | exact keepH.out _ (Below.drew (Below.refl _ _)) | exact keepH.out _ hbC.out | exact keepH.out _ hbB.out | exact keepH.out _ hbA.out)
      (first
        | (have _:=hbB
           go_at_call 26
           refine (all_any w1.heap.size P6 D6 a5 c5 r.l r.t _ (HWx.out.life.below hbB.out).three (fun i hi=>⟨(HWx.out.free i hi).up,by rw [(HWx.out.free i hi).len];omega⟩) (HWx.out.life.below hbB.out).vars (HWx.out.life.below hbB.out).low HWx.out.life.good (fun i hi=>(HWx.out.sound i hi).tells) (HSm.out.below hbB.out).files).mono ?_
           rintro e wc ⟨rfl,hb⟩
           have hbC:Hid (Below w6.heap.size w6 wc):=hbB.out.trans (hb.mono hbB.out.size)
           clear hb)
        | (have _:=hbA
           go_at_call 21
           refine (sameSome_any G8.out hfA.out (HSm.out.below hbA.out).files).mono ?_
           rintro e wb ⟨rfl,hb⟩
           have hbB:Hid (Below w6.heap.size w6 wb):=hbA.out.trans (hb.mono hbA.out.size)
           clear hb)
        | (go_at_call 22
           refine (quilt_here P6 tb so6 aq6 cq6 r.l r.t _ (HWx.out.life.below (Below.drew (Below.refl _ _))).trio G8.out).mono ?_
           rintro e wa ⟨a9,c9,rfl,hf,hb⟩
           have hbA:Hid (Below w6.heap.size w6 wa):=(Below.drew (Below.refl _ _)).trans hb
           have hfA:Hid (FilesIn wa a9 c9 r.l):=hf
           clear hb hf))
    rename_i hHeld
    clear hHeld
    have HE:Hid (Below w.heap.size w wc):=HBx.out.trans (hbC.out.mono HBx.out.size)
    go_wp2
    go_ret
    exact ⟨rfl,HE.out⟩
  · rw [errV_pos hrn]
    have fr0:=frozen_block HN6.out 0
    have fr1:=frozen_block HN6.out 1
    obtain ⟨rfl,rfl⟩:l6=l∧t6=t:=by rcases HOR.out with ⟨-,h1,h2⟩ | ⟨h,-⟩;exact ⟨h1,h2⟩;exact absurd h hrn
    obtain ⟨W7,hW7⟩:∃ z,z=(w6.setCell ⟨w5.heap.size,0,none⟩ (.slice a3 l6.length c3)).setCell ⟨w5.heap.size,1,none⟩ (.int .i64 t6):=⟨_,rfl⟩
    obtain ⟨b1,b2,b3⟩:=box_over (u:=.slice a3 l6.length c3) (v:=.int .i64 t6) HN6.out
    rw [← hW7] at b1 b2 b3
    have hB67:Below w1.heap.size w6 W7:=by rw [hW7];exact ((Below.refl _ _).setCell HL5.out _).setCell HL5.out _
    have hk7:∀ (k:Nat) (C:Array Value) (T:TypeId) (fr:Nat × Nat),w6.heap[k]?=some (.cells C T fr)→T≠32→W7.heap[k]?=w6.heap[k]?:=fun k C T fr e hT=>b2 k (fun hk=>by
      subst hk
      rw [HN6.out] at e
      exact hT (by cases e;rfl))
    have HWx:Hid (Well w1.heap.size W7 P6 D6 tb so6 aq6 cq6 l6 t6):=HW6.out.keep (fun k C T fr e hT=>hk7 k C T fr e (by
      rcases hT with h | rfl | rfl
      · intro h2;subst h2;revert h;unfold StoreT;decide
      · decide
      · decide)) hB67
    have HSm:Hid (QSome W7 w5.heap.size a3 c3 l6 t6):=⟨b1,(HQ6.out.files.keep (fun k C fr e=>hk7 k C _ fr e (by decide))).slice⟩
    have HDx:Hid (DBox W7 w2.heap.size (dptr (P6 0)) (dptr (P6 1)) (dptr (P6 2))):=⟨(hk7 _ _ _ _ HD6.out.blk (by decide)).trans HD6.out.blk⟩
    have HBx:Hid (Below w.heap.size w W7):=HB6.out.trans (hB67.mono HL1.out.1)
    have G8:Hid (l6.length≤8):=H8.out
    clear HS6 HOR HRN hk7 hB67 b1 b2 b3
    go_upto_region 14 with fail
    rw [← hW7]
    clear hW7 q0 q1 fr0 fr1 n0 n1
    have keepH:Hid (∀ V,Below W7.heap.size W7 V→(V.cell? ⟨w5.heap.size,0,none⟩=some (.slice a3 l6.length c3)∧V.cell? ⟨w5.heap.size,1,none⟩=some (.int .i64 t6)∧V.cell? ⟨w2.heap.size,0,none⟩=some (dptr (P6 0))∧V.cell? ⟨w2.heap.size,1,none⟩=some (dptr (P6 1))∧V.cell? ⟨w2.heap.size,2,none⟩=some (dptr (P6 2)))):=fun V h=>by
      obtain ⟨q0,q1⟩:=(HSm.out.below h).cells
      obtain ⟨d0,d1,d2,-⟩:=(HDx.out.below h).cells
      exact ⟨q0,q1,d0,d1,d2⟩
    obtain ⟨q0,q1,d0,d1,d2⟩:=keepH.out W7 (Below.refl _ _)
    go_region_held3 (fun V=>V.cell? ⟨w5.heap.size,0,none⟩=some (.slice a3 l6.length c3)∧V.cell? ⟨w5.heap.size,1,none⟩=some (.int .i64 t6)∧V.cell? ⟨w2.heap.size,0,none⟩=some (dptr (P6 0))∧V.cell? ⟨w2.heap.size,1,none⟩=some (dptr (P6 1))∧V.cell? ⟨w2.heap.size,2,none⟩=some (dptr (P6 2)))
      (first | exact keepH.out _ (Below.drew (Below.refl _ _)) | exact keepH.out _ hbC.out | exact keepH.out _ hbB.out | exact keepH.out _ hbA.out)
      (first
        | (have _:=hbB
           go_at_call 26
           refine (all_any w1.heap.size P6 D6 a3 c3 l6 t6 _ (HWx.out.life.below hbB.out).three (fun i hi=>⟨(HWx.out.free i hi).up,by rw [(HWx.out.free i hi).len];omega⟩) (HWx.out.life.below hbB.out).vars (HWx.out.life.below hbB.out).low HWx.out.life.good (fun i hi=>(HWx.out.sound i hi).tells) (HSm.out.below hbB.out).files).mono ?_
           rintro e wc ⟨rfl,hb⟩
           have hbC:Hid (Below W7.heap.size W7 wc):=hbB.out.trans (hb.mono hbB.out.size)
           clear hb)
        | (have _:=hbA
           go_at_call 21
           refine (sameSome_any G8.out hfA.out (HSm.out.below hbA.out).files).mono ?_
           rintro e wb ⟨rfl,hb⟩
           have hbB:Hid (Below W7.heap.size W7 wb):=hbA.out.trans (hb.mono hbA.out.size)
           clear hb)
        | (go_at_call 22
           refine (quilt_here P6 tb so6 aq6 cq6 l6 t6 _ (HWx.out.life.below (Below.drew (Below.refl _ _))).trio G8.out).mono ?_
           rintro e wa ⟨a9,c9,rfl,hf,hb⟩
           have hbA:Hid (Below W7.heap.size W7 wa):=(Below.drew (Below.refl _ _)).trans hb
           have hfA:Hid (FilesIn wa a9 c9 l6):=hf
           clear hb hf))
    rename_i hHeld
    clear hHeld
    have HE:Hid (Below w.heap.size w wc):=HBx.out.trans (hbC.out.mono HBx.out.size)
    go_wp2
    go_ret
    exact ⟨rfl,HE.out⟩
end Go.Proofs.YtihnghnafpgdfacGreatDoor
