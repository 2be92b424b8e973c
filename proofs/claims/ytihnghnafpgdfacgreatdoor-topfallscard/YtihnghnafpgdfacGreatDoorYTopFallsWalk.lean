/-
  THE WALK OF TopFalls: it returns true.
-/
import Derived.Test.YtihnghnafpgdfacGreatDoorYTrioFall
import Derived.Test.YtihnghnafpgdfacGreatDoorYTrioSpoil
import Derived.Test.YtihnghnafpgdfacGreatDoorYTopWholeBase
import Derived.Test.YtihnghnafpgdfacGreatDoorRk24
import Derived.Deep.RegionHeld3
import Derived.BigQuiet
namespace Go.Proofs.YtihnghnafpgdfacGreatDoor
open Go Go.RowKit Go.BigFrame
set_option linter.unusedVariables false
set_option linter.unusedSimpArgs false
/-- An act in a row of acts. -/
structure ActAt (W:World)(b o:Nat)(y:Ac):Prop where
  c0:W.cell? ⟨b,o,none⟩=some (.string y.kind)
  c1:W.cell? ⟨b,o+1,none⟩=some (.string y.s)
  c2:W.cell? ⟨b,o+2,none⟩=some (.string y.t)
  c3:W.cell? ⟨b,o+3,none⟩=some (.int .i64 y.n)
  c4:W.cell? ⟨b,o+4,none⟩=some (.int .u64 y.k)
  c5:W.cell? ⟨b,o+5,none⟩=some (.slice y.ca y.cl.length y.cc)
set_option maxRecDepth 100000 in
set_option maxHeartbeats 1000000 in
theorem topFalls_any (a:Option Addr) (cap:Nat) (L:List Ac) (w:World) (hm:L.length≤maxLen) (hs:ActCells w a L) (hnum:∀ i (h:i<L.length),ActNum L[i]) (hv:Vars w) :
    Calls Tryz.prog 10 #[.slice a L.length cap] w fun e w'=>e=.returned (.bool true)∧Below w.heap.size w w':=by
  have HA:Hid (ActCells w a L):=hs
  have HNUM:Hid (∀ i (h:i<L.length),ActNum L[i]):=hnum
  have HV:Hid (VarsLo w.heap.size w):=⟨w,hv,Nat.le_refl _,Below.refl _ _⟩
  have KW:Hid _:=works_any w HV.out
  clear hs hv hnum
  go_enter Tryz.func10,Tryz.ntmps10
  go_wp2_with fail
  refine Calls.mono KW.out ?_
  rintro e w1 ⟨rfl,hb1⟩
  have HB1:Hid (Below w.heap.size w w1):=hb1
  have KL:Hid _:=lightActs_any a cap L 40 w1 hm (by omega) (HA.out.below hb1)
  clear hb1 KW
  go_wp2_with fail
  refine Calls.mono KL.out ?_
  rintro e w2 ⟨⟨lb,rfl,hlb⟩,hw2⟩
  rw [hw2]
  clear hw2 w2 KL
  cases lb with
  | false =>
    go_wp2
    go_ret
    exact ⟨rfl,HB1.out⟩
  | true =>
  have HLA:Hid (LightA L 40):=hlb rfl
  have K3:Hid _:=three_any w1.heap.size w1 ((HV.out.go HB1.out).mono HB1.out.size) (Nat.le_refl _)
  clear hlb
  go_wp2_with fail
  refine Calls.mono K3.out ?_
  rintro e w2 ⟨P,D,tb,so,aq,cq,rfl,hw,hb2⟩
  obtain ⟨W,hW⟩:∃ y,y=w2.alloc (.cells #[dptr (P 0),dptr (P 1),dptr (P 2)] 26):=⟨_,rfl⟩
  have hb3:Below w2.heap.size w2 W:=by rw [hW];exact (Below.refl _ _).alloc (Nat.le_refl _) _
  have HB:Hid (Below w.heap.size w W):=HB1.out.trans ((hb2.trans (hb3.mono hb2.size)).mono HB1.out.size)
  have HL1:Hid (w.heap.size≤w1.heap.size∧w1.heap.size≤W.heap.size):=⟨HB1.out.size,Nat.le_trans hb2.size hb3.size⟩
  have HD:Hid (DBox W w2.heap.size (dptr (P 0)) (dptr (P 1)) (dptr (P 2))):=by rw [hW];exact DBox.new w2 _ _ _
  have HW:Hid (Well w1.heap.size W P D tb so aq cq [] 1):=hw.below hb3
  have hm':=hm
  unfold maxLen at hm'
  clear hb2 hb3 hw K3
  go_upto_region 7 with fail
  rw [← hW]
  clear hW
  go_wp2_with fail
  generalize W=V0 at *
  go_loopg [5,6] (L.length+1) (fun kx vt vi WQ=>∃ (n:Nat) (P':Nat→Dp) (D':Nat→Dk) (tb':Nat) (so':Nat→Option Nat) (aq':Option Addr) (cq':Nat) (l':List Fi) (t':Int),vt=.pointer (some ⟨tb',0,none⟩)∧vi=.int .i64 n∧n≤L.length∧L.length - n≤kx∧Hid (Well w1.heap.size WQ P' D' tb' so' aq' cq' l' t')∧Hid (LetT V0 WQ)∧Hid (Below w1.heap.size V0 WQ)∧Hid (∀ i,i<3→(P' i).B=(P i).B))
  case atStart=>exact ⟨0,P,D,tb,so,aq,cq,[],1,rfl,rfl,Nat.zero_le _,by omega,HW,LetT.refl _,Below.refl _ _,fun _ _=>rfl⟩
  case round =>
    obtain ⟨n,P0,D0,tb0,so0,aq0,cq0,l,t,rfl,rfl,hn,hnx,HWq,HFq,HBq,HSq⟩:=hrel
    have HBw:Hid (Below w.heap.size w wr):=HB.out.trans (HBq.out.mono HL1.out.1)
    by_cases hlt:n<L.length
    · have hltz : (n:Int)<(L.length:Int):=by omega
      have H8:Hid (l.length≤8):=HWq.out.life.good.files.few
      have HDq:Hid (DBox wr w2.heap.size (dptr (P0 0)) (dptr (P0 1)) (dptr (P0 2))):=(HD.out.far HFq.out).place HSq.out
      have KQ:Hid _:=quilt_here P0 tb0 so0 aq0 cq0 l t wr HWq.out.life.trio H8.out
      go_wp2_with fail
      refine Calls.mono KQ.out ?_
      rintro e w3 ⟨a3,c3,rfl,hf3,hb3⟩
      obtain ⟨W4,hW4⟩:∃ y,y=w3.alloc (.cells #[.slice a3 l.length c3,.int .i64 t] 32):=⟨_,rfl⟩
      have hb4:Below w3.heap.size w3 W4:=by rw [hW4];exact (Below.refl _ _).alloc (Nat.le_refl _) _
      have hb34:Below wr.heap.size wr W4:=hb3.trans (hb4.mono hb3.size)
      have HQ:Hid (QHere W4 w3.heap.size a3 c3 l t):=by rw [hW4];exact QHere.new hf3
      have HB4:Hid (Below w.heap.size w W4):=HBw.out.trans (hb34.mono HBw.out.size)
      have HD4:Hid (DBox W4 w2.heap.size (dptr (P0 0)) (dptr (P0 1)) (dptr (P0 2))):=HDq.out.below hb34
      have HW4:Hid (Well w1.heap.size W4 P0 D0 tb0 so0 aq0 cq0 l t):=HWq.out.below hb34
      have HL3:Hid (wr.heap.size≤w3.heap.size):=hb3.size
      have HBq4:Hid (Below w1.heap.size V0 W4):=HBq.out.trans (hb34.mono HWq.out.life.low)
      have HFq4:Hid (LetT V0 W4):=HFq.out.trans (LetT.of_below hb34)
      clear hf3 hb3 hb4 hb34 KQ
      go_upto_region 12 with fail
      rw [← hW4]
      clear hW4
      obtain ⟨b,off,rfl,⟨x0,x1,x2,x3,x4,x5⟩,ok⟩:=HA.out.below HB4.out n hlt
      have HSZ:Hid (L[n].s.size≤maxLen∧L[n].t.size≤maxLen):=⟨ok.s,ok.t⟩
      have HNU:Hid (ActNum L[n]):=HNUM.out n hlt
      have HAT:Hid (∀ V,Below w.heap.size w V→ActAt V b (off+n * 6) L[n]):=fun V h=>by
        obtain ⟨b',off',hb',⟨x0,x1,x2,x3,x4,x5⟩,-⟩:=HA.out.below h n hlt
        have e1:b'=b∧off'=off:=by injection hb' with h1;injection h1 with h1 h2;exact ⟨h1.symm,h2.symm⟩
        rw [e1.1,e1.2] at x0 x1 x2 x3 x4 x5
        exact ⟨x0,x1,x2,x3,x4,x5⟩
      clear ok
      generalize L[n]=y at *
      have KD:Hid _:=do_any a3 c3 l t y W4 HW4.out.life.good HQ.out.files.slice HSZ.out.1 HSZ.out.2
      have HDG:Hid _:=do_good HW4.out.life.good y
      obtain ⟨q0,q1⟩:=HQ.out.cells
      have HGL:Hid (GoodQ l t):=HW4.out.life.good
      have keepA:Hid (∀ V,Below W4.heap.size W4 V→(V.cell? ⟨w3.heap.size,0,none⟩=some (.slice a3 l.length c3)∧V.cell? ⟨w3.heap.size,1,none⟩=some (.int .i64 t)∧V.cell? ⟨b,off+n * 6,none⟩=some (.string y.kind)∧V.cell? ⟨b,off+n * 6+1,none⟩=some (.string y.s)∧V.cell? ⟨b,off+n * 6+2,none⟩=some (.string y.t)∧V.cell? ⟨b,off+n * 6+3,none⟩=some (.int .i64 y.n)∧V.cell? ⟨b,off+n * 6+4,none⟩=some (.int .u64 y.k)∧V.cell? ⟨b,off+n * 6+5,none⟩=some (.slice y.ca y.cl.length y.cc))):=fun V h=>by
        obtain ⟨q0,q1⟩:=(HQ.out.below h).cells
        obtain ⟨x0,x1,x2,x3,x4,x5⟩:=HAT.out V (HB4.out.trans (h.mono HB4.out.size))
        exact ⟨q0,q1,x0,x1,x2,x3,x4,x5⟩
      clear KD
      go_wp2_with fail
      go_cut [8,9] (fun px pe wx=>∃ X a5 c5,px=.pointer (some ⟨X,0,none⟩)∧pe=errV (doR l t y).n∧Hid (QSome wx X a5 c5 (doR l t y).l (doR l t y).t)∧Hid (Below W4.heap.size W4 wx))
      case first =>
        go_region_held3 (fun V=>V.cell? ⟨w3.heap.size,0,none⟩=some (.slice a3 l.length c3)∧V.cell? ⟨w3.heap.size,1,none⟩=some (.int .i64 t)∧V.cell? ⟨b,off+n * 6,none⟩=some (.string y.kind)∧V.cell? ⟨b,off+n * 6+1,none⟩=some (.string y.s)∧V.cell? ⟨b,off+n * 6+2,none⟩=some (.string y.t)∧V.cell? ⟨b,off+n * 6+3,none⟩=some (.int .i64 y.n)∧V.cell? ⟨b,off+n * 6+4,none⟩=some (.int .u64 y.k)∧V.cell? ⟨b,off+n * 6+5,none⟩=some (.slice y.ca y.cl.length y.cc))
          ((refine keepA.out _ ?_;repeat (first | exact Below.refl _ _ | exact HBW3.out | refine Below.drew ?_ | refine Below.alloc ?_ (by first | omega | (simp;done) | (simp;omega)) _ | refine Below.setCell ?_ (by first | omega | (simp;done) | (simp;omega)) _)))
          (first
            | (go_at_call 27
               refine (do_any a3 c3 l t y _ HGL.out (by refine HQ.out.files.slice.below ?_;repeat (first | exact Below.refl _ _ | refine Below.drew ?_ | refine Below.alloc ?_ (Nat.le_refl _) _)) HSZ.out.1 HSZ.out.2).mono ?_
               rintro e v3 ⟨a5,c5,rfl,hs3,hb3⟩
               have hb4:=Below.undrew hb3
               have hbW:Below W4.heap.size W4 v3:=by
                 refine Below.trans ?_ (hb4.mono ?_)
                 · first | exact Below.refl _ _ | exact (Below.refl _ _).alloc (Nat.le_refl _) _
                 · simp
               have HS3:Hid (Slice v3 a5 c5 (doR l t y).l):=hs3
               have HBW3:Hid (Below W4.heap.size W4 v3):=hbW
               have hwz:W4.heap.size≤v3.heap.size:=hbW.size
               try (have xb:v3.heap[W4.heap.size]?=some (.cells #[.slice none 0 0,.int .i64 0] 32 (0,0)):=(hb4.block _ (by simp)).trans (World.alloc_heap_new W4 _)
                    have HX3:Hid (v3.heap[W4.heap.size]?=some (.cells #[.slice none 0 0,.int .i64 0] 32 (0,0))):=xb
                    have v0:v3.cell? ⟨W4.heap.size,0,none⟩=some (.slice none 0 0):=by rw [cell_block xb];rfl
                    have v1:v3.cell? ⟨W4.heap.size,1,none⟩=some (.int .i64 0):=by rw [cell_block xb];rfl
                    have vf0:=frozen_block xb 0
                    have vf1:=frozen_block xb 1
                    have vl:W4.heap.size<v3.heap.size:=(Array.getElem?_eq_some_iff.1 xb).1
                    clear xb)
               clear hb3 hb4 hbW hs3))
        all_goals (try go_wp2_with fail)
        all_goals go_meet
        all_goals
          first
            | exact ⟨W4.heap.size,a5,c5,rfl,rfl,⟨(box_over HX3.out).1,HS3.out.store2 (fun o ho=>by rw [cell_block HX3.out];simp;omega) _ _⟩,(HBW3.out.setCell (Nat.le_refl _) _).setCell (Nat.le_refl _) _⟩
            | exact ⟨v3.heap.size,a5,c5,rfl,rfl,⟨World.alloc_heap_new v3 _,HS3.out.below ((Below.refl _ _).alloc (Nat.le_refl _) _)⟩,HBW3.out.alloc HBW3.out.size _⟩
      case rest =>
      obtain ⟨X5,a5,c5,rfl,rfl,HN5,hb45H⟩:=hcut
      generalize wc=W5 at *
      have hb45:Below W4.heap.size W4 W5:=hb45H.out
      have HB5:Hid (Below w.heap.size w W5):=HB4.out.trans (hb45.mono HB4.out.size)
      have HQ5:Hid (QHere W5 w3.heap.size a3 c3 l t):=HQ.out.below hb45
      have HD5:Hid (DBox W5 w2.heap.size (dptr (P0 0)) (dptr (P0 1)) (dptr (P0 2))):=HD4.out.below hb45
      have HW5:Hid (Well w1.heap.size W5 P0 D0 tb0 so0 aq0 cq0 l t):=HW4.out.below hb45
      have HBq5:Hid (Below w1.heap.size V0 W5):=HBq4.out.trans (hb45.mono HW4.out.life.low)
      have HFq5:Hid (LetT V0 W5):=HFq4.out.trans (LetT.of_below hb45)
      clear hb45 x0 x1 x2 x3 x4 x5 q0 q1
      generalize hr:doR l t y=r at *
      obtain ⟨k,hk,hke⟩:=place_of y.n 3 (by omega)
      have hke3:(bits .and .i64 y.n 1023).tmod 3=(k:Int):=hke
      have hkz:(k:Int)<3:=by omega
      have hkz0:(0:Int)≤(k:Int):=by omega
      have dk:=HD5.out.at hk
      have dl:=HD5.out.lt
      obtain ⟨x0,x1,x2,x3,x4,x5⟩:=HAT.out W5 HB5.out
      have KA:Hid _:=arm_any (P0 k) (D0 k) (bits .and .i64 y.n 31) W5 (by rw [mask_32];omega) (HW5.out.life.three.disk k hk)
      have keepB:Hid (V0=V0):=rfl
      go_wp2_with fail
      go_region_held3 (fun V=>V.cell? ⟨w2.heap.size,k,none⟩=some (dptr (P0 k))∧V.cell? ⟨b,off+n * 6+3,none⟩=some (.int .i64 y.n))
        (first | exact ⟨dk,x3⟩ | exact ⟨(HD5.out.far hfA.out).at hk,(HAT.out w6 (HB5.out.trans (hbA.out.mono HL1.out.1))).c3⟩)
        (first
          | (go_at_call 31
             refine (arm_any (P0 k) (D0 k) _ _ (by rw [mask_32];omega) ((HW5.out.below (Below.drew (Below.refl _ _))).life.three.disk k hk)).mono ?_
             rintro e w6 ⟨rfl,hda,hna⟩
             obtain ⟨hl6,hb6,hf6,hs6⟩:=HW5.out.life.disk (u:=(P0 k).wv) (d':={ D0 k with left:=bits .and .i64 y.n 31 }) hk hda (fun j hj=>.inl hj) (Near.touch (w:=W5) ⟨hna.os,hna.tape,hna.output,hna.size,hna.block⟩) (HW5.out.life.up k hk)
             have hbA:Hid (Below w1.heap.size W5 w6):=hb6
             have hfA:Hid (LetT W5 w6):=hf6
             have hS6:Hid (∀ i,i<3→(upd P0 k { P0 k with wv:=(P0 k).wv } i).B=(P0 i).B):=hs6
             have hL6:Hid (Life w1.heap.size 50 w6 (upd P0 k { P0 k with wv:=(P0 k).wv }) (upd D0 k { D0 k with left:=bits .and .i64 y.n 31 }) tb0 so0 aq0 cq0 l t):=hl6
             clear hda hna hl6 hb6 hf6 hs6))
      rename_i hHeld
      clear hHeld
      have hl6:=hL6.out
      have hb6:=hbA.out
      have hf6:=hfA.out
      have hs6:=hS6.out
      have hst6:∀ i,i<3→Stood 50 (upd D0 k { D0 k with left:=bits .and .i64 y.n 31 } i) (rowsL l t):=fun i hi=>by
        by_cases ei:i=k
        · subst ei;rw [upd_same];exact (HW5.out.sound i hi).stood.arm _
        · rw [upd_other _ _ ei];exact (HW5.out.sound i hi).stood
      generalize (upd P0 k { P0 k with wv:=(P0 k).wv })=P6 at *
      generalize (upd D0 k { D0 k with left:=bits .and .i64 y.n 31 })=D6 at *
      have HL6:Hid (Life w1.heap.size 50 w6 P6 D6 tb0 so0 aq0 cq0 l t):=hl6
      have HST6:Hid (∀ i,i<3→Stood 50 (D6 i) (rowsL l t)):=hst6
      have HB6:Hid (Below w.heap.size w w6):=HB5.out.trans (hb6.mono HL1.out.1)
      have HBq6:Hid (Below w1.heap.size V0 w6):=HBq5.out.trans hb6
      have HFq6:Hid (LetT V0 w6):=HFq5.out.trans hf6
      have HSq6:Hid (∀ i,i<3→(P6 i).B=(P i).B):=fun i hi=>(hs6 i hi).trans (HSq.out i hi)
      have HQ6:Hid (QHere w6 w3.heap.size a3 c3 l t):=HQ5.out.far hf6
      have HD6:Hid (DBox w6 w2.heap.size (dptr (P6 0)) (dptr (P6 1)) (dptr (P6 2))):=(HD5.out.far hf6).place hs6
      have HN6:Hid (QSome w6 X5 a5 c5 r.l r.t):=⟨hf6 _ _ _ _ HN5.out.blk (.inl ⟨by decide,by decide,by decide,by decide,by decide,by decide⟩),HN5.out.files.farT hf6⟩
      have KD:Hid _:=doTrio_any w1.heap.size P6 D6 tb0 so0 aq0 cq0 l t y w6 hl6 HSZ.out.1 HSZ.out.2
      have HG:Hid (GoodQ l t):=hl6.good
      clear hl6 hb6 hf6 hs6 hst6 hL6 hbA hfA hS6 keepB dk dl hke hke3 hkz hkz0 x0 x1 x2 x3 x4 x5 KA
      obtain ⟨x0,x1,x2,x3,x4,x5⟩:=HAT.out w6 HB6.out
      go_wp2_with fail
      refine Calls.mono KD.out ?_
      rintro e w7 hsays
      obtain ⟨P7,D7,hfl⟩:=hsays.fallen HL6.out HST6.out
      obtain ⟨m,rfl,hup⟩:=hfl.m
      rw [hr] at hfl hup
      have HU0:Hid (Up3 w1.heap.size w6 w7 P6 P7 D7 D7 0):=hfl.up3
      have HUP:Hid (∀ (wr:World) (P2:Nat→Dp) (D2:Nat→Dk),Up3 w1.heap.size w6 wr P6 P2 D7 D2 3→Risen w1.heap.size w6 wr P6 l t r m P2 D2):=hup
      have HFW:Hid (∀ i,i<3→(D7 i).wr.length≤100):=hfl.few
      have HLO6:Hid (w1.heap.size≤w6.heap.size):=HL6.out.low
      have hsz7:w6.heap.size≤w7.heap.size:=HU0.out.bel.size
      obtain ⟨kk,hkk⟩:∃ kk:Nat,y.k=kk:=⟨y.k.toNat,by have:=bounds_u64 HNU.out.k;omega⟩
      have HKP:Hid (kk<18446744073709551616):=by have:=bounds_u64 HNU.out.k;show kk<_;omega
      have HKK:Hid (y.k=kk):=hkk
      clear hfl hup hsays KD x0 x1 x2 x3 x4 x5 hk hr hkk
      go_wp2_with fail
      generalize wr=VR at *
      go_loopg [11] 4 (fun kx vi wr=>∃ (j:Nat) (P':Nat→Dp) (D':Nat→Dk),vi=.int .i64 j∧j≤3∧3 - j≤kx∧Hid (Up3 w1.heap.size w6 wr P6 P' D7 D' j))
      case atStart=>exact ⟨0,P7,D7,rfl,by omega,by omega,HU0⟩
      case round =>
        obtain ⟨j,P',D',rfl,hj,hjx,HU⟩:=hrel
        have HBr:Hid (Below w.heap.size w wr):=HB6.out.trans (HU.out.bel.mono HL1.out.1)
        by_cases hlt3:j<3
        · have hltz3:(j:Int)<3:=by omega
          have HDr:Hid (DBox wr w2.heap.size (dptr (P' 0)) (dptr (P' 1)) (dptr (P' 2))):=(HD6.out.far HU.out.far).place HU.out.same
          have dj:=HDr.out.at hlt3
          have dl:=HDr.out.lt
          obtain ⟨-,-,-,-,x4,-⟩:=HAT.out wr HBr.out
          rw [HKK.out] at x4
          have h8a:IntKind.i64.wrap (8 * (j:Int))=8 * (j:Int):=by rw [IntKind.wrap_i64];omega
          have h8b:0≤8 * (j:Int):=by omega
          have h8c:8 * (j:Int)≤64:=by omega
          have hfew:(D' j).wr.length≤100:=by rw [HU.out.rest j hlt3 (Nat.le_refl _)];exact HFW.out j hlt3
          go_wp2_with fail
          go_region_held3 (fun V=>V.cell? ⟨w2.heap.size,j,none⟩=some (dptr (P' j))∧V.cell? ⟨b,off+n * 6+4,none⟩=some (.int .u64 (kk:Int)))
            (first | exact ⟨dj,x4⟩ | exact ⟨((HD6.out.far hUa.out.far).place HU.out.same).at hlt3,by have h9:=(HAT.out wa (HB6.out.trans (hUa.out.bel.mono HL1.out.1))).c4;rw [HKK.out] at h9;exact h9⟩)
            (first
              | (go_at_call 32
                 refine (restart_any (P' j) (D' j) _ _ (shr_in HKP.out _) ((HU.out.three.below (Below.drew (Below.refl _ _))).disk j hlt3) hfew).mono ?_
                 rintro e wa ⟨rfl,KK,hda,hna⟩
                 have hUa:Hid (Up3 w1.heap.size w6 wa P6 (upd P' j { P' j with wv:=.slice none 0 0 }) D7 (upd D' j (restartD (D' j) KK)) (j+1)):=HU.out.step hlt3 HLO6.out KK hda ⟨hna.os,hna.tape,hna.output,hna.size,hna.block⟩
                 clear hda hna))
          rename_i hHeld
          clear hHeld dj dl hfew h8a h8b h8c x4
          go_wp2
          go_roundg (3 - (j+1))
          case measure=>omega
          case rel=>exact ⟨j+1,_,_,by go_num,by omega,Nat.le_refl _,hUa⟩
        · have hnl3:¬ (j:Int)<3:=by omega
          obtain rfl:j=3:=by omega
          have HR:Hid (Risen w1.heap.size w6 wr P6 l t r m P' D'):=HUP.out wr P' D' HU.out
          have HDr:Hid (DBox wr w2.heap.size (dptr (P' 0)) (dptr (P' 1)) (dptr (P' 2))):=(HD6.out.far HR.out.far).place HR.out.same
          obtain ⟨l2,t2,i1,i2,hg2,hi1,hi2,hi12,ht1,ht2,hwhich⟩:=HR.out.two HG.out
          have KO:Hid _:=open_mended w1.heap.size P' D' l2 t2 wr hg2 HR.out.three HR.out.free HR.out.vars (Nat.le_trans HLO6.out HR.out.bel.size) hi1 hi2 hi12 ht1 ht2
          have HWH:Hid ((¬ r.n=0∧m=r.n∧l2=l∧t2=t)∨(r.n=0∧m=0∧l2=r.l∧t2=r.t)∨(r.n=0∧(0<m∧m≤100)∧((l2=l∧t2=t)∨(l2=r.l∧t2=r.t)))):=hwhich
          clear HU HUP hg2 hi1 hi2 hi12 ht1 ht2 hwhich i1 i2
          obtain ⟨d0,d1,d2,-⟩:=HDr.out.cells
          go_wp2_with fail
          refine Calls.mono KO.out ?_
          rintro e w8 ⟨tb8,n8,P8,D8,S8,a8,c8,rfl,hsz8,hm⟩
          have HM:Hid (Mended w1.heap.size wr w8 P' P8 D' D8 tb8 S8 a8 c8 l2 t2 n8):=hm
          have HW8:Hid (Well w1.heap.size w8 P8 D8 tb8 S8 a8 c8 l2 t2):=HR.out.well hm
          have HF8:Hid (LetT w6 w8):=HR.out.far.trans hm.far
          have HB68:Hid (Below w1.heap.size w6 w8):=HR.out.bel.trans hm.bel
          have HB8:Hid (Below w.heap.size w w8):=HB6.out.trans (HB68.out.mono HL1.out.1)
          have HQ8:Hid (QHere w8 w3.heap.size a3 c3 l t):=HQ6.out.far HF8.out
          have HN8:Hid (QSome w8 X5 a5 c5 r.l r.t):=⟨HF8.out _ _ _ _ HN6.out.blk (.inl ⟨by decide,by decide,by decide,by decide,by decide,by decide⟩),HN6.out.files.farT HF8.out⟩
          have HSq8:Hid (∀ i,i<3→(P8 i).B=(P i).B):=fun i hi=>(hm.same i hi).trans ((HR.out.same i hi).trans (HSq6.out i hi))
          have HBq8:Hid (Below w1.heap.size V0 w8):=HBq6.out.trans HB68.out
          have HFq8:Hid (LetT V0 w8):=HFq6.out.trans HF8.out
          have G2:Hid (l2.length≤8):=hm.life.good.files.few
          clear hm hsz8 KO d0 d1 d2
          have KQ8:Hid _:=quilt_here P8 tb8 S8 a8 c8 l2 t2 w8 HM.out.life.trio G2.out
          go_wp2_with fail
          refine Calls.mono KQ8.out ?_
          rintro e w9 ⟨a9,c9,rfl,hf9,hb9⟩
          obtain ⟨W9,hW9⟩:∃ z,z=w9.alloc (.cells #[.slice a9 l2.length c9,.int .i64 t2] 32):=⟨_,rfl⟩
          have hb99:Below w9.heap.size w9 W9:=by rw [hW9];exact (Below.refl _ _).alloc (Nat.le_refl _) _
          have hb89:Below w8.heap.size w8 W9:=hb9.trans (hb99.mono hb9.size)
          have HQ9:Hid (QHere W9 w9.heap.size a9 c9 l2 t2):=by rw [hW9];exact QHere.new hf9
          have HB9:Hid (Below w.heap.size w W9):=HB8.out.trans (hb89.mono HB8.out.size)
          have HBq9:Hid (Below w1.heap.size V0 W9):=HBq8.out.trans (hb89.mono HW8.out.life.low)
          have HFq9:Hid (LetT V0 W9):=HFq8.out.trans (LetT.of_below hb89)
          have HW9:Hid (QHere W9 w3.heap.size a3 c3 l t):=HQ8.out.below hb89
          have HN9:Hid (QSome W9 X5 a5 c5 r.l r.t):=HN8.out.below hb89
          have HL9:Hid (Well w1.heap.size W9 P8 D8 tb8 S8 a8 c8 l2 t2):=HW8.out.below hb89
          have HEND:Hid (∀ V,Below W9.heap.size W9 V→Hid (Well w1.heap.size V P8 D8 tb8 S8 a8 c8 l2 t2)∧Hid (LetT V0 V)∧Hid (Below w1.heap.size V0 V)∧Hid (∀ i,i<3→(P8 i).B=(P i).B)):=fun V h=>⟨HL9.out.below h,HFq9.out.trans (LetT.of_below h),HBq9.out.trans (h.mono HL9.out.life.low),HSq8.out⟩
          clear hf9 hb9 hb99 hb89 KQ8 HN8 HQ8
          go_upto_region 22 with fail
          rw [← hW9]
          clear hW9
          obtain ⟨q0,q1⟩:=HQ9.out.cells
          obtain ⟨p0,p1⟩:=HW9.out.cells
          obtain ⟨n0,n1⟩:=HN9.out.cells
          rcases HWH.out with ⟨k1,k2,k3,k4⟩ | ⟨k1,k2,k3,k4⟩ | ⟨k1,⟨k2,k2'⟩,k3⟩
          · subst k2 k3 k4
            have KS:Hid _:=sameSelf_any (t:=t2) G2.out HQ9.out.files HW9.out.files
            rw [errV_pos k1]
            go_wp2_with fail
            refine Calls.mono KS.out ?_
            rintro e w11 ⟨rfl,hb11⟩
            obtain ⟨e1,e2,e3,e4⟩:=HEND.out w11 hb11
            go_wp2
            go_roundg (L.length - (n+1))
            case measure=>omega
            case rel=>exact ⟨n+1,P8,D8,tb8,S8,a8,c8,_,_,rfl,by go_num,by omega,Nat.le_refl _,e1,e2,e3,e4⟩
          · subst k2 k3 k4
            have KS:Hid _:=sameSome_any (t:=r.t) G2.out HQ9.out.files HN9.out.files
            rw [errV_zero k1,errV_zero rfl]
            go_wp2_with fail
            refine Calls.mono KS.out ?_
            rintro e w11 ⟨rfl,hb11⟩
            obtain ⟨e1,e2,e3,e4⟩:=HEND.out w11 hb11
            go_wp2
            go_roundg (L.length - (n+1))
            case measure=>omega
            case rel=>exact ⟨n+1,P8,D8,tb8,S8,a8,c8,_,_,rfl,by go_num,by omega,Nat.le_refl _,e1,e2,e3,e4⟩
          · rw [errV_zero k1,errV_pos (show ¬ m=0 by omega)]
            rcases k3 with ⟨k3,k4⟩ | ⟨k3,k4⟩
            · subst k3 k4
              have KS:Hid _:=sameSelf_any (t:=t2) G2.out HQ9.out.files HW9.out.files
              go_wp2_with fail
              refine Calls.mono KS.out ?_
              rintro e w11 ⟨rfl,hb11⟩
              obtain ⟨e1,e2,e3,e4⟩:=HEND.out w11 hb11
              go_wp2
              go_roundg (L.length - (n+1))
              case measure=>omega
              case rel=>exact ⟨n+1,P8,D8,tb8,S8,a8,c8,_,_,rfl,by go_num,by omega,Nat.le_refl _,e1,e2,e3,e4⟩
            · subst k3 k4
              have KS:Hid _:=sameQuilt_any a9 a3 c9 c3 r.l l r.t t W9 (by have:=G2.out;omega) (by have:=H8.out;omega) HQ9.out.files.cells HW9.out.files.cells
              go_wp2_with fail
              refine Calls.mono KS.out ?_
              rintro e w11 ⟨rfl,hb11⟩
              have HB11:Hid (Below W9.heap.size W9 w11):=hb11
              have HQ11:Hid (QHere w11 w9.heap.size a9 c9 r.l r.t):=HQ9.out.below hb11
              have HN11:Hid (QSome w11 X5 a5 c5 r.l r.t):=HN9.out.below hb11
              have KS2:Hid _:=sameSome_any (t:=r.t) G2.out HQ11.out.files HN11.out.files
              clear hb11 KS q0 q1 p0 p1 n0 n1
              obtain ⟨q0,q1⟩:=HQ11.out.cells
              obtain ⟨n0,n1⟩:=HN11.out.cells
              generalize hb:(sameL r.l l && _)=bb
              cases bb with
              | true =>
                obtain ⟨e1,e2,e3,e4⟩:=HEND.out w11 HB11.out
                go_wp2
                go_roundg (L.length - (n+1))
                case measure=>omega
                case rel=>exact ⟨n+1,P8,D8,tb8,S8,a8,c8,_,_,rfl,by go_num,by omega,Nat.le_refl _,e1,e2,e3,e4⟩
              | false =>
                go_wp2_with fail
                refine Calls.mono KS2.out ?_
                rintro e w12 ⟨rfl,hb12⟩
                obtain ⟨e1,e2,e3,e4⟩:=HEND.out w12 (HB11.out.trans (hb12.mono HB11.out.size))
                go_wp2
                go_roundg (L.length - (n+1))
                case measure=>omega
                case rel=>exact ⟨n+1,P8,D8,tb8,S8,a8,c8,_,_,rfl,by go_num,by omega,Nat.le_refl _,e1,e2,e3,e4⟩
    · have hnl:¬ (n:Int)<(L.length:Int):=by omega
      go_wp2
      go_ret
      exact ⟨rfl,HBw.out⟩
end Go.Proofs.YtihnghnafpgdfacGreatDoor
