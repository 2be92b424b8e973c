/-
  THE WALK OF TopMend: it returns true.
-/
import Derived.Test.YtihnghnafpgdfadGreatDoorYTrioOpenFell
import Derived.Test.YtihnghnafpgdfadGreatDoorYTrioBlank
import Derived.Deep.RegionHeld3
import Derived.BigQuiet
namespace Go.Proofs.YtihnghnafpgdfadGreatDoor
open Go Go.RowKit Go.BigFrame
set_option linter.unusedVariables false
set_option linter.unusedSimpArgs false
/-- The disk that fell is up again: two of three are sound. -/
structure MendUp (lo:Nat)(w wr:World)(P P':Nat→Dp)(D':Nat→Dk)(R:List Ch)(k:Nat):Prop where
  three:Three lo wr P' D'
  same:∀ i,i<3→(P' i).B=(P i).B
  free:∀ i,i<3→Free (D' i) 50 0
  sound:∀ i,i<3→i≠k→Sound 50 (D' i) R
  vars:VarsLo lo wr
  bel:Below lo w wr
  far:LetT w wr
theorem MendTo.up {lo:Nat}{w wr w1:World}{P P':Nat→Dp}{D D':Nat→Dk}{k:Nat}{R:List Ch}(h:MendTo lo 50 w wr P P' D D' k)(hk:k<3)(hlo:lo≤w.heap.size)(hw:(P k).wv.ownBlock=none)(hs:∀ i,i<3→i≠k→Sound 50 (D i) R)(K:Nat)(hd:DiskAt w1 { P' k with wv:=.slice none 0 0 } (restartD (D' k) K))(hn:Near (P' k) wr w1) :
    MendUp lo w w1 P (upd P' k { P' k with wv:=.slice none 0 0 }) (upd D' k (restartD (D' k) K)) R k:=by
  have hdk:=h.three.disk k hk
  have hb:Below lo wr w1:=hn.touch.below (fun j hj=>Nat.le_trans (h.three.lo k hk) (own_low hdk j hj)) (Nat.le_trans hlo h.bel.size)
  refine ⟨h.three.step hk hd (fun j hj=>by cases hj) hn.touch (fun j hj=>.inl hj),fun i hi=>?_,fun i hi=>?_,fun i hi hik=>?_,h.vars.go hb,h.bel.trans hb,fun b C T fr e hT=>?_⟩
  · by_cases ei:i=k
    · subst ei;rw [upd_same];exact h.same i hi
    · rw [upd_other _ _ ei];exact h.same i hi
  · by_cases ei:i=k
    · subst ei;rw [upd_same];exact h.hurt.free K
    · rw [upd_other _ _ ei,(h.other i hi ei).1];exact (hs i hi ei).free
  · rw [upd_other _ _ hik,(h.other i hi hik).1];exact hs i hi hik
  · have e1:=h.far b C T fr e hT
    refine (hn.touch.block b (Array.getElem?_eq_some_iff.1 e1).1 (fun ho=>?_)).trans e1
    refine hdk.noStr2 ho (fun hw2=>?_) e1 hT
    have h2:=(Array.getElem?_eq_some_iff.1 e).1
    rcases h.new b hw2 with h1 | h1
    · rw [hw] at h1;cases h1
    · omega
set_option maxRecDepth 100000 in
set_option maxHeartbeats 1000000 in
theorem topMend_any (a:Option Addr) (cap:Nat) (L:List Ac) (which fuse:Int) (keep:Nat) (w:World) (hm:L.length≤maxLen) (hs:ActCells w a L) (hkeep:keep<18446744073709551616) (hv:Vars w) :
    Calls Tryz.prog 3 #[.slice a L.length cap,.int .i64 which,.int .i64 fuse,.int .u64 keep] w fun e w'=>e=.returned (.bool true)∧Below w.heap.size w w':=by
  have HA:Hid (ActCells w a L):=hs
  have HKP:Hid (keep<18446744073709551616):=hkeep
  have HV:Hid (VarsLo w.heap.size w):=⟨w,hv,Nat.le_refl _,Below.refl _ _⟩
  have KW:Hid _:=works_any w HV.out
  obtain ⟨i0,hi0,hz0,hz1,hz2⟩:=info_parts Tryz.infoString
  clear hs hv hkeep
  go_enter Tryz.func3,Tryz.ntmps3
  go_wp2_with fail
  refine Calls.mono KW.out ?_
  rintro e w1 ⟨rfl,hb1⟩
  have HB1:Hid (Below w.heap.size w w1):=hb1
  have KP:Hid _:=played_any a cap L w1 hm (HA.out.below hb1) ((HV.out.go hb1).mono hb1.size)
  clear hb1 KW
  go_wp2_with fail
  refine Calls.mono KP.out ?_
  rintro e w2 ⟨hb2,P,D,tb,so,aq,cq,l,t,v,ok,rfl,hok,hw⟩
  obtain ⟨W,hW⟩:∃ y,y=w2.alloc (.cells #[dptr (P 0),dptr (P 1),dptr (P 2)] 26):=⟨_,rfl⟩
  have hb3:Below w2.heap.size w2 W:=by rw [hW];exact (Below.refl _ _).alloc (Nat.le_refl _) _
  have HB:Hid (Below w.heap.size w W):=HB1.out.trans ((hb2.trans (hb3.mono hb2.size)).mono HB1.out.size)
  have HL1:Hid (w.heap.size≤w1.heap.size∧w1.heap.size≤W.heap.size):=⟨HB1.out.size,Nat.le_trans hb2.size hb3.size⟩
  have HD:Hid (DBox W w2.heap.size (dptr (P 0)) (dptr (P 1)) (dptr (P 2))):=by rw [hW];exact DBox.new w2 _ _ _
  have HW:Hid (Well w1.heap.size W P D tb so aq cq l t):=hw.below hb3
  have HK:Hid (ok=true→v=.pointer (some ⟨tb,0,none⟩)):=hok
  have H8:Hid (l.length≤8):=hw.life.good.files.few
  clear hb2 hb3 hok hw KP
  go_upto_region 5 with fail
  rw [← hW]
  clear hW
  cases ok with
  | false =>
    go_wp2
    go_ret
    exact ⟨rfl,HB.out⟩
  | true =>
  obtain rfl:=HK.out rfl
  have KQ:Hid _:=quilt_here P tb so aq cq l t W HW.out.life.trio H8.out
  go_wp2_with fail
  refine Calls.mono KQ.out ?_
  rintro e w3 ⟨a3,c3,rfl,hf3,hb3⟩
  obtain ⟨W4,hW4⟩:∃ y,y=w3.alloc (.cells #[.slice a3 l.length c3,.int .i64 t] 32):=⟨_,rfl⟩
  have hb4:Below w3.heap.size w3 W4:=by rw [hW4];exact (Below.refl _ _).alloc (Nat.le_refl _) _
  have hb34:Below W.heap.size W W4:=hb3.trans (hb4.mono hb3.size)
  have HQ:Hid (QHere W4 w3.heap.size a3 c3 l t):=by rw [hW4];exact QHere.new hf3
  have HB4:Hid (Below w.heap.size w W4):=HB.out.trans (hb34.mono HB.out.size)
  have HD4:Hid (DBox W4 w2.heap.size (dptr (P 0)) (dptr (P 1)) (dptr (P 2))):=HD.out.below hb34
  have HW4:Hid (Well w1.heap.size W4 P D tb so aq cq l t):=HW.out.below hb34
  clear hf3 hb3 hb4 hb34 KQ
  go_upto_region 7 with fail
  rw [← hW4]
  clear hW4
  obtain ⟨k,hk,hke⟩:=place_of which 3 (by omega)
  have hke3:(bits .and .i64 which 1023).tmod 3=(k:Int):=hke
  have HKE:Hid ((k:Int)=(bits .and .i64 which 1023).tmod 3):=hke3.symm
  clear hke hke3
  go_upto_region 8 with fail
  rw [← HKE.out]
  go_wp2_with fail
  go_loopg [14,15] 51 (fun kx vb vi wr=>∃ (i:Nat),vi=.int .i64 i∧i≤50∧50 - i≤kx∧Hid (OwnsS wr W4.heap.size vb (List.replicate i ⟨#[]⟩))∧Hid (Below W4.heap.size W4 wr))
  case atStart=>exact ⟨0,rfl,by omega,by omega,World.ownsRow_nil _ _ _ _,Below.refl _ _⟩
  case round =>
    obtain ⟨i,rfl,hi,hix,HO,HBr⟩:=hrel
    by_cases hlt:i<50
    · have hltz:(i:Int)<50:=by omega
      have hrep:List.replicate (i+1) (⟨#[]⟩:ByteArray)=List.replicate i ⟨#[]⟩ ++ [⟨#[]⟩]:=List.replicate_succ'
      have HREP:Hid (List.replicate (i+1) (⟨#[]⟩:ByteArray)=List.replicate i ⟨#[]⟩ ++ [⟨#[]⟩]):=hrep
      have hsz4:=HBr.out.size
      obtain ⟨va,vc,hv,-,-,hvm,-⟩:=OwnsS.texts HO.out
      subst hv
      clear hrep
      have hlen:(List.replicate i (⟨#[]⟩:ByteArray)).length=i:=by simp
      have HLEN:Hid ((List.replicate i (⟨#[]⟩:ByteArray)).length≤50):=by show _≤_;omega
      clear hlen
      generalize List.replicate i (⟨#[]⟩:ByteArray)=TL at *
      go_wp2_with (at_builtin;refine wpList_append_own _ rfl _ _ 34 rfl W4.heap.size 9 i0 _ 1 16 Tryz.underlying34 hi0 hz0 hz1 hz2 rfl (by decide) _ _ _ rfl (World.ownsRow.alloc (w:=wr) HO.out _) ⟨wr.heap.size,0,none⟩ 1 1 [.string ⟨#[]⟩] rfl rfl (cell_one_new wr (.string ⟨#[]⟩) 9) (one_one ⟨#[]⟩) (by have:=HLEN.out;unfold maxLen;omega) (by have:=HLEN.out;omega) (by simp;omega) ?_;intro v' w5 hown' hgrow5 hnil5)
      have HO5:Hid (OwnsS w5 W4.heap.size v' (List.replicate (i+1) ⟨#[]⟩)):=by rw [HREP.out];exact OwnsS.snoc hown'
      have HB5:Hid (Below W4.heap.size W4 w5):=(HBr.out.alloc hsz4 _).grown hgrow5 (by simp;omega) (fun q hq=>(HO.out.lt q hq).1)
      clear hown' hgrow5 hnil5
      go_roundg (50 - (i+1))
      case measure=>omega
      case rel=>exact ⟨i+1,by go_num,by omega,Nat.le_refl _,HO5,HB5⟩
    · have hk5:i=50:=by omega
      subst hk5
      obtain ⟨va,vc,hv,-,-,hvm,-⟩:=OwnsS.texts HO.out
      subst hv
      have HSV:Hid (∀ V,LetT wr V→Strs V va blanks):=fun V hV=>by
        have h:=ownsRow_far HO.out (w':=V) (fun k e=>by
          obtain ⟨C,f,e1⟩:=Lib.ownsRow_kind HO.out k e
          exact (hV _ _ _ _ e1 (.inl ⟨by decide,by decide,by decide,by decide,by decide,by decide⟩)).trans e1.symm)
        obtain ⟨a9,c9,e9,h9,-⟩:=OwnsS.texts (l:=blanks) h
        have ea:va=a9:=by injection e9
        rw [ea];exact h9
      have HBr4:Hid (Below w.heap.size w wr):=HB4.out.trans (HBr.out.mono HB4.out.size)
      have HQr:Hid (QHere wr w3.heap.size a3 c3 l t):=HQ.out.below HBr.out
      have HDr:Hid (DBox wr w2.heap.size (dptr (P 0)) (dptr (P 1)) (dptr (P 2))):=HD4.out.below HBr.out
      have HWr:Hid (Well w1.heap.size wr P D tb so aq cq l t):=HW4.out.below HBr.out
      have e50:blanks.length=50:=by simp
      have HE50:Hid (blanks.length=50):=e50
      clear hvm
      simp only [List.length_replicate]
      clear e50
      generalize wr=V0 at *
      have hkz:(k:Int)<3:=by omega
      have hkz0:(0:Int)≤(k:Int):=by omega
      have dk:=HDr.out.at hk
      have dl:=HDr.out.lt
      have KS:Hid _:=spoil_any (P k) (D k) 0 va vc blanks V0 (HWr.out.life.three.disk k hk) (HWr.out.free k hk) (by simp) (fun s hs=>by rw [List.eq_of_mem_replicate hs];decide) (fun V hV=>HSV.out V (LetT.of_touch (HWr.out.life.three.disk k hk) (HWr.out.life.up k hk).2.1 hV))
      rw [HE50.out] at KS
      go_wp2_with fail
      refine Calls.mono KS.out ?_
      rintro e w5 ⟨rfl,d5,hsp,hcl,hnow⟩
      have HS5:Hid (Spoilt w1.heap.size V0 w5 P (upd P k { P k with wv:=.slice none 0 0 }) (upd D k d5) tb so aq cq l t k):=HWr.out.spoilt hk hsp hcl
      have HNT:Hid (¬ Tells (upd D k d5 k) (rowsL l t)):=by rw [upd_same];exact spoilt_blank (HWr.out.free k hk) (by rw [HE50.out];exact hnow)
      have HCL5:Hid (∀ i,i<3→Clean (upd D k d5 i)):=fun i hi=>by
        by_cases ei:i=k
        · subst ei;rw [upd_same];exact hcl
        · rw [upd_other _ _ ei]
          obtain ⟨sd,us,h1,h2,-⟩:=HWr.out.sound i hi
          exact h2
      generalize (upd P k { P k with wv:=.slice none 0 0 })=P5 at *
      generalize (upd D k d5)=D5 at *
      have HD5:Hid (DBox w5 w2.heap.size (dptr (P5 0)) (dptr (P5 1)) (dptr (P5 2))):=(HDr.out.far HS5.out.far).place HS5.out.same
      clear hsp hcl hnow KS dk dl
      have dk:=HD5.out.at hk
      have dl:=HD5.out.lt
      go_wp2_with fail
      refine Calls.mono (arm_any (P5 k) (D5 k) _ _ (by omega) (HS5.out.life.three.disk k hk)) ?_
      rintro e w6 ⟨rfl,hda,hna⟩
      obtain ⟨hl6,hb6,hf6,hs6⟩:=HS5.out.life.disk (u:=(P5 k).wv) (d':={ D5 k with left:=min (max fuse (-1)) 100 }) hk hda (fun j hj=>.inl hj) hna.touch (HS5.out.life.up k hk)
      have hc6:∀ i,i<3→Clean (upd D5 k { D5 k with left:=min (max fuse (-1)) 100 } i)∧(upd D5 k { D5 k with left:=min (max fuse (-1)) 100 } i).now.length=50:=fun i hi=>by
        by_cases ei:i=k
        · subst ei;rw [upd_same];exact ⟨⟨(HCL5.out i hi).kept,(HCL5.out i hi).wr,(HCL5.out i hi).up⟩,(HS5.out.free i hi).len⟩
        · rw [upd_other _ _ ei];exact ⟨HCL5.out i hi,(HS5.out.free i hi).len⟩
      have hn6:¬ Tells (upd D5 k { D5 k with left:=min (max fuse (-1)) 100 } k) (rowsL l t):=by
        rw [upd_same]
        exact fun h=>HNT.out h
      have hy6:∀ i,i<3→i≠k→Sound 50 (upd D5 k { D5 k with left:=min (max fuse (-1)) 100 } i) (rowsL l t):=fun i hi hik=>by
        rw [upd_other _ _ hik];exact HS5.out.sound i hi hik
      generalize (upd P5 k { P5 k with wv:=(P5 k).wv })=P6 at *
      generalize (upd D5 k { D5 k with left:=min (max fuse (-1)) 100 })=D6 at *
      have HL6:Hid (Life w1.heap.size 50 w6 P6 D6 tb so aq cq l t):=hl6
      have HY6:Hid (∀ i,i<3→i≠k→Sound 50 (D6 i) (rowsL l t)):=hy6
      have HF6:Hid (LetT V0 w6):=HS5.out.far.trans hf6
      have HB6:Hid (Below w1.heap.size V0 w6):=HS5.out.bel.trans hb6
      have HSm6:Hid (∀ i,i<3→(P6 i).B=(P i).B):=fun i hi=>(hs6 i hi).trans (HS5.out.same i hi)
      have HD6:Hid (DBox w6 w2.heap.size (dptr (P6 0)) (dptr (P6 1)) (dptr (P6 2))):=(HDr.out.far HF6.out).place HSm6.out
      have KO:Hid _:=openF_any w1.heap.size 50 P6 D6 l t k w6 hl6.good hl6.three hc6 (by omega) (by omega) hl6.vars hl6.low hk hn6 (fun i hi hik=>(hy6 i hi hik).tells)
      clear hda hna hl6 hb6 hf6 hs6 hc6 hn6 hy6 dk dl
      obtain ⟨d0,d1,d2,-⟩:=HD6.out.cells
      go_wp2_with fail
      refine Calls.mono KO.out ?_
      rintro e w7 ⟨v7,n7,m7,P7,D7,rfl,hmd⟩
      have HMD:Hid (MendTo w1.heap.size 50 w6 w7 P6 P7 D6 D7 k):=hmd
      have HD7:Hid (DBox w7 w2.heap.size (dptr (P7 0)) (dptr (P7 1)) (dptr (P7 2))):=(HD6.out.far hmd.far).place hmd.same
      clear hmd KO d0 d1 d2
      have dk:=HD7.out.at hk
      have dl:=HD7.out.lt
      go_wp2_with fail
      refine Calls.mono (diskRestart_any (P7 k) (D7 k) keep _ (HMD.out.three.disk k hk) HKP.out (by have:=HMD.out.hurt.wr;omega)) ?_
      rintro e w8 ⟨rfl,hd8,hn8⟩
      have hidle:(P6 k).wv.ownBlock=none:=by rw [(HL6.out.three.disk k hk).idle (HL6.out.up k hk).2.1];rfl
      have HU:Hid (MendUp w1.heap.size w6 w8 P6 (upd P7 k { P7 k with wv:=.slice none 0 0 }) (upd D7 k (restartD (D7 k) keep)) (rowsL l t) k):=HMD.out.up hk HL6.out.low hidle HY6.out keep hd8 hn8
      generalize (upd P7 k { P7 k with wv:=.slice none 0 0 })=P8 at *
      generalize (upd D7 k (restartD (D7 k) keep))=D8 at *
      have HF8:Hid (LetT V0 w8):=HF6.out.trans HU.out.far
      have HB8:Hid (Below w1.heap.size V0 w8):=HB6.out.trans HU.out.bel
      have HSm8:Hid (∀ i,i<3→(P8 i).B=(P i).B):=fun i hi=>(HU.out.same i hi).trans (HSm6.out i hi)
      have HD8:Hid (DBox w8 w2.heap.size (dptr (P8 0)) (dptr (P8 1)) (dptr (P8 2))):=(HDr.out.far HF8.out).place HSm8.out
      clear hd8 hn8 hidle dk dl
      obtain ⟨i1,j1,hi1,hj1,hij1,hik1,hjk1⟩:=two_others hk
      have KO2:Hid _:=open_mended w1.heap.size P8 D8 l t w8 HL6.out.good HU.out.three HU.out.free HU.out.vars (Nat.le_trans HL6.out.low HU.out.bel.size) hi1 hj1 hij1 (HU.out.sound i1 hi1 hik1).tells (HU.out.sound j1 hj1 hjk1).tells
      obtain ⟨d0,d1,d2,-⟩:=HD8.out.cells
      clear hi1 hj1 hij1 hik1 hjk1 i1 j1
      go_wp2_with fail
      refine Calls.mono KO2.out ?_
      rintro e w9 ⟨tb9,n9,P9,D9,S9,a9,c9,rfl,hsz,hm⟩
      have hn1:(n9:Int)≤1:=by have:=hm.few;omega
      have HM:Hid (Mended w1.heap.size w8 w9 P8 P9 D8 D9 tb9 S9 a9 c9 l t n9):=hm
      have HF9:Hid (LetT V0 w9):=HF8.out.trans hm.far
      have HB9:Hid (Below w.heap.size w w9):=HBr4.out.trans ((HB8.out.trans hm.bel).mono HL1.out.1)
      have HSm9:Hid (∀ i,i<3→(P9 i).B=(P i).B):=fun i hi=>(hm.same i hi).trans (HSm8.out i hi)
      have HQ9:Hid (QHere w9 w3.heap.size a3 c3 l t):=HQr.out.far HF9.out
      have HD9:Hid (DBox w9 w2.heap.size (dptr (P9 0)) (dptr (P9 1)) (dptr (P9 2))):=(HDr.out.far HF9.out).place HSm9.out
      clear hm hsz KO2 d0 d1 d2
      have keepH:Hid (∀ V,Below w9.heap.size w9 V→(V.cell? ⟨w3.heap.size,0,none⟩=some (.slice a3 l.length c3)∧V.cell? ⟨w3.heap.size,1,none⟩=some (.int .i64 t)∧V.cell? ⟨w2.heap.size,0,none⟩=some (dptr (P9 0))∧V.cell? ⟨w2.heap.size,1,none⟩=some (dptr (P9 1))∧V.cell? ⟨w2.heap.size,2,none⟩=some (dptr (P9 2)))):=fun V h=>by
        obtain ⟨q0,q1⟩:=(HQ9.out.below h).cells
        obtain ⟨d0,d1,d2,-⟩:=(HD9.out.below h).cells
        exact ⟨q0,q1,d0,d1,d2⟩
      obtain ⟨q0,q1,d0,d1,d2⟩:=keepH.out w9 (Below.refl _ _)
      go_wp2_with fail
      go_region_held3 (fun V=>V.cell? ⟨w3.heap.size,0,none⟩=some (.slice a3 l.length c3)∧V.cell? ⟨w3.heap.size,1,none⟩=some (.int .i64 t)∧V.cell? ⟨w2.heap.size,0,none⟩=some (dptr (P9 0))∧V.cell? ⟨w2.heap.size,1,none⟩=some (dptr (P9 1))∧V.cell? ⟨w2.heap.size,2,none⟩=some (dptr (P9 2)))
        (first | exact keepH.out _ (Below.drew (Below.refl _ _)) | exact keepH.out _ hbC.out | exact keepH.out _ hbB.out | exact keepH.out _ hbA.out)
        (first
          | (have _:=hbB
             go_at_call 15
             refine (all_any w1.heap.size P9 D9 a3 c3 l t _ (HM.out.life.below hbB.out).three (fun i hi=>⟨(HM.out.free i hi).up,by rw [(HM.out.free i hi).len];omega⟩) (HM.out.life.below hbB.out).vars (HM.out.life.below hbB.out).low HM.out.life.good HM.out.tells (HQ9.out.below hbB.out).files.slice).mono ?_
             rintro e wc ⟨rfl,hb⟩
             have hbC:Hid (Below w9.heap.size w9 wc):=hbB.out.trans (hb.mono hbB.out.size)
             clear hb)
          | (have _:=hbA
             go_at_call 14
             refine (sameSelf_any H8.out hfA.out (HQ9.out.below hbA.out).files).mono ?_
             rintro e wb ⟨rfl,hb⟩
             have hbB:Hid (Below w9.heap.size w9 wb):=hbA.out.trans (hb.mono hbA.out.size)
             clear hb)
          | (go_at_call 9
             refine (quilt_here P9 tb9 S9 a9 c9 l t _ (HM.out.life.below (Below.drew (Below.refl _ _))).trio H8.out).mono ?_
             rintro e wa ⟨a10,c10,rfl,hf,hb⟩
             have hbA:Hid (Below w9.heap.size w9 wa):=(Below.drew (Below.refl _ _)).trans hb
             have hfA:Hid (FilesIn wa a10 c10 l):=hf
             clear hb hf))
      rename_i hHeld
      clear hHeld
      have HE:Hid (Below w.heap.size w wc):=HB9.out.trans (hbC.out.mono HB9.out.size)
      clear keepH q0 q1 d0 d1 d2
      go_wp2
      go_ret
      exact ⟨rfl,HE.out⟩
end Go.Proofs.YtihnghnafpgdfadGreatDoor
