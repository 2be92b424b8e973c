/-
  THE WALK OF TopOrder: it returns true.
-/
import Derived.Test.YtihnghnafpgdfadGreatDoorYTrioSpoil
import Derived.Deep.RegionHeld3
import Derived.BigQuiet
namespace Go.Proofs.YtihnghnafpgdfadGreatDoor
open Go Go.RowKit Go.BigFrame
set_option linter.unusedVariables false
set_option linter.unusedSimpArgs false
def sA:Nat→Nat
  | 0=>2
  | 1=>0
  | _=>1
def sB:Nat→Nat
  | 0=>2
  | 1=>1
  | _=>0
set_option maxRecDepth 100000 in
set_option maxHeartbeats 1000000 in
theorem topOrder_any (a:Option Addr)(cap:Nat)(L:List Ac)(which:Int)(b0:Option Addr)(cb:Nat)(ts:List ByteArray)(w:World)(hm:L.length≤maxLen)(hs:ActCells w a L)(hst:Strs w b0 ts)(htl:ts.length≤maxLen)(hv:Vars w) :
    Calls Tryz.prog 5 #[.slice a L.length cap,.int .i64 which,.slice b0 ts.length cb] w fun e w'=>e=.returned (.bool true)∧Below w.heap.size w w':=by
  have HA:Hid (ActCells w a L):=hs
  have HV:Hid (VarsLo w.heap.size w):=⟨w,hv,Nat.le_refl _,Below.refl _ _⟩
  have KW:Hid _:=works_any w HV.out
  have HST:Hid (Strs w b0 ts):=hst
  clear hs hv hst
  go_enter Tryz.func5,Tryz.ntmps5
  go_wp2_with fail
  refine Calls.mono KW.out ?_
  rintro e w1 ⟨rfl,hb1⟩
  have HB1:Hid (Below w.heap.size w w1):=hb1
  have KP:Hid _:=played_any a cap L w1 hm (HA.out.below hb1) ((HV.out.go hb1).mono hb1.size)
  clear hb1 KW
  go_wp2_with fail
  refine Calls.mono KP.out ?_
  rintro e w2 ⟨hb2,P,D,tb,so,aq,cq,l,t,v,ok,rfl,hok,hw⟩
  obtain ⟨W,hW⟩:∃ y,y=w2.alloc (.cells #[dptr (P 0),dptr (P 1),dptr (P 2)] 26):=⟨_,rfl⟩
  have hb3:Below w2.heap.size w2 W:=by rw [hW];exact (Below.refl _ _).alloc (Nat.le_refl _) _
  have HB:Hid (Below w.heap.size w W):=HB1.out.trans ((hb2.trans (hb3.mono hb2.size)).mono HB1.out.size)
  have HL1:Hid (w.heap.size≤w1.heap.size∧w1.heap.size≤W.heap.size):=⟨HB1.out.size,Nat.le_trans hb2.size hb3.size⟩
  have HD:Hid (DBox W w2.heap.size (dptr (P 0)) (dptr (P 1)) (dptr (P 2))):=by rw [hW];exact DBox.new w2 _ _ _
  have HW:Hid (Well w1.heap.size W P D tb so aq cq l t):=hw.below hb3
  have HK:Hid (ok=true→v=.pointer (some ⟨tb,0,none⟩)):=hok
  have H8:Hid (l.length≤8):=hw.life.good.files.few
  clear hb2 hb3 hok hw KP
  go_upto_region 5 with fail
  rw [← hW]
  clear hW
  cases ok with
  | false =>
    go_wp2
    go_ret
    exact ⟨rfl,HB.out⟩
  | true =>
  obtain rfl:=HK.out rfl
  have KF:Hid _:=fewTexts_any b0 cb ts W htl (HST.out.below HB.out)
  go_wp2_with fail
  refine Calls.mono KF.out ?_
  rintro e w3 ⟨⟨fb,rfl,hfb⟩,hw3⟩
  rw [hw3]
  clear hw3 w3 KF
  cases fb with
  | false =>
    go_wp2
    go_ret
    exact ⟨rfl,HB.out⟩
  | true =>
  have HFT:Hid (FewT ts):=hfb rfl
  clear hfb
  have KQ:Hid _:=quilt_here P tb so aq cq l t W HW.out.life.trio H8.out
  go_wp2_with fail
  refine Calls.mono KQ.out ?_
  rintro e w3 ⟨a3,c3,rfl,hf3,hb3⟩
  obtain ⟨W4,hW4⟩:∃ y,y=w3.alloc (.cells #[.slice a3 l.length c3,.int .i64 t] 32):=⟨_,rfl⟩
  have hb4:Below w3.heap.size w3 W4:=by rw [hW4];exact (Below.refl _ _).alloc (Nat.le_refl _) _
  have hb34:Below W.heap.size W W4:=hb3.trans (hb4.mono hb3.size)
  have HQ:Hid (QHere W4 w3.heap.size a3 c3 l t):=by rw [hW4];exact QHere.new hf3
  have HB4:Hid (Below w.heap.size w W4):=HB.out.trans (hb34.mono HB.out.size)
  have HD4:Hid (DBox W4 w2.heap.size (dptr (P 0)) (dptr (P 1)) (dptr (P 2))):=HD.out.below hb34
  have HW4:Hid (Well w1.heap.size W4 P D tb so aq cq l t):=HW.out.below hb34
  clear hf3 hb3 hb4 hb34 KQ
  go_upto_region 8 with fail
  rw [← hW4]
  clear hW4
  obtain ⟨k,hk,hke⟩:=place_of which 3 (by omega)
  have hke3:(bits .and .i64 which 1023).tmod 3=(k:Int):=hke
  have hkz:(k:Int)<3:=by omega
  have hkz0:(0:Int)≤(k:Int):=by omega
  have dk:=HD4.out.at hk
  have dl:=HD4.out.lt
  have KS:Hid _:=spoil_any (P k) (D k) 0 b0 cb ts W4 (HW4.out.life.three.disk k hk) (HW4.out.free k hk) HFT.out.1 HFT.out.2 (fun V hV=>HST.out.below (HB4.out.trans (hV.below (fun j hj=>Nat.le_trans HL1.out.1 (Nat.le_trans (HW4.out.life.three.lo k hk) (own_low (HW4.out.life.three.disk k hk) j hj))) HB4.out.size)))
  clear hke
  go_wp2_with fail
  refine Calls.mono KS.out ?_
  rintro e w5 ⟨rfl,d5,hsp,hcl,-⟩
  have HS5:Hid (Spoilt w1.heap.size W4 w5 P (upd P k { P k with wv:=.slice none 0 0 }) (upd D k d5) tb so aq cq l t k):=HW4.out.spoilt hk hsp hcl
  generalize (upd P k { P k with wv:=.slice none 0 0 })=P5 at *
  generalize (upd D k d5)=D5 at *
  have HB5:Hid (Below w.heap.size w w5):=HB4.out.trans (HS5.out.bel.mono HL1.out.1)
  have HQ5:Hid (QHere w5 w3.heap.size a3 c3 l t):=HQ.out.far HS5.out.far
  have HD5:Hid (DBox w5 w2.heap.size (dptr (P5 0)) (dptr (P5 1)) (dptr (P5 2))):=(HD4.out.far HS5.out.far).place HS5.out.same
  clear hsp hcl KS dk dl hke3
  obtain ⟨i,j,hi,hj,hij,hik,hjk⟩:=two_others hk
  have sig:∀ i,i<3→∃ j,j<3∧sA j=i:=fun i hi=>by
    rcases (show i=0∨i=1∨i=2 by omega) with rfl | rfl | rfl
    · exact ⟨1,by omega,rfl⟩
    · exact ⟨2,by omega,rfl⟩
    · exact ⟨0,by omega,rfl⟩
  obtain ⟨i2,hi2,ei⟩:=sig i hi
  obtain ⟨j2,hj2,ej⟩:=sig j hj
  have hA3:∀ i,i<3→sA i<3:=fun i hi=>by
    rcases (show i=0∨i=1∨i=2 by omega) with rfl | rfl | rfl <;> decide
  have hB3:∀ i,i<3→sB i<3:=fun i hi=>by
    rcases (show i=0∨i=1∨i=2 by omega) with rfl | rfl | rfl <;> decide
  have hAi:∀ i j,i<3→j<3→i≠j→sA i≠sA j:=fun i j hi hj hij=>by
    rcases (show i=0∨i=1∨i=2 by omega) with rfl | rfl | rfl <;> rcases (show j=0∨j=1∨j=2 by omega) with rfl | rfl | rfl <;> first | exact absurd rfl hij | decide
  have hBi:∀ i j,i<3→j<3→i≠j→sB i≠sB j:=fun i j hi hj hij=>by
    rcases (show i=0∨i=1∨i=2 by omega) with rfl | rfl | rfl <;> rcases (show j=0∨j=1∨j=2 by omega) with rfl | rfl | rfl <;> first | exact absurd rfl hij | decide
  have KO0:=open_mended w1.heap.size (fun i=>P5 (sA i)) (fun i=>D5 (sA i)) l t w5 HS5.out.life.good (HS5.out.life.three.perm sA hA3 hAi) (fun i hi=>HS5.out.free _ (hA3 i hi)) HS5.out.life.vars HS5.out.life.low hi2 hj2 (fun e=>hij (by rw [← ei,← ej,e])) (by show Tells (D5 (sA i2)) _;rw [ei];exact (HS5.out.sound i hi hik).tells) (by show Tells (D5 (sA j2)) _;rw [ej];exact (HS5.out.sound j hj hjk).tells)
  have KO:Hid (Calls Tryz.prog 12 #[.agg #[dptr (P5 2),dptr (P5 0),dptr (P5 1)]] w5 _):=KO0
  have HAB:Hid ((∀ i,i<3→sB i<3)∧(∀ i j,i<3→j<3→i≠j→sB i≠sB j)):=⟨hB3,hBi⟩
  obtain ⟨d0,d1,d2,-⟩:=HD5.out.cells
  have dl5:=HD5.out.lt
  clear hi hj hij hik hjk i j sig i2 hi2 ei j2 hj2 ej hA3 hB3 hAi hBi KO0
  go_wp2_with fail
  refine Calls.mono KO.out ?_
  rintro e w6 ⟨tb6,n,P6,D6,S6,a6,c6,rfl,hsz,hm⟩
  have hn1:(n:Int)≤1:=by have:=hm.few;omega
  have HM:Hid (Mended w1.heap.size w5 w6 (fun i=>P5 (sA i)) P6 (fun i=>D5 (sA i)) D6 tb6 S6 a6 c6 l t n):=hm
  have HB6:Hid (Below w.heap.size w w6):=HB5.out.trans (hm.bel.mono HL1.out.1)
  have HQ6:Hid (QHere w6 w3.heap.size a3 c3 l t):=HQ5.out.far hm.far
  have hd6:=HD5.out.far hm.far
  have e0:dptr (P6 1)=dptr (P5 0):=by unfold dptr;rw [hm.same 1 (by omega)];rfl
  have e1:dptr (P6 2)=dptr (P5 1):=by unfold dptr;rw [hm.same 2 (by omega)];rfl
  have e2:dptr (P6 0)=dptr (P5 2):=by unfold dptr;rw [hm.same 0 (by omega)];rfl
  rw [← e0,← e1,← e2] at hd6
  have HD6:Hid (DBox w6 w2.heap.size (dptr (P6 1)) (dptr (P6 2)) (dptr (P6 0))):=hd6
  have KO1:=open_mended w1.heap.size (fun i=>P6 (sB i)) (fun i=>D6 (sB i)) l t w6 hm.life.good (hm.life.three.perm sB HAB.out.1 HAB.out.2) (fun i hi=>hm.free _ (HAB.out.1 i hi)) hm.life.vars hm.life.low (i:=0) (j:=1) (by omega) (by omega) (by omega) (hm.tells _ (HAB.out.1 0 (by omega))) (hm.tells _ (HAB.out.1 1 (by omega)))
  have KO2:Hid (Calls Tryz.prog 12 #[.agg #[dptr (P6 2),dptr (P6 1),dptr (P6 0)]] w6 _):=KO1
  clear hm hsz KO KO1 d0 d1 d2 dl5 hd6 e0 e1 e2
  obtain ⟨d0,d1,d2,-⟩:=HD6.out.cells
  have dl6:=HD6.out.lt
  go_wp2_with fail
  refine Calls.mono KO2.out ?_
  rintro e w7 ⟨tb7,m,P7,D7,S7,a7,c7,rfl,hsz,hm⟩
  have hm0:m=0:=hm.none.2 (fun i hi=>HM.out.tells _ (HAB.out.1 i hi))
  subst hm0
  have HT7:Hid (TrioAt w7 tb7 P7 S7 a7 c7 l t):=hm.life.trio
  have HT6:Hid (TrioAt w7 tb6 P6 S6 a6 c6 l t):=⟨hm.trios _ _ _ (fun e=>by have h1:=HM.out.life.trio.lt;have h2:=hsz.2;omega) HM.out.life.trio.blk,HM.out.life.trio.files.keep (fun k C fr e=>(hm.far k C _ fr e (.inl ⟨by decide,by decide,by decide,by decide,by decide,by decide⟩)).trans e.symm)⟩
  have HB7:Hid (Below w.heap.size w w7):=HB6.out.trans (hm.bel.mono HL1.out.1)
  have HQ7:Hid (QHere w7 w3.heap.size a3 c3 l t):=HQ6.out.far hm.far
  clear hm hsz KO2 d0 d1 d2 dl6
  have keepH:Hid (∀ V,Below w7.heap.size w7 V→(V.cell? ⟨w3.heap.size,0,none⟩=some (.slice a3 l.length c3)∧V.cell? ⟨w3.heap.size,1,none⟩=some (.int .i64 t))):=fun V h=>(HQ7.out.below h).cells
  obtain ⟨q0,q1⟩:=keepH.out w7 (Below.refl _ _)
  go_wp2_with fail
  go_region_held3 (fun V=>V.cell? ⟨w3.heap.size,0,none⟩=some (.slice a3 l.length c3)∧V.cell? ⟨w3.heap.size,1,none⟩=some (.int .i64 t))
    (first | exact keepH.out _ (Below.drew (Below.refl _ _)) | exact keepH.out _ hbD.out | exact keepH.out _ hbC.out | exact keepH.out _ hbB.out | exact keepH.out _ hbA.out)
    (first
      | (have _:=hbC
         go_at_call 14
         refine (sameSelf_any H8.out hfC.out (HQ7.out.below hbC.out).files).mono ?_
         rintro e wd ⟨rfl,hb⟩
         have hbD:Hid (Below w7.heap.size w7 wd):=hbC.out.trans (hb.mono hbC.out.size)
         clear hb)
      | (have _:=hbB
         go_at_call 9
         refine (quilt_here P7 tb7 S7 a7 c7 l t _ (HT7.out.below hbB.out) H8.out).mono ?_
         rintro e wc ⟨a9,c9,rfl,hf,hb⟩
         have hbC:Hid (Below w7.heap.size w7 wc):=hbB.out.trans (hb.mono hbB.out.size)
         have hfC:Hid (FilesIn wc a9 c9 l):=hf
         clear hb hf)
      | (have _:=hbA
         go_at_call 14
         refine (sameSelf_any H8.out hfA.out (HQ7.out.below hbA.out).files).mono ?_
         rintro e wb ⟨rfl,hb⟩
         have hbB:Hid (Below w7.heap.size w7 wb):=hbA.out.trans (hb.mono hbA.out.size)
         clear hb)
      | (go_at_call 9
         refine (quilt_here P6 tb6 S6 a6 c6 l t _ (HT6.out.below (Below.drew (Below.refl _ _))) H8.out).mono ?_
         rintro e wa ⟨a9,c9,rfl,hf,hb⟩
         have hbA:Hid (Below w7.heap.size w7 wa):=(Below.drew (Below.refl _ _)).trans hb
         have hfA:Hid (FilesIn wa a9 c9 l):=hf
         clear hb hf))
  rename_i hHeld
  clear hHeld
  have HE:Hid (Below w.heap.size w wd):=HB7.out.trans (hbD.out.mono HB7.out.size)
  go_wp2
  go_ret
  exact ⟨rfl,HE.out⟩
end Go.Proofs.YtihnghnafpgdfadGreatDoor
