/- What the proofs stand on, part 38: TrioDo, TrioDoTrio, TrioAll, TrioPlayed, TrioPlayed2, TrioLawKit. -/
import Derived.Deep.RegionHeld3
import Derived.BigQuiet
import Derived.Test.YtihnghnafpgdfadGreatDoorRk35
import Derived.Test.YtihnghnafpgdfadGreatDoorRk36
import Derived.Test.YtihnghnafpgdfadGreatDoorRk37
import Derived.Test.YtihnghnafpgdfadGreatDoorRk10
set_option linter.unusedVariables false
set_option linter.unusedSimpArgs false
namespace Go.Proofs.YtihnghnafpgdfadGreatDoor
open Go Go.RowKit Go.BigFrame
theorem idx3b (B:Nat→Nat)(k:Nat)(hk:k<3)(w:World):(Instr.index 70 (.agg #[.pointer (some ⟨B 0,0,none⟩),.pointer (some ⟨B 1,0,none⟩),.pointer (some ⟨B 2,0,none⟩)]) (.int .i64 k)).run Tryz.prog w=.ok (.pointer (some ⟨B k,0,none⟩)) w:=by
  rcases (show k=0∨k=1∨k=2 by omega) with rfl | rfl | rfl
  · show _=_;kernel_rfl
  · show _=_;kernel_rfl
  · show _=_;kernel_rfl
set_option maxRecDepth 100000 in
set_option maxHeartbeats 400000 in
theorem trioDo_any (lo N cp:Nat) (P:Nat→Dp) (D:Nat→Dk) (tb:Nat) (so:Nat→Option Nat) (a:Option Addr) (cap:Nat) (l:List Fi) (t:Int) (x:Ac) (w:World) (hN:42≤N) (hN2:N≤60) (hl:Life lo N w P D tb so a cap l t) (hn:x.s.size≤maxLen) (hx:x.t.size≤maxLen) (hb:AcBox w cp x) :
    Calls Tryz.prog 48 #[.pointer (some ⟨tb,0,none⟩),.func (.func 49) #[] #[.pointer (some ⟨cp,0,none⟩)]] w fun e w'=>DoSays lo N w P D tb l t (doR l t x) e w':=by
  have HLf:Hid (Life lo N w P D tb so a cap l t):=hl
  have HA:Hid (AcBox w cp x):=hb
  have HGQ:Hid (GoodQ l t):=hl.good
  have HGD:Hid (((doR l t x).n=0∧GoodQ (doR l t x).l (doR l t x).t)∨(0<(doR l t x).n∧(doR l t x).n≤100∧(doR l t x).l=[]∧(doR l t x).t=0)):=do_good hl.good x
  have HFEW:Hid ((doR l t x).n=0→GoodQ (doR l t x).l (doR l t x).t→(deedOf l t (doR l t x)).length≤3):=fun h0 hr=>do_changes hl.good h0 hr
  have KQ:Hid _:=trioQuilt_any P tb so a cap l t w hl.trio (by have:=hl.good.files.few;omega)
  clear hl hb
  go_enter Tryz.func48,Tryz.ntmps48
  go_wp2_with fail
  refine Calls.mono KQ.out ?_
  rintro e w1 ⟨a1,cap1,rfl,ho1,hb1⟩
  have HB1:Hid (Below w.heap.size w w1):=hb1
  have KD:Hid _:=done_any cp a1 cap1 l t x w1 HGQ.out (FilesIn.of_owns ho1).slice hn hx (HA.out.below hb1)
  clear ho1 hb1 KQ
  go_wp2_with fail
  refine Calls.mono KD.out ?_
  rintro e w2 ⟨a2,cap2,rfl,hf2,hb2⟩
  generalize hr:doR l t x=r at *
  have HRR:Hid (doR l t x=r):=hr
  clear hr
  obtain ⟨W3,hW3⟩:∃ y,y=w2.alloc (.cells #[.slice a2 r.l.length cap2,.int .i64 r.t] 32):=⟨_,rfl⟩
  have hb3:Below w2.heap.size w2 W3:=by rw [hW3];exact (Below.refl _ _).alloc (Nat.le_refl _) _
  have HB2:Hid (Below w.heap.size w w2):=HB1.out.trans (hb2.mono HB1.out.size)
  have HB3:Hid (Below w.heap.size w W3):=HB2.out.trans (hb3.mono HB2.out.size)
  have HX3:Hid (W3.heap[w2.heap.size]?=some (.cells #[.slice a2 r.l.length cap2,.int .i64 r.t] 32 (0,0))):=by rw [hW3];exact World.alloc_heap_new w2 _
  have HF3:Hid (FilesIn W3 a2 cap2 r.l):=hf2.below hb3
  have HL3:Hid (Life lo N W3 P D tb so a cap l t):=HLf.out.below HB3.out
  have HLO:Hid (lo≤w.heap.size):=HLf.out.low
  clear hf2 hb2 hb3 KD
  go_upto_region 2 with fail
  rw [← hW3]
  clear hW3
  rcases HGD.out with ⟨hn0,hgq⟩ | ⟨hn1,hn2,hl0,ht0⟩
  case inr =>
    have HE:Hid (DoSays lo N w P D tb l t r (.returned (errV r.n)) W3):=.inl ⟨by omega,rfl,HB3.out⟩
    have hne:¬ r.n=0:=by omega
    rw [errV_pos hne] at HE
    rw [errV_pos hne]
    clear hl0 ht0
    go_wp2
    go_ret
    rw [HRR.out]
    exact HE.out
  have HN0:Hid (r.n=0):=hn0
  have HGR:Hid (GoodQ r.l r.t):=hgq
  rw [errV_zero hn0]
  clear hn0 hgq HGD
  have hl8:=HGQ.out.files.few
  have hr8:=HGR.out.files.few
  have HLA:Hid ((rowsL l t).length≤100∧(rowsL r.l r.t).length≤100):=by
    have h1:=rowsL_length l t
    have h2:=rowsL_length r.l r.t
    exact ⟨by omega,by omega⟩
  have keepH:Hid (∀ W,Below W3.heap.size W3 W→(W.cell? ⟨tb,6,none⟩=some (.slice a l.length cap)∧W.cell? ⟨tb,7,none⟩=some (.int .i64 t)∧W.cell? ⟨w2.heap.size,0,none⟩=some (.slice a2 r.l.length cap2)∧W.cell? ⟨w2.heap.size,1,none⟩=some (.int .i64 r.t)∧Hid (Below W3.heap.size W3 W))):=fun W h=>by
    have hc:=(HL3.out.trio.below h).cells
    have hx:W.heap[w2.heap.size]?=some (.cells #[.slice a2 r.l.length cap2,.int .i64 r.t] 32 (0,0)):=(h.block _ (Array.getElem?_eq_some_iff.1 HX3.out).1).trans HX3.out
    refine ⟨hc.q0,hc.q1,?_,?_,h⟩ <;> (rw [cell_block hx];rfl)
  have krA:Hid (∀ W,Below W3.heap.size W3 W→Calls Tryz.prog 75 #[.agg #[.slice a l.length cap,.int .i64 t]] W (RowsOut W (rowsL l t))):=fun W h =>
    imageRows_any a cap l t W HGQ.out (HL3.out.below h).trio.files.cells (HL3.out.below h).vars.vars
  have krB:Hid (∀ W,Below W3.heap.size W3 W→Calls Tryz.prog 75 #[.agg #[.slice a2 r.l.length cap2,.int .i64 r.t]] W (RowsOut W (rowsL r.l r.t))):=fun W h =>
    imageRows_any a2 cap2 r.l r.t W HGR.out (HF3.out.below h).cells (HL3.out.below h).vars.vars
  obtain ⟨q0,q1,y0,y1,-⟩:=keepH.out W3 (Below.refl _ _)
  have htl:=HL3.out.trio.lt
  have hxl:w2.heap.size<W3.heap.size:=(Array.getElem?_eq_some_iff.1 HX3.out).1
  go_upto_region 4 with fail
  go_region_held3 (fun W=>W.cell? ⟨tb,6,none⟩=some (.slice a l.length cap)∧W.cell? ⟨tb,7,none⟩=some (.int .i64 t)∧W.cell? ⟨w2.heap.size,0,none⟩=some (.slice a2 r.l.length cap2)∧W.cell? ⟨w2.heap.size,1,none⟩=some (.int .i64 r.t)∧Hid (Below W3.heap.size W3 W))
    (first | exact keepH.out _ (Below.drew (Below.refl _ _)) | exact keepH.out _ hbC.out | exact keepH.out _ hbB.out | exact keepH.out _ hbA.out)
    (first
      | (have _:=hbB
         go_at_call 74
         refine (changes_any pa pb na nb (rowsL l t) (rowsL r.l r.t) _ HLA.out.1 HLA.out.2 (hcA.out.below hbAB.out) hcB.out hlA.out hlB.out).mono ?_
         rintro e wc ⟨v,rfl,hoC,hb⟩
         have hbC:Hid (Below W3.heap.size W3 wc):=hbB.out.trans (hb.mono hbB.out.size)
         have hOC:Hid (OwnsC wc W3.heap.size v (deedOf l t r)):=OwnsC.base hoC hbB.out.size
         clear hb hoC)
      | (have _:=hbA
         go_at_call 75
         refine (krB.out _ hbA.out).mono ?_
         rintro e wb ⟨pb,nb,rfl,hcc,hle,_,hb⟩
         have hbB:Hid (Below W3.heap.size W3 wb):=hbA.out.trans (hb.mono hbA.out.size)
         have hbAB:Hid (Below wa.heap.size wa wb):=hb
         have hcB:Hid (CC wb pb (rowsL r.l r.t)):=hcc
         have hlB:Hid ((rowsL r.l r.t).length≤nb):=hle
         clear hb hcc hle)
      | (go_at_call 75
         refine (krA.out _ (Below.drew (Below.refl _ _))).mono ?_
         rintro e wa ⟨pa,na,rfl,hcc,hle,_,hb⟩
         have hbA:Hid (Below W3.heap.size W3 wa):=(Below.drew (Below.refl _ _)).trans hb
         have hcA:Hid (CC wa pa (rowsL l t)):=hcc
         have hlA:Hid ((rowsL l t).length≤na):=hle
         clear hb hcc hle))
  rename_i hHeld
  clear hHeld
  obtain ⟨ca,cc,hv,hcc,hcn,hcm,-⟩:=OwnsC.files hOC.out
  subst hv
  have HLC:Hid (Life lo N wc P D tb so a cap l t):=HL3.out.below hbC.out
  have HBC:Hid (Below w.heap.size w wc):=HB3.out.trans (hbC.out.mono HB3.out.size)
  have HFC:Hid (FilesIn wc a2 cap2 r.l):=HF3.out.below hbC.out
  have HXC:Hid (wc.heap[w2.heap.size]?=some (.cells #[.slice a2 r.l.length cap2,.int .i64 r.t] 32 (0,0))):=(hbC.out.block _ hxl).trans HX3.out
  have HDC:Hid (Deed lo wc ca (deedOf l t r)):=OwnsC.deed hOC.out
  have HCN:Hid (ca=none→cc=0):=hcn
  have HC3:Hid ((deedOf l t r).length≤3):=HFEW.out HN0.out HGR.out
  have KL:Hid _:=look_any lo P D tb so a cap l t wc HLC.out.three (fun i hi=>⟨(HLC.out.up i hi).1,by rw [(HLC.out.up i hi).2.2];exact hN⟩) HLC.out.vars HLC.out.low HLC.out.trio (by omega)
  clear hcc hcn hcm hOC hcA hcB hlA hlB hbA hbB hbAB keepH krA krB q0 q1 y0 y1
  go_wp2_with fail
  refine Calls.mono KL.out ?_
  rintro e w4 ⟨s,c,vw,rfl,hon,hrd,hta,htc⟩
  have hlk:=looked (a:=a) (cap:=cap) (lo2:=wc.heap.size) hN HLC.out.low HGQ.out (fun i hi=>(HLC.out.up i hi).2.2) hrd (fun i hi=>(HLC.out.mem i hi).far (fun k C T fr e hT=>touch_far HLC.out.trio htc k C T fr e (rd_far (.inl hT))))
  obtain ⟨B,hB⟩:=choose3 hlk
  obtain ⟨S,hS⟩:=choose3 hB
  obtain ⟨G,hG⟩:=choose3 hS
  clear hlk hB hS
  have HST:Hid (∀ i,i<3→Stands N (P i) (D i) (rowsL l t) (S i) (G i)):=fun i hi=>⟨(hG i hi).2.1.rows,(hG i hi).2.1.sd,(hG i hi).2.1.used,(hG i hi).2.1.gf,(hG i hi).2.2⟩
  have HSB:Hid (∀ i,i<3→(S i).dB=(P i).B∧(G i).dB=(P i).B):=fun i hi=>⟨(hG i hi).2.1.dB,by rw [(hG i hi).2.1.gf]⟩
  have HT4:Hid (TrioAt w4 tb P (fun i=>some (B i)) a cap l t):=hta.stores (fun i hi=>(hG i hi).1)
  have hb4:Below lo wc w4:=htc.below (fun k hk=>by rw [hk];exact HLC.out.tbl) HLC.out.low
  have HLO4:Hid (lo≤w4.heap.size):=Nat.le_trans HLC.out.low htc.size
  have HX4:Hid (w4.heap[w2.heap.size]?=some (.cells #[.slice a2 r.l.length cap2,.int .i64 r.t] 32 (0,0))):=(touch_far HLC.out.trio htc _ _ _ _ HXC.out (by decide)).trans HXC.out
  have HC0:Hid (Com lo N w4 w4 P P D D tb (fun i=>some (B i)) a cap l t r.l a2 cap2 B S G ca (deedOf l t r) 0) :=
    ⟨HLC.out.three.farT (fun k C T fr e hT=>touch_far HLC.out.trio htc k C T fr e (rd_far (.inl hT))),fun _ _=>rfl,HT4.out,HFC.out.keep (fun k C fr e=>touch_far HLC.out.trio htc k C _ fr e (by decide)),fun i _ h=>absurd h (Nat.not_lt_zero _),fun i hi _=>⟨rfl,rfl,(hG i hi).2.1.own⟩,HDC.out.touch htc (fun k hk=>by rw [hk];exact ⟨HLC.out.tbl,_,_,_,HLC.out.trio.blk,by decide⟩),HLC.out.vars.go hb4,Nat.le_refl _,fun _ _ _ _ _ _=>rfl,Below.refl _ _,LetT.refl _,fun _ _ _ hb=>.inl hb⟩
  have HBL4:Hid (Below lo w w4∧LetT w w4):=⟨(HBC.out.mono HLO.out).trans hb4,(LetT.of_below HBC.out).trans (LetT.of_trio HLC.out.trio (fun j hj hne=>htc.block j hj hne))⟩
  have hcs4:=HT4.out.cells
  have s0:w4.cell? ⟨tb,3,none⟩=some (.pointer (some ⟨B 0,0,none⟩)):=hcs4.s0
  have s1:w4.cell? ⟨tb,4,none⟩=some (.pointer (some ⟨B 1,0,none⟩)):=hcs4.s1
  have s2:w4.cell? ⟨tb,5,none⟩=some (.pointer (some ⟨B 2,0,none⟩)):=hcs4.s2
  have htl4:=HT4.out.lt
  clear hon hrd hta htc hG hb4 hcs4 KL
  go_upto_region 6 with fail
  go_wp2_with fail
  clear s0 s1 s2
  go_loopg [35] 4 (fun kx vi wr=>∃ (k:Nat) (P':Nat→Dp) (D':Nat→Dk),vi=.int .i64 k∧k≤3∧3 - k≤kx∧Hid (Com lo N w4 wr P P' D D' tb (fun i=>some (B i)) a cap l t r.l a2 cap2 B S G ca (deedOf l t r) k))
  case atStart=>exact ⟨0,P,D,rfl,by omega,by omega,HC0⟩
  case round =>
    obtain ⟨k,P',D',rfl,hk,hkx,HCM⟩:=hrel
    by_cases hlt:k<3
    · have hltz:(k:Int)<3:=by omega
      have hidx:=idx3b B k hlt
      obtain ⟨r1,r2,r3⟩:=HCM.out.rest k hlt (Nat.le_refl _)
      have hdk:=HCM.out.three.disk k hlt
      have hlk:=HCM.out.three.lo k hlt
      rw [r1,r2] at hdk
      rw [r2] at hlk
      obtain ⟨k1,k2,k3,k4,k5⟩:=HST.out k hlt
      have HLW:Hid (lo≤wr.heap.size):=Nat.le_trans HLO4.out HCM.out.size
      have KC:Hid _:=commit_call hN hN2 hdk hlk r3 (HSB.out k hlt).1 k4 k3 k2 k1 HGQ.out (HLC.out.up k hlt).2.2 (HLC.out.up k hlt).2.1 HCM.out.chg HCN.out (by have:=HC3.out;omega)
      clear r1 r2 r3 hdk hlk k1 k2 k3 k4 k5
      go_wp2_with fail
      refine Calls.mono KC.out ?_
      rintro e w5 hcs
      obtain ⟨P2,t3,tB,tv,tb5,tl5,tw,tn⟩:=HCM.out.step hlt HLW.out HSB.out (HLC.out.up k hlt).2.1 hcs
      have HNX:Hid _:=tn
      have HTH:Hid (Three lo w5 P2 (upd D' k (commitC (D k) (S k) (G k) (deedOf l t r)).d)∧(∀ i,i<3→(P2 i).B=(P i).B)∧VarsLo lo w5∧Below lo w w5∧LetT w w5∧(∀ i,i<3→∀ b,(P2 i).wv.ownBlock=some b→(P i).wv.ownBlock=some b∨w.heap.size≤b)):=⟨t3,tB,tv,HBL4.out.1.trans (HCM.out.bel.trans tb5),(HBL4.out.2.trans HCM.out.far).trans tl5,fun i hi b hb=>(tw i hi b hb).imp_right (Nat.le_trans HBL4.out.1.size)⟩
      obtain ⟨he,-⟩:=hcs
      subst he
      clear t3 tB tv tb5 tl5 tw tn KC
      by_cases h0:(commitC (D k) (S k) (G k) (deedOf l t r)).e=0
      · have HCN5:Hid (Com lo N w4 w5 P P2 D (upd D' k (commitC (D k) (S k) (G k) (deedOf l t r)).d) tb (fun i=>some (B i)) a cap l t r.l a2 cap2 B S G ca (deedOf l t r) (k+1)):=HNX.out h0
        rw [errV_zero h0]
        clear h0 HNX
        go_wp2
        go_roundg (3 - (k+1))
        case measure=>omega
        case rel=>exact ⟨k+1,P2,_,by go_num,by omega,Nat.le_refl _,HCN5⟩
      · have HE:Hid (DoSays lo N w P D tb l t r (.returned (errV (commitC (D k) (S k) (G k) (deedOf l t r)).e)) w5) :=
          .inr ⟨HN0.out,HGR.out,⟨HTH.out.2.2.2.1,HTH.out.2.2.2.2.1⟩,S,G,HST.out,.inr ⟨k,hlt,fun i hi=>(HCM.out.done i (by omega) hi).1,h0,rfl,P2,_,HTH.out.1,HTH.out.2.1,HTH.out.2.2.1,HTH.out.2.2.2.2.2,fun i hi=>by
            by_cases e1:i=k
            · subst e1;rw [upd_same,if_pos (Nat.le_refl _)]
            · rw [upd_other _ _ e1]
              by_cases e2:i≤k
              · rw [if_pos e2];exact (HCM.out.done i hi (by omega)).2.1
              · rw [if_neg e2];exact (HCM.out.rest i hi (by omega)).1⟩⟩
        rw [errV_pos h0] at HE
        rw [errV_pos h0]
        generalize (commitC (D k) (S k) (G k) (deedOf l t r)).e=n at *
        clear HNX
        go_wp2
        go_ret
        rw [HRR.out]
        exact HE.out
    · have hk3:k=3:=by omega
      subst hk3
      obtain ⟨-,-,-,-,-,-,q0,q1,qf⟩:=HCM.out.trio.cells
      have hx:wr.heap[w2.heap.size]?=some (.cells #[.slice a2 r.l.length cap2,.int .i64 r.t] 32 (0,0)):=(HCM.out.lets _ _ _ _ HX4.out ⟨by decide,by decide,by decide,by decide,by decide⟩).trans HX4.out
      have x0:wr.cell? ⟨w2.heap.size,0,none⟩=some (.slice a2 r.l.length cap2):=by rw [cell_block hx];rfl
      have x1:wr.cell? ⟨w2.heap.size,1,none⟩=some (.int .i64 r.t):=by rw [cell_block hx];rfl
      have f6:=qf 6
      have f7:=qf 7
      have tlt:=HCM.out.trio.lt
      have HLF:Hid (Life lo N ((wr.setCell ⟨tb,6,none⟩ (.slice a2 r.l.length cap2)).setCell ⟨tb,7,none⟩ (.int .i64 r.t)) P' D' tb (fun i=>some (B i)) a2 cap2 r.l r.t):=HCM.out.life HGQ.out HGR.out HLO4.out HLC.out.tbl (fun i hi=>(HLC.out.up i hi).2.2) HST.out
      have HE:Hid (DoSays lo N w P D tb l t r (.returned .nilIface) ((wr.setCell ⟨tb,6,none⟩ (.slice a2 r.l.length cap2)).setCell ⟨tb,7,none⟩ (.int .i64 r.t))) :=
        .inr ⟨HN0.out,HGR.out,⟨((HBL4.out.1.trans HCM.out.bel).setCell HLC.out.tbl _).setCell HLC.out.tbl _,(HBL4.out.2.trans HCM.out.far).trans (LetT.of_trio HCM.out.trio (fun j _ hj=>(Below.heap_setCell _ _ _ _ hj).trans (Below.heap_setCell _ _ _ _ hj)))⟩,S,G,HST.out,.inl ⟨rfl,fun i hi=>(HCM.out.done i hi hi).1,P',D',_,_,_,HLF.out,HCM.out.same,fun i hi=>(HCM.out.done i hi hi).2.1⟩⟩
      clear hx qf
      go_wp2
      go_ret
      rw [HRR.out]
      exact HE.out
theorem AcBox.new (w:World)(x:Ac)(ty:TypeId):AcBox (w.alloc (.cells #[.string x.kind,.string x.s,.string x.t,.int .i64 x.n,.int .u64 x.k,.slice x.ca x.cl.length x.cc] ty)) w.heap.size x :=
  ⟨by simp [go_sem],by simp [go_sem],by simp [go_sem],by simp [go_sem],by simp [go_sem],by simp [go_sem]⟩
set_option maxRecDepth 100000 in
set_option maxHeartbeats 1000000 in
theorem doTrio_any (lo:Nat)(P:Nat→Dp)(D:Nat→Dk)(tb:Nat)(so:Nat→Option Nat)(a:Option Addr)(cap:Nat)(l:List Fi)(t:Int)(x:Ac)(w:World)(hl:Life lo 50 w P D tb so a cap l t)(hn:x.s.size≤maxLen)(hx:x.t.size≤maxLen) :
    Calls Tryz.prog 25 #[.pointer (some ⟨tb,0,none⟩),x.v] w fun e w'=>DoSays lo 50 w P D tb l t (doR l t x) e w':=by
  have hmf:∀ (fn:Fn) (first cap:Array Value) (w:World),(Instr.makeFunc fn first cap).run Tryz.prog w=.ok (.func fn first cap) w:=fun _ _ _ _=>rfl
  obtain ⟨W,hW⟩:∃ y,y=w.alloc (.cells #[.string x.kind,.string x.s,.string x.t,.int .i64 x.n,.int .u64 x.k,.slice x.ca x.cl.length x.cc] 66):=⟨_,rfl⟩
  have hb:Below w.heap.size w W:=by rw [hW];exact (Below.refl _ _).alloc (Nat.le_refl _) _
  have HB:Hid (Below w.heap.size w W):=hb
  have HLO:Hid (lo≤w.heap.size):=hl.low
  have KD:Hid _:=trioDo_any lo 50 w.heap.size P D tb so a cap l t x W (by omega) (by omega) (hl.below hb) hn hx (by rw [hW];exact AcBox.new w x _)
  clear hl hb
  go_enter Tryz.func25,Tryz.ntmps25
  go_wp2_with fail
  rw [← hW]
  clear hW
  refine Calls.mono KD.out ?_
  rintro e w1 hd
  have HE:Hid (DoSays lo 50 w P D tb l t (doR l t x) e w1):=by
    rcases hd with ⟨h1,h2,h3⟩ | hd
    · exact .inl ⟨h1,h2,HB.out.trans (h3.mono HB.out.size)⟩
    · obtain ⟨h1,h2,h3,h4⟩:=hd
      obtain ⟨S,G,h5,h6⟩:=h4
      refine .inr ⟨h1,h2,⟨(HB.out.mono HLO.out).trans h3.1,(LetT.of_below HB.out).trans h3.2⟩,S,G,h5,?_⟩
      rcases h6 with h6 | ⟨k,j1,j2,j3,j4,P',D',j5,j6,j7,j8,j9⟩
      · exact .inl h6
      · exact .inr ⟨k,j1,j2,j3,j4,P',D',j5,j6,j7,fun i hi b hb=>(j8 i hi b hb).imp_right (Nat.le_trans HB.out.size),j9⟩
  obtain ⟨v,rfl⟩:∃ n,e=.returned (errV n):=by
    rcases hd with ⟨h1,h2,h3⟩ | ⟨_,_,_,S,G,_,⟨h2,_⟩ | ⟨k,_,_,_,h2,_⟩⟩
    · exact ⟨_,h2⟩
    · exact ⟨0,by rw [h2,errV_zero rfl]⟩
    · exact ⟨_,h2⟩
  clear hd KD
  go_wp2
  go_ret
  exact HE.out
theorem sameL_true {l m:List Fi}(h:l=m):sameL l m=true:=(sameL_iff l m).2 h
structure NBox (W:World)(B:Nat)(c:Nat→Co):Prop where
  blk:W.heap[B]?=some (.cells #[.bool (c 0).is,.slice (c 0).a (c 0).l.length (c 0).cap,.int .i64 (c 0).t,.bool (c 1).is,.slice (c 1).a (c 1).l.length (c 1).cap,.int .i64 (c 1).t,.bool (c 2).is,.slice (c 2).a (c 2).l.length (c 2).cap,.int .i64 (c 2).t] 48 (0,0))
theorem NBox.lt {W:World}{B:Nat}{c:Nat→Co}(h:NBox W B c):B<W.heap.size:=(Array.getElem?_eq_some_iff.1 h.blk).1
theorem NBox.below {W W':World}{B:Nat}{c:Nat→Co}(h:NBox W B c)(hb:Below W.heap.size W W'):NBox W' B c:=⟨(hb.block _ h.lt).trans h.blk⟩
theorem NBox.cells {W:World}{B:Nat}{c:Nat→Co}(h:NBox W B c)(k:Nat)(hk:k<3):W.cell? ⟨B,k * 3,none⟩=some (.bool (c k).is)∧W.cell? ⟨B,k * 3+1,none⟩=some (.slice (c k).a (c k).l.length (c k).cap)∧W.cell? ⟨B,k * 3+2,none⟩=some (.int .i64 (c k).t):=by
  rcases (show k=0∨k=1∨k=2 by omega) with rfl | rfl | rfl <;> refine ⟨?_,?_,?_⟩ <;> (rw [cell_block h.blk];rfl)
theorem NBox.new (w:World)(c:Nat→Co):NBox (w.alloc (.cells #[.bool (c 0).is,.slice (c 0).a (c 0).l.length (c 0).cap,.int .i64 (c 0).t,.bool (c 1).is,.slice (c 1).a (c 1).l.length (c 1).cap,.int .i64 (c 1).t,.bool (c 2).is,.slice (c 2).a (c 2).l.length (c 2).cap,.int .i64 (c 2).t] 48)) w.heap.size c:=⟨World.alloc_heap_new w _⟩
set_option maxRecDepth 100000 in
set_option maxHeartbeats 1000000 in
theorem all_any (lo:Nat) (P:Nat→Dp) (D:Nat→Dk) (a:Option Addr) (cap:Nat) (l:List Fi) (t:Int) (w:World) (h3:Three lo w P D) (hup:∀ i,i<3→(D i).down=false∧42≤(D i).now.length) (hv:VarsLo lo w) (hlo:lo≤w.heap.size) (hg:GoodQ l t) (htell:∀ i,i<3→Tells (D i) (rowsL l t)) (hf:Slice w a cap l) :
    Calls Tryz.prog 15 #[.agg #[dptr (P 0),dptr (P 1),dptr (P 2)],.agg #[.slice a l.length cap,.int .i64 t]] w fun e w'=>e=.returned (.bool true)∧Below w.heap.size w w':=by
  obtain ⟨W,hW⟩:∃ y,y=(w.alloc (.cells #[dptr (P 0),dptr (P 1),dptr (P 2)] 26)).alloc (.cells #[.slice a l.length cap,.int .i64 t] 32):=⟨_,rfl⟩
  have hb0:Below w.heap.size w W:=by rw [hW];exact ((Below.refl _ _).alloc (Nat.le_refl _) _).alloc (by simp) _
  have HB0:Hid (Below w.heap.size w W):=hb0
  have HQ:Hid (QBox W (w.heap.size+1) (.slice a l.length cap) t):=by
    have h1:=QBox.new (w.alloc (.cells #[dptr (P 0),dptr (P 1),dptr (P 2)] 26)) (.slice a l.length cap) t 32
    rw [World.size_alloc] at h1
    rw [hW];exact h1
  have HF:Hid (Slice W a cap l):=hf.below hb0
  have HG:Hid (GoodQ l t):=hg
  have HT:Hid (∀ i,i<3→Tells (D i) (rowsL l t)):=htell
  have h8:=hg.files.few
  have KC:Hid _:=copies_any lo P D W (h3.below hb0) hup (hv.go (hb0.mono hlo)) (Nat.le_trans hlo hb0.size)
  clear h3 hup hv hlo hg htell hf hb0
  go_enter Tryz.func15,Tryz.ntmps15
  go_wp2_with fail
  rw [← hW]
  clear hW
  refine Calls.mono KC.out ?_
  rintro e w1 ⟨s,c,rfl,hb1,hrd⟩
  obtain ⟨W2,hW2⟩:∃ y,y=w1.alloc (.cells #[.bool (c 0).is,.slice (c 0).a (c 0).l.length (c 0).cap,.int .i64 (c 0).t,.bool (c 1).is,.slice (c 1).a (c 1).l.length (c 1).cap,.int .i64 (c 1).t,.bool (c 2).is,.slice (c 2).a (c 2).l.length (c 2).cap,.int .i64 (c 2).t] 48):=⟨_,rfl⟩
  have hb2:Below w1.heap.size w1 W2:=by rw [hW2];exact (Below.refl _ _).alloc (Nat.le_refl _) _
  have HN:Hid (NBox W2 w1.heap.size c):=by rw [hW2];exact NBox.new w1 c
  have HBW:Hid (Below W.heap.size W W2):=hb1.trans (hb2.mono hb1.size)
  have HR:Hid (∀ i,i<3→RdOk W2 W.heap.size (P i) (D i) (s i) (c i)):=fun i hi=>(hrd i hi).below hb2
  have HIS:Hid (∀ i,i<3→IsQ (c i) l t):=fun i hi=>((hrd i hi).tells HG.out).2 (HT.out i hi)
  have HQ2:Hid (QBox W2 (w.heap.size+1) (.slice a l.length cap) t):=HQ.out.below HBW.out HQ.out.lt
  have HF2:Hid (Slice W2 a cap l):=HF.out.below HBW.out
  have HB2:Hid (Below w.heap.size w W2):=HB0.out.trans (HBW.out.mono HB0.out.size)
  clear hb1 hb2 hrd KC HT
  go_upto_region 2 with fail
  rw [← hW2]
  clear hW2
  go_wp2_with fail
  go_loopg [6] 4 (fun kx vi wr=>∃ k:Nat,vi=.int .i64 k∧k≤3∧3 - k≤kx∧Hid (Below W2.heap.size W2 wr))
  case atStart=>exact ⟨0,rfl,by omega,by omega,Below.refl _ _⟩
  case round =>
    obtain ⟨k,rfl,hk,hkx,HB⟩:=hrel
    by_cases hlt:k<3
    · have hltz:(k:Int)<3:=by omega
      have hkz0:(0:Int)≤(k:Int):=by omega
      obtain ⟨hi1,hi2,hi3⟩:=HIS.out k hlt
      have HCK:Hid (Cells W2 (c k).a l):=by
        have h:=(HR.out k hlt).co.1
        rw [hi2] at h
        exact h.cells
      have keepH:Hid (∀ V,Below wr.heap.size wr V→(V.cell? ⟨w1.heap.size,k * 3,none⟩=some (.bool true)∧V.cell? ⟨w1.heap.size,k * 3+1,none⟩=some (.slice (c k).a l.length (c k).cap)∧V.cell? ⟨w1.heap.size,k * 3+2,none⟩=some (.int .i64 t)∧V.cell? ⟨w.heap.size+1,0,none⟩=some (.slice a l.length cap)∧V.cell? ⟨w.heap.size+1,1,none⟩=some (.int .i64 t))):=fun V h=>by
        have hv:=HB.out.trans (h.mono HB.out.size)
        obtain ⟨x0,x1,x2⟩:=(HN.out.below hv).cells k hlt
        obtain ⟨y0,y1,-⟩:=HQ2.out.below hv HQ2.out.lt
        rw [hi1] at x0
        rw [hi2] at x1
        rw [hi3] at x2
        exact ⟨x0,x1,x2,y0,y1⟩
      have kS:Hid (∀ V,Below wr.heap.size wr V→Calls Tryz.prog 14 #[.agg #[.slice (c k).a l.length (c k).cap,.int .i64 t],.agg #[.slice a l.length cap,.int .i64 t]] V fun e w'=>e=.returned (.bool true)∧Below V.heap.size V w'):=fun V h=>by
        have hv:=HB.out.trans (h.mono HB.out.size)
        refine (sameQuilt_any (c k).a a (c k).cap cap l l t t V (by omega) (by omega) (HCK.out.below hv) (HF2.out.below hv).cells).mono ?_
        rintro e w' ⟨rfl,hb⟩
        exact ⟨by rw [sameL_true rfl];simp,hb⟩
      obtain ⟨x0,x1,x2,y0,y1⟩:=keepH.out wr (Below.refl _ _)
      have hnl:w1.heap.size<wr.heap.size:=Nat.lt_of_lt_of_le HN.out.lt HB.out.size
      clear hi1 hi2 hi3
      go_wp2_with fail
      go_region_held3 (fun V=>V.cell? ⟨w1.heap.size,k * 3,none⟩=some (.bool true)∧V.cell? ⟨w1.heap.size,k * 3+1,none⟩=some (.slice (c k).a l.length (c k).cap)∧V.cell? ⟨w1.heap.size,k * 3+2,none⟩=some (.int .i64 t)∧V.cell? ⟨w.heap.size+1,0,none⟩=some (.slice a l.length cap)∧V.cell? ⟨w.heap.size+1,1,none⟩=some (.int .i64 t))
        (first | exact keepH.out _ (Below.drew (Below.refl _ _)) | exact keepH.out _ hbA.out)
        (first
          | (go_at_call 14
             refine (kS.out _ (Below.drew (Below.refl _ _))).mono ?_
             rintro e wa ⟨rfl,hb⟩
             have hbA:Hid (Below wr.heap.size wr wa):=(Below.drew (Below.refl _ _)).trans hb
             clear hb))
      rename_i hHeld
      clear hHeld
      have HBN:Hid (Below W2.heap.size W2 wa):=HB.out.trans (hbA.out.mono HB.out.size)
      clear keepH kS x0 x1 x2 y0 y1
      go_wp2
      go_roundg (3 - (k+1))
      case measure=>omega
      case rel=>exact ⟨k+1,by go_num,by omega,Nat.le_refl _,HBN⟩
    · have hk3:k=3:=by omega
      subst hk3
      go_wp2
      go_ret
      exact ⟨rfl,HB2.out.trans (HB.out.mono HB2.out.size)⟩
theorem act_any (lo:Nat)(P:Nat→Dp)(D:Nat→Dk)(tb:Nat)(so:Nat→Option Nat)(a:Option Addr)(cap:Nat)(l:List Fi)(t:Int)(x:Ac)(w:World)(hl:Life lo 50 w P D tb so a cap l t)(hf:∀ i,i<3→Free (D i) 50 0)(hn:x.s.size≤maxLen)(hx:x.t.size≤maxLen) :
    Calls Tryz.prog 25 #[.pointer (some ⟨tb,0,none⟩),x.v] w fun e w'=>e=.returned (errV (doR l t x).n)∧(Below lo w w'∧LetT w w')∧((¬ (doR l t x).n=0∧Life lo 50 w' P D tb so a cap l t)∨((doR l t x).n=0∧GoodQ (doR l t x).l (doR l t x).t∧∃ P' D' so' a' cap',WellDone lo w w' P D tb l t (doR l t x) P' D' so' a' cap')):=by
  refine (doTrio_any lo P D tb so a cap l t x w hl hn hx).mono ?_
  intro e w' h
  exact h.well hl hf (fun h0 hr=>do_changes hl.good h0 hr)
theorem act_well (lo:Nat)(P:Nat→Dp)(D:Nat→Dk)(tb:Nat)(so:Nat→Option Nat)(a:Option Addr)(cap:Nat)(l:List Fi)(t:Int)(x:Ac)(w:World)(hl:Well lo w P D tb so a cap l t)(hn:x.s.size≤maxLen)(hx:x.t.size≤maxLen) :
    Calls Tryz.prog 25 #[.pointer (some ⟨tb,0,none⟩),x.v] w fun e w'=>e=.returned (errV (doR l t x).n)∧(Below lo w w'∧LetT w w')∧∃ P' D' so' a' cap' l' t',(∀ i,i<3→(P' i).B=(P i).B)∧Well lo w' P' D' tb so' a' cap' l' t'∧((¬ (doR l t x).n=0∧l'=l∧t'=t)∨((doR l t x).n=0∧l'=(doR l t x).l∧t'=(doR l t x).t)):=by
  refine (act_any lo P D tb so a cap l t x w hl.life hl.free hn hx).mono ?_
  rintro e w' ⟨h1,h2,h3⟩
  refine ⟨h1,h2,?_⟩
  rcases h3 with ⟨h3,h4⟩ | ⟨h3,h4,P',D',so',a',cap',h5⟩
  · exact ⟨P,D,so,a,cap,l,t,fun _ _=>rfl,⟨h4,hl.sound⟩,.inl ⟨h3,rfl,rfl⟩⟩
  · exact ⟨P',D',so',a',cap',_,_,h5.same,⟨h5.life,fun i hi=>h5.sound i hi (hl.sound i hi)⟩,.inr ⟨h3,rfl,rfl⟩⟩
theorem field0 (u v:Value)(W:World):(Instr.field 32 (.agg #[u,v]) 0).run Tryz.prog W=.ok u W:=by
  show _=_;kernel_rfl
def actW:Ac:=⟨⟨#[119,114,105,116,101]⟩,⟨#[97]⟩,⟨#[120]⟩,0,0,none,0,[]⟩
theorem actW_does:(doR [] 1 actW).n=0∧(doR [] 1 actW).l.length=1:=by
  constructor <;> kernel_rfl
set_option maxRecDepth 100000 in
set_option maxHeartbeats 1000000 in
theorem works_any (w:World)(hv:VarsLo w.heap.size w) :
    Calls Tryz.prog 7 #[] w fun e w'=>e=.returned (.bool true)∧Below w.heap.size w w':=by
  have K3:Hid _:=three_any w.heap.size w hv (Nat.le_refl _)
  clear hv
  go_enter Tryz.func7,Tryz.ntmps7
  go_wp2_with fail
  refine Calls.mono K3.out ?_
  rintro e w1 ⟨P,D,tb,so,a,cap,rfl,hw,hb1⟩
  obtain ⟨W,hW⟩:∃ y,y=w1.alloc (.cells #[dptr (P 0),dptr (P 1),dptr (P 2)] 26):=⟨_,rfl⟩
  have hb2:Below w1.heap.size w1 W:=by rw [hW];exact (Below.refl _ _).alloc (Nat.le_refl _) _
  have HB:Hid (Below w.heap.size w W):=hb1.trans (hb2.mono hb1.size)
  have HD:Hid (DBox W w1.heap.size (dptr (P 0)) (dptr (P 1)) (dptr (P 2))):=by rw [hW];exact DBox.new w1 _ _ _
  have HW:Hid (Well w.heap.size W P D tb so a cap [] 1):=hw.below hb2
  have KA:Hid _:=act_well w.heap.size P D tb so a cap [] 1 actW W HW.out (by decide) (by decide)
  have KA2:Hid (Calls Tryz.prog 25 #[.pointer (some ⟨tb,0,none⟩),.agg #[.string ⟨#[119,114,105,116,101]⟩,.string ⟨#[97]⟩,.string ⟨#[120]⟩,.int .i64 0,.int .u64 0,.slice none 0 0]] W _):=KA.out
  clear hw hb1 hb2 K3 KA
  go_upto_region 2 with fail
  rw [← hW]
  clear hW
  go_wp2_with fail
  refine Calls.mono KA2.out ?_
  rintro e w2 ⟨rfl,⟨hb2,hf2⟩,P',D',so',a',cap',l',t',hs2,hw2,hor⟩
  obtain ⟨hn0,hl1⟩:=actW_does
  rw [errV_zero hn0]
  have hl':l'.length=1:=by
    rcases hor with ⟨h,_⟩ | ⟨_,h,_⟩
    · exact absurd hn0 h
    · rw [h];exact hl1
  have HL1:Hid (l'.length=1):=hl'
  have HB2:Hid (Below w.heap.size w w2):=HB.out.trans hb2
  have HD2:Hid (DBox w2 w1.heap.size (dptr (P' 0)) (dptr (P' 1)) (dptr (P' 2))):=by
    have h1:=hf2 _ _ _ _ HD.out.blk (.inl ⟨by decide,by decide,by decide,by decide,by decide,by decide⟩)
    have e:∀ i,i<3→dptr (P' i)=dptr (P i):=fun i hi=>by unfold dptr;rw [hs2 i hi]
    rw [e 0 (by omega),e 1 (by omega),e 2 (by omega)]
    exact ⟨h1⟩
  have KO:Hid _:=open_mended w.heap.size P' D' l' t' w2 hw2.life.good hw2.life.three hw2.free hw2.life.vars hw2.life.low (i:=0) (j:=1) (by omega) (by omega) (by omega) (hw2.sound 0 (by omega)).tells (hw2.sound 1 (by omega)).tells
  have HT:Hid (∀ i,i<3→Tells (D' i) (rowsL l' t')):=fun i hi=>(hw2.sound i hi).tells
  obtain ⟨d0,d1,d2,-⟩:=HD2.out.cells
  clear hb2 hf2 hs2 hw2 hor hl' hl1 hn0 KA2
  go_wp2_with fail
  refine Calls.mono KO.out ?_
  rintro e w3 ⟨tb3,n,P3,D3,S3,a3,cap3,rfl,hsz,hm⟩
  have hn:n=0:=hm.none.2 HT.out
  subst hn
  have HB3:Hid (Below w.heap.size w w3):=HB2.out.trans hm.bel
  have KQ:Hid _:=trioQuilt_any P3 tb3 S3 a3 cap3 l' t' w3 hm.life.trio (by have:=HL1.out;omega)
  clear hm hsz KO d0 d1 d2
  go_wp2_with fail
  refine Calls.mono KQ.out ?_
  rintro e w4 ⟨a4,cap4,rfl,ho,hb4⟩
  have HB4:Hid (Below w.heap.size w w4):=HB3.out.trans (hb4.mono HB3.out.size)
  have hl1z:((l'.length:Int) == 1)=true:=by rw [HL1.out];rfl
  clear ho hb4 KQ
  have hfl:=fun W=>field0 (.slice a4 l'.length cap4) (.int .i64 t') W
  go_wp2
  go_ret
  exact ⟨rfl,HB4.out⟩
def PlayedOut (w:World)(e:Ending)(w':World):Prop:=Below w.heap.size w w'∧∃ P D tb so aq cq l t v ok,e=.returned (.tuple #[.agg #[dptr (P 0),dptr (P 1),dptr (P 2)],v,.bool ok])∧(ok=true→v=.pointer (some ⟨tb,0,none⟩))∧Well w.heap.size w' P D tb so aq cq l t
set_option maxRecDepth 100000 in
set_option maxHeartbeats 1000000 in
theorem played_any (a:Option Addr) (cap:Nat) (L:List Ac) (w:World) (hm:L.length≤maxLen) (hs:ActCells w a L) (hv:VarsLo w.heap.size w) :
    Calls Tryz.prog 8 #[.slice a L.length cap] w fun e w'=>PlayedOut w e w':=by
  have HV:Hid (VarsLo w.heap.size w):=hv
  have HA:Hid (ActCells w a L):=hs
  clear hv hs
  obtain ⟨W0,hW0⟩:∃ y,y=w.alloc (.cells #[.pointer none,.pointer none,.pointer none] 26):=⟨_,rfl⟩
  have HB0:Hid (Below w.heap.size w W0):=by rw [hW0];exact (Below.refl _ _).alloc (Nat.le_refl _) _
  have K3:Hid _:=three_any w.heap.size W0 (HV.out.go HB0.out) HB0.out.size
  have HR0:Hid (DBox W0 w.heap.size (.pointer none) (.pointer none) (.pointer none)):=by rw [hW0];exact DBox.new w _ _ _
  go_enter Tryz.func8,Tryz.ntmps8
  go_wp2_with fail
  rw [← hW0]
  clear hW0
  refine Calls.mono K3.out ?_
  rintro e w1 ⟨P,D,tb,so,aq,cq,rfl,hw,hb1⟩
  obtain ⟨W,hW⟩:∃ y,y=w1.alloc (.cells #[dptr (P 0),dptr (P 1),dptr (P 2)] 26):=⟨_,rfl⟩
  have hb2:Below w1.heap.size w1 W:=by rw [hW];exact (Below.refl _ _).alloc (Nat.le_refl _) _
  have HB:Hid (Below w.heap.size w W):=HB0.out.trans ((hb1.trans (hb2.mono hb1.size)).mono HB0.out.size)
  have HD:Hid (DBox W w1.heap.size (dptr (P 0)) (dptr (P 1)) (dptr (P 2))):=by rw [hW];exact DBox.new w1 _ _ _
  have HW:Hid (Well w.heap.size W P D tb so aq cq [] 1):=hw.below hb2
  have HR:Hid (DBox W w.heap.size (.pointer none) (.pointer none) (.pointer none)):=HR0.out.below (hb1.trans (hb2.mono hb1.size))
  have HLT:Hid (w.heap.size<w1.heap.size):=by show w.heap.size<w1.heap.size;have h1:=HR0.out.lt;have h2:=hb1.size;omega
  clear hw hb1 hb2 K3
  go_upto_region 2 with fail
  rw [← hW]
  clear hW
  have KL:Hid _:=lightActs_any a cap L 50 W hm (by omega) (HA.out.below HB.out)
  go_wp2_with fail
  refine Calls.mono KL.out ?_
  rintro e w2 ⟨⟨b,rfl,hb⟩,hw2⟩
  rw [hw2]
  clear hw2 w2
  have HLI:Hid (b=true→LightA L 50):=hb
  clear hb KL
  have HP:Hid (∀ i,i<3→dptr (P i)=dptr (P i)):=fun _ _=>rfl
  have HD0:Hid (∀ (P':Nat→Dp),(∀ i,i<3→(P' i).B=(P i).B)→dptr (P' 0)=dptr (P 0)∧dptr (P' 1)=dptr (P 1)∧dptr (P' 2)=dptr (P 2)):=fun P' h=>⟨by unfold dptr;rw [h 0 (by omega)],by unfold dptr;rw [h 1 (by omega)],by unfold dptr;rw [h 2 (by omega)]⟩
  have HEND:Hid (∀ (V:World) (P':Nat→Dp) (D':Nat→Dk) (so':Nat→Option Nat) (aq':Option Addr) (cq':Nat) (l':List Fi) (t':Int) (v:Value) (ok:Bool),Below w.heap.size w V→Well w.heap.size V P' D' tb so' aq' cq' l' t'→(∀ i,i<3→(P' i).B=(P i).B)→DBox V w.heap.size (.pointer none) (.pointer none) (.pointer none)→(ok=true→v=.pointer (some ⟨tb,0,none⟩)) →
      PlayedOut w (.returned (.tuple #[.agg #[dptr (P 0),dptr (P 1),dptr (P 2)],v,.bool ok])) (((V.setCell ⟨w.heap.size,0,none⟩ (dptr (P 0))).setCell ⟨w.heap.size,1,none⟩ (dptr (P 1))).setCell ⟨w.heap.size,2,none⟩ (dptr (P 2)))):=fun V P' D' so' aq' cq' l' t' v ok hb hw hsame hbx hok=>by
    obtain ⟨e0,e1,e2⟩:=HD0.out P' hsame
    refine ⟨set3_below hb (Nat.le_refl _),P',D',tb,so',aq',cq',l',t',v,ok,by rw [e0,e1,e2],hok,hw.keep (fun k C T fr e hT=>hbx.off3 k C T fr e (dbox_type hT)) (set3_below (Below.refl _ _) (Nat.le_refl _))⟩
  cases b with
  | false =>
    obtain ⟨d0,d1,d2,df⟩:=HD.out.cells
    obtain ⟨r0,r1,r2,rf⟩:=HR.out.cells
    have rl:=HR.out.lt
    have HE:Hid _:=HEND.out W P D so aq cq [] 1 (.pointer none) false HB.out HW.out (fun _ _=>rfl) HR.out (fun h=>by cases h)
    have HBX:Hid (DBox (((W.setCell ⟨w.heap.size,0,none⟩ (dptr (P 0))).setCell ⟨w.heap.size,1,none⟩ (dptr (P 1))).setCell ⟨w.heap.size,2,none⟩ (dptr (P 2))) w.heap.size (dptr (P 0)) (dptr (P 1)) (dptr (P 2))):=HR.out.put
    have rf0:=rf 0
    have rf1:=rf 1
    have rf2:=rf 2
    clear HEND rf df
    go_wp2
    obtain ⟨W4,hW4⟩:∃ y,y=(((W.setCell ⟨w.heap.size,0,none⟩ (dptr (P 0))).setCell ⟨w.heap.size,1,none⟩ (dptr (P 1))).setCell ⟨w.heap.size,2,none⟩ (dptr (P 2))):=⟨_,rfl⟩
    rw [← hW4] at HE HBX
    rw [← hW4]
    clear hW4 d0 d1 d2 r0 r1 r2 rf0 rf1 rf2 rl
    obtain ⟨r0,r1,r2,-⟩:=HBX.out.cells
    try simp only [Exit.inBlock,Exit.then]
    refine bodyPost_ret (v:=.tuple #[.agg #[dptr (P 0),dptr (P 1),dptr (P 2)],.pointer none,.bool false]) (by simp [results,Tryz.results8,go_sem,r0,r1,r2]) rfl HE.out
  | true =>
    have HLA:Hid (LightA L 50):=HLI.out rfl
    have hm':=hm
    unfold maxLen at hm'
    go_wp2_with fail
    go_loopg [8] (L.length+1) (fun kx vi wr=>∃ (i:Nat) (P':Nat→Dp) (D':Nat→Dk) (so':Nat→Option Nat) (aq':Option Addr) (cq':Nat) (l':List Fi) (t':Int),vi=.int .i64 i∧i≤L.length∧L.length - i≤kx∧Hid (Below w.heap.size w wr)∧Hid (Well w.heap.size wr P' D' tb so' aq' cq' l' t')∧Hid (∀ i,i<3→(P' i).B=(P i).B)∧Hid (DBox wr w1.heap.size (dptr (P 0)) (dptr (P 1)) (dptr (P 2)))∧Hid (DBox wr w.heap.size (.pointer none) (.pointer none) (.pointer none)))
    case atStart=>exact ⟨0,P,D,so,aq,cq,[],1,rfl,Nat.zero_le _,by omega,HB,HW,fun _ _=>rfl,HD,HR⟩
    case round =>
      obtain ⟨i,P',D',so',aq',cq',l',t',rfl,hi,hix,HBr,HWr,HSr,HDr,HRr⟩:=hrel
      by_cases hlt:i<L.length
      · have hltz:(i:Int)<(L.length:Int):=by omega
        obtain ⟨b,off,rfl,⟨c0,c1,c2,c3,c4,c5⟩,ok⟩:=HA.out.below HBr.out i hlt
        obtain ⟨hs1,hs2,_⟩:=HLA.out.2 L[i] (List.getElem_mem hlt)
        have KA:Hid _:=act_well w.heap.size P' D' tb so' aq' cq' l' t' L[i] wr HWr.out (by unfold maxLen;omega) (by unfold maxLen;omega)
        clear ok hs1 hs2
        go_wp2_with fail
        refine Calls.mono KA.out ?_
        rintro e w3 ⟨rfl,⟨hb3,hf3⟩,P3,D3,so3,aq3,cq3,l3,t3,hs3,hw3,-⟩
        have HB3:Hid (Below w.heap.size w w3):=HBr.out.trans hb3
        have HW3:Hid (Well w.heap.size w3 P3 D3 tb so3 aq3 cq3 l3 t3):=hw3
        have HS3:Hid (∀ i,i<3→(P3 i).B=(P i).B):=fun i hi=>(hs3 i hi).trans (HSr.out i hi)
        have HD3:Hid (DBox w3 w1.heap.size (dptr (P 0)) (dptr (P 1)) (dptr (P 2))):=⟨hf3 _ _ _ _ HDr.out.blk (.inl ⟨by decide,by decide,by decide,by decide,by decide,by decide⟩)⟩
        have HR3:Hid (DBox w3 w.heap.size (.pointer none) (.pointer none) (.pointer none)):=⟨hf3 _ _ _ _ HRr.out.blk (.inl ⟨by decide,by decide,by decide,by decide,by decide,by decide⟩)⟩
        clear hb3 hf3 hs3 hw3 KA c0 c1 c2 c3 c4 c5
        go_wp2
        go_roundg (L.length - (i+1))
        case measure=>omega
        case rel=>exact ⟨i+1,P3,D3,so3,aq3,cq3,l3,t3,by go_num,by omega,Nat.le_refl _,HB3,HW3,HS3,HD3,HR3⟩
      · have hk3:i=L.length:=by omega
        obtain ⟨d0,d1,d2,df⟩:=HDr.out.cells
        obtain ⟨r0,r1,r2,rf⟩:=HRr.out.cells
        have rl:=HRr.out.lt
        have HE:Hid _:=HEND.out wr P' D' so' aq' cq' l' t' (.pointer (some ⟨tb,0,none⟩)) true HBr.out HWr.out HSr.out HRr.out (fun _=>rfl)
        have HBX:Hid (DBox (((wr.setCell ⟨w.heap.size,0,none⟩ (dptr (P 0))).setCell ⟨w.heap.size,1,none⟩ (dptr (P 1))).setCell ⟨w.heap.size,2,none⟩ (dptr (P 2))) w.heap.size (dptr (P 0)) (dptr (P 1)) (dptr (P 2))):=HRr.out.put
        have rf0:=rf 0
        have rf1:=rf 1
        have rf2:=rf 2
        have hnl:¬ (i:Int)<(L.length:Int):=by omega
        clear HEND rf df hk3
        go_wp2
        obtain ⟨W4,hW4⟩:∃ y,y=(((wr.setCell ⟨w.heap.size,0,none⟩ (dptr (P 0))).setCell ⟨w.heap.size,1,none⟩ (dptr (P 1))).setCell ⟨w.heap.size,2,none⟩ (dptr (P 2))):=⟨_,rfl⟩
        rw [← hW4] at HE HBX
        rw [← hW4]
        clear hW4 d0 d1 d2 r0 r1 r2 rf0 rf1 rf2 rl
        obtain ⟨r0,r1,r2,-⟩:=HBX.out.cells
        try simp only [Exit.inBlock,Exit.then]
        refine bodyPost_ret (v:=.tuple #[.agg #[dptr (P 0),dptr (P 1),dptr (P 2)],.pointer (some ⟨tb,0,none⟩),.bool true]) (by simp [results,Tryz.results8,go_sem,r0,r1,r2]) rfl HE.out
structure QHere (W:World)(B:Nat)(a:Option Addr)(cap:Nat)(l:List Fi)(t:Int):Prop where
  blk:W.heap[B]?=some (.cells #[.slice a l.length cap,.int .i64 t] 32 (0,0))
  files:FilesIn W a cap l
theorem QHere.cells {W:World}{B:Nat}{a:Option Addr}{cap:Nat}{l:List Fi}{t:Int}(h:QHere W B a cap l t):W.cell? ⟨B,0,none⟩=some (.slice a l.length cap)∧W.cell? ⟨B,1,none⟩=some (.int .i64 t):=⟨by rw [cell_block h.blk];rfl,by rw [cell_block h.blk];rfl⟩
theorem QHere.far {W W':World}{B:Nat}{a:Option Addr}{cap:Nat}{l:List Fi}{t:Int}(h:QHere W B a cap l t)(hf:LetT W W'):QHere W' B a cap l t :=
  ⟨hf _ _ _ _ h.blk (.inl ⟨by decide,by decide,by decide,by decide,by decide,by decide⟩),h.files.keep (fun k C fr e=>(hf k C _ fr e (.inl ⟨by decide,by decide,by decide,by decide,by decide,by decide⟩)).trans e.symm)⟩
theorem QHere.below {W W':World}{B:Nat}{a:Option Addr}{cap:Nat}{l:List Fi}{t:Int}(h:QHere W B a cap l t)(hb:Below W.heap.size W W'):QHere W' B a cap l t:=h.far (LetT.of_below hb)
theorem QHere.new {w:World}{a:Option Addr}{cap:Nat}{l:List Fi}{t:Int}(h:FilesIn w a cap l):QHere (w.alloc (.cells #[.slice a l.length cap,.int .i64 t] 32)) w.heap.size a cap l t :=
  ⟨World.alloc_heap_new w _,h.below ((Below.refl _ _).alloc (Nat.le_refl _) _)⟩
theorem DBox.far {W W':World}{B:Nat}{x y z:Value}(h:DBox W B x y z)(hf:LetT W W'):DBox W' B x y z:=⟨hf _ _ _ _ h.blk (.inl ⟨by decide,by decide,by decide,by decide,by decide,by decide⟩)⟩
theorem DBox.place {W:World}{B:Nat}{P P':Nat→Dp}(h:DBox W B (dptr (P 0)) (dptr (P 1)) (dptr (P 2)))(hs:∀ i,i<3→(P' i).B=(P i).B):DBox W B (dptr (P' 0)) (dptr (P' 1)) (dptr (P' 2)):=by
  have e:∀ i,i<3→dptr (P' i)=dptr (P i):=fun i hi=>by unfold dptr;rw [hs i hi]
  rw [e 0 (by omega),e 1 (by omega),e 2 (by omega)]
  exact h
theorem sameSelf_any {V:World}{a a':Option Addr}{cap cap':Nat}{l:List Fi}{t:Int}(h8:l.length≤8)(hf:FilesIn V a cap l)(hf':FilesIn V a' cap' l) :
    Calls Tryz.prog 14 #[.agg #[.slice a l.length cap,.int .i64 t],.agg #[.slice a' l.length cap',.int .i64 t]] V fun e w'=>e=.returned (.bool true)∧Below V.heap.size V w':=by
  refine (sameQuilt_any a a' cap cap' l l t t V (by omega) (by omega) hf.cells hf'.cells).mono ?_
  rintro e w' ⟨rfl,hb⟩
  exact ⟨by rw [sameL_true rfl];simp,hb⟩
theorem quilt_here (P:Nat→Dp)(tb:Nat)(so:Nat→Option Nat)(a:Option Addr)(cap:Nat)(l:List Fi)(t:Int)(w:World)(ht:TrioAt w tb P so a cap l t)(h8:l.length≤8) :
    Calls Tryz.prog 9 #[.pointer (some ⟨tb,0,none⟩)] w fun e w'=>∃ a' cap',e=.returned (.agg #[.slice a' l.length cap',.int .i64 t])∧FilesIn w' a' cap' l∧Below w.heap.size w w':=by
  refine (trioQuilt_any P tb so a cap l t w ht (by omega)).mono ?_
  rintro e w' ⟨a',cap',rfl,ho,hb⟩
  exact ⟨a',cap',rfl,FilesIn.of_owns ho,hb⟩
end Go.Proofs.YtihnghnafpgdfadGreatDoor
