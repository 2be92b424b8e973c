/-
  trio.Open, where the one disk that is wrong may fall.
-/
import Derived.Test.YtihnghnafpgdfadGreatDoorYTrioScrubFell
import Derived.Test.YtihnghnafpgdfadGreatDoorYTrioSpoil
namespace Go.Proofs.YtihnghnafpgdfadGreatDoor
open Go Go.RowKit Go.BigFrame
set_option linter.unusedVariables false
set_option linter.unusedSimpArgs false
/-- What Open answers,over a fall or not. -/
def OpenFS (lo N:Nat)(w:World)(P:Nat→Dp)(D:Nat→Dk)(k:Nat)(e:Ending)(w':World):Prop :=
  ∃ (v:Value) (n m:Int) (P':Nat→Dp) (D':Nat→Dk),e=.returned (.tuple #[v,.int .i64 n,errV m])∧MendTo lo N w w' P P' D D' k
set_option maxRecDepth 100000 in
set_option maxHeartbeats 1000000 in
theorem openF_any (lo N:Nat)(P:Nat→Dp)(D:Nat→Dk)(l:List Fi)(t:Int)(k:Nat)(w:World)(hg:GoodQ l t)(h3:Three lo w P D)(hcl:∀ i,i<3→Clean (D i)∧(D i).now.length=N)(hN:42≤N)(hN2:N≤60)(hv:VarsLo lo w)(hlo:lo≤w.heap.size)(hk:k<3)(hno:¬ Tells (D k) (rowsL l t))(hyes:∀ i,i<3→i≠k→Tells (D i) (rowsL l t)) :
    Calls Tryz.prog 12 #[.agg #[dptr (P 0),dptr (P 1),dptr (P 2)]] w fun e w'=>OpenFS lo N w P D k e w':=by
  obtain ⟨W,hW⟩:∃ x,x=w.alloc (.cells #[dptr (P 0),dptr (P 1),dptr (P 2)] 26):=⟨_,rfl⟩
  have HB0:Hid (Below w.heap.size w W):=by rw [hW];exact (Below.refl _ _).alloc (Nat.le_refl _) _
  have HDB:Hid (W.heap[w.heap.size]?=some (.cells #[dptr (P 0),dptr (P 1),dptr (P 2)] 26 (0,0))):=by rw [hW];exact World.alloc_heap_new w _
  have HBW1:Hid (w.heap.size<W.heap.size):=(Array.getElem?_eq_some_iff.1 HDB.out).1
  have KC:Hid _:=copies_any lo P D W (h3.below HB0.out) (fun i hi=>⟨(hcl i hi).1.up,by rw [(hcl i hi).2];exact hN⟩) (hv.go (HB0.out.mono hlo)) (Nat.le_trans hlo HB0.out.size)
  have H3:Hid (Three lo w P D):=h3
  have HCL:Hid (∀ i,i<3→Clean (D i)∧(D i).now.length=N):=hcl
  have HV:Hid (VarsLo lo w):=hv
  have HLO:Hid (lo≤w.heap.size):=hlo
  have HG:Hid (GoodQ l t):=hg
  have HNO:Hid (¬ Tells (D k) (rowsL l t)):=hno
  have HYES:Hid (∀ i,i<3→i≠k→Tells (D i) (rowsL l t)):=hyes
  clear h3 hcl hv hlo hg hno hyes
  go_enter Tryz.func12,Tryz.ntmps12
  go_wp2_with fail
  rw [← hW]
  clear hW
  refine Calls.mono KC.out ?_
  rintro e w1 ⟨s,c,rfl,hb1,hrd⟩
  have HBW:Hid (Below W.heap.size W w1):=hb1
  have HB1:Hid (Below w.heap.size w w1):=HB0.out.trans (hb1.mono HB0.out.size)
  have KV:Hid _:=voteOf_any (c 0) (c 1) (c 2) w1 (hrd 0 (by omega)).co (hrd 1 (by omega)).co (hrd 2 (by omega)).co
  have hvo:∃ v,votedC (c 0) (c 1) (c 2)=some v∧IsQ v l t:=by
    obtain ⟨i,j,hi,hj,hij,hik,hjk⟩:=two_others hk
    exact voted_two (c:=c) (l:=l) (t:=t) hi hj hij (((hrd i hi).tells HG.out).2 (HYES.out i hi hik)) (((hrd j hj).tells HG.out).2 (HYES.out j hj hjk))
  clear hb1 hrd KC
  go_wp2_with fail
  refine Calls.mono KV.out ?_
  rintro e w2 ⟨he,hb2⟩
  obtain ⟨v,hv1,hv2⟩:=hvo
  rw [hv1] at he
  obtain ⟨a,cap,rfl,hsl,B,how⟩:=he
  have e1:=hv2.2.1
  have e2:=hv2.2.2
  rw [e1] at how hsl
  rw [e1,e2]
  clear hv1 hv2 e1 e2 KV
  go_upto_region 4 with fail
  obtain ⟨W5,hW5⟩:∃ x,x=w2.alloc (.cells #[.slice a l.length cap,.int .i64 t] 32):=⟨_,rfl⟩
  have hq5:QBox W5 w2.heap.size (.slice a l.length cap) t:=by rw [hW5];exact QBox.new w2 _ _ _
  have hb5:Below w2.heap.size w2 W5:=by rw [hW5];exact (Below.refl _ _).alloc (Nat.le_refl _) _
  have hb15:Below w1.heap.size w1 W5:=hb2.trans (hb5.mono hb2.size)
  have hd5:W5.heap[w.heap.size]?=some (.cells #[dptr (P 0),dptr (P 1),dptr (P 2)] 26 (0,0)):=((HBW.out.trans (hb15.mono HBW.out.size)).block _ HBW1.out).trans HDB.out
  have d0:W5.cell? ⟨w.heap.size,0,none⟩=some (dptr (P 0)):=by rw [cell_block hd5];rfl
  have d1:W5.cell? ⟨w.heap.size,1,none⟩=some (dptr (P 1)):=by rw [cell_block hd5];rfl
  have d2:W5.cell? ⟨w.heap.size,2,none⟩=some (dptr (P 2)):=by rw [cell_block hd5];rfl
  obtain ⟨q0,q1,-,-,ql,-⟩:=hq5
  rw [← hW5]
  clear hW5
  obtain ⟨W6,hW6⟩:∃ x,x=W5.alloc (.cells #[dptr (P 0),dptr (P 1),dptr (P 2),.pointer none,.pointer none,.pointer none,.slice a l.length cap,.int .i64 t] 72):=⟨_,rfl⟩
  have hb6:Below W5.heap.size W5 W6:=by rw [hW6];exact (Below.refl _ _).alloc (Nat.le_refl _) _
  have ht6:TrioAt W6 W5.heap.size P (fun _=>none) a cap l t:=⟨by rw [hW6];exact World.alloc_heap_new W5 _,((FilesIn.of_owns how).below hb5).below hb6⟩
  have hw2:Below w.heap.size w w2:=HB1.out.trans (hb2.mono HB1.out.size)
  have hw5:Below w.heap.size w W5:=hw2.trans (hb5.mono hw2.size)
  have hw6:Below w.heap.size w W6:=hw5.trans (hb6.mono hw5.size)
  have HW6:Hid (Below w.heap.size w W6):=hw6
  have KS:Hid _:=scrubF_any lo N P D W5.heap.size (fun _=>none) a cap l t k W6 (H3.out.below hw6) HCL.out hN hN2 (HV.out.go (hw6.mono HLO.out)) (Nat.le_trans HLO.out hw6.size) (Nat.le_trans HLO.out hw5.size) ht6 HG.out hk HNO.out HYES.out
  clear hb2 hb5 hb15 hd5 how hsl hw2 hw5 hw6 ht6 hb6
  go_wp2_with fail
  rw [← hW6]
  clear hW6
  refine Calls.mono KS.out ?_
  rintro e w7 ⟨n,m,P',D',rfl,hmd⟩
  have HE:Hid (MendTo lo N w w7 P P' D D' k):=hmd.from HW6.out HLO.out
  clear hmd KS
  by_cases hm:m=0
  · have HF:Hid (OpenFS lo N w P D k (.returned (.tuple #[.pointer (some ⟨W5.heap.size,0,none⟩),.int .i64 n,.nilIface])) w7):=⟨_,n,0,P',D',by rw [errV_zero rfl],HE.out⟩
    rw [errV_zero hm]
    clear hm
    go_wp2
    try simp only [Exit.inBlock,Exit.then]
    refine bodyPost_ret (v:=.tuple #[.pointer (some ⟨W5.heap.size,0,none⟩),.int .i64 n,.nilIface]) (by simp [results,Tryz.results12,go_sem]) rfl HF.out
  · have HF:Hid (OpenFS lo N w P D k (.returned (.tuple #[.pointer none,.int .i64 0,.iface 90 (.int .i64 m)])) w7):=⟨_,0,m,P',D',by rw [errV_pos hm],HE.out⟩
    rw [errV_pos hm]
    clear hm
    go_wp2
    try simp only [Exit.inBlock,Exit.then]
    refine bodyPost_ret (v:=.tuple #[.pointer none,.int .i64 0,.iface 90 (.int .i64 m)]) (by simp [results,Tryz.results12,go_sem]) rfl HF.out
end Go.Proofs.YtihnghnafpgdfadGreatDoor
