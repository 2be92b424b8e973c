/-
  (*trio.Trio).Scrub, where the one disk that is wrong may fall.
-/
import Derived.Test.YtihnghnafpgdfadGreatDoorYTrioLayFell
import Derived.Deep.RegionHeld3
import Derived.BigQuiet
namespace Go.Proofs.YtihnghnafpgdfadGreatDoor
open Go Go.RowKit Go.BigFrame
set_option linter.unusedVariables false
set_option linter.unusedSimpArgs false
/-- One of three is wrong. -/
theorem wrong_one {c:Nat→Co}{a:Option Addr}{cap:Nat}{l:List Fi}{t:Int}{k:Nat}(hk:k<3)(hno:¬ IsQ (c k) l t)(hyes:∀ i,i<3→i≠k→IsQ (c i) l t):wrongL (c 0) (c 1) (c 2) (rightC a cap l t)=[(k:Int)]:=by
  have hq:∀ i,sameCo (c i) (rightC a cap l t)=true↔IsQ (c i) l t:=fun i=>sameCo_q
  unfold wrongL
  rcases (show k=0∨k=1∨k=2 by omega) with rfl | rfl | rfl
  · have h0:sameCo (c 0) (rightC a cap l t)=false:=Bool.eq_false_iff.2 (fun h=>hno ((hq 0).1 h))
    have h1:=(hq 1).2 (hyes 1 (by omega) (by omega))
    have h2:=(hq 2).2 (hyes 2 (by omega) (by omega))
    simp [h0,h1,h2]
  · have h0:=(hq 0).2 (hyes 0 (by omega) (by omega))
    have h1:sameCo (c 1) (rightC a cap l t)=false:=Bool.eq_false_iff.2 (fun h=>hno ((hq 1).1 h))
    have h2:=(hq 2).2 (hyes 2 (by omega) (by omega))
    simp [h0,h1,h2]
  · have h0:=(hq 0).2 (hyes 0 (by omega) (by omega))
    have h1:=(hq 1).2 (hyes 1 (by omega) (by omega))
    have h2:sameCo (c 2) (rightC a cap l t)=false:=Bool.eq_false_iff.2 (fun h=>hno ((hq 2).1 h))
    simp [h0,h1,h2]
/-- The state of Scrub's round: nothing laid yet,or the one that is wrong. -/
structure ScrubF (lo N:Nat)(w wr:World)(P P':Nat→Dp)(D D':Nat→Dk)(tb:Nat)(S:Nat→Option Nat)(a:Option Addr)(cap:Nat)(l:List Fi)(t:Int)(v:Value)(k j:Nat):Prop where
  mend:MendTo lo N w wr P P' D D' k
  trio:TrioAt wr tb P S a cap l t
  nums:OwnsN wr w.heap.size v [(k:Int)]
  none:j=0→D' k=D k∧P' k=P k
theorem ScrubF.below {lo N:Nat}{w wr w3:World}{P P':Nat→Dp}{D D':Nat→Dk}{tb:Nat}{S:Nat→Option Nat}{a:Option Addr}{cap:Nat}{l:List Fi}{t:Int}{v:Value}{k j:Nat}(h:ScrubF lo N w wr P P' D D' tb S a cap l t v k j)(hb:Below wr.heap.size wr w3)(hlo:lo≤wr.heap.size):ScrubF lo N w w3 P P' D D' tb S a cap l t v k j :=
  ⟨⟨h.mend.three.below hb,h.mend.same,h.mend.other,h.mend.hurt,h.mend.vars.go (hb.mono hlo),h.mend.bel.trans (hb.mono hlo),h.mend.far.trans (LetT.of_below hb),h.mend.new⟩,h.trio.below hb,OwnsN.below h.nums hb,h.none⟩
/-- The disk was laid,or fell. -/
theorem ScrubF.laid {lo N:Nat}{w wr w3:World}{P P':Nat→Dp}{D D':Nat→Dk}{tb:Nat}{S:Nat→Option Nat}{a:Option Addr}{cap:Nat}{l:List Fi}{t:Int}{v:Value}{k:Nat}{u:Value}{d':Dk}(h:ScrubF lo N w wr P P' D D' tb S a cap l t v k 0)(hk:k<3)(hw:(D k).wr=[])(hlo:lo≤wr.heap.size)(hl:LaidF wr w3 N (P k) u d') :
    MendTo lo N w w3 P (upd P' k { P' k with wv:=u }) D (upd D' k d') k:=by
  obtain ⟨e1,e2⟩:=h.none rfl
  have hd:DiskAt wr (P k) (D k):=by have:=h.mend.three.disk k hk;rw [e1,e2] at this;exact this
  have hlk:lo≤(P k).lo:=by have:=h.mend.three.lo k hk;rw [e2] at this;exact this
  have hb:Below lo wr w3:=hl.touch.below (fun m hm=>Nat.le_trans hlk (own_low hd m hm)) hlo
  refine ⟨h.mend.three.step hk (by rw [e2];exact hl.disk) (by rw [e2];exact hl.new) hl.touch (fun m hm=>.inl (by rw [e2];exact hm)),fun i hi=>?_,fun i hi hik=>?_,?_,h.mend.vars.go hb,h.mend.bel.trans hb,h.mend.far.trans (LetT.of_touch hd hw hl.touch),fun b hb'=>?_⟩
  · by_cases e:i=k
    · subst e;rw [upd_same];exact h.mend.same i hi
    · rw [upd_other _ _ e];exact h.mend.same i hi
  · rw [upd_other _ _ hik,upd_other _ _ hik];exact h.mend.other i hi hik
  · rw [upd_same];exact hl.hurt
  · rw [upd_same] at hb'
    exact (hl.new b hb').imp_right (Nat.le_trans h.mend.bel.size)
theorem MendTo.put {lo N:Nat}{w w3:World}{P P':Nat→Dp}{D D':Nat→Dk}{tb:Nat}{S:Nat→Option Nat}{a:Option Addr}{cap:Nat}{l:List Fi}{t:Int}{k:Nat}{n:Nat}{x:Value}(h:MendTo lo N w w3 P P' D D' k)(ht:TrioAt w3 tb P S a cap l t)(htb:lo≤tb):MendTo lo N w (w3.setCell ⟨tb,n,Option.none⟩ x) P P' D D' k :=
  ⟨h.three.farT (fun m C T fr e hT=>set_far ht m C T fr e (rd_far (.inl hT))),h.same,h.other,h.hurt,h.vars.go ((Below.refl _ _).setCell htb _),h.bel.setCell htb _,h.far.trans (LetT.of_trio ht (fun j _ hj=>Below.heap_setCell _ _ _ _ hj)),h.new⟩
/-- What Scrub answers,over a fall or not. -/
def ScrubFS (lo N:Nat)(w:World)(P:Nat→Dp)(D:Nat→Dk)(k:Nat)(e:Ending)(w':World):Prop :=
  ∃ (n m:Int) (P':Nat→Dp) (D':Nat→Dk),e=.returned (.tuple #[.int .i64 n,errV m])∧MendTo lo N w w' P P' D D' k
set_option maxRecDepth 100000 in
set_option maxHeartbeats 1000000 in
theorem scrubF_any (lo N:Nat) (P:Nat→Dp) (D:Nat→Dk) (tb:Nat) (so:Nat→Option Nat) (a:Option Addr) (cap:Nat) (l:List Fi) (t:Int) (k:Nat) (w:World) (h3:Three lo w P D) (hc:∀ i,i<3→Clean (D i)∧(D i).now.length=N) (hN:42≤N) (hN2:N≤60) (hv:VarsLo lo w) (hlo:lo≤w.heap.size) (htb:lo≤tb) (ht:TrioAt w tb P so a cap l t) (hg:GoodQ l t)
    (hk:k<3) (hno:¬ Tells (D k) (rowsL l t)) (hyes:∀ i,i<3→i≠k→Tells (D i) (rowsL l t)) :
    Calls Tryz.prog 31 #[.pointer (some ⟨tb,0,none⟩)] w fun e w'=>ScrubFS lo N w P D k e w':=by
  have KL:Hid _:=look_any lo P D tb so a cap l t w h3 (fun i hi=>⟨(hc i hi).1.up,by rw [(hc i hi).2];exact hN⟩) hv hlo ht (by have:=hg.files.few;omega)
  have H3:Hid (Three lo w P D):=h3
  have HCL:Hid (∀ i,i<3→Clean (D i)∧(D i).now.length=N):=hc
  have HV:Hid (VarsLo lo w):=hv
  have HT:Hid (TrioAt w tb P so a cap l t):=ht
  have HG:Hid (GoodQ l t):=hg
  have HLO:Hid (lo≤w.heap.size):=hlo
  have HTB:Hid (lo≤tb):=htb
  have HNO:Hid (¬ Tells (D k) (rowsL l t)):=hno
  have HYES:Hid (∀ i,i<3→i≠k→Tells (D i) (rowsL l t)):=hyes
  clear h3 hc hv ht hg hlo htb hno hyes
  go_enter Tryz.func31,Tryz.ntmps31
  go_wp2_with fail
  refine Calls.mono KL.out ?_
  rintro e w1 ⟨s,c,v,rfl,hon,hrd,hta,htc⟩
  have hwl:wrongL (c 0) (c 1) (c 2) (rightC a cap l t)=[(k:Int)] :=
    wrong_one hk (fun h=>HNO.out (((hrd k hk).tells HG.out).1 h)) (fun i hi hik=>((hrd i hi).tells HG.out).2 (HYES.out i hi hik))
  rw [hwl] at hon hta
  have HC:Hid (ScrubF lo N w w1 P P D D tb (mixS [(k:Int)] s so 3) a cap l t v k 0) :=
    ⟨⟨H3.out.farT (fun k C T fr e hT=>touch_far HT.out htc k C T fr e (rd_far (.inl hT))),fun _ _=>rfl,fun _ _ _=>⟨rfl,rfl⟩,(HCL.out k hk).1.hurt (HCL.out k hk).2,HV.out.go (htc.below (fun k hk=>by rw [hk];exact HTB.out) HLO.out),htc.below (fun k hk=>by rw [hk];exact HTB.out) HLO.out,LetT.of_trio HT.out (fun j hj hne=>htc.block j hj hne),fun b hb=>.inl hb⟩,hta,hon,fun _=>⟨rfl,rfl⟩⟩
  obtain ⟨va,vc,hv',-⟩:=OwnsN.nums hon
  subst hv'
  simp only [List.length_singleton]
  clear KL hon hrd hta htc hwl
  go_wp2_with fail
  go_loopg [13] 2 (fun kx vi wr=>∃ (j:Nat) (P':Nat→Dp) (D':Nat→Dk) (S:Nat→Option Nat),vi=.int .i64 j∧j≤1∧1 - j≤kx∧Hid (ScrubF lo N w wr P P' D D' tb S a cap l t (.slice va 1 vc) k j))
  case atStart=>exact ⟨0,P,D,_,rfl,Nat.zero_le _,by omega,HC⟩
  case round =>
    obtain ⟨j,P',D',S,rfl,hj,hjx,HJ⟩:=hrel
    by_cases hlt:j<1
    · obtain rfl:j=0:=by omega
      obtain ⟨va2,vc2,hve,hnu⟩:=OwnsN.nums HJ.out.nums
      obtain ⟨e1,e2⟩:va2=va∧vc2=vc:=by injection hve with a1 a2 a3;exact ⟨a1.symm,a3.symm⟩
      subst e1 e2
      obtain ⟨bw,off,rfl,x0⟩:=hnu 0 (by simp)
      simp only [List.getElem_cons_zero] at x0
      have x0:wr.cell? ⟨bw,off,none⟩=some (.int .i64 (k:Int)):=x0
      have HLW:Hid (lo≤wr.heap.size):=Nat.le_trans HLO.out HJ.out.mend.bel.size
      have HDK:Hid (D' k=D k∧P' k=P k):=HJ.out.none rfl
      have kcH:Hid (∀ W,Below wr.heap.size wr W→Calls Tryz.prog 60 #[dptr (P k),.agg #[.slice a l.length cap,.int .i64 t]] W fun e w'=>∃ (v:Value) (n:Int) (u:Value) (d':Dk),e=.returned (.tuple #[v,errV n])∧((n=0∧∃ b,v=.pointer (some ⟨b,0,none⟩))∨(¬ n=0∧v=.pointer none))∧LaidF wr w' N (P k) u d'):=fun W hb=>by
        have hJ:=HJ.out.below hb HLW.out
        have hdk:=hJ.mend.three.disk k hk
        have hlk:=hJ.mend.three.lo k hk
        rw [HDK.out.1,HDK.out.2] at hdk
        rw [HDK.out.2] at hlk
        refine (layF_any N (P k) (D k) a cap l t W hdk (HCL.out k hk).1 (HCL.out k hk).2 hN hN2 HG.out hJ.trio.files (hJ.mend.vars.mono hlk) hdk.loSize).mono ?_
        rintro e w' ⟨v,n,u,d',h1,h0,h2⟩
        exact ⟨v,n,u,d',h1,h0,h2.from hb⟩
      clear hnu hve
      have cellsOf:Hid (∀ W,TrioAt W tb P S a cap l t→(W.cell? ⟨tb,k,none⟩=some (dptr (P k))∧W.cell? ⟨tb,6,none⟩=some (.slice a l.length cap)∧W.cell? ⟨tb,7,none⟩=some (.int .i64 t)∧Hid (TrioAt W tb P S a cap l t))):=fun W h=>by
        have hc:=h.cells
        refine ⟨?_,hc.q0,hc.q1,h⟩
        rcases (show k=0∨k=1∨k=2 by omega) with rfl | rfl | rfl
        · exact hc.d0
        · exact hc.d1
        · exact hc.d2
      obtain ⟨y0,q0,q1,-⟩:=cellsOf.out wr HJ.out.trio
      have htl:=HJ.out.trio.lt
      have hkz:(k:Int)<3:=by omega
      have hkz0:(0:Int)≤(k:Int):=by omega
      go_wp2_with fail
      go_region_held3 (fun W=>W.cell? ⟨tb,k,none⟩=some (dptr (P k))∧W.cell? ⟨tb,6,none⟩=some (.slice a l.length cap)∧W.cell? ⟨tb,7,none⟩=some (.int .i64 t)∧Hid (TrioAt W tb P S a cap l t))
        (first | exact cellsOf.out _ (HJ.out.trio.below (Below.drew (Below.refl _ _))) | exact cellsOf.out _ hTa.out)
        (first
          | (go_at_call 60
             refine (kcH.out _ (Below.drew (Below.refl _ _))).mono ?_
             rintro e wa ⟨vs,ns,u,d',rfl,hvs,hl9⟩
             have hLa:Hid (LaidF wr wa N (P k) u d'):=hl9
             have hTa:Hid (TrioAt wa tb P S a cap l t):=HJ.out.trio.touch (by have h1:=HJ.out.mend.three.disk k hk;rw [HDK.out.1,HDK.out.2] at h1;exact h1) hl9.touch
             have hVa:Hid ((ns=0∧∃ b,vs=.pointer (some ⟨b,0,none⟩))∨(¬ ns=0∧vs=.pointer none)):=hvs
             clear hl9 hvs))
      rename_i hHeld
      clear hHeld
      have HTA:Hid (TrioAt wa tb P S a cap l t):=hTa
      have HMD:Hid (MendTo lo N w wa P (upd P' k { P' k with wv:=u }) D (upd D' k d') k):=HJ.out.laid hk (HCL.out k hk).1.wr HLW.out hLa.out
      have HTr:Hid (∀ (q:World),q=wa.setCell ⟨tb,3+k,none⟩ vs→True):=fun _ _=>trivial
      rcases hVa.out with ⟨hn0,b,hb⟩ | ⟨hn0,hb⟩
      case inr =>
        subst hb
        have HNE:Hid (errV ns=.iface 90 (.int .i64 ns)):=errV_pos hn0
        rw [errV_pos hn0]
        have HE:Hid (ScrubFS lo N w P D k (.returned (.tuple #[.int .i64 0,.iface 90 (.int .i64 ns)])) wa):=⟨0,ns,_,_,by rw [HNE.out],HMD.out⟩
        clear kcH cellsOf y0 q0 q1 x0 hn0 HTr
        go_wp2
        try simp only [Exit.inBlock,Exit.then]
        refine bodyPost_ret (v:=.tuple #[.int .i64 0,.iface 90 (.int .i64 ns)]) (by simp [results,Tryz.results31,go_sem]) rfl HE.out
      subst hb hn0
      rw [errV_zero rfl]
      have HN:Hid (ScrubF lo N w (wa.setCell ⟨tb,3+k,none⟩ (sptr (some b))) P (upd P' k { P' k with wv:=u }) D (upd D' k d') tb (upd S k (some b)) a cap l t (.slice (some ⟨bw,off,none⟩) 1 vc2) k 1):=by
        refine ⟨HMD.out.put HTA.out HTB.out,HTA.out.put hk (some b),?_,fun h=>by cases h⟩
        exact nums_far (nums_touch HJ.out.nums (by have h1:=HJ.out.mend.three.disk k hk;rw [HDK.out.1,HDK.out.2] at h1;exact h1) hLa.out.touch) (fun m C fr e=>set_far HTA.out m C _ fr e (by decide))
      have hcell:∃ x,wa.cell? ⟨tb,3+k,none⟩=some x:=by
        have hh:=HTA.out.cells
        rcases (show k=0∨k=1∨k=2 by omega) with rfl | rfl | rfl
        · exact ⟨_,hh.s0⟩
        · exact ⟨_,hh.s1⟩
        · exact ⟨_,hh.s2⟩
      obtain ⟨x,hx⟩:=hcell
      have hfr:=HTA.out.cells.fr (3+k)
      have hlt4:=HTA.out.lt
      clear kcH cellsOf y0 q0 q1 x0 HTr
      go_wp2_with fail
      go_roundg (1 - (0+1))
      case measure=>omega
      case rel=>exact ⟨1,_,_,_,by go_num,by omega,Nat.le_refl _,HN⟩
    · obtain rfl:j=1:=by omega
      have HEND:Hid (ScrubFS lo N w P D k (.returned (.tuple #[.int .i64 1,.nilIface])) wr):=⟨1,0,P',D',by rw [errV_zero rfl],HJ.out.mend⟩
      go_wp2
      try simp only [Exit.inBlock,Exit.then]
      refine bodyPost_ret (v:=.tuple #[.int .i64 1,.nilIface]) (by simp [results,Tryz.results31,go_sem]) rfl HEND.out
end Go.Proofs.YtihnghnafpgdfadGreatDoor
