/- What the proofs stand on, part 36: ConsSay, ConsBegin, ConsMany, ConsHello, ConsHi, ConsRefB, ConsRefE, ConsRefC, ConsRefD, ConsRefF, ConsRefG. -/
import Derived.Deep.RegionHeld3
import Derived.Deep.DeepCutAuto
import Derived.Test.YtihnghnafpgdfadGreatDoorSk35
import Derived.Test.YtihnghnafpgdfadGreatDoorSk34
import Derived.Test.YtihnghnafpgdfadGreatDoorSk09
import Derived.Test.YtihnghnafpgdfadGreatDoorSk07
import Derived.Test.YtihnghnafpgdfadGreatDoorSk10
set_option linter.unusedVariables false
set_option linter.unusedSimpArgs false
set_option maxRecDepth 100000
set_option maxHeartbeats 1000000
namespace Go.Proofs.YtihnghnafpgdfadGreatDoor
open Go Go.RowKit Go.BigFrame
variable {W W' w w' w0 w1 wr:World}{P P0:Nat→Dp}{B cap gk gn i j k m n sb tb:Nat}{C:Array Value}{D:Nat→Dk}{so:Nat→Option Nat}{a:Option Addr}{l:List Fi}{t:Int}{row:Option Nat}{d:Dk}{line s v x y:ByteArray}{e:Ending}{ans:List ByteArray}{T:TypeId}{fr:Nat × Nat}{f:Fi}
abbrev SayQ (r:ByteArray × List Fi × Int):ByteArray→(Nat→Dk)→List Fi→Int→Nat→Prop:=fun s _ l2 t2 k2=>k2=3∧(s,l2,t2)=r
theorem zsn (v:ByteArray)(w0 w:World)(P0 P:Nat→Dp)(D:Nat→Dk)(tb:Nat)(so:Nat→Option Nat)(a:Option Addr)(cap:Nat)(l:List Fi)(t:Int)(hc:CLo w0)(h:Ses w0 w P0 P D tb so a cap l t 3) :
 Calls Tryz.prog 98 #[.pointer (some ⟨w0.heap.size,0,none⟩),.string v] w (zaD w0 w P0 (SayQ (zcu v l t))):=by
 by_cases h1:v=allB
 · rw [show zcu v l t=(zdx l,l,t) from if_pos h1,h1]
   exact (zmY w0 w P0 P D tb so a cap l t 3 h).mono fun e w' hs=>hs.mono fun s D2 l2 t2 k2 hq=>⟨hq.1,hq.2.2⟩
 by_cases h2:v=zr1
 · rw [show zcu v l t=(⟨(Lib.itoa t).toArray⟩,l,t) by unfold zcu;rw [if_neg h1,if_pos h2],h2]
   exact (zl1 w0 w P0 P D tb so a cap l t 3 hc h).mono fun e w' hs=>hs.mono fun s D2 l2 t2 k2 hq=>⟨hq.1,hq.2.2⟩
 have none0:∀ {s:ByteArray} {l2:List Fi} {t2:Int} {k2:Nat},(∃ n:Nat,n≤1∧(n=1→3<3)∧(n=0↔∀ i,i<3→zdj (D i) (zaw l t))∧k2=(if n=1 then 3 else 3)∧(s,l2,t2)=(⟨(Lib.itoa n).toArray⟩,l,t))→k2=3∧(s,l2,t2)=(⟨(Lib.itoa 0).toArray⟩,l,t):=by
  rintro s l2 t2 k2 ⟨n,h1,h2,-,h3,h4⟩
  have hn:n=0:=by
   have:n≠1:=fun e=>absurd (h2 e) (by omega)
   omega
  subst hn;exact ⟨by simpa using h3,h4⟩
 by_cases h3:v=zjJ
 · rw [show zcu v l t=(⟨(Lib.itoa 0).toArray⟩,l,t) by unfold zcu;rw [if_neg h1,if_neg h2,if_pos h3],h3]
   exact (zgx w0 w P0 P D tb so a cap l t 3 hc h).mono fun e w' hs=>hs.mono fun s D2 l2 t2 k2 hq=>none0 hq
 by_cases h4:v=zrw
 · rw [show zcu v l t=(⟨(Lib.itoa 0).toArray⟩,l,t) by unfold zcu;rw [if_neg h1,if_neg h2,if_neg h3,if_pos h4],h4]
   exact (zlL w0 w P0 P D tb so a cap l t 3 hc h).mono fun e w' hs=>hs.mono fun s D2 l2 t2 k2 hq=>none0 hq
 rw [show zcu v l t=(errT 4,l,t) by unfold zcu;rw [if_neg h1,if_neg h2,if_neg h3,if_neg h4]];exact (zmF v 3 w0 w P0 P D tb so a cap l t h h1 h2 h3 h4).mono fun e w' hs=>hs.mono fun s D2 l2 t2 k2 hq=>⟨hq.1,hq.2.2⟩
theorem zug (v x:ByteArray)(w0 w:World)(P0 P:Nat→Dp)(D:Nat→Dk)(tb:Nat)(so:Nat→Option Nat)(a:Option Addr)(cap:Nat)(l:List Fi)(t:Int)(hc:CLo w0)(h:Ses w0 w P0 P D tb so a cap l t 3)(hx:x.size≤100) :
 Calls Tryz.prog 99 #[.pointer (some ⟨w0.heap.size,0,none⟩),.string v,.string x] w (zaD w0 w P0 (SayQ (oneC v x l t))):=by
 by_cases h1:v=zrY
 · rw [show oneC v x l t=zaX (zbb l t x) l t from if_pos h1,h1]
   exact zoz x w0 w P0 P D tb so a cap l t 3 h hx
 by_cases h2:v=zrG
 · rw [show oneC v x l t=(zb7 l x,l,t) by unfold oneC;rw [if_neg h1,if_pos h2],h2]
   exact (zox x 3 w0 w P0 P D tb so a cap l t hc h hx).mono fun e w' hs=>hs.mono fun s D2 l2 t2 k2 hq=>⟨hq.1,hq.2.2⟩
 by_cases h3:v=zoY
 · rw [show oneC v x l t=(zcp x,l,t) by unfold oneC;rw [if_neg h1,if_neg h2,if_pos h3],h3]
   rcases zkP x with ⟨n,hn,hd⟩ | hd | hd
   · rw [show zcp x=⟨#[45]⟩ from if_pos (by rw [hd])]
     exact (zfE x n 3 w0 w P0 P D tb so a cap l t hc h hx hn hd (by omega)).mono fun e w' hs=>hs.mono fun s D2 l2 t2 k2 hq=>⟨hq.1,hq.2.2⟩
   · rw [show zcp x=errT 4 by unfold zcp;rw [hd];rfl]
     exact (zgC x 3 w0 w P0 P D tb so a cap l t hc h hx 4 (.inl rfl) hd).mono fun e w' hs=>hs.mono fun s D2 l2 t2 k2 hq=>⟨hq.1,hq.2.2⟩
   · rw [show zcp x=errT 5 by unfold zcp;rw [hd];rfl]
     exact (zgC x 3 w0 w P0 P D tb so a cap l t hc h hx 5 (.inr rfl) hd).mono fun e w' hs=>hs.mono fun s D2 l2 t2 k2 hq=>⟨hq.1,hq.2.2⟩
 rw [show oneC v x l t=(errT 4,l,t) by unfold oneC;rw [if_neg h1,if_neg h2,if_neg h3]];exact (zqK v x 3 w0 w P0 P D tb so a cap l t h h1 h2 h3).mono fun e w' hs=>hs.mono fun s D2 l2 t2 k2 hq=>⟨hq.1,hq.2.2⟩
theorem zut (v x y:ByteArray)(w0 w:World)(P0 P:Nat→Dp)(D:Nat→Dk)(tb:Nat)(so:Nat→Option Nat)(a:Option Addr)(cap:Nat)(l:List Fi)(t:Int)(hc:CLo w0)(h:Ses w0 w P0 P D tb so a cap l t 3)(hx:x.size≤100)(hy:y.size≤100)(ha:v≠armB∧v≠zpj) :
 Calls Tryz.prog 100 #[.pointer (some ⟨w0.heap.size,0,none⟩),.string v,.string x,.string y] w (zaD w0 w P0 (SayQ (twoC v x y l t))):=by
 by_cases h1:v=znq
 · rw [show twoC v x y l t=zeG x y l t from if_pos h1,h1]
   exact znC x y w0 w P0 P D tb so a cap l t 3 h hx hy
 by_cases h2:v=zrb
 · rw [show twoC v x y l t=zaX (zax l t x y) l t by unfold twoC;rw [if_neg h1,if_pos h2],h2]
   exact zoW x y w0 w P0 P D tb so a cap l t 3 h hx hy
 by_cases h3:v=zsz
 · rw [show twoC v x y l t=zaX (zbs l t x y) l t by unfold twoC;rw [if_neg h1,if_neg h2,if_pos h3],h3]
   exact zoh x y w0 w P0 P D tb so a cap l t 3 h hx hy
 by_cases h4:v=zml
 · rw [show twoC v x y l t=(zb2 x y,l,t) by unfold twoC;rw [if_neg h1,if_neg h2,if_neg h3,if_pos h4],h4]
   exact znQ x y w0 w P0 P D tb so a cap l t hc h hx hy
 rw [show twoC v x y l t=(errT 4,l,t) by unfold twoC;rw [if_neg h1,if_neg h2,if_neg h3,if_neg h4]];exact (zp6 v x y 3 w0 w P0 P D tb so a cap l t h h1 h2 h3 ha.1 h4 ha.2).mono fun e w' hs=>hs.mono fun s D2 l2 t2 k2 hq=>⟨hq.1,hq.2.2⟩
theorem zuq (line:ByteArray)(w0 w:World)(P0 P:Nat→Dp)(D:Nat→Dk)(tb:Nat)(so:Nat→Option Nat)(a:Option Addr)(cap:Nat)(l:List Fi)(t:Int)(hc:CLo w0)(h:Ses w0 w P0 P D tb so a cap l t 3)(hq:zi4 line) :
 Calls Tryz.prog 65 #[.pointer (some ⟨w0.heap.size,0,none⟩),.string line] w (zaD w0 w P0 (SayQ (sayC line l t))):=by
 by_cases hs:50<line.size
 · rw [show sayC line l t=(errT 4,l,t) from if_pos hs]
   exact (zoH line 3 w0 w P0 P D tb so a cap l t h hs).mono fun e w' hs=>hs.mono fun s D2 l2 t2 k2 hq=>⟨hq.1,hq.2.2⟩
 have hs':line.size≤50:=by omega
 unfold sayC;rw [if_neg hs]
 match hw:zaP line with
 | []=>exact absurd (zg1 line).2 (by rw [hw];simp)
 | [v]=>exact zpx line v _ 3 w0 w P0 P D tb so a cap l t hc h hs' hw (fun W hb=>zsn v w0 W P0 P D tb so a cap l t hc (h.below hb))
 | [v,x] =>
   have hx:x.size≤50:=Nat.le_trans (zeK (by rw [hw];simp)) hs';exact zlO line v x _ 3 w0 w P0 P D tb so a cap l t hc h hs' hw (fun W hb=>zug v x w0 W P0 P D tb so a cap l t hc (h.below hb) (by omega))
 | [v,x,y] =>
   have hx:x.size≤50:=Nat.le_trans (zeK (by rw [hw];simp)) hs';have hy:y.size≤50:=Nat.le_trans (zeK (by rw [hw];simp)) hs';exact zl3 line v x y _ 3 w0 w P0 P D tb so a cap l t hc h hs' hw (fun W hb=>zut v x y w0 W P0 P D tb so a cap l t hc (h.below hb) (by omega) (by omega) (hq.arm hw))
 | v :: x :: y :: z :: r=>exact (zoD line 3 w0 w P0 P D tb so a cap l t hc h hs' (by rw [hw];simp)).mono fun e w' hs=>hs.mono fun s D2 l2 t2 k2 hq=>⟨hq.1,hq.2.2⟩
theorem zlc (line:ByteArray)(w0 w:World)(P0 P:Nat→Dp)(D:Nat→Dk)(tb:Nat)(so:Nat→Option Nat)(a:Option Addr)(cap:Nat)(l:List Fi)(t:Int)(hc:CLo w0)(h:Ses w0 w P0 P D tb so a cap l t 3)(hq:zi4 line) :
 Calls Tryz.prog 36 #[.pointer (some ⟨w0.heap.size,0,none⟩),.string line] w (ziq w0 w P0 (SayQ (sayC line l t))) :=
 zdM line _ w0 w P0 hc (zuq line w0 w P0 P D tb so a cap l t hc h hq)
structure zod (w wr:World)(P:Nat→Dp)(k:Nat):Prop where
 box:wr.heap[w.heap.size]?=some (.cells #[ptD P k 0,ptD P k 1,ptD P k 2,.pointer none] 128 (0,0))
 disk:∀ i,i<k→zab wr (P i) (newD 60)
 lo:∀ i,i<k→w.heap.size≤(P i).lo
 apart:∀ i j,i<k→j<k→i≠j→∀ n,dOwn (P i) n→¬ dOwn (P j) n
 bel:Below w.heap.size w wr
theorem zod.lt (h:zod w wr P k):w.heap.size<wr.heap.size:=(Array.getElem?_eq_some_iff.1 h.box).1
theorem zod.next (h:zod w wr P k) (hk:k<3) (hb:Below wr.heap.size wr w1) (hd:zab w1 ⟨wr.heap.size,B,gn,gk,.slice none 0 0⟩ (newD 60)):
 zod w (w1.setCell ⟨w.heap.size,k,none⟩ (.pointer (some ⟨B,0,none⟩))) (upd P k ⟨wr.heap.size,B,gn,gk,.slice none 0 0⟩) (k+1):=by
 have hb1:=(hb.block _ h.lt).trans h.box
 have farD:∀ {p:Dp} {d:Dk},zab w1 p d→zab (w1.setCell ⟨w.heap.size,k,none⟩ (.pointer (some ⟨B,0,none⟩))) p d:=fun h=>h.farT (fun n C T fr e hT=>Below.heap_setCell _ _ _ _ (fun en=>by
  have en':n=w.heap.size:=en;rw [en',hb1] at e;simp at e;rw [← e.2.1] at hT;revert hT
  decide))
 refine ⟨?_,fun i hi=>?_,fun i hi=>?_,fun i j hi hj hij n h1 h2=>?_,(h.bel.trans (hb.mono h.bel.size)).setCell (Nat.le_refl _) _⟩
 · have h1:=zaZ hb1 k (.pointer (some ⟨B,0,none⟩))
   rcases (show k=0∨k=1∨k=2 by omega) with rfl | rfl | rfl <;> exact h1
 · by_cases e:i=k
   · subst e;rw [zay];exact farD hd
   · rw [zal _ _ e];exact farD ((h.disk i (by omega)).below hb)
 · by_cases e:i=k
   · subst e;rw [zay];exact h.bel.size
   · rw [zal _ _ e];exact h.lo i (by omega)
 · by_cases e1:i=k
   · subst e1
     rw [zay] at h1;rw [zal _ _ (fun e=>hij e.symm)] at h2;have a1:=zd7 hd n h1;have a2:=(h.disk j (by omega)).lts h2;simp at a1;omega
   · rw [zal _ _ e1] at h1
     by_cases e2:j=k
     · subst e2
       rw [zay] at h2;have a1:=zd7 hd n h2;have a2:=(h.disk i (by omega)).lts h1;simp at a1;omega
     · rw [zal _ _ e2] at h2
       exact h.apart i j (by omega) (by omega) hij n h1 h2
structure Bare (w0 w:World)(P:Nat→Dp)(D:Nat→Dk):Prop where
 three:zcH w0.heap.size w P D
 sound:∀ i,i<3→zez 60 (D i) (zaw [] 1)
 vars:zbF w0.heap.size w
 bel:Below w0.heap.size w0 w
 box:w.heap[w0.heap.size]?=some (.cells #[dptr (P 0),dptr (P 1),dptr (P 2),.pointer none] 128 (0,0))
theorem znn (w0 w:World)(P:Nat→Dp)(D:Nat→Dk)(h:Bare w0 w P D) :
 Calls Tryz.prog 64 #[.pointer (some ⟨w0.heap.size,0,none⟩)] w fun e w'=>∃ (tb2:Nat) (P2:Nat→Dp) (D2:Nat→Dk) (so2:Nat→Option Nat) (a2:Option Addr) (cap2:Nat),e=.returned (.tuple #[.int .i64 0,.nilIface])∧Ses w0 w' P P2 D2 tb2 so2 a2 cap2 [] 1 3:=by
 have KO:Hid _:=zkz w0.heap.size P D [] 1 w zjW h.three (fun i hi=>(h.sound i hi).free) h.vars h.bel.size (i:=0) (j:=1) (by omega) (by omega) (by omega) (h.sound 0 (by omega)).tells (h.sound 1 (by omega)).tells;have HS:Hid (Bare w0 w P D):=h;have hb:=h.box;have d0:w.cell? ⟨w0.heap.size,0,none⟩=some (dptr (P 0)):=by rw [zaa hb];rfl
 have d1:w.cell? ⟨w0.heap.size,1,none⟩=some (dptr (P 1)):=by rw [zaa hb];rfl
 have d2:w.cell? ⟨w0.heap.size,2,none⟩=some (dptr (P 2)):=by rw [zaa hb];rfl
 have d3:w.cell? ⟨w0.heap.size,3,none⟩=some (.pointer none):=by rw [zaa hb];rfl
 have hlt:w0.heap.size<w.heap.size:=(Array.getElem?_eq_some_iff.1 hb).1;clear h hb
 go_enter Tryz.func64,Tryz.ntmps64
 go_wp2_with fail
 refine Calls.mono KO.out ?_;rintro e w4 ⟨tb4,n4,P4,D4,S4,a4,c4,rfl,hsz,hmd⟩;have hn:n4=0:=hmd.none.2 (fun i hi=>(HS.out.sound i hi).tells);subst hn;have hb4:=hmd.far _ _ _ _ HS.out.box zfY;have hP:∀ i,i<3→dptr (P4 i)=dptr (P i):=fun i hi=>by unfold dptr;rw [hmd.same i hi]
 obtain ⟨W,hW⟩:∃ y,y=w4.setCell ⟨w0.heap.size,3,none⟩ (.pointer (some ⟨tb4,0,none⟩)):=⟨_,rfl⟩
 have HSW:Hid (Ses w0 W P P4 D4 tb4 S4 a4 c4 [] 1 3):=by
  have hset:=zaZ hb4 3 (.pointer (some ⟨tb4,0,none⟩));have hoff:∀ k,k≠w0.heap.size→W.heap[k]?=w4.heap[k]?:=fun k hk=>by rw [hW];exact Below.heap_setCell _ ⟨w0.heap.size,3,none⟩ _ k hk
  have hbs:Below w0.heap.size w4 W:=by rw [hW];exact (Below.refl _ _).setCell (by show w0.heap.size≤w0.heap.size;omega) _
  have hs:SptC w0.heap.size w0 w4 P P4 D4 tb4 S4 a4 c4 [] 1 3:=⟨hmd.life,hmd.same,hmd.free,fun i hi _=>hmd.sound hi (.inl (HS.out.sound i hi)),HS.out.bel.trans hmd.bel,(LetT.of_below HS.out.bel).trans hmd.far⟩;refine ⟨hs.keep (fun k C T fr e hT=>hoff k (fun ek=>?_)) hbs (fun k C T fr e hT=>(hoff k (by have:=(Array.getElem?_eq_some_iff.1 e).1;omega)).trans (hs.far k C T fr e hT)),?_,Nat.le_refl _⟩
  · rw [ek,hb4] at e
    have e2:128=T:=by cases e;rfl
    subst e2;rcases hT with hT | hT | hT
    · revert hT;unfold zcD;decide
    · revert hT;decide
    · revert hT;decide
  · rw [hW]
    exact hset.trans (by simp)
 have d4:w4.cell? ⟨w0.heap.size,3,none⟩=some (.pointer none):=by rw [zaa hb4];rfl
 have f4:=zaE hb4 3;have hl4:w0.heap.size<w4.heap.size:=(Array.getElem?_eq_some_iff.1 hb4).1;clear hmd hsz KO d0 d1 d2 d3 hb4 hP
 go_wp2_with fail
 try simp only [Exit.inBlock,Exit.then]
 rw [← hW];exact bodyPost_ret (v:=.tuple #[.int .i64 0,.nilIface]) (by simp [results,Tryz.results64,go_sem]) rfl ⟨tb4,P4,D4,S4,a4,c4,rfl,HSW.out⟩
theorem zrL (w:World) (hc:CLo w) :
 Calls Tryz.prog 35 #[] w fun e w'=>∃ (P0:Nat→Dp) (P2:Nat→Dp) (D2:Nat→Dk) (tb2:Nat) (so2:Nat→Option Nat) (a2:Option Addr) (cap2:Nat),e=.returned (.tuple #[.pointer (some ⟨w.heap.size,0,none⟩),.nilIface])∧Ses w w' P0 P2 D2 tb2 so2 a2 cap2 [] 1 3:=by
 have HV:Hid (zbF w.heap.size w):=⟨w,hc.1.vars,Nat.le_refl _,Below.refl _ _⟩;clear hc;obtain ⟨W,hW⟩:∃ y,y=w.alloc (.cells #[.pointer none,.pointer none,.pointer none,.pointer none] 128):=⟨_,rfl⟩
 have HN0:Hid (zod w W (fun _=>⟨0,0,0,0,.slice none 0 0⟩) 0):=by
  rw [hW];exact ⟨World.alloc_heap_new w _,fun i h=>absurd h (Nat.not_lt_zero _),fun i h=>absurd h (Nat.not_lt_zero _),fun i j h=>absurd h (Nat.not_lt_zero _),(Below.refl _ _).alloc (Nat.le_refl _) _⟩
 go_enter Tryz.func35,Tryz.ntmps35
 go_wp2_with fail
 rw [← hW];clear hW
 go_loopg [9] 4 (fun kx vi wr=>∃ (k:Nat) (P:Nat→Dp),vi=.int .i64 k∧k≤3∧3 - k≤kx∧Hid (zod w wr P k))
 case atStart=>exact ⟨0,_,rfl,by omega,by omega,HN0⟩
 case round =>
  obtain ⟨k,P,rfl,hk,hkx,HN⟩:=hrel
  by_cases hlt:k<3
  · have hltz:(k:Int)<3:=by omega
    have hkz0:(0:Int)≤(k:Int):=by omega
    have KD:Hid _:=zme 60 wr (by omega) (by omega)
    go_wp2_with fail
    refine Calls.mono KD.out ?_;rintro e w1 ⟨B,gn,gk,rfl,hd,hb⟩;have HNX:Hid _:=HN.out.next hlt hb hd;have hbx:=(hb.block _ HN.out.lt).trans HN.out.box
    have hcell:∃ x,w1.cell? ⟨w.heap.size,k,none⟩=some x:=by
     rcases (show k=0∨k=1∨k=2 by omega) with rfl | rfl | rfl
     · exact ⟨_,by rw [zaa hbx];rfl⟩
     · exact ⟨_,by rw [zaa hbx];rfl⟩
     · exact ⟨_,by rw [zaa hbx];rfl⟩
    obtain ⟨x,hx⟩:=hcell;have hf:=zaE hbx k;have hl:w.heap.size<w1.heap.size:=(Array.getElem?_eq_some_iff.1 hbx).1;clear hb hd hbx KD;go_wp2
    go_roundg (3 - (k+1))
    case measure=>omega
    case rel=>exact ⟨k+1,_,by go_num,by omega,Nat.le_refl _,HNX⟩
  · have hk3:k=3:=by omega
    subst hk3;have H3:Hid (zcH w.heap.size wr P (fun _=>newD 60)):=⟨fun i hi=>HN.out.disk i hi,fun i hi=>HN.out.lo i hi,fun i j hi hj hij=>HN.out.apart i j hi hj hij⟩;have KF:Hid _:=zks w.heap.size 60 P (fun _=>newD 60) wr H3.out (fun i _=>zsI 60) (by omega) (by omega) (HV.out.go HN.out.bel) HN.out.bel.size;have hbx:=HN.out.box;have y0:wr.cell? ⟨w.heap.size,0,none⟩=some (dptr (P 0)):=by rw [zaa hbx];rfl
    have y1:wr.cell? ⟨w.heap.size,1,none⟩=some (dptr (P 1)):=by rw [zaa hbx];rfl
    have y2:wr.cell? ⟨w.heap.size,2,none⟩=some (dptr (P 2)):=by rw [zaa hbx];rfl
    have hdl:=HN.out.lt;clear hbx
    go_wp2_with fail
    refine Calls.mono KF.out ?_;rintro e w2 ⟨P2,D2,rfl,hf⟩
    have HBR:Hid (Bare w w2 P2 D2):=by
     have hbx:=hf.far _ _ _ _ HN.out.box zfY;have e:∀ i,i<3→ptD P 3 i=dptr (P2 i):=fun i hi=>by unfold ptD;rw [if_pos hi];unfold dptr;rw [hf.same i hi]
     rw [e 0 (by omega),e 1 (by omega),e 2 (by omega)] at hbx;exact ⟨hf.three,fun i hi=>hf.done i hi,hf.vars,HN.out.bel.trans hf.bel,hbx⟩
    have KO:Hid _:=znn w w2 P2 D2 HBR.out;clear hf KF y0 y1 y2 hdl
    go_wp2_with fail
    refine Calls.mono KO.out ?_;rintro e w3 ⟨tb3,P3,D3,so3,a3,c3,rfl,hs⟩;have HS:Hid (Ses w w3 P2 P3 D3 tb3 so3 a3 c3 [] 1 3):=hs;clear hs KO;go_wp2
    try simp only [Exit.inBlock,Exit.then]
    exact bodyPost_ret (v:=.tuple #[.pointer (some ⟨w.heap.size,0,none⟩),.nilIface]) (by simp [results,Tryz.results35,go_sem]) rfl ⟨P2,P3,D3,tb3,so3,a3,c3,rfl,HS.out⟩
theorem zrr:zqJ C 9:=.inl ⟨by decide,by decide,by decide,by decide,by decide,by decide⟩
theorem za0.stay {v:Value}{l:List ByteArray}(h:za0 w B v l)(hs:Stay sb w w')(hB:sb<B):za0 w' B v l :=
 zaj h (fun g hg=>by
  obtain ⟨c,f,e⟩:=Lib.ownsRow_kind h g hg;have h1:=(h.lt g hg).1;exact (hs g c _ f (by omega) e zrr).trans e.symm)
theorem Ses.grown (h:Ses w0 w P0 P D tb so a cap l t k)(hg:w.grownBy W row)(hr:∀ q,row=some q→w0.heap.size<q∧∃ C fr,w.heap[q]?=some (.cells C 9 fr)):Ses w0 W P0 P D tb so a cap l t k:=by
 have off:∀ (k:Nat) (C:Array Value) (T:TypeId) (fr:Nat × Nat),w.heap[k]?=some (.cells C T fr)→T≠9→W.heap[k]?=w.heap[k]?:=fun k C T fr e hT=>hg.block k (Array.getElem?_eq_some_iff.1 e).1 (fun ek=>by
  obtain ⟨_,C2,fr2,e2⟩:=hr k ek.symm;rw [e] at e2;cases e2;exact hT rfl)
 have hb:Below w0.heap.size w W:=(Below.refl _ _).grown hg h.spt.life.low (fun q hq=>Nat.le_of_lt (hr q hq).1);refine ⟨h.spt.keep (fun k C T fr e hT=>off k C T fr e (fun eT=>?_)) hb (fun k C T fr e hT=>(hb.block k (Array.getElem?_eq_some_iff.1 e).1).trans (h.spt.far k C T fr e hT)),(off _ _ _ _ h.box (by decide)).trans h.box,h.three⟩;subst eT;rcases hT with hT | hT | hT
 · revert hT;unfold zcD;decide
 · revert hT;decide
 · revert hT;decide
theorem znr (a:Option Addr)(cap n:Nat)(w:World)(hL:80<n)(hm:n≤maxLen) :
 Calls Tryz.prog 20 #[.slice a n cap] w fun e w'=>e=.returned (.tuple #[.slice none 0 0,errV 2])∧w'=w:=by
 unfold maxLen at hm;have hz:(80:Int)<(n:Int):=by omega
 have HE:Hid (errV 2=.iface 90 (.int .i64 2)):=zak (show ¬ (2:Int)=0 by decide)
 go_enter Tryz.func20,Tryz.ntmps20
 go_wp2
 try simp only [Exit.inBlock,Exit.then]
 exact bodyPost_ret (v:=.tuple #[.slice none 0 0,.iface 90 (.int .i64 2)]) (by simp [results,Tryz.results20,go_sem]) rfl ⟨by rw [HE.out],rfl⟩
theorem ziy (R:Nat→List ByteArray→(Nat→Dk)→List Fi→Int→Nat→Prop) (a:Option Addr) (cap:Nat) (L:List ByteArray) (w:World) (hc:CLo w) (hs:Strs w a L) (hL:L.length≤80) (h0:∀ D,R 0 [] D [] 1 3)
 (K:∀ (n:Nat) (hn:n<L.length) (ans:List ByteArray) (P0 P:Nat→Dp) (D:Nat→Dk) (tb:Nat) (so:Nat→Option Nat) (aq:Option Addr) (cq:Nat) (l:List Fi) (t:Int) (k:Nat) (w1:World),R n ans D l t k→Ses w w1 P0 P D tb so aq cq l t k →
   Calls Tryz.prog 36 #[.pointer (some ⟨w.heap.size,0,none⟩),.string L[n]] w1 (ziq w w1 P0 (fun s D2 l2 t2 k2=>R (n+1) (ans ++ [s]) D2 l2 t2 k2))) :
 Calls Tryz.prog 20 #[.slice a L.length cap] w fun e w'=>∃ (v:Value) (ans:List ByteArray) (D:Nat→Dk) (l:List Fi) (t:Int) (k:Nat),e=.returned (.tuple #[v,.nilIface])∧za0 w' w.heap.size v ans∧ans.length=L.length∧R L.length ans D l t k∧Below w.heap.size w w':=by
 obtain ⟨i0,hi,hz0,hz1,hz2⟩:=info_parts Tryz.infoString;have HS:Hid (Strs w a L):=hs;have HK:Hid _:=K;have HR0:Hid (∀ D,R 0 [] D [] 1 3):=h0;have KB:Hid _:=zrL w hc;clear hc hs K h0
 go_enter Tryz.func20,Tryz.ntmps20
 go_wp2_with fail
 refine Calls.mono KB.out ?_;rintro e w1 ⟨P0,P1,D1,tb1,so1,a1,c1,rfl,hse⟩;have HSE:Hid (Ses w w1 P0 P1 D1 tb1 so1 a1 c1 [] 1 3):=hse;have HLT:Hid (w.heap.size<w1.heap.size):=hse.cells.2.2.2.2;clear hse KB
 go_wp2_with fail
 go_loopg [6,22] (L.length+1) (fun kx v i wr=>∃ (n:Nat) (ans:List ByteArray) (P:Nat→Dp) (D:Nat→Dk) (tb:Nat) (so:Nat→Option Nat) (aq:Option Addr) (cq:Nat) (l:List Fi) (t:Int) (k:Nat),i=.int .i64 n∧n≤L.length∧L.length - n≤kx∧Hid (ans.length=n)∧Hid (R n ans D l t k)∧Hid (Ses w wr P0 P D tb so aq cq l t k)∧Hid (za0 wr (w.heap.size+1) v ans))
 case atStart=>exact ⟨0,[],P1,D1,tb1,so1,a1,c1,[],1,3,rfl,Nat.zero_le _,by omega,rfl,HR0.out D1,HSE,World.ownsRow_nil _ _ _ _⟩
 case round =>
  obtain ⟨n,ans,P,D,tb,so,aq,cq,l,t,k,rfl,hn,hkx,HAN,HR,HSS,HOW⟩:=hrel
  by_cases hlt:n<L.length
  · have hltz:(n:Int)<(L.length:Int):=by omega
    obtain ⟨b,off,rfl,c0⟩:=HS.out.below (HSS.out.spt.bel) n hlt;have hbl:b<wr.heap.size:=World.block_lt_of_cell? _ _ c0;have KA:Hid _:=HK.out n hlt ans P0 P D tb so aq cq l t k wr HR.out HSS.out
    go_wp2_with fail
    refine Calls.mono KA.out ?_;rintro e w4 ⟨s,P2,D2,tb2,so2,a2,c2,l2,t2,k2,rfl,hs2,hst,hr⟩;have HS4:Hid (Ses w w4 P0 P2 D2 tb2 so2 a2 c2 l2 t2 k2):=hs2;have HR4:Hid (R (n+1) (ans ++ [s]) D2 l2 t2 k2):=hr;have HO4:Hid (za0 w4 (w.heap.size+1) u6 ans):=HOW.out.stay hst (Nat.lt_succ_self _);have hsz4:w.heap.size+1≤w4.heap.size:=hs2.cells.2.2.2.2;have HGR:Hid (∀ W5,(w4.alloc (.cells #[.string s] 9)).grownBy W5 u6.ownBlock→Ses w W5 P0 P2 D2 tb2 so2 a2 c2 l2 t2 k2):=fun W5 hg=>(HS4.out.below ((Below.refl _ _).alloc (Nat.le_refl _) _)).grown hg (fun q hq=>⟨((HO4.out.alloc (.cells #[.string s] 9)).lt q hq).1,Lib.ownsRow_kind (HO4.out.alloc (.cells #[.string s] 9)) q hq⟩)
    have han:=HAN.out;clear hs2 hst hr KA c0 hbl
    go_wp2_with (at_builtin;refine wpList_append_own _ rfl _ _ 34 rfl (w.heap.size+1) 9 i0 _ 1 16 Tryz.underlying34 hi hz0 hz1 hz2 rfl (by decide) _ _ _ rfl (HO4.out.alloc _) ⟨w4.heap.size,0,none⟩ 1 1 [.string s] rfl rfl (zbz w4 (.string s) 9) (zfL s) (by unfold maxLen;omega) (by omega) (by simp;omega) ?_;intro v' w5 hown' hgrow5 hnil5)
    go_roundg (L.length - (n+1))
    case measure=>omega
    case rel=>exact ⟨n+1,ans ++ [s],P2,D2,tb2,so2,a2,c2,l2,t2,k2,by go_num,by omega,Nat.le_refl _,(by show _=_;simp;omega),HR4,HGR.out _ hgrow5,za0.snoc hown'⟩
  · have hn9:n=L.length:=by omega
    have HEND:Hid (∃ (v:Value) (ans:List ByteArray) (D:Nat→Dk) (l:List Fi) (t:Int) (k:Nat),Ending.returned (.tuple #[u6,.nilIface])=.returned (.tuple #[v,.nilIface])∧za0 wr w.heap.size v ans∧ans.length=L.length∧R L.length ans D l t k∧Below w.heap.size w wr):=by
     subst hn9;exact ⟨u6,ans,D,l,t,k,rfl,za0.mono HOW.out (Nat.le_succ _),HAN.out,HR.out,HSS.out.spt.bel⟩
    go_wp2
    try simp only [Exit.inBlock,Exit.then]
    exact bodyPost_ret (v:=.tuple #[u6,.nilIface]) (by simp [results,Tryz.results20,go_sem]) rfl HEND.out
theorem zjC (hf:Free d 60 0)(hi:i<60):(zaO (zaN d (i:Int) zb0)).now=d.now.set i (padD zb0):=by
 have st:∀ {d:Dk} {k:Nat},Free d 60 k→zb1 d=0:=fun {d k} hf=>by
  unfold zb1;rw [if_neg];rintro (e | e)
  · rw [hf.up] at e;cases e
  · have:=hf.left;omega
 obtain ⟨-,hwf⟩:=zk5 (i:=i) (s:=zb0) hf hi (by decide)
 have hgood:¬ (¬ (0≤(i:Int)∧(i:Int)<(d.now.length:Int))∨40<zb0.size):=by
  rw [hf.len];have:zb0.size=6:=rfl;omega
 have e1:(zaN d (i:Int) zb0).now=d.now.set i (padD zb0):=by
  unfold zaN;rw [if_neg hgood,if_pos (st hf)]
  rfl
 rw [← e1];unfold zaO;rw [if_pos (st hwf)];exact (zbU _).1
theorem zpN (h:d.now.getD j []=padD zb0):¬ zdh d j:=by
 rintro ⟨-,hp⟩;unfold zdC at hp;rw [h] at hp;unfold zbP zp9 padD zb0 at hp;simp [List.isPrefixOf] at hp
theorem ztl (h0:d.now.getD 0 []=padD zb0)(h1:d.now.getD 1 []=padD zb0):zc3 d=none:=by
 unfold zc3 zew whOf;rw [if_neg (zpN h1),if_neg (zpN h0)]
def zt7 (l:List UInt8):Bool:=!([97,114,109,32]:List UInt8).isPrefixOf l && !([115,112,111,105,108,32]:List UInt8).isPrefixOf l
theorem zun (h:zt7 line.data.toList=true):zi4 line:=by
 unfold zt7 at h;simp only [Bool.and_eq_true,Bool.not_eq_true'] at h;refine ⟨fun m e=>?_,fun m e=>?_⟩
 · have:=List.isPrefixOf_iff_prefix.2 (⟨m,e.symm⟩:([97,114,109,32]:List UInt8) <+: line.data.toList)
   rw [h.1] at this;cases this
 · have:=List.isPrefixOf_iff_prefix.2 (⟨m,e.symm⟩:([115,112,111,105,108,32]:List UInt8) <+: line.data.toList)
   rw [h.2] at this;cases this
theorem ziq.to {Q Q':ByteArray→(Nat→Dk)→List Fi→Int→Nat→Prop}(h:ziq w0 w P0 Q e w')(hq:∀ s D l t k,Q s D l t k→Q' s D l t k):ziq w0 w P0 Q' e w':=by
 obtain ⟨s,P2,D2,tb2,so2,a2,cap2,l2,t2,k2,h1,h2,h3,h4⟩:=h;exact ⟨s,P2,D2,tb2,so2,a2,cap2,l2,t2,k2,h1,h2,h3,hq _ _ _ _ _ h4⟩
def ziY:Nat→List Fi × Int × Nat
 | 0=>([],1,3)
 | 1=>(hl1,2,3)
 | 2=>(hl2,3,3)
 | 3=>(hl3,4,3)
 | 7=>(hl4,5,1)
 | 8=>(hl4,5,1)
 | 9=>(hl4,5,1)
 | 10=>(hl4,5,1)
 | _=>(hl4,5,3)
def zpG (n:Nat)(D:Nat→Dk):Prop:=(n=7→(D 1).now.getD 0 []=padD zb0)∧(8≤n→n≤10→zc3 (D 1)=none)
def HiR (n:Nat)(ans:List ByteArray)(D:Nat→Dk)(l:List Fi)(t:Int)(k:Nat):Prop:=ans=zd5.take n∧(l,t,k)=ziY n∧zpG n D
theorem zgy (n:Nat)(line s:ByteArray)(l l2:List Fi)(t t2:Int)(hcalm:zt7 line.data.toList=true)(hs:sayC line l t=(s,l2,t2))(hst:ziY (n+1)=(l2,t2,3))(hans:zd5.take (n+1)=zd5.take n ++ [s])(hd:∀ D,zpG (n+1) D)
 (w0 w:World) (P0 P:Nat→Dp) (D:Nat→Dk) (tb:Nat) (so:Nat→Option Nat) (a:Option Addr) (cap:Nat) (hc:CLo w0) (h:Ses w0 w P0 P D tb so a cap l t 3) :
 Calls Tryz.prog 36 #[.pointer (some ⟨w0.heap.size,0,none⟩),.string line] w (ziq w0 w P0 (fun s D2 l2 t2 k2=>HiR (n+1) (zd5.take n ++ [s]) D2 l2 t2 k2)) :=
 (zlc line w0 w P0 P D tb so a cap l t hc h (zun hcalm)).mono fun e w' hx=>hx.to (by
   rintro s' D' l' t' k' ⟨rfl,he⟩;rw [hs] at he;cases he;exact ⟨hans.symm,hst.symm,hd _⟩)
theorem zuz (h:HiR n ans D l t k):ans=zd5.take n∧l=(ziY n).1∧t=(ziY n).2.1∧k=(ziY n).2.2∧zpG n D:=by
 obtain ⟨h1,h2,h3⟩:=h;rw [← h2];exact ⟨h1,rfl,rfl,rfl,h3⟩
theorem zui (n:Nat) (hn:n<zh7.length) (ans:List ByteArray) (w0:World) (P0 P:Nat→Dp) (D:Nat→Dk) (tb:Nat) (so:Nat→Option Nat) (aq:Option Addr) (cq:Nat) (l:List Fi) (t:Int) (k:Nat) (w:World) (hc:CLo w0) (hr:HiR n ans D l t k) (h:Ses w0 w P0 P D tb so aq cq l t k) :
 Calls Tryz.prog 36 #[.pointer (some ⟨w0.heap.size,0,none⟩),.string zh7[n]] w (ziq w0 w P0 (fun s D2 l2 t2 k2=>HiR (n+1) (ans ++ [s]) D2 l2 t2 k2)):=by
 obtain ⟨rfl,rfl,rfl,rfl,hd⟩:=zuz hr;have nod:∀ m,¬ m=7→¬ (8≤m∧m≤10)→∀ D,zpG m D:=fun m h1 h2 D=>⟨fun e=>absurd e h1,fun e1 e2=>absurd ⟨e1,e2⟩ h2⟩
 have hn15:n<15:=hn;rcases (show n=0∨n=1∨n=2∨n=3∨n=4∨n=5∨n=6∨n=7∨n=8∨n=9∨n=10∨n=11∨n=12∨n=13∨n=14 by omega) with rfl | rfl | rfl | rfl | rfl | rfl | rfl | rfl | rfl | rfl | rfl | rfl | rfl | rfl | rfl
 · exact zgy 0 _ _ _ _ _ _ (by rfl) zuG rfl rfl (nod _ (by omega) (by omega)) w0 w P0 P D tb so aq cq hc h
 · exact zgy 1 _ _ _ _ _ _ (by rfl) zuM rfl rfl (nod _ (by omega) (by omega)) w0 w P0 P D tb so aq cq hc h
 · exact zgy 2 _ _ _ _ _ _ (by rfl) zuR rfl rfl (nod _ (by omega) (by omega)) w0 w P0 P D tb so aq cq hc h
 · exact zgy 3 _ _ _ _ _ _ (by rfl) zuQ rfl rfl (nod _ (by omega) (by omega)) w0 w P0 P D tb so aq cq hc h
 · exact zgy 4 _ _ _ _ _ _ (by rfl) zuC rfl rfl (nod _ (by omega) (by omega)) w0 w P0 P D tb so aq cq hc h
 · exact zgy 5 _ _ _ _ _ _ (by rfl) zuX rfl rfl (nod _ (by omega) (by omega)) w0 w P0 P D tb so aq cq hc h
 · -- spoil 1 0
   refine (zdM _ _ w0 w P0 hc (zl3 _ _ _ _ _ 3 w0 w P0 P D tb so aq cq hl4 5 hc h (by decide) ztp (fun W hb=>zla ⟨#[49]⟩ ⟨#[48]⟩ 0 1 3 w0 W P0 P D tb so aq cq hl4 5 hc (h.below hb) (by omega) (by omega) (.inl rfl) zu9 zrz (by decide) (by decide)))).mono fun e w' hx=>hx.to ?_
   rintro s' D' l' t' k' ⟨rfl,rfl,he⟩;cases he;refine ⟨rfl,rfl,fun _=>?_,fun e=>absurd e (by omega)⟩;have hf:=h.spt.free 1 (by omega);rw [zay,zjC hf (by omega)];rw [List.getD_eq_getElem?_getD,List.getElem?_set_self (by rw [hf.len];omega)]
   rfl
 · -- spoil 1 1
   refine (zdM _ _ w0 w P0 hc (zl3 _ _ _ _ _ 1 w0 w P0 P D tb so aq cq hl4 5 hc h (by decide) zsZ (fun W hb=>zla ⟨#[49]⟩ ⟨#[49]⟩ 1 1 1 w0 W P0 P D tb so aq cq hl4 5 hc (h.below hb) (by omega) (by omega) (.inr rfl) zu8 zrz (by decide) (by decide)))).mono fun e w' hx=>hx.to ?_
   rintro s' D' l' t' k' ⟨rfl,rfl,he⟩;cases he;refine ⟨rfl,rfl,fun e=>absurd e (by omega),fun _ _=>?_⟩;have hf:=h.spt.free 1 (by omega);have h0:=hd.1 rfl;rw [zay];refine ztl ?_ ?_
   · rw [zjC hf (by omega),List.getD_eq_getElem?_getD,List.getElem?_set_ne (by omega),← List.getD_eq_getElem?_getD]
     exact h0
   · rw [zjC hf (by omega),List.getD_eq_getElem?_getD,List.getElem?_set_self (by rw [hf.len];omega)]
     rfl
 · -- diff 1
   refine (zdM _ _ w0 w P0 hc (zlO _ _ _ _ 1 w0 w P0 P D tb so aq cq hl4 5 hc h (by decide) ztb (fun W hb=>zjP ⟨#[49]⟩ 1 1 w0 W P0 P D tb so aq cq hl4 5 hc (h.below hb) (by omega) zrz (hd.2 (by omega) (by omega)) (by decide)))).mono fun e w' hx=>hx.to ?_
   rintro s' D' l' t' k' ⟨rfl,rfl,he⟩;cases he;exact ⟨by rw [zu2];rfl,rfl,fun e=>absurd e (by omega),fun _ _=>hd.2 (by omega) (by omega)⟩
 · -- diff 2
   refine (zdM _ _ w0 w P0 hc (zlO _ _ _ _ 1 w0 w P0 P D tb so aq cq hl4 5 hc h (by decide) zq1 (fun W hb=>zfE ⟨#[50]⟩ 2 1 w0 W P0 P D tb so aq cq hl4 5 hc (h.below hb) (by decide) (by omega) zuW (by omega)))).mono fun e w' hx=>hx.to ?_
   rintro s' D' l' t' k' ⟨rfl,rfl,he⟩;cases he;exact ⟨rfl,rfl,fun e=>absurd e (by omega),fun _ _=>hd.2 (by omega) (by omega)⟩
 · -- scrub
   refine (zdM _ _ w0 w P0 hc (zpx _ _ _ 1 w0 w P0 P D tb so aq cq hl4 5 hc h (by decide) zrW (fun W hb=>zgx w0 W P0 P D tb so aq cq hl4 5 1 hc (h.below hb)))).mono fun e w' hx=>hx.to ?_
   rintro s' D' l' t' k' ⟨n,h1,-,h3,rfl,he⟩
   have hn:n=1:=by
    have:n≠0:=fun e=>by
     obtain ⟨sd,us,ho⟩:=h3.1 e 1 (by omega);rw [hd.2 (by omega) (by omega)] at ho;cases ho
    omega
   subst hn;cases he;exact ⟨by rw [zuO];rfl,rfl,nod _ (by omega) (by omega) _⟩
 · exact zgy 11 _ _ _ _ _ _ (by rfl) zt3 rfl rfl (nod _ (by omega) (by omega)) w0 w P0 P D tb so aq cq hc h
 · exact zgy 12 _ _ _ _ _ _ (by rfl) zt0 rfl rfl (nod _ (by omega) (by omega)) w0 w P0 P D tb so aq cq hc h
 · exact zgy 13 _ _ _ _ _ _ (by rfl) zud rfl rfl (nod _ (by omega) (by omega)) w0 w P0 P D tb so aq cq hc h
 · exact zgy 14 _ _ _ _ _ _ (by rfl) zuw rfl rfl (nod _ (by omega) (by omega)) w0 w P0 P D tb so aq cq hc h
theorem CLo.go (h:CLo w0)(hb:Below w0.heap.size w0 w):CLo w:=⟨h.vars hb,h.len hb⟩
theorem zk6 {l:List ByteArray}(h:W.heap[B]?=some (.cells (l.map Value.string).toArray T fr)):Strs W (some ⟨B,0,none⟩) l:=fun i hi=>⟨B,0,rfl,by
 rw [zaa h];simp [hi]⟩
theorem zrK (w:World)(hc:CLo w) :
 Calls Tryz.prog 19 #[] w fun e w'=>e=.returned (.bool true)∧Below w.heap.size w w':=by
 obtain ⟨W,hW⟩:∃ y,y=w.alloc (.cells (zh7.map Value.string).toArray 9):=⟨_,rfl⟩
 have hbW:Below w.heap.size w W:=by rw [hW];exact (Below.refl _ _).alloc (Nat.le_refl _) _
 have HBW:Hid (Below w.heap.size w W):=hbW;have hnew:=World.alloc_heap_new w (.cells (zh7.map Value.string).toArray 9);rw [← hW] at hnew;have hcw:=hc.go hbW;have KR:Hid _:=ziy HiR (some ⟨w.heap.size,0,none⟩) 15 zh7 W hcw (zk6 hnew) (by decide) (fun D=>⟨rfl,rfl,fun e=>absurd e (by omega),fun e=>absurd e (by omega)⟩) (fun n hn ans P0 P D tb so aq cq l t k w1 hr hs=>zui n hn ans W P0 P D tb so aq cq l t k w1 hcw hr hs);have KR2:Hid (Calls Tryz.prog 20 #[.slice (some ⟨w.heap.size,0,none⟩) 15 15] W _):=KR.out;clear KR hnew hcw hbW hc
 go_enter Tryz.func19,Tryz.ntmps19
 go_wp2_with fail
 change Calls _ _ _ (w.alloc (.cells (zh7.map Value.string).toArray 9)) _;rw [← hW];clear hW;refine Calls.mono KR2.out ?_;rintro e w1 ⟨v,ans,D,l,t,k,rfl,ho,hlen,hr,hb⟩;have hans:ans=zd5:=hr.1;subst hans;have HB1:Hid (Below w.heap.size w w1):=HBW.out.trans (hb.mono HBW.out.size);obtain ⟨a1,c1,rfl,hst,-,-,hle,-⟩:=za0.texts ho;have HST:Hid (Strs w1 a1 zd5):=hst;have KS:Hid _:=zlS 0 w1 (by omega) (by omega);rw [zac rfl] at KS;clear ho hlen hr hb hst KR2 HBW
 go_wp2_with fail
 refine Calls.mono KS.out ?_;rintro e w2 ⟨rfl,hw2⟩;rw [hw2];clear hw2 w2 KS;obtain ⟨V,hV⟩:∃ y,y=w1.alloc (.cells (zd5.map Value.string).toArray 9):=⟨_,rfl⟩
 have hbV:Below w1.heap.size w1 V:=by rw [hV];exact (Below.refl _ _).alloc (Nat.le_refl _) _
 have hnew:=World.alloc_heap_new w1 (.cells (zd5.map Value.string).toArray 9);rw [← hV] at hnew
 have KT:Hid (Calls Tryz.prog 23 #[.slice a1 15 c1,.slice (some ⟨w1.heap.size,0,none⟩) 15 15] V fun e w'=>e=.returned (.bool true)∧Below w.heap.size w w'):=by
  refine (ze9 a1 (some ⟨w1.heap.size,0,none⟩) c1 15 zd5 zd5 V (by decide) (by decide) (HST.out.below hbV) (zk6 hnew)).mono ?_;rintro e w' ⟨rfl,n,rfl⟩;refine ⟨by rw [show znh zd5 zd5=true from (zeQ _ _).2 rfl],below_drewN (HB1.out.trans (hbV.mono HB1.out.size)) _⟩
 clear hbV hnew;rw [show zd5.length=15 from rfl]
 go_wp2_with fail
 change Calls _ _ _ (w1.alloc (.cells (zd5.map Value.string).toArray 9)) _;rw [← hV];clear hV;refine Calls.mono KT.out ?_;rintro e w3 ⟨rfl,hb3⟩;have HB3:Hid (Below w.heap.size w w3):=hb3;clear hb3 KT;go_wp2
 try simp only [Exit.inBlock,Exit.then]
 exact bodyPost_ret (v:=.bool true) (by simp [results,Tryz.results19,go_sem]) rfl ⟨rfl,HB3.out⟩
structure SBox (w:World)(m:Nat)(a:Option Addr)(cap:Nat)(l:List Fi)(t:Int):Prop where
 blk:w.heap[m]?=some (.cells #[.slice a l.length cap,.int .i64 t,.bool false,.bool false,.bool false] 59 (0,0))
 files:zad w a cap l
theorem SBox.lt (h:SBox w m a cap l t):m<w.heap.size:=(Array.getElem?_eq_some_iff.1 h.blk).1
theorem SBox.below (h:SBox w m a cap l t)(hb:Below w.heap.size w w'):SBox w' m a cap l t:=⟨(hb.block _ h.lt).trans h.blk,h.files.below hb⟩
theorem SBox.cells (h:SBox w m a cap l t):w.cell? ⟨m,0,none⟩=some (.slice a l.length cap)∧w.cell? ⟨m,1,none⟩=some (.int .i64 t)∧(w.frozen? ⟨m,0,none⟩=false∧w.frozen? ⟨m,1,none⟩=false)∧m<w.heap.size :=
 ⟨by rw [zaa h.blk];rfl,by rw [zaa h.blk];rfl,⟨zaE h.blk 0,zaE h.blk 1⟩,h.lt⟩
def zaL (w:World)(m:Nat)(r:ByteArray × List Fi × Int)(e:Ending)(w':World):Prop :=
 ∃ a' cap',e=.returned (.string r.1)∧SBox w' m a' cap' r.2.1 r.2.2∧Below m w w'∧∀ k,k<w.heap.size→k≠m→w'.heap[k]?=w.heap[k]?
theorem zaL.behind {r:ByteArray × List Fi × Int}(h:zaL w1 m r e w')(hb:Below w.heap.size w w1)(hm:m<w.heap.size):zaL w m r e w':=by
 obtain ⟨a,c,h1,h2,h3,h4⟩:=h;exact ⟨a,c,h1,h2,(hb.mono (by omega)).trans h3,fun k hk hkm=>(h4 k (Nat.lt_of_lt_of_le hk hb.size) hkm).trans (hb.block k hk)⟩
theorem zaL.same (h:SBox w m a cap l t)(hb:Below w.heap.size w w'):zaL w m (s,l,t) (.returned (.string s)) w' :=
 ⟨a,cap,rfl,h.below hb,hb.mono (by have:=h.lt;omega),fun k hk _=>hb.block k hk⟩
theorem zfN (m:Nat)(r:Res)(a2:Option Addr)(c2:Nat)(a:Option Addr)(cap:Nat)(l:List Fi)(t:Int)(w:World)(h:SBox w m a cap l t)(hs:zad w a2 c2 r.l)(hr:0≤r.n∧r.n≤100) :
 Calls Tryz.prog 43 #[.pointer (some ⟨m,0,none⟩),.agg #[.slice a2 r.l.length c2,.int .i64 r.t],.int .i64 r.n] w (zaL w m (zaX r l t)):=by
 obtain ⟨W,hW⟩:∃ y,y=w.alloc (.cells #[.slice a2 r.l.length c2,.int .i64 r.t] 32):=⟨_,rfl⟩
 have hbW:Below w.heap.size w W:=by rw [hW];exact (Below.refl _ _).alloc (Nat.le_refl _) _
 have HBW:Hid (Below w.heap.size w W):=hbW;have HSB:Hid (SBox W m a cap l t):=h.below hbW;have HSL:Hid (zad W a2 c2 r.l):=hs.below hbW;have HLM:Hid (m<w.heap.size):=h.lt;have hQ:=QBox.new w (.slice a2 r.l.length c2) r.t 32;rw [← hW] at hQ;clear h hs hbW;obtain ⟨x0,x1,⟨f0,f1⟩,xl⟩:=HSB.out.cells
 by_cases hn:r.n=0
 · have HX:Hid (zaX r l t=(okB,r.l,r.t)):=if_pos hn
   rw [HX.out,hn];clear hn hr;obtain ⟨y0,y1,g0,g1,yl,_⟩:=hQ;rename_i hQ2;clear hQ2;rw [hW] at x0 x1 f0 f1 xl y0 y1 g0 g1 yl
   go_enter Tryz.func43,Tryz.ntmps43
   go_wp2
   try simp only [Exit.inBlock,Exit.then]
   rw [← hW];have hoff:∀ k,k≠m→((W.setCell ⟨m,0,none⟩ (.slice a2 r.l.length c2)).setCell ⟨m,1,none⟩ (.int .i64 r.t)).heap[k]?=W.heap[k]?:=fun k hk=>(Below.heap_setCell _ _ _ _ hk).trans (Below.heap_setCell _ _ _ _ hk)
   have hset:=zaZ (zaZ HSB.out.blk 0 (.slice a2 r.l.length c2)) 1 (.int .i64 r.t)
   have hcl:zad ((W.setCell ⟨m,0,none⟩ (.slice a2 r.l.length c2)).setCell ⟨m,1,none⟩ (.int .i64 r.t)) a2 c2 r.l:=HSL.out.keep (fun k C fr e=>hoff k (fun ek=>by
    subst ek;rw [HSB.out.blk] at e;simp at e))
   exact bodyPost_ret (v:=.string okB) (by simp [results,Tryz.results43,go_sem,okB]) rfl ⟨a2,c2,rfl,⟨hset.trans (by simp),hcl⟩,((HBW.out.mono (Nat.le_of_lt HLM.out)).setCell (Nat.le_refl _) _).setCell (Nat.le_refl _) _,fun k hk hkm=>(hoff k hkm).trans (HBW.out.block k hk)⟩
 · have HX:Hid (zaX r l t=(errT r.n,l,t)):=if_neg hn
   obtain ⟨k,hk⟩:∃ k:Nat,r.n=(k:Int):=⟨r.n.toNat,by omega⟩
   have KF:Hid _:=zbf k W (by omega);have hk0:0<(k:Int):=by omega
   rw [HX.out,hk];clear hn hr hk hQ x0 x1 f0 f1 xl
   go_enter Tryz.func43,Tryz.ntmps43
   go_wp2_with fail
   rw [← hW];clear hW;refine Calls.mono KF.out ?_;rintro e w1 ⟨rfl,hb1⟩;have HB1:Hid (Below W.heap.size W w1):=hb1;clear hb1 KF;go_wp2
   try simp only [Exit.inBlock,Exit.then]
   exact bodyPost_ret (v:=.string (errT (k:Int))) (by simp [results,Tryz.results43,go_sem]) rfl ((zaL.same HSB.out HB1.out).behind HBW.out HLM.out)
theorem zmW:∀ {l a:List UInt8},zck l=[a]→a=l
 | [],a,h=>by simp [zck] at h;rw [h]
 | c :: l,a,h=>by
   rw [zck] at h
   by_cases hc:c=32
   · rw [if_pos hc] at h
     injection h with h1 h2
     cases l with
     | nil=>simp [zck] at h2
     | cons d r =>
       exfalso
       rw [zck] at h2
       split at h2
       · cases h2
       · split at h2 <;> cases h2
   · rw [if_neg hc] at h
     cases hw:zck l with
     | nil=>cases l with
       | nil=>simp [zck] at hw
       | cons d r =>
         exfalso
         rw [zck] at hw
         split at hw
         · cases hw
         · split at hw <;> cases hw
     | cons x y =>
       rw [hw] at h
       injection h with h1 h2
       subst h2;have:=zmW hw;rw [← h1,this]
theorem zrP (h:zaP line=[v]):v=line:=by
 unfold zaP at h;cases hw:zck line.data.toList with
 | nil=>rw [hw] at h;simp at h
 | cons p q =>
   cases q with
   | nil =>
     rw [hw] at h;simp at h;have e:=zmW hw;rw [← h,e]
   | cons q r=>rw [hw] at h;simp at h
theorem zdl (line v:ByteArray)(w:World)(hs:line.size≤50)(hw:zaP line=[v]) :
 Calls Tryz.prog 38 #[.string line] w fun e w'=>∃ a c,e=.returned (.slice a 1 c)∧Below w.heap.size w w':=by
 refine (zel line w (by omega)).mono ?_;rintro e w' ⟨u,rfl,ho,hb⟩;rw [hw] at ho;obtain ⟨a,c,rfl,-⟩:=za0.texts ho;exact ⟨a,c,rfl,hb⟩
def allL (l:List Fi):List UInt8:=Lib.join (l.map fun f=>(zc0 f).data.toList) [32]
theorem zqg:∀ (xs:List (List UInt8)) (x:List UInt8),Lib.join (xs ++ [x]) [32]=if xs=[] then x else Lib.join xs [32] ++ 32 :: x
 | [],x=>by rw [if_pos rfl];exact Lib.join_one x _
 | y :: r,x=>by
   rw [if_neg (by simp),List.cons_append,Lib.join_cons,Lib.join_cons];simp [Lib.joinTail]
theorem zmT (l:List Fi)(f:Fi):allL (l ++ [f])=(if l=[] then [] else allL l ++ [32]) ++ (f.n ++ ⟨#[61]⟩ ++ zbW f.t).data.toList:=by
 unfold allL;rw [List.map_append,List.map_cons,List.map_nil,zqg]
 by_cases h:l=[]
 · subst h;simp [zc0]
 · rw [if_neg (by simpa using h),if_neg h]
   simp [zc0]
theorem ztI (l:List Fi)(hg:Good l)(k:Nat):(allL (l.take k)).length≤200:=by
 unfold allL
 have h1:=zpk ((l.take k).map fun f=>(zc0 f).data.toList) 20 (fun x hx=>by
  obtain ⟨f,hf,rfl⟩:=List.mem_map.1 hx;obtain ⟨h1,h2⟩:=zgc hg (List.mem_of_mem_take hf);have h3:(zc0 f).data.toList.length=(zc0 f).size:=by simp
  have:=zkF f;omega)
 have h2:((l.take k).map fun f=>(zc0 f).data.toList).length≤8:=by have:=hg.few;simp;omega
 have h3:((l.take k).map fun f=>(zc0 f).data.toList).length * 21≤8 * 21:=Nat.mul_le_mul_right _ h2;omega
theorem zm2 (l:List Fi):zbW ⟨(allL l).toArray⟩=zdx l:=by
 unfold zdx ziG
 by_cases h:l=[]
 · subst h;rfl
 · rw [if_neg (by simpa using h)]
   have e:(l.map zc0).map (·.data.toList)=l.map fun f=>(zc0 f).data.toList:=by rw [List.map_map];rfl
   rw [e];unfold zbW;rw [if_neg]
   · rfl
   · intro e2
     have e3:(allL l)=[]:=by have:=congrArg (fun z:ByteArray=>z.data.toList) e2;simpa using this
     obtain ⟨f,r,rfl⟩:=List.exists_cons_of_ne_nil h;unfold allL at e3;rw [List.map_cons,Lib.join_cons] at e3;have e4:(zc0 f).data.toList=[]:=(List.append_eq_nil_iff.1 e3).1;unfold zc0 at e4;simp at e4
theorem zqd (m:Nat) (a:Option Addr) (cap:Nat) (l:List Fi) (t:Int) (w:World) (h:SBox w m a cap l t) (hq:zau l t) (hw:zaP ⟨#[97,108,108]⟩=[⟨#[97,108,108]⟩]) :
 Calls Tryz.prog 22 #[.pointer (some ⟨m,0,none⟩),.string ⟨#[97,108,108]⟩] w (zaL w m (zdx l,l,t)):=by
 have HS:Hid (SBox w m a cap l t):=h;have HG:Hid (zau l t):=hq;have h8:=hq.files.few;have KS:Hid _:=zdl ⟨#[97,108,108]⟩ _ w (by decide) hw;clear h hq hw
 go_enter Tryz.func22,Tryz.ntmps22
 go_wp2_with fail
 refine Calls.mono KS.out ?_;rintro e w1 ⟨aw,cw,rfl,hb1⟩;have HB1:Hid (Below w.heap.size w w1):=hb1;clear hb1 KS
 go_wp2_with fail
 go_loopg [6,7] (l.length+1) (fun kx vs vi wr=>∃ n:Nat,vs=.string ⟨(allL (l.take n)).toArray⟩∧vi=.int .i64 n∧n≤l.length∧l.length - n≤kx∧Hid (Below w.heap.size w wr))
 case atStart=>exact ⟨0,rfl,rfl,Nat.zero_le _,by omega,HB1⟩
 case round =>
  obtain ⟨n,rfl,rfl,hn,hkx,HB⟩:=hrel;have hsz:=ztI l HG.out.files n;generalize hX:allL (l.take n)=X at *;have HX:Hid (allL (l.take n)=X):=hX;obtain ⟨x0,x1,⟨f0,f1⟩,xl⟩:=(HS.out.below HB.out).cells;clear hX
  by_cases hlt:n<l.length
  · have hltz:(n:Int)<(l.length:Int):=by omega
    obtain ⟨b,off,rfl,c0,c1,c2⟩:=(HS.out.below HB.out).files.cells n hlt;have hbl:b<wr.heap.size:=World.block_lt_of_cell? _ _ c0;have KW:Hid (∀ W,Calls Tryz.prog 40 #[.string l[n].t] W fun e w'=>e=.returned (.string (zbW l[n].t))∧w'=W):=fun W=>zgZ l[n].t W
    have htw:(zbW l[n].t).size≤13∧l[n].n.size≤6:=by have h1:=zgh l[n].t;have h2:=zgc HG.out.files (List.getElem_mem hlt);omega
    have HNX:Hid ((0<n→(⟨X.toArray⟩:ByteArray) ++ ⟨#[32]⟩ ++ l[n].n ++ ⟨#[61]⟩ ++ zbW l[n].t=⟨(allL (l.take (n+1))).toArray⟩)∧(n=0→(⟨X.toArray⟩:ByteArray) ++ l[n].n ++ ⟨#[61]⟩ ++ zbW l[n].t=⟨(allL (l.take (n+1))).toArray⟩)):=by
     refine ⟨fun h0=>?_,fun h0=>?_⟩
     · apply toList_inj
       rw [ByteArray.toList_eq,ByteArray.toList_eq,zb8 l n hlt,zmT,HX.out,if_neg (fun e=>by have:=congrArg List.length e;rw [List.length_take] at this;simp only [List.length_nil] at this;omega)];simp
     · apply toList_inj
       subst h0;have hX0:X=[]:=by rw [← HX.out];rfl
       subst hX0;rw [ByteArray.toList_eq,ByteArray.toList_eq,zb8 l 0 hlt,zmT,if_pos (by simp)];simp
    clear HX;obtain ⟨ht1,ht2⟩:=htw;generalize zbW l[n].t=T at *;rcases Nat.eq_zero_or_pos n with h0 | h0
    · have H0:=HNX.out.2 h0
      have HE:Hid ((⟨X.toArray⟩:ByteArray) ++ l[n].n ++ ⟨#[61]⟩ ++ T=⟨(allL (l.take (n+1))).toArray⟩):=H0;clear H0;have h0z:¬ (0:Int)<(n:Int):=by omega
      have hl1:¬ 9223372036854775807<X.length+l[n].n.size:=by omega
      have hl2:¬ 9223372036854775807<X.length+l[n].n.size+1:=by omega
      have hl3:¬ 9223372036854775807<X.length+l[n].n.size+1+T.size:=by omega
      clear h0
      go_wp2_with fail
      go_region_law
       (go_simp
        go_at_call 40
        refine Calls.mono (KW.out _) ?_;rintro e wq ⟨rfl,hq⟩;rw [hq];clear hq wq)
      all_goals
       go_wp2
       go_roundg (l.length - (n+1))
       case measure=>omega
       case rel=>exact ⟨n+1,by rw [HE.out],by go_num,by omega,Nat.le_refl _,by first | exact HB | exact HB.out.drew⟩
    · have H0:=HNX.out.1 h0
      have HE:Hid ((⟨X.toArray⟩:ByteArray) ++ ⟨#[32]⟩ ++ l[n].n ++ ⟨#[61]⟩ ++ T=⟨(allL (l.take (n+1))).toArray⟩):=H0;clear H0;have h0z:(0:Int)<(n:Int):=by omega
      have hl1:¬ 9223372036854775807<X.length+1+l[n].n.size:=by omega
      have hl2:¬ 9223372036854775807<X.length+1+l[n].n.size+1:=by omega
      have hl3:¬ 9223372036854775807<X.length+1+l[n].n.size+1+T.size:=by omega
      clear h0
      go_wp2_with fail
      go_region_law
       (go_simp
        go_at_call 40
        refine Calls.mono (KW.out _) ?_;rintro e wq ⟨rfl,hq⟩;rw [hq];clear hq wq)
      all_goals
       go_wp2
       go_roundg (l.length - (n+1))
       case measure=>omega
       case rel=>exact ⟨n+1,by rw [HE.out],by go_num,by omega,Nat.le_refl _,by first | exact HB | exact HB.out.drew⟩
  · have hn9:n=l.length:=by omega
    have HAL:Hid (zbW ⟨X.toArray⟩=zdx l):=by
     have h:=zm2 l;have e:allL l=X:=by rw [← HX.out,hn9,List.take_length]
     rw [e] at h;exact h
    have KW:Hid _:=zgZ ⟨X.toArray⟩ wr;clear HX
    go_wp2_with fail
    refine Calls.mono KW.out ?_;rintro e wq ⟨rfl,hq⟩;rw [hq];clear hq wq KW;go_wp2
    try simp only [Exit.inBlock,Exit.then]
    exact bodyPost_ret (v:=.string (zbW ⟨X.toArray⟩)) (by simp [results,Tryz.results22,go_sem]) rfl (by rw [HAL.out];exact zaL.same HS.out HB.out)
theorem zcm (h:Strs w a [v,x,y]):∃ b off,a=some ⟨b,off,none⟩∧w.cell? ⟨b,off,none⟩=some (.string v)∧w.cell? ⟨b,off+1,none⟩=some (.string x)∧w.cell? ⟨b,off+2,none⟩=some (.string y):=by
 obtain ⟨b,off,rfl,c0⟩:=h 0 (by simp);obtain ⟨b1,off1,e1,c1⟩:=h 1 (by simp);obtain ⟨b2,off2,e2,c2⟩:=h 2 (by simp);cases e1;cases e2;exact ⟨b,off,rfl,c0,c1,c2⟩
theorem zl5 (x y:ByteArray)(b off cw:Nat)(m:Nat)(a:Option Addr)(cap:Nat)(l:List Fi)(t:Int)(w:World)(h:SBox w m a cap l t)(hq:zau l t)(hs:Strs w (some ⟨b,off,none⟩) [⟨#[110,97,109,101]⟩,x,y])(hx:x.size≤100)(hy:y.size≤100)(hr:0≤(zax l t x y).n∧(zax l t x y).n≤100) :
 Calls Tryz.prog 45 #[.pointer (some ⟨m,0,none⟩),.slice (some ⟨b,off,none⟩) 3 cw] w (zaL w m (zaX (zax l t x y) l t)):=by
 obtain ⟨b',off',e,c0,c1,c2⟩:=zcm hs;cases e;have HS:Hid (SBox w m a cap l t):=h;have HG:Hid (zau l t):=hq;have HR:Hid (0≤(zax l t x y).n∧(zax l t x y).n≤100):=hr;obtain ⟨x0,x1,⟨f0,f1⟩,xl⟩:=h.cells;have hbl:b<w.heap.size:=World.block_lt_of_cell? _ _ c0
 have KR:Hid (∀ W,Below w.heap.size w W→Calls Tryz.prog 70 #[.agg #[.slice a l.length cap,.int .i64 t],.string x,.string y] W fun e w'=>∃ a2 c2,e=.returned (.tuple #[.agg #[.slice a2 (zax l t x y).l.length c2,.int .i64 (zax l t x y).t],.int .i64 (zax l t x y).n])∧zad w' a2 c2 (zax l t x y).l∧Below w.heap.size w w'):=fun W hb=>by
  refine (zmR a cap l t x y W HG.out (HS.out.below hb).files (by unfold maxLen;omega) (by unfold maxLen;omega)).mono ?_;rintro e w' ⟨a2,c2,rfl,h1,h2⟩;exact ⟨a2,c2,rfl,h1,hb.trans (h2.mono hb.size)⟩
 have KD:Hid (∀ W a2 c2,Below w.heap.size w W→zad W a2 c2 (zax l t x y).l→Calls Tryz.prog 43 #[.pointer (some ⟨m,0,none⟩),.agg #[.slice a2 (zax l t x y).l.length c2,.int .i64 (zax l t x y).t],.int .i64 (zax l t x y).n] W (zaL w m (zaX (zax l t x y) l t))):=fun W a2 c2 hb hsl =>
  (zfN m (zax l t x y) a2 c2 a cap l t W (HS.out.below hb) hsl HR.out).mono fun e w' h=>h.behind hb HS.out.lt
 clear h hs hq hr;generalize zax l t x y=r at *
 go_enter Tryz.func45,Tryz.ntmps45
 go_wp2_with fail
 go_region_law
  (first
    | (go_simp
       go_at_call 70
       refine Calls.mono (KR.out _ (by first | exact Below.drew (Below.refl _ _) | exact Below.refl _ _)) ?_;rintro e wa ⟨a2,c2,rfl,hsl,hb⟩;have HSA:Hid (zad wa a2 c2 r.l):=hsl;have HBA:Hid (Below w.heap.size w wa):=hb;clear hb hsl)
    | (go_simp
       go_at_call 43
       refine Calls.mono (KD.out _ _ _ HBA.out HSA.out) ?_;rintro e wb ⟨a3,c3,rfl,he⟩;have HE:Hid _:=he;clear he))
 all_goals
  go_wp2
  try simp only [Exit.inBlock,Exit.then]
  exact bodyPost_ret (v:=.string (zaX r l t).1) (by simp [results,Tryz.results45,go_sem]) rfl ⟨a3,c3,rfl,HE.out⟩
theorem zl9 (x y:ByteArray)(b off cw:Nat)(m:Nat)(a:Option Addr)(cap:Nat)(l:List Fi)(t:Int)(w:World)(h:SBox w m a cap l t)(hq:zau l t)(hs:Strs w (some ⟨b,off,none⟩) [⟨#[115,119,97,112]⟩,x,y])(hx:x.size≤100)(hy:y.size≤100)(hr:0≤(zbs l t x y).n∧(zbs l t x y).n≤100) :
 Calls Tryz.prog 45 #[.pointer (some ⟨m,0,none⟩),.slice (some ⟨b,off,none⟩) 3 cw] w (zaL w m (zaX (zbs l t x y) l t)):=by
 obtain ⟨b',off',e,c0,c1,c2⟩:=zcm hs;cases e;have HS:Hid (SBox w m a cap l t):=h;have HG:Hid (zau l t):=hq;have HR:Hid (0≤(zbs l t x y).n∧(zbs l t x y).n≤100):=hr;obtain ⟨x0,x1,⟨f0,f1⟩,xl⟩:=h.cells;have hbl:b<w.heap.size:=World.block_lt_of_cell? _ _ c0
 have KR:Hid (∀ W,Below w.heap.size w W→Calls Tryz.prog 71 #[.agg #[.slice a l.length cap,.int .i64 t],.string x,.string y] W fun e w'=>∃ a2 c2,e=.returned (.tuple #[.agg #[.slice a2 (zbs l t x y).l.length c2,.int .i64 (zbs l t x y).t],.int .i64 (zbs l t x y).n])∧zad w' a2 c2 (zbs l t x y).l∧Below w.heap.size w w'):=fun W hb=>by
  refine (znS a cap l t x y W HG.out (HS.out.below hb).files (by unfold maxLen;omega) (by unfold maxLen;omega)).mono ?_;rintro e w' ⟨a2,c2,rfl,h1,h2⟩;exact ⟨a2,c2,rfl,h1,hb.trans (h2.mono hb.size)⟩
 have KD:Hid (∀ W a2 c2,Below w.heap.size w W→zad W a2 c2 (zbs l t x y).l→Calls Tryz.prog 43 #[.pointer (some ⟨m,0,none⟩),.agg #[.slice a2 (zbs l t x y).l.length c2,.int .i64 (zbs l t x y).t],.int .i64 (zbs l t x y).n] W (zaL w m (zaX (zbs l t x y) l t))):=fun W a2 c2 hb hsl =>
  (zfN m (zbs l t x y) a2 c2 a cap l t W (HS.out.below hb) hsl HR.out).mono fun e w' h=>h.behind hb HS.out.lt
 clear h hs hq hr;generalize zbs l t x y=r at *
 go_enter Tryz.func45,Tryz.ntmps45
 go_wp2_with fail
 go_region_law
  (first
    | (go_simp
       go_at_call 71
       refine Calls.mono (KR.out _ (by first | exact Below.drew (Below.refl _ _) | exact Below.refl _ _)) ?_;rintro e wa ⟨a2,c2,rfl,hsl,hb⟩;have HSA:Hid (zad wa a2 c2 r.l):=hsl;have HBA:Hid (Below w.heap.size w wa):=hb;clear hb hsl)
    | (go_simp
       go_at_call 43
       refine Calls.mono (KD.out _ _ _ HBA.out HSA.out) ?_;rintro e wb ⟨a3,c3,rfl,he⟩;have HE:Hid _:=he;clear he))
 all_goals
  go_wp2
  try simp only [Exit.inBlock,Exit.then]
  exact bodyPost_ret (v:=.string (zaX r l t).1) (by simp [results,Tryz.results45,go_sem]) rfl ⟨a3,c3,rfl,HE.out⟩
theorem zkm (x y:ByteArray)(b off cw:Nat)(m:Nat)(a:Option Addr)(cap:Nat)(l:List Fi)(t:Int)(w:World)(h:SBox w m a cap l t)(hq:zau l t)(hs:Strs w (some ⟨b,off,none⟩) [⟨#[119,114,105,116,101]⟩,x,y])(hx:x.size≤100)(hy:y.size≤100)(n1:y≠⟨#[]⟩)(n2:y≠⟨#[45]⟩)(hr:0≤(zaG l t x y).n∧(zaG l t x y).n≤100) :
 Calls Tryz.prog 45 #[.pointer (some ⟨m,0,none⟩),.slice (some ⟨b,off,none⟩) 3 cw] w (zaL w m (zaX (zaG l t x y) l t)):=by
 obtain ⟨b',off',e,c0,c1,c2⟩:=zcm hs;cases e;have HS:Hid (SBox w m a cap l t):=h;have HG:Hid (zau l t):=hq;have HR:Hid (0≤(zaG l t x y).n∧(zaG l t x y).n≤100):=hr;obtain ⟨x0,x1,⟨f0,f1⟩,xl⟩:=h.cells;have hbl:b<w.heap.size:=World.block_lt_of_cell? _ _ c0
 have KR:Hid (∀ W,Below w.heap.size w W→Calls Tryz.prog 69 #[.agg #[.slice a l.length cap,.int .i64 t],.string x,.string y] W fun e w'=>∃ a2 c2,e=.returned (.tuple #[.agg #[.slice a2 (zaG l t x y).l.length c2,.int .i64 (zaG l t x y).t],.int .i64 (zaG l t x y).n])∧zad w' a2 c2 (zaG l t x y).l∧Below w.heap.size w w'):=fun W hb=>by
  refine (zia a cap l t x y W HG.out (HS.out.below hb).files (by unfold maxLen;omega) (by unfold maxLen;omega)).mono ?_;rintro e w' ⟨a2,c2,rfl,h1,h2⟩;exact ⟨a2,c2,rfl,h1,hb.trans (h2.mono hb.size)⟩
 have KD:Hid (∀ W a2 c2,Below w.heap.size w W→zad W a2 c2 (zaG l t x y).l→Calls Tryz.prog 43 #[.pointer (some ⟨m,0,none⟩),.agg #[.slice a2 (zaG l t x y).l.length c2,.int .i64 (zaG l t x y).t],.int .i64 (zaG l t x y).n] W (zaL w m (zaX (zaG l t x y) l t))):=fun W a2 c2 hb hsl =>
  (zfN m (zaG l t x y) a2 c2 a cap l t W (HS.out.below hb) hsl HR.out).mono fun e w' h=>h.behind hb HS.out.lt
 clear h hs hq hr;have b1:(y.toList == [])=false:=zbt #[] n1;have b2:(y.toList == [45])=false:=zbt #[45] n2;clear n1 n2;generalize zaG l t x y=r at *
 go_enter Tryz.func45,Tryz.ntmps45
 go_wp2_with fail
 go_region_law
  (first
    | (go_simp
       go_at_call 69
       refine Calls.mono (KR.out _ (by first | exact Below.drew (Below.refl _ _) | exact Below.refl _ _)) ?_;rintro e wa ⟨a2,c2,rfl,hsl,hb⟩;have HSA:Hid (zad wa a2 c2 r.l):=hsl;have HBA:Hid (Below w.heap.size w wa):=hb;clear hb hsl)
    | (go_simp
       go_at_call 43
       refine Calls.mono (KD.out _ _ _ HBA.out HSA.out) ?_;rintro e wb ⟨a3,c3,rfl,he⟩;have HE:Hid _:=he;clear he))
 all_goals
  go_wp2
  try simp only [Exit.inBlock,Exit.then]
  exact bodyPost_ret (v:=.string (zaX r l t).1) (by simp [results,Tryz.results45,go_sem]) rfl ⟨a3,c3,rfl,HE.out⟩
theorem ziX (x:ByteArray)(b off cw:Nat)(m:Nat)(a:Option Addr)(cap:Nat)(l:List Fi)(t:Int)(w:World)(h:SBox w m a cap l t)(hq:zau l t)(hs:Strs w (some ⟨b,off,none⟩) [⟨#[119,114,105,116,101]⟩,x,⟨#[45]⟩])(hx:x.size≤100)(hr:0≤(zaG l t x ⟨#[]⟩).n∧(zaG l t x ⟨#[]⟩).n≤100) :
 Calls Tryz.prog 45 #[.pointer (some ⟨m,0,none⟩),.slice (some ⟨b,off,none⟩) 3 cw] w (zaL w m (zaX (zaG l t x ⟨#[]⟩) l t)):=by
 obtain ⟨b',off',e,c0,c1,c2⟩:=zcm hs;cases e;have HS:Hid (SBox w m a cap l t):=h;have HG:Hid (zau l t):=hq;have HR:Hid (0≤(zaG l t x ⟨#[]⟩).n∧(zaG l t x ⟨#[]⟩).n≤100):=hr;obtain ⟨x0,x1,⟨f0,f1⟩,xl⟩:=h.cells;have hbl:b<w.heap.size:=World.block_lt_of_cell? _ _ c0
 have KR:Hid (∀ W,Below w.heap.size w W→Calls Tryz.prog 69 #[.agg #[.slice a l.length cap,.int .i64 t],.string x,.string ⟨#[]⟩] W fun e w'=>∃ a2 c2,e=.returned (.tuple #[.agg #[.slice a2 (zaG l t x ⟨#[]⟩).l.length c2,.int .i64 (zaG l t x ⟨#[]⟩).t],.int .i64 (zaG l t x ⟨#[]⟩).n])∧zad w' a2 c2 (zaG l t x ⟨#[]⟩).l∧Below w.heap.size w w'):=fun W hb=>by
  refine (zia a cap l t x ⟨#[]⟩ W HG.out (HS.out.below hb).files (by unfold maxLen;omega) (by unfold maxLen;exact Nat.zero_le _)).mono ?_;rintro e w' ⟨a2,c2,rfl,h1,h2⟩;exact ⟨a2,c2,rfl,h1,hb.trans (h2.mono hb.size)⟩
 have KD:Hid (∀ W a2 c2,Below w.heap.size w W→zad W a2 c2 (zaG l t x ⟨#[]⟩).l→Calls Tryz.prog 43 #[.pointer (some ⟨m,0,none⟩),.agg #[.slice a2 (zaG l t x ⟨#[]⟩).l.length c2,.int .i64 (zaG l t x ⟨#[]⟩).t],.int .i64 (zaG l t x ⟨#[]⟩).n] W (zaL w m (zaX (zaG l t x ⟨#[]⟩) l t))):=fun W a2 c2 hb hsl =>
  (zfN m (zaG l t x ⟨#[]⟩) a2 c2 a cap l t W (HS.out.below hb) hsl HR.out).mono fun e w' h=>h.behind hb HS.out.lt
 clear h hs hq hr;generalize zaG l t x ⟨#[]⟩=r at *
 go_enter Tryz.func45,Tryz.ntmps45
 go_wp2_with fail
 go_region_law
  (first
    | (go_simp
       go_at_call 69
       refine Calls.mono (KR.out _ (by first | exact Below.drew (Below.refl _ _) | exact Below.refl _ _)) ?_;rintro e wa ⟨a2,c2,rfl,hsl,hb⟩;have HSA:Hid (zad wa a2 c2 r.l):=hsl;have HBA:Hid (Below w.heap.size w wa):=hb;clear hb hsl)
    | (go_simp
       go_at_call 43
       refine Calls.mono (KD.out _ _ _ HBA.out HSA.out) ?_;rintro e wb ⟨a3,c3,rfl,he⟩;have HE:Hid _:=he;clear he))
 all_goals
  go_wp2
  try simp only [Exit.inBlock,Exit.then]
  exact bodyPost_ret (v:=.string (zaX r l t).1) (by simp [results,Tryz.results45,go_sem]) rfl ⟨a3,c3,rfl,HE.out⟩
theorem zhp (s:ByteArray):(natV s=(zbR s).1∧(zbR s).2=0∧0≤natV s∧natV s≤999)∨(natV s = -1∧(zbR s).2=4):=by
 unfold natV zbR;cases h:natC s with
 | none=>exact .inr ⟨rfl,rfl⟩
 | some n =>
   have:=(zd3 h).2.2;exact .inl ⟨rfl,rfl,by simp,by simp;omega⟩
theorem zqX (x y:ByteArray):zb2 x y=if 0≤natV x∧0≤natV y then (if 2<natV x then errT 5 else okB) else errT 4:=by
 unfold zb2 zby;rcases zhp x with ⟨h1,h2,h3,h4⟩ | ⟨h1,h2⟩ <;> rcases zhp y with ⟨k1,k2,k3,k4⟩ | ⟨k1,k2⟩
 · by_cases h9:2<natV x
   · have h9':3≤(zbR x).1:=by omega
     simp [h2,k2,h3,k3,h9,h9']
   · have h9':¬ 3≤(zbR x).1:=by omega
     simp [h2,k2,h3,k3,h9,h9']
 · have k3:¬ 0≤natV y:=by omega
   simp [k2,k3]
 · have h3:¬ 0≤natV x:=by omega
   simp [h2,k2,h3]
 · have k3:¬ 0≤natV y:=by omega
   simp [k2,k3]
theorem zkg (x y:ByteArray) (b off cw:Nat) (m:Nat) (a:Option Addr) (cap:Nat) (l:List Fi) (t:Int) (w:World) (h:SBox w m a cap l t) (hs:Strs w (some ⟨b,off,none⟩) [⟨#[114,101,115,116,97,114,116]⟩,x,y]) (hx:x.size≤100) (hy:y.size≤100) :
 Calls Tryz.prog 45 #[.pointer (some ⟨m,0,none⟩),.slice (some ⟨b,off,none⟩) 3 cw] w (zaL w m (zb2 x y,l,t)):=by
 obtain ⟨b',off',e,c0,c1,c2⟩:=zcm hs;cases e;have HS:Hid (SBox w m a cap l t):=h;have hbl:b<w.heap.size:=World.block_lt_of_cell? _ _ c0;have KX:Hid (∀ W,Calls Tryz.prog 42 #[.string x,.int .i64 999] W fun e w'=>e=.returned (.int .i64 (natV x))∧w'=W):=fun W=>zgJ x W hx
 have KY:Hid (∀ W,Calls Tryz.prog 42 #[.string y,.int .i64 999] W fun e w'=>e=.returned (.int .i64 (natV y))∧w'=W):=fun W=>zgJ y W hy
 have K4:Hid _:=zbf 4 w (by omega);have K5:Hid _:=zbf 5 w (by omega);have HA:Hid (zb2 x y=if 0≤natV x∧0≤natV y then (if 2<natV x then errT 5 else okB) else errT 4):=zqX x y;have hb1 : -1≤natV x:=by rcases zhp x with h | h <;> omega
 have hb2 : -1≤natV y:=by rcases zhp y with h | h <;> omega
 clear h hs;generalize zb2 x y=A at *;generalize natV x=n at *;generalize natV y=k at *
 by_cases h1:0≤n
 · by_cases h2:0≤k
   · by_cases h3:2<n
     · have HX:Hid (A=errT 5):=by show _=_;rw [HA.out,if_pos ⟨h1,h2⟩,if_pos h3]
       go_enter Tryz.func45,Tryz.ntmps45
       go_wp2_with fail
       refine Calls.mono (KX.out _) ?_;rintro e w1 ⟨rfl,hw⟩;rw [hw];clear hw w1
       go_wp2_with fail
       refine Calls.mono (KY.out _) ?_;rintro e w1 ⟨rfl,hw⟩;rw [hw];clear hw w1 KX KY
       go_wp2_with fail
       refine Calls.mono K5.out ?_;rintro e w1 ⟨rfl,hb⟩;have HB:Hid (Below w.heap.size w w1):=hb;clear hb K4 K5;go_wp2
       try simp only [Exit.inBlock,Exit.then]
       exact bodyPost_ret (v:=.string (errT ((5:Nat):Int))) (by simp [results,Tryz.results45,go_sem]) rfl (by rw [HX.out];exact zaL.same HS.out HB.out)
     · have HX:Hid (A=okB):=by show _=_;rw [HA.out,if_pos ⟨h1,h2⟩,if_neg h3]
       go_enter Tryz.func45,Tryz.ntmps45
       go_wp2_with fail
       refine Calls.mono (KX.out _) ?_;rintro e w1 ⟨rfl,hw⟩;rw [hw];clear hw w1
       go_wp2_with fail
       refine Calls.mono (KY.out _) ?_;rintro e w1 ⟨rfl,hw⟩;rw [hw];clear hw w1 KX KY K4 K5;go_wp2
       try simp only [Exit.inBlock,Exit.then]
       exact bodyPost_ret (v:=.string okB) (by simp [results,Tryz.results45,go_sem,okB]) rfl (by rw [HX.out];exact zaL.same HS.out (Below.refl _ _))
   · have HX:Hid (A=errT 4):=by show _=_;rw [HA.out,if_neg (by omega)]
     go_enter Tryz.func45,Tryz.ntmps45
     go_wp2_with fail
     refine Calls.mono (KX.out _) ?_;rintro e w1 ⟨rfl,hw⟩;rw [hw];clear hw w1
     go_wp2_with fail
     refine Calls.mono (KY.out _) ?_;rintro e w1 ⟨rfl,hw⟩;rw [hw];clear hw w1 KX KY
     go_wp2_with fail
     refine Calls.mono K4.out ?_;rintro e w1 ⟨rfl,hb⟩;have HB:Hid (Below w.heap.size w w1):=hb;clear hb K4 K5;go_wp2
     try simp only [Exit.inBlock,Exit.then]
     exact bodyPost_ret (v:=.string (errT ((4:Nat):Int))) (by simp [results,Tryz.results45,go_sem]) rfl (by rw [HX.out];exact zaL.same HS.out HB.out)
 · have HX:Hid (A=errT 4):=by show _=_;rw [HA.out,if_neg (by omega)]
   go_enter Tryz.func45,Tryz.ntmps45
   go_wp2_with fail
   refine Calls.mono (KX.out _) ?_;rintro e w1 ⟨rfl,hw⟩;rw [hw];clear hw w1
   go_wp2_with fail
   refine Calls.mono (KY.out _) ?_;rintro e w1 ⟨rfl,hw⟩;rw [hw];clear hw w1 KX KY
   go_wp2_with fail
   refine Calls.mono K4.out ?_;rintro e w1 ⟨rfl,hb⟩;have HB:Hid (Below w.heap.size w w1):=hb;clear hb K4 K5;go_wp2
   try simp only [Exit.inBlock,Exit.then]
   exact bodyPost_ret (v:=.string (errT ((4:Nat):Int))) (by simp [results,Tryz.results45,go_sem]) rfl (by rw [HX.out];exact zaL.same HS.out HB.out)
theorem zkl (x:ByteArray)(b off cw:Nat)(m:Nat)(a:Option Addr)(cap:Nat)(l:List Fi)(t:Int)(w:World)(h:SBox w m a cap l t)(hs:Strs w (some ⟨b,off,none⟩) [⟨#[119,114,105,116,101]⟩,x,⟨#[]⟩]) :
 Calls Tryz.prog 45 #[.pointer (some ⟨m,0,none⟩),.slice (some ⟨b,off,none⟩) 3 cw] w (zaL w m (errT 4,l,t)):=by
 obtain ⟨b',off',e,c0,c1,c2⟩:=zcm hs;cases e;have HS:Hid (SBox w m a cap l t):=h;have hbl:b<w.heap.size:=World.block_lt_of_cell? _ _ c0;have K4:Hid _:=zbf 4 w (by omega);clear h hs
 go_enter Tryz.func45,Tryz.ntmps45
 go_wp2_with fail
 refine Calls.mono K4.out ?_;rintro e w1 ⟨rfl,hb⟩;have HB:Hid (Below w.heap.size w w1):=hb;clear hb K4;go_wp2
 try simp only [Exit.inBlock,Exit.then]
 exact bodyPost_ret (v:=.string (errT ((4:Nat):Int))) (by simp [results,Tryz.results45,go_sem]) rfl (zaL.same HS.out HB.out)
theorem zm8 (v x y:ByteArray)(b off cw:Nat)(m:Nat)(a:Option Addr)(cap:Nat)(l:List Fi)(t:Int)(w:World)(h:SBox w m a cap l t)(hs:Strs w (some ⟨b,off,none⟩) [v,x,y])(n1:v≠znq)(n2:v≠zrb)(n3:v≠zsz)(n4:v≠zml) :
 Calls Tryz.prog 45 #[.pointer (some ⟨m,0,none⟩),.slice (some ⟨b,off,none⟩) 3 cw] w (zaL w m (errT 4,l,t)):=by
 obtain ⟨b',off',e,c0,c1,c2⟩:=zcm hs;cases e;have HS:Hid (SBox w m a cap l t):=h;have hbl:b<w.heap.size:=World.block_lt_of_cell? _ _ c0;have K4:Hid _:=zbf 4 w (by omega);have b1:(v.toList == [119,114,105,116,101])=false:=zbt _ n1;have b2:(v.toList == [110,97,109,101])=false:=zbt _ n2;have b3:(v.toList == [115,119,97,112])=false:=zbt _ n3;have b4:(v.toList == [114,101,115,116,97,114,116])=false:=zbt _ n4;clear h hs n1 n2 n3 n4
 go_enter Tryz.func45,Tryz.ntmps45
 go_wp2_with fail
 refine Calls.mono K4.out ?_;rintro e w1 ⟨rfl,hb⟩;have HB:Hid (Below w.heap.size w w1):=hb;clear hb K4;go_wp2
 try simp only [Exit.inBlock,Exit.then]
 exact bodyPost_ret (v:=.string (errT ((4:Nat):Int))) (by simp [results,Tryz.results45,go_sem]) rfl (zaL.same HS.out HB.out)
theorem zsA (v x y:ByteArray)(aw:Option Addr)(cw:Nat)(m:Nat)(a:Option Addr)(cap:Nat)(l:List Fi)(t:Int)(w:World)(h:SBox w m a cap l t)(hq:zau l t)(hs:Strs w aw [v,x,y])(hx:x.size≤100)(hy:y.size≤100)
 (ok1:∀ s tx,0≤(zaG l t s tx).n∧(zaG l t s tx).n≤100) (ok2:∀ s tx,0≤(zax l t s tx).n∧(zax l t s tx).n≤100) (ok3:∀ s tx,0≤(zbs l t s tx).n∧(zbs l t s tx).n≤100) :
 Calls Tryz.prog 45 #[.pointer (some ⟨m,0,none⟩),.slice aw 3 cw] w (zaL w m (twoC v x y l t)):=by
 obtain ⟨b,off,rfl,-,-,-⟩:=zcm hs
 by_cases h1:v=znq
 · subst h1
   rw [show twoC znq x y l t=zeG x y l t from if_pos rfl];unfold zeG
   by_cases e1:y=⟨#[]⟩
   · subst e1
     exact zkl x b off cw m a cap l t w h hs
   by_cases e2:y=⟨#[45]⟩
   · subst e2
     exact ziX x b off cw m a cap l t w h hq hs hx (ok1 _ _)
   rw [show zbi y=(y,0) by unfold zbi;rw [if_neg e1,if_neg e2]];exact zkm x y b off cw m a cap l t w h hq hs hx hy e1 e2 (ok1 _ _)
 by_cases h2:v=zrb
 · subst h2
   rw [show twoC zrb x y l t=zaX (zax l t x y) l t by unfold twoC;rw [if_neg h1,if_pos rfl]];exact zl5 x y b off cw m a cap l t w h hq hs hx hy (ok2 _ _)
 by_cases h3:v=zsz
 · subst h3
   rw [show twoC zsz x y l t=zaX (zbs l t x y) l t by unfold twoC;rw [if_neg h1,if_neg h2,if_pos rfl]];exact zl9 x y b off cw m a cap l t w h hq hs hx hy (ok3 _ _)
 by_cases h4:v=zml
 · subst h4
   rw [show twoC zml x y l t=(zb2 x y,l,t) by unfold twoC;rw [if_neg h1,if_neg h2,if_neg h3,if_pos rfl]];exact zkg x y b off cw m a cap l t w h hs hx hy
 rw [show twoC v x y l t=(errT 4,l,t) by unfold twoC;rw [if_neg h1,if_neg h2,if_neg h3,if_neg h4]];exact zm8 v x y b off cw m a cap l t w h hs h1 h2 h3 h4
theorem zoB (h:Strs w a [v,x]):∃ b off,a=some ⟨b,off,none⟩∧w.cell? ⟨b,off,none⟩=some (.string v)∧w.cell? ⟨b,off+1,none⟩=some (.string x):=by
 obtain ⟨b,off,rfl,c0⟩:=h 0 (by simp);obtain ⟨b1,off1,e1,c1⟩:=h 1 (by simp);cases e1;exact ⟨b,off,rfl,c0,c1⟩
theorem zei (line v x:ByteArray)(w:World)(hs:line.size≤50)(hw:zaP line=[v,x]) :
 Calls Tryz.prog 38 #[.string line] w fun e w'=>∃ b off c,e=.returned (.slice (some ⟨b,off,none⟩) 2 c)∧(w'.cell? ⟨b,off,none⟩=some (.string v)∧w'.cell? ⟨b,off+1,none⟩=some (.string x))∧Below w.heap.size w w':=by
 refine (zel line w (by omega)).mono ?_;rintro e w' ⟨u,rfl,ho,hb⟩;rw [hw] at ho;obtain ⟨a,c,rfl,hst,-⟩:=za0.texts ho;obtain ⟨b,off,rfl,c0,c1⟩:=zoB hst;exact ⟨b,off,c,rfl,⟨c0,c1⟩,hb⟩
structure FBx (W:World)(B:Nat)(f:Fi):Prop where
 c0:W.cell? ⟨B,0,none⟩=some (.string f.n)
 c1:W.cell? ⟨B,1,none⟩=some (.string f.t)
 c2:W.cell? ⟨B,2,none⟩=some (.int .i64 f.k)
 f0:W.frozen? ⟨B,0,none⟩=false
 f1:W.frozen? ⟨B,1,none⟩=false
 f2:W.frozen? ⟨B,2,none⟩=false
 lt:B<W.heap.size
theorem FBx.new (W:World)(f:Fi)(ty:TypeId):FBx (W.alloc (.cells #[.string f.n,.string f.t,.int .i64 f.k] ty)) W.heap.size f :=
 ⟨by simp [go_sem],by simp [go_sem],by simp [go_sem],by simp [go_sem],by simp [go_sem],by simp [go_sem],by simp⟩
theorem FBx.below {B C:Nat}(h:FBx W B f)(hb:Below C W W')(hC:B<C):FBx W' B f :=
 ⟨by rw [hb.cell (p:=⟨B,0,none⟩) hC];exact h.c0,by rw [hb.cell (p:=⟨B,1,none⟩) hC];exact h.c1,by rw [hb.cell (p:=⟨B,2,none⟩) hC];exact h.c2,by rw [hb.frozen (p:=⟨B,0,none⟩) hC];exact h.f0,by rw [hb.frozen (p:=⟨B,1,none⟩) hC];exact h.f1,by rw [hb.frozen (p:=⟨B,2,none⟩) hC];exact h.f2,Nat.lt_of_lt_of_le h.lt hb.size⟩
theorem FBx.stored (h:FBx W B f)(g:Fi):BoxF (((W.setCell ⟨B,0,none⟩ (.string g.n)).setCell ⟨B,1,none⟩ (.string g.t)).setCell ⟨B,2,none⟩ (.int .i64 g.k)) B g :=
 ⟨by simp [go_sem,h.c0,h.c1,h.c2],by simp [go_sem,h.c0,h.c1,h.c2],by simp [go_sem,h.c0,h.c1,h.c2],by simpa using h.lt⟩
theorem zsx (a b:ByteArray):ziG [a,b]=a ++ ⟨#[32]⟩ ++ b:=by
 unfold ziG;rw [if_neg (by simp)]
 apply toList_inj
 rw [ByteArray.toList_eq,ByteArray.toList_eq];simp [Lib.join_cons,Lib.joinTail]
theorem zoR (line x:ByteArray) (m:Nat) (a:Option Addr) (cap:Nat) (l:List Fi) (t:Int) (w:World) (h:SBox w m a cap l t) (hq:zau l t) (hs:line.size≤50) (hw:zaP line=[⟨#[114,101,97,100]⟩,x]) :
 Calls Tryz.prog 22 #[.pointer (some ⟨m,0,none⟩),.string line] w (zaL w m (zb7 l x,l,t)):=by
 have HS:Hid (SBox w m a cap l t):=h;have HG:Hid (zau l t):=hq;have KS:Hid _:=zei line _ x w hs hw;have hsz:¬ (50:Int)<(line.size:Int):=by omega
 clear h hq hw
 go_enter Tryz.func22,Tryz.ntmps22
 go_wp2_with fail
 refine Calls.mono KS.out ?_;rintro e w1 ⟨b,off,c,rfl,⟨c0,c1⟩,hb1⟩;have HB1:Hid (Below w.heap.size w w1):=hb1;have HS1:Hid (SBox w1 m a cap l t):=HS.out.below hb1;have hbl:b<w1.heap.size:=World.block_lt_of_cell? _ _ c0;obtain ⟨x0,x1,⟨f0,f1⟩,xl⟩:=HS1.out.cells;clear hb1 KS;have HCM:Hid (zaF w1 a l):=HS1.out.files.cells;have h8:=HG.out.files.few
 go_wp2_with fail
 go_cut [8,9] (fun pf pis wx=>∃ X,pf=.pointer (some ⟨X,0,none⟩)∧pis=.bool (getF l x).isSome∧Hid (BoxF wx X (zmz (getF l x)))∧Hid (Below w1.heap.size w1 wx))
 case first =>
  go_region_with (go_at_call 41
                  refine (zbQ a cap l x _ (by unfold maxLen;omega) (by refine HCM.out.below ?_;repeat (first | exact Below.refl _ _ | refine Below.drew ?_ | refine below_drewN ?_ _ | refine Below.alloc ?_ (Nat.le_refl _) _))).mono ?_;rintro e v3 ⟨rfl,hb3⟩;rw [zqe];have hb4:=Below.undrew hb3
                  have hbW:Below w1.heap.size w1 v3:=by
                   refine Below.trans ?_ (hb4.mono ?_)
                   · first | exact Below.refl _ _ | exact (Below.refl _ _).alloc (Nat.le_refl _) _
                   · simp
                  have HBV:Hid (Below w1.heap.size w1 v3):=hbW;have hwz:w1.heap.size≤v3.heap.size:=hbW.size
                  try (have xb:=(FBx.new w1 ⟨⟨#[]⟩,⟨#[]⟩,0⟩ 98).below hb4 (by simp)
                       have HX3:Hid (FBx v3 w1.heap.size ⟨⟨#[]⟩,⟨#[]⟩,0⟩):=xb;obtain ⟨v0,v1,v2,vf0,vf1,vf2,vl⟩:=xb)
                  clear hb3 hb4 hbW)
  all_goals (try go_wp2_with fail)
  all_goals go_meet
  all_goals
   first
    | exact ⟨w1.heap.size,rfl,rfl,HX3.out.stored _,((HBV.out.setCell (Nat.le_refl _) _).setCell (Nat.le_refl _) _).setCell (Nat.le_refl _) _⟩
    | exact ⟨v3.heap.size,rfl,rfl,BoxF.new v3 _ _,HBV.out.alloc HBV.out.size _⟩
 case rest =>
  obtain ⟨X,rfl,rfl,HBX,HBC⟩:=hcut;have HBW:Hid (Below w.heap.size w wc):=HB1.out.trans (HBC.out.mono HB1.out.size);clear x0 x1 f0 f1 xl c0 c1 hbl;cases hg0:getF l x with
  | none =>
    have HX:Hid (zb7 l x=errT ((5:Nat):Int)):=by show _=_;unfold zb7;rw [hg0];rfl
    have K5:Hid _:=zbf 5 wc (by omega);clear hg0 HBX
    go_wp2_with fail
    refine Calls.mono K5.out ?_;rintro e w4 ⟨rfl,hb⟩;have HB4:Hid (Below w.heap.size w w4):=HBW.out.trans (hb.mono HBW.out.size);clear hb K5;go_wp2
    try simp only [Exit.inBlock,Exit.then]
    exact bodyPost_ret (v:=.string (errT ((5:Nat):Int))) (by simp [results,Tryz.results22,go_sem]) rfl (by rw [HX.out];exact zaL.same HS.out HB4.out)
  | some f =>
    have HX:Hid (zb7 l x=zbW f.t ++ ⟨#[32]⟩ ++ ⟨(Lib.itoa f.k).toArray⟩):=by show _=_;unfold zb7;rw [hg0];exact zsx _ _
    rw [hg0] at HBX;obtain ⟨z0,z1,z2,zl⟩:=HBX.out;have hfs:=HG.out.files.times (zbh hg0).1;obtain ⟨-,hft,hk1,hk9⟩:=hfs;obtain ⟨k,hk⟩:∃ k:Nat,f.k=(k:Int):=⟨f.k.toNat,by omega⟩
    have htw:(zbW f.t).size≤13:=by have:=zgh f.t;omega
    have hkl:(Lib.decDigits k).length≤21:=by rw [zfg];exact Lib.itoa_length_le _ (by omega) (by omega)
    have HK:Hid ((⟨(Lib.itoa f.k).toArray⟩:ByteArray)=⟨(Lib.decDigits k).toArray⟩):=by show _=_;rw [hk,zfg]
    rw [HK.out] at HX;simp only [zmz] at z0 z1 z2;rw [hk] at z2;have KW:Hid (∀ W,Calls Tryz.prog 40 #[.string f.t] W fun e w'=>e=.returned (.string (zbW f.t))∧w'=W):=fun W=>zgZ f.t W
    have KD:Hid (∀ W,Below wc.heap.size wc W→Calls Tryz.prog 39 #[.int .i64 k] W fun e w'=>e=.returned (.string ⟨(Lib.decDigits k).toArray⟩)∧Below wc.heap.size wc w'):=fun W hb=>(ze4 (k+1) k W (by omega) (by omega)).mono fun e w' ⟨h1,h2⟩=>⟨h1,hb.trans (h2.mono hb.size)⟩
    have keepH:Hid (∀ V,Below wc.heap.size wc V→(V.cell? ⟨X,1,none⟩=some (.string f.t)∧V.cell? ⟨X,2,none⟩=some (.int .i64 k))):=fun V hb=>⟨by rw [hb.cell zl];exact z1,by rw [hb.cell zl];exact z2⟩
    clear hg0 hk hk1 hk9 HBX HK;generalize zbW f.t=T at *;generalize Lib.decDigits k=E at *;have hl1:¬ 9223372036854775807<T.size+1:=by omega
    have hl2:¬ 9223372036854775807<T.size+1+E.length:=by omega
    go_wp2_with fail
    go_region_held3 (fun V=>V.cell? ⟨X,1,none⟩=some (.string f.t)∧V.cell? ⟨X,2,none⟩=some (.int .i64 k))
     (first | exact keepH.out _ (Below.drew (Below.refl _ _)) | exact keepH.out _ HBD.out)
     (first
       | (go_at_call 40
          refine Calls.mono (KW.out _) ?_;rintro e wq ⟨rfl,hq⟩;rw [hq];clear hq wq)
       | (go_at_call 39
          refine Calls.mono (KD.out _ (Below.drew (Below.refl _ _))) ?_;rintro e wd ⟨rfl,hb⟩;have HBD:Hid (Below wc.heap.size wc wd):=hb;clear hb))
    all_goals
     go_wp2
     try simp only [Exit.inBlock,Exit.then]
     exact bodyPost_ret (v:=.string (T ++ ⟨#[32]⟩ ++ ⟨E.toArray⟩)) (by simp [results,Tryz.results22,go_sem]) rfl (by rw [HX.out];exact zaL.same HS.out (HBW.out.trans (HBD.out.mono HBW.out.size)))
theorem ztm (x:ByteArray):zcp x=if 0≤natV x then (if 2<natV x then errT ((5:Nat):Int) else ⟨#[45]⟩) else errT ((4:Nat):Int):=by
 unfold zcp zby;rcases zhp x with ⟨h1,h2,h3,h4⟩ | ⟨h1,h2⟩
 · by_cases h9:2<natV x
   · have h9':3≤(zbR x).1:=by omega
     simp [h2,h3,h9,h9']
   · have h9':¬ 3≤(zbR x).1:=by omega
     simp [h2,h3,h9,h9']
 · have h3:¬ 0≤natV x:=by omega
   simp [h2,h3]
theorem zom (line x:ByteArray)(m:Nat)(a:Option Addr)(cap:Nat)(l:List Fi)(t:Int)(w:World)(h:SBox w m a cap l t)(hs:line.size≤50)(hw:zaP line=[⟨#[100,105,102,102]⟩,x]) :
 Calls Tryz.prog 22 #[.pointer (some ⟨m,0,none⟩),.string line] w (zaL w m (zcp x,l,t)):=by
 have HS:Hid (SBox w m a cap l t):=h;have KS:Hid _:=zei line _ x w hs hw;have hsz:¬ (50:Int)<(line.size:Int):=by omega
 have HW:Hid (zaP line=[⟨#[100,105,102,102]⟩,x]):=hw;clear h hw
 go_enter Tryz.func22,Tryz.ntmps22
 go_wp2_with fail
 refine Calls.mono KS.out ?_;rintro e w1 ⟨b,off,c,rfl,⟨c0,c1⟩,hb1⟩;have HB1:Hid (Below w.heap.size w w1):=hb1;have HS1:Hid (SBox w1 m a cap l t):=HS.out.below hb1;have hbl:b<w1.heap.size:=World.block_lt_of_cell? _ _ c0;clear hb1 KS;have KX:Hid (∀ W,Calls Tryz.prog 42 #[.string x,.int .i64 999] W fun e w'=>e=.returned (.int .i64 (natV x))∧w'=W):=fun W=>zgJ x W (by have:=zeK (line:=line) (x:=x) (by rw [HW.out];simp);omega)
 have K4:Hid _:=zbf 4 w1 (by omega);have K5:Hid _:=zbf 5 w1 (by omega);have HA:Hid (zcp x=if 0≤natV x then (if 2<natV x then errT ((5:Nat):Int) else ⟨#[45]⟩) else errT ((4:Nat):Int)):=ztm x;generalize zcp x=A at *;generalize natV x=n at *
 by_cases h1:0≤n
 · by_cases h3:2<n
   · have HX:Hid (A=errT ((5:Nat):Int)):=by show _=_;rw [HA.out,if_pos h1,if_pos h3]
     go_wp2_with fail
     refine Calls.mono (KX.out _) ?_;rintro e wq ⟨rfl,hq⟩;rw [hq];clear hq wq
     go_wp2_with fail
     refine Calls.mono (KX.out _) ?_;rintro e wq ⟨rfl,hq⟩;rw [hq];clear hq wq KX
     go_wp2_with fail
     refine Calls.mono K5.out ?_;rintro e w4 ⟨rfl,hb⟩;have HB4:Hid (Below w.heap.size w w4):=HB1.out.trans (hb.mono HB1.out.size);clear hb K4 K5;go_wp2
     try simp only [Exit.inBlock,Exit.then]
     exact bodyPost_ret (v:=.string (errT ((5:Nat):Int))) (by simp [results,Tryz.results22,go_sem]) rfl (by rw [HX.out];exact zaL.same HS.out HB4.out)
   · have HX:Hid (A=⟨#[45]⟩):=by show _=_;rw [HA.out,if_pos h1,if_neg h3]
     go_wp2_with fail
     refine Calls.mono (KX.out _) ?_;rintro e wq ⟨rfl,hq⟩;rw [hq];clear hq wq
     go_wp2_with fail
     refine Calls.mono (KX.out _) ?_;rintro e wq ⟨rfl,hq⟩;rw [hq];clear hq wq KX K4 K5;go_wp2
     try simp only [Exit.inBlock,Exit.then]
     exact bodyPost_ret (v:=.string ⟨#[45]⟩) (by simp [results,Tryz.results22,go_sem]) rfl (by rw [HX.out];exact zaL.same HS.out HB1.out)
 · have HX:Hid (A=errT ((4:Nat):Int)):=by show _=_;rw [HA.out,if_neg h1]
   go_wp2_with fail
   refine Calls.mono (KX.out _) ?_;rintro e wq ⟨rfl,hq⟩;rw [hq];clear hq wq KX
   go_wp2_with fail
   refine Calls.mono K4.out ?_;rintro e w4 ⟨rfl,hb⟩;have HB4:Hid (Below w.heap.size w w4):=HB1.out.trans (hb.mono HB1.out.size);clear hb K4 K5;go_wp2
   try simp only [Exit.inBlock,Exit.then]
   exact bodyPost_ret (v:=.string (errT ((4:Nat):Int))) (by simp [results,Tryz.results22,go_sem]) rfl (by rw [HX.out];exact zaL.same HS.out HB4.out)
theorem zoL (line x:ByteArray)(m:Nat)(a:Option Addr)(cap:Nat)(l:List Fi)(t:Int)(w:World)(h:SBox w m a cap l t)(hq:zau l t)(hs:line.size≤50)(hw:zaP line=[⟨#[100,114,111,112]⟩,x])(hr:0≤(zbb l t x).n∧(zbb l t x).n≤100) :
 Calls Tryz.prog 22 #[.pointer (some ⟨m,0,none⟩),.string line] w (zaL w m (zaX (zbb l t x) l t)):=by
 have HS:Hid (SBox w m a cap l t):=h;have HG:Hid (zau l t):=hq;have HR:Hid (0≤(zbb l t x).n∧(zbb l t x).n≤100):=hr;have KS:Hid _:=zei line _ x w hs hw;have hsz:¬ (50:Int)<(line.size:Int):=by omega
 clear h hq hw hr
 go_enter Tryz.func22,Tryz.ntmps22
 go_wp2_with fail
 refine Calls.mono KS.out ?_;rintro e w1 ⟨b,off,c,rfl,⟨c0,c1⟩,hb1⟩;have HB1:Hid (Below w.heap.size w w1):=hb1;have HS1:Hid (SBox w1 m a cap l t):=HS.out.below hb1;have hbl:b<w1.heap.size:=World.block_lt_of_cell? _ _ c0;have HLM:Hid (m<w.heap.size):=HS.out.lt;obtain ⟨x0,x1,⟨f0,f1⟩,xl⟩:=HS1.out.cells
 have KR:Hid (∀ W,Below w1.heap.size w1 W→Calls Tryz.prog 44 #[.agg #[.slice a l.length cap,.int .i64 t],.string x] W fun e w'=>∃ a2 c2,e=.returned (.tuple #[.agg #[.slice a2 (zbb l t x).l.length c2,.int .i64 (zbb l t x).t],.int .i64 (zbb l t x).n])∧zad w' a2 c2 (zbb l t x).l∧Below w1.heap.size w1 w'):=fun W hb=>by
  refine (zmy a cap l t x W HG.out (HS1.out.below hb).files).mono ?_;rintro e w' ⟨a2,c2,rfl,h1,h2⟩;exact ⟨a2,c2,rfl,h1,hb.trans (h2.mono hb.size)⟩
 have KD:Hid (∀ W a2 c2,Below w1.heap.size w1 W→zad W a2 c2 (zbb l t x).l→Calls Tryz.prog 43 #[.pointer (some ⟨m,0,none⟩),.agg #[.slice a2 (zbb l t x).l.length c2,.int .i64 (zbb l t x).t],.int .i64 (zbb l t x).n] W (zaL w m (zaX (zbb l t x) l t))):=fun W a2 c2 hb hsl =>
  (zfN m (zbb l t x) a2 c2 a cap l t W (HS1.out.below hb) hsl HR.out).mono fun e w' h=>h.behind (HB1.out.trans (hb.mono HB1.out.size)) HLM.out
 clear hb1 KS;generalize zbb l t x=r at *
 go_wp2_with fail
 go_region_law
  (first
    | (go_simp
       go_at_call 44
       refine Calls.mono (KR.out _ (by first | exact Below.drew (Below.refl _ _) | exact Below.refl _ _)) ?_;rintro e wa ⟨a2,c2,rfl,hsl,hb⟩;have HSA:Hid (zad wa a2 c2 r.l):=hsl;have HBA:Hid (Below w1.heap.size w1 wa):=hb;clear hb hsl)
    | (go_simp
       go_at_call 43
       refine Calls.mono (KD.out _ _ _ HBA.out HSA.out) ?_;rintro e wb ⟨a3,c3,rfl,he⟩;have HE:Hid _:=he;clear he))
 all_goals
  go_wp2
  try simp only [Exit.inBlock,Exit.then]
  exact bodyPost_ret (v:=.string (zaX r l t).1) (by simp [results,Tryz.results22,go_sem]) rfl ⟨a3,c3,rfl,HE.out⟩
theorem zoI (line:ByteArray)(m:Nat)(a:Option Addr)(cap:Nat)(l:List Fi)(t:Int)(w:World)(h:SBox w m a cap l t)(hs:line.size≤50)(hw:zaP line=[line])(n1:line≠allB)(n2:line≠zr1)(n3:line≠zjJ)(n4:line≠zrw) :
 Calls Tryz.prog 22 #[.pointer (some ⟨m,0,none⟩),.string line] w (zaL w m (errT 4,l,t)):=by
 have HS:Hid (SBox w m a cap l t):=h;have KS:Hid _:=zdl line _ w hs hw;have hsz:¬ (50:Int)<(line.size:Int):=by omega
 have b1:(line.toList == [97,108,108])=false:=zbt _ n1;have b2:(line.toList == [116,117,114,110])=false:=zbt _ n2;have b3:(line.toList == [115,99,114,117,98])=false:=zbt _ n3;have b4:(line.toList == [111,112,101,110])=false:=zbt _ n4;clear h hw n1 n2 n3 n4
 go_enter Tryz.func22,Tryz.ntmps22
 go_wp2_with fail
 refine Calls.mono KS.out ?_;rintro e w1 ⟨aw,cw,rfl,hb1⟩;have HB1:Hid (Below w.heap.size w w1):=hb1;have K4:Hid _:=zbf 4 w1 (by omega);clear hb1 KS
 go_wp2_with fail
 refine Calls.mono K4.out ?_;rintro e w4 ⟨rfl,hb⟩;have HB4:Hid (Below w.heap.size w w4):=HB1.out.trans (hb.mono HB1.out.size);clear hb K4;go_wp2
 try simp only [Exit.inBlock,Exit.then]
 exact bodyPost_ret (v:=.string (errT ((4:Nat):Int))) (by simp [results,Tryz.results22,go_sem]) rfl (zaL.same HS.out HB4.out)
theorem zoO (line v x:ByteArray)(m:Nat)(a:Option Addr)(cap:Nat)(l:List Fi)(t:Int)(w:World)(h:SBox w m a cap l t)(hs:line.size≤50)(hw:zaP line=[v,x])(n1:v≠zrY)(n2:v≠zrG)(n3:v≠zoY) :
 Calls Tryz.prog 22 #[.pointer (some ⟨m,0,none⟩),.string line] w (zaL w m (errT 4,l,t)):=by
 have HS:Hid (SBox w m a cap l t):=h;have KS:Hid _:=zei line _ x w hs hw;have hsz:¬ (50:Int)<(line.size:Int):=by omega
 have b1:(v.toList == [100,114,111,112])=false:=zbt _ n1;have b2:(v.toList == [114,101,97,100])=false:=zbt _ n2;have b3:(v.toList == [100,105,102,102])=false:=zbt _ n3;clear h hw n1 n2 n3
 go_enter Tryz.func22,Tryz.ntmps22
 go_wp2_with fail
 refine Calls.mono KS.out ?_;rintro e w1 ⟨b,off,c,rfl,⟨c0,c1⟩,hb1⟩;have hbl:b<w1.heap.size:=World.block_lt_of_cell? _ _ c0;have HB1:Hid (Below w.heap.size w w1):=hb1;have K4:Hid _:=zbf 4 w1 (by omega);clear hb1 KS
 go_wp2_with fail
 refine Calls.mono K4.out ?_;rintro e w4 ⟨rfl,hb⟩;have HB4:Hid (Below w.heap.size w w4):=HB1.out.trans (hb.mono HB1.out.size);clear hb K4;go_wp2
 try simp only [Exit.inBlock,Exit.then]
 exact bodyPost_ret (v:=.string (errT ((4:Nat):Int))) (by simp [results,Tryz.results22,go_sem]) rfl (zaL.same HS.out HB4.out)
theorem zlY (line:ByteArray)(w:World)(hs:line.size≤50) :
 Calls Tryz.prog 38 #[.string line] w fun e w'=>∃ a c,e=.returned (.slice a (zaP line).length c)∧Below w.heap.size w w':=by
 refine (zel line w (by omega)).mono ?_;rintro e w' ⟨u,rfl,ho,hb⟩;obtain ⟨a,c,rfl,-⟩:=za0.texts ho;exact ⟨a,c,rfl,hb⟩
theorem zoZ (line:ByteArray)(m:Nat)(a:Option Addr)(cap:Nat)(l:List Fi)(t:Int)(w:World)(h:SBox w m a cap l t)(hs:line.size≤50)(hw:4≤(zaP line).length) :
 Calls Tryz.prog 22 #[.pointer (some ⟨m,0,none⟩),.string line] w (zaL w m (errT 4,l,t)):=by
 have HS:Hid (SBox w m a cap l t):=h;have KS:Hid _:=zlY line w hs;have hsz:¬ (50:Int)<(line.size:Int):=by omega
 have hl1:((zaP line).length:Int)≠1:=by omega
 have hl2:((zaP line).length:Int)≠2:=by omega
 have hl3:((zaP line).length:Int)≠3:=by omega
 generalize (zaP line).length=n at *;clear h
 go_enter Tryz.func22,Tryz.ntmps22
 go_wp2_with fail
 refine Calls.mono KS.out ?_;rintro e w1 ⟨aw,cw,rfl,hb1⟩;have HB1:Hid (Below w.heap.size w w1):=hb1;have K4:Hid _:=zbf 4 w1 (by omega);clear hb1 KS
 go_wp2_with fail
 refine Calls.mono K4.out ?_;rintro e w4 ⟨rfl,hb⟩;have HB4:Hid (Below w.heap.size w w4):=HB1.out.trans (hb.mono HB1.out.size);clear hb K4;go_wp2
 try simp only [Exit.inBlock,Exit.then]
 exact bodyPost_ret (v:=.string (errT ((4:Nat):Int))) (by simp [results,Tryz.results22,go_sem]) rfl (zaL.same HS.out HB4.out)
theorem zou (line:ByteArray)(m:Nat)(a:Option Addr)(cap:Nat)(l:List Fi)(t:Int)(w:World)(h:SBox w m a cap l t)(hs:50<line.size) :
 Calls Tryz.prog 22 #[.pointer (some ⟨m,0,none⟩),.string line] w (zaL w m (errT 4,l,t)):=by
 have HS:Hid (SBox w m a cap l t):=h;have hsz:(50:Int)<(line.size:Int):=by omega
 have K4:Hid _:=zbf 4 w (by omega);clear h
 go_enter Tryz.func22,Tryz.ntmps22
 go_wp2_with fail
 refine Calls.mono K4.out ?_;rintro e w4 ⟨rfl,hb⟩;have HB4:Hid (Below w.heap.size w w4):=hb;clear hb K4;go_wp2
 try simp only [Exit.inBlock,Exit.then]
 exact bodyPost_ret (v:=.string (errT ((4:Nat):Int))) (by simp [results,Tryz.results22,go_sem]) rfl (zaL.same HS.out HB4.out)
theorem zjN:(⟨(Lib.itoa 0).toArray⟩:ByteArray)=⟨#[48]⟩:=by
 rw [show (0:Int)=((0:Nat):Int) from rfl,← zfg,zcl (by omega)]
 rfl
theorem znX (m:Nat)(a:Option Addr)(cap:Nat)(l:List Fi)(t:Int)(w:World)(h:SBox w m a cap l t)(hw:zaP ⟨#[111,112,101,110]⟩=[⟨#[111,112,101,110]⟩]) :
 Calls Tryz.prog 22 #[.pointer (some ⟨m,0,none⟩),.string ⟨#[111,112,101,110]⟩] w (zaL w m (⟨(Lib.itoa 0).toArray⟩,l,t)):=by
 have HS:Hid (SBox w m a cap l t):=h;have KS:Hid _:=zdl ⟨#[111,112,101,110]⟩ _ w (by decide) hw;rw [zjN];clear h hw
 go_enter Tryz.func22,Tryz.ntmps22
 go_wp2_with fail
 refine Calls.mono KS.out ?_;rintro e w1 ⟨aw,cw,rfl,hb1⟩;have HB1:Hid (Below w.heap.size w w1):=hb1;clear hb1 KS;go_wp2
 try simp only [Exit.inBlock,Exit.then]
 exact bodyPost_ret (v:=.string ⟨#[48]⟩) (by simp [results,Tryz.results22,go_sem]) rfl (zaL.same HS.out HB1.out)
theorem znJ (m:Nat)(a:Option Addr)(cap:Nat)(l:List Fi)(t:Int)(w:World)(h:SBox w m a cap l t)(hw:zaP ⟨#[115,99,114,117,98]⟩=[⟨#[115,99,114,117,98]⟩]) :
 Calls Tryz.prog 22 #[.pointer (some ⟨m,0,none⟩),.string ⟨#[115,99,114,117,98]⟩] w (zaL w m (⟨(Lib.itoa 0).toArray⟩,l,t)):=by
 have HS:Hid (SBox w m a cap l t):=h;have KS:Hid _:=zdl ⟨#[115,99,114,117,98]⟩ _ w (by decide) hw;rw [zjN];clear h hw
 go_enter Tryz.func22,Tryz.ntmps22
 go_wp2_with fail
 refine Calls.mono KS.out ?_;rintro e w1 ⟨aw,cw,rfl,hb1⟩;have HB1:Hid (Below w.heap.size w w1):=hb1;clear hb1 KS;go_wp2
 try simp only [Exit.inBlock,Exit.then]
 exact bodyPost_ret (v:=.string ⟨#[48]⟩) (by simp [results,Tryz.results22,go_sem]) rfl (zaL.same HS.out HB1.out)
theorem zn5 (m:Nat)(a:Option Addr)(cap:Nat)(l:List Fi)(t:Int)(w:World)(h:SBox w m a cap l t)(hq:zau l t)(hw:zaP ⟨#[116,117,114,110]⟩=[⟨#[116,117,114,110]⟩]) :
 Calls Tryz.prog 22 #[.pointer (some ⟨m,0,none⟩),.string ⟨#[116,117,114,110]⟩] w (zaL w m (⟨(Lib.itoa t).toArray⟩,l,t)):=by
 have HS:Hid (SBox w m a cap l t):=h;have KS:Hid _:=zdl ⟨#[116,117,114,110]⟩ _ w (by decide) hw;obtain ⟨k,hk⟩:∃ k:Nat,t=(k:Int):=⟨t.toNat,by have:=hq.low;omega⟩
 have hk9:k≤9999:=by have:=hq.high;omega
 subst hk;rw [← zfg];clear h hw hq
 go_enter Tryz.func22,Tryz.ntmps22
 go_wp2_with fail
 refine Calls.mono KS.out ?_;rintro e w1 ⟨aw,cw,rfl,hb1⟩;have HB1:Hid (Below w.heap.size w w1):=hb1;obtain ⟨x0,x1,⟨f0,f1⟩,xl⟩:=(HS.out.below hb1).cells;have KD:Hid _:=ze4 (k+1) k w1 (by omega) (by omega);clear hb1 KS
 go_wp2_with fail
 refine Calls.mono KD.out ?_;rintro e w4 ⟨rfl,hb⟩;have HB4:Hid (Below w.heap.size w w4):=HB1.out.trans (hb.mono HB1.out.size);clear hb KD x0 x1 f0 f1 xl;go_wp2
 try simp only [Exit.inBlock,Exit.then]
 exact bodyPost_ret (v:=.string ⟨(Lib.decDigits k).toArray⟩) (by simp [results,Tryz.results22,go_sem]) rfl (zaL.same HS.out HB4.out)
theorem znt (line v x y:ByteArray)(m:Nat)(a:Option Addr)(cap:Nat)(l:List Fi)(t:Int)(w:World)(r:ByteArray × List Fi × Int)(h:SBox w m a cap l t)(hs:line.size≤50)(hw:zaP line=[v,x,y])
 (K:∀ (W:World) (aw:Option Addr) (cw:Nat),Below w.heap.size w W→Strs W aw [v,x,y]→Calls Tryz.prog 45 #[.pointer (some ⟨m,0,none⟩),.slice aw 3 cw] W (zaL W m r)) :
 Calls Tryz.prog 22 #[.pointer (some ⟨m,0,none⟩),.string line] w (zaL w m r):=by
 have HLM:Hid (m<w.heap.size):=h.lt;have HK:Hid _:=K
 have KS:Hid (Calls Tryz.prog 38 #[.string line] w fun e w'=>∃ a c,e=.returned (.slice a 3 c)∧Strs w' a [v,x,y]∧Below w.heap.size w w'):=by
  refine (zel line w (by omega)).mono ?_;rintro e w' ⟨u,rfl,ho,hb⟩;rw [hw] at ho;obtain ⟨a,c,rfl,hst,-⟩:=za0.texts ho;exact ⟨a,c,rfl,hst,hb⟩
 have hsz:¬ (50:Int)<(line.size:Int):=by omega
 clear h hw K
 go_enter Tryz.func22,Tryz.ntmps22
 go_wp2_with fail
 refine Calls.mono KS.out ?_;rintro e w1 ⟨aw,cw,rfl,hst,hb1⟩;have HB1:Hid (Below w.heap.size w w1):=hb1;have K3:Hid _:=HK.out w1 aw cw hb1 hst;clear hb1 KS hst
 go_wp2_with fail
 refine Calls.mono K3.out ?_;rintro e w4 ⟨a3,c3,rfl,he⟩;have HE:Hid (zaL w m r (.returned (.string r.1)) w4):=zaL.behind ⟨a3,c3,rfl,he⟩ HB1.out HLM.out;clear he K3;go_wp2
 try simp only [Exit.inBlock,Exit.then]
 exact bodyPost_ret (v:=.string r.1) (by simp [results,Tryz.results22,go_sem]) rfl HE.out
theorem zuu (line:ByteArray)(m:Nat)(a:Option Addr)(cap:Nat)(l:List Fi)(t:Int)(w:World)(h:SBox w m a cap l t)(hq:zau l t)
 (ok0:∀ s,0≤(zbb l t s).n∧(zbb l t s).n≤100) (ok1:∀ s tx,0≤(zaG l t s tx).n∧(zaG l t s tx).n≤100) (ok2:∀ s tx,0≤(zax l t s tx).n∧(zax l t s tx).n≤100) (ok3:∀ s tx,0≤(zbs l t s tx).n∧(zbs l t s tx).n≤100) :
 Calls Tryz.prog 22 #[.pointer (some ⟨m,0,none⟩),.string line] w (zaL w m (sayC line l t)):=by
 by_cases hs:50<line.size
 · rw [show sayC line l t=(errT 4,l,t) from if_pos hs]
   exact zou line m a cap l t w h hs
 have hs':line.size≤50:=by omega
 unfold sayC;rw [if_neg hs]
 match hw:zaP line with
 | []=>exact absurd (zg1 line).2 (by rw [hw];simp)
 | [v] =>
   obtain rfl:=zrP hw;show Calls _ _ _ _ (zaL w m (zcu v l t))
   by_cases h1:v=allB
   · subst h1
     rw [show zcu allB l t=(zdx l,l,t) from if_pos rfl];exact zqd m a cap l t w h hq hw
   by_cases h2:v=zr1
   · subst h2
     rw [show zcu zr1 l t=(⟨(Lib.itoa t).toArray⟩,l,t) by unfold zcu;rw [if_neg h1,if_pos rfl]];exact zn5 m a cap l t w h hq hw
   by_cases h3:v=zjJ
   · subst h3
     rw [show zcu zjJ l t=(⟨(Lib.itoa 0).toArray⟩,l,t) by unfold zcu;rw [if_neg h1,if_neg h2,if_pos rfl]];exact znJ m a cap l t w h hw
   by_cases h4:v=zrw
   · subst h4
     rw [show zcu zrw l t=(⟨(Lib.itoa 0).toArray⟩,l,t) by unfold zcu;rw [if_neg h1,if_neg h2,if_neg h3,if_pos rfl]];exact znX m a cap l t w h hw
   rw [show zcu v l t=(errT 4,l,t) by unfold zcu;rw [if_neg h1,if_neg h2,if_neg h3,if_neg h4]];exact zoI v m a cap l t w h hs' hw h1 h2 h3 h4
 | [v,x] =>
   show Calls _ _ _ _ (zaL w m (oneC v x l t))
   by_cases h1:v=zrY
   · subst h1
     rw [show oneC zrY x l t=zaX (zbb l t x) l t from if_pos rfl];exact zoL line x m a cap l t w h hq hs' hw (ok0 x)
   by_cases h2:v=zrG
   · subst h2
     rw [show oneC zrG x l t=(zb7 l x,l,t) by unfold oneC;rw [if_neg h1,if_pos rfl]];exact zoR line x m a cap l t w h hq hs' hw
   by_cases h3:v=zoY
   · subst h3
     rw [show oneC zoY x l t=(zcp x,l,t) by unfold oneC;rw [if_neg h1,if_neg h2,if_pos rfl]];exact zom line x m a cap l t w h hs' hw
   rw [show oneC v x l t=(errT 4,l,t) by unfold oneC;rw [if_neg h1,if_neg h2,if_neg h3]];exact zoO line v x m a cap l t w h hs' hw h1 h2 h3
 | [v,x,y] =>
   have hx:x.size≤50:=Nat.le_trans (zeK (by rw [hw];simp)) hs';have hy:y.size≤50:=Nat.le_trans (zeK (by rw [hw];simp)) hs';exact znt line v x y m a cap l t w _ h hs' hw (fun W aw cw hb hst=>zsA v x y aw cw m a cap l t W (h.below hb) hq hst (by omega) (by omega) ok1 ok2 ok3)
 | v :: x :: y :: z :: r=>exact zoZ line m a cap l t w h hs' (by rw [hw];simp)
end Go.Proofs.YtihnghnafpgdfadGreatDoor
