/- What the proofs stand on, part 34: TrioDo, TrioDoneH, TrioDoH, TrioWell, ConsTrio, TrioThree, ConsSes, ConsActs, ConsDo, ConsLine, ConsSpoil, TrioDoTrio, TrioAll. -/
import Derived.Deep.RegionHeld3
import Derived.BigQuiet
import Derived.Test.YtihnghnafpgdfadGreatDoorSk32
import Derived.Test.YtihnghnafpgdfadGreatDoorSk33
import Derived.Test.YtihnghnafpgdfadGreatDoorSk27
import Derived.Test.YtihnghnafpgdfadGreatDoorSk07
import Derived.Test.YtihnghnafpgdfadGreatDoorSk09
set_option linter.unusedVariables false
set_option linter.unusedSimpArgs false
set_option maxRecDepth 100000
set_option maxHeartbeats 1000000
namespace Go.Proofs.YtihnghnafpgdfadGreatDoor
open Go Go.RowKit Go.BigFrame
variable {N cap cap' cap2 i j k k' k0 lo n sb tb tb' tb2:Nat}{p:Dp}{d d':Dk}{l l':List Fi}{t t':Int}{r:Res}{s:St}{g:Lg}{w w' w0 w1 wr:World}{P P' P0 P1 P2:Nat→Dp}{D D' D1 D2:Nat→Dk}{S so so':Nat→Option Nat}{a a' a2:Option Addr}{e:Ending}{u v:Value}{C:Array Value}
theorem zvb (B:Nat→Nat)(k:Nat)(hk:k<3)(w:World):(Instr.index 70 (.agg #[.pointer (some ⟨B 0,0,none⟩),.pointer (some ⟨B 1,0,none⟩),.pointer (some ⟨B 2,0,none⟩)]) (.int .i64 k)).run Tryz.prog w=.ok (.pointer (some ⟨B k,0,none⟩)) w:=by
 rcases (show k=0∨k=1∨k=2 by omega) with rfl | rfl | rfl
 · show _=_;kernel_rfl
 · show _=_;kernel_rfl
 · show _=_;kernel_rfl
theorem zrg (F:Nat) (cs:Array Value) (a:Option Addr) (cap:Nat) (l:List Fi) (t:Int) (r:Res) (w:World) (eg:∀ args w,(callFunc F args).run Tryz.prog w=.ok (.enter F args) w) (hs:za5 w a cap l) (hgd:(r.n=0∧zau r.l r.t)∨(0<r.n∧r.n≤100∧r.l=[]∧r.t=0)) (hk:∀ W,Below w.heap.size w W→Calls Tryz.prog F (#[.agg #[.slice a l.length cap,.int .i64 t]] ++ cs) W (zdb W r)) :
 Calls Tryz.prog 73 #[.agg #[.slice a l.length cap,.int .i64 t],.func (.func F) #[] cs] w fun e w'=>∃ a2 cap2,e=.returned (.tuple #[.agg #[.slice a2 r.l.length cap2,.int .i64 r.t],errV r.n])∧zad w' a2 cap2 r.l∧Below w.heap.size w w':=by
 have hmf:∀ (fn:Fn) (first cap:Array Value) (w:World),(Instr.makeFunc fn first cap).run Tryz.prog w=.ok (.func fn first cap) w:=fun _ _ _ _=>rfl
 obtain ⟨W,hW⟩:∃ y,y=((w.alloc (.cells #[.slice a l.length cap,.int .i64 t] 32)).alloc (.cells #[.slice none 0 0,.int .i64 0] 32)).alloc (.cells #[.nilIface] 38):=⟨_,rfl⟩
 have hbW:Below w.heap.size w W:=by rw [hW];exact (((Below.refl _ _).alloc (Nat.le_refl _) _).alloc (by simp) _).alloc (by simp;omega) _
 have HBW:Hid (Below w.heap.size w W):=hbW;have KD:Hid _:=hk W hbW
 have HQ0:Hid (QBox W w.heap.size (.slice a l.length cap) t):=by
  have h1:=(QBox.new w (.slice a l.length cap) t 32).alloc (.cells #[.slice none 0 0,.int .i64 0] 32);rw [hW];exact h1.alloc _
 have HQ1:Hid (QBox W (w.heap.size+1) (.slice none 0 0) 0):=by
  have h1:=QBox.new (w.alloc (.cells #[.slice a l.length cap,.int .i64 t] 32)) (.slice none 0 0) 0 32;rw [World.size_alloc] at h1;rw [hW];exact h1.alloc _
 have HE:Hid (EBox W (w.heap.size+1+1) .nilIface):=by
  have h1:=World.alloc_heap_new ((w.alloc (.cells #[.slice a l.length cap,.int .i64 t] 32)).alloc (.cells #[.slice none 0 0,.int .i64 0] 32)) (.cells #[.nilIface] 38);rw [World.size_alloc,World.size_alloc] at h1;rw [hW];exact ⟨h1⟩
 have HT1:Hid (∃ C fr,W.heap[w.heap.size+1]?=some (.cells C 32 fr)):=by
  have h1:=World.alloc_heap_new (w.alloc (.cells #[.slice a l.length cap,.int .i64 t] 32)) (.cells #[.slice none 0 0,.int .i64 0] 32);rw [World.size_alloc] at h1;refine ⟨#[.slice none 0 0,.int .i64 0],(0,0),?_⟩;rw [hW,Below.heap_alloc _ _ _ (by simp)];exact h1
 have HGD:Hid ((r.n=0∧zau r.l r.t)∨(0<r.n∧r.n≤100∧r.l=[]∧r.t=0)):=hgd;have hlW:=HE.out.lt;clear hs hk hgd hbW
 go_enter_defers Tryz.func73,Tryz.ntmps73
 go_wp2_with fail
 rw [← hW];clear hW;refine Calls.mono KD.out ?_;rintro e w1 ⟨a1,cap1,rfl,hs1,hb1⟩;have HS1:Hid (za5 w1 a1 cap1 r.l):=hs1;have hQ0:QBox w1 w.heap.size (.slice a l.length cap) t:=HQ0.out.below hb1 HQ0.out.lt;have hQ1:QBox w1 (w.heap.size+1) (.slice none 0 0) 0:=HQ1.out.below hb1 HQ1.out.lt;have hE1:EBox w1 (w.heap.size+1+1) .nilIface:=HE.out.below hb1;have HW1:Hid (Below w.heap.size w w1):=HBW.out.trans (hb1.mono HBW.out.size);have hl1:=hE1.lt
 have HT2:Hid (∃ C fr,w1.heap[w.heap.size+1]?=some (.cells C 32 fr)):=by
  obtain ⟨C,fr,e⟩:=HT1.out;exact ⟨C,fr,(hb1.block _ (Array.getElem?_eq_some_iff.1 e).1).trans e⟩
 clear hb1 hs1 KD;rcases HGD.out with ⟨hn0,hgq⟩ | ⟨hn1,hn2,hl0,ht0⟩
 · have HN:Hid (r.n=0):=hn0
   have HGQ:Hid (zau r.l r.t):=hgq;rw [zac hn0];clear hgq hn0;obtain ⟨W2,hW2⟩:∃ y,y=((w1.setCell ⟨w.heap.size,0,none⟩ (.slice a1 r.l.length cap1)).setCell ⟨w.heap.size,1,none⟩ (.int .i64 r.t)).setCell ⟨w.heap.size+1+1,0,none⟩ (.nilIface):=⟨_,rfl⟩
   have HQ0':Hid (QBox W2 w.heap.size (.slice a1 r.l.length cap1) r.t):=by
    rw [hW2];exact hQ0.put2.apart (by omega)
   have HQ1':Hid (QBox W2 (w.heap.size+1) (.slice none 0 0) 0):=by
    rw [hW2];exact ((hQ1.apart (by omega)).apart (by omega)).apart (by omega)
   have HE2:Hid (EBox W2 (w.heap.size+1+1) (.nilIface)):=by
    rw [hW2];exact ((hE1.apart (by omega)).apart (by omega)).put
   have HB2:Hid (Below w.heap.size w W2):=by
    rw [hW2];exact ((HW1.out.setCell (Nat.le_refl _) _).setCell (Nat.le_refl _) _).setCell (by show w.heap.size≤w.heap.size+1+1;omega) _
   have HS2:Hid (za5 W2 a1 cap1 r.l):=by
    rw [hW2];exact (HS1.out.store2 hQ0.only _ _).store1 ((hE1.apart (by omega)).apart (by omega)).only _
   have HT2w:Hid (∃ C fr,W2.heap[w.heap.size+1]?=some (.cells C 32 fr)):=by
    obtain ⟨C,fr,e⟩:=HT2.out;refine ⟨C,fr,?_⟩;rw [hW2];exact (((Below.heap_setCell _ _ _ _ (by show ¬ _=w.heap.size+1+1;omega)).trans (Below.heap_setCell _ _ _ _ (by show ¬ _=w.heap.size;omega))).trans (Below.heap_setCell _ _ _ _ (by show ¬ _=w.heap.size;omega))).trans e
   obtain ⟨z0,z1,zf0,zf1,zl,-⟩:=hQ0;have e0:=hE1.c0;have ef:=hE1.f0;clear hQ1 hE1
   go_upto_region 3 with fail
   rw [← hW2];clear hW2 z0 z1 zf0 zf1 zl e0 ef;obtain ⟨z0,z1,zf0,zf1,zl,-⟩:=HQ0'.out;obtain ⟨y0,y1,yf0,yf1,yl,-⟩:=HQ1'.out;have e0:=HE2.out.c0;have ef:=HE2.out.f0;have el:=HE2.out.lt;have HT3:Hid (∃ C fr,W2.heap[w.heap.size+1]?=some (.cells C 32 fr)):=HT2w;have KC:Hid _:=zgw a1 cap1 r.l r.t W2 (by have:=HGQ.out.files.few;unfold maxLen;omega) (zqn HGQ.out.files) HS2.out.cells;rw [znR HGQ.out,zac rfl] at KC
   go_wp2_with fail
   refine Calls.mono KC.out ?_;rintro e w3 ⟨rfl,hb3⟩;have HS3:Hid (za5 w3 a1 cap1 r.l):=HS2.out.below hb3;have KL:Hid _:=zcA ⟨true,a1,cap1,r.l,r.t⟩ w3 ⟨HS3.out,by have:=HGQ.out.files.few;show r.l.length≤100;omega⟩;have HQ03:Hid (QBox w3 w.heap.size (.slice a1 r.l.length cap1) r.t):=HQ0'.out.below hb3 HQ0'.out.lt;have HQ13:Hid (QBox w3 (w.heap.size+1) (.slice none 0 0) 0):=HQ1'.out.below hb3 HQ1'.out.lt;have HE3:Hid (EBox w3 (w.heap.size+1+1) .nilIface):=HE2.out.below hb3
   have HT4:Hid (∃ C fr,w3.heap[w.heap.size+1]?=some (.cells C 32 fr)):=by
    obtain ⟨C,fr,e⟩:=HT3.out;exact ⟨C,fr,(hb3.block _ (Array.getElem?_eq_some_iff.1 e).1).trans e⟩
   have HB3:Hid (Below w.heap.size w w3):=HB2.out.trans (hb3.mono HB2.out.size);clear hb3 KC z0 z1 zf0 zf1 zl y0 y1 yf0 yf1 yl e0 ef el;obtain ⟨z0,z1,zf0,zf1,zl,-⟩:=HQ03.out
   go_wp2_with fail
   refine Calls.mono KL.out ?_;rintro e w4 ⟨a4,cap4,rfl,ho4,hb4⟩;have HQ14:Hid (QBox w4 (w.heap.size+1) (.slice none 0 0) 0):=HQ13.out.below hb4 HQ13.out.lt;have HE4:Hid (EBox w4 (w.heap.size+1+1) .nilIface):=HE3.out.below hb4
   have HT5:Hid (∃ C fr,w4.heap[w.heap.size+1]?=some (.cells C 32 fr)):=by
    obtain ⟨C,fr,e⟩:=HT4.out;exact ⟨C,fr,(hb4.block _ (Array.getElem?_eq_some_iff.1 e).1).trans e⟩
   have HB4:Hid (Below w.heap.size w w4):=HB3.out.trans (hb4.mono HB3.out.size);have HF4:Hid (zad w4 a4 cap4 r.l):=zad.of_owns ho4;clear hb4 ho4 KL z0 z1 zf0 zf1 zl;obtain ⟨W5,hW5⟩:∃ y,y=((w4.setCell ⟨w.heap.size+1,0,none⟩ (.slice a4 r.l.length cap4)).setCell ⟨w.heap.size+1,1,none⟩ (.int .i64 r.t)).setCell ⟨w.heap.size+1+1,0,none⟩ .nilIface:=⟨_,rfl⟩
   have HQ15:Hid (QBox W5 (w.heap.size+1) (.slice a4 r.l.length cap4) r.t):=by
    rw [hW5];exact HQ14.out.put2.apart (by omega)
   have HE5:Hid (EBox W5 (w.heap.size+1+1) .nilIface):=by
    rw [hW5];exact ((HE4.out.apart (by omega)).apart (by omega)).put
   have HB5:Hid (Below w.heap.size w W5):=by
    rw [hW5];exact ((HB4.out.setCell (by show w.heap.size≤w.heap.size+1;omega) _).setCell (by show w.heap.size≤w.heap.size+1;omega) _).setCell (by show w.heap.size≤w.heap.size+1+1;omega) _
   have HF5:Hid (zad W5 a4 cap4 r.l):=by
    rw [hW5];refine HF4.out.keep (fun j C fr e=>?_)
    have n1:j≠w.heap.size+1:=fun ej=>by
     obtain ⟨C',fr',e'⟩:=HT5.out;rw [ej,e'] at e;simp at e
    have n2:j≠w.heap.size+1+1:=fun ej=>by
     rw [ej,HE4.out.blk] at e;simp at e
    exact ((Below.heap_setCell _ _ _ _ n2).trans (Below.heap_setCell _ _ _ _ n1)).trans (Below.heap_setCell _ _ _ _ n1)
   obtain ⟨y0,y1,yf0,yf1,yl,-⟩:=HQ14.out;have e0:=HE4.out.c0;have ef:=HE4.out.f0;have el:=HE4.out.lt;go_wp2;rw [← hW5];clear hW5 y0 y1 yf0 yf1 yl e0 ef el;obtain ⟨y0,y1,yf0,yf1,yl,-⟩:=HQ15.out;have e0:=HE5.out.c0;refine leaves_cons (f:=104) (args:=#[.pointer (some ⟨w.heap.size+1,0,none⟩),.pointer (some ⟨w.heap.size+1+1,0,none⟩)]) (by simp) (by simp [go_sem]) ?_;refine (zkK _ _ _).mono ?_;rintro e u' w'' ⟨rfl,rfl,rfl⟩;simp [Leaves,settle,results,Tryz.results73,go_sem,y0,y1,e0];rw [zac HN.out];exact ⟨a4,cap4,⟨⟨rfl,rfl⟩,rfl⟩,HF5.out,HB5.out⟩
 · have HN:Hid (¬ r.n=0∧r.l=[]∧r.t=0):=⟨by omega,hl0,ht0⟩
   rw [zak (show ¬ r.n=0 by omega)];clear hl0 ht0;obtain ⟨W2,hW2⟩:∃ y,y=((w1.setCell ⟨w.heap.size,0,none⟩ (.slice a1 r.l.length cap1)).setCell ⟨w.heap.size,1,none⟩ (.int .i64 r.t)).setCell ⟨w.heap.size+1+1,0,none⟩ (.iface 90 (.int .i64 r.n)):=⟨_,rfl⟩
   have HQ0':Hid (QBox W2 w.heap.size (.slice a1 r.l.length cap1) r.t):=by
    rw [hW2];exact hQ0.put2.apart (by omega)
   have HQ1':Hid (QBox W2 (w.heap.size+1) (.slice none 0 0) 0):=by
    rw [hW2];exact ((hQ1.apart (by omega)).apart (by omega)).apart (by omega)
   have HE2:Hid (EBox W2 (w.heap.size+1+1) (.iface 90 (.int .i64 r.n))):=by
    rw [hW2];exact ((hE1.apart (by omega)).apart (by omega)).put
   have HB2:Hid (Below w.heap.size w W2):=by
    rw [hW2];exact ((HW1.out.setCell (Nat.le_refl _) _).setCell (Nat.le_refl _) _).setCell (by show w.heap.size≤w.heap.size+1+1;omega) _
   have HS2:Hid (za5 W2 a1 cap1 r.l):=by
    rw [hW2];exact (HS1.out.store2 hQ0.only _ _).store1 ((hE1.apart (by omega)).apart (by omega)).only _
   obtain ⟨z0,z1,zf0,zf1,zl,-⟩:=hQ0;have e0:=hE1.c0;have ef:=hE1.f0;clear hQ1 hE1
   go_upto_region 3 with fail
   rw [← hW2];clear hW2 z0 z1 zf0 zf1 zl e0 ef;obtain ⟨z0,z1,zf0,zf1,zl,-⟩:=HQ0'.out;obtain ⟨y0,y1,yf0,yf1,yl,-⟩:=HQ1'.out;have e0:=HE2.out.c0;have ef:=HE2.out.f0;have el:=HE2.out.lt;have mixed:Tryz.prog.follows Departure.mixedOrders=true:=by kernel_rfl
   go_wp2_with fail
   go_big_region_o
   obtain ⟨W5,hW5⟩:∃ y,y=(((W2.setCell ⟨w.heap.size+1,0,none⟩ (.slice none 0 0)).setCell ⟨w.heap.size+1,1,none⟩ (.int .i64 0)).setCell ⟨w.heap.size+1+1,0,none⟩ (.iface 90 (.int .i64 r.n))).drew:=⟨_,rfl⟩
   have HQ15:Hid (QBox W5 (w.heap.size+1) (.slice none 0 0) 0):=by
    have h:=(HQ1'.out.put2 (v':=.slice none 0 0) (t':=0)).apart (C:=w.heap.size+1+1) (j:=0) (u:=.iface 90 (.int .i64 r.n)) (by omega);rw [hW5];exact ⟨h.c0,h.c1,h.f0,h.f1,h.lt,h.only⟩
   have HE5:Hid (EBox W5 (w.heap.size+1+1) (.iface 90 (.int .i64 r.n))):=by
    have h:=((HE2.out.apart (C:=w.heap.size+1) (j:=0) (u:=.slice none 0 0) (by omega)).apart (C:=w.heap.size+1) (j:=1) (u:=.int .i64 0) (by omega)).put (u:=.iface 90 (.int .i64 r.n));rw [hW5];exact ⟨h.blk⟩
   have HB5:Hid (Below w.heap.size w W5):=by
    rw [hW5];exact (((HB2.out.setCell (by show w.heap.size≤w.heap.size+1;omega) _).setCell (by show w.heap.size≤w.heap.size+1;omega) _).setCell (by show w.heap.size≤w.heap.size+1+1;omega) _).drew
   rw [← hW5];clear hW5 z0 z1 zf0 zf1 zl y0 y1 yf0 yf1 yl e0 ef el;obtain ⟨y0,y1,yf0,yf1,yl,-⟩:=HQ15.out;have e0:=HE5.out.c0;go_wp2;refine leaves_cons (f:=104) (args:=#[.pointer (some ⟨w.heap.size+1,0,none⟩),.pointer (some ⟨w.heap.size+1+1,0,none⟩)]) (by simp) (by simp [go_sem]) ?_;refine (zkK _ _ _).mono ?_;rintro e u' w'' ⟨rfl,rfl,rfl⟩;simp [Leaves,settle,results,Tryz.results73,go_sem,y0,y1,e0];rw [zak HN.out.1,HN.out.2.1,HN.out.2.2];exact ⟨none,0,⟨⟨⟨rfl,rfl,rfl⟩,rfl⟩,rfl⟩,zad.nil _,HB5.out⟩
theorem zoa (lo N:Nat) (F:Nat) (cs:Array Value) (P:Nat→Dp) (D:Nat→Dk) (tb:Nat) (so:Nat→Option Nat) (a:Option Addr) (cap:Nat) (l:List Fi) (t:Int) (r:Res) (w:World) (hN:42≤N) (hN2:N≤60) (hl:Life lo N w P D tb so a cap l t) (eg:∀ args w,(callFunc F args).run Tryz.prog w=.ok (.enter F args) w) (hgd:(r.n=0∧zau r.l r.t)∨(0<r.n∧r.n≤100∧r.l=[]∧r.t=0)) (hfew:r.n=0→zau r.l r.t→(zbu l t r).length≤3) (hk:∀ (a:Option Addr) (cap:Nat) (W:World),Below w.heap.size w W→za5 W a cap l→Calls Tryz.prog F (#[.agg #[.slice a l.length cap,.int .i64 t]] ++ cs) W (zdb W r)) :
 Calls Tryz.prog 48 #[.pointer (some ⟨tb,0,none⟩),.func (.func F) #[] cs] w fun e w'=>zja lo N w P D tb l t r e w':=by
 have HLf:Hid (Life lo N w P D tb so a cap l t):=hl;have HK:Hid (∀ (a:Option Addr) (cap:Nat) (W:World),Below w.heap.size w W→za5 W a cap l→Calls Tryz.prog F (#[.agg #[.slice a l.length cap,.int .i64 t]] ++ cs) W (zdb W r)):=hk;have HEG:Hid (∀ args w,(callFunc F args).run Tryz.prog w=.ok (.enter F args) w):=eg;have HGQ:Hid (zau l t):=hl.good;have HGD:Hid ((r.n=0∧zau r.l r.t)∨(0<r.n∧r.n≤100∧r.l=[]∧r.t=0)):=hgd;have HFEW:Hid (r.n=0→zau r.l r.t→(zbu l t r).length≤3):=hfew;have KQ:Hid _:=zcT P tb so a cap l t w hl.trio (by have:=hl.good.files.few;omega);clear hl hk hgd hfew eg
 go_enter Tryz.func48,Tryz.ntmps48
 go_wp2_with fail
 refine Calls.mono KQ.out ?_;rintro e w1 ⟨a1,cap1,rfl,ho1,hb1⟩;have HB1:Hid (Below w.heap.size w w1):=hb1;have KD:Hid _:=zrg F cs a1 cap1 l t r w1 HEG.out (zad.of_owns ho1).slice HGD.out (fun W h=>HK.out a1 cap1 W (HB1.out.trans (h.mono HB1.out.size)) ((zad.of_owns ho1).slice.below h));clear ho1 hb1 KQ
 go_wp2_with fail
 refine Calls.mono KD.out ?_;rintro e w2 ⟨a2,cap2,rfl,hf2,hb2⟩;obtain ⟨W3,hW3⟩:∃ y,y=w2.alloc (.cells #[.slice a2 r.l.length cap2,.int .i64 r.t] 32):=⟨_,rfl⟩
 have hb3:Below w2.heap.size w2 W3:=by rw [hW3];exact (Below.refl _ _).alloc (Nat.le_refl _) _
 have HB2:Hid (Below w.heap.size w w2):=HB1.out.trans (hb2.mono HB1.out.size);have HB3:Hid (Below w.heap.size w W3):=HB2.out.trans (hb3.mono HB2.out.size);have HX3:Hid (W3.heap[w2.heap.size]?=some (.cells #[.slice a2 r.l.length cap2,.int .i64 r.t] 32 (0,0))):=by rw [hW3];exact World.alloc_heap_new w2 _
 have HF3:Hid (zad W3 a2 cap2 r.l):=hf2.below hb3;have HL3:Hid (Life lo N W3 P D tb so a cap l t):=HLf.out.below HB3.out;have HLO:Hid (lo≤w.heap.size):=HLf.out.low;clear hf2 hb2 hb3 KD
 go_upto_region 2 with fail
 rw [← hW3];clear hW3;rcases HGD.out with ⟨hn0,hgq⟩ | ⟨hn1,hn2,hl0,ht0⟩
 case inr =>
  have HE:Hid (zja lo N w P D tb l t r (.returned (errV r.n)) W3):=.inl ⟨by omega,rfl,HB3.out⟩;have hne:¬ r.n=0:=by omega
  rw [zak hne] at HE;rw [zak hne];clear hl0 ht0;go_wp2;go_ret;exact HE.out
 have HN0:Hid (r.n=0):=hn0;have HGR:Hid (zau r.l r.t):=hgq;rw [zac hn0];clear hn0 hgq HGD;have hl8:=HGQ.out.files.few;have hr8:=HGR.out.files.few
 have HLA:Hid ((zaw l t).length≤100∧(zaw r.l r.t).length≤100):=by
  have h1:=zbY l t;have h2:=zbY r.l r.t;exact ⟨by omega,by omega⟩
 have keepH:Hid (∀ W,Below W3.heap.size W3 W→(W.cell? ⟨tb,6,none⟩=some (.slice a l.length cap)∧W.cell? ⟨tb,7,none⟩=some (.int .i64 t)∧W.cell? ⟨w2.heap.size,0,none⟩=some (.slice a2 r.l.length cap2)∧W.cell? ⟨w2.heap.size,1,none⟩=some (.int .i64 r.t)∧Hid (Below W3.heap.size W3 W))):=fun W h=>by
  have hc:=(HL3.out.trio.below h).cells;have hx:W.heap[w2.heap.size]?=some (.cells #[.slice a2 r.l.length cap2,.int .i64 r.t] 32 (0,0)):=(h.block _ (Array.getElem?_eq_some_iff.1 HX3.out).1).trans HX3.out;refine ⟨hc.q0,hc.q1,?_,?_,h⟩ <;> (rw [zaa hx];rfl)
 have krA:Hid (∀ W,Below W3.heap.size W3 W→Calls Tryz.prog 75 #[.agg #[.slice a l.length cap,.int .i64 t]] W (zlP W (zaw l t))):=fun W h =>
  zdA a cap l t W HGQ.out (HL3.out.below h).trio.files.cells (HL3.out.below h).vars.vars
 have krB:Hid (∀ W,Below W3.heap.size W3 W→Calls Tryz.prog 75 #[.agg #[.slice a2 r.l.length cap2,.int .i64 r.t]] W (zlP W (zaw r.l r.t))):=fun W h =>
  zdA a2 cap2 r.l r.t W HGR.out (HF3.out.below h).cells (HL3.out.below h).vars.vars
 obtain ⟨q0,q1,y0,y1,-⟩:=keepH.out W3 (Below.refl _ _);have htl:=HL3.out.trio.lt;have hxl:w2.heap.size<W3.heap.size:=(Array.getElem?_eq_some_iff.1 HX3.out).1
 go_upto_region 4 with fail
 go_region_held3 (fun W=>W.cell? ⟨tb,6,none⟩=some (.slice a l.length cap)∧W.cell? ⟨tb,7,none⟩=some (.int .i64 t)∧W.cell? ⟨w2.heap.size,0,none⟩=some (.slice a2 r.l.length cap2)∧W.cell? ⟨w2.heap.size,1,none⟩=some (.int .i64 r.t)∧Hid (Below W3.heap.size W3 W))
  (first | exact keepH.out _ (Below.drew (Below.refl _ _)) | exact keepH.out _ hbC.out | exact keepH.out _ hbB.out | exact keepH.out _ hbA.out)
  (first
    | (have _:=hbB
       go_at_call 74
       refine (zoy pa pb na nb (zaw l t) (zaw r.l r.t) _ HLA.out.1 HLA.out.2 (hcA.out.below hbAB.out) hcB.out hlA.out hlB.out).mono ?_;rintro e wc ⟨v,rfl,hoC,hb⟩;have hbC:Hid (Below W3.heap.size W3 wc):=hbB.out.trans (hb.mono hbB.out.size);have hOC:Hid (zan wc W3.heap.size v (zbu l t r)):=zan.base hoC hbB.out.size;clear hb hoC)
    | (have _:=hbA
       go_at_call 75
       refine (krB.out _ hbA.out).mono ?_;rintro e wb ⟨pb,nb,rfl,hcc,hle,_,hb⟩;have hbB:Hid (Below W3.heap.size W3 wb):=hbA.out.trans (hb.mono hbA.out.size);have hbAB:Hid (Below wa.heap.size wa wb):=hb;have hcB:Hid (CC wb pb (zaw r.l r.t)):=hcc;have hlB:Hid ((zaw r.l r.t).length≤nb):=hle;clear hb hcc hle)
    | (go_at_call 75
       refine (krA.out _ (Below.drew (Below.refl _ _))).mono ?_;rintro e wa ⟨pa,na,rfl,hcc,hle,_,hb⟩;have hbA:Hid (Below W3.heap.size W3 wa):=(Below.drew (Below.refl _ _)).trans hb;have hcA:Hid (CC wa pa (zaw l t)):=hcc;have hlA:Hid ((zaw l t).length≤na):=hle;clear hb hcc hle))
 rename_i hHeld;clear hHeld;obtain ⟨ca,cc,hv,hcc,hcn,hcm,-⟩:=zan.files hOC.out;subst hv;have HLC:Hid (Life lo N wc P D tb so a cap l t):=HL3.out.below hbC.out;have HBC:Hid (Below w.heap.size w wc):=HB3.out.trans (hbC.out.mono HB3.out.size);have HFC:Hid (zad wc a2 cap2 r.l):=HF3.out.below hbC.out;have HXC:Hid (wc.heap[w2.heap.size]?=some (.cells #[.slice a2 r.l.length cap2,.int .i64 r.t] 32 (0,0))):=(hbC.out.block _ hxl).trans HX3.out;have HDC:Hid (Deed lo wc ca (zbu l t r)):=zan.deed hOC.out;have HCN:Hid (ca=none→cc=0):=hcn;have HC3:Hid ((zbu l t r).length≤3):=HFEW.out HN0.out HGR.out;have KL:Hid _:=zpD lo P D tb so a cap l t wc HLC.out.three (fun i hi=>⟨(HLC.out.up i hi).1,by rw [(HLC.out.up i hi).2.2];exact hN⟩) HLC.out.vars HLC.out.low HLC.out.trio (by omega);clear hcc hcn hcm hOC hcA hcB hlA hlB hbA hbB hbAB keepH krA krB q0 q1 y0 y1
 go_wp2_with fail
 refine Calls.mono KL.out ?_;rintro e w4 ⟨s,c,vw,rfl,hon,hrd,hta,htc⟩;have hlk:=zuJ (a:=a) (cap:=cap) (lo2:=wc.heap.size) hN HLC.out.low HGQ.out (fun i hi=>(HLC.out.up i hi).2.2) hrd (fun i hi=>(HLC.out.mem i hi).far (fun k C T fr e hT=>zdo HLC.out.trio htc k C T fr e (zil (.inl hT))));obtain ⟨B,hB⟩:=zoc hlk;obtain ⟨S,hS⟩:=zoc hB;obtain ⟨G,hG⟩:=zoc hS;clear hlk hB hS;have HST:Hid (∀ i,i<3→zpw N (P i) (D i) (zaw l t) (S i) (G i)):=fun i hi=>⟨(hG i hi).2.1.rows,(hG i hi).2.1.sd,(hG i hi).2.1.used,(hG i hi).2.1.gf,(hG i hi).2.2⟩
 have HSB:Hid (∀ i,i<3→(S i).dB=(P i).B∧(G i).dB=(P i).B):=fun i hi=>⟨(hG i hi).2.1.dB,by rw [(hG i hi).2.1.gf]⟩
 have HT4:Hid (zaQ w4 tb P (fun i=>some (B i)) a cap l t):=hta.stores (fun i hi=>(hG i hi).1);have hb4:Below lo wc w4:=htc.below (fun k hk=>by rw [hk];exact HLC.out.tbl) HLC.out.low;have HLO4:Hid (lo≤w4.heap.size):=Nat.le_trans HLC.out.low htc.size;have HX4:Hid (w4.heap[w2.heap.size]?=some (.cells #[.slice a2 r.l.length cap2,.int .i64 r.t] 32 (0,0))):=(zdo HLC.out.trio htc _ _ _ _ HXC.out (by decide)).trans HXC.out
 have HC0:Hid (Com lo N w4 w4 P P D D tb (fun i=>some (B i)) a cap l t r.l a2 cap2 B S G ca (zbu l t r) 0) :=
  ⟨HLC.out.three.farT (fun k C T fr e hT=>zdo HLC.out.trio htc k C T fr e (zil (.inl hT))),fun _ _=>rfl,HT4.out,HFC.out.keep (fun k C fr e=>zdo HLC.out.trio htc k C _ fr e (by decide)),fun i _ h=>absurd h (Nat.not_lt_zero _),fun i hi _=>⟨rfl,rfl,(hG i hi).2.1.own⟩,HDC.out.touch htc (fun k hk=>by rw [hk];exact ⟨HLC.out.tbl,_,_,_,HLC.out.trio.blk,by decide⟩),HLC.out.vars.go hb4,Nat.le_refl _,fun _ _ _ _ _ _=>rfl,Below.refl _ _,LetT.refl _,fun _ _ _ hb=>.inl hb⟩
 have HBL4:Hid (Below lo w w4∧LetT w w4):=⟨(HBC.out.mono HLO.out).trans hb4,(LetT.of_below HBC.out).trans (LetT.of_trio HLC.out.trio (fun j hj hne=>htc.block j hj hne))⟩;have hcs4:=HT4.out.cells;have s0:w4.cell? ⟨tb,3,none⟩=some (.pointer (some ⟨B 0,0,none⟩)):=hcs4.s0;have s1:w4.cell? ⟨tb,4,none⟩=some (.pointer (some ⟨B 1,0,none⟩)):=hcs4.s1;have s2:w4.cell? ⟨tb,5,none⟩=some (.pointer (some ⟨B 2,0,none⟩)):=hcs4.s2;have htl4:=HT4.out.lt;clear hon hrd hta htc hG hb4 hcs4 KL
 go_upto_region 6 with fail
 go_wp2_with fail
 clear s0 s1 s2
 go_loopg [35] 4 (fun kx vi wr=>∃ (k:Nat) (P':Nat→Dp) (D':Nat→Dk),vi=.int .i64 k∧k≤3∧3 - k≤kx∧Hid (Com lo N w4 wr P P' D D' tb (fun i=>some (B i)) a cap l t r.l a2 cap2 B S G ca (zbu l t r) k))
 case atStart=>exact ⟨0,P,D,rfl,by omega,by omega,HC0⟩
 case round =>
  obtain ⟨k,P',D',rfl,hk,hkx,HCM⟩:=hrel
  by_cases hlt:k<3
  · have hltz:(k:Int)<3:=by omega
    have hidx:=zvb B k hlt;obtain ⟨r1,r2,r3⟩:=HCM.out.rest k hlt (Nat.le_refl _);have hdk:=HCM.out.three.disk k hlt;have hlk:=HCM.out.three.lo k hlt;rw [r1,r2] at hdk;rw [r2] at hlk;obtain ⟨k1,k2,k3,k4,k5⟩:=HST.out k hlt;have HLW:Hid (lo≤wr.heap.size):=Nat.le_trans HLO4.out HCM.out.size;have KC:Hid _:=zo1 hN hN2 hdk hlk r3 (HSB.out k hlt).1 k4 k3 k2 k1 HGQ.out (HLC.out.up k hlt).2.2 (HLC.out.up k hlt).2.1 HCM.out.chg HCN.out (by have:=HC3.out;omega);clear r1 r2 r3 hdk hlk k1 k2 k3 k4 k5
    go_wp2_with fail
    refine Calls.mono KC.out ?_;rintro e w5 hcs;obtain ⟨P2,t3,tB,tv,tb5,tl5,tw,tn⟩:=HCM.out.step hlt HLW.out HSB.out (HLC.out.up k hlt).2.1 hcs;have HNX:Hid _:=tn;have HTH:Hid (zcH lo w5 P2 (upd D' k (zai (D k) (S k) (G k) (zbu l t r)).d)∧(∀ i,i<3→(P2 i).B=(P i).B)∧zbF lo w5∧Below lo w w5∧LetT w w5∧(∀ i,i<3→∀ b,(P2 i).wv.ownBlock=some b→(P i).wv.ownBlock=some b∨w.heap.size≤b)):=⟨t3,tB,tv,HBL4.out.1.trans (HCM.out.bel.trans tb5),(HBL4.out.2.trans HCM.out.far).trans tl5,fun i hi b hb=>(tw i hi b hb).imp_right (Nat.le_trans HBL4.out.1.size)⟩;obtain ⟨he,-⟩:=hcs;subst he;clear t3 tB tv tb5 tl5 tw tn KC
    by_cases h0:(zai (D k) (S k) (G k) (zbu l t r)).e=0
    · have HCN5:Hid (Com lo N w4 w5 P P2 D (upd D' k (zai (D k) (S k) (G k) (zbu l t r)).d) tb (fun i=>some (B i)) a cap l t r.l a2 cap2 B S G ca (zbu l t r) (k+1)):=HNX.out h0
      rw [zac h0];clear h0 HNX;go_wp2
      go_roundg (3 - (k+1))
      case measure=>omega
      case rel=>exact ⟨k+1,P2,_,by go_num,by omega,Nat.le_refl _,HCN5⟩
    · have HE:Hid (zja lo N w P D tb l t r (.returned (errV (zai (D k) (S k) (G k) (zbu l t r)).e)) w5) :=
       .inr ⟨HN0.out,HGR.out,⟨HTH.out.2.2.2.1,HTH.out.2.2.2.2.1⟩,S,G,HST.out,.inr ⟨k,hlt,fun i hi=>(HCM.out.done i (by omega) hi).1,h0,rfl,P2,_,HTH.out.1,HTH.out.2.1,HTH.out.2.2.1,HTH.out.2.2.2.2.2,fun i hi=>by
        by_cases e1:i=k
        · subst e1;rw [zay,if_pos (Nat.le_refl _)]
        · rw [zal _ _ e1]
          by_cases e2:i≤k
          · rw [if_pos e2];exact (HCM.out.done i hi (by omega)).2.1
          · rw [if_neg e2];exact (HCM.out.rest i hi (by omega)).1⟩⟩
      rw [zak h0] at HE;rw [zak h0];generalize (zai (D k) (S k) (G k) (zbu l t r)).e=n at *;clear HNX;go_wp2;go_ret;exact HE.out
  · have hk3:k=3:=by omega
    subst hk3;obtain ⟨-,-,-,-,-,-,q0,q1,qf⟩:=HCM.out.trio.cells;have hx:wr.heap[w2.heap.size]?=some (.cells #[.slice a2 r.l.length cap2,.int .i64 r.t] 32 (0,0)):=(HCM.out.lets _ _ _ _ HX4.out ⟨by decide,by decide,by decide,by decide,by decide⟩).trans HX4.out;have x0:wr.cell? ⟨w2.heap.size,0,none⟩=some (.slice a2 r.l.length cap2):=by rw [zaa hx];rfl
    have x1:wr.cell? ⟨w2.heap.size,1,none⟩=some (.int .i64 r.t):=by rw [zaa hx];rfl
    have f6:=qf 6;have f7:=qf 7;have tlt:=HCM.out.trio.lt;have HLF:Hid (Life lo N ((wr.setCell ⟨tb,6,none⟩ (.slice a2 r.l.length cap2)).setCell ⟨tb,7,none⟩ (.int .i64 r.t)) P' D' tb (fun i=>some (B i)) a2 cap2 r.l r.t):=HCM.out.life HGQ.out HGR.out HLO4.out HLC.out.tbl (fun i hi=>(HLC.out.up i hi).2.2) HST.out
    have HE:Hid (zja lo N w P D tb l t r (.returned .nilIface) ((wr.setCell ⟨tb,6,none⟩ (.slice a2 r.l.length cap2)).setCell ⟨tb,7,none⟩ (.int .i64 r.t))) :=
     .inr ⟨HN0.out,HGR.out,⟨((HBL4.out.1.trans HCM.out.bel).setCell HLC.out.tbl _).setCell HLC.out.tbl _,(HBL4.out.2.trans HCM.out.far).trans (LetT.of_trio HCM.out.trio (fun j _ hj=>(Below.heap_setCell _ _ _ _ hj).trans (Below.heap_setCell _ _ _ _ hj)))⟩,S,G,HST.out,.inl ⟨rfl,fun i hi=>(HCM.out.done i hi hi).1,P',D',_,_,_,HLF.out,HCM.out.same,fun i hi=>(HCM.out.done i hi hi).2.1⟩⟩
    clear hx qf;go_wp2;go_ret;exact HE.out
theorem zre {a b:List Ch}(ha:∀ c ∈ a,zae c=0)(hb:∀ c ∈ b,zae c=0):∀ c ∈ chg a b,zae c=0:=fun c hc=>by
 rcases zer hc with ⟨x,hx,hk,rfl⟩ | hc
 · have h:=ha x hx
   unfold zae at h ⊢;have e1:(zdQ x).key=x.key:=rfl;have e2:(zdQ x).val.size=0:=rfl
   by_cases h1:x.key.size=0∨x.gone=true∧¬ x.val.size=0
   · rw [if_pos h1] at h;cases h
   · rw [if_neg h1] at h
     by_cases h2:8<x.key.size∨16<x.val.size
     · rw [if_pos h2] at h;cases h
     · rw [if_neg (by rw [e1,e2];rintro (e | ⟨_,e⟩);exact h1 (.inl e);exact e rfl),if_neg (by rw [e1,e2];omega)]
 · exact hb c hc
theorem zn0 (hN:42≤N)(hN2:N≤60)(hq:zau l t)(hr:zau r.l r.t)(hfew:(zbu l t r).length≤3)(hf:Free d N 0)(hs:zpw N p d (zaw l t) s g):
 (zai d s g (zbu l t r)).e=0∧Free (zai d s g (zbu l t r)).d N 0:=by
 obtain ⟨h1,h2,h3,h4,h5⟩:=hs;have h8:=hq.files.few;have h8':=hr.files.few;have hl1:=zbY l t;have hl2:=zbY r.l r.t;refine zot hf hN hN2 (by rw [h4]) h3 h2 (by rw [h1];exact hq.rowed) (by rw [h1];exact zeR hq) (by rw [h1];omega) (by omega) (zdT (zre (zeR hq) (zeR hr))) ?_;rw [h1,zgP hq.rowed hr.rowed];omega
theorem Life.keep (h:Life lo N w P D tb so a cap l t)(hk:∀ (k:Nat) (C:Array Value) (T:TypeId) (fr:Nat × Nat),w.heap[k]?=some (.cells C T fr)→zcD T∨T=98∨T=72→w'.heap[k]?=w.heap[k]?)(hb:Below lo w w'):Life lo N w' P D tb so a cap l t :=
 ⟨h.three.farT (fun k C T fr e hT=>hk k C T fr e (.inl hT)),⟨(hk _ _ _ _ h.trio.blk (.inr (.inr rfl))).trans h.trio.blk,h.trio.files.keep (fun k C fr e=>hk k C _ fr e (.inr (.inl rfl)))⟩,fun i hi=>(h.mem i hi).far (fun k C T fr e hT=>hk k C T fr e (.inl hT)),h.good,h.vars.go hb,Nat.le_trans h.low hb.size,h.tbl,h.up⟩
structure zqC (lo:Nat)(w:World)(w':World)(P P':Nat→Dp)(D D':Nat→Dk)(tb:Nat)(S:Nat→Option Nat)(a:Option Addr)(cap:Nat)(l:List Fi)(t:Int)(n:Nat):Prop where
 life:Life lo 60 w' P' D' tb S a cap l t
 same:∀ i,i<3→(P' i).B=(P i).B
 right:∀ i,i<3→zdj (D i) (zaw l t)→D' i=D i
 wrong:∀ i,i<3→¬ zdj (D i) (zaw l t)→zez 60 (D' i) (zaw l t)
 free:∀ i,i<3→Free (D' i) 60 0
 few:n≤1
 none:n=0↔∀ i,i<3→zdj (D i) (zaw l t)
 bel:Below lo w w'
 far:LetT w w'
 trios:∀ (k:Nat) (C:Array Value) (fr:Nat × Nat),k≠tb→w.heap[k]?=some (.cells C 72 fr)→w'.heap[k]?=some (.cells C 72 fr)
theorem zqC.sound (h:zqC lo w w' P P' D D' tb S a cap l t n)(hi:i<3)(hs:zez 60 (D i) (zaw l t)∨¬ zdj (D i) (zaw l t)):zez 60 (D' i) (zaw l t):=by
 rcases hs with hs | hs
 · rw [h.right i hi hs.tells];exact hs
 · exact h.wrong i hi hs
theorem zjE (hg:zau l t) (hlo:lo≤w.heap.size) (htb:lo≤tb) (hf:∀ i,i<3→Free (D i) 60 0) (hi:i<3) (hj:j<3) (hij:i≠j) (h1:zdj (D i) (zaw l t)) (h2:zdj (D j) (zaw l t))
 (h:zhM lo 60 w P D tb so a cap l t e w'):∃ (n:Nat) (P':Nat→Dp) (D':Nat→Dk) (S:Nat→Option Nat),e=.returned (.tuple #[.int .i64 n,.nilIface])∧zqC lo w w' P P' D D' tb S a cap l t n:=by
 obtain ⟨P',D',S,s,c,v,rfl,hs⟩:=h;have hq:∀ k,k<3→(IsQ (c k) l t↔zdj (D k) (zaw l t)):=fun k hk=>(hs.read k hk).tells hg
 obtain ⟨w1,w2⟩:=zrN (a:=a) (cap:=cap) hi hj hij ((hq i hi).2 h1) ((hq j hj).2 h2)
 have hw:∀ k:Nat,k<3→((k:Int) ∈ za9 (c 0) (c 1) (c 2) (zas a cap l t)↔¬ zdj (D k) (zaw l t)):=fun k hk=>by
  rw [← hq k hk,← zdg (a:=a) (cap:=cap) hk];simp
 have htake:(za9 (c 0) (c 1) (c 2) (zas a cap l t)).take (za9 (c 0) (c 1) (c 2) (zas a cap l t)).length=za9 (c 0) (c 1) (c 2) (zas a cap l t):=List.take_length;have hlaid:=hs.laid;have hrest:=hs.rest;rw [htake] at hlaid hrest
 have hfree:∀ k,k<3→Free (D' k) 60 0:=fun k hk=>by
  by_cases e:zdj (D k) (zaw l t)
  · rw [(hrest k hk (fun x=>(hw k hk).1 x e)).2.1];exact hf k hk
  · obtain ⟨_,_,_,_,_,_,_,h5,_⟩:=hlaid k hk ((hw k hk).2 e)
    exact h5.free
 refine ⟨_,P',D',S,rfl,⟨hs.three,hs.trio.place hs.same,fun k hk=>?_,hg,hs.vars,Nat.le_trans hlo hs.size,htb,fun k hk=>⟨(hfree k hk).up,List.length_eq_zero_iff.1 (Nat.le_zero.1 (hfree k hk).wr),(hfree k hk).len⟩⟩,hs.same,fun k hk e=>(hrest k hk (fun x=>(hw k hk).1 x e)).2.1,fun k hk e=>?_,hfree,w1,?_,hs.bel,hs.far,hs.trios⟩
 · by_cases e:zdj (D k) (zaw l t)
   · obtain ⟨e1,e2,e3⟩:=hrest k hk (fun x=>(hw k hk).1 x e)
     rw [e1,e2,e3]
     have hnw:(za9 (c 0) (c 1) (c 2) (zas a cap l t)).contains (k:Int)=false:=by
      rw [Bool.eq_false_iff];intro x;exact (zdg hk).1 x ((hq k hk).2 e)
     unfold mixS;rw [if_pos ⟨hk,hnw⟩];obtain ⟨hgq,sd0,rows0,us0,ho0,him⟩:=(hs.read k hk).good ((hq k hk).2 e).1;rw [((hq k hk).2 e).2.1,((hq k hk).2 e).2.2] at him;rcases hs.read k hk with ⟨hno,_,_⟩ | ⟨b,sd,rows,us,ra,rc,lb,va,vc,k1,k2,k3,k4,k5,k6,k7,k8,k9⟩
     · rw [ho0] at hno;cases hno
     · have e9:=k1
       rw [ho0] at e9;simp at e9;obtain ⟨e1,e2,e3⟩:=e9;subst e1 e2 e3;have hkg:=zkL (hf k hk).len k2 k1;rw [(hf k hk).len] at k7;exact ⟨b,_,_,k6,⟨k7,rfl,rfl,hkg.usedLe (by omega),k2,him.2⟩⟩
   · exact (hlaid k hk ((hw k hk).2 e)).mem (by omega)
 · obtain ⟨b,st,g,h3,h4,h5,h6,h7,h8,h9⟩:=hlaid k hk ((hw k hk).2 e)
   rw [← h8];exact h7.sound h9
 · rw [w2]
   exact ⟨fun x k hk=>(hq k hk).1 (x k hk),fun x k hk=>(hq k hk).2 (x k hk)⟩
theorem zkz (lo:Nat)(P:Nat→Dp)(D:Nat→Dk)(l:List Fi)(t:Int)(w:World)(hg:zau l t)(h3:zcH lo w P D)(hf:∀ i,i<3→Free (D i) 60 0)(hv:zbF lo w)(hlo:lo≤w.heap.size)(hi:i<3)(hj:j<3)(hij:i≠j)(h1:zdj (D i) (zaw l t))(h2:zdj (D j) (zaw l t)):
 Calls Tryz.prog 12 #[.agg #[dptr (P 0),dptr (P 1),dptr (P 2)]] w fun e w'=>∃ (tb n:Nat) (P':Nat→Dp) (D':Nat→Dk) (S:Nat→Option Nat) (a:Option Addr) (cap:Nat),e=.returned (.tuple #[.pointer (some ⟨tb,0,none⟩),.int .i64 n,.nilIface])∧(w.heap.size≤w'.heap.size∧w.heap.size≤tb)∧zqC lo w w' P P' D D' tb S a cap l t n:=by
 refine (znP lo 60 P D w h3 hf (by omega) (by omega) hv hlo).mono ?_;rintro e w' ⟨s1,c1,w1,hb1,hrd,hor⟩;obtain ⟨v,hv1,hv2⟩:=zq4 (c:=c1) (l:=l) (t:=t) hi hj hij (((hrd i hi).tells hg).2 h1) (((hrd j hj).tells hg).2 h2);rcases hor with ⟨hno,-⟩ | ⟨v',tb,n,a,cap,w2,hvo,rfl,hb2,htb,hsc⟩
 · rw [hv1] at hno;cases hno
 · rw [hv1] at hvo
   cases hvo;have e1:=hv2.2.1;have e2:=hv2.2.2;rw [e1,e2] at hsc;have hsz:=hsc;obtain ⟨_,_,_,_,_,_,_,hs0⟩:=hsz;obtain ⟨m,P',D',S,he,hm⟩:=zjE hg (Nat.le_trans hlo hb2.size) (Nat.le_trans hlo htb) hf hi hj hij h1 h2 hsc;simp at he;subst he;exact ⟨tb,m,P',D',S,a,cap,rfl,⟨Nat.le_trans hb2.size hs0.size,htb⟩,⟨hm.life,hm.same,hm.right,hm.wrong,hm.free,hm.few,hm.none,(hb2.mono hlo).trans hm.bel,(LetT.of_below hb2).trans hm.far,fun k C fr hk e=>hm.trios k C fr hk ((hb2.block k (Array.getElem?_eq_some_iff.1 e).1).trans e)⟩⟩
structure zqW (lo:Nat)(w w':World)(P:Nat→Dp)(D:Nat→Dk)(tb:Nat)(l:List Fi)(t:Int)(r:Res)(P':Nat→Dp)(D':Nat→Dk)(so':Nat→Option Nat)(a':Option Addr)(cap':Nat):Prop where
 life:Life lo 60 w' P' D' tb so' a' cap' r.l r.t
 same:∀ i,i<3→(P' i).B=(P i).B
 free:∀ i,i<3→Free (D' i) 60 0
 sound:∀ i,i<3→zez 60 (D i) (zaw l t)→zez 60 (D' i) (zaw r.l r.t)
theorem zja.wellC (h:zja lo 60 w P D tb l t r e w')(hl:Life lo 60 w P D tb so a cap l t)(hf:∀ i,i<3→Free (D i) 60 0)(hfew:r.n=0→zau r.l r.t→(zbu l t r).length≤3):
 e=.returned (errV r.n)∧(Below lo w w'∧LetT w w')∧((¬ r.n=0∧Life lo 60 w' P D tb so a cap l t)∨(r.n=0∧zau r.l r.t∧∃ P' D' so' a' cap',zqW lo w w' P D tb l t r P' D' so' a' cap')):=by
 rcases h with ⟨h1,h2,h3⟩ | ⟨h1,h2,h3,S,G,hS,hor⟩
 · exact ⟨h2,⟨h3.mono hl.low,LetT.of_below h3⟩,.inl ⟨h1,hl.below h3⟩⟩
 · have good:∀ i,i<3→(zai (D i) (S i) (G i) (zbu l t r)).e=0∧Free (zai (D i) (S i) (G i) (zbu l t r)).d 60 0:=fun i hi=>zn0 (by omega) (by omega) hl.good h2 (hfew h1 h2) (hf i hi) (hS i hi)
   rcases hor with ⟨rfl,h4,P',D',so',a',cap',h5,h6,h7⟩ | ⟨k,hk,_,h4,_⟩
   · refine ⟨by rw [zac h1],h3,.inr ⟨h1,h2,P',D',so',a',cap',h5,h6,fun i hi=>by rw [h7 i hi];exact (good i hi).2,fun i hi hs=>?_⟩⟩
     rw [h7 i hi];obtain ⟨k1,k2,k3,k4,k5⟩:=hS i hi;have:=hs.commit (c:=zbu l t r) (by omega) (by omega) (hl.three.disk i hi).snow k1 k5 (by rw [k4]) (good i hi).1 (good i hi).2;rw [zgP hl.good.rowed h2.rowed] at this
     exact this
   · exact absurd (good k hk).1 h4
structure zfk (w wr:World)(p:Dp)(u:Value)(d:Dk)(k:Nat):Prop where
 disk:zab wr { p with wv:=u } d
 free:Free d 60 k
 new:zbw p w u
 touch:zat (dOwn p) w wr
theorem zfk.step (h:zfk w wr p u d k)(hd:zab w1 { p with wv:=v } d')(hn:zbw { p with wv:=u } wr v)(ht:zat (dOwn { p with wv:=u }) wr w1)(hf:Free d' 60 k'):zfk w w1 p v d' k' :=
 ⟨hd,hf,fun j hj=>by
  rcases hn j hj with h1 | h1
  · exact h.new j h1
  · exact .inr (Nat.le_trans h.touch.size h1),zat.step h.touch ht rfl rfl rfl h.new⟩
theorem Life.spoilC (h:Life lo 60 w P D tb so a cap l t)(hk:k<3)(hs:zfk w w' (P k) u d' 0)(hc:zdt d'):
 Life lo 60 w' (upd P k { P k with wv:=u }) (upd D k d') tb so a cap l t∧Below lo w w'∧LetT w w'∧∀ i,i<3→(upd P k { P k with wv:=u } i).B=(P i).B:=by
 have hd:=h.three.disk k hk
 have hB:∀ i,i<3→(upd P k { P k with wv:=u } i).B=(P i).B:=fun i hi=>by
  by_cases e:i=k
  · subst e;rw [zay]
  · rw [zal _ _ e]
 have hb:Below lo w w':=hs.touch.below (fun j hj=>Nat.le_trans (h.three.lo k hk) (zd7 hd j hj)) h.low;refine ⟨⟨h.three.step hk hs.disk hs.new hs.touch (fun j hj=>.inl hj),(h.trio.touch hd hs.touch).place hB,fun i hi=>?_,h.good,h.vars.go hb,Nat.le_trans h.low hs.touch.size,h.tbl,fun i hi=>?_⟩,hb,LetT.of_touch hd (h.up k hk).2.1 hs.touch,hB⟩
 · by_cases e:i=k
   · subst e
     rw [zay,zay];exact ((h.mem i hi).touch hd hs.touch).turn rfl (by rw [hs.free.len,(h.up i hi).2.2])
   · rw [zal _ _ e,zal _ _ e]
     exact (h.mem i hi).touch hd hs.touch
 · by_cases e:i=k
   · subst e
     rw [zay];exact ⟨hc.up,hc.wr,hs.free.len⟩
   · rw [zal _ _ e];exact h.up i hi
theorem zoE (hk:k<3):∃ i j,i<3∧j<3∧i≠j∧i≠k∧j≠k:=by
 rcases (show k=0∨k=1∨k=2 by omega) with rfl | rfl | rfl
 · exact ⟨1,2,by omega,by omega,by omega,by omega,by omega⟩
 · exact ⟨0,2,by omega,by omega,by omega,by omega,by omega⟩
 · exact ⟨0,1,by omega,by omega,by omega,by omega,by omega⟩
structure SptC (lo:Nat)(w w':World)(P P':Nat→Dp)(D':Nat→Dk)(tb:Nat)(so:Nat→Option Nat)(a:Option Addr)(cap:Nat)(l:List Fi)(t:Int)(k:Nat):Prop where
 life:Life lo 60 w' P' D' tb so a cap l t
 same:∀ i,i<3→(P' i).B=(P i).B
 free:∀ i,i<3→Free (D' i) 60 0
 sound:∀ i,i<3→i≠k→zez 60 (D' i) (zaw l t)
 bel:Below lo w w'
 far:LetT w w'
theorem zn7 (h:Life lo 60 w P D tb so a cap l t)(hf:∀ i,i<3→Free (D i) 60 0)(hi:i<3)(hj:j<3)(hij:i≠j)(h1:zdj (D i) (zaw l t))(h2:zdj (D j) (zaw l t)):
 Calls Tryz.prog 31 #[.pointer (some ⟨tb,0,none⟩)] w fun e w'=>∃ (n:Nat) (P':Nat→Dp) (D':Nat→Dk) (S:Nat→Option Nat),e=.returned (.tuple #[.int .i64 n,.nilIface])∧zqC lo w w' P P' D D' tb S a cap l t n:=by
 refine (zmp lo 60 P D tb so a cap l t w h.three hf (by omega) (by omega) h.vars h.low h.tbl h.trio h.good).mono ?_;intro e w' hs;exact zjE h.good h.low h.tbl hf hi hj hij h1 h2 hs
theorem zjM (k:Nat):∃ i j,i<3∧j<3∧i≠j∧i≠k∧j≠k:=by
 by_cases hk:k<3
 · exact zoE hk
 · exact ⟨0,1,by omega,by omega,by omega,by omega,by omega⟩
theorem SptC.mend (h:SptC lo w wr P P1 D1 tb so a cap l t k) (hk:k≤3) (hm:zqC lo wr w' P1 P2 D1 D2 tb2 S a2 cap2 l t n):
 SptC lo w w' P P2 D2 tb2 S a2 cap2 l t (if n=1 then 3 else k)∧(n=1→k<3):=by
 have hnot:n=1→∃ i,i<3∧¬ zdj (D1 i) (zaw l t):=fun h1=>by
  by_cases hx:∃ i,i<3∧¬ zdj (D1 i) (zaw l t)
  · exact hx
  · have h0:n=0:=hm.none.2 (fun i hi=>Classical.byContradiction fun hn=>hx ⟨i,hi,hn⟩)
    omega
 refine ⟨⟨hm.life,fun i hi=>(hm.same i hi).trans (h.same i hi),hm.free,fun i hi hik=>?_,h.bel.trans hm.bel,h.far.trans hm.far⟩,fun h1=>?_⟩
 · by_cases ht:zdj (D1 i) (zaw l t)
   · by_cases e:i=k
     · by_cases h1:n=1
       · obtain ⟨j,hj,hn⟩:=hnot h1
         have:j=k:=Classical.byContradiction fun hjk=>hn (h.sound j hj hjk).tells
         rw [this,← e] at hn;exact absurd ht hn
       · rw [if_neg h1] at hik
         exact absurd e hik
     · exact hm.sound hi (.inl (h.sound i hi e))
   · exact hm.wrong i hi ht
 · obtain ⟨j,hj,hn⟩:=hnot h1
   by_cases hjk:j=k
   · omega
   · exact absurd (h.sound j hj hjk).tells hn
theorem SptC.spoil (h:SptC lo w wr P P1 D1 tb so a cap l t k0)(hk:k<3)(hk0:k0=3∨k0=k)(hs:zfk wr w' (P1 k) u d' 0)(hc:zdt d'):
 SptC lo w w' P (upd P1 k { P1 k with wv:=u }) (upd D1 k d') tb so a cap l t k:=by
 obtain ⟨h1,h2,h3,h4⟩:=h.life.spoilC hk hs hc;refine ⟨h1,fun i hi=>(h4 i hi).trans (h.same i hi),fun i hi=>?_,fun i hi hik=>?_,h.bel.trans h2,h.far.trans h3⟩
 · by_cases e:i=k
   · subst e;rw [zay];exact hs.free
   · rw [zal _ _ e];exact h.free i hi
 · rw [zal _ _ hik];exact h.sound i hi (by omega)
theorem znE (p:Dp)(d:Dk)(i:Nat)(s:ByteArray)(w:World)(hd:zab w p d)(hf:Free d 60 0)(hi:i<60)(hs:s.size≤40) :
 Calls Tryz.prog 28 #[.pointer (some ⟨p.B,0,none⟩),.int .i64 i,.string s] w fun e w'=>e=.returned .nilIface∧∃ v,zfk w w' p v (zaN d (i:Int) s) 1:=by
 obtain ⟨hw0,hwf⟩:=zk5 (i:=i) (s:=s) hf hi hs;refine (zdI p d (i:Int) s w hd (by unfold maxLen;omega) (by have:=hf.wr;omega)).mono ?_;rintro e w1 ⟨rfl,v,hd1,hn1,hw1⟩;exact ⟨by rw [hw0,zac rfl],v,hd1,hwf,hw1,hn1.touch⟩
theorem zny (h:zfk w wr p u d k):
 Calls Tryz.prog 29 #[.pointer (some ⟨p.B,0,none⟩)] wr fun e w'=>e=.returned .nilIface∧zfk w w' p (.slice none 0 0) (zaO d) 0∧zdt (zaO d):=by
 have hst:zb1 d=0:=by
  unfold zb1;rw [if_neg];rintro (e | e)
  · rw [h.free.up] at e;cases e
  · have:=h.free.left;omega
 have hcl:=ziz hst
 have hnow:(zaO d).now=d.now:=by
  unfold zaO;rw [if_pos hst];exact (zbU _).1
 have hleft:(zaO d).left<0:=by
  unfold zaO;rw [if_pos hst];show (zaK _).left<0;have:=h.free.left;unfold zaK;rw [if_neg (by rintro (e | e);rw [h.free.up] at e;cases e;omega),if_neg (by omega)];exact this
 have hP:zgA { p with wv:=u } d={ p with wv:=.slice none 0 0 }:=by
  unfold zgA;rw [if_pos hst]
 refine (zdB { p with wv:=u } d wr h.disk).mono ?_;rintro e w1 ⟨rfl,hd1,hn1⟩;rw [hP] at hd1;exact ⟨by rw [hst,zac rfl],h.step hd1 (fun j hj=>by cases hj) hn1.touch ⟨hcl.up,hleft,by rw [hcl.wr];simp,by rw [hnow];exact h.free.len⟩,hcl⟩
theorem SptC.keep (h:SptC lo w wr P P1 D1 tb so a cap l t k)(hk:∀ (k:Nat) (C:Array Value) (T:TypeId) (fr:Nat × Nat),wr.heap[k]?=some (.cells C T fr)→zcD T∨T=98∨T=72→w'.heap[k]?=wr.heap[k]?)(hb:Below lo wr w')(hf:LetT w w'):SptC lo w w' P P1 D1 tb so a cap l t k :=
 ⟨h.life.keep hk hb,h.same,h.free,h.sound,h.bel.trans hb,hf⟩
theorem SptC.below (h:SptC lo w wr P P1 D1 tb so a cap l t k)(hb:Below wr.heap.size wr w'):SptC lo w w' P P1 D1 tb so a cap l t k :=
 ⟨h.life.below hb,h.same,h.free,h.sound,h.bel.trans (hb.mono h.life.low),h.far.trans (LetT.of_below hb)⟩
def ptD (P:Nat→Dp)(k i:Nat):Value:=if i<k then dptr (P i) else .pointer none
def CLo (w0:World):Prop:=zfs w0∧∃ m,w0.cell? ⟨2,0,none⟩=some (.int .i64 m)
theorem CLo.vars (h:CLo w0)(hb:Below w0.heap.size w0 w):zfs w:=h.1.below hb
theorem CLo.len (h:CLo w0)(hb:Below w0.heap.size w0 w):∃ m,w.cell? ⟨2,0,none⟩=some (.int .i64 m):=by
 obtain ⟨m,e⟩:=h.2;exact ⟨m,by rw [hb.cell (World.block_lt_of_cell? _ _ e)];exact e⟩
structure Ses (w0 w:World)(P0 P:Nat→Dp)(D:Nat→Dk)(tb:Nat)(so:Nat→Option Nat)(a:Option Addr)(cap:Nat)(l:List Fi)(t:Int)(k:Nat):Prop where
 spt:SptC w0.heap.size w0 w P0 P D tb so a cap l t k
 box:w.heap[w0.heap.size]?=some (.cells #[dptr (P0 0),dptr (P0 1),dptr (P0 2),.pointer (some ⟨tb,0,none⟩)] 128 (0,0))
 three:k≤3
def Stay (sb:Nat)(w w':World):Prop:=∀ (k:Nat) (C:Array Value) (T:TypeId) (fr:Nat × Nat),k≠sb→w.heap[k]?=some (.cells C T fr)→zqJ C T→w'.heap[k]?=some (.cells C T fr)
theorem Stay.refl (sb:Nat)(w:World):Stay sb w w:=fun _ _ _ _ _ e _=>e
theorem Stay.trans {a b c:World}(h:Stay sb a b)(k:Stay sb b c):Stay sb a c:=fun i C T fr hi e hT=>k i C T fr hi (h i C T fr hi e hT) hT
theorem Stay.of_below (hb:Below w.heap.size w w'):Stay sb w w':=fun k C T fr _ e _=>(hb.block k (Array.getElem?_eq_some_iff.1 e).1).trans e
theorem Stay.of_let (h:LetT w w'):Stay sb w w':=fun k C T fr _ e hT=>h k C T fr e hT
theorem Ses.below (h:Ses w0 w P0 P D tb so a cap l t k)(hb:Below w.heap.size w w'):Ses w0 w' P0 P D tb so a cap l t k :=
 ⟨h.spt.below hb,(hb.block _ (Array.getElem?_eq_some_iff.1 h.box).1).trans h.box,h.three⟩
theorem Ses.cells (h:Ses w0 w P0 P D tb so a cap l t k):
 w.cell? ⟨w0.heap.size,0,none⟩=some (dptr (P 0))∧w.cell? ⟨w0.heap.size,1,none⟩=some (dptr (P 1))∧w.cell? ⟨w0.heap.size,2,none⟩=some (dptr (P 2))∧w.cell? ⟨w0.heap.size,3,none⟩=some (.pointer (some ⟨tb,0,none⟩))∧w0.heap.size<w.heap.size:=by
 have hP:∀ i,i<3→dptr (P i)=dptr (P0 i):=fun i hi=>by unfold dptr;rw [h.spt.same i hi]
 refine ⟨?_,?_,?_,?_,(Array.getElem?_eq_some_iff.1 h.box).1⟩
 · rw [zaa h.box,hP 0 (by omega)];rfl
 · rw [zaa h.box,hP 1 (by omega)];rfl
 · rw [zaa h.box,hP 2 (by omega)];rfl
 · rw [zaa h.box];rfl
theorem zfY:zqJ C 128:=.inl ⟨by decide,by decide,by decide,by decide,by decide,by decide⟩
theorem Ses.go (h:Ses w0 w P0 P D tb so a cap l t k)(hs:SptC w0.heap.size w0 w' P0 P' D' tb so' a' cap' l' t' k')(hf:LetT w w')(hk:k'≤3):Ses w0 w' P0 P' D' tb so' a' cap' l' t' k' :=
 ⟨hs,hf _ _ _ _ h.box zfY,hk⟩
theorem Ses.turn (h:Ses w0 w P0 P D tb so a cap l t k)(hs:SptC w0.heap.size w0 w' P0 P' D' tb' so' a' cap' l' t' k')(hf:LetT w w')(hk:k'≤3):
 Ses w0 (w'.setCell ⟨w0.heap.size,3,none⟩ (.pointer (some ⟨tb',0,none⟩))) P0 P' D' tb' so' a' cap' l' t' k':=by
 have hb:=hf _ _ _ _ h.box zfY;have hlt:w0.heap.size<w'.heap.size:=(Array.getElem?_eq_some_iff.1 hb).1;have hset:=zaZ hb 3 (.pointer (some ⟨tb',0,none⟩));have hoff:∀ k,k≠w0.heap.size→(w'.setCell ⟨w0.heap.size,3,none⟩ (.pointer (some ⟨tb',0,none⟩))).heap[k]?=w'.heap[k]?:=fun k hk=>Below.heap_setCell _ ⟨w0.heap.size,3,none⟩ _ k hk
 have hbs:Below w0.heap.size w' (w'.setCell ⟨w0.heap.size,3,none⟩ (.pointer (some ⟨tb',0,none⟩))):=by exact (Below.refl _ _).setCell (by show w0.heap.size≤w0.heap.size;omega) _
 refine ⟨hs.keep (fun k C T fr e hT=>hoff k (fun ek=>?_)) hbs (fun k C T fr e hT=>(hoff k (by have:=(Array.getElem?_eq_some_iff.1 e).1;omega)).trans (hs.far k C T fr e hT)),hset.trans (by simp),hk⟩;rw [ek,hb] at e;have e2:128=T:=by cases e;rfl
 subst e2;rcases hT with hT | hT | hT
 · revert hT;unfold zcD;decide
 · revert hT;decide
 · revert hT;decide
theorem Stay.turn (h:Stay sb w w')(i:Nat)(v:Value):Stay sb w (w'.setCell ⟨sb,i,none⟩ v) :=
 fun k C T fr hk e hT=>(Below.heap_setCell _ ⟨sb,i,none⟩ _ k hk).trans (h k C T fr hk e hT)
theorem zn8 (w0 w:World)(P0 P:Nat→Dp)(D:Nat→Dk)(tb:Nat)(so:Nat→Option Nat)(a:Option Addr)(cap:Nat)(l:List Fi)(t:Int)(k:Nat)(h:Ses w0 w P0 P D tb so a cap l t k) :
 Calls Tryz.prog 64 #[.pointer (some ⟨w0.heap.size,0,none⟩)] w fun e w'=>∃ (tb2 n:Nat) (P2:Nat→Dp) (D2:Nat→Dk) (so2:Nat→Option Nat) (a2:Option Addr) (cap2:Nat),e=.returned (.tuple #[.int .i64 n,.nilIface])∧n≤1∧(n=1→k<3)∧(n=0↔∀ i,i<3→zdj (D i) (zaw l t))∧Ses w0 w' P0 P2 D2 tb2 so2 a2 cap2 l t (if n=1 then 3 else k)∧Stay w0.heap.size w w':=by
 obtain ⟨i0,j0,hi0,hj0,hij,hik,hjk⟩:=zjM k;have KO:Hid _:=zkz w0.heap.size P D l t w h.spt.life.good h.spt.life.three h.spt.free h.spt.life.vars h.spt.life.low hi0 hj0 hij (h.spt.sound i0 hi0 hik).tells (h.spt.sound j0 hj0 hjk).tells;clear hi0 hj0 hij hik hjk i0 j0;have HS:Hid (Ses w0 w P0 P D tb so a cap l t k):=h;obtain ⟨d0,d1,d2,d3,hlt⟩:=h.cells;clear h
 go_enter Tryz.func64,Tryz.ntmps64
 go_wp2_with fail
 refine Calls.mono KO.out ?_;rintro e w4 ⟨tb4,n4,P4,D4,S4,a4,c4,rfl,hsz,hmd⟩;obtain ⟨h1,h2⟩:=HS.out.spt.mend HS.out.three hmd;have HS5:Hid (Ses w0 (w4.setCell ⟨w0.heap.size,3,none⟩ (.pointer (some ⟨tb4,0,none⟩))) P0 P4 D4 tb4 S4 a4 c4 l t (if n4=1 then 3 else k)):=HS.out.turn h1 hmd.far (by have:=HS.out.three;split <;> omega);have HST:Hid (Stay w0.heap.size w (w4.setCell ⟨w0.heap.size,3,none⟩ (.pointer (some ⟨tb4,0,none⟩)))):=(Stay.of_let hmd.far).turn 3 _;have HN:Hid (n4≤1∧(n4=1→k<3)∧(n4=0↔∀ i,i<3→zdj (D i) (zaw l t))):=⟨hmd.few,h2,hmd.none⟩;have hb4:=hmd.far _ _ _ _ HS.out.box zfY;have d4:w4.cell? ⟨w0.heap.size,3,none⟩=some (.pointer (some ⟨tb,0,none⟩)):=by rw [zaa hb4];rfl
 have f4:=zaE hb4 3;clear h1 h2 hmd hsz KO d0 d1 d2 d3 hb4;go_wp2
 try simp only [Exit.inBlock,Exit.then]
 refine bodyPost_ret (v:=.tuple #[.int .i64 n4,.nilIface]) (by simp [results,Tryz.results64,go_sem]) rfl ⟨tb4,n4,P4,D4,S4,a4,c4,rfl,HN.out.1,HN.out.2.1,HN.out.2.2,HS5.out,HST.out⟩
theorem zmn (p:Addr)(s:ByteArray)(a:Option Addr)(cap:Nat)(l:List Fi)(t:Int)(w:World)(hq:zau l t)(hs:za5 w a cap l)(hn:s.size≤maxLen)(c0:w.cell? p=some (.string s))(h0:p.block<w.heap.size) :
 Calls Tryz.prog 138 #[.agg #[.slice a l.length cap,.int .i64 t],.pointer (some p)] w (zdb w (zbb l t s)):=by
 obtain ⟨W,hW⟩:∃ y,y=(w.alloc (.cells #[.slice a l.length cap,.int .i64 t] 32)).alloc (.cells #[.slice none 0 0,.int .i64 0] 32):=⟨_,rfl⟩
 have hbW:Below w.heap.size w W:=by rw [hW];exact ((Below.refl _ _).alloc (Nat.le_refl _) _).alloc (by simp) _
 have HBW:Hid (Below w.heap.size w W):=hbW;have KD:Hid _:=zrZ a cap l t s W hq (hs.below hbW)
 have hq1:QBox W (w.heap.size+1) (.slice none 0 0) 0:=by
  have:=QBox.new (w.alloc (.cells #[.slice a l.length cap,.int .i64 t] 32)) (.slice none 0 0) 0 32;rw [World.size_alloc] at this
  rw [hW];exact this
 have HQ1:Hid (QBox W (w.heap.size+1) (.slice none 0 0) 0):=hq1;obtain ⟨b,o,x⟩:=p;simp only at h0;clear hbW hs hq1 hq
 go_enter Tryz.func138,Tryz.ntmps138
 go_wp2_with fail
 rw [← hW];clear hW c0;generalize hr:zbb l t s=r at *;clear hr;refine Calls.mono KD.out ?_;rintro e w1 ⟨a1,cap1,rfl,hs1,hb1⟩;have HS1:Hid (za5 w1 a1 cap1 r.l):=hs1;have HB1:Hid (Below W.heap.size W w1):=hb1;have hq2:=HQ1.out.below hb1 HQ1.out.lt;have HYO:Hid (∀ o,2≤o→w1.cell? ⟨w.heap.size+1,o,none⟩=none):=hq2.only;obtain ⟨y0,y1,g0,g1,yl,_⟩:=hq2;clear hs1 hb1 KD;go_wp2;refine bodyPost_ret (v:=.tuple #[.agg #[.slice a1 r.l.length cap1,.int .i64 r.t],errV r.n]) (by simp [results,Tryz.results138,go_sem,y0,y1,yl]) rfl ⟨a1,cap1,rfl,?_,?_⟩
 · exact HS1.out.store2 HYO.out _ _
 · exact ((HBW.out.trans (HB1.out.mono HBW.out.size)).setCell (by show w.heap.size≤w.heap.size+1;omega) _).setCell (by show w.heap.size≤w.heap.size+1;omega) _
theorem zmh (p:Addr)(s:ByteArray)(p2:Addr)(tx:ByteArray)(a:Option Addr)(cap:Nat)(l:List Fi)(t:Int)(w:World)(hq:zau l t)(hs:za5 w a cap l)(hn:s.size≤maxLen)(c0:w.cell? p=some (.string s))(h0:p.block<w.heap.size)(hx:tx.size≤maxLen)(c1:w.cell? p2=some (.string tx))(h1:p2.block<w.heap.size) :
 Calls Tryz.prog 142 #[.agg #[.slice a l.length cap,.int .i64 t],.pointer (some p),.pointer (some p2)] w (zdb w (zax l t s tx)):=by
 obtain ⟨W,hW⟩:∃ y,y=(w.alloc (.cells #[.slice a l.length cap,.int .i64 t] 32)).alloc (.cells #[.slice none 0 0,.int .i64 0] 32):=⟨_,rfl⟩
 have hbW:Below w.heap.size w W:=by rw [hW];exact ((Below.refl _ _).alloc (Nat.le_refl _) _).alloc (by simp) _
 have HBW:Hid (Below w.heap.size w W):=hbW;have KD:Hid _:=zqf a cap l t s tx W hq (hs.below hbW) hn hx
 have hq1:QBox W (w.heap.size+1) (.slice none 0 0) 0:=by
  have:=QBox.new (w.alloc (.cells #[.slice a l.length cap,.int .i64 t] 32)) (.slice none 0 0) 0 32;rw [World.size_alloc] at this
  rw [hW];exact this
 have HQ1:Hid (QBox W (w.heap.size+1) (.slice none 0 0) 0):=hq1;obtain ⟨b,o,x⟩:=p;simp only at h0;obtain ⟨b2,o2,x2⟩:=p2;simp only at h1;clear hbW hs hq1 hq
 go_enter Tryz.func142,Tryz.ntmps142
 go_wp2_with fail
 rw [← hW];clear hW c0 c1;generalize hr:zax l t s tx=r at *;clear hr;refine Calls.mono KD.out ?_;rintro e w1 ⟨a1,cap1,rfl,hs1,hb1⟩;have HS1:Hid (za5 w1 a1 cap1 r.l):=hs1;have HB1:Hid (Below W.heap.size W w1):=hb1;have hq2:=HQ1.out.below hb1 HQ1.out.lt;have HYO:Hid (∀ o,2≤o→w1.cell? ⟨w.heap.size+1,o,none⟩=none):=hq2.only;obtain ⟨y0,y1,g0,g1,yl,_⟩:=hq2;clear hs1 hb1 KD;go_wp2;refine bodyPost_ret (v:=.tuple #[.agg #[.slice a1 r.l.length cap1,.int .i64 r.t],errV r.n]) (by simp [results,Tryz.results142,go_sem,y0,y1,yl]) rfl ⟨a1,cap1,rfl,?_,?_⟩
 · exact HS1.out.store2 HYO.out _ _
 · exact ((HBW.out.trans (HB1.out.mono HBW.out.size)).setCell (by show w.heap.size≤w.heap.size+1;omega) _).setCell (by show w.heap.size≤w.heap.size+1;omega) _
theorem zmP (p:Addr)(s:ByteArray)(p2:Addr)(tx:ByteArray)(a:Option Addr)(cap:Nat)(l:List Fi)(t:Int)(w:World)(hq:zau l t)(hs:za5 w a cap l)(hn:s.size≤maxLen)(c0:w.cell? p=some (.string s))(h0:p.block<w.heap.size)(hx:tx.size≤maxLen)(c1:w.cell? p2=some (.string tx))(h1:p2.block<w.heap.size) :
 Calls Tryz.prog 143 #[.agg #[.slice a l.length cap,.int .i64 t],.pointer (some p),.pointer (some p2)] w (zdb w (zbs l t s tx)):=by
 obtain ⟨W,hW⟩:∃ y,y=(w.alloc (.cells #[.slice a l.length cap,.int .i64 t] 32)).alloc (.cells #[.slice none 0 0,.int .i64 0] 32):=⟨_,rfl⟩
 have hbW:Below w.heap.size w W:=by rw [hW];exact ((Below.refl _ _).alloc (Nat.le_refl _) _).alloc (by simp) _
 have HBW:Hid (Below w.heap.size w W):=hbW;have KD:Hid _:=ztJ a cap l t s tx W hq (hs.below hbW) hn hx
 have hq1:QBox W (w.heap.size+1) (.slice none 0 0) 0:=by
  have:=QBox.new (w.alloc (.cells #[.slice a l.length cap,.int .i64 t] 32)) (.slice none 0 0) 0 32;rw [World.size_alloc] at this
  rw [hW];exact this
 have HQ1:Hid (QBox W (w.heap.size+1) (.slice none 0 0) 0):=hq1;obtain ⟨b,o,x⟩:=p;simp only at h0;obtain ⟨b2,o2,x2⟩:=p2;simp only at h1;clear hbW hs hq1 hq
 go_enter Tryz.func143,Tryz.ntmps143
 go_wp2_with fail
 rw [← hW];clear hW c0 c1;generalize hr:zbs l t s tx=r at *;clear hr;refine Calls.mono KD.out ?_;rintro e w1 ⟨a1,cap1,rfl,hs1,hb1⟩;have HS1:Hid (za5 w1 a1 cap1 r.l):=hs1;have HB1:Hid (Below W.heap.size W w1):=hb1;have hq2:=HQ1.out.below hb1 HQ1.out.lt;have HYO:Hid (∀ o,2≤o→w1.cell? ⟨w.heap.size+1,o,none⟩=none):=hq2.only;obtain ⟨y0,y1,g0,g1,yl,_⟩:=hq2;clear hs1 hb1 KD;go_wp2;refine bodyPost_ret (v:=.tuple #[.agg #[.slice a1 r.l.length cap1,.int .i64 r.t],errV r.n]) (by simp [results,Tryz.results143,go_sem,y0,y1,yl]) rfl ⟨a1,cap1,rfl,?_,?_⟩
 · exact HS1.out.store2 HYO.out _ _
 · exact ((HBW.out.trans (HB1.out.mono HBW.out.size)).setCell (by show w.heap.size≤w.heap.size+1;omega) _).setCell (by show w.heap.size≤w.heap.size+1;omega) _
theorem zlM (p:Addr)(s:ByteArray)(p2:Addr)(tx:ByteArray)(a:Option Addr)(cap:Nat)(l:List Fi)(t:Int)(w:World)(hq:zau l t)(hs:za5 w a cap l)(hn:s.size≤maxLen)(c0:w.cell? p=some (.string s))(h0:p.block<w.heap.size)(hx:tx.size≤maxLen)(c1:w.cell? p2=some (.string tx))(h1:p2.block<w.heap.size) :
 Calls Tryz.prog 180 #[.agg #[.slice a l.length cap,.int .i64 t],.pointer (some p),.pointer (some p2)] w (zdb w (zaG l t s tx)):=by
 obtain ⟨W,hW⟩:∃ y,y=(w.alloc (.cells #[.slice a l.length cap,.int .i64 t] 32)).alloc (.cells #[.slice none 0 0,.int .i64 0] 32):=⟨_,rfl⟩
 have hbW:Below w.heap.size w W:=by rw [hW];exact ((Below.refl _ _).alloc (Nat.le_refl _) _).alloc (by simp) _
 have HBW:Hid (Below w.heap.size w W):=hbW;have KD:Hid _:=zse a cap l t s tx W hq (hs.below hbW) hn hx
 have hq1:QBox W (w.heap.size+1) (.slice none 0 0) 0:=by
  have:=QBox.new (w.alloc (.cells #[.slice a l.length cap,.int .i64 t] 32)) (.slice none 0 0) 0 32;rw [World.size_alloc] at this
  rw [hW];exact this
 have HQ1:Hid (QBox W (w.heap.size+1) (.slice none 0 0) 0):=hq1;obtain ⟨b,o,x⟩:=p;simp only at h0;obtain ⟨b2,o2,x2⟩:=p2;simp only at h1;clear hbW hs hq1 hq
 go_enter Tryz.func180,Tryz.ntmps180
 go_wp2_with fail
 rw [← hW];clear hW c0 c1;generalize hr:zaG l t s tx=r at *;clear hr;refine Calls.mono KD.out ?_;rintro e w1 ⟨a1,cap1,rfl,hs1,hb1⟩;have HS1:Hid (za5 w1 a1 cap1 r.l):=hs1;have HB1:Hid (Below W.heap.size W w1):=hb1;have hq2:=HQ1.out.below hb1 HQ1.out.lt;have HYO:Hid (∀ o,2≤o→w1.cell? ⟨w.heap.size+1,o,none⟩=none):=hq2.only;obtain ⟨y0,y1,g0,g1,yl,_⟩:=hq2;clear hs1 hb1 KD;go_wp2;refine bodyPost_ret (v:=.tuple #[.agg #[.slice a1 r.l.length cap1,.int .i64 r.t],errV r.n]) (by simp [results,Tryz.results180,go_sem,y0,y1,yl]) rfl ⟨a1,cap1,rfl,?_,?_⟩
 · exact HS1.out.store2 HYO.out _ _
 · exact ((HBW.out.trans (HB1.out.mono HBW.out.size)).setCell (by show w.heap.size≤w.heap.size+1;omega) _).setCell (by show w.heap.size≤w.heap.size+1;omega) _
def zkb (w0 w w':World)(P0:Nat→Dp)(tb:Nat)(l:List Fi)(t:Int)(r:Res)(k:Nat):Prop :=
 ∃ (P2:Nat→Dp) (D2:Nat→Dk) (so2:Nat→Option Nat) (a2:Option Addr) (cap2:Nat) (l2:List Fi) (t2:Int),Ses w0 w' P0 P2 D2 tb so2 a2 cap2 l2 t2 k∧((¬ r.n=0∧l2=l∧t2=t)∨(r.n=0∧l2=r.l∧t2=r.t))∧Stay w0.heap.size w w'
theorem Ses.did (h:Ses w0 w P0 P D tb so a cap l t k)(hd:zja w0.heap.size 60 w P D tb l t r e w')(hfew:r.n=0→zau r.l r.t→(zbu l t r).length≤3):
 e=.returned (errV r.n)∧zkb w0 w w' P0 tb l t r k:=by
 obtain ⟨h1,⟨h2,h3⟩,h4⟩:=hd.wellC h.spt.life h.spt.free hfew;refine ⟨h1,?_⟩;rcases h4 with ⟨h4,h5⟩ | ⟨h4,h5,P2,D2,so2,a2,cap2,h6⟩
 · exact ⟨P,D,so,a,cap,l,t,h.go ⟨h5,h.spt.same,h.spt.free,h.spt.sound,h.spt.bel.trans h2,h.spt.far.trans h3⟩ h3 h.three,.inl ⟨h4,rfl,rfl⟩,Stay.of_let h3⟩
 · exact ⟨P2,D2,so2,a2,cap2,_,_,h.go ⟨h6.life,fun i hi=>(h6.same i hi).trans (h.spt.same i hi),h6.free,fun i hi hik=>h6.sound i hi (h.spt.sound i hi hik),h.spt.bel.trans h2,h.spt.far.trans h3⟩ h3 h.three,.inr ⟨h4,rfl,rfl⟩,Stay.of_let h3⟩
theorem zgp (F:Nat)(cs:Array Value)(r:Res)(w0 w:World)(P0 P:Nat→Dp)(D:Nat→Dk)(tb:Nat)(so:Nat→Option Nat)(a:Option Addr)(cap:Nat)(l:List Fi)(t:Int)(k:Nat)(h:Ses w0 w P0 P D tb so a cap l t k)
 (eg:∀ args w,(callFunc F args).run Tryz.prog w=.ok (.enter F args) w) (hgd:(r.n=0∧zau r.l r.t)∨(0<r.n∧r.n≤100∧r.l=[]∧r.t=0)) (hfew:r.n=0→zau r.l r.t→(zbu l t r).length≤3)
 (hk:∀ (a:Option Addr) (cap:Nat) (W:World),Below w.heap.size w W→za5 W a cap l→Calls Tryz.prog F (#[.agg #[.slice a l.length cap,.int .i64 t]] ++ cs) W (zdb W r)) :
 Calls Tryz.prog 137 #[.pointer (some ⟨w0.heap.size,0,none⟩),.func (.func F) #[] cs] w fun e w'=>e=.returned (.tuple #[.string ⟨#[111,107]⟩,errV r.n])∧zkb w0 w w' P0 tb l t r k:=by
 have KD:Hid _:=zoa w0.heap.size 60 F cs P D tb so a cap l t r w (by omega) (by omega) h.spt.life eg hgd hfew hk;have HS:Hid (Ses w0 w P0 P D tb so a cap l t k):=h;have HF:Hid (r.n=0→zau r.l r.t→(zbu l t r).length≤3):=hfew;obtain ⟨d0,d1,d2,d3,hlt⟩:=h.cells;clear h eg hgd hfew hk
 go_enter Tryz.func137,Tryz.ntmps137
 go_wp2_with fail
 refine Calls.mono KD.out ?_;rintro e w4 hd;obtain ⟨rfl,hdone⟩:=HS.out.did hd HF.out;have HD:Hid (zkb w0 w w4 P0 tb l t r k):=hdone;clear hd hdone KD d0 d1 d2 d3;go_wp2
 try simp only [Exit.inBlock,Exit.then]
 refine bodyPost_ret (v:=.tuple #[.string ⟨#[111,107]⟩,errV r.n]) (by simp [results,Tryz.results137,go_sem]) rfl ⟨rfl,HD.out⟩
def zaD (w0 w:World)(P0:Nat→Dp)(Q:ByteArray→(Nat→Dk)→List Fi→Int→Nat→Prop)(e:Ending)(w':World):Prop :=
 ∃ (s:ByteArray) (n:Int) (P2:Nat→Dp) (D2:Nat→Dk) (tb2:Nat) (so2:Nat→Option Nat) (a2:Option Addr) (cap2:Nat) (l2:List Fi) (t2:Int) (k2:Nat),e=.returned (.tuple #[.string s,errV n])∧(0≤n∧n≤100)∧Ses w0 w' P0 P2 D2 tb2 so2 a2 cap2 l2 t2 k2∧Stay w0.heap.size w w'∧Q (if n=0 then s else errT n) D2 l2 t2 k2
theorem zaD.mono {Q Q':ByteArray→(Nat→Dk)→List Fi→Int→Nat→Prop}(h:zaD w0 w P0 Q e w')(hq:∀ s D l t k,Q s D l t k→Q' s D l t k):zaD w0 w P0 Q' e w':=by
 obtain ⟨s,n,P2,D2,tb2,so2,a2,cap2,l2,t2,k2,h1,h2,h3,h4,h5⟩:=h;exact ⟨s,n,P2,D2,tb2,so2,a2,cap2,l2,t2,k2,h1,h2,h3,h4,hq _ _ _ _ _ h5⟩
theorem zaD.behind {Q:ByteArray→(Nat→Dk)→List Fi→Int→Nat→Prop}(h:zaD w0 w1 P0 Q e w')(hb:Stay w0.heap.size w w1):zaD w0 w P0 Q e w':=by
 obtain ⟨s,n,P2,D2,tb2,so2,a2,cap2,l2,t2,k2,h1,h2,h3,h4,h5⟩:=h;exact ⟨s,n,P2,D2,tb2,so2,a2,cap2,l2,t2,k2,h1,h2,h3,hb.trans h4,h5⟩
theorem zkb.told (h:zkb w0 w w' P0 tb l t r k)(hr:0≤r.n∧r.n≤100):zaD w0 w P0 (fun s _ l2 t2 k2=>k2=k∧(s,l2,t2)=zaX r l t) (.returned (.tuple #[.string okB,errV r.n])) w':=by
 obtain ⟨P2,D2,so2,a2,cap2,l2,t2,h1,h2,h3⟩:=h;refine ⟨okB,r.n,P2,D2,tb,so2,a2,cap2,l2,t2,k,rfl,hr,h1,h3,rfl,?_⟩;unfold zaX;rcases h2 with ⟨h4,rfl,rfl⟩ | ⟨h4,rfl,rfl⟩
 · rw [if_neg h4,if_neg h4]
 · rw [if_pos h4,if_pos h4]
def zmt (l:List Fi)(t:Int)(r:Res):Prop:=((r.n=0∧zau r.l r.t)∨(0<r.n∧r.n≤100∧r.l=[]∧r.t=0))∧(r.n=0→zau r.l r.t→(zbu l t r).length≤3)
theorem zmt.num (h:zmt l t r):0≤r.n∧r.n≤100:=by rcases h.1 with h | h <;> omega
theorem ziH (hq:zau l t)(x:Ac):zmt l t (doR l t x):=⟨zup hq x,fun h0 hr=>zqI hq h0 hr⟩
theorem zrc (l:List Fi)(t:Int)(s tx:ByteArray):doR l t ⟨⟨#[119,114,105,116,101]⟩,s,tx,0,0,none,0,[]⟩=zaG l t s tx:=by simp [doR]
theorem zs9 (l:List Fi)(t:Int)(s tx:ByteArray):doR l t ⟨⟨#[100,114,111,112]⟩,s,tx,0,0,none,0,[]⟩=zbb l t s:=by simp [doR]
theorem ztr (l:List Fi)(t:Int)(s tx:ByteArray):doR l t ⟨⟨#[110,97,109,101]⟩,s,tx,0,0,none,0,[]⟩=zax l t s tx:=by simp [doR]
theorem zth (l:List Fi)(t:Int)(s tx:ByteArray):doR l t ⟨⟨#[115,119,97,112]⟩,s,tx,0,0,none,0,[]⟩=zbs l t s tx:=by simp [doR]
theorem zd2 (hq:zau l t)(s tx:ByteArray):zmt l t (zaG l t s tx):=by have h:=ziH hq ⟨⟨#[119,114,105,116,101]⟩,s,tx,0,0,none,0,[]⟩;rw [zrc] at h;exact h
theorem zeI (hq:zau l t)(s:ByteArray):zmt l t (zbb l t s):=by have h:=ziH hq ⟨⟨#[100,114,111,112]⟩,s,s,0,0,none,0,[]⟩;rw [zs9] at h;exact h
theorem zeB (hq:zau l t)(s tx:ByteArray):zmt l t (zax l t s tx):=by have h:=ziH hq ⟨⟨#[110,97,109,101]⟩,s,tx,0,0,none,0,[]⟩;rw [ztr] at h;exact h
theorem zeU (hq:zau l t)(s tx:ByteArray):zmt l t (zbs l t s tx):=by have h:=ziH hq ⟨⟨#[115,119,97,112]⟩,s,tx,0,0,none,0,[]⟩;rw [zth] at h;exact h
theorem zmm (name word:ByteArray)(w0 w:World)(P0 P:Nat→Dp)(D:Nat→Dk)(tb:Nat)(so:Nat→Option Nat)(a:Option Addr)(cap:Nat)(l:List Fi)(t:Int)(k:Nat)(h:Ses w0 w P0 P D tb so a cap l t k)(hn:name.size≤100)(hx:word.size≤100) :
 Calls Tryz.prog 141 #[.pointer (some ⟨w0.heap.size,0,none⟩),.string name,.string word] w (zaD w0 w P0 (fun s _ l2 t2 k2=>k2=k∧(s,l2,t2)=if (zbi word).2=0 then zaX (zaG l t name (zbi word).1) l t else (errT (zbi word).2,l,t))):=by
 have hmf:∀ (fn:Fn) (first cap:Array Value) (w:World),(Instr.makeFunc fn first cap).run Tryz.prog w=.ok (.func fn first cap) w:=fun _ _ _ _=>rfl
 have HS:Hid (Ses w0 w P0 P D tb so a cap l t k):=h;obtain ⟨d0,d1,d2,d3,hlt⟩:=h.cells;clear h;have HT2:Hid ((zbi word).2=0∨(zbi word).2=4):=by show _∨_;unfold zbi;split;exact .inr rfl;split <;> exact .inl rfl
 have HTS:Hid ((zbi word).1.size≤100):=by show _≤100;unfold zbi;split;exact Nat.zero_le _;split;exact Nat.zero_le _;exact hx
 have HT:Hid (zbi word=((zbi word).1,(zbi word).2)):=rfl;have KP:Hid (∀ w,Calls Tryz.prog 179 #[.string word] w fun e w'=>e=.returned (.tuple #[.string (zbi word).1,errV (zbi word).2])∧w'=w):=fun w=>zl0 word w
 generalize (zbi word).1=tx at *;generalize (zbi word).2=m at *;clear HT
 by_cases hz:m=0
 · rw [if_pos hz]
   subst hz
   go_enter Tryz.func141,Tryz.ntmps141
   go_wp2_with fail
   refine Calls.mono (KP.out _) ?_;rintro e w1 ⟨rfl,hw1⟩;rw [hw1,zac rfl];clear hw1 w1 KP;obtain ⟨W,hW⟩:∃ y,y=(w.alloc (.cells #[.string name] 9)).alloc (.cells #[.string tx] 9):=⟨_,rfl⟩
   have hbW:Below w.heap.size w W:=by rw [hW];exact ((Below.refl _ _).alloc (Nat.le_refl _) _).alloc (by simp) _
   have HSW:Hid (Ses w0 W P0 P D tb so a cap l t k):=HS.out.below hbW;have HBW:Hid (Stay w0.heap.size w W):=Stay.of_below hbW;have hb0:W.heap[w.heap.size]?=some (.cells #[.string name] 9 (0,0)):=by rw [hW,Below.heap_alloc _ _ _ (by simp)];exact World.alloc_heap_new w _
   have hb1:W.heap[w.heap.size+1]?=some (.cells #[.string tx] 9 (0,0)):=by
    have h1:=World.alloc_heap_new (w.alloc (.cells #[.string name] 9)) (.cells #[.string tx] 9);rw [World.size_alloc] at h1;rw [hW];exact h1
   have KD:Hid _:=zgp 180 #[.pointer (some ⟨w.heap.size,0,none⟩),.pointer (some ⟨w.heap.size+1,0,none⟩)] (zaG l t name tx) w0 W P0 P D tb so a cap l t k HSW.out (fun _ _=>rfl) (zd2 HSW.out.spt.life.good name tx).1 (zd2 HSW.out.spt.life.good name tx).2 (fun a3 cap3 W3 hb3 hs3=>zlM ⟨w.heap.size,0,none⟩ name ⟨w.heap.size+1,0,none⟩ tx a3 cap3 l t W3 HSW.out.spt.life.good hs3 (by unfold maxLen;omega) (by rw [hb3.cell (Array.getElem?_eq_some_iff.1 hb0).1,zaa hb0];rfl) (Nat.lt_of_lt_of_le (Array.getElem?_eq_some_iff.1 hb0).1 hb3.size) (by have:=HTS.out;unfold maxLen;omega) (by rw [hb3.cell (Array.getElem?_eq_some_iff.1 hb1).1,zaa hb1];rfl) (Nat.lt_of_lt_of_le (Array.getElem?_eq_some_iff.1 hb1).1 hb3.size));have HNM:Hid (0≤(zaG l t name tx).n∧(zaG l t name tx).n≤100):=(zd2 HSW.out.spt.life.good name tx).num;clear hbW hb0 hb1
   go_wp2_with fail
   rw [← hW];clear hW;refine Calls.mono KD.out ?_;rintro e w4 ⟨rfl,hd⟩;have HD:Hid _:=(hd.told HNM.out).behind HBW.out;clear hd KD;go_wp2
   try simp only [Exit.inBlock,Exit.then]
   exact bodyPost_ret (v:=.tuple #[.string okB,errV (zaG l t name tx).n]) (by simp [results,Tryz.results141,go_sem,okB]) rfl HD.out
 · rw [if_neg hz]
   have hm:m=4:=by rcases HT2.out with h | h;exact absurd h hz;exact h
   subst hm;have HE4:Hid (errV 4=.iface 90 (.int .i64 4)):=zak (show ¬ (4:Int)=0 by decide);obtain ⟨W,hW⟩:∃ y,y=(w.alloc (.cells #[.string name] 9)).alloc (.cells #[.string tx] 9):=⟨_,rfl⟩
   have hbW:Below w.heap.size w W:=by rw [hW];exact ((Below.refl _ _).alloc (Nat.le_refl _) _).alloc (by simp) _
   have HSW:Hid (Ses w0 W P0 P D tb so a cap l t k):=HS.out.below hbW;have HBW:Hid (Stay w0.heap.size w W):=Stay.of_below hbW;clear hbW
   go_enter Tryz.func141,Tryz.ntmps141
   go_wp2_with fail
   refine Calls.mono (KP.out _) ?_;rintro e w1 ⟨rfl,hw1⟩;rw [hw1,HE4.out];clear hw1 w1 KP;go_wp2
   try simp only [Exit.inBlock,Exit.then]
   rw [← hW];exact bodyPost_ret (v:=.tuple #[.string ⟨#[]⟩,.iface 90 (.int .i64 4)]) (by simp [results,Tryz.results141,go_sem]) rfl ⟨⟨#[]⟩,4,P,D,tb,so,a,cap,l,t,k,by rw [HE4.out],by omega,HSW.out,HBW.out,rfl,by rw [if_neg (by decide)]⟩
def zb0:ByteArray:=⟨#[115,112,111,105,108,116]⟩
theorem zsv (p:Dp)(d:Dk)(i:Nat)(w:World)(hd:zab w p d)(hf:Free d 60 0)(hi:i<60) :
 Calls Tryz.prog 182 #[.pointer (some ⟨p.B,0,none⟩),.int .i64 i] w fun e w'=>e=.returned .nilIface∧zfk w w' p (.slice none 0 0) (zaO (zaN d (i:Int) zb0)) 0∧zdt (zaO (zaN d (i:Int) zb0)):=by
 have KW:Hid (Calls Tryz.prog 28 #[.pointer (some ⟨p.B,0,none⟩),.int .i64 i,.string ⟨#[115,112,111,105,108,116]⟩] w fun e w'=>e=.returned .nilIface∧∃ v,zfk w w' p v (zaN d (i:Int) zb0) 1):=znE p d i zb0 w hd hf hi (by decide);clear hd hf hi;generalize zaN d (i:Int) zb0=d1 at *
 go_enter Tryz.func182,Tryz.ntmps182
 go_wp2_with fail
 refine Calls.mono KW.out ?_;rintro e w1 ⟨rfl,v,h1⟩;have KF:Hid _:=zny h1;clear h1 KW
 go_wp2_with fail
 refine Calls.mono KF.out ?_;rintro e w2 ⟨rfl,h2,h3⟩;have HX:Hid _:=And.intro h2 h3;clear h2 h3 KF;go_wp2
 try simp only [Exit.inBlock,Exit.then]
 exact bodyPost_ret (v:=.nilIface) (by simp [results,Tryz.results182,go_sem]) rfl ⟨rfl,HX.out⟩
theorem zmi (w0 w:World)(P0 P:Nat→Dp)(D:Nat→Dk)(tb:Nat)(so:Nat→Option Nat)(a:Option Addr)(cap:Nat)(l:List Fi)(t:Int)(k:Nat)(h:Ses w0 w P0 P D tb so a cap l t k) :
 Calls Tryz.prog 31 #[.pointer (some ⟨tb,0,none⟩)] w fun e w'=>∃ (n:Nat) (P2:Nat→Dp) (D2:Nat→Dk) (so2:Nat→Option Nat),e=.returned (.tuple #[.int .i64 n,.nilIface])∧n≤1∧(n=1→k<3)∧(n=0↔∀ i,i<3→zdj (D i) (zaw l t))∧Ses w0 w' P0 P2 D2 tb so2 a cap l t (if n=1 then 3 else k)∧Stay w0.heap.size w w':=by
 obtain ⟨i0,j0,hi0,hj0,hij,hik,hjk⟩:=zjM k;refine (zn7 h.spt.life h.spt.free hi0 hj0 hij (h.spt.sound i0 hi0 hik).tells (h.spt.sound j0 hj0 hjk).tells).mono ?_;rintro e w' ⟨n,P2,D2,S,rfl,hm⟩;obtain ⟨h1,h2⟩:=h.spt.mend h.three hm;exact ⟨n,P2,D2,S,rfl,hm.few,h2,hm.none,h.go h1 hm.far (by have:=h.three;split <;> omega),Stay.of_let hm.far⟩
theorem Ses.spoil (h:Ses w0 w P0 P D tb so a cap l t k0)(hk:k<3)(hk0:k0=3∨k0=k)(hs:zfk w w' (P k) u d' 0)(hc:zdt d'):
 Ses w0 w' P0 (upd P k { P k with wv:=u }) (upd D k d') tb so a cap l t k∧Stay w0.heap.size w w':=by
 have hf:LetT w w':=LetT.of_touch (h.spt.life.three.disk k hk) (h.spt.life.up k hk).2.1 hs.touch;exact ⟨h.go (h.spt.spoil hk hk0 hs hc) hf (by omega),Stay.of_let hf⟩
end Go.Proofs.YtihnghnafpgdfadGreatDoor
