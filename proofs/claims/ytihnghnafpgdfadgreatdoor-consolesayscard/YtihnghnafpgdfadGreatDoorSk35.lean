/- What the proofs stand on, part 35: TrioPlayed, TrioPlayed2, TrioLawKit, TrioNext, TrioFall, ConsAgain, ConsHandle, ConsRead, ConsDiff, ConsDiffOf, ConsSame, ConsTwo, ConsPass, ConsPassB, ConsAlone, ConsAll, ConsWrong, ConsRun. -/
import Derived.Deep.RegionHeld3
import Derived.BigQuiet
import Derived.Deep.DeepCutAuto
import Derived.Test.YtihnghnafpgdfadGreatDoorSk34
import Derived.Test.YtihnghnafpgdfadGreatDoorSk05
import Derived.Test.YtihnghnafpgdfadGreatDoorSk09
import Derived.Test.YtihnghnafpgdfadGreatDoorSk32
import Derived.Test.YtihnghnafpgdfadGreatDoorSk02
import Derived.Test.YtihnghnafpgdfadGreatDoorSk07
import Derived.Test.YtihnghnafpgdfadGreatDoorSorts
import Derived.Test.YtihnghnafpgdfadGreatDoorSk29
set_option linter.unusedVariables false
set_option linter.unusedSimpArgs false
set_option maxRecDepth 100000
set_option maxHeartbeats 1000000
namespace Go.Proofs.YtihnghnafpgdfadGreatDoor
open Go Go.RowKit Go.BigFrame
variable {B B' K N cap k lo n side tb used:Nat}{d:Dk}{R:List Ch}{w w' w0:World}{P P0:Nat→Dp}{D:Nat→Dk}{so:Nat→Option Nat}{a:Option Addr}{l:List Fi}{t:Int}{p:Dp}{s:Option Nat}{c:Co}{v:Value}
def zt9 (N:Nat)(d:Dk)(R:List Ch):Prop:=∃ side used,zbZ N d.now side used R∧zdt d
theorem zez.stood (h:zez N d R):zt9 N d R:=by
 obtain ⟨sd,us,h1,h2,-⟩:=h;exact ⟨sd,us,h1,h2⟩
theorem zoM (h:zbZ N (zcs K d.wr d.kept) side used R):zez N (zej d K) R :=
 ⟨side,used,h,⟨rfl,rfl,rfl⟩,⟨rfl,by show (-1:Int)<0;omega,Nat.le_refl _,h.len⟩⟩
theorem zt9.restart (h:zt9 N d R)(K:Nat):zez N (zej d K) R:=by
 obtain ⟨sd,us,h1,h2⟩:=h;refine zoM (side:=sd) (used:=us) ?_;rw [h2.wr,h2.kept];exact h1
theorem zoi (p:Dp)(d:Dk)(x:Int)(w:World)(hx:0≤x∧x<18446744073709551616)(h:zab w p d)(hl:d.wr.length≤100) :
 Calls Tryz.prog 13 #[.pointer (some ⟨p.B,0,none⟩),.int .u64 x] w fun e w'=>e=.returned (.tuple #[])∧∃ K,zab w' { p with wv:=.slice none 0 0 } (zej d K)∧Near p w w':=by
 obtain ⟨n,rfl⟩:=Int.eq_ofNat_of_zero_le hx.1;refine (zi7 p d n w h (by omega) (by omega)).mono ?_;rintro e w' ⟨h1,h2,h3⟩;exact ⟨h1,n,h2,h3⟩
theorem zkt (i:Nat)(x:Int)(w0 w:World)(P0 P:Nat→Dp)(D:Nat→Dk)(tb:Nat)(so:Nat→Option Nat)(a:Option Addr)(cap:Nat)(l:List Fi)(t:Int)(h:Ses w0 w P0 P D tb so a cap l t 3)(hi:i<3)(hx:0≤x∧x<18446744073709551616) :
 Calls Tryz.prog 13 #[.pointer (some ⟨(P i).B,0,none⟩),.int .u64 x] w fun e w'=>e=.returned (.tuple #[])∧∃ (P2:Nat→Dp) (D2:Nat→Dk),Ses w0 w' P0 P2 D2 tb so a cap l t 3∧Stay w0.heap.size w w':=by
 have hd0:=h.spt.life.three.disk i hi;have hf0:=h.spt.free i hi;have hs0:=h.spt.sound i hi (by omega);refine (zoi (P i) (D i) x w hx hd0 (by have:=hf0.wr;omega)).mono ?_;rintro e w' ⟨rfl,K,hd,hn⟩;have hs1:zez 60 (zej (D i) K) (zaw l t):=hs0.stood.restart K
 have hsp:zfk w w' (P i) (.slice none 0 0) (zej (D i) K) 0:=by
  obtain ⟨_,_,_,_,hfr⟩:=hs1;exact ⟨hd,hfr,(fun j hj=>by cases hj),hn.touch⟩
 have hcl:zdt (zej (D i) K):=by
  obtain ⟨_,_,_,hc,_⟩:=hs1;exact hc
 obtain ⟨h1,h2,h3,h4⟩:=h.spt.life.spoilC hi hsp hcl;refine ⟨rfl,_,_,h.go ⟨h1,fun j hj=>(h4 j hj).trans (h.spt.same j hj),fun j hj=>?_,fun j hj hjk=>?_,h.spt.bel.trans h2,h.spt.far.trans h3⟩ h3 (Nat.le_refl _),Stay.of_let h3⟩
 · by_cases e:j=i
   · subst e;rw [zay];exact hsp.free
   · rw [zal _ _ e];exact h.spt.free j hj
 · by_cases e:j=i
   · subst e;rw [zay];exact hs1
   · rw [zal _ _ e];exact h.spt.sound j hj hjk
theorem zkP (s:ByteArray):(∃ n:Nat,n<3∧zby s=((n:Int),0))∨zby s=(0,4)∨zby s=(0,5):=by
 have h:=zkc s;unfold zby
 split
 · exact .inr (.inl rfl)
 · split
   · exact .inr (.inr rfl)
   · exact .inl ⟨(zbR s).1.toNat,by omega,by rw [Int.toNat_of_nonneg h.1]⟩
theorem Ses.cellK (h:Ses w0 w P0 P D tb so a cap l t k)(hn:n<3):w.cell? ⟨w0.heap.size,n,none⟩=some (.pointer (some ⟨(P n).B,0,none⟩)):=by
 obtain ⟨d0,d1,d2,-⟩:=h.cells;rcases (show n=0∨n=1∨n=2 by omega) with rfl | rfl | rfl
 · exact d0
 · exact d1
 · exact d2
theorem zni (which word:ByteArray)(w0 w:World)(P0 P:Nat→Dp)(D:Nat→Dk)(tb:Nat)(so:Nat→Option Nat)(a:Option Addr)(cap:Nat)(l:List Fi)(t:Int)(hc:CLo w0)(h:Ses w0 w P0 P D tb so a cap l t 3)(hs1:which.size≤100)(hs2:word.size≤100) :
 Calls Tryz.prog 144 #[.pointer (some ⟨w0.heap.size,0,none⟩),.string ⟨#[114,101,115,116,97,114,116]⟩,.string which,.string word] w (zaD w0 w P0 (fun s D2 l2 t2 k2=>k2=3∧(s,l2,t2)=(zb2 which word,l,t))):=by
 have HS:Hid (Ses w0 w P0 P D tb so a cap l t 3):=h;have HCV:Hid (∀ W,Below w.heap.size w W→zfs W):=fun W hb=>hc.vars (HS.out.spt.bel.trans (hb.mono HS.out.spt.life.low))
 have KN:Hid _:=zd4 word w hs2 (HCV.out w (Below.refl _ _));have KD:Hid (∀ W,Below w.heap.size w W→Calls Tryz.prog 177 #[.string which] W fun e w'=>e=.returned (.tuple #[.int .i64 (zby which).1,errV (zby which).2])∧Below W.heap.size W w'):=fun W hb=>zcQ which W hs1 (HCV.out W hb)
 have HE4:Hid (errV 4=.iface 90 (.int .i64 4)):=zak (show ¬ (4:Int)=0 by decide);have HE5:Hid (errV 5=.iface 90 (.int .i64 5)):=zak (show ¬ (5:Int)=0 by decide);have hr:=zkc word;have hdr:=zkP which;have HA:Hid (zb2 which word=if ¬ (zbR word).2=0 then errT 4 else if ¬ (zby which).2=0 then errT (zby which).2 else okB):=rfl;clear h;generalize zb2 which word=A at *;generalize (zbR word).1=n at *;generalize (zbR word).2=m at *
 go_enter Tryz.func144,Tryz.ntmps144
 go_wp2_with fail
 refine Calls.mono KN.out ?_;rintro e w1 ⟨rfl,hb1⟩;have HB1:Hid (Below w.heap.size w w1):=hb1;clear hb1 KN;obtain ⟨hn0,hn9,hm | ⟨hm,-⟩⟩:=hr
 · subst hm
   rw [zac rfl];have KD1:Hid _:=KD.out w1 HB1.out;clear KD;rcases hdr with ⟨i,hi,hd⟩ | hd | hd
   · have HX:Hid (A=okB):=by show _=_;rw [HA.out,hd];simp
     rw [hd] at KD1;clear hd HA
     go_wp2_with fail
     refine Calls.mono KD1.out ?_;rintro e w2 ⟨rfl,hb2⟩;have HB2:Hid (Below w.heap.size w w2):=HB1.out.trans (hb2.mono HB1.out.size);have HS2:Hid (Ses w0 w2 P0 P D tb so a cap l t 3):=HS.out.below HB2.out;have KR:Hid _:=zkt i n w0 w2 P0 P D tb so a cap l t HS2.out hi ⟨hn0,by omega⟩;have x0:=HS2.out.cellK hi;have hi3:(i:Int)<3:=by omega
     have hi0:0≤(i:Int):=by omega
     have hnw:IntKind.u64.wrap n=n:=by rw [IntKind.wrap_u64];omega
     clear hb2 KD1;simp only [zac rfl]
     go_wp2_with fail
     refine Calls.mono KR.out ?_;rintro e w3 ⟨rfl,P3,D3,h3,h4⟩;have HS3:Hid (Ses w0 w3 P0 P3 D3 tb so a cap l t 3):=h3;have HST:Hid (Stay w0.heap.size w2 w3):=h4;clear h3 h4 KR x0;go_wp2
     try simp only [Exit.inBlock,Exit.then]
     exact bodyPost_ret (v:=.tuple #[.string okB,.nilIface]) (by simp [results,Tryz.results144,go_sem,okB]) rfl ⟨okB,0,P3,D3,tb,so,a,cap,l,t,3,by rw [zac rfl],by omega,HS3.out,(Stay.of_below HB2.out).trans HST.out,rfl,by rw [if_pos rfl,HX.out]⟩
   · have HX:Hid (A=errT 4):=by show _=_;rw [HA.out,hd];simp
     rw [hd] at KD1;clear hd HA
     go_wp2_with fail
     refine Calls.mono KD1.out ?_;rintro e w2 ⟨rfl,hb2⟩;have HB2:Hid (Below w.heap.size w w2):=HB1.out.trans (hb2.mono HB1.out.size);clear hb2 KD1;simp only [HE4.out];go_wp2
     try simp only [Exit.inBlock,Exit.then]
     exact bodyPost_ret (v:=.tuple #[.string ⟨#[]⟩,.iface 90 (.int .i64 4)]) (by simp [results,Tryz.results144,go_sem]) rfl ⟨⟨#[]⟩,4,P,D,tb,so,a,cap,l,t,3,by rw [HE4.out],by omega,HS.out.below HB2.out,Stay.of_below HB2.out,rfl,by rw [if_neg (by decide),HX.out]⟩
   · have HX:Hid (A=errT 5):=by show _=_;rw [HA.out,hd];simp
     rw [hd] at KD1;clear hd HA
     go_wp2_with fail
     refine Calls.mono KD1.out ?_;rintro e w2 ⟨rfl,hb2⟩;have HB2:Hid (Below w.heap.size w w2):=HB1.out.trans (hb2.mono HB1.out.size);clear hb2 KD1;simp only [HE5.out];go_wp2
     try simp only [Exit.inBlock,Exit.then]
     exact bodyPost_ret (v:=.tuple #[.string ⟨#[]⟩,.iface 90 (.int .i64 5)]) (by simp [results,Tryz.results144,go_sem]) rfl ⟨⟨#[]⟩,5,P,D,tb,so,a,cap,l,t,3,by rw [HE5.out],by omega,HS.out.below HB2.out,Stay.of_below HB2.out,rfl,by rw [if_neg (by decide),HX.out]⟩
 · subst hm
   have HX:Hid (A=errT 4):=by show _=_;rw [HA.out];simp
   rw [HE4.out];clear HA KD;go_wp2
   try simp only [Exit.inBlock,Exit.then]
   exact bodyPost_ret (v:=.tuple #[.string ⟨#[]⟩,.iface 90 (.int .i64 4)]) (by simp [results,Tryz.results144,go_sem]) rfl ⟨⟨#[]⟩,4,P,D,tb,so,a,cap,l,t,3,by rw [HE4.out],by omega,HS.out.below HB1.out,Stay.of_below HB1.out,rfl,by rw [if_neg (by decide),HX.out]⟩
theorem zpY (which word:ByteArray)(i k k0:Nat)(w0 w:World)(P0 P:Nat→Dp)(D:Nat→Dk)(tb:Nat)(so:Nat→Option Nat)(a:Option Addr)(cap:Nat)(l:List Fi)(t:Int)(hc:CLo w0)(h:Ses w0 w P0 P D tb so a cap l t k0)(hs1:which.size≤100)(hs2:word.size≤100)(hi:i<60)(hk:k<3)(hk0:k0=3∨k0=k)(hw:zbR word=((i:Int),0))(hd:zby which=((k:Int),0)) :
 Calls Tryz.prog 144 #[.pointer (some ⟨w0.heap.size,0,none⟩),.string ⟨#[115,112,111,105,108]⟩,.string which,.string word] w (zaD w0 w P0 (fun s D2 l2 t2 k2=>k2=k∧D2=upd D k (zaO (zaN (D k) (i:Int) zb0))∧(s,l2,t2)=(okB,l,t))):=by
 have HS:Hid (Ses w0 w P0 P D tb so a cap l t k0):=h;have HCV:Hid (∀ W,Below w.heap.size w W→zfs W):=fun W hb=>hc.vars (HS.out.spt.bel.trans (hb.mono HS.out.spt.life.low))
 have KN:Hid _:=zd4 word w hs2 (HCV.out w (Below.refl _ _));have KD:Hid (∀ W,Below w.heap.size w W→Calls Tryz.prog 177 #[.string which] W fun e w'=>e=.returned (.tuple #[.int .i64 (zby which).1,errV (zby which).2])∧Below W.heap.size W w'):=fun W hb=>zcQ which W hs1 (HCV.out W hb)
 rw [hw] at KN;rw [hd] at KD;have HK0:Hid (k0=3∨k0=k):=hk0;clear h hk0 hw hd
 go_enter Tryz.func144,Tryz.ntmps144
 go_wp2_with fail
 refine Calls.mono KN.out ?_;rintro e w1 ⟨rfl,hb1⟩;have HB1:Hid (Below w.heap.size w w1):=hb1;have KD1:Hid _:=KD.out w1 HB1.out;clear hb1 KN KD;simp only [zac rfl]
 go_wp2_with fail
 refine Calls.mono KD1.out ?_;rintro e w2 ⟨rfl,hb2⟩;have HB2:Hid (Below w.heap.size w w2):=HB1.out.trans (hb2.mono HB1.out.size);have HS2:Hid (Ses w0 w2 P0 P D tb so a cap l t k0):=HS.out.below HB2.out;have KR:Hid _:=zsv (P k) (D k) i w2 (HS2.out.spt.life.three.disk k hk) (HS2.out.spt.free k hk) hi;have x0:=HS2.out.cellK hk;have hi3:(k:Int)<3:=by omega
 have hi0:0≤(k:Int):=by omega
 clear hb2 KD1;simp only [zac rfl]
 go_wp2_with fail
 refine Calls.mono KR.out ?_;rintro e w3 ⟨rfl,h3,h4⟩;obtain ⟨h5,h6⟩:=HS2.out.spoil hk HK0.out h3 h4;have HS3:Hid _:=h5;have HST:Hid (Stay w0.heap.size w2 w3):=h6;clear h3 h4 h5 h6 KR x0;go_wp2
 try simp only [Exit.inBlock,Exit.then]
 exact bodyPost_ret (v:=.tuple #[.string okB,.nilIface]) (by simp [results,Tryz.results144,go_sem,okB]) rfl ⟨okB,0,_,_,tb,so,a,cap,l,t,k,by rw [zac rfl],by omega,HS3.out,(Stay.of_below HB2.out).trans HST.out,rfl,rfl,by rw [if_pos rfl]⟩
theorem zpy (u v:Value)(W:World):(Instr.field 32 (.agg #[u,v]) 0).run Tryz.prog W=.ok u W:=by
 show _=_;kernel_rfl
theorem zta (u v:Value)(W:World):(Instr.field 32 (.agg #[u,v]) 1).run Tryz.prog W=.ok v W:=by
 show _=_;kernel_rfl
theorem znW (name:ByteArray) (w0 w:World) (P0 P:Nat→Dp) (D:Nat→Dk) (tb:Nat) (so:Nat→Option Nat) (a:Option Addr) (cap:Nat) (l:List Fi) (t:Int) (k:Nat) (hc:CLo w0) (h:Ses w0 w P0 P D tb so a cap l t k) :
 Calls Tryz.prog 139 #[.pointer (some ⟨w0.heap.size,0,none⟩),.string name] w (zaD w0 w P0 (fun s D2 l2 t2 k2=>k2=k∧D2=D∧(s,l2,t2)=(zb7 l name,l,t))):=by
 have HS:Hid (Ses w0 w P0 P D tb so a cap l t k):=h;have KQ:Hid _:=zcT P tb so a cap l t w h.spt.life.trio (by have:=h.spt.life.good.files.few;omega);obtain ⟨d0,d1,d2,d3,hlt⟩:=h.cells;have HG:Hid (zau l t):=h.spt.life.good;clear h
 go_enter Tryz.func139,Tryz.ntmps139
 go_wp2_with fail
 refine Calls.mono KQ.out ?_;rintro e w1 ⟨a1,cap1,rfl,ho1,hb1⟩;have HB1:Hid (Below w.heap.size w w1):=hb1;have KG:Hid _:=zfv a1 cap1 l name w1 HG.out.files (zad.of_owns ho1).slice.cells;clear KQ hb1 ho1;have hfl:=fun W=>zpy (.slice a1 l.length cap1) (.int .i64 t) W
 go_wp2_with fail
 refine Calls.mono KG.out ?_;rintro e w2 ⟨rfl,hb2⟩;have HB2:Hid (Below w.heap.size w w2):=HB1.out.trans (hb2.mono HB1.out.size);have HB3:Hid (Ses w0 w2 P0 P D tb so a cap l t k):=HS.out.below HB2.out;clear hb2 KG;cases hg:getF l name with
 | none =>
   have HX:Hid (zb7 l name=errT 5):=by show _=_;unfold zb7;rw [hg]
   have HE5:Hid (errV 5=.iface 90 (.int .i64 5)):=zak (show ¬ (5:Int)=0 by decide);clear hg;unfold getV;obtain ⟨W,hW⟩:∃ y,y=w2.alloc (.cells #[.string ⟨#[]⟩,.string ⟨#[]⟩,.int .i64 0] 98):=⟨_,rfl⟩
   have hbW:Below w2.heap.size w2 W:=by rw [hW];exact (Below.refl _ _).alloc (Nat.le_refl _) _
   have HSW:Hid (Ses w0 W P0 P D tb so a cap l t k):=HB3.out.below hbW;have HBW:Hid (Stay w0.heap.size w W):=(Stay.of_below HB2.out).trans (Stay.of_below hbW);clear hbW;go_wp2
   try simp only [Exit.inBlock,Exit.then]
   rw [← hW];exact bodyPost_ret (v:=.tuple #[.string ⟨#[]⟩,.iface 90 (.int .i64 5)]) (by simp [results,Tryz.results139,go_sem]) rfl ⟨⟨#[]⟩,5,P,D,tb,so,a,cap,l,t,k,by rw [HE5.out],by omega,HSW.out,HBW.out,rfl,rfl,by rw [if_neg (by decide),HX.out]⟩
 | some f =>
   have HX:Hid (zb7 l name=ziG [zbW f.t,⟨(Lib.itoa f.k).toArray⟩]):=by show _=_;unfold zb7;rw [hg]
   have hmem:f ∈ l:=List.mem_of_find?_eq_some (by unfold getF at hg;exact hg);obtain ⟨-,hk12,hk1,hk9⟩:=HG.out.files.times hmem;have hkl:(Lib.itoa f.k).length≤21:=Lib.itoa_length_le f.k (by omega) (by omega);have htl:(zbW f.t).size≤12:=by unfold zbW;split;exact (by decide);exact hk12
   have HB4:Hid (∀ W,Below w2.heap.size w2 W→zfs W):=fun W hb=>hc.vars (HB3.out.spt.bel.trans (hb.mono HB3.out.spt.life.low))
   have KT:Hid (∀ W,Calls Tryz.prog 175 #[.string f.t] W fun e w'=>e=.returned (.string (zbW f.t))∧w'=W):=fun W=>zic f.t W
   have KI:Hid (∀ W,Below w2.heap.size w2 W→Calls Tryz.prog 101 #[.int .i64 f.k] W fun e w'=>e=.returned (.string ⟨(Lib.itoa f.k).toArray⟩)∧Below w2.heap.size w2 w'):=fun W hb=>(znD f.k W (by omega) (by omega) (HB4.out W hb)).mono fun e w' ⟨h1,h2⟩=>⟨h1,hb.trans (h2.mono hb.size)⟩
   have KL:Hid (∀ W:World,Below w2.heap.size w2 W→Calls Tryz.prog 176 #[.slice (some ⟨W.heap.size,0,none⟩) 2 2] (W.alloc (.cells #[.string (zbW f.t),.string ⟨(Lib.itoa f.k).toArray⟩] 9)) fun e w'=>e=.returned (.string (ziG [zbW f.t,⟨(Lib.itoa f.k).toArray⟩]))∧Below w2.heap.size w2 w'):=fun W hb=>by
    have h1:=World.alloc_heap_new W (.cells #[.string (zbW f.t),.string ⟨(Lib.itoa f.k).toArray⟩] 9);have hba:Below w2.heap.size w2 (W.alloc (.cells #[.string (zbW f.t),.string ⟨(Lib.itoa f.k).toArray⟩] 9)):=hb.alloc hb.size _;refine (zl6 (some ⟨W.heap.size,0,none⟩) 2 [zbW f.t,⟨(Lib.itoa f.k).toArray⟩] _ (fun i hi=>⟨W.heap.size,0,rfl,?_⟩) (Nat.le_refl _) (by simp) ?_).mono fun e w' ⟨h1,h2⟩=>⟨h1,hba.trans (h2.mono hba.size)⟩
    · rw [zaa h1]
      have hi2:i=0∨i=1:=by simp at hi;omega
      rcases hi2 with rfl | rfl <;> rfl
    · have h3:(zbW f.t).data.toList.length≤12:=htl
      simp [Lib.join];have h4:(zbW f.t).data.size≤12:=htl;omega
   obtain ⟨W,hW⟩:∃ y,y=w2.alloc (.cells #[.string f.n,.string f.t,.int .i64 f.k] 98):=⟨_,rfl⟩
   have hnew:=World.alloc_heap_new w2 (.cells #[.string f.n,.string f.t,.int .i64 f.k] 98);rw [← hW] at hnew;have HBW:Hid (Below w2.heap.size w2 W):=by show Below _ _ _;rw [hW];exact (Below.refl _ _).alloc (Nat.le_refl _) _
   have x1:W.cell? ⟨w2.heap.size,1,none⟩=some (.string f.t):=by rw [zaa hnew];rfl
   have x2:W.cell? ⟨w2.heap.size,2,none⟩=some (.int .i64 f.k):=by rw [zaa hnew];rfl
   unfold getV;clear hnew hkl htl hk12 hk1 hk9 hmem hg
   go_wp2_with fail
   rw [← hW];clear hW;generalize zbW f.t=X at *
   go_region_law
    (first
      | (go_simp
         go_at_call 175
         refine Calls.mono (KT.out _) ?_;rintro e w5 ⟨rfl,hw⟩;rw [hw];clear hw w5)
      | (go_simp
         go_at_call 101
         refine Calls.mono (KI.out _ (by first | exact HBW.out.drew | exact HBW.out)) ?_;rintro e wa ⟨rfl,hb⟩;have HBA:Hid (Below w2.heap.size w2 wa):=hb;clear hb)
      | (go_simp
         go_at_call 176
         refine Calls.mono (KL.out _ HBA.out) ?_;rintro e wb ⟨rfl,hb⟩;have HBB:Hid (Below w2.heap.size w2 wb):=hb;clear hb))
   all_goals
    go_wp2
    try simp only [Exit.inBlock,Exit.then]
    exact bodyPost_ret (v:=.tuple #[.string (ziG [X,⟨(Lib.itoa f.k).toArray⟩]),.nilIface]) (by simp [results,Tryz.results139,go_sem]) rfl ⟨_,0,P,D,tb,so,a,cap,l,t,k,by rw [zac rfl],by omega,HB3.out.below HBB.out,(Stay.of_below HB2.out).trans (Stay.of_below HBB.out),rfl,rfl,by rw [if_pos rfl,HX.out]⟩
theorem zu1 (c:Nat→Co)(k:Nat)(hk:k<3)(w:World):(Instr.index 48 (zeS (c 0) (c 1) (c 2)) (.int .i64 k)).run Tryz.prog w=.ok (c k).v w:=by
 rcases (show k=0∨k=1∨k=2 by omega) with rfl | rfl | rfl
 · show _=_;kernel_rfl
 · show _=_;kernel_rfl
 · show _=_;kernel_rfl
theorem znZ (h:RdOk w lo p d s c)(hn:zc3 d=none):c.is=false:=by
 rcases h with ⟨_,_,rfl⟩ | ⟨_,_,_,_,_,_,_,_,_,h1,_⟩
 · rfl
 · rw [hn] at h1;cases h1
theorem zjk (word:ByteArray)(n k:Nat)(w0 w:World)(P0 P:Nat→Dp)(D:Nat→Dk)(tb:Nat)(so:Nat→Option Nat)(a:Option Addr)(cap:Nat)(l:List Fi)(t:Int)(hc:CLo w0)(h:Ses w0 w P0 P D tb so a cap l t k)(hs1:word.size≤100)(hn:n<3)(hd:zby word=((n:Int),0))(hgone:zc3 (D n)=none) :
 Calls Tryz.prog 140 #[.pointer (some ⟨w0.heap.size,0,none⟩),.string word] w (zaD w0 w P0 (fun s D2 l2 t2 k2=>k2=k∧D2=D∧(s,l2,t2)=(errT 4,l,t))):=by
 have HS:Hid (Ses w0 w P0 P D tb so a cap l t k):=h;have KD:Hid _:=zcQ word w hs1 (hc.vars h.spt.bel);rw [hd] at KD;have HE4:Hid (errV 4=.iface 90 (.int .i64 4)):=zak (show ¬ (4:Int)=0 by decide);have HG:Hid (zc3 (D n)=none):=hgone;clear h hd hgone
 go_enter Tryz.func140,Tryz.ntmps140
 go_wp2_with fail
 refine Calls.mono KD.out ?_;rintro e w1 ⟨rfl,hb1⟩;have HB1:Hid (Below w.heap.size w w1):=hb1;have HS1:Hid (Ses w0 w1 P0 P D tb so a cap l t k):=HS.out.below HB1.out;have KC:Hid _:=zhS w0.heap.size P D w1 HS1.out.spt.life.three (fun i hi=>⟨(HS1.out.spt.free i hi).up,by rw [(HS1.out.spt.free i hi).len];omega⟩) HS1.out.spt.life.vars HS1.out.spt.life.low;obtain ⟨d0,d1,d2,d3,hlt⟩:=HS1.out.cells;clear hb1 KD;simp only [zac rfl]
 go_wp2_with fail
 refine Calls.mono KC.out ?_;rintro e w2 ⟨s,c,rfl,hb2,hrd⟩;have HCI:Hid ((c n).is=false):=znZ (hrd n hn) HG.out;have HS2:Hid (Ses w0 w2 P0 P D tb so a cap l t k):=HS1.out.below hb2;have HST:Hid (Stay w0.heap.size w w2):=(Stay.of_below HB1.out).trans (Stay.of_below hb2);have hix:=fun W=>zu1 c n hn W
 clear hb2 hrd KC d0 d1 d2 d3;obtain ⟨W,hW⟩:∃ y,y=w2.alloc (.cells #[.bool (c n).is,.slice (c n).a (c n).l.length (c n).cap,.int .i64 (c n).t] 47):=⟨_,rfl⟩
 have hbW:Below w2.heap.size w2 W:=by rw [hW];exact (Below.refl _ _).alloc (Nat.le_refl _) _
 have HSW:Hid (Ses w0 W P0 P D tb so a cap l t k):=HS2.out.below hbW;have HSTW:Hid (Stay w0.heap.size w W):=HST.out.trans (Stay.of_below hbW);clear hbW
 go_wp2_with fail
 · try simp only [Exit.inBlock,Exit.then]
   rw [← hW];exact bodyPost_ret (v:=.tuple #[.string ⟨#[]⟩,.iface 90 (.int .i64 4)]) (by simp [results,Tryz.results140,go_sem]) rfl ⟨⟨#[]⟩,4,P,D,tb,so,a,cap,l,t,k,by rw [HE4.out],by omega,HSW.out,HSTW.out,rfl,rfl,by rw [if_neg (by decide)]⟩
 · rename_i hh _ _
   rw [HCI.out] at hh;cases hh
end Go.Proofs.YtihnghnafpgdfadGreatDoor
namespace Go.Proofs.YtihnghnafpgdfadGreatDoor
open Go.RowKit
variable {B B' K N cap k lo n side tb used:Nat}{d:Dk}{R:List Ch}{w w' w0:World}{P P0:Nat→Dp}{D:Nat→Dk}{so:Nat→Option Nat}{a:Option Addr}{l:List Fi}{t:Int}{p:Dp}{s:Option Nat}{c:Co}{v:Value}
theorem za0.below {l:List ByteArray}(h:za0 w B v l)(hb:Below w.heap.size w w'):za0 w' B v l :=
 World.ownsRow.kept (row:=none) h ⟨hb.os,hb.tape,hb.output,hb.size,fun k hk _=>hb.block k hk⟩ (by cases v.ownBlock <;> simp)
theorem za0.mono {l:List ByteArray}(h:za0 w B v l)(hb:B'≤B):za0 w B' v l:=by
 refine ⟨h.1,?_⟩;rcases h.2 with h0 | ⟨g,cap,cur,e,hg,rest⟩
 · exact .inl h0
 · exact .inr ⟨g,cap,cur,e,Nat.le_trans hb hg,rest⟩
def zmz:Option Fi→Fi
 | none=>⟨⟨#[]⟩,⟨#[]⟩,0⟩
 | some f=>f
theorem zqe (o:Option Fi):getV o=.tuple #[.agg #[.string (zmz o).n,.string (zmz o).t,.int .i64 (zmz o).k],.bool o.isSome]:=by
 cases o <;> rfl
theorem zkp (a a':Option Addr) (cap cap':Nat) (l:List Fi) (t s:Int) (w:World) (hl:Good l) (hc:zaF w a l) (hc':zaF w a' l) :
 Calls Tryz.prog 178 #[.agg #[.slice a l.length cap,.int .i64 t],.agg #[.slice a' l.length cap',.int .i64 s]] w fun e w'=>e=.returned (.slice none 0 0)∧Below w.heap.size w w':=by
 obtain ⟨W,hW⟩:∃ W,W=(w.alloc (.cells #[.slice a l.length cap,.int .i64 t] 32)).alloc (.cells #[.slice a' l.length cap',.int .i64 s] 32):=⟨_,rfl⟩
 have hWz:W.heap.size=w.heap.size+2:=by rw [hW];simp
 have HBW:Hid (Below w.heap.size w W):=by rw [hW];exact ((Below.refl _ _).alloc (Nat.le_refl _) _).alloc (by simp) _
 have HC:Hid (zaF W a l):=hc.below HBW.out;have HC':Hid (zaF W a' l):=hc'.below HBW.out;have HQA:Hid (QBox W w.heap.size (.slice a l.length cap) t):=by rw [hW];exact (QBox.new _ _ _ _).alloc _
 have HQB:Hid (QBox W (w.heap.size+1) (.slice a' l.length cap') s):=by
  rw [hW];have:=QBox.new (w.alloc (.cells #[.slice a l.length cap,.int .i64 t] 32)) (.slice a' l.length cap') s 32
  rwa [World.size_alloc] at this
 have h8:=hl.few;have HG:Hid (Good l):=hl;clear hc hc' hl
 go_enter Tryz.func178,Tryz.ntmps178
 go_wp2_with fail
 rw [← hW];clear hW
 go_loopw [5,17] (fun v i wr=>∃ k:Nat,k≤l.length∧i=.int .i64 k∧v=.slice none 0 0∧Below W.heap.size W wr) (fun _ i _=>l.length - (intOf i).toNat)
 case atStart=>exact ⟨0,Nat.zero_le _,rfl,rfl,Below.refl _ _⟩
 case round =>
  obtain ⟨k,hk,rfl,rfl,hb⟩:=hrel;have HB:Hid (Below W.heap.size W wr):=hb;have hsz:=hb.size;clear hb
  by_cases hlt:k<l.length
  · obtain ⟨b,off,rfl,c0,c1,c2⟩:=HC.out.below HB.out k hlt
    have hbl:b<wr.heap.size:=World.block_lt_of_cell? _ _ c0;have HQA1:Hid (QBox wr w.heap.size (.slice (some ⟨b,off,none⟩) l.length cap) t):=HQA.out.below HB.out HQA.out.lt;have HQB1:Hid (QBox wr (w.heap.size+1) (.slice a' l.length cap') s):=HQB.out.below HB.out HQB.out.lt;obtain ⟨x0,x1,xf0,xf1,xl,_⟩:=HQA1.out;obtain ⟨y0,y1,yf0,yf1,yl,_⟩:=HQB1.out;have hgf:getF l l[k].n=some l[k]:=HG.out.get_iff.2 ⟨List.getElem_mem hlt,rfl⟩
    go_wp2_with fail
    refine (zfv a' cap' l l[k].n _ HG.out (by exact (HC'.out.below HB.out).alloc _)).mono ?_;rintro e w1 ⟨rfl,hb1⟩;rw [hgf];have HB1:Hid (Below W.heap.size W w1):=Below.on _ HB.out HB.out.size hb1;have HF1:Hid (BoxF w1 wr.heap.size l[k]):=(BoxF.new wr _ _).below hb1 (by simp);have hw1:wr.heap.size<w1.heap.size:=by have:=hb1.size;simp at this;omega
    obtain ⟨z0,z1,z2,zl⟩:=HF1.out;have hq:=fun w=>ziA l[k] l[k] w
    have he:eqFi l[k] l[k]=true:=(zhl _ _).2 rfl;clear hb1 c0 c1 c2 x0 x1 xf0 xf1 xl y0 y1 yf0 yf1 yl hbl HQA1 HQB1 hgf;generalize l[k]=f at *;unfold getV;go_wp2;exact ⟨⟨k+1,by omega,by go_num,rfl,HB1.out.alloc HB1.out.size _⟩,by simp [intOf];omega⟩
  · have HQA1:Hid (QBox wr w.heap.size (.slice a l.length cap) t):=HQA.out.below HB.out HQA.out.lt
    have HQB1:Hid (QBox wr (w.heap.size+1) (.slice a' l.length cap') s):=HQB.out.below HB.out HQB.out.lt;obtain ⟨x0,x1,xf0,xf1,xl,_⟩:=HQA1.out;obtain ⟨y0,y1,yf0,yf1,yl,_⟩:=HQB1.out
    go_wp2_with fail
    clear HQA1 HQB1 x0 x1 xf0 xf1 xl y0 y1 yf0 yf1 yl
    go_loopw [5,45] (fun v i wq=>∃ j:Nat,j≤l.length∧i=.int .i64 j∧v=.slice none 0 0∧Below W.heap.size W wq) (fun _ i _=>l.length - (intOf i).toNat)
    case atStart=>exact ⟨0,Nat.zero_le _,rfl,rfl,HB.out⟩
    case round =>
     clear HB hsz;obtain ⟨j,hj,rfl,rfl,hb⟩:=hrel;have HB:Hid (Below W.heap.size W wr):=hb;have hsz:=hb.size;clear hb
     by_cases hlj:j<l.length
     · obtain ⟨b,off,rfl,c0,c1,c2⟩:=HC'.out.below HB.out j hlj
       have hbl:b<wr.heap.size:=World.block_lt_of_cell? _ _ c0;have HQA1:Hid (QBox wr w.heap.size (.slice a l.length cap) t):=HQA.out.below HB.out HQA.out.lt;obtain ⟨x0,x1,xf0,xf1,xl,_⟩:=HQA1.out;have hgf:getF l l[j].n=some l[j]:=HG.out.get_iff.2 ⟨List.getElem_mem hlj,rfl⟩
       go_wp2_with fail
       refine (zfv a cap l l[j].n _ HG.out (by exact (HC.out.below HB.out).alloc _)).mono ?_;rintro e w2 ⟨rfl,hb1⟩;rw [hgf];have HB2:Hid (Below W.heap.size W w2):=Below.on _ HB.out HB.out.size hb1;clear hb1 c0 c1 c2 x0 x1 xf0 xf1 xl hbl HQA1 hgf;generalize l[j]=f at *;unfold getV;go_wp2;exact ⟨⟨j+1,by omega,by go_num,rfl,HB2.out.alloc HB2.out.size _⟩,by simp [intOf];omega⟩
     · have KS:Hid (Calls Tryz.prog 212 #[.slice none 0 0] wr fun e w'=>e=.returned (.tuple #[])∧w'=wr):=Any.slices_Sort_string_none Tryz.lays190 none 0 wr
       go_wp2_with fail
       refine Calls.mono KS.out ?_;rintro e w2 ⟨rfl,hw2⟩;rw [hw2];clear hw2 w2 KS;go_wp2;go_ret;exact ⟨rfl,HBW.out.trans (HB.out.mono (by omega))⟩
end Go.Proofs.YtihnghnafpgdfadGreatDoor
namespace Go.Proofs.YtihnghnafpgdfadGreatDoor
open Go Go.RowKit Go.BigFrame
variable {B B' K N cap k lo n side tb used:Nat}{d:Dk}{R:List Ch}{w w' w0:World}{P P0:Nat→Dp}{D:Nat→Dk}{so:Nat→Option Nat}{a:Option Addr}{l:List Fi}{t:Int}{p:Dp}{s:Option Nat}{c:Co}{v:Value}
theorem zkk (word:ByteArray)(k:Nat)(w0 w:World)(P0 P:Nat→Dp)(D:Nat→Dk)(tb:Nat)(so:Nat→Option Nat)(a:Option Addr)(cap:Nat)(l:List Fi)(t:Int)(hc:CLo w0)(h:Ses w0 w P0 P D tb so a cap l t k)(hs1:word.size≤100)(m:Int)(hm:m=4∨m=5)(hd:zby word=(0,m)) :
 Calls Tryz.prog 140 #[.pointer (some ⟨w0.heap.size,0,none⟩),.string word] w (zaD w0 w P0 (fun s D2 l2 t2 k2=>k2=k∧D2=D∧(s,l2,t2)=(errT m,l,t))):=by
 have HS:Hid (Ses w0 w P0 P D tb so a cap l t k):=h;have KD:Hid _:=zcQ word w hs1 (hc.vars h.spt.bel);rw [hd] at KD;have HE:Hid (errV m=.iface 90 (.int .i64 m)):=zak (show ¬ m=0 by omega);have HM:Hid (¬ m=0∧0≤m∧m≤100):=⟨by omega,by omega,by omega⟩;clear h hd hm
 go_enter Tryz.func140,Tryz.ntmps140
 go_wp2_with fail
 refine Calls.mono KD.out ?_;rintro e w1 ⟨rfl,hb1⟩;have HB1:Hid (Below w.heap.size w w1):=hb1;clear hb1 KD;simp only [HE.out];go_wp2
 try simp only [Exit.inBlock,Exit.then]
 exact bodyPost_ret (v:=.tuple #[.string ⟨#[]⟩,.iface 90 (.int .i64 m)]) (by simp [results,Tryz.results140,go_sem]) rfl ⟨⟨#[]⟩,m,P,D,tb,so,a,cap,l,t,k,by rw [HE.out],HM.out.2,HS.out.below HB1.out,Stay.of_below HB1.out,rfl,rfl,by rw [if_neg HM.out.1]⟩
theorem zkd (word:ByteArray)(n k:Nat)(w0 w:World)(P0 P:Nat→Dp)(D:Nat→Dk)(tb:Nat)(so:Nat→Option Nat)(a:Option Addr)(cap:Nat)(l:List Fi)(t:Int)(hc:CLo w0)(h:Ses w0 w P0 P D tb so a cap l t k)(hs1:word.size≤100)(hn:n<3)(hd:zby word=((n:Int),0))(hnk:n≠k) :
 Calls Tryz.prog 140 #[.pointer (some ⟨w0.heap.size,0,none⟩),.string word] w (zaD w0 w P0 (fun s D2 l2 t2 k2=>k2=k∧D2=D∧(s,l2,t2)=(⟨#[45]⟩,l,t))):=by
 have HS:Hid (Ses w0 w P0 P D tb so a cap l t k):=h;have KD:Hid _:=zcQ word w hs1 (hc.vars h.spt.bel);rw [hd] at KD;have HT:Hid (zdj (D n) (zaw l t)):=(h.spt.sound n hn hnk).tells;have HG:Hid (zau l t):=h.spt.life.good;clear h hd
 go_enter Tryz.func140,Tryz.ntmps140
 go_wp2_with fail
 refine Calls.mono KD.out ?_;rintro e w1 ⟨rfl,hb1⟩;have HB1:Hid (Below w.heap.size w w1):=hb1;have HS1:Hid (Ses w0 w1 P0 P D tb so a cap l t k):=HS.out.below HB1.out;have KC:Hid _:=zhS w0.heap.size P D w1 HS1.out.spt.life.three (fun i hi=>⟨(HS1.out.spt.free i hi).up,by rw [(HS1.out.spt.free i hi).len];omega⟩) HS1.out.spt.life.vars HS1.out.spt.life.low;obtain ⟨d0,d1,d2,d3,hlt⟩:=HS1.out.cells;clear hb1 KD;simp only [zac rfl]
 go_wp2_with fail
 refine Calls.mono KC.out ?_;rintro e w2 ⟨s,c,rfl,hb2,hrd⟩
 obtain ⟨a2,c2,hcn⟩:∃ a2 c2,c n=⟨true,a2,c2,l,t⟩:=by
  obtain ⟨h1,h2,h3⟩:=((hrd n hn).tells HG.out).2 HT.out;generalize c n=x at *;obtain ⟨x1,x2,x3,x4,x5⟩:=x;exact ⟨x2,x3,by simp at h1 h2 h3;rw [h1,h2,h3]⟩
 have hsl:=(hrd n hn).co.slice;have hix:=fun W=>zu1 c n hn W
 rw [hcn] at hsl;simp only [hcn] at hix;have HSL:Hid (za5 w2 a2 c2 l):=hsl;have HS2:Hid (Ses w0 w2 P0 P D tb so a cap l t k):=HS1.out.below hb2;have HST:Hid (Stay w0.heap.size w w2):=(Stay.of_below HB1.out).trans (Stay.of_below hb2);clear hb2 hrd KC d0 d1 d2 d3 hcn hsl;obtain ⟨W,hW⟩:∃ y,y=w2.alloc (.cells #[.bool true,.slice a2 l.length c2,.int .i64 t] 47):=⟨_,rfl⟩
 have hbW:Below w2.heap.size w2 W:=by rw [hW];exact (Below.refl _ _).alloc (Nat.le_refl _) _
 have hnew:=World.alloc_heap_new w2 (.cells #[.bool true,.slice a2 l.length c2,.int .i64 t] 47);rw [← hW] at hnew;have HNEW:Hid (W.heap[w2.heap.size]?=some (.cells #[.bool true,.slice a2 l.length c2,.int .i64 t] 47 (0,0))):=hnew;have HSW:Hid (Ses w0 W P0 P D tb so a cap l t k):=HS2.out.below hbW;have HSTW:Hid (Stay w0.heap.size w W):=HST.out.trans (Stay.of_below hbW);have HSLW:Hid (za5 W a2 c2 l):=HSL.out.below hbW;have HLT:Hid (w2.heap.size<W.heap.size):=(Array.getElem?_eq_some_iff.1 hnew).1;clear hbW hnew
 have KQ:Hid (∀ V,Below W.heap.size W V→Calls Tryz.prog 9 #[.pointer (some ⟨tb,0,none⟩)] V fun e w'=>∃ a' cap',e=.returned (.agg #[.slice a' l.length cap',.int .i64 t])∧zaF w' a' l∧Below W.heap.size W w'):=fun V hb=>by
  refine (zcT P tb so a cap l t V (HSW.out.below hb).spt.life.trio (by have:=HG.out.files.few;omega)).mono ?_;rintro e w' ⟨a',cap',rfl,ho,hb2⟩;exact ⟨a',cap',rfl,(zad.of_owns ho).slice.cells,hb.trans (hb2.mono hb.size)⟩
 have KO:Hid (∀ V a1 cap1,Below W.heap.size W V→zaF V a1 l→Calls Tryz.prog 178 #[.agg #[.slice a1 l.length cap1,.int .i64 t],.agg #[.slice a2 l.length c2,.int .i64 t]] V fun e w'=>∃ a3 c3,e=.returned (.slice a3 0 c3)∧Below W.heap.size W w'):=fun V a1 cap1 hb hcl=>by
  refine (zkp a1 a2 cap1 c2 l t t V HG.out.files hcl (HSLW.out.below hb).cells).mono ?_;rintro e w' ⟨rfl,hb2⟩;exact ⟨none,0,rfl,hb.trans (hb2.mono hb.size)⟩
 have KL:Hid (∀ V a3 c3,Below W.heap.size W V→Calls Tryz.prog 176 #[.slice a3 0 c3] V fun e w'=>e=.returned (.string ⟨#[45]⟩)∧Below W.heap.size W w'):=fun V a3 c3 hb=>by
  refine (zl6 a3 c3 [] V (Strs.nil _ _) (Nat.zero_le _) (Nat.zero_le _) (Nat.zero_le _)).mono ?_;rintro e w' ⟨rfl,hb2⟩;exact ⟨rfl,hb.trans (hb2.mono hb.size)⟩
 have keepH:Hid (∀ V,Below W.heap.size W V→(V.cell? ⟨w2.heap.size,1,none⟩=some (.slice a2 l.length c2)∧V.cell? ⟨w2.heap.size,2,none⟩=some (.int .i64 t)∧V.cell? ⟨w0.heap.size,3,none⟩=some (.pointer (some ⟨tb,0,none⟩)))):=fun V hb=>by
  have hn:=(hb.block _ HLT.out).trans HNEW.out;exact ⟨by rw [zaa hn];rfl,by rw [zaa hn];rfl,(HSW.out.below hb).cells.2.2.2.1⟩
 obtain ⟨y1,y2,d3⟩:=keepH.out W (Below.refl _ _);have hlt2:=HLT.out;have hlt3:=HSW.out.cells.2.2.2.2
 go_wp2_with fail
 rw [← hW];clear hW
 go_region_held3 (fun V=>V.cell? ⟨w2.heap.size,1,none⟩=some (.slice a2 l.length c2)∧V.cell? ⟨w2.heap.size,2,none⟩=some (.int .i64 t)∧V.cell? ⟨w0.heap.size,3,none⟩=some (.pointer (some ⟨tb,0,none⟩)))
  (first | exact keepH.out _ (Below.drew (Below.refl _ _)) | exact keepH.out _ HBC.out | exact keepH.out _ HBB.out | exact keepH.out _ HBA.out)
  (first
    | (go_at_call 9
       refine Calls.mono (KQ.out _ (Below.drew (Below.refl _ _))) ?_;rintro e wa ⟨a1,cap1,rfl,hca,hb⟩;have HCA:Hid (zaF wa a1 l):=hca;have HBA:Hid (Below W.heap.size W wa):=hb;clear hb hca)
    | (go_at_call 178
       refine Calls.mono (KO.out _ _ _ HBA.out HCA.out) ?_;rintro e wb ⟨a3,c3,rfl,hb⟩;have HBB:Hid (Below W.heap.size W wb):=hb;clear hb)
    | (go_at_call 176
       refine Calls.mono (KL.out _ _ _ HBB.out) ?_;rintro e wc ⟨rfl,hb⟩;have HBC:Hid (Below W.heap.size W wc):=hb;clear hb))
 all_goals
  go_wp2
  try simp only [Exit.inBlock,Exit.then]
  exact bodyPost_ret (v:=.tuple #[.string ⟨#[45]⟩,.nilIface]) (by simp [results,Tryz.results140,go_sem]) rfl ⟨_,0,P,D,tb,so,a,cap,l,t,k,by rw [zac rfl],by omega,HSW.out.below HBC.out,HSTW.out.trans (Stay.of_below HBC.out),rfl,rfl,by rw [if_pos rfl]⟩
theorem znC (x y:ByteArray)(w0 w:World)(P0 P:Nat→Dp)(D:Nat→Dk)(tb:Nat)(so:Nat→Option Nat)(a:Option Addr)(cap:Nat)(l:List Fi)(t:Int)(k:Nat)(h:Ses w0 w P0 P D tb so a cap l t k)(hn:x.size≤100)(hx:y.size≤100) :
 Calls Tryz.prog 100 #[.pointer (some ⟨w0.heap.size,0,none⟩),.string ⟨#[119,114,105,116,101]⟩,.string x,.string y] w (zaD w0 w P0 (fun s _ l2 t2 k2=>k2=k∧(s,l2,t2)=zeG x y l t)):=by
 obtain ⟨W,hW⟩:∃ z,z=(w.alloc (.cells #[.string x] 9)).alloc (.cells #[.string y] 9):=⟨_,rfl⟩
 have hbW:Below w.heap.size w W:=by rw [hW];exact ((Below.refl _ _).alloc (Nat.le_refl _) _).alloc (by simp) _
 have HBW:Hid (Below w.heap.size w W):=hbW;have KW:Hid _:=zmm x y w0 W P0 P D tb so a cap l t k (h.below hbW) hn hx;have hb0:W.heap[w.heap.size]?=some (.cells #[.string x] 9 (0,0)):=by rw [hW,Below.heap_alloc _ _ _ (by simp)];exact World.alloc_heap_new w _
 have hb1:W.heap[w.heap.size+1]?=some (.cells #[.string y] 9 (0,0)):=by
  have h1:=World.alloc_heap_new (w.alloc (.cells #[.string x] 9)) (.cells #[.string y] 9);rw [World.size_alloc] at h1;rw [hW];exact h1
 have x0:W.cell? ⟨w.heap.size,0,none⟩=some (.string x):=by rw [zaa hb0];rfl
 have x1:W.cell? ⟨w.heap.size+1,0,none⟩=some (.string y):=by rw [zaa hb1];rfl
 rw [hW] at x0 x1;clear hbW hb0 hb1 h
 go_enter Tryz.func100,Tryz.ntmps100
 go_wp2_with fail
 rw [← hW];clear hW x0 x1;refine Calls.mono KW.out ?_;rintro e w4 hd;obtain ⟨s,n,P2,D2,tb2,so2,a2,cap2,l2,t2,k2,rfl,h2,h3,h4,h5⟩:=hd;have HX:Hid _:=And.intro h2 (And.intro h3 (And.intro h4 h5));clear h2 h3 h4 h5 KW;go_wp2
 try simp only [Exit.inBlock,Exit.then]
 exact bodyPost_ret (v:=.tuple #[.string s,errV n]) (by simp [results,Tryz.results100,go_sem]) rfl ⟨s,n,P2,D2,tb2,so2,a2,cap2,l2,t2,k2,rfl,HX.out.1,HX.out.2.1,(Stay.of_below HBW.out).trans HX.out.2.2.1,HX.out.2.2.2⟩
theorem zoW (x y:ByteArray)(w0 w:World)(P0 P:Nat→Dp)(D:Nat→Dk)(tb:Nat)(so:Nat→Option Nat)(a:Option Addr)(cap:Nat)(l:List Fi)(t:Int)(k:Nat)(h:Ses w0 w P0 P D tb so a cap l t k)(hn:x.size≤100)(hx:y.size≤100) :
 Calls Tryz.prog 100 #[.pointer (some ⟨w0.heap.size,0,none⟩),.string ⟨#[110,97,109,101]⟩,.string x,.string y] w (zaD w0 w P0 (fun s _ l2 t2 k2=>k2=k∧(s,l2,t2)=zaX (zax l t x y) l t)):=by
 have hmf:∀ (fn:Fn) (first cap:Array Value) (w:World),(Instr.makeFunc fn first cap).run Tryz.prog w=.ok (.func fn first cap) w:=fun _ _ _ _=>rfl
 obtain ⟨W,hW⟩:∃ z,z=(w.alloc (.cells #[.string x] 9)).alloc (.cells #[.string y] 9):=⟨_,rfl⟩
 have hbW:Below w.heap.size w W:=by rw [hW];exact ((Below.refl _ _).alloc (Nat.le_refl _) _).alloc (by simp) _
 have HBW:Hid (Stay w0.heap.size w W):=Stay.of_below hbW;have HSW:Hid (Ses w0 W P0 P D tb so a cap l t k):=h.below hbW;have hb0:W.heap[w.heap.size]?=some (.cells #[.string x] 9 (0,0)):=by rw [hW,Below.heap_alloc _ _ _ (by simp)];exact World.alloc_heap_new w _
 have hb1:W.heap[w.heap.size+1]?=some (.cells #[.string y] 9 (0,0)):=by
  have h1:=World.alloc_heap_new (w.alloc (.cells #[.string x] 9)) (.cells #[.string y] 9);rw [World.size_alloc] at h1;rw [hW];exact h1
 have KD:Hid _:=zgp 142 #[.pointer (some ⟨w.heap.size,0,none⟩),.pointer (some ⟨w.heap.size+1,0,none⟩)] (zax l t x y) w0 W P0 P D tb so a cap l t k HSW.out (fun _ _=>rfl) (zeB HSW.out.spt.life.good x y).1 (zeB HSW.out.spt.life.good x y).2 (fun a3 cap3 W3 hb3 hs3=>zmh ⟨w.heap.size,0,none⟩ x ⟨w.heap.size+1,0,none⟩ y a3 cap3 l t W3 HSW.out.spt.life.good hs3 (by unfold maxLen;omega) (by rw [hb3.cell (Array.getElem?_eq_some_iff.1 hb0).1,zaa hb0];rfl) (Nat.lt_of_lt_of_le (Array.getElem?_eq_some_iff.1 hb0).1 hb3.size) (by unfold maxLen;omega) (by rw [hb3.cell (Array.getElem?_eq_some_iff.1 hb1).1,zaa hb1];rfl) (Nat.lt_of_lt_of_le (Array.getElem?_eq_some_iff.1 hb1).1 hb3.size));have HNM:Hid (0≤(zax l t x y).n∧(zax l t x y).n≤100):=(zeB HSW.out.spt.life.good x y).num;clear hbW hb0 hb1 h
 go_enter Tryz.func100,Tryz.ntmps100
 go_wp2_with fail
 rw [← hW];clear hW;refine Calls.mono KD.out ?_;rintro e w4 ⟨rfl,hd⟩;have HD:Hid _:=(hd.told HNM.out).behind HBW.out;clear hd KD;go_wp2
 try simp only [Exit.inBlock,Exit.then]
 exact bodyPost_ret (v:=.tuple #[.string okB,errV (zax l t x y).n]) (by simp [results,Tryz.results100,go_sem,okB]) rfl HD.out
theorem zoh (x y:ByteArray)(w0 w:World)(P0 P:Nat→Dp)(D:Nat→Dk)(tb:Nat)(so:Nat→Option Nat)(a:Option Addr)(cap:Nat)(l:List Fi)(t:Int)(k:Nat)(h:Ses w0 w P0 P D tb so a cap l t k)(hn:x.size≤100)(hx:y.size≤100) :
 Calls Tryz.prog 100 #[.pointer (some ⟨w0.heap.size,0,none⟩),.string ⟨#[115,119,97,112]⟩,.string x,.string y] w (zaD w0 w P0 (fun s _ l2 t2 k2=>k2=k∧(s,l2,t2)=zaX (zbs l t x y) l t)):=by
 have hmf:∀ (fn:Fn) (first cap:Array Value) (w:World),(Instr.makeFunc fn first cap).run Tryz.prog w=.ok (.func fn first cap) w:=fun _ _ _ _=>rfl
 obtain ⟨W,hW⟩:∃ z,z=(w.alloc (.cells #[.string x] 9)).alloc (.cells #[.string y] 9):=⟨_,rfl⟩
 have hbW:Below w.heap.size w W:=by rw [hW];exact ((Below.refl _ _).alloc (Nat.le_refl _) _).alloc (by simp) _
 have HBW:Hid (Stay w0.heap.size w W):=Stay.of_below hbW;have HSW:Hid (Ses w0 W P0 P D tb so a cap l t k):=h.below hbW;have hb0:W.heap[w.heap.size]?=some (.cells #[.string x] 9 (0,0)):=by rw [hW,Below.heap_alloc _ _ _ (by simp)];exact World.alloc_heap_new w _
 have hb1:W.heap[w.heap.size+1]?=some (.cells #[.string y] 9 (0,0)):=by
  have h1:=World.alloc_heap_new (w.alloc (.cells #[.string x] 9)) (.cells #[.string y] 9);rw [World.size_alloc] at h1;rw [hW];exact h1
 have KD:Hid _:=zgp 143 #[.pointer (some ⟨w.heap.size,0,none⟩),.pointer (some ⟨w.heap.size+1,0,none⟩)] (zbs l t x y) w0 W P0 P D tb so a cap l t k HSW.out (fun _ _=>rfl) (zeU HSW.out.spt.life.good x y).1 (zeU HSW.out.spt.life.good x y).2 (fun a3 cap3 W3 hb3 hs3=>zmP ⟨w.heap.size,0,none⟩ x ⟨w.heap.size+1,0,none⟩ y a3 cap3 l t W3 HSW.out.spt.life.good hs3 (by unfold maxLen;omega) (by rw [hb3.cell (Array.getElem?_eq_some_iff.1 hb0).1,zaa hb0];rfl) (Nat.lt_of_lt_of_le (Array.getElem?_eq_some_iff.1 hb0).1 hb3.size) (by unfold maxLen;omega) (by rw [hb3.cell (Array.getElem?_eq_some_iff.1 hb1).1,zaa hb1];rfl) (Nat.lt_of_lt_of_le (Array.getElem?_eq_some_iff.1 hb1).1 hb3.size));have HNM:Hid (0≤(zbs l t x y).n∧(zbs l t x y).n≤100):=(zeU HSW.out.spt.life.good x y).num;clear hbW hb0 hb1 h
 go_enter Tryz.func100,Tryz.ntmps100
 go_wp2_with fail
 rw [← hW];clear hW;refine Calls.mono KD.out ?_;rintro e w4 ⟨rfl,hd⟩;have HD:Hid _:=(hd.told HNM.out).behind HBW.out;clear hd KD;go_wp2
 try simp only [Exit.inBlock,Exit.then]
 exact bodyPost_ret (v:=.tuple #[.string okB,errV (zbs l t x y).n]) (by simp [results,Tryz.results100,go_sem,okB]) rfl HD.out
theorem znQ (x y:ByteArray)  (w0 w:World)(P0 P:Nat→Dp)(D:Nat→Dk)(tb:Nat)(so:Nat→Option Nat)(a:Option Addr)(cap:Nat)(l:List Fi)(t:Int)(hc:CLo w0)(h:Ses w0 w P0 P D tb so a cap l t 3)(hn:x.size≤100)(hx:y.size≤100) :
 Calls Tryz.prog 100 #[.pointer (some ⟨w0.heap.size,0,none⟩),.string ⟨#[114,101,115,116,97,114,116]⟩,.string x,.string y] w (zaD w0 w P0 (fun s D2 l2 t2 k2=>k2=3∧(s,l2,t2)=(zb2 x y,l,t))):=by
 obtain ⟨W,hW⟩:∃ z,z=(w.alloc (.cells #[.string x] 9)).alloc (.cells #[.string y] 9):=⟨_,rfl⟩
 have hbW:Below w.heap.size w W:=by rw [hW];exact ((Below.refl _ _).alloc (Nat.le_refl _) _).alloc (by simp) _
 have HBW:Hid (Below w.heap.size w W):=hbW;have KW:Hid _:=zni x y w0 W P0 P D tb so a cap l t hc (h.below hbW) hn hx;have hb0:W.heap[w.heap.size]?=some (.cells #[.string x] 9 (0,0)):=by rw [hW,Below.heap_alloc _ _ _ (by simp)];exact World.alloc_heap_new w _
 have hb1:W.heap[w.heap.size+1]?=some (.cells #[.string y] 9 (0,0)):=by
  have h1:=World.alloc_heap_new (w.alloc (.cells #[.string x] 9)) (.cells #[.string y] 9);rw [World.size_alloc] at h1;rw [hW];exact h1
 have x0:W.cell? ⟨w.heap.size,0,none⟩=some (.string x):=by rw [zaa hb0];rfl
 have x1:W.cell? ⟨w.heap.size+1,0,none⟩=some (.string y):=by rw [zaa hb1];rfl
 rw [hW] at x0 x1;clear hbW hb0 hb1 h
 go_enter Tryz.func100,Tryz.ntmps100
 go_wp2_with fail
 rw [← hW];clear hW x0 x1;refine Calls.mono KW.out ?_;rintro e w4 hd;obtain ⟨s,n,P2,D2,tb2,so2,a2,cap2,l2,t2,k2,rfl,h2,h3,h4,h5⟩:=hd;have HX:Hid _:=And.intro h2 (And.intro h3 (And.intro h4 h5));clear h2 h3 h4 h5 KW;go_wp2
 try simp only [Exit.inBlock,Exit.then]
 exact bodyPost_ret (v:=.tuple #[.string s,errV n]) (by simp [results,Tryz.results100,go_sem]) rfl ⟨s,n,P2,D2,tb2,so2,a2,cap2,l2,t2,k2,rfl,HX.out.1,HX.out.2.1,(Stay.of_below HBW.out).trans HX.out.2.2.1,HX.out.2.2.2⟩
theorem zla (x y:ByteArray)(i k k0:Nat)(w0 w:World)(P0 P:Nat→Dp)(D:Nat→Dk)(tb:Nat)(so:Nat→Option Nat)(a:Option Addr)(cap:Nat)(l:List Fi)(t:Int)(hc:CLo w0)(h:Ses w0 w P0 P D tb so a cap l t k0)(hi:i<60)(hk:k<3)(hk0:k0=3∨k0=k)(hw:zbR y=((i:Int),0))(hd:zby x=((k:Int),0))(hn:x.size≤100)(hx:y.size≤100) :
 Calls Tryz.prog 100 #[.pointer (some ⟨w0.heap.size,0,none⟩),.string ⟨#[115,112,111,105,108]⟩,.string x,.string y] w (zaD w0 w P0 (fun s D2 l2 t2 k2=>k2=k∧D2=upd D k (zaO (zaN (D k) (i:Int) zb0))∧(s,l2,t2)=(okB,l,t))):=by
 obtain ⟨W,hW⟩:∃ z,z=(w.alloc (.cells #[.string x] 9)).alloc (.cells #[.string y] 9):=⟨_,rfl⟩
 have hbW:Below w.heap.size w W:=by rw [hW];exact ((Below.refl _ _).alloc (Nat.le_refl _) _).alloc (by simp) _
 have HBW:Hid (Below w.heap.size w W):=hbW;have KW:Hid _:=zpY x y i k k0 w0 W P0 P D tb so a cap l t hc (h.below hbW) hn hx hi hk hk0 hw hd;have hb0:W.heap[w.heap.size]?=some (.cells #[.string x] 9 (0,0)):=by rw [hW,Below.heap_alloc _ _ _ (by simp)];exact World.alloc_heap_new w _
 have hb1:W.heap[w.heap.size+1]?=some (.cells #[.string y] 9 (0,0)):=by
  have h1:=World.alloc_heap_new (w.alloc (.cells #[.string x] 9)) (.cells #[.string y] 9);rw [World.size_alloc] at h1;rw [hW];exact h1
 have x0:W.cell? ⟨w.heap.size,0,none⟩=some (.string x):=by rw [zaa hb0];rfl
 have x1:W.cell? ⟨w.heap.size+1,0,none⟩=some (.string y):=by rw [zaa hb1];rfl
 rw [hW] at x0 x1;clear hbW hb0 hb1 h
 go_enter Tryz.func100,Tryz.ntmps100
 go_wp2_with fail
 rw [← hW];clear hW x0 x1;refine Calls.mono KW.out ?_;rintro e w4 hd;obtain ⟨s,n,P2,D2,tb2,so2,a2,cap2,l2,t2,k2,rfl,h2,h3,h4,h5⟩:=hd;have HX:Hid _:=And.intro h2 (And.intro h3 (And.intro h4 h5));clear h2 h3 h4 h5 KW;go_wp2
 try simp only [Exit.inBlock,Exit.then]
 exact bodyPost_ret (v:=.tuple #[.string s,errV n]) (by simp [results,Tryz.results100,go_sem]) rfl ⟨s,n,P2,D2,tb2,so2,a2,cap2,l2,t2,k2,rfl,HX.out.1,HX.out.2.1,(Stay.of_below HBW.out).trans HX.out.2.2.1,HX.out.2.2.2⟩
theorem zox (x:ByteArray)(k:Nat)(w0 w:World)(P0 P:Nat→Dp)(D:Nat→Dk)(tb:Nat)(so:Nat→Option Nat)(a:Option Addr)(cap:Nat)(l:List Fi)(t:Int)(hc:CLo w0)(h:Ses w0 w P0 P D tb so a cap l t k)(hn:x.size≤100) :
 Calls Tryz.prog 99 #[.pointer (some ⟨w0.heap.size,0,none⟩),.string ⟨#[114,101,97,100]⟩,.string x] w (zaD w0 w P0 (fun s D2 l2 t2 k2=>k2=k∧D2=D∧(s,l2,t2)=(zb7 l x,l,t))):=by
 obtain ⟨W,hW⟩:∃ z,z=w.alloc (.cells #[.string x] 9):=⟨_,rfl⟩
 have hbW:Below w.heap.size w W:=by rw [hW];exact (Below.refl _ _).alloc (Nat.le_refl _) _
 have HBW:Hid (Below w.heap.size w W):=hbW;have KW:Hid _:=znW x w0 W P0 P D tb so a cap l t k hc (h.below hbW);have hb0:W.heap[w.heap.size]?=some (.cells #[.string x] 9 (0,0)):=by rw [hW];exact World.alloc_heap_new w _
 have x0:W.cell? ⟨w.heap.size,0,none⟩=some (.string x):=by rw [zaa hb0];rfl
 rw [hW] at x0;clear hbW hb0 h
 go_enter Tryz.func99,Tryz.ntmps99
 go_wp2_with fail
 rw [← hW];clear hW x0;refine Calls.mono KW.out ?_;rintro e w4 hd;obtain ⟨s,n,P2,D2,tb2,so2,a2,cap2,l2,t2,k2,rfl,h2,h3,h4,h5⟩:=hd;have HX:Hid _:=And.intro h2 (And.intro h3 (And.intro h4 h5));clear h2 h3 h4 h5 KW;go_wp2
 try simp only [Exit.inBlock,Exit.then]
 exact bodyPost_ret (v:=.tuple #[.string s,errV n]) (by simp [results,Tryz.results99,go_sem]) rfl ⟨s,n,P2,D2,tb2,so2,a2,cap2,l2,t2,k2,rfl,HX.out.1,HX.out.2.1,(Stay.of_below HBW.out).trans HX.out.2.2.1,HX.out.2.2.2⟩
theorem zg2 (x:ByteArray)(Q:ByteArray→(Nat→Dk)→List Fi→Int→Nat→Prop)(w0 w:World)(P0:Nat→Dp)(K:∀ W,Below w.heap.size w W→Calls Tryz.prog 140 #[.pointer (some ⟨w0.heap.size,0,none⟩),.string x] W (zaD w0 W P0 Q)) :
 Calls Tryz.prog 99 #[.pointer (some ⟨w0.heap.size,0,none⟩),.string ⟨#[100,105,102,102]⟩,.string x] w (zaD w0 w P0 Q):=by
 obtain ⟨W,hW⟩:∃ z,z=w.alloc (.cells #[.string x] 9):=⟨_,rfl⟩
 have hbW:Below w.heap.size w W:=by rw [hW];exact (Below.refl _ _).alloc (Nat.le_refl _) _
 have HBW:Hid (Below w.heap.size w W):=hbW;have KW:Hid _:=K W hbW;have hb0:W.heap[w.heap.size]?=some (.cells #[.string x] 9 (0,0)):=by rw [hW];exact World.alloc_heap_new w _
 have x0:W.cell? ⟨w.heap.size,0,none⟩=some (.string x):=by rw [zaa hb0];rfl
 rw [hW] at x0;clear hbW hb0 K
 go_enter Tryz.func99,Tryz.ntmps99
 go_wp2_with fail
 rw [← hW];clear hW x0;refine Calls.mono KW.out ?_;rintro e w4 hd;obtain ⟨s,n,P2,D2,tb2,so2,a2,cap2,l2,t2,k2,rfl,h2,h3,h4,h5⟩:=hd;have HX:Hid _:=And.intro h2 (And.intro h3 (And.intro h4 h5));clear h2 h3 h4 h5 KW;go_wp2
 try simp only [Exit.inBlock,Exit.then]
 exact bodyPost_ret (v:=.tuple #[.string s,errV n]) (by simp [results,Tryz.results99,go_sem]) rfl ⟨s,n,P2,D2,tb2,so2,a2,cap2,l2,t2,k2,rfl,HX.out.1,HX.out.2.1,(Stay.of_below HBW.out).trans HX.out.2.2.1,HX.out.2.2.2⟩
theorem zoz (x:ByteArray)(w0 w:World)(P0 P:Nat→Dp)(D:Nat→Dk)(tb:Nat)(so:Nat→Option Nat)(a:Option Addr)(cap:Nat)(l:List Fi)(t:Int)(k:Nat)(h:Ses w0 w P0 P D tb so a cap l t k)(hn:x.size≤100) :
 Calls Tryz.prog 99 #[.pointer (some ⟨w0.heap.size,0,none⟩),.string ⟨#[100,114,111,112]⟩,.string x] w (zaD w0 w P0 (fun s _ l2 t2 k2=>k2=k∧(s,l2,t2)=zaX (zbb l t x) l t)):=by
 have hmf:∀ (fn:Fn) (first cap:Array Value) (w:World),(Instr.makeFunc fn first cap).run Tryz.prog w=.ok (.func fn first cap) w:=fun _ _ _ _=>rfl
 obtain ⟨W,hW⟩:∃ z,z=w.alloc (.cells #[.string x] 9):=⟨_,rfl⟩
 have hbW:Below w.heap.size w W:=by rw [hW];exact (Below.refl _ _).alloc (Nat.le_refl _) _
 have HBW:Hid (Stay w0.heap.size w W):=Stay.of_below hbW;have HSW:Hid (Ses w0 W P0 P D tb so a cap l t k):=h.below hbW;have hb0:W.heap[w.heap.size]?=some (.cells #[.string x] 9 (0,0)):=by rw [hW];exact World.alloc_heap_new w _
 have KD:Hid _:=zgp 138 #[.pointer (some ⟨w.heap.size,0,none⟩)] (zbb l t x) w0 W P0 P D tb so a cap l t k HSW.out (fun _ _=>rfl) (zeI HSW.out.spt.life.good x).1 (zeI HSW.out.spt.life.good x).2 (fun a3 cap3 W3 hb3 hs3=>zmn ⟨w.heap.size,0,none⟩ x a3 cap3 l t W3 HSW.out.spt.life.good hs3 (by unfold maxLen;omega) (by rw [hb3.cell (Array.getElem?_eq_some_iff.1 hb0).1,zaa hb0];rfl) (Nat.lt_of_lt_of_le (Array.getElem?_eq_some_iff.1 hb0).1 hb3.size));have HNM:Hid (0≤(zbb l t x).n∧(zbb l t x).n≤100):=(zeI HSW.out.spt.life.good x).num;clear hbW hb0 h
 go_enter Tryz.func99,Tryz.ntmps99
 go_wp2_with fail
 rw [← hW];clear hW;refine Calls.mono KD.out ?_;rintro e w4 ⟨rfl,hd⟩;have HD:Hid _:=(hd.told HNM.out).behind HBW.out;clear hd KD;go_wp2
 try simp only [Exit.inBlock,Exit.then]
 exact bodyPost_ret (v:=.tuple #[.string okB,errV (zbb l t x).n]) (by simp [results,Tryz.results99,go_sem,okB]) rfl HD.out
theorem zjP (x:ByteArray)(n k:Nat)(w0 w:World)(P0 P:Nat→Dp)(D:Nat→Dk)(tb:Nat)(so:Nat→Option Nat)(a:Option Addr)(cap:Nat)(l:List Fi)(t:Int)(hc:CLo w0)(h:Ses w0 w P0 P D tb so a cap l t k)(hk:n<3)(hd:zby x=((n:Int),0))(hgone:zc3 (D n)=none)(hn:x.size≤100) :
 Calls Tryz.prog 99 #[.pointer (some ⟨w0.heap.size,0,none⟩),.string ⟨#[100,105,102,102]⟩,.string x] w (zaD w0 w P0 (fun s D2 l2 t2 k2=>k2=k∧D2=D∧(s,l2,t2)=(errT 4,l,t))) :=
 zg2 x _ w0 w P0 (fun W hb=>zjk x n k w0 W P0 P D tb so a cap l t hc (h.below hb) hn hk hd hgone)
theorem zfE (x:ByteArray)(n k:Nat)(w0 w:World)(P0 P:Nat→Dp)(D:Nat→Dk)(tb:Nat)(so:Nat→Option Nat)(a:Option Addr)(cap:Nat)(l:List Fi)(t:Int)(hc:CLo w0)(h:Ses w0 w P0 P D tb so a cap l t k)(hn:x.size≤100)(hk:n<3)(hd:zby x=((n:Int),0))(hnk:n≠k) :
 Calls Tryz.prog 99 #[.pointer (some ⟨w0.heap.size,0,none⟩),.string ⟨#[100,105,102,102]⟩,.string x] w (zaD w0 w P0 (fun s D2 l2 t2 k2=>k2=k∧D2=D∧(s,l2,t2)=(⟨#[45]⟩,l,t))) :=
 zg2 x _ w0 w P0 (fun W hb=>zkd x n k w0 W P0 P D tb so a cap l t hc (h.below hb) hn hk hd hnk)
theorem zgC (x:ByteArray)(k:Nat)(w0 w:World)(P0 P:Nat→Dp)(D:Nat→Dk)(tb:Nat)(so:Nat→Option Nat)(a:Option Addr)(cap:Nat)(l:List Fi)(t:Int)(hc:CLo w0)(h:Ses w0 w P0 P D tb so a cap l t k)(hn:x.size≤100)(m:Int)(hm:m=4∨m=5)(hd:zby x=(0,m)) :
 Calls Tryz.prog 99 #[.pointer (some ⟨w0.heap.size,0,none⟩),.string ⟨#[100,105,102,102]⟩,.string x] w (zaD w0 w P0 (fun s D2 l2 t2 k2=>k2=k∧D2=D∧(s,l2,t2)=(errT m,l,t))) :=
 zg2 x _ w0 w P0 (fun W hb=>zkk x k w0 W P0 P D tb so a cap l t hc (h.below hb) hn m hm hd)
theorem zl1 (w0 w:World)(P0 P:Nat→Dp)(D:Nat→Dk)(tb:Nat)(so:Nat→Option Nat)(a:Option Addr)(cap:Nat)(l:List Fi)(t:Int)(k:Nat)(hc:CLo w0)(h:Ses w0 w P0 P D tb so a cap l t k) :
 Calls Tryz.prog 98 #[.pointer (some ⟨w0.heap.size,0,none⟩),.string ⟨#[116,117,114,110]⟩] w (zaD w0 w P0 (fun s D2 l2 t2 k2=>k2=k∧D2=D∧(s,l2,t2)=(⟨(Lib.itoa t).toArray⟩,l,t))):=by
 have HS:Hid (Ses w0 w P0 P D tb so a cap l t k):=h;have KQ:Hid _:=zcT P tb so a cap l t w h.spt.life.trio (by have:=h.spt.life.good.files.few;omega);have HG:Hid (zau l t):=h.spt.life.good;obtain ⟨d0,d1,d2,d3,hlt⟩:=h.cells;clear h
 go_enter Tryz.func98,Tryz.ntmps98
 go_wp2_with fail
 refine Calls.mono KQ.out ?_;rintro e w1 ⟨a1,cap1,rfl,ho1,hb1⟩;have HB1:Hid (Below w.heap.size w w1):=hb1;have hg:=HG.out;have KI:Hid _:=znD t w1 (by have:=hg.low;omega) (by have:=hg.high;omega) (hc.vars (HS.out.below hb1).spt.bel);clear KQ hb1 ho1 hg;have hfl:=fun W=>zta (.slice a1 l.length cap1) (.int .i64 t) W
 go_wp2_with fail
 refine Calls.mono KI.out ?_;rintro e w2 ⟨rfl,hb2⟩;have HB2:Hid (Below w.heap.size w w2):=HB1.out.trans (hb2.mono HB1.out.size);clear hb2 KI;go_wp2
 try simp only [Exit.inBlock,Exit.then]
 exact bodyPost_ret (v:=.tuple #[.string ⟨(Lib.itoa t).toArray⟩,.nilIface]) (by simp [results,Tryz.results98,go_sem]) rfl ⟨_,0,P,D,tb,so,a,cap,l,t,k,by rw [zac rfl],by omega,HS.out.below HB2.out,Stay.of_below HB2.out,rfl,rfl,by rw [if_pos rfl]⟩
theorem zgx (w0 w:World)(P0 P:Nat→Dp)(D:Nat→Dk)(tb:Nat)(so:Nat→Option Nat)(a:Option Addr)(cap:Nat)(l:List Fi)(t:Int)(k:Nat)(hc:CLo w0)(h:Ses w0 w P0 P D tb so a cap l t k) :
 Calls Tryz.prog 98 #[.pointer (some ⟨w0.heap.size,0,none⟩),.string ⟨#[115,99,114,117,98]⟩] w (zaD w0 w P0 (fun s D2 l2 t2 k2=>∃ n:Nat,n≤1∧(n=1→k<3)∧(n=0↔∀ i,i<3→zdj (D i) (zaw l t))∧k2=(if n=1 then 3 else k)∧(s,l2,t2)=(⟨(Lib.itoa n).toArray⟩,l,t))):=by
 have KS:Hid _:=zmi w0 w P0 P D tb so a cap l t k h;obtain ⟨d0,d1,d2,d3,hlt⟩:=h.cells;clear h
 go_enter Tryz.func98,Tryz.ntmps98
 go_wp2_with fail
 refine Calls.mono KS.out ?_;rintro e w1 ⟨n,P2,D2,so2,rfl,h1,h2,h3,h4,h5⟩;have KC:Hid _:=zjm n .nilIface w1 (by omega) (by omega) (hc.vars h4.spt.bel);have HX:Hid _:=And.intro h1 (And.intro h2 (And.intro h3 (And.intro h4 h5)));clear h1 h2 h3 h4 h5 KS d0 d1 d2 d3
 go_wp2_with fail
 refine Calls.mono KC.out ?_;rintro e w2 ⟨rfl,hb2⟩;have HB2:Hid (Below w1.heap.size w1 w2):=hb2;clear hb2 KC;go_wp2
 try simp only [Exit.inBlock,Exit.then]
 exact bodyPost_ret (v:=.tuple #[.string ⟨(Lib.itoa n).toArray⟩,.nilIface]) (by simp [results,Tryz.results98,go_sem]) rfl ⟨_,0,P2,D2,tb,so2,a,cap,l,t,_,by rw [zac rfl],by omega,HX.out.2.2.2.1.below HB2.out,HX.out.2.2.2.2.trans (Stay.of_below HB2.out),n,HX.out.1,HX.out.2.1,HX.out.2.2.1,rfl,by rw [if_pos rfl]⟩
theorem zlL (w0 w:World)(P0 P:Nat→Dp)(D:Nat→Dk)(tb:Nat)(so:Nat→Option Nat)(a:Option Addr)(cap:Nat)(l:List Fi)(t:Int)(k:Nat)(hc:CLo w0)(h:Ses w0 w P0 P D tb so a cap l t k) :
 Calls Tryz.prog 98 #[.pointer (some ⟨w0.heap.size,0,none⟩),.string ⟨#[111,112,101,110]⟩] w (zaD w0 w P0 (fun s D2 l2 t2 k2=>∃ n:Nat,n≤1∧(n=1→k<3)∧(n=0↔∀ i,i<3→zdj (D i) (zaw l t))∧k2=(if n=1 then 3 else k)∧(s,l2,t2)=(⟨(Lib.itoa n).toArray⟩,l,t))):=by
 have KS:Hid _:=zn8 w0 w P0 P D tb so a cap l t k h;obtain ⟨d0,d1,d2,d3,hlt⟩:=h.cells;clear h
 go_enter Tryz.func98,Tryz.ntmps98
 go_wp2_with fail
 refine Calls.mono KS.out ?_;rintro e w1 ⟨tb2,n,P2,D2,so2,a2,cap2,rfl,h1,h2,h3,h4,h5⟩;have KC:Hid _:=zjm n .nilIface w1 (by omega) (by omega) (hc.vars h4.spt.bel);have HX:Hid _:=And.intro h1 (And.intro h2 (And.intro h3 (And.intro h4 h5)));clear h1 h2 h3 h4 h5 KS d0 d1 d2 d3
 go_wp2_with fail
 refine Calls.mono KC.out ?_;rintro e w2 ⟨rfl,hb2⟩;have HB2:Hid (Below w1.heap.size w1 w2):=hb2;clear hb2 KC;go_wp2
 try simp only [Exit.inBlock,Exit.then]
 exact bodyPost_ret (v:=.tuple #[.string ⟨(Lib.itoa n).toArray⟩,.nilIface]) (by simp [results,Tryz.results98,go_sem]) rfl ⟨_,0,P2,D2,tb2,so2,a2,cap2,l,t,_,by rw [zac rfl],by omega,HX.out.2.2.2.1.below HB2.out,HX.out.2.2.2.2.trans (Stay.of_below HB2.out),n,HX.out.1,HX.out.2.1,HX.out.2.2.1,rfl,by rw [if_pos rfl]⟩
theorem zpT (w0 w:World) (P0 P:Nat→Dp) (D:Nat→Dk) (tb:Nat) (so:Nat→Option Nat) (a:Option Addr) (cap:Nat) (l:List Fi) (t:Int) (k:Nat) (h:Ses w0 w P0 P D tb so a cap l t k) :
 Calls Tryz.prog 135 #[.pointer (some ⟨w0.heap.size,0,none⟩)] w fun e w'=>e=.returned (.string (zdx l))∧Below w.heap.size w w':=by
 obtain ⟨i0,hi,hz0,hz1,hz2⟩:=info_parts Tryz.infoString;have HS:Hid (Ses w0 w P0 P D tb so a cap l t k):=h;have KQ:Hid _:=zcT P tb so a cap l t w h.spt.life.trio (by have:=h.spt.life.good.files.few;omega);obtain ⟨d0,d1,d2,d3,hlt⟩:=h.cells;have HG:Hid (zau l t):=h.spt.life.good;have h8:l.length≤8:=h.spt.life.good.files.few;clear h
 go_enter Tryz.func135,Tryz.ntmps135
 go_wp2_with fail
 refine Calls.mono KQ.out ?_;rintro e w1 ⟨a1,cap1,rfl,ho1,hb1⟩;have HB1:Hid (Below w.heap.size w w1):=hb1;have HC:Hid (zaF w1 a1 l):=(zad.of_owns ho1).slice.cells;clear KQ hb1 ho1 d0 d1 d2 d3 hlt;have hfl:=fun W=>zpy (.slice a1 l.length cap1) (.int .i64 t) W
 go_wp2_with fail
 go_loopg [3,13] (l.length+1) (fun kx v i wr=>∃ n:Nat,i=.int .i64 n∧n≤l.length∧l.length - n≤kx∧Hid (za0 wr w1.heap.size v ((l.take n).map zc0))∧Hid (Below w1.heap.size w1 wr))
 case atStart=>exact ⟨0,rfl,Nat.zero_le _,by omega,World.ownsRow_nil _ _ _ _,Below.refl _ _⟩
 case round =>
  obtain ⟨n,rfl,hn,hnx,HOWN,HB⟩:=hrel
  by_cases hlt:n<l.length
  · obtain ⟨b,off,rfl,c0,c1,c2⟩:=HC.out.below HB.out n hlt
    have hltz:(n:Int)<(l.length:Int):=by omega
    have HLN:Hid (((l.take n).map zc0).length≤8):=by show _≤_;simp;omega
    obtain ⟨hfn,hft⟩:=zgc HG.out.files (List.getElem_mem hlt);have HSN:Hid ((l.take (n+1)).map zc0=(l.take n).map zc0 ++ [l[n].n ++ ⟨#[61]⟩ ++ zbW l[n].t]):=by show _=_;rw [zb8 l n hlt,List.map_append];rfl
    have htw:(zbW l[n].t).size≤13:=by have:=zgh l[n].t;omega
    have KT:Hid (∀ W,Calls Tryz.prog 175 #[.string l[n].t] W fun e w'=>e=.returned (.string (zbW l[n].t))∧w'=W):=fun W=>zic l[n].t W
    generalize zbW l[n].t=X at *;have hl1:¬ 9223372036854775807<l[n].n.size+1:=by omega
    have hl2:¬ 9223372036854775807<l[n].n.size+1+X.size:=by omega
    obtain ⟨W,hW⟩:∃ y,y=wr.alloc (.cells #[.string l[n].n,.string l[n].t,.int .i64 l[n].k] 98):=⟨_,rfl⟩
    have hbW:Below wr.heap.size wr W:=by rw [hW];exact (Below.refl _ _).alloc (Nat.le_refl _) _
    have hnew:=World.alloc_heap_new wr (.cells #[.string l[n].n,.string l[n].t,.int .i64 l[n].k] 98);rw [← hW] at hnew;have y0:W.cell? ⟨wr.heap.size,0,none⟩=some (.string l[n].n):=by rw [zaa hnew];rfl
    have y1:W.cell? ⟨wr.heap.size,1,none⟩=some (.string l[n].t):=by rw [zaa hnew];rfl
    have yl:wr.heap.size<W.heap.size:=(Array.getElem?_eq_some_iff.1 hnew).1;have hbX:Hid (∀ o,Below wr.heap.size wr (W.drew.alloc o)):=fun o=>hbW.drew.alloc hbW.drew.size o
    have hlo:w1.heap.size≤wr.heap.size:=HB.out.size;have hloa:Hid (∀ o,w1.heap.size≤(W.drew.alloc o).heap.size):=fun o=>Nat.le_trans hlo (hbX.out o).size
    generalize hLL:(l.take n).map zc0=L at *;have HOX:Hid (∀ o,za0 (W.drew.alloc o) w1.heap.size u3 L):=fun o=>za0.below HOWN.out (hbX.out o)
    have hln:=HLN.out;have h63:L.length+1≤maxLen:=by unfold maxLen;omega
    have hby:(L.length+1) * 16≤140737488355328:=by omega
    have HEND:Hid (∀ o V v',(W.drew.alloc o).grownBy V u3.ownBlock→V.ownsRow w1.heap.size 9 1 v' (L.length+1) (L.map Value.string ++ [.string (l[n].n ++ ⟨#[61]⟩ ++ X)])→za0 V w1.heap.size v' (L ++ [l[n].n ++ ⟨#[61]⟩ ++ X])∧Below w1.heap.size w1 V):=fun o V v' hg ho =>
     ⟨za0.snoc ho,(HB.out.trans ((hbX.out o).mono hlo)).grown hg (hloa.out o) (fun q hq=>((HOX.out o).lt q hq).1)⟩
    clear hLL hnew hbW hln hlo
    go_wp2_with fail
    rw [← hW];clear hW c0 c1 c2
    go_region_law
     (first
       | (rw [if_pos (by rfl)]
          refine zcr _ _ 34 rfl w1.heap.size 9 i0 _ 1 16 Tryz.underlying34 hi hz0 hz1 hz2 rfl Nat.one_pos u3 L.length (L.map Value.string) rfl (HOX.out _) ⟨W.heap.size,0,none⟩ 1 1 [.string (l[n].n ++ ⟨#[61]⟩ ++ X)] rfl rfl (zbz _ _ _) (zfL _) h63 hby (hloa.out _) ?_;intro v' w4 hown4 hgrow4 hnew4;obtain ⟨hA,hB⟩:=HEND.out _ _ _ hgrow4 hown4;have HA:Hid _:=hA;have HB4:Hid _:=hB;clear hA hB hown4 hgrow4 hnew4)
       | (go_simp
          go_at_call 175
          refine Calls.mono (KT.out _) ?_;rintro e wq ⟨rfl,hq⟩;rw [hq];clear hq wq))
    all_goals
     go_wp2
     go_roundg (l.length - (n+1))
     case measure=>omega
     case rel=>exact ⟨n+1,by go_num,by omega,Nat.le_refl _,by rw [HSN.out];exact HA,HB4⟩
  · have hn9:n=l.length:=by omega
    obtain ⟨v3,c3,rfl,hst,hnil,hmx,hle,-⟩:=za0.texts HOWN.out;have hall:(l.take n).map zc0=l.map zc0:=by rw [hn9,List.take_length]
    rw [hall] at hst hle ⊢
    have kl:=zl6 v3 c3 (l.map zc0) wr hst hle (by simp;omega) (by
     have h1:=zpk ((l.map zc0).map (·.data.toList)) 20 (fun x hx=>by
      obtain ⟨y,hy,rfl⟩:=List.mem_map.1 hx;obtain ⟨f,hf,rfl⟩:=List.mem_map.1 hy;obtain ⟨h1,h2⟩:=zgc HG.out.files hf;have h3:(zc0 f).data.toList.length=(zc0 f).size:=by simp
      have:=zkF f;omega)
     have h2:((l.map zc0).map (·.data.toList)).length≤8:=by simp;exact h8
     have h3:((l.map zc0).map (·.data.toList)).length * 21≤8 * 21:=Nat.mul_le_mul_right _ h2;omega)
    rw [List.length_map] at kl;have KL:Hid _:=kl;clear kl hall hst hnil hmx hle
    go_wp2_with fail
    refine Calls.mono KL.out ?_;rintro e w4 ⟨rfl,hb⟩;have HB4:Hid (Below w.heap.size w w4):=(HB1.out.trans (HB.out.mono HB1.out.size)).trans (hb.mono (Nat.le_trans HB1.out.size HB.out.size));clear hb KL;go_wp2
    try simp only [Exit.inBlock,Exit.then]
    exact bodyPost_ret (v:=.string (zdx l)) (by simp [results,Tryz.results135,go_sem,zdx]) rfl ⟨rfl,HB4.out⟩
theorem zmY (w0 w:World)(P0 P:Nat→Dp)(D:Nat→Dk)(tb:Nat)(so:Nat→Option Nat)(a:Option Addr)(cap:Nat)(l:List Fi)(t:Int)(k:Nat)(h:Ses w0 w P0 P D tb so a cap l t k) :
 Calls Tryz.prog 98 #[.pointer (some ⟨w0.heap.size,0,none⟩),.string ⟨#[97,108,108]⟩] w (zaD w0 w P0 (fun s D2 l2 t2 k2=>k2=k∧D2=D∧(s,l2,t2)=(zdx l,l,t))):=by
 have HS:Hid (Ses w0 w P0 P D tb so a cap l t k):=h;have KA:Hid _:=zpT w0 w P0 P D tb so a cap l t k h;clear h
 go_enter Tryz.func98,Tryz.ntmps98
 go_wp2_with fail
 refine Calls.mono KA.out ?_;rintro e w1 ⟨rfl,hb1⟩;have HB1:Hid (Below w.heap.size w w1):=hb1;clear hb1 KA;go_wp2
 try simp only [Exit.inBlock,Exit.then]
 exact bodyPost_ret (v:=.tuple #[.string (zdx l),.nilIface]) (by simp [results,Tryz.results98,go_sem]) rfl ⟨_,0,P,D,tb,so,a,cap,l,t,k,by rw [zac rfl],by omega,HS.out.below HB1.out,Stay.of_below HB1.out,rfl,rfl,by rw [if_pos rfl]⟩
theorem zmF (v:ByteArray)(k:Nat)(w0 w:World)(P0 P:Nat→Dp)(D:Nat→Dk)(tb:Nat)(so:Nat→Option Nat)(a:Option Addr)(cap:Nat)(l:List Fi)(t:Int)(h:Ses w0 w P0 P D tb so a cap l t k)(n1:v≠⟨#[97,108,108]⟩)(n2:v≠⟨#[116,117,114,110]⟩)(n3:v≠⟨#[115,99,114,117,98]⟩)(n4:v≠⟨#[111,112,101,110]⟩) :
 Calls Tryz.prog 98 #[.pointer (some ⟨w0.heap.size,0,none⟩),.string v] w (zaD w0 w P0 (fun s D2 l2 t2 k2=>k2=k∧D2=D∧(s,l2,t2)=(errT 4,l,t))):=by
 have HS:Hid (Ses w0 w P0 P D tb so a cap l t k):=h;have HE4:Hid (errV 4=.iface 90 (.int .i64 4)):=zak (show ¬ (4:Int)=0 by decide);have b1:(v.toList == [97,108,108])=false:=zbt _ n1;have b2:(v.toList == [116,117,114,110])=false:=zbt _ n2;have b3:(v.toList == [115,99,114,117,98])=false:=zbt _ n3;have b4:(v.toList == [111,112,101,110])=false:=zbt _ n4;clear h n1 n2 n3 n4
 go_enter Tryz.func98,Tryz.ntmps98
 go_wp2
 try simp only [Exit.inBlock,Exit.then]
 exact bodyPost_ret (v:=.tuple #[.string ⟨#[]⟩,.iface 90 (.int .i64 4)]) (by simp [results,Tryz.results98,go_sem]) rfl ⟨⟨#[]⟩,4,P,D,tb,so,a,cap,l,t,k,by rw [HE4.out],by omega,HS.out,Stay.refl _ _,rfl,rfl,by rw [if_neg (by decide)]⟩
theorem zqK (v x:ByteArray)(k:Nat)(w0 w:World)(P0 P:Nat→Dp)(D:Nat→Dk)(tb:Nat)(so:Nat→Option Nat)(a:Option Addr)(cap:Nat)(l:List Fi)(t:Int)(h:Ses w0 w P0 P D tb so a cap l t k)(n1:v≠⟨#[100,114,111,112]⟩)(n2:v≠⟨#[114,101,97,100]⟩)(n3:v≠⟨#[100,105,102,102]⟩) :
 Calls Tryz.prog 99 #[.pointer (some ⟨w0.heap.size,0,none⟩),.string v,.string x] w (zaD w0 w P0 (fun s D2 l2 t2 k2=>k2=k∧D2=D∧(s,l2,t2)=(errT 4,l,t))):=by
 have HE4:Hid (errV 4=.iface 90 (.int .i64 4)):=zak (show ¬ (4:Int)=0 by decide);have b1:(v.toList == [100,114,111,112])=false:=zbt _ n1;have b2:(v.toList == [114,101,97,100])=false:=zbt _ n2;have b3:(v.toList == [100,105,102,102])=false:=zbt _ n3;obtain ⟨W,hW⟩:∃ z,z=w.alloc (.cells #[.string x] 9):=⟨_,rfl⟩
 have hbW:Below w.heap.size w W:=by rw [hW];exact (Below.refl _ _).alloc (Nat.le_refl _) _
 have HS:Hid (Ses w0 W P0 P D tb so a cap l t k):=h.below hbW;have HST:Hid (Stay w0.heap.size w W):=Stay.of_below hbW;clear h n1 n2 n3 hbW
 go_enter Tryz.func99,Tryz.ntmps99
 go_wp2
 try simp only [Exit.inBlock,Exit.then]
 rw [← hW];exact bodyPost_ret (v:=.tuple #[.string ⟨#[]⟩,.iface 90 (.int .i64 4)]) (by simp [results,Tryz.results99,go_sem]) rfl ⟨⟨#[]⟩,4,P,D,tb,so,a,cap,l,t,k,by rw [HE4.out],by omega,HS.out,HST.out,rfl,rfl,by rw [if_neg (by decide)]⟩
theorem zp6 (v x y:ByteArray)(k:Nat)(w0 w:World)(P0 P:Nat→Dp)(D:Nat→Dk)(tb:Nat)(so:Nat→Option Nat)(a:Option Addr)(cap:Nat)(l:List Fi)(t:Int)(h:Ses w0 w P0 P D tb so a cap l t k)(n1:v≠⟨#[119,114,105,116,101]⟩)(n2:v≠⟨#[110,97,109,101]⟩)(n3:v≠⟨#[115,119,97,112]⟩)(n4:v≠⟨#[97,114,109]⟩)(n5:v≠⟨#[114,101,115,116,97,114,116]⟩)(n6:v≠⟨#[115,112,111,105,108]⟩) :
 Calls Tryz.prog 100 #[.pointer (some ⟨w0.heap.size,0,none⟩),.string v,.string x,.string y] w (zaD w0 w P0 (fun s D2 l2 t2 k2=>k2=k∧D2=D∧(s,l2,t2)=(errT 4,l,t))):=by
 have HE4:Hid (errV 4=.iface 90 (.int .i64 4)):=zak (show ¬ (4:Int)=0 by decide);have b1:(v.toList == [119,114,105,116,101])=false:=zbt _ n1;have b2:(v.toList == [110,97,109,101])=false:=zbt _ n2;have b3:(v.toList == [115,119,97,112])=false:=zbt _ n3;have b4:(v.toList == [97,114,109])=false:=zbt _ n4;have b5:(v.toList == [114,101,115,116,97,114,116])=false:=zbt _ n5;have b6:(v.toList == [115,112,111,105,108])=false:=zbt _ n6;obtain ⟨W,hW⟩:∃ z,z=(w.alloc (.cells #[.string x] 9)).alloc (.cells #[.string y] 9):=⟨_,rfl⟩
 have hbW:Below w.heap.size w W:=by rw [hW];exact ((Below.refl _ _).alloc (Nat.le_refl _) _).alloc (by simp) _
 have HS:Hid (Ses w0 W P0 P D tb so a cap l t k):=h.below hbW;have HST:Hid (Stay w0.heap.size w W):=Stay.of_below hbW;clear h n1 n2 n3 n4 n5 n6 hbW
 go_enter Tryz.func100,Tryz.ntmps100
 go_wp2
 try simp only [Exit.inBlock,Exit.then]
 rw [← hW];exact bodyPost_ret (v:=.tuple #[.string ⟨#[]⟩,.iface 90 (.int .i64 4)]) (by simp [results,Tryz.results100,go_sem]) rfl ⟨⟨#[]⟩,4,P,D,tb,so,a,cap,l,t,k,by rw [HE4.out],by omega,HS.out,HST.out,rfl,rfl,by rw [if_neg (by decide)]⟩
theorem zl8 (line:ByteArray)(w:World)(hs:line.size≤100)(hm:∃ m,w.cell? ⟨2,0,none⟩=some (.int .i64 m)) :
 Calls Tryz.prog 97 #[.string line,.string ⟨#[32]⟩] w fun e w'=>e=.returned (.slice (some ⟨w.heap.size,0,none⟩) (zaP line).length (zaP line).length)∧w'=w.alloc (.cells ((zaP line).map Value.string).toArray 9):=by
 obtain ⟨m,hm⟩:=hm;have h:=Tryz.strings_Split line sp m w (by omega) hm (by decide);obtain ⟨h1,h2⟩:=zg1 line;rw [h1,← h2] at h;exact h
theorem Ses.clo (h:Ses w0 w P0 P D tb so a cap l t k)(hc:CLo w0):zfs w∧∃ m,w.cell? ⟨2,0,none⟩=some (.int .i64 m):=⟨hc.vars h.spt.bel,hc.len h.spt.bel⟩
theorem zoH (line:ByteArray)(k:Nat)(w0 w:World)(P0 P:Nat→Dp)(D:Nat→Dk)(tb:Nat)(so:Nat→Option Nat)(a:Option Addr)(cap:Nat)(l:List Fi)(t:Int)(h:Ses w0 w P0 P D tb so a cap l t k)(hs:50<line.size) :
 Calls Tryz.prog 65 #[.pointer (some ⟨w0.heap.size,0,none⟩),.string line] w (zaD w0 w P0 (fun s D2 l2 t2 k2=>k2=k∧D2=D∧(s,l2,t2)=(errT 4,l,t))):=by
 have HS:Hid (Ses w0 w P0 P D tb so a cap l t k):=h;have HE4:Hid (errV 4=.iface 90 (.int .i64 4)):=zak (show ¬ (4:Int)=0 by decide);have hsz:(50:Int)<(line.size:Int):=by omega
 clear h
 go_enter Tryz.func65,Tryz.ntmps65
 go_wp2
 try simp only [Exit.inBlock,Exit.then]
 exact bodyPost_ret (v:=.tuple #[.string ⟨#[]⟩,.iface 90 (.int .i64 4)]) (by simp [results,Tryz.results65,go_sem]) rfl ⟨⟨#[]⟩,4,P,D,tb,so,a,cap,l,t,k,by rw [HE4.out],by omega,HS.out,Stay.refl _ _,rfl,rfl,by rw [if_neg (by decide)]⟩
theorem zoD (line:ByteArray)(k:Nat)(w0 w:World)(P0 P:Nat→Dp)(D:Nat→Dk)(tb:Nat)(so:Nat→Option Nat)(a:Option Addr)(cap:Nat)(l:List Fi)(t:Int)(hc:CLo w0)(h:Ses w0 w P0 P D tb so a cap l t k)(hs:line.size≤50)(hw:4≤(zaP line).length) :
 Calls Tryz.prog 65 #[.pointer (some ⟨w0.heap.size,0,none⟩),.string line] w (zaD w0 w P0 (fun s D2 l2 t2 k2=>k2=k∧D2=D∧(s,l2,t2)=(errT 4,l,t))):=by
 have HS:Hid (Ses w0 w P0 P D tb so a cap l t k):=h;have HE4:Hid (errV 4=.iface 90 (.int .i64 4)):=zak (show ¬ (4:Int)=0 by decide);have KS:Hid _:=zl8 line w (by omega) (h.clo hc).2;have hsz:¬ (50:Int)<(line.size:Int):=by omega
 have hl1:((zaP line).length:Int)≠1:=by omega
 have hl2:((zaP line).length:Int)≠2:=by omega
 have hl3:((zaP line).length:Int)≠3:=by omega
 generalize (zaP line).length=n at *;clear h
 go_enter Tryz.func65,Tryz.ntmps65
 go_wp2_with fail
 refine Calls.mono KS.out ?_;rintro e w1 ⟨rfl,hw1⟩;have hb1:Below w.heap.size w w1:=by rw [hw1];exact (Below.refl _ _).alloc (Nat.le_refl _) _
 have HB1:Hid (Below w.heap.size w w1):=hb1;clear hb1 hw1 KS;go_wp2
 try simp only [Exit.inBlock,Exit.then]
 exact bodyPost_ret (v:=.tuple #[.string ⟨#[]⟩,.iface 90 (.int .i64 4)]) (by simp [results,Tryz.results65,go_sem]) rfl ⟨⟨#[]⟩,4,P,D,tb,so,a,cap,l,t,k,by rw [HE4.out],by omega,HS.out.below HB1.out,Stay.of_below HB1.out,rfl,rfl,by rw [if_neg (by decide)]⟩
theorem zpx (line x:ByteArray)(Q:ByteArray→(Nat→Dk)→List Fi→Int→Nat→Prop)(k:Nat)(w0 w:World)(P0 P:Nat→Dp)(D:Nat→Dk)(tb:Nat)(so:Nat→Option Nat)(a:Option Addr)(cap:Nat)(l:List Fi)(t:Int)(hc:CLo w0)(h:Ses w0 w P0 P D tb so a cap l t k)(hs:line.size≤50)(hw:zaP line=[x])
 (K:∀ W,Below w.heap.size w W→Calls Tryz.prog 98 #[.pointer (some ⟨w0.heap.size,0,none⟩),.string x] W (zaD w0 W P0 Q)) :
 Calls Tryz.prog 65 #[.pointer (some ⟨w0.heap.size,0,none⟩),.string line] w (zaD w0 w P0 Q):=by
 have KS:Hid _:=zl8 line w (by omega) (h.clo hc).2;rw [hw] at KS;have hsz:¬ (50:Int)<(line.size:Int):=by omega
 obtain ⟨W,hW⟩:∃ z,z=w.alloc (.cells #[.string x] 9):=⟨_,rfl⟩
 have hbW:Below w.heap.size w W:=by rw [hW];exact (Below.refl _ _).alloc (Nat.le_refl _) _
 have HST:Hid (Stay w0.heap.size w W):=Stay.of_below hbW;have hb0:W.heap[w.heap.size]?=some (.cells #[.string x] 9 (0,0)):=by rw [hW];exact World.alloc_heap_new w _
 have x0:W.cell? ⟨w.heap.size,0,none⟩=some (.string x):=by rw [zaa hb0];rfl
 have hlt:w.heap.size<W.heap.size:=(Array.getElem?_eq_some_iff.1 hb0).1;have KX:Hid _:=K W hbW;clear h hb0 hbW K hw
 go_enter Tryz.func65,Tryz.ntmps65
 go_wp2_with fail
 refine Calls.mono KS.out ?_;rintro e w1 ⟨rfl,hw1⟩;have hw2:w1=W:=by rw [hw1,hW];rfl
 rw [hw2];clear hw1 hw2 w1 KS hW;simp only [List.length_cons,List.length_nil]
 go_wp2_with fail
 refine Calls.mono KX.out ?_;rintro e w4 hd;obtain ⟨s,n,P2,D2,tb2,so2,a2,cap2,l2,t2,k2,rfl,h2,h3,h4,h5⟩:=hd;have HX:Hid _:=And.intro h2 (And.intro h3 (And.intro h4 h5));clear h2 h3 h4 h5 KX;go_wp2
 try simp only [Exit.inBlock,Exit.then]
 exact bodyPost_ret (v:=.tuple #[.string s,errV n]) (by simp [results,Tryz.results65,go_sem]) rfl ⟨s,n,P2,D2,tb2,so2,a2,cap2,l2,t2,k2,rfl,HX.out.1,HX.out.2.1,HST.out.trans HX.out.2.2.1,HX.out.2.2.2⟩
theorem zlO (line x y:ByteArray)(Q:ByteArray→(Nat→Dk)→List Fi→Int→Nat→Prop)(k:Nat)(w0 w:World)(P0 P:Nat→Dp)(D:Nat→Dk)(tb:Nat)(so:Nat→Option Nat)(a:Option Addr)(cap:Nat)(l:List Fi)(t:Int)(hc:CLo w0)(h:Ses w0 w P0 P D tb so a cap l t k)(hs:line.size≤50)(hw:zaP line=[x,y])
 (K:∀ W,Below w.heap.size w W→Calls Tryz.prog 99 #[.pointer (some ⟨w0.heap.size,0,none⟩),.string x,.string y] W (zaD w0 W P0 Q)) :
 Calls Tryz.prog 65 #[.pointer (some ⟨w0.heap.size,0,none⟩),.string line] w (zaD w0 w P0 Q):=by
 have KS:Hid _:=zl8 line w (by omega) (h.clo hc).2;rw [hw] at KS;have hsz:¬ (50:Int)<(line.size:Int):=by omega
 obtain ⟨W,hW⟩:∃ z,z=w.alloc (.cells #[.string x,.string y] 9):=⟨_,rfl⟩
 have hbW:Below w.heap.size w W:=by rw [hW];exact (Below.refl _ _).alloc (Nat.le_refl _) _
 have HST:Hid (Stay w0.heap.size w W):=Stay.of_below hbW;have hb0:W.heap[w.heap.size]?=some (.cells #[.string x,.string y] 9 (0,0)):=by rw [hW];exact World.alloc_heap_new w _
 have x0:W.cell? ⟨w.heap.size,0,none⟩=some (.string x):=by rw [zaa hb0];rfl
 have x1:W.cell? ⟨w.heap.size,1,none⟩=some (.string y):=by rw [zaa hb0];rfl
 have hlt:w.heap.size<W.heap.size:=(Array.getElem?_eq_some_iff.1 hb0).1;have KX:Hid (∀ V,Below W.heap.size W V→Calls Tryz.prog 99 #[.pointer (some ⟨w0.heap.size,0,none⟩),.string x,.string y] V (zaD w0 w P0 Q)):=fun V hb=>(K V (hbW.trans (hb.mono hbW.size))).mono fun e w' h=>h.behind (Stay.of_below (hbW.trans (hb.mono hbW.size)))
 clear h hb0 hbW K hw
 go_enter Tryz.func65,Tryz.ntmps65
 go_wp2_with fail
 refine Calls.mono KS.out ?_;rintro e w1 ⟨rfl,hw1⟩;have hw2:w1=W:=by rw [hw1,hW];rfl
 rw [hw2];clear hw1 hw2 w1 KS hW;simp only [List.length_cons,List.length_nil]
 go_wp2_with fail
 go_region_law
  (go_simp
   go_at_call 99
   refine Calls.mono (KX.out _ (by first | exact Below.drew (Below.refl _ _) | exact Below.refl _ _)) ?_;rintro e w4 hd;obtain ⟨s,n,P2,D2,tb2,so2,a2,cap2,l2,t2,k2,rfl,h2,h3,h4,h5⟩:=hd;have HX:Hid _:=And.intro h2 (And.intro h3 (And.intro h4 h5));clear h2 h3 h4 h5)
 all_goals
  go_wp2
  try simp only [Exit.inBlock,Exit.then]
  exact bodyPost_ret (v:=.tuple #[.string s,errV n]) (by simp [results,Tryz.results65,go_sem]) rfl ⟨s,n,P2,D2,tb2,so2,a2,cap2,l2,t2,k2,rfl,HX.out.1,HX.out.2.1,HX.out.2.2.1,HX.out.2.2.2⟩
theorem zl3 (line x y z:ByteArray)(Q:ByteArray→(Nat→Dk)→List Fi→Int→Nat→Prop)(k:Nat)(w0 w:World)(P0 P:Nat→Dp)(D:Nat→Dk)(tb:Nat)(so:Nat→Option Nat)(a:Option Addr)(cap:Nat)(l:List Fi)(t:Int)(hc:CLo w0)(h:Ses w0 w P0 P D tb so a cap l t k)(hs:line.size≤50)(hw:zaP line=[x,y,z])
 (K:∀ W,Below w.heap.size w W→Calls Tryz.prog 100 #[.pointer (some ⟨w0.heap.size,0,none⟩),.string x,.string y,.string z] W (zaD w0 W P0 Q)) :
 Calls Tryz.prog 65 #[.pointer (some ⟨w0.heap.size,0,none⟩),.string line] w (zaD w0 w P0 Q):=by
 have KS:Hid _:=zl8 line w (by omega) (h.clo hc).2;rw [hw] at KS;have hsz:¬ (50:Int)<(line.size:Int):=by omega
 obtain ⟨W,hW⟩:∃ u,u=w.alloc (.cells #[.string x,.string y,.string z] 9):=⟨_,rfl⟩
 have hbW:Below w.heap.size w W:=by rw [hW];exact (Below.refl _ _).alloc (Nat.le_refl _) _
 have HST:Hid (Stay w0.heap.size w W):=Stay.of_below hbW;have hb0:W.heap[w.heap.size]?=some (.cells #[.string x,.string y,.string z] 9 (0,0)):=by rw [hW];exact World.alloc_heap_new w _
 have x0:W.cell? ⟨w.heap.size,0,none⟩=some (.string x):=by rw [zaa hb0];rfl
 have x1:W.cell? ⟨w.heap.size,1,none⟩=some (.string y):=by rw [zaa hb0];rfl
 have x2:W.cell? ⟨w.heap.size,2,none⟩=some (.string z):=by rw [zaa hb0];rfl
 have hlt:w.heap.size<W.heap.size:=(Array.getElem?_eq_some_iff.1 hb0).1;have KX:Hid (∀ V,Below W.heap.size W V→Calls Tryz.prog 100 #[.pointer (some ⟨w0.heap.size,0,none⟩),.string x,.string y,.string z] V (zaD w0 w P0 Q)):=fun V hb=>(K V (hbW.trans (hb.mono hbW.size))).mono fun e w' h=>h.behind (Stay.of_below (hbW.trans (hb.mono hbW.size)))
 clear h hb0 hbW K hw
 go_enter Tryz.func65,Tryz.ntmps65
 go_wp2_with fail
 refine Calls.mono KS.out ?_;rintro e w1 ⟨rfl,hw1⟩;have hw2:w1=W:=by rw [hw1,hW];rfl
 rw [hw2];clear hw1 hw2 w1 KS hW;simp only [List.length_cons,List.length_nil]
 go_wp2_with fail
 go_region_law
  (go_simp
   go_at_call 100
   refine Calls.mono (KX.out _ (by first | exact Below.drew (Below.refl _ _) | exact Below.refl _ _)) ?_;rintro e w4 hd;obtain ⟨s,n,P2,D2,tb2,so2,a2,cap2,l2,t2,k2,rfl,h2,h3,h4,h5⟩:=hd;have HX:Hid _:=And.intro h2 (And.intro h3 (And.intro h4 h5));clear h2 h3 h4 h5)
 all_goals
  go_wp2
  try simp only [Exit.inBlock,Exit.then]
  exact bodyPost_ret (v:=.tuple #[.string s,errV n]) (by simp [results,Tryz.results65,go_sem]) rfl ⟨s,n,P2,D2,tb2,so2,a2,cap2,l2,t2,k2,rfl,HX.out.1,HX.out.2.1,HX.out.2.2.1,HX.out.2.2.2⟩
def ziq (w0 w:World)(P0:Nat→Dp)(Q:ByteArray→(Nat→Dk)→List Fi→Int→Nat→Prop)(e:Ending)(w':World):Prop :=
 ∃ (s:ByteArray) (P2:Nat→Dp) (D2:Nat→Dk) (tb2:Nat) (so2:Nat→Option Nat) (a2:Option Addr) (cap2:Nat) (l2:List Fi) (t2:Int) (k2:Nat),e=.returned (.string s)∧Ses w0 w' P0 P2 D2 tb2 so2 a2 cap2 l2 t2 k2∧Stay w0.heap.size w w'∧Q s D2 l2 t2 k2
theorem zdM (line:ByteArray)(Q:ByteArray→(Nat→Dk)→List Fi→Int→Nat→Prop)(w0 w:World)(P0:Nat→Dp)(hc:CLo w0)
 (K:Calls Tryz.prog 65 #[.pointer (some ⟨w0.heap.size,0,none⟩),.string line] w (zaD w0 w P0 Q)) :
 Calls Tryz.prog 36 #[.pointer (some ⟨w0.heap.size,0,none⟩),.string line] w (ziq w0 w P0 Q):=by
 have KX:Hid _:=K;clear K
 go_enter Tryz.func36,Tryz.ntmps36
 go_wp2_with fail
 refine Calls.mono KX.out ?_;rintro e w4 hd;obtain ⟨s,n,P2,D2,tb2,so2,a2,cap2,l2,t2,k2,rfl,h2,h3,h4,h5⟩:=hd
 by_cases hn:n=0
 · rw [if_pos hn] at h5
   rw [zac hn];have HX:Hid _:=And.intro h3 (And.intro h4 h5);clear h2 h3 h4 h5 KX hn;go_wp2
   try simp only [Exit.inBlock,Exit.then]
   exact bodyPost_ret (v:=.string s) (by simp [results,Tryz.results36,go_sem]) rfl ⟨s,P2,D2,tb2,so2,a2,cap2,l2,t2,k2,rfl,HX.out.1,HX.out.2.1,HX.out.2.2⟩
 · rw [if_neg hn] at h5
   have KF:Hid (Calls Tryz.prog 66 #[errV n] w4 fun e w'=>e=.returned (.string (errT n))∧Below w4.heap.size w4 w'):=zog n w4 (by omega) (by omega) (h3.clo hc).1;rw [zak hn];rw [zak hn] at KF;have HX:Hid _:=And.intro h3 (And.intro h4 h5);clear h2 h3 h4 h5 KX hn
   go_wp2_with fail
   refine Calls.mono KF.out ?_;rintro e w5 ⟨rfl,hb⟩;have HB:Hid (Below w4.heap.size w4 w5):=hb;clear hb KF;go_wp2
   try simp only [Exit.inBlock,Exit.then]
   exact bodyPost_ret (v:=.string (errT n)) (by simp [results,Tryz.results36,go_sem]) rfl ⟨errT n,P2,D2,tb2,so2,a2,cap2,l2,t2,k2,rfl,HX.out.1.below HB.out,HX.out.2.1.trans (Stay.of_below HB.out),HX.out.2.2⟩
end Go.Proofs.YtihnghnafpgdfadGreatDoor
