/- What the proofs stand on, part 11: DiskRestart. -/
import Derived.Laws.AppendOwn
import Derived.Deep.RegionHeld3
import Derived.Test.YtihnghnafpgdfadGreatDoorSk10
import Derived.Test.YtihnghnafpgdfadGreatDoorSk07
set_option linter.unusedVariables false
set_option linter.unusedSimpArgs false
set_option maxRecDepth 100000
set_option maxHeartbeats 1000000
namespace Go.Proofs.YtihnghnafpgdfadGreatDoor
open Go.RowKit
variable {l:List (List UInt8)}{b i k keep:Nat}{W w w4 w5:World}{p:Dp}{d:Dk}{x:List UInt8}{v:Value}{Q:Exit→Act→World→Prop}
def zcd (d:Dk)(k:Int)(s:ByteArray):Int:=if ¬ (0≤k∧k<(d.now.length:Int))∨40<s.size then 1 else zb1 d
def zaN (d:Dk)(k:Int)(s:ByteArray):Dk:=if ¬ (0≤k∧k<(d.now.length:Int))∨40<s.size then d else if zb1 d=0 then { zaK d with now:=d.now.set k.toNat (padD s),wr:=d.wr ++ [⟨k.toNat,d.bit,padD s⟩],bit:=(d.bit+1) % 64 } else zaK d
theorem zfC:∀ (a b:List (List UInt8)),zbr (a ++ b)=zbr a ++ zbr b
 | [],b=>rfl
 | s :: a,b=>by simp [zbr,zfC a b]
theorem zjc (hi:i<l.length):zbr l=zbr (l.take i) ++ zaI l[i] ++ zbr (l.drop (i+1)):=by
 have h:l=l.take i ++ l[i] :: l.drop (i+1):=by rw [List.getElem_cons_drop,List.take_append_drop]
 have h2:=congrArg zbr h;rw [zfC,zbr] at h2;rw [h2,List.append_assoc]
theorem znN (hi:i<l.length)(x:List UInt8):zbr (l.set i x)=zbr (l.take i) ++ zaI x ++ zbr (l.drop (i+1)):=by
 rw [List.set_eq_take_append_cons_drop,if_pos hi,zfC,zbr,List.append_assoc]
theorem zab.lay (h:zab w p d)(hi:i<d.now.length)(hx:x.length=40):zab (w.setCells p.gn (i * 40) (zaI x)) p { d with now:=d.now.set i x }∧Near p w (w.setCells p.gn (i * 40) (zaI x)):=by
 have hk:∀ k,k≠p.gn→(w.setCells p.gn (i * 40) (zaI x)).heap[k]?=w.heap[k]?:=fun k hk=>zcq p.gn _ _ w k hk
 have hr:=zfa p.gn (zaI x) (i * 40) w
 have hlen:(zbr (d.now.take i)).length=i * 40:=by
  rw [zbX (fun s hs=>h.snow s (List.mem_of_mem_take hs)),List.length_take,Nat.min_eq_left (by omega)]
 refine ⟨⟨?_,?_,?_,?_,h.skept,by simpa using h.lens,by simpa using h.few,?_,fun y hy=>by simpa using h.swr y hy,h.bits,h.low,h.ne1,h.ne2,h.ne3,h.ne4,h.ne5,h.ne6,h.lo1,h.lo2,h.lo3,h.idle⟩,⟨hr.1,hr.2.1,hr.2.2,by rw [zdF];exact Nat.le_refl _,fun k _ _ h2 _ _=>hk k h2⟩⟩
 · rw [hk _ h.ne1]
   simpa using h.blk
 · have hn:=h.now
   rw [zjc hi] at hn;have:=zfb p.gn _ _ (zaI x) (zbr (d.now.take i)) (zaI d.now[i]) (zbr (d.now.drop (i+1))) w (by rw [zaR,zaR,hx,h.snow _ (List.getElem_mem hi)]) hn;rw [hlen] at this
   rw [this,znN hi]
 · rw [hk _ (Ne.symm h.ne3)];exact h.kept
 · intro y hy
   rcases List.mem_or_eq_of_mem_set hy with h1 | h1
   · exact h.snow y h1
   · rw [h1];exact hx
 · exact zaj h.wr (fun g hg=>hk g (fun e=>h.ne5 (by rw [hg,e])))
theorem Tryz.infoWrite:(Tryz.prog.info? 86).map (fun i=>(i.zero,i.size,i.bytes))=some (some (.agg (zc1 0 0)),42,56):=by kernel_rfl
theorem ziu:∀ (a b:List Wr),zgL (a ++ b)=zgL a ++ zgL b
 | [],b=>rfl
 | s :: a,b=>by simp [zgL,ziu a b]
theorem zk3 (n:Int)(h0:0≤n)(h1:n≤100):wrap64 n=n:=by
 unfold wrap64;omega
theorem zsj (b:Nat):((b:Int)+1).tmod 64=(((b+1) % 64:Nat):Int):=by
 rw [Int.tmod_eq_emod_of_nonneg (by omega)];omega
def zbw (p:Dp)(w:World)(v:Value):Prop:=∀ k,v.ownBlock=some k→p.wv.ownBlock=some k∨w.heap.size≤k
theorem zab.note (h:zab w p d){x:Wr}(h4:w4.os=w.os∧w4.tape=w.tape∧w4.output=w.output∧w.heap.size≤w4.heap.size∧∀ k,k<w.heap.size→w4.heap[k]?=w.heap[k]?)
 (hg:w4.grownBy w5 p.wv.ownBlock) (hown:w5.ownsRow p.lo 86 42 v (d.wr.length+1) (zgL d.wr ++ wrV x)) (hx:x.data.length=40∧x.spot<d.now.length∧x.bit<64) :
 zab (w5.setCell ⟨p.B,2,none⟩ v) { p with wv:=v } { d with wr:=d.wr ++ [x] }∧Near p w (w5.setCell ⟨p.B,2,none⟩ v)∧(w5.cell? ⟨p.B,2,none⟩=some p.wv∧w5.frozen? ⟨p.B,2,none⟩=false):=by
 have hlt:p.B<w.heap.size∧p.gn<w.heap.size∧p.gk<w.heap.size:=⟨(Array.getElem?_eq_some_iff.1 h.blk).1,(Array.getElem?_eq_some_iff.1 h.now).1,(Array.getElem?_eq_some_iff.1 h.kept).1⟩
 have hk:∀ k,k<w.heap.size→p.wv.ownBlock≠some k→w5.heap[k]?=w.heap[k]?:=fun k hk hne=>by
  rw [hg.block k (by omega) (fun e=>hne e.symm),h4.2.2.2.2 k hk]
 have hB:=hk p.B hlt.1 h.ne4;have hn:=hk p.gn hlt.2.1 h.ne5;have hkk:=hk p.gk hlt.2.2 h.ne6;have hs:∀ k,k≠p.B→(w5.setCell ⟨p.B,2,none⟩ v).heap[k]?=w5.heap[k]?:=fun k hk=>Below.heap_setCell w5 ⟨p.B,2,none⟩ v k hk
 have hb5:w5.heap[p.B]?=some (.cells _ 78 (0,0)):=hB.trans h.blk
 have hv:∀ g t,v.ownBlock=some g→(∃ C,w5.heap[g]?=some (.cells C t (0,0)))→t=86:=by
  intro g t hg1 hg2;obtain ⟨C,hC⟩:=hg2;rcases hown.2 with ⟨e,_⟩ | ⟨g',cap,cur,e,_,hh,_⟩
  · rw [e] at hg1;simp [Value.ownBlock] at hg1
  · rw [e] at hg1
    have:g'=g:=by simpa [Value.ownBlock] using hg1
    subst this
    rw [hh] at hC;cases hC
    rfl
 have n4:v.ownBlock≠some p.B:=fun e=>absurd (hv _ _ e ⟨_,hb5⟩) (by decide)
 have n5:v.ownBlock≠some p.gn:=fun e=>absurd (hv _ _ e ⟨_,hn.trans h.now⟩) (by decide)
 have n6:v.ownBlock≠some p.gk:=fun e=>absurd (hv _ _ e ⟨_,hkk.trans h.kept⟩) (by decide)
 refine ⟨⟨?_,?_,?_,h.snow,h.skept,h.lens,h.few,?_,?_,h.bits,h.low,h.ne1,h.ne2,h.ne3,n4,n5,n6,h.lo1,h.lo2,h.lo3,fun e=>absurd e (by simp)⟩,⟨hg.os.trans h4.1,hg.tape.trans h4.2.1,hg.output.trans h4.2.2.1,?_,?_⟩,?_,?_⟩
 · exact zaZ hb5 2 v
 · rw [hs _ (Ne.symm h.ne1),hn];exact h.now
 · rw [hs _ (Ne.symm h.ne2),hkk];exact h.kept
 · have e1:(d.wr ++ [x]).length=d.wr.length+1:=by simp
   have e2:zgL (d.wr ++ [x])=zgL d.wr ++ wrV x:=by rw [ziu];simp [zgL]
   show World.ownsRow _ _ _ _ _ _ _;rw [e1,e2];exact zaj hown (fun g hg1=>hs g (fun e=>n4 (by rw [hg1,e])))
 · intro y hy
   rcases List.mem_append.1 hy with h1 | h1
   · exact h.swr y h1
   · simp at h1;rw [h1];exact hx
 · have:=hg.size
   simp;omega
 · intro k hk1 h1 h2 h3 h4'
   rw [hs k h1];exact hk k hk1 h4'
 · rw [zaa hb5];rfl
 · exact zaE hb5 2
theorem zqO (p:Dp) (d:Dk) (i:Nat) (s:ByteArray) (w:World) (h:zab w p d) (hi:i<d.now.length) (hs:s.size≤40) (h0:zb1 d=0) (hfew:d.wr.length<120) :
 Calls Tryz.prog 28 #[.pointer (some ⟨p.B,0,none⟩),.int .i64 i,.string s] w fun e w'=>e=.returned .nilIface∧∃ v,zab w' { p with wv:=v } (zaN d i s)∧Near p w w'∧zbw p w v:=by
 have HD:Hid (zab w p d):=h;have hb:(decide ((0:Int)≤(i:Int)) && decide ((i:Int)<(d.now.length:Int)))=true:=by simp;omega
 have hrest:=zbU d
 have HWD:Hid (zaN d (i:Int) s={ zaK d with now:=(zaK d).now.set i (padD s),wr:=(zaK d).wr ++ [⟨i,d.bit,padD s⟩],bit:=(d.bit+1) % 64 }):=by
  show _=_;unfold zaN;rw [if_neg (by omega),if_pos h0,hrest.1,hrest.2.2.1,Int.toNat_natCast]
 have HS:=ziQ p d w h;rw [h0] at HS;have HS':Hid (Calls Tryz.prog 54 _ w _):=HS;clear HS h
 go_enter Tryz.func28,Tryz.ntmps28
 go_wp2_with (first
  | (go_at_call 53;refine (zh4 p d i w HD.out).mono ?_;rintro e w' ⟨rfl,hw⟩;rw [hw,hb];clear hw w')
  | fail)
 refine HS'.out.mono ?_;rintro e w1 ⟨rfl,hd1,hn1⟩;rw [zac rfl];have HD1:Hid (zab w1 p (zaK d)):=hd1;have HN1:Hid (Near p w w1):=hn1;clear hd1 hn1 HS';obtain ⟨c0,c1,c2,c3,c4,c5⟩:=HD1.out.cells;have hcp:=fun ty=>zlR i d.bit s hs w1 ty
 go_wp2_with (first
  | refine zhh rfl _ _ rfl _ _ rfl rfl ?_
  | refine zem rfl rfl ?_
  | refine zhe rfl _ _ rfl _ _ rfl rfl ?_
  | fail)
 clear hcp;have hX:p.B<w1.heap.size∧p.gn<w1.heap.size∧p.gk<w1.heap.size:=⟨(Array.getElem?_eq_some_iff.1 HD1.out.blk).1,(Array.getElem?_eq_some_iff.1 HD1.out.now).1,(Array.getElem?_eq_some_iff.1 HD1.out.kept).1⟩;obtain ⟨W2,hW2⟩:∃ W2,W2=w1.alloc (.cells (.int .i64 i :: .int .i64 d.bit :: zaI (padD s)).toArray 86):=⟨_,rfl⟩
 have hbl:W2.heap[w1.heap.size]?=some (.cells (wrV ⟨i,d.bit,padD s⟩).toArray 86 (0,0)):=by
  rw [hW2];show (w1.heap.push _)[w1.heap.size]?=_;simp [wrV]
 have hfar:∀ k,k<w1.heap.size→W2.heap[k]?=w1.heap[k]?:=fun k hk=>by rw [hW2];exact Below.heap_alloc w1 _ k hk
 have hW2z:W2.heap.size=w1.heap.size+1:=by rw [hW2];simp
 have hW2r:W2.os=w1.os∧W2.tape=w1.tape∧W2.output=w1.output:=by rw [hW2];exact ⟨rfl,rfl,rfl⟩
 have hd2:zab W2 p (zaK d):=by
  refine ⟨by rw [hfar _ hX.1];exact HD1.out.blk,by rw [hfar _ hX.2.1];exact HD1.out.now,by rw [hfar _ hX.2.2];exact HD1.out.kept,HD1.out.snow,HD1.out.skept,HD1.out.lens,HD1.out.few,zaj HD1.out.wr (fun g hg=>hfar g (HD1.out.wr.lt g hg).2),HD1.out.swr,HD1.out.bits,HD1.out.low,HD1.out.ne1,HD1.out.ne2,HD1.out.ne3,HD1.out.ne4,HD1.out.ne5,HD1.out.ne6,HD1.out.lo1,HD1.out.lo2,HD1.out.lo3,HD1.out.idle⟩
 have HD2:Hid (zab W2 p (zaK d)):=hd2;have HN2:Hid (Near p w W2):=HN1.out.trans ⟨hW2r.1,hW2r.2.1,hW2r.2.2,by omega,fun k hk _ _ _ _=>hfar k hk⟩;have HBL:Hid (W2.heap[w1.heap.size]?=some (.cells (wrV ⟨i,d.bit,padD s⟩).toArray 86 (0,0))):=hbl;rw [← hW2];clear hW2 hbl hfar hW2r hd2 c0 c1 c2 c3 c4 c5;have h40:=zop s hs;have hil:i<(zaK d).now.length:=by rw [hrest.1];exact hi
 obtain ⟨c0,c1,c2,c3,c4,c5⟩:=HD2.out.cells;have hun:Tryz.prog.underlying 84=some (.array 40 5):=by kernel_rfl
 have hlb:(zaI (padD s)).length=40:=by rw [zaR,h40]
 have hin:(Tryz.prog.info? 84).map (·.size)=some (zaI (padD s)).length:=by rw [hlb];exact Tryz.sizeSector
 have h1b:∀ v ∈ zaI (padD s),v.oneCell'=true:=by
  intro v hv;simp only [zaI,List.mem_map] at hv;obtain ⟨c,_,rfl⟩:=hv
  rfl
 have hrg:W2.rangeAt w1.heap.size 2 (zaI (padD s)):=by
  intro j v hv;rw [zaa HBL.out];rw [List.getElem?_toArray,wrV,show 2+j=j+1+1 by omega,List.getElem?_cons_succ,List.getElem?_cons_succ];exact hv
 have hth:W2.there p.gn (i * 40) 40:=by
  intro j hj;rw [zaa HD2.out.now,zaE HD2.out.now];have:=zbX HD2.out.snow;simp;omega
 have hne1:p.B≠p.gn:=HD2.out.ne1;have hneX:w1.heap.size≠p.gn:=by omega
 have hdr:∀ W:World,W.drew.heap=W.heap:=fun _=>rfl
 have h60:=HD2.out.few;clear hdr;have k0:(fun W:World=>W.cell? ⟨p.B,0,none⟩=some (.slice (some ⟨p.gn,0,none⟩) (zaK d).now.length (zaK d).now.length)∧W.rangeAt w1.heap.size 2 (zaI (padD s))∧W.there p.gn (i * 40) 40) W2.drew:=⟨c0,hrg,hth⟩;have k1:(fun W:World=>W.cell? ⟨p.B,0,none⟩=some (.slice (some ⟨p.gn,0,none⟩) (zaK d).now.length (zaK d).now.length)∧W.rangeAt w1.heap.size 2 (zaI (padD s))∧W.there p.gn (i * 40) 40) (W2.drew.setCells p.gn (i * 40) (zaI (padD s))):=⟨by rw [World.cell?_setCells_out _ _ _ _ _ (fun e _=>absurd e hne1)];exact c0,World.rangeAt_setCells_apart (w:=W2.drew) hrg _ _ _ (.inl hneX),World.there_setCells (w:=W2.drew) hth _ _ _⟩;have K0:Hid _:=k0;have K1:Hid _:=k1;clear k0 k1
 go_region_held3 (fun W=>W.cell? ⟨p.B,0,none⟩=some (.slice (some ⟨p.gn,0,none⟩) (zaK d).now.length (zaK d).now.length)∧W.rangeAt w1.heap.size 2 (zaI (padD s))∧W.there p.gn (i * 40) 40) (first | exact K0.out | exact K1.out) (fail)
 have hlay:=(HD2.out.heap (w':=W2.drew) rfl).lay hil h40;obtain ⟨W3,hW3⟩:∃ W3,W3=W2.drew.setCells p.gn (i * 40) (zaI (padD s)):=⟨_,rfl⟩
 have HD3:Hid (zab W3 p { zaK d with now:=(zaK d).now.set i (padD s) }):=by rw [hW3];exact hlay.1
 have HN3:Hid (Near p w W3):=by rw [hW3];exact HN2.out.trans ((Near.drew p W2).trans hlay.2)
 have HBL3:Hid (W3.heap[w1.heap.size]?=some (.cells (wrV ⟨i,d.bit,padD s⟩).toArray 86 (0,0))):=by
  show _=_;rw [hW3,zcq p.gn _ _ _ _ hneX];exact HBL.out
 have hW3z:W3.heap.size=w1.heap.size+1:=by rw [hW3,zdF];exact hW2z
 rw [← hW3];clear hW3 hlay K0 K1 hrg hth hun hin HBL HD2 HN2 c0 c1 c2 c3 c4 c5 hW2z;obtain ⟨c0,c1,c2,c3,c4,c5⟩:=HD3.out.cells;have f2:=HD3.out.fr 2;have f3:=HD3.out.fr 3
 go_wp2_with fail
 have hwv:(wrV ⟨i,d.bit,padD s⟩).length=42:=by simp [wrV,hlb]
 have hst:∃ fs,Tryz.prog.underlying 86=some (.struct fs):=⟨_,Tryz.underlying86⟩
 obtain ⟨fs,hfs⟩:=hst
 have hld:∀ W:World,W.rangeAt w1.heap.size 0 (wrV ⟨i,d.bit,padD s⟩)→(Instr.loadAt 86 (.pointer (some ⟨w1.heap.size,0,none⟩))).run Tryz.prog W=.ok (.agg (wrV ⟨i,d.bit,padD s⟩).toArray) W:=fun W h =>
  run_loadAt_mid W w1.heap.size 0 86 (wrV ⟨i,d.bit,padD s⟩) (.struct fs) h hfs rfl (by rw [hwv];exact Tryz.sizeWrite)
 have hrg:W3.rangeAt w1.heap.size 0 (wrV ⟨i,d.bit,padD s⟩):=by
  intro j v hv;rw [zaa HBL3.out,List.getElem?_toArray,Nat.zero_add];exact hv
 obtain ⟨C,HCC⟩:∃ C,Hid (C=(wrV ⟨i,d.bit,padD s⟩).toArray):=⟨_,rfl⟩
 have hmix:Tryz.prog.follows .mixedOrders=true:=by kernel_rfl
 have HRG:Hid (W3.rangeAt w1.heap.size 0 (wrV ⟨i,d.bit,padD s⟩)):=hrg;have hsz42:(Tryz.prog.info? 86).map (·.size)=some (wrV ⟨i,d.bit,padD s⟩).length:=by rw [hwv];exact Tryz.sizeWrite
 refine wp_region_held_drew (S:=fun W=>W.rangeAt w1.heap.size 0 (wrV ⟨i,d.bit,padD s⟩)) hmix HRG.out (fun hS0=>?_);refine wpAnyH_take (i:=5) (oi:=_) (v:=.agg (wrV ⟨i,d.bit,padD s⟩).toArray) rfl (by kernel_rfl) (by kernel_rfl) (by kernel_rfl) (fun _ _ _ h=>h) (yieldsIf_load_mid (by rfl) _ _ rfl w1.heap.size 0 rfl (wrV ⟨i,d.bit,padD s⟩) (.struct fs) (fun w h=>h) hfs rfl hsz42) hS0 ?_
 try simp only [Act.put,List.setIfInBounds_toArray,List.set_cons_zero,List.set_cons_succ]
 refine wpAnyH_take (i:=0) (oi:=_) (v:=.pointer (some ⟨p.B,0,none⟩)) rfl (by kernel_rfl) (by kernel_rfl) (by kernel_rfl) (fun _ _ _ h=>h) (Or.inl ⟨by rfl,fun W hW=>by first | rfl | (go_simp;done) | (go_simp;rfl)⟩) hS0 ?_
 try simp only [Act.put,List.setIfInBounds_toArray,List.set_cons_zero,List.set_cons_succ]
 refine wpAnyH_take (i:=1) (oi:=_) (v:=.pointer (some ⟨p.B,0,none⟩)) rfl (by kernel_rfl) (by kernel_rfl) (by kernel_rfl) (fun _ _ _ h=>h) (Or.inl ⟨by rfl,fun W hW=>by first | rfl | (go_simp;done) | (go_simp;rfl)⟩) hS0 ?_
 try simp only [Act.put,List.setIfInBounds_toArray,List.set_cons_zero,List.set_cons_succ]
 refine wpAnyH_take (i:=2) (oi:=_) (v:=.pointer (some ⟨p.B,0,none⟩)) rfl (by kernel_rfl) (by kernel_rfl) (by kernel_rfl) (fun _ _ _ h=>h) (Or.inl ⟨by rfl,fun W hW=>by first | rfl | (go_simp;done) | (go_simp;rfl)⟩) hS0 ?_
 try simp only [Act.put,List.setIfInBounds_toArray,List.set_cons_zero,List.set_cons_succ]
 refine wpAnyH_take (i:=3) (oi:=_) (v:=.pointer (some ⟨p.B,2,none⟩)) rfl (by kernel_rfl) (by kernel_rfl) (by kernel_rfl) (fun _ _ _ h=>h) (Or.inl ⟨by rfl,fun W hW=>by first | rfl | (go_simp;done) | (go_simp;rfl)⟩) hS0 ?_
 try simp only [Act.put,List.setIfInBounds_toArray,List.set_cons_zero,List.set_cons_succ]
 have hlo3:p.lo≤(W3.drew.alloc (.cells (wrV ⟨i,d.bit,padD s⟩).toArray 86)).heap.size:=by
  have h1:=HD1.out.lo1;show p.lo≤(W3.heap.push _).size;rw [Array.size_push];omega
 have c2':W3.drew.cell? ⟨p.B,2,none⟩=some p.wv:=c2;have c2'':∀ o,(W3.alloc o).cell? ⟨p.B,2,none⟩=some p.wv:=fun o=>by rw [World.cell?_alloc_lt _ _ _ (by show p.B<W3.heap.size;omega)];exact c2
 refine wpAnyH_ready (rs:=[4,6]) (by kernel_rfl) (by simp) ?_;refine AllReadyH.cons rfl (fun K hK=>?_) (AllReadyH.cons rfl (fun K hK=>?_) AllReadyH.nil)
 · rw [if_pos (by rfl)]
   go_simp
   refine hK.out _ _ hS0 (fun _=>?_)
   try simp only [Act.put,List.setIfInBounds_toArray,List.set_cons_zero,List.set_cons_succ]
   refine wpAnyH_ready (rs:=[6]) (by kernel_rfl) (by simp) ?_;refine AllReadyH.cons rfl (fun K hK=>?_) AllReadyH.nil;rw [if_pos (by rfl)];refine zdY _ rfl (wrV ⟨i,d.bit,padD s⟩).toArray (by rw [List.size_toArray,hwv]) rfl ?_;refine hK.out _ _ (World.rangeAt_alloc HRG.out _) (fun hS1=>?_)
   try simp only [Act.put,List.setIfInBounds_toArray,List.set_cons_zero,List.set_cons_succ]
   obtain ⟨i0,hif,hz0,hz1,hz2⟩:=info_parts Tryz.infoWrite
   have hbC:(W3.drew.alloc (.cells (wrV ⟨i,d.bit,padD s⟩).toArray 86)).heap[W3.heap.size]?=some (.cells (wrV ⟨i,d.bit,padD s⟩).toArray 86 (0,0)):=by
    show (W3.heap.push _)[W3.heap.size]?=_;simp
   refine wpAnyH_ready (rs:=[7]) (by kernel_rfl) (by simp) ?_;refine AllReadyH.cons rfl (fun K hK=>?_) AllReadyH.nil;rw [if_pos (by rfl)]
   refine zcr _ _ _ rfl p.lo 86 i0 _ 42 56 (by kernel_rfl) hif hz0 hz1 hz2 (zb3 0 0) (by decide) p.wv (zaK d).wr.length (zgL (zaK d).wr) rfl (World.ownsRow.alloc (w:=W3.drew) HD3.out.wr _) ⟨W3.heap.size,0,none⟩ 1 1 (wrV ⟨i,d.bit,padD s⟩) (by first | rfl | (simp [Act.eval];done)) (by rw [hwv]) (by
    intro j u hu;rw [Addr.add_mid,Nat.zero_add];exact (zaa hbC j).trans ((List.getElem?_toArray).trans hu)) (by
    intro u hu;simp only [wrV,List.mem_cons] at hu;rcases hu with rfl | rfl | hu
    · rfl
    · rfl
    · exact h1b u hu) (by rw [hrest.2.2.1];unfold maxLen;omega) (by rw [hrest.2.2.1];omega) hlo3 ?_
   intro v' w' hown' hgrow hnew
   have HNEW:Hid (zbw p w v'):=fun k hk=>by
    rcases hnew k hk with h1 | h1
    · exact .inl h1
    · refine .inr (Nat.le_trans (Nat.le_trans HN3.out.size ?_) h1)
      show W3.heap.size≤(W3.heap.push _).size;simp
   clear hnew
   obtain ⟨va,vc,rfl⟩:∃ a c,v'=.slice a (d.wr.length+1) c:=by
    rcases hown'.2 with ⟨_,h0'⟩ | ⟨g,cap,cur,e,_⟩
    · omega
    · exact ⟨_,_,by rw [← hrest.2.2.1];exact e⟩
   have hnote:=HD3.out.note (w4:=W3.drew.alloc (.cells (wrV ⟨i,d.bit,padD s⟩).toArray 86)) (w5:=w') (x:=⟨i,d.bit,padD s⟩) (v:=.slice va (d.wr.length+1) vc) ⟨rfl,rfl,rfl,by show W3.heap.size≤(W3.drew.alloc _).heap.size;simp,fun k hk=>Below.heap_alloc W3 _ k hk⟩ hgrow hown' ⟨h40,by simpa using hil,by rw [← hrest.2.2.2];exact HD3.out.bits⟩;have HNO:Hid _:=hnote;obtain ⟨e2,ef2⟩:=hnote.2.2
   have hXw:p.wv.ownBlock≠some w1.heap.size:=fun e=>by
    have:=(HD1.out.wr.lt _ e).2;omega
   have r2:w'.rangeAt w1.heap.size 0 (wrV ⟨i,d.bit,padD s⟩):=fun j v hv=>hgrow.cell (hS1 j v hv) (fun e=>hXw e.symm)
   have r3:(w'.setCell ⟨p.B,2,none⟩ (.slice va (d.wr.length+1) vc)).rangeAt w1.heap.size 0 (wrV ⟨i,d.bit,padD s⟩):=fun j v hv=>by
    rw [World.cell?_of_block (w:=w') (a:=⟨w1.heap.size,0+j,none⟩) (Below.heap_setCell w' ⟨p.B,2,none⟩ (.slice va (d.wr.length+1) vc) w1.heap.size (by show w1.heap.size≠p.B;omega))];exact r2 j v hv
   refine hK.out _ _ r2 (fun hS2=>?_)
   try simp only [Act.put,List.setIfInBounds_toArray,List.set_cons_zero,List.set_cons_succ]
   clear hnote hown' hgrow hbC hif hz0 hz1 hz2 hS1;refine wpAnyH_take (i:=8) (oi:=_) (v:=.pointer (some ⟨p.B,0,none⟩)) rfl (by kernel_rfl) (by kernel_rfl) (by kernel_rfl) (fun _ _ _ h=>h) (Or.inl ⟨by rfl,fun W hW=>by first | rfl | (go_simp;done) | (go_simp;rfl)⟩) hS2 ?_
   try simp only [Act.put,List.setIfInBounds_toArray,List.set_cons_zero,List.set_cons_succ]
   refine wpAnyH_take (i:=9) (oi:=_) (v:=.pointer (some ⟨p.B,2,none⟩)) rfl (by kernel_rfl) (by kernel_rfl) (by kernel_rfl) (fun _ _ _ h=>h) (Or.inl ⟨by rfl,fun W hW=>by first | rfl | (go_simp;done) | (go_simp;rfl)⟩) hS2 ?_
   try simp only [Act.put,List.setIfInBounds_toArray,List.set_cons_zero,List.set_cons_succ]
   refine wpAnyH_ready (rs:=[10]) (by kernel_rfl) (by simp) ?_;refine AllReadyH.cons rfl (fun K hK=>?_) AllReadyH.nil;rw [if_pos (by rfl)]
   go_simp
   refine hK.out _ _ r3 (fun _=>?_);refine wpAnyH_done (by kernel_rfl) ?_ _;have HD5:Hid (zab (w'.setCell ⟨p.B,2,none⟩ (.slice va (d.wr.length+1) vc)) { p with wv:=.slice va (d.wr.length+1) vc } { zaK d with now:=(zaK d).now.set i (padD s),wr:=(zaK d).wr ++ [⟨i,d.bit,padD s⟩] }):=HNO.out.1;have HN5:Hid (Near p w (w'.setCell ⟨p.B,2,none⟩ (.slice va (d.wr.length+1) vc))):=HN3.out.trans HNO.out.2.1;clear HNO r2 r3 hS2 e2 ef2 hXw HRG hS0 hld hsz42 c2' c2'' c0 c1 c2 c3 c4 c5 f2 f3 hK;generalize (w'.setCell ⟨p.B,2,none⟩ (.slice va (d.wr.length+1) vc))=W5 at *;obtain ⟨c0,c1,c2,c3,c4,c5⟩:=HD5.out.cells;have f3:=HD5.out.fr 3;simp only [List.length_set] at c0 c1
   have HVAL:Hid ((wrap64 ((d.bit:Int)+1)).tmod 64=(((d.bit+1) % 64:Nat):Int)):=by
    show _=_;have hbit:=HD5.out.bits;simp only [hrest.2.2.2] at hbit;rw [zk3 _ (by omega) (by omega),zsj]
   go_wp2_with fail
   rw [HVAL.out]
   have HD6:Hid (zab (W5.setCell ⟨p.B,3,none⟩ (.int .i64 (((d.bit+1) % 64:Nat):Int))) { p with wv:=.slice va (d.wr.length+1) vc } (zaN d (i:Int) s)):=by
    show zab _ _ _;rw [HWD.out];exact (HD5.out.put (i:=3) (v:=.int .i64 (((d.bit+1) % 64:Nat):Int)) (d':={ zaK d with now:=(zaK d).now.set i (padD s),wr:=(zaK d).wr ++ [⟨i,d.bit,padD s⟩],bit:=(d.bit+1) % 64 }) ⟨rfl,rfl,rfl⟩ rfl (Nat.mod_lt _ (by decide)) HD5.out.low).1
   have HN6:Hid (Near p w (W5.setCell ⟨p.B,3,none⟩ (.int .i64 (((d.bit+1) % 64:Nat):Int)))):=HN5.out.trans ⟨rfl,rfl,rfl,by simp,fun k _ h1 _ _ _=>Below.heap_setCell W5 ⟨p.B,3,none⟩ _ k h1⟩
   have e0:(W5.setCell ⟨p.B,3,none⟩ (.int .i64 (((d.bit+1) % 64:Nat):Int))).cell? ⟨p.B,0,none⟩=some (.slice (some ⟨p.gn,0,none⟩) d.now.length d.now.length):=by
    have:=HD6.out.cells.1;rw [HWD.out] at this
    simpa [hrest.1] using this
   have e2:(W5.setCell ⟨p.B,3,none⟩ (.int .i64 (((d.bit+1) % 64:Nat):Int))).cell? ⟨p.B,2,none⟩=some (.slice va (d.wr.length+1) vc):=HD6.out.cells.2.2.1;clear HVAL HD5 HN5 c0 c1 c2 c3 c4 c5 f3;generalize (W5.setCell ⟨p.B,3,none⟩ (.int .i64 (((d.bit+1) % 64:Nat):Int)))=W6 at *;have hn1:1≤d.now.length:=by omega
   have hn2:d.now.length≤60:=by rw [← hrest.1];exact h60
   go_quiet (fail)
   go_wp2;go_ret;exact ⟨rfl,_,HD6.out.heap rfl,HN6.out.trans ⟨rfl,rfl,rfl,Nat.le_refl _,fun _ _ _ _ _ _=>rfl⟩,HNEW.out⟩
 · rw [if_pos (by rfl)]
   refine zdY _ rfl (wrV ⟨i,d.bit,padD s⟩).toArray (by rw [List.size_toArray,hwv]) rfl ?_;refine hK.out _ _ (World.rangeAt_alloc HRG.out _) (fun hS1=>?_)
   try simp only [Act.put,List.setIfInBounds_toArray,List.set_cons_zero,List.set_cons_succ]
   refine wpAnyH_ready (rs:=[4]) (by kernel_rfl) (by simp) ?_;refine AllReadyH.cons rfl (fun K hK=>?_) AllReadyH.nil;rw [if_pos (by rfl)]
   go_simp
   refine hK.out _ _ hS1 (fun _=>?_)
   try simp only [Act.put,List.setIfInBounds_toArray,List.set_cons_zero,List.set_cons_succ]
   obtain ⟨i0,hif,hz0,hz1,hz2⟩:=info_parts Tryz.infoWrite
   have hbC:(W3.drew.alloc (.cells (wrV ⟨i,d.bit,padD s⟩).toArray 86)).heap[W3.heap.size]?=some (.cells (wrV ⟨i,d.bit,padD s⟩).toArray 86 (0,0)):=by
    show (W3.heap.push _)[W3.heap.size]?=_;simp
   refine wpAnyH_ready (rs:=[7]) (by kernel_rfl) (by simp) ?_;refine AllReadyH.cons rfl (fun K hK=>?_) AllReadyH.nil;rw [if_pos (by rfl)]
   refine zcr _ _ _ rfl p.lo 86 i0 _ 42 56 (by kernel_rfl) hif hz0 hz1 hz2 (zb3 0 0) (by decide) p.wv (zaK d).wr.length (zgL (zaK d).wr) rfl (World.ownsRow.alloc (w:=W3.drew) HD3.out.wr _) ⟨W3.heap.size,0,none⟩ 1 1 (wrV ⟨i,d.bit,padD s⟩) (by first | rfl | (simp [Act.eval];done)) (by rw [hwv]) (by
    intro j u hu;rw [Addr.add_mid,Nat.zero_add];exact (zaa hbC j).trans ((List.getElem?_toArray).trans hu)) (by
    intro u hu;simp only [wrV,List.mem_cons] at hu;rcases hu with rfl | rfl | hu
    · rfl
    · rfl
    · exact h1b u hu) (by rw [hrest.2.2.1];unfold maxLen;omega) (by rw [hrest.2.2.1];omega) hlo3 ?_
   intro v' w' hown' hgrow hnew
   have HNEW:Hid (zbw p w v'):=fun k hk=>by
    rcases hnew k hk with h1 | h1
    · exact .inl h1
    · refine .inr (Nat.le_trans (Nat.le_trans HN3.out.size ?_) h1)
      show W3.heap.size≤(W3.heap.push _).size;simp
   clear hnew
   obtain ⟨va,vc,rfl⟩:∃ a c,v'=.slice a (d.wr.length+1) c:=by
    rcases hown'.2 with ⟨_,h0'⟩ | ⟨g,cap,cur,e,_⟩
    · omega
    · exact ⟨_,_,by rw [← hrest.2.2.1];exact e⟩
   have hnote:=HD3.out.note (w4:=W3.drew.alloc (.cells (wrV ⟨i,d.bit,padD s⟩).toArray 86)) (w5:=w') (x:=⟨i,d.bit,padD s⟩) (v:=.slice va (d.wr.length+1) vc) ⟨rfl,rfl,rfl,by show W3.heap.size≤(W3.drew.alloc _).heap.size;simp,fun k hk=>Below.heap_alloc W3 _ k hk⟩ hgrow hown' ⟨h40,by simpa using hil,by rw [← hrest.2.2.2];exact HD3.out.bits⟩;have HNO:Hid _:=hnote;obtain ⟨e2,ef2⟩:=hnote.2.2
   have hXw:p.wv.ownBlock≠some w1.heap.size:=fun e=>by
    have:=(HD1.out.wr.lt _ e).2;omega
   have r2:w'.rangeAt w1.heap.size 0 (wrV ⟨i,d.bit,padD s⟩):=fun j v hv=>hgrow.cell (hS1 j v hv) (fun e=>hXw e.symm)
   have r3:(w'.setCell ⟨p.B,2,none⟩ (.slice va (d.wr.length+1) vc)).rangeAt w1.heap.size 0 (wrV ⟨i,d.bit,padD s⟩):=fun j v hv=>by
    rw [World.cell?_of_block (w:=w') (a:=⟨w1.heap.size,0+j,none⟩) (Below.heap_setCell w' ⟨p.B,2,none⟩ (.slice va (d.wr.length+1) vc) w1.heap.size (by show w1.heap.size≠p.B;omega))];exact r2 j v hv
   refine hK.out _ _ r2 (fun hS2=>?_)
   try simp only [Act.put,List.setIfInBounds_toArray,List.set_cons_zero,List.set_cons_succ]
   clear hnote hown' hgrow hbC hif hz0 hz1 hz2 hS1;refine wpAnyH_take (i:=8) (oi:=_) (v:=.pointer (some ⟨p.B,0,none⟩)) rfl (by kernel_rfl) (by kernel_rfl) (by kernel_rfl) (fun _ _ _ h=>h) (Or.inl ⟨by rfl,fun W hW=>by first | rfl | (go_simp;done) | (go_simp;rfl)⟩) hS2 ?_
   try simp only [Act.put,List.setIfInBounds_toArray,List.set_cons_zero,List.set_cons_succ]
   refine wpAnyH_take (i:=9) (oi:=_) (v:=.pointer (some ⟨p.B,2,none⟩)) rfl (by kernel_rfl) (by kernel_rfl) (by kernel_rfl) (fun _ _ _ h=>h) (Or.inl ⟨by rfl,fun W hW=>by first | rfl | (go_simp;done) | (go_simp;rfl)⟩) hS2 ?_
   try simp only [Act.put,List.setIfInBounds_toArray,List.set_cons_zero,List.set_cons_succ]
   refine wpAnyH_ready (rs:=[10]) (by kernel_rfl) (by simp) ?_;refine AllReadyH.cons rfl (fun K hK=>?_) AllReadyH.nil;rw [if_pos (by rfl)]
   go_simp
   refine hK.out _ _ r3 (fun _=>?_);refine wpAnyH_done (by kernel_rfl) ?_ _;have HD5:Hid (zab (w'.setCell ⟨p.B,2,none⟩ (.slice va (d.wr.length+1) vc)) { p with wv:=.slice va (d.wr.length+1) vc } { zaK d with now:=(zaK d).now.set i (padD s),wr:=(zaK d).wr ++ [⟨i,d.bit,padD s⟩] }):=HNO.out.1;have HN5:Hid (Near p w (w'.setCell ⟨p.B,2,none⟩ (.slice va (d.wr.length+1) vc))):=HN3.out.trans HNO.out.2.1;clear HNO r2 r3 hS2 e2 ef2 hXw HRG hS0 hld hsz42 c2' c2'' c0 c1 c2 c3 c4 c5 f2 f3 hK;generalize (w'.setCell ⟨p.B,2,none⟩ (.slice va (d.wr.length+1) vc))=W5 at *;obtain ⟨c0,c1,c2,c3,c4,c5⟩:=HD5.out.cells;have f3:=HD5.out.fr 3;simp only [List.length_set] at c0 c1
   have HVAL:Hid ((wrap64 ((d.bit:Int)+1)).tmod 64=(((d.bit+1) % 64:Nat):Int)):=by
    show _=_;have hbit:=HD5.out.bits;simp only [hrest.2.2.2] at hbit;rw [zk3 _ (by omega) (by omega),zsj]
   go_wp2_with fail
   rw [HVAL.out]
   have HD6:Hid (zab (W5.setCell ⟨p.B,3,none⟩ (.int .i64 (((d.bit+1) % 64:Nat):Int))) { p with wv:=.slice va (d.wr.length+1) vc } (zaN d (i:Int) s)):=by
    show zab _ _ _;rw [HWD.out];exact (HD5.out.put (i:=3) (v:=.int .i64 (((d.bit+1) % 64:Nat):Int)) (d':={ zaK d with now:=(zaK d).now.set i (padD s),wr:=(zaK d).wr ++ [⟨i,d.bit,padD s⟩],bit:=(d.bit+1) % 64 }) ⟨rfl,rfl,rfl⟩ rfl (Nat.mod_lt _ (by decide)) HD5.out.low).1
   have HN6:Hid (Near p w (W5.setCell ⟨p.B,3,none⟩ (.int .i64 (((d.bit+1) % 64:Nat):Int)))):=HN5.out.trans ⟨rfl,rfl,rfl,by simp,fun k _ h1 _ _ _=>Below.heap_setCell W5 ⟨p.B,3,none⟩ _ k h1⟩
   have e0:(W5.setCell ⟨p.B,3,none⟩ (.int .i64 (((d.bit+1) % 64:Nat):Int))).cell? ⟨p.B,0,none⟩=some (.slice (some ⟨p.gn,0,none⟩) d.now.length d.now.length):=by
    have:=HD6.out.cells.1;rw [HWD.out] at this
    simpa [hrest.1] using this
   have e2:(W5.setCell ⟨p.B,3,none⟩ (.int .i64 (((d.bit+1) % 64:Nat):Int))).cell? ⟨p.B,2,none⟩=some (.slice va (d.wr.length+1) vc):=HD6.out.cells.2.2.1;clear HVAL HD5 HN5 c0 c1 c2 c3 c4 c5 f3;generalize (W5.setCell ⟨p.B,3,none⟩ (.int .i64 (((d.bit+1) % 64:Nat):Int)))=W6 at *;have hn1:1≤d.now.length:=by omega
   have hn2:d.now.length≤60:=by rw [← hrest.1];exact h60
   go_quiet (fail)
   go_wp2;go_ret;exact ⟨rfl,_,HD6.out.heap rfl,HN6.out.trans ⟨rfl,rfl,rfl,Nat.le_refl _,fun _ _ _ _ _ _=>rfl⟩,HNEW.out⟩
theorem zdI (p : Dp) (d : Dk) (k:Int) (s:ByteArray) (w:World) (h:zab w p d) (hs:s.size≤maxLen) (hfew:d.wr.length<120) :
 Calls Tryz.prog 28 #[.pointer (some ⟨p.B,0,none⟩),.int .i64 k,.string s] w fun e w'=>e=.returned (errV (zcd d k s))∧∃ v,zab w' { p with wv:=v } (zaN d k s)∧Near p w w'∧zbw p w v:=by
 unfold maxLen at hs
 by_cases hbad:¬ (0≤k∧k<(d.now.length:Int))∨40<s.size
 · have e1:zcd d k s=1:=by unfold zcd;rw [if_pos hbad]
   have e2:zaN d k s=d:=by unfold zaN;rw [if_pos hbad]
   rw [e1,e2,zak (by decide)];have HD:Hid (zab w p d):=h;clear h e1 e2
   by_cases hk:0≤k∧k<(d.now.length:Int)
   · have hs40 : 40 < s.size := by rcases hbad with hb | hb;· exact absurd hk hb
                                   · exact hb
     have hb:(decide ((0:Int)≤k) && decide (k<(d.now.length:Int)))=true:=by simp;omega
     clear hbad hk
     go_enter Tryz.func28,Tryz.ntmps28
     go_wp2_with (go_at_call 53;refine (zh4 p d k w HD.out).mono ?_;rintro e w' ⟨rfl,hw⟩;rw [hw,hb];clear hw w')
     go_ret;exact ⟨rfl,p.wv,HD.out,Near.refl p w,fun k hk=>.inl hk⟩
   · have hb:(decide ((0:Int)≤k) && decide (k<(d.now.length:Int)))=false:=by
      rw [Bool.eq_false_iff];intro e;simp at e;exact hk e
     clear hbad hk
     go_enter Tryz.func28,Tryz.ntmps28
     go_wp2_with (go_at_call 53;refine (zh4 p d k w HD.out).mono ?_;rintro e w' ⟨rfl,hw⟩;rw [hw,hb];clear hw w')
     go_ret;exact ⟨rfl,p.wv,HD.out,Near.refl p w,fun k hk=>.inl hk⟩
 · have e1:zcd d k s=zb1 d:=by unfold zcd;rw [if_neg hbad]
   have hk:0≤k∧k<(d.now.length:Int):=Classical.not_not.1 (fun hx=>hbad (.inl hx));have hs40:s.size≤40:=Nat.le_of_not_lt (fun hx=>hbad (.inr hx));rcases zjs d with h0 | h0
   · obtain ⟨i,rfl⟩:∃ i:Nat,k=i:=⟨k.toNat,by omega⟩
     rw [e1,h0,zac rfl];exact zqO p d i s w h (by omega) hs40 h0 hfew
   · have e2:zaN d k s=zaK d:=by unfold zaN;rw [if_neg hbad,if_neg (by omega)]
     rw [e1,e2,h0,zak (by decide)];have HD:Hid (zab w p d):=h;have HS:=ziQ p d w h;rw [h0] at HS;have HS':Hid (Calls Tryz.prog 54 _ w _):=HS;have hb:(decide ((0:Int)≤k) && decide (k<(d.now.length:Int)))=true:=by simp;omega
     clear HS h e1 e2 hbad
     go_enter Tryz.func28,Tryz.ntmps28
     go_wp2_with (go_at_call 53;refine (zh4 p d k w HD.out).mono ?_;rintro e w' ⟨rfl,hw⟩;rw [hw,hb];clear hw w')
     refine HS'.out.mono ?_;rintro e w1 ⟨rfl,hd1,hn1⟩;rw [zak (by decide)];have HD1:Hid (zab w1 p (zaK d)):=hd1;have HN1:Hid (Near p w w1):=hn1;clear hd1 hn1;go_wp2;go_ret;exact ⟨rfl,p.wv,HD1.out,HN1.out,fun k hk=>.inl hk⟩
def zjR (keep:Nat)(b:Nat):Bool:=(keep / 2 ^ b) % 2 == 1
def zcs (keep:Nat):List Wr→List (List UInt8)→List (List UInt8)
 | [],k=>k
 | x :: l,k=>zcs keep l (if zjR keep x.bit=true then k.set x.spot x.data else k)
def zej (d:Dk)(keep:Nat):Dk:=⟨zcs keep d.wr d.kept,zcs keep d.wr d.kept,[],0,-1,false⟩
theorem ziD {ops:Array Oper}{rest:List Oper}{o:Oper}{a:Act}(hgd:o.guard=none)(x y:Operand)(ho:o.op=.store 86 x y)(L:List Value)(hL:L.length=42)(h1:∀ v ∈ L,v.oneCell'=true)
 (hx:a.eval x=.pointer (some ⟨w.heap.size,0,none⟩)) (hy:a.eval y=.agg L.toArray)
 (h:wpList Tryz.prog ops Q rest (a.put o.dst undef) (w.alloc (.cells L.toArray 86))):wpList Tryz.prog ops Q (o :: rest) a (w.alloc (.cells (zc1 0 0) 86)):=by
 have e42:L.toArray.size=42:=by simp [hL]
 have ht:(w.alloc (.cells (zc1 0 0) 86)).there w.heap.size 0 L.toArray.size:=e42.symm ▸ zms w _ _ 42 (zb3 0 0);refine wpList_store_mid hgd 86 x y ho w.heap.size 0 L.toArray hx hy ht (by rw [List.size_toArray,hL];exact Tryz.sizeWrite) (all_oneCell_toArray h1) ?_;rw [List.toList_toArray,zgD w _ _ _ (by rw [zb3,hL])];exact h
theorem zt4 (x:Wr):∀ v ∈ wrV x,v.oneCell'=true:=by
 intro v hv;simp only [wrV,List.mem_cons] at hv;rcases hv with rfl | rfl | hv
 · rfl
 · rfl
 · simp only [zaI,List.mem_map] at hv
   obtain ⟨c,_,rfl⟩:=hv
   rfl
theorem zpz:∀ {l:List Wr},(∀ x ∈ l,x.data.length=40)→∀ (i:Nat) (hi:i<l.length) (j:Nat) (v:Value),(wrV l[i])[j]?=some v→(zgL l)[i * 42+j]?=some v
 | x :: l,h,0,hi,j,v,hv=>by
   simp only [zgL,Nat.zero_mul,Nat.zero_add];simp only [List.getElem_cons_zero] at hv;rw [List.getElem?_append_left ((List.getElem?_eq_some_iff.1 hv).1)];exact hv
 | x :: l,h,i+1,hi,j,v,hv=>by
   have h2:=h x (by simp);have hw:(wrV x).length=42:=by simp [wrV,zaR,h2]
   have:=zpz (l:=l) (fun y hy=>h y (List.mem_cons_of_mem _ hy)) i (by simpa using hi) j v (by simpa using hv);simp only [zgL];rw [List.getElem?_append_right (by rw [hw];omega),hw,← this]
   congr 1
   omega
theorem zab.layKept (h:zab w p d)(hi:i<d.now.length)(hx:x.length=40):zab (w.setCells p.gk (i * 40) (zaI x)) p { d with kept:=d.kept.set i x }∧Near p w (w.setCells p.gk (i * 40) (zaI x)):=by
 have hk:∀ k,k≠p.gk→(w.setCells p.gk (i * 40) (zaI x)).heap[k]?=w.heap[k]?:=fun k hk=>zcq p.gk _ _ w k hk
 have hr:=zfa p.gk (zaI x) (i * 40) w;have hi':i<d.kept.length:=by rw [h.lens];exact hi
 have hlen:(zbr (d.kept.take i)).length=i * 40:=by
  rw [zbX (fun s hs=>h.skept s (List.mem_of_mem_take hs)),List.length_take,Nat.min_eq_left (by omega)]
 refine ⟨⟨?_,?_,?_,h.snow,?_,by simpa using h.lens,h.few,?_,h.swr,h.bits,h.low,h.ne1,h.ne2,h.ne3,h.ne4,h.ne5,h.ne6,h.lo1,h.lo2,h.lo3,h.idle⟩,⟨hr.1,hr.2.1,hr.2.2,by rw [zdF];exact Nat.le_refl _,fun k _ _ _ h3 _=>hk k h3⟩⟩
 · rw [hk _ h.ne2]
   exact h.blk
 · rw [hk _ h.ne3];exact h.now
 · have hn:=h.kept
   rw [zjc hi'] at hn;have:=zfb p.gk _ _ (zaI x) (zbr (d.kept.take i)) (zaI d.kept[i]) (zbr (d.kept.drop (i+1))) w (by rw [zaR,zaR,hx,h.skept _ (List.getElem_mem hi')]) hn;rw [hlen] at this
   rw [this,znN hi']
 · intro y hy
   rcases List.mem_or_eq_of_mem_set hy with h1 | h1
   · exact h.skept y h1
   · rw [h1];exact hx
 · exact zaj h.wr (fun g hg=>hk g (fun e=>h.ne6 (by rw [hg,e])))
theorem zab.more (h:zab w p d)(hfar:∀ k,k<w.heap.size→W.heap[k]?=w.heap[k]?):zab W p d :=
 ⟨by rw [hfar _ (Array.getElem?_eq_some_iff.1 h.blk).1];exact h.blk,by rw [hfar _ (Array.getElem?_eq_some_iff.1 h.now).1];exact h.now,by rw [hfar _ (Array.getElem?_eq_some_iff.1 h.kept).1];exact h.kept,h.snow,h.skept,h.lens,h.few,zaj h.wr (fun g hg=>hfar g (h.wr.lt g hg).2),h.swr,h.bits,h.low,h.ne1,h.ne2,h.ne3,h.ne4,h.ne5,h.ne6,h.lo1,h.lo2,h.lo3,h.idle⟩
theorem zkS (p:Dp)(w:World)(o:Obj):Near p w (w.alloc o):=⟨rfl,rfl,rfl,by simp,fun k hk _ _ _ _=>Below.heap_alloc w o k hk⟩
theorem zi2 {l:List Wr}(hlt:k<l.length)(K:List (List UInt8)):zcs keep (l.drop k) K=zcs keep (l.drop (k+1)) (if zjR keep l[k].bit=true then K.set l[k].spot l[k].data else K):=by
 rw [List.drop_eq_getElem_cons hlt];rfl
theorem zsC (hk:keep<18446744073709551616):(bits BinOp.and IntKind.u64 ((keep:Int) / 2 ^ b) 1 == 1)=zjR keep b:=by
 have h0:(0:Int)≤(keep:Int) / 2 ^ b:=Int.ediv_nonneg (by omega) (Int.le_of_lt (Int.pow_pos (by decide)));have e:(keep:Int) / 2 ^ b=((keep / 2 ^ b:Nat):Int):=by push_cast;rfl
 have h1:keep / 2 ^ b≤keep:=Nat.div_le_self _ _;rw [and_one_u64 _ h0 (by rw [e];omega),e];unfold zjR;rw [Bool.eq_iff_iff,beq_iff_eq,beq_iff_eq];omega
theorem zi7 (p:Dp) (d:Dk) (keep:Nat) (w:World) (h:zab w p d) (hk:keep<18446744073709551616) (hl:d.wr.length≤1000000) :
 Calls Tryz.prog 13 #[.pointer (some ⟨p.B,0,none⟩),.int .u64 keep] w fun e w'=>e=.returned (.tuple #[])∧zab w' { p with wv:=.slice none 0 0 } (zej d keep)∧Near p w w':=by
 have HD:Hid (zab w p d):=h
 obtain ⟨va,vc,hv⟩:∃ a c,p.wv=.slice a d.wr.length c:=by
  rcases h.wr.2 with ⟨e,h0⟩ | ⟨g,cap,cur,e,_⟩
  · exact ⟨none,0,by rw [e,h0]⟩
  · exact ⟨_,_,e⟩
 obtain ⟨c0,c1,c2,c3,c4,c5⟩:=h.cells;rw [hv] at c2;have HL:Hid (d.wr.length≤1000000):=hl;clear h hl
 go_enter Tryz.func13,Tryz.ntmps13
 go_wp2_with fail
 go_loopw [11] (fun i wr=>∃ (k:Nat) (K:List (List UInt8)),k≤d.wr.length∧i=.int .i64 k∧zab wr p { d with kept:=K }∧zcs keep (d.wr.drop k) K=zcs keep d.wr d.kept∧Near p w wr) (fun i _=>d.wr.length - (intOf i).toNat)
 case atStart=>exact ⟨0,d.kept,Nat.zero_le _,rfl,HD.out,rfl,Near.refl _ _⟩
 case round =>
  obtain ⟨k,K,hkk,rfl,hdk,hfold,hb⟩:=hrel;have HDK:Hid (zab wr p { d with kept:=K }):=hdk;have HB:Hid (Near p w wr):=hb;have HF:Hid (zcs keep (d.wr.drop k) K=zcs keep d.wr d.kept):=hfold;clear hdk hfold hb c0 c1 c2 c3 c4 c5;obtain ⟨c0,c1,c2,c3,c4,c5⟩:=HDK.out.cells
  by_cases hlt:k<d.wr.length
  · have hsw:=HDK.out.swr d.wr[k] (List.getElem_mem hlt)
    have hall:∀ x ∈ d.wr,x.data.length=40:=fun x hx=>(HDK.out.swr x hx).1
    have hown:=HDK.out.wr
    obtain ⟨g,rfl⟩:∃ g,va=some ⟨g,0,none⟩:=by
     rcases hown.2 with ⟨_,h0⟩ | ⟨g,cap,cur,e,_⟩
     · have h0':d.wr.length=0:=h0
       omega
     · rw [hv] at e;cases e;exact ⟨g,rfl⟩
    rw [hv] at hown c2
    have hrg:wr.rangeAt g (k * 42) (wrV d.wr[k]):=by
     intro j v hj
     have hjl:j<42:=by
      have:=(List.getElem?_eq_some_iff.1 hj).1;simp [wrV,zaR,hsw.1] at this
      omega
     rw [hown.cellAt (k * 42+j) (by show k * 42+j<d.wr.length * 42;omega)];exact zpz hall k hlt j v hj
    have hw42:(wrV d.wr[k]).length=42:=by simp [wrV,zaR,hsw.1]
    obtain ⟨fs,hfs⟩:∃ fs,Tryz.prog.underlying 86=some (.struct fs):=⟨_,Tryz.underlying86⟩
    have HW1:=zt4 d.wr[k];have hbig:d.wr.length≤1000000:=HL.out;generalize hx:d.wr[k]=x at *;have hw1:∀ h,(wrV x)[1]'h=.int .i64 x.bit:=fun _=>rfl
    have hw0:∀ h,(wrV x)[0]'h=.int .i64 x.spot:=fun _=>rfl
    have hbit:=hsw.2.2
    go_wp2_with (first
     | refine wpList_load_mid rfl 86 _ rfl g (k * 42) rfl (wrV x) (.struct fs) hrg hfs rfl (by rw [hw42];exact Tryz.sizeWrite) ?_
     | refine zem rfl rfl ?_
     | refine ziD rfl _ _ rfl (wrV x) hw42 HW1 rfl rfl ?_)
    · rename_i hyes
      have hbs:zjR keep x.bit=true:=by rw [← zsC hk];exact hyes
      clear hyes;have hX:p.B<wr.heap.size∧p.gn<wr.heap.size∧p.gk<wr.heap.size:=⟨(Array.getElem?_eq_some_iff.1 HDK.out.blk).1,(Array.getElem?_eq_some_iff.1 HDK.out.now).1,(Array.getElem?_eq_some_iff.1 HDK.out.kept).1⟩;obtain ⟨W2,hW2⟩:∃ W2,W2=wr.alloc (.cells (wrV x).toArray 86):=⟨_,rfl⟩
      have HBL:W2.heap[wr.heap.size]?=some (.cells (wrV x).toArray 86 (0,0)):=by
       rw [hW2];show (wr.heap.push _)[wr.heap.size]?=_;simp
      have hd2:zab W2 p { d with kept:=K }:=HDK.out.more (fun j hj=>by rw [hW2];exact Below.heap_alloc wr _ j hj)
      have hb2:Near p w W2:=by
       rw [hW2];exact HB.out.trans (zkS p wr _)
      have HD2:Hid (zab W2 p { d with kept:=K }):=hd2;have HB2:Hid (Near p w W2):=hb2;rw [← hW2];clear hW2 hb2 hd2 c0 c1 c2 c3 c4 c5 hw1 hw0 hrg HDK hown;have h40:=hsw.1;have hil:x.spot<d.now.length:=hsw.2.1;obtain ⟨c0,c1,c2,c3,c4,c5⟩:=HD2.out.cells;have hun:Tryz.prog.underlying 84=some (.array 40 5):=by kernel_rfl
      have hlb:(zaI x.data).length=40:=by rw [zaR,h40]
      have hin:(Tryz.prog.info? 84).map (·.size)=some (zaI x.data).length:=by rw [hlb];exact Tryz.sizeSector
      have h1b:∀ v ∈ zaI x.data,v.oneCell'=true:=by
       intro v hv;simp only [zaI,List.mem_map] at hv;obtain ⟨c,_,rfl⟩:=hv
       rfl
      have hrg:W2.rangeAt wr.heap.size 2 (zaI x.data):=by
       intro j v hv;rw [zaa HBL];rw [List.getElem?_toArray,wrV,show 2+j=j+1+1 by omega,List.getElem?_cons_succ,List.getElem?_cons_succ];exact hv
      have hx0:W2.cell? ⟨wr.heap.size,0,none⟩=some (.int .i64 x.spot):=by
       rw [zaa HBL,List.getElem?_toArray,wrV]
       rfl
      have hth:W2.there p.gk (x.spot * 40) 40:=by
       intro j hj;rw [zaa HD2.out.kept,zaE HD2.out.kept];have h5:=zbX HD2.out.skept;have h6:K.length=d.now.length:=HD2.out.lens;have h7:(zbr K).length=K.length * 40:=h5;simp;omega
      have hne1:p.B≠p.gk:=HD2.out.ne2;have hneX:wr.heap.size≠p.gk:=by omega
      have h60:d.now.length≤60:=HD2.out.few;have c1':W2.cell? ⟨p.B,1,none⟩=some (.slice (some ⟨p.gk,0,none⟩) d.now.length d.now.length):=c1;have k0:(fun W:World=>W.cell? ⟨p.B,1,none⟩=some (.slice (some ⟨p.gk,0,none⟩) d.now.length d.now.length)∧W.cell? ⟨wr.heap.size,0,none⟩=some (.int .i64 x.spot)∧W.rangeAt wr.heap.size 2 (zaI x.data)∧W.there p.gk (x.spot * 40) 40) W2.drew:=⟨c1',hx0,hrg,hth⟩;have k1:(fun W:World=>W.cell? ⟨p.B,1,none⟩=some (.slice (some ⟨p.gk,0,none⟩) d.now.length d.now.length)∧W.cell? ⟨wr.heap.size,0,none⟩=some (.int .i64 x.spot)∧W.rangeAt wr.heap.size 2 (zaI x.data)∧W.there p.gk (x.spot * 40) 40) (W2.drew.setCells p.gk (x.spot * 40) (zaI x.data)):=⟨by rw [World.cell?_setCells_out _ _ _ _ _ (fun e _=>absurd e hne1)];exact c1',by rw [World.cell?_setCells_out _ _ _ _ _ (fun e _=>absurd e hneX)];exact hx0,World.rangeAt_setCells_apart (w:=W2.drew) hrg _ _ _ (.inl hneX),World.there_setCells (w:=W2.drew) hth _ _ _⟩;have K0:Hid _:=k0;have K1:Hid _:=k1;clear k0 k1 c0 c1 c2 c3 c4 c5
      go_region_held3 (fun W:World=>W.cell? ⟨p.B,1,none⟩=some (.slice (some ⟨p.gk,0,none⟩) d.now.length d.now.length)∧W.cell? ⟨wr.heap.size,0,none⟩=some (.int .i64 x.spot)∧W.rangeAt wr.heap.size 2 (zaI x.data)∧W.there p.gk (x.spot * 40) 40) (first | exact K0.out | exact K1.out) (fail)
      have hlay:=(HD2.out.heap (w':=W2.drew) rfl).layKept hil h40
      go_wp2_with fail
      refine ⟨⟨k+1,K.set x.spot x.data,hlt,rfl,hlay.1,?_,HB2.out.trans ((Near.drew p W2).trans hlay.2)⟩,?_⟩
      · have hst:=zi2 (keep:=keep) hlt K
        rw [hx,hbs] at hst;rw [← HF.out,hst]
        rfl
      · simp [intOf];omega
    · rename_i hno
      have hbs:zjR keep x.bit=false:=by rw [← zsC hk];exact hno
      have hW:=HDK.out.more (W:=wr.alloc (.cells (wrV x).toArray 86)) (fun j hj=>Below.heap_alloc wr _ j hj);refine ⟨⟨k+1,K,hlt,rfl,hW,?_,HB.out.trans (zkS p wr _)⟩,?_⟩
      · have hst:=zi2 (keep:=keep) hlt K
        rw [hx,hbs] at hst;rw [← HF.out,hst]
        rfl
      · simp [intOf];omega
  · have hkl:k=d.wr.length:=by omega
    have hK:K=zcs keep d.wr d.kept:=by
     rw [← HF.out,hkl,List.drop_length]
     rfl
    have HD1:Hid (zab wr p { d with kept:=zcs keep d.wr d.kept }):=by rw [← hK];exact HDK.out
    have HLN:Hid ((zcs keep d.wr d.kept).length=d.now.length):=HD1.out.lens;clear hK HDK HF c0 c1 c2 c3 c4 c5;obtain ⟨c0,c1,c2,c3,c4,c5⟩:=HD1.out.cells
    have hcp:∀ (W:World) (ty:TypeId),W.heap=wr.heap→(Builtin.copy_ #[75,75] ty #[.slice (some ⟨p.gn,0,none⟩) d.now.length d.now.length,.slice (some ⟨p.gk,0,none⟩) d.now.length d.now.length]).run Tryz.prog W=.ok (goInt d.now.length) (W.setRow p.gn (zbr (zcs keep d.wr d.kept)).toArray):=fun W ty hW =>
     zfn W p.gn p.gk d.now.length _ (zcs keep d.wr d.kept) HD1.out.skept HLN.out (by rw [hW];exact HD1.out.now) (by rw [List.size_toArray];exact zbX HD1.out.snow) (by rw [hW];exact HD1.out.kept) ty
    have hdr:∀ W:World,W.drew.heap=W.heap:=fun _=>rfl
    go_wp2_with fail
    go_region_with (fail)
    all_goals
     have hk:=(HD1.out.heap (w':=wr.drew) rfl).backAll;have HK:Hid _:=hk;clear hk hcp hdr c0 c1 c2 c3 c4 c5
     go_wp2_with fail
     refine (zj9 p _ _ HK.out.1).mono ?_;rintro e w2 ⟨rfl,hd2,hn2⟩;have HD2:Hid (zab w2 _ _):=hd2;have HB2:Hid (Near p w w2):=HB.out.trans ((Near.drew p wr).trans (HK.out.2.trans hn2));clear hd2 hn2;obtain ⟨c0,c1,c2,c3,c4,c5⟩:=HD2.out.cells;have f4:=HD2.out.fr 4;have f5:=HD2.out.fr 5;have h4:=HD2.out.put (i:=4) (v:=.int .i64 (-1)) (d':=⟨zcs keep d.wr d.kept,zcs keep d.wr d.kept,[],0,-1,d.down⟩) ⟨rfl,rfl,rfl⟩ rfl (Nat.zero_lt_succ _) (show -9223372036854775808≤(-1:Int)∧(-1:Int)≤9223372036854775807 from by decide);have h5:=h4.1.put (i:=5) (v:=.bool false) (d':=zej d keep) ⟨rfl,rfl,rfl⟩ rfl (Nat.zero_lt_succ _) (show -9223372036854775808≤(-1:Int)∧(-1:Int)≤9223372036854775807 from by decide);have HP:Hid (_∧_):=⟨h5.1,HB2.out.trans ((h4.2.trans h5.2).same (fun k e=>by simp [Value.ownBlock] at e))⟩;clear h4 h5
     go_wp2_with fail
     refine bodyPost_end (results_none rfl _ _ _) rfl ?_;exact ⟨rfl,HP.out.1,HP.out.2⟩
end Go.Proofs.YtihnghnafpgdfadGreatDoor
