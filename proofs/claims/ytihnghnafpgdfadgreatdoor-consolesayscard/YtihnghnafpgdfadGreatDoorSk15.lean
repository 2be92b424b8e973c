/- What the proofs stand on, part 15: StoreCut, StoreWhole, StoreLaid, EqualC, StableWalk. -/
import Derived.Sort.LoopGhostIn
import Derived.Shelf.SlSortCmp.KitK
import Derived.Deep.LoopGhost
import Derived.Test.YtihnghnafpgdfadGreatDoorSk09
import Derived.Test.YtihnghnafpgdfadGreatDoorSk13
import Derived.Test.YtihnghnafpgdfadGreatDoorSk12
import Derived.Test.YtihnghnafpgdfadGreatDoorSk07
import Derived.Test.YtihnghnafpgdfadGreatDoorSk06
import Derived.Test.YtihnghnafpgdfadGreatDoorSk05
set_option linter.unusedVariables false
set_option linter.unusedSimpArgs false
set_option maxRecDepth 100000
set_option maxHeartbeats 4000000
namespace Go.Proofs.YtihnghnafpgdfadGreatDoor
open Go Go.RowKit Go.BigFrame
variable {T:ByteArray}{blk i k off:Nat}{d:Dk}{r:List Ch}{W w0:World}
attribute [local go_sem] Oper.semAt_some
def zte (t:ByteArray):ByteArray:=t.extract 1 (min (1+(zbn t 0:Int)) 40).toNat
def zgs (T:ByteArray)(i:Nat):ByteArray:=T.extract (40 * i) T.size
def cutL (T:ByteArray)(k:Nat):List ByteArray:=(List.range k).map fun i=>zte (zgs T i)
theorem zgV (T:ByteArray)(k:Nat):(cutL T k).length=k:=by simp [cutL]
theorem zmk (T:ByteArray)(i:Nat):cutL T (i+1)=cutL T i ++ [zte (zgs T i)]:=by simp [cutL,List.range_succ]
theorem zkW (h:T.size=40 * k)(hi:i≤k):(zgs T i).size=40 * (k - i):=by
 unfold zgs;rw [ByteArray.size_extract];omega
theorem zqr (h:T.size=40 * k)(hi:i<k):(zgs T i).extract 40 (zgs T i).size=zgs T (i+1):=by
 rw [zkW h (by omega)];unfold zgs;rw [ByteArray.extract_extract]
 congr 1 <;> omega
theorem ziW (T:ByteArray)(h:i≤k):cutL T i <+: cutL T k:=by
 refine ⟨(cutL T k).drop i,?_⟩
 have:cutL T i=(cutL T k).take i:=by
  unfold cutL;rw [← List.map_take,List.take_range,Nat.min_eq_left h]
 rw [this,List.take_append_drop]
theorem zpX (n B:Nat) (hn:1≤n) (T:ByteArray) (k:Nat) (hT:T.size=40 * k) (hk:k≤1000) (w:World) :
 zsc n Tryz.prog 223 #[.pointer (some ⟨B,0,none⟩)] (fun s:ByteArray=>#[Value.string s]) (fun b=>b=B) (fun W=>W.heap[B]?=some (.cells #[.string T] 9 (0,0))) (fun xs=>xs=cutL T k) (fun pre=>pre <+: cutL T k) w:=fun l J Jx W hG hW hJ hJx hY h0=>by
 have HY:Hid _:=hY;have HJ:Hid _:=hJ;have HT:Hid (T.size=40 * k):=hT;clear hY hJ hJx hT;refine callsIn_of_wp Tryz.func223 rfl trivial ?_ rfl;simp only [Tryz.ntmps223,List.size_toArray,List.length_cons,List.length_nil,Nat.reduceAdd,Nat.reduceSub,Array.replicate_succ,Array.replicate_zero,List.push_toArray,List.append_toArray,List.nil_append,List.cons_append]
 gi_wp2
 gi_loopg [3] (k+1) (fun kx v3 wr=>∃ i:Nat,i≤k∧k - i≤kx∧Hid (wr.heap[B]?=some (.cells #[.string (zgs T i)] 9 (0,0)))∧Hid (J (cutL T i) wr))
 case atStart=>exact ⟨0,by omega,by omega,by show _=_;rw [hG];unfold zgs;simp,h0⟩
 case round =>
  obtain ⟨i,hi,hix,HB,HJI⟩:=hrel;obtain ⟨t,ht⟩:∃ t,t=zgs T i:=⟨_,rfl⟩
  have HTI:Hid (t=zgs T i):=ht;rw [← ht] at HB;have hts:t.size=40 * (k - i):=by rw [ht];exact zkW HT.out hi
  clear ht;have hcell:wr.cell? ⟨B,0,none⟩=some (.string t):=by rw [zaa HB.out];rfl
  by_cases hlt:i<k
  · have hne:t.toList.isEmpty=false:=by
     rw [List.isEmpty_eq_false_iff];intro e;have h1:t.toList.length=0:=by rw [e];rfl
     rw [zbD,zhf] at h1;omega
    have hge:40≤t.size:=by omega
    have hle:t.size≤40000:=by omega
    clear hts;have b0:=zf5 (s:=t) (i:=0) (by omega);have l0:=zfU t 0;obtain ⟨fn,tmps,assign,body,hyy,hR⟩:=HY.out (cutL T i) (t.extract 1 (min (1+(zbn t 0:Int)) 40).toNat) wr HJI.out (by rw [show cutL T i ++ [t.extract 1 (min (1+(zbn t 0:Int)) 40).toNat]=cutL T (i+1) by rw [zmk,← HTI.out];rfl];exact ziW T hlt)
    have HNX:Hid (cutL T i ++ [t.extract 1 (min (1+(zbn t 0:Int)) 40).toNat]=cutL T (i+1)):=by
     show _=_;rw [zmk,← HTI.out];rfl
    rw [HNX.out] at hR;have HR:Hid _:=hR;clear hR
    gi_wp2
    refine RoundIn.mono HR.out ?_;rintro e W3 (⟨rfl,hj3,hb3⟩ | ⟨rfl,hx3⟩)
    · have HJ3:Hid (J (cutL T (i+1)) W3):=hj3
      have hb3':W3.heap[B]?=some (.cells #[.string t] 9 (0,0)):=(hb3 B rfl).trans HB.out;have HB3:Hid (W3.heap[B]?=some (.cells #[.string t] 9 (0,0))):=hb3';have hcell3:W3.cell? ⟨B,0,none⟩=some (.string t):=by rw [zaa hb3'];rfl
      have hfr3:=zaE hb3' 0;have HN:Hid (t.extract 40 t.size=zgs T (i+1)):=by show _=_;rw [HTI.out];exact zqr HT.out hlt
      clear hj3 hb3 hb3'
      gi_wp2
      gi_roundg (k - (i+1))
      case measure=>omega
      case rel =>
       refine ⟨i+1,by omega,Nat.le_refl _,?_,HJ.out.box _ _ _ _ rfl HJ3.out⟩;have:=zaZ HB3.out 0 (.string (t.extract 40 t.size));rw [HN.out] at this ⊢
       exact this
    · have HX3:Hid (Jx (cutL T (i+1)) W3):=hx3
      clear hx3
      gi_wp2
      refine bodyPost_ret (results_none rfl _ _ _) rfl ?_;exact ⟨⟨_,rfl⟩,.inr ⟨_,ziW T hlt,HX3.out⟩⟩
  · have e:i=k:=by omega
    subst e;have he:t.toList=[]:=List.eq_nil_of_length_eq_zero (by rw [zbD,zhf];omega)
    gi_wp2
    go_end0
    exact ⟨⟨_,rfl⟩,.inl ⟨_,rfl,HJI.out⟩⟩
theorem zmX (T:ByteArray)(w:World) :
 Calls Tryz.prog 199 #[.string T] w fun e w'=>e=.returned (.func (.func 223) #[] #[.pointer (some ⟨w.heap.size,0,none⟩)])∧w'=w.alloc (.cells #[.string T] 9 (0,0)):=by
 go_enter Tryz.func199,Tryz.ntmps199
 go_wp2;go_ret;exact ⟨rfl,rfl⟩
end Go.Proofs.YtihnghnafpgdfadGreatDoor
namespace Go.Proofs.YtihnghnafpgdfadGreatDoor
open Go.RowKit Go.BigFrame
variable {T:ByteArray}{blk i k off:Nat}{d:Dk}{r:List Ch}{W w0:World}
def zdC (d:Dk)(i:Nat):List UInt8:=d.now.getD i []
def zee (d:Dk)(i:Nat):Nat:=zbn (baL (zdC d i)) 11
def zcF (d:Dk)(i:Nat):ByteArray:=baL (zao d.now (2+i * 12) (zee d i)).flatten
def zdh (d:Dk)(i:Nat):Prop:=zee d i≤12∧(zbP i (zcF d i)).isPrefixOf (zdC d i)=true
theorem zqb (hF:zgu d.now)(h42:42≤d.now.length)(hi:i≤1)(hc:zee d i≤12):(zcF d i).size≤480:=by
 unfold zcF;rw [za3,zhI (R:=zao d.now (2+i * 12) (zee d i)) (fun x hx=>hF x (List.mem_of_mem_drop (List.mem_of_mem_take hx))),zaU (by omega)];omega
def WEnd (Post:Ending→World→Prop)(e:Ending)(w:World):Prop:=Post e w
theorem zkw (p:Dp)(d:Dk)(i:Nat)(w:World)(Post:Ending→World→Prop)(h:zab w p d)(hup:d.down=false)(h42:42≤d.now.length)(hi:i≤1)
 (hbad:∀ W,Below w.heap.size w W→¬ zdh d i→Post (.returned (.tuple #[.slice none 0 0,.iface 90 (.int .i64 4)])) W)
 (hgood:zdh d i→∀ W,Below w.heap.size w W→Calls Tryz.prog 164 #[.string (zcF d i)] W fun e w'=>∃ va n vc ev,e=.returned (.tuple #[.slice va n vc,ev])∧Post (.returned (.tuple #[.slice va n vc,ev])) w') :
 Calls Tryz.prog 126 #[.pointer (some ⟨p.B,0,none⟩),.int .i64 i] w fun e w'=>WEnd Post e w':=by
 have HD:Hid (zab w p d):=h;have HBAD:Hid _:=hbad;have HGOOD:Hid _:=hgood;have HF:Hid (zgu d.now):=h.snow;have h60:=h.few
 have hs40:(zdC d i).length=40:=by
  unfold zdC;have hlt:i<d.now.length:=by omega
  rw [List.getD_eq_getElem?_getD,List.getElem?_eq_getElem hlt];exact h.snow _ (List.getElem_mem hlt)
 have kr:=zfP p d (i:Int) w h
 have er:zgK d (i:Int)=(zdC d i,0):=by
  unfold zgK zdC;rw [if_neg (by rw [hup];decide),if_pos (by omega)];simp
 rw [er,zac rfl] at kr;have KR:Hid (Calls Tryz.prog 160 #[.pointer (some ⟨p.B,0,none⟩),.int .i64 i] w fun e w'=>e=.returned (.tuple #[.string (baL (zdC d i)),.nilIface])∧w'=w):=kr;obtain ⟨S,hS⟩:∃ S,S=baL (zdC d i):=⟨_,rfl⟩
 have HS:Hid (S=baL (zdC d i)):=hS;rw [← hS] at KR;have hz:S.size=40:=by rw [hS,za3,hs40]
 have b11:=zf5 (s:=S) (i:=11) (by omega);have l11:=zfU S 11;obtain ⟨n,hn⟩:∃ n,n=zbn S 11:=⟨_,rfl⟩
 have HN:Hid (n=zee d i):=by show _=_;rw [hn,hS];rfl
 rw [← hn] at b11 l11;have hnl:n<256:=l11;clear hn kr er h hbad hgood hS hs40
 by_cases h12:12<n
 · have h12z:(12:Int)<(n:Int):=by omega
   have HNO:Hid (¬ zdh d i):=fun hh=>by have:=hh.1;rw [← HN.out] at this;omega
   go_enter Tryz.func126,Tryz.ntmps126
   go_wp2_with fail
   refine Calls.mono KR.out ?_;rintro e w1 ⟨rfl,hw⟩;rw [hw];clear hw w1;go_wp2;go_ret2;exact HBAD.out _ (Below.refl _ _) HNO.out
 have h12z:¬ (12:Int)<(n:Int):=by omega
 have hTs:=zqb (d:=d) (i:=i) HF.out h42 hi (by rw [← HN.out];omega);have KA:Hid _:=zfx i w hi
 have KRD:Hid (Calls Tryz.prog 161 #[.pointer (some ⟨p.B,0,none⟩),.int .i64 ((2+i * 12:Nat):Int),.int .i64 n] w fun e w'=>e=.returned (.tuple #[.string (zcF d i),.nilIface])∧Below w.heap.size w w'):=by
  have:=zlZ p d (2+i * 12) n w HD.out hup (by omega);unfold zcF;rw [← HN.out];exact this
 have KH:Hid (∀ W,Calls Tryz.prog 124 #[.int .i64 i,.string (zcF d i)] W fun e w'=>e=.returned (.string (baL (zbP i (zcF d i))))∧Below W.heap.size W w'):=fun W=>zfh i (zcF d i) W hi (by omega)
 have KP:Hid (∀ W,Calls Tryz.prog 163 #[.string S,.string (baL (zbP i (zcF d i)))] W fun e w'=>e=.returned (.bool ((zbP i (zcF d i)).isPrefixOf (zdC d i)))∧w'=W):=fun W=>by
  rw [HS.out];have:=Tryz.strings_HasPrefix (baL (zdC d i)) (baL (zbP i (zcF d i))) W;unfold Lib.hasPrefix at this
  rw [zbT,zbT] at this
  exact this
 have HOKI:Hid (zdh d i↔(zbP i (zcF d i)).isPrefixOf (zdC d i)=true):=⟨fun hh=>hh.2,fun hh=>⟨by rw [← HN.out];omega,hh⟩⟩;clear hTs;generalize (zbP i (zcF d i)).isPrefixOf (zdC d i)=pre at *;generalize baL (zbP i (zcF d i))=HH at *;generalize zcF d i=T at *;generalize ((2+i * 12:Nat):Int)=at' at *
 go_enter Tryz.func126,Tryz.ntmps126
 go_wp2_with fail
 refine Calls.mono KR.out ?_;rintro e w1 ⟨rfl,hw⟩;rw [hw];clear hw w1 KR
 go_wp2_with fail
 refine Calls.mono KA.out ?_;rintro e w1 ⟨rfl,hw⟩;rw [hw];clear hw w1 KA
 go_wp2_with fail
 refine Calls.mono KRD.out ?_;rintro e w2 ⟨rfl,hb2⟩;have HB2:Hid (Below w.heap.size w w2):=hb2;clear hb2 KRD
 go_wp2_with fail
 refine Calls.mono (KH.out w2) ?_;rintro e w3 ⟨rfl,hb3⟩;have HB3:Hid (Below w.heap.size w w3):=HB2.out.trans (hb3.mono HB2.out.size);clear hb3 KH
 go_wp2_with fail
 refine Calls.mono (KP.out w3) ?_;rintro e w4 ⟨rfl,hw⟩;rw [hw];clear hw w4 KP;cases pre
 · have HNO:Hid (¬ zdh d i):=fun hh=>by have:=HOKI.out.1 hh;cases this
   go_wp2;go_ret2;exact HBAD.out _ HB3.out HNO.out
 · have KG:Hid _:=HGOOD.out (HOKI.out.2 rfl) w3 HB3.out
   go_wp2_with fail
   refine Calls.mono KG.out ?_;rintro e w5 ⟨va,nn,vc,ev,rfl,hpost⟩;have HPO:Hid _:=hpost;clear hpost KG;go_wp2;go_ret2;exact HPO.out
def zfD (w:World)(x:Option (List Ch))(W:World)(e:Ending)(w':World):Prop :=
 Below W.heap.size W w'∧((x=none∧e=.returned (.tuple #[.slice none 0 0,.iface 90 (.int .i64 4)]))∨∃ rows va vc,x=some rows∧e=.returned (.tuple #[.slice va rows.length vc,.nilIface])∧zan w' W.heap.size (.slice va rows.length vc) rows)
def zew (wh:Nat→Option (List Ch)):Option (Nat × List Ch):=match wh 1 with
 | some r=>some (1,r)
 | none=>match wh 0 with
   | some r=>some (0,r)
   | none=>none
def zpb (w:World)(wh:Nat→Option (List Ch))(e:Ending)(w':World):Prop :=
 Below w.heap.size w w'∧((zew wh=none∧e=.returned (.tuple #[.int .i64 0,.slice none 0 0,.iface 90 (.int .i64 4)]))∨∃ side rows va vc,zew wh=some (side,rows)∧e=.returned (.tuple #[.int .i64 (side:Nat),.slice va rows.length vc,.nilIface])∧zan w' w.heap.size (.slice va rows.length vc) rows)
theorem zsN {wh:Nat→Option (List Ch)}(hi:i<2)(hb:∀ j,j<i→wh (1 - j)=none)(h:wh (1 - i)=some r):zew wh=some (1 - i,r):=by
 match i,hi with
 | 0,_=>unfold zew;rw [show wh 1=some r from h]
 | 1,_=>unfold zew;rw [show wh 1=none from hb 0 (by omega)];simp only;rw [show wh 0=some r from h]
theorem zqM {wh:Nat→Option (List Ch)}(hb:∀ j,j<2→wh (1 - j)=none):zew wh=none:=by
 unfold zew;rw [show wh 1=none from hb 0 (by omega)];simp only;rw [show wh 0=none from hb 1 (by omega)]
theorem zlw (p:Dp) (d:Dk) (w:World) (wh:Nat→Option (List Ch)) (h:zab w p d) (hup:d.down=false) (h42:42≤d.now.length)
 (hw:∀ i:Nat,i≤1→∀ W,Below w.heap.size w W→Calls Tryz.prog 126 #[.pointer (some ⟨p.B,0,none⟩),.int .i64 i] W (zfD w (wh i) W)) :
 Calls Tryz.prog 88 #[.pointer (some ⟨p.B,0,none⟩)] w fun e w'=>zpb w wh e w':=by
 have HD:Hid (zab w p d):=h;have HW:Hid (∀ i:Nat,i≤1→∀ W,Below w.heap.size w W→Calls Tryz.prog 126 #[.pointer (some ⟨p.B,0,none⟩),.int .i64 i] W (zfD w (wh i) W)):=hw;have kd:=zsQ p d w h;rw [hup] at kd;have KD:Hid _:=kd;have KS:Hid _:=zff p d w h;have KO:Hid _:=zde 1 w (by omega);have h60:=h.few;have h42z:¬ (d.now.length:Int)<42:=by omega
 clear h hw kd
 go_enter Tryz.func88,Tryz.ntmps88
 go_wp2_with fail
 refine Calls.mono KD.out ?_;rintro e w1 ⟨rfl,hw⟩;rw [hw];clear hw w1 KD
 go_wp2_with fail
 refine Calls.mono KS.out ?_;rintro e w1 ⟨rfl,hw⟩;rw [hw];clear hw w1 KS
 go_wp2_with fail
 refine Calls.mono KO.out ?_;rintro e w1 ⟨rfl,hw⟩;rw [hw];clear hw w1 KO
 go_wp2_with fail
 go_loopg [19] 3 (fun kx vi wr=>∃ i:Nat,vi=.int .i64 i∧i≤2∧2 - i≤kx∧Hid (Below w.heap.size w wr)∧Hid (wr.heap[w.heap.size]?=some (.cells #[.int .i64 1,.int .i64 0] 3 (0,0)))∧Hid (∀ j,j<i→wh (1 - j)=none))
 case atStart=>exact ⟨0,rfl,by omega,by omega,(Below.refl _ _).alloc (Nat.le_refl _) _,heap_alloc_new w _,fun j hj=>absurd hj (Nat.not_lt_zero _)⟩
 case round =>
  obtain ⟨i,rfl,hi,hix,HB,HI,HNO⟩:=hrel
  by_cases hlt:i<2
  · have hltz:(i:Int)<2:=by omega
    obtain ⟨sd,hsd⟩:∃ sd,sd=1 - i:=⟨_,rfl⟩
    have hcell:wr.cell? ⟨w.heap.size,i,none⟩=some (.int .i64 sd):=by
     rw [zaa HI.out,hsd]
     match i,hlt with
     | 0,_=>rfl
     | 1,_=>rfl
    have HSD:Hid (sd=1 - i):=hsd;have KW:Hid _:=HW.out sd (by omega) wr HB.out;clear hsd
    go_wp2_with fail
    refine Calls.mono KW.out ?_;rintro e w2 ⟨hb2,hor⟩;have HB2:Hid (Below w.heap.size w w2):=HB.out.trans (hb2.mono HB.out.size);have HI2:Hid (w2.heap[w.heap.size]?=some (.cells #[.int .i64 1,.int .i64 0] 3 (0,0))):=(hb2.block _ (Array.getElem?_eq_some_iff.1 HI.out).1).trans HI.out;clear hb2 KW;rcases hor with ⟨hno,rfl⟩ | ⟨rows,va,vc,hyes,rfl,ho⟩
    · have HN2:Hid (∀ j,j<i+1→wh (1 - j)=none):=fun j hj=>by
       by_cases e:j=i
       · subst e;rw [← HSD.out];exact hno
       · exact HNO.out j (by omega)
      clear hno;go_wp2
      go_roundg (2 - (i+1))
      case measure=>omega
      case rel=>exact ⟨i+1,by go_num,by omega,Nat.le_refl _,HB2,HI2,HN2⟩
    · have HL:Hid (zew wh=some (sd,rows)):=by show _=_;rw [HSD.out];exact zsN hlt HNO.out (by rw [← HSD.out];exact hyes)
      have HO:Hid (zan w2 w.heap.size (.slice va rows.length vc) rows):=zan.base ho HB.out.size;clear hyes ho;go_wp2
      go_ret3
      exact ⟨HB2.out,.inr ⟨sd,rows,va,vc,HL.out,rfl,HO.out⟩⟩
  · have hge:¬ (i:Int)<2:=by omega
    have HL:Hid (zew wh=none):=zqM (fun j hj=>HNO.out j (by omega));go_wp2
    go_ret3
    exact ⟨HB.out,.inl ⟨HL.out,rfl⟩⟩
theorem zk2 (a a':Option Addr) (cap cap':Nat) (l m:List Ch) (w:World) (hl:l.length≤1000) (hm:m.length≤1000) (hc:CC w a l) (hc':CC w a' m) :
 Calls Tryz.prog 95 #[.slice a l.length cap,.slice a' m.length cap'] w fun e w'=>e=.returned (.bool (zdR l m))∧Below w.heap.size w w':=by
 have HC:Hid (CC w a l):=hc;have HC':Hid (CC w a' m):=hc';clear hc hc'
 by_cases hlen:l.length=m.length
 · have hne:((l.length:Int) != (m.length:Int))=false:=by simp [hlen]
   have HL:Hid (l.length=m.length):=hlen;clear hlen
   go_enter Tryz.func95,Tryz.ntmps95
   go_wp2_with fail
   go_loopg [13] (l.length+1) (fun kx vi wr=>∃ k:Nat,vi=.int .i64 k∧k≤l.length∧l.length - k≤kx∧Hid (Below w.heap.size w wr)∧Hid (∀ i (h1:i<l.length) (h2:i<m.length),i<k→eqCh l[i] m[i]=true))
   case atStart=>exact ⟨0,rfl,by omega,by omega,Below.refl _ _,fun i h1 h2 h=>absurd h (Nat.not_lt_zero _)⟩
   case round =>
    obtain ⟨k,rfl,hk,hkx,HB,Hall⟩:=hrel
    by_cases hlt:k<l.length
    · have hltz:(k:Int)<(l.length:Int):=by omega
      have hlt2:k<m.length:=by have:=HL.out;omega
      obtain ⟨b,off,rfl,c0,c1,c2⟩:=(HC.out.below HB.out) k hlt;obtain ⟨b',off',rfl,d0,d1,d2⟩:=(HC'.out.below HB.out) k hlt2;have hq:=fun w=>zgF l[k] m[k] w
      cases he:eqCh l[k] m[k]
      · have HF:Hid (zdR l m=false):=zsg hlt hlt2 he
        go_wp2_with fail
        go_quiet (fail)
        go_wp2;go_ret;exact ⟨zbS HF.out.symm,below_drewN HB.out nq⟩
      · have HN:Hid (∀ i (h1:i<l.length) (h2:i<m.length),i<k+1→eqCh l[i] m[i]=true):=fun i h1 h2 h=>by
         rcases Nat.lt_or_ge i k with h3 | h3
         · exact Hall.out i h1 h2 h3
         · have e:i=k:=by omega
           subst e;exact he
        go_wp2_with fail
        go_quiet (fail)
        go_wp2
        go_roundg (l.length - (k+1))
        case measure=>omega
        case rel=>exact ⟨k+1,by go_num,by omega,Nat.le_refl _,below_drewN HB.out nq,HN⟩
    · have HT:Hid (zdR l m=true):=zqF HL.out (fun i h1 h2=>Hall.out i h1 h2 (by omega))
      go_wp2;go_ret;exact ⟨zbS HT.out.symm,HB.out⟩
 · have hne:((l.length:Int) != (m.length:Int))=true:=by rw [bne_iff_ne];omega
   go_enter Tryz.func95,Tryz.ntmps95
   go_wp2;go_ret;exact ⟨zbS (zp2 hlen).symm,Below.refl _ _⟩
end Go.Proofs.YtihnghnafpgdfadGreatDoor
namespace Go.Proofs.YtihnghnafpgdfadGreatDoor
open Go.RowKit Go.Lib Go.Sort
variable {T:ByteArray}{blk i k off:Nat}{d:Dk}{r:List Ch}{W w0:World}
def encC (c:Ch):List Value:=[.string c.key,.string c.val,.bool c.gone]
instance:Inhabited Ch:=⟨⟨⟨#[]⟩,⟨#[]⟩,false⟩⟩
theorem SWK.three {dk:Array Ch}(h:SWK encC 3 w0 blk off dk W){d0:Array Ch}(R:RowK encC 3 w0 blk off d0)(hs:dk.size=d0.size)(i:Nat)(hi:i<dk.size):
 (W.cell? ⟨blk,off+i * 3,none⟩=some (.string dk[i]!.key)∧W.cell? ⟨blk,off+i * 3+1,none⟩=some (.string dk[i]!.val)∧W.cell? ⟨blk,off+i * 3+2,none⟩=some (.bool dk[i]!.gone)) ∧
 (W.frozen? ⟨blk,off+i * 3,none⟩=false∧W.frozen? ⟨blk,off+i * 3+1,none⟩=false∧W.frozen? ⟨blk,off+i * 3+2,none⟩=false):=by
 have hh:=h.holds R.hblk R.hH hs;have c0:=hh.cell hi (c:=0) (by omega);have c1:=hh.cell hi (c:=1) (by omega);have c2:=hh.cell hi (c:=2) (by omega);exact ⟨⟨c0.1,c1.1,c2.1⟩,c0.2,c1.2,c2.2⟩
theorem zm0 (W:World)(a:Addr)(v:Value):W.drew.setCell a v=(W.setCell a v).drew:=rfl
theorem SWK.swap3 {dk:Array Ch}(h:SWK encC 3 w0 blk off dk W){d0:Array Ch}(R:RowK encC 3 w0 blk off d0)(i j:Nat)(hi:i<dk.size)(hj:j<dk.size):
 SWK encC 3 w0 blk off (swp dk i j) ((((((W.setCell ⟨blk,off+i * 3,none⟩ (.string dk[j]!.key)).setCell ⟨blk,off+i * 3+1,none⟩ (.string dk[j]!.val)).setCell ⟨blk,off+i * 3+2,none⟩ (.bool dk[j]!.gone)).setCell
  ⟨blk,off+j * 3,none⟩ (.string dk[i]!.key)).setCell ⟨blk,off+j * 3+1,none⟩ (.string dk[i]!.val)).setCell ⟨blk,off+j * 3+2,none⟩ (.bool dk[i]!.gone)).drew:=by
 have:=h.swapped R i j hi hj;simp only [encC,World.setCells,zm0] at this
 exact this
theorem zeY (fv:Value) (blk off cap a b n:Nat) (d0 d:Array Ch) (w0 w:World) (R:RowK encC 3 w0 blk off d0) (hs:d0.size=d.size) (S:SWK encC 3 w0 blk off d w) (hab:a+n≤b) (hb:b+n≤d.size) (hsz:d.size<4611686018427387904) :
 Calls Tryz.prog 241 #[.slice (some ⟨blk,off,none⟩) d.size cap,.int .i64 a,.int .i64 b,.int .i64 n,fv] w fun e w'=>e=.returned (.tuple #[])∧∃ d',zcI d d' a b n∧SWK encC 3 w0 blk off d' w':=by
 have mixed:Tryz.prog.follows Departure.mixedOrders=true:=by kernel_rfl
 have S0:Aside (SWK encC 3 w0 blk off d w):=S;clear S
 go_enter Tryz.func241,Tryz.ntmps241
 go_wp2
 go_loopg [10] n (fun kx s wr=>∃ (i:Nat) (dk:Array Ch),s=.int .i64 i∧i≤n∧n - i≤kx∧Aside (zcI d dk a b i)∧Aside (SWK encC 3 w0 blk off dk wr))
 case atStart=>exact ⟨0,d,rfl,Nat.zero_le _,Nat.le_refl _,zcI.zero d a b,S0⟩
 case round =>
  clear S0;obtain ⟨i,dk,rfl,hi,hkx,hsw,S1⟩:=hrel;have hds:dk.size=d.size:=hsw.out.size
  by_cases hlt:i<n
  · have hltz:(i:Int)<(n:Int):=by omega
    go_wp2_with fail
    have ea:((a:Int)+(i:Int)).toNat=a+i:=by omega
    have pa:(0:Int)≤(a:Int)+(i:Int):=by omega
    have ba:(a:Int)+(i:Int)<(d.size:Int):=by omega
    have ra:IntKind.i64.wrap ((a:Int)+(i:Int))=(a:Int)+(i:Int):=by rw [IntKind.wrap_i64];omega
    have ec:((b:Int)+(i:Int)).toNat=b+i:=by omega
    have pc:(0:Int)≤(b:Int)+(i:Int):=by omega
    have bc:(b:Int)+(i:Int)<(d.size:Int):=by omega
    have rc:IntKind.i64.wrap ((b:Int)+(i:Int))=(b:Int)+(i:Int):=by rw [IntKind.wrap_i64];omega
    have S2:=SWK.swap3 S1.out R (a+i) (b+i) (by omega) (by omega);have S2:Aside _:=S2;have hs2:Aside (zcI d (swp dk (a+i) (b+i)) a b (i+1)):=hsw.out.next (by omega) (by omega);obtain ⟨⟨c0,c1,c2⟩,f0,f1,f2⟩:=SWK.three S1.out R (by omega) (a+i) (by omega);obtain ⟨⟨e0,e1,e2⟩,g0,g1,g2⟩:=SWK.three S1.out R (by omega) (b+i) (by omega);clear S1
    go_wp2_with fail
    go_big_region_o
    clear c0 c1 c2 e0 e1 e2 f0 f1 f2 g0 g1 g2
    generalize ((((((wr.setCell ⟨blk,off+(a+i) * 3,none⟩ (.string dk[b+i]!.key)).setCell ⟨blk,off+(a+i) * 3+1,none⟩ (.string dk[b+i]!.val)).setCell ⟨blk,off+(a+i) * 3+2,none⟩ (.bool dk[b+i]!.gone)).setCell
     ⟨blk,off+(b+i) * 3,none⟩ (.string dk[a+i]!.key)).setCell ⟨blk,off+(b+i) * 3+1,none⟩ (.string dk[a+i]!.val)).setCell ⟨blk,off+(b+i) * 3+2,none⟩ (.bool dk[a+i]!.gone)).drew=w2 at S2 ⊢
    go_wp2
    go_roundg (n - (i+1))
    case measure=>omega
    case rel=>exact ⟨i+1,_,by go_num,by omega,Nat.le_refl _,hs2,S2⟩
  · go_wp2
    go_end0
    exact ⟨rfl, dk, by have:i=n:=by omega
                       subst this;exact hsw.out,S1.out⟩
theorem zcJ (fv:Value)(blk off cap a m b:Nat)(d0 d:Array Ch)(w0 w:World)(R:RowK encC 3 w0 blk off d0)(hs:d0.size=d.size)(S:SWK encC 3 w0 blk off d w)(ham:a<m)(hmb:m<b)(hb:b≤d.size)(hsz:d.size<4611686018427387904) :
 Calls Tryz.prog 221 #[.slice (some ⟨blk,off,none⟩) d.size cap,.int .i64 a,.int .i64 m,.int .i64 b,fv] w fun e w'=>e=.returned (.tuple #[])∧∃ d',zar d d' a m b∧SWK encC 3 w0 blk off d' w':=by
 have S0:Aside (SWK encC 3 w0 blk off d w):=S;clear S
 go_enter Tryz.func221,Tryz.ntmps221
 go_wp2
 go_loopg [10,11] (b - a) (fun kx si sj wr=>∃ (i j:Nat) (dk:Array Ch),si=.int .i64 i∧sj=.int .i64 j∧0<i∧0<j∧i≤m∧m+j≤d.size∧i+j≤kx∧dk.size=d.size∧Aside (∀ e,zar dk e (m - i) m (m+j)→zar d e a m b)∧Aside (SWK encC 3 w0 blk off dk wr))
 case atStart=>exact ⟨m - a,b - m,d,by congr 1;omega,by congr 1;omega,by omega,by omega,by omega,by omega,by omega,rfl,(by intro e he;rw [show m - (m - a)=a by omega,show m+(b - m)=b by omega] at he;exact he),S0⟩
 case round =>
  clear S0;obtain ⟨i,j,dk,rfl,rfl,hi0,hj0,him,hjm,hkx,hds,HR,S1⟩:=hrel;have hmi:(m:Int) - (i:Int)=((m - i:Nat):Int):=by omega
  rcases Nat.lt_trichotomy i j with hij | hij | hij
  · have h1:((i:Int) != (j:Int))=true:=by rw [bne_iff_ne];omega
    have h2:decide ((i:Int) > (j:Int))=false:=decide_eq_false (by omega);have hmji:(m:Int)+(j:Int) - (i:Int)=((m+j - i:Nat):Int):=by omega
    have hcon:=zeY fv blk off cap (m - i) (m+j - i) i d0 dk w0 wr R (by omega) S1.out (by omega) (by omega) (by omega);rw [← hmi,← hmji,hds] at hcon;clear hmi hmji;have HCON:Hid _:=hcon;clear hcon
    go_wp2_with fail
    refine Calls.mono HCON.out ?_;rintro e w2 ⟨rfl,d2,hsw,S2⟩;have S3:Aside (SWK encC 3 w0 blk off d2 w2):=S2;have hsw2:Aside (zcI dk d2 _ _ _):=hsw;clear S1 S2 hsw HCON;go_wp2
    go_roundg (i+(j - i))
    case measure=>omega
    case rel=>exact ⟨i,j - i,d2,rfl,by congr 1;omega,hi0,by omega,him,by omega,Nat.le_refl _,hsw2.out.size.trans hds,(show Aside _ from fun e he=>HR.out e (zar.right him hij hsw2.out he)),S3⟩
  · subst hij
    have h1:((i:Int) != (i:Int))=false:=by rw [bne_eq_false_iff_eq]
    have hcon:=zeY fv blk off cap (m - i) m i d0 dk w0 wr R (by omega) S1.out (by omega) (by omega) (by omega);rw [← hmi,hds] at hcon;clear hmi;have HCON:Hid _:=hcon;clear hcon
    go_wp2_with fail
    refine Calls.mono HCON.out ?_;rintro e w2 ⟨rfl,d2,hsw,S2⟩;have S3:Aside (SWK encC 3 w0 blk off d2 w2):=S2;have hsw2:Aside (zcI dk d2 _ _ _):=hsw;clear S1 S2 hsw HCON;go_wp2
    go_end0
    refine ⟨rfl,d2,HR.out d2 (zar.same ?_ (by omega) (by omega) (by omega)),S3.out⟩;rw [show m - (m - i)=i by omega];exact hsw2.out
  · have h1:((i:Int) != (j:Int))=true:=by rw [bne_iff_ne];omega
    have h2:decide ((i:Int) > (j:Int))=true:=decide_eq_true (by omega);have hcon:=zeY fv blk off cap (m - i) m j d0 dk w0 wr R (by omega) S1.out (by omega) (by omega) (by omega);rw [← hmi,hds] at hcon;clear hmi;have HCON:Hid _:=hcon;clear hcon
    go_wp2_with fail
    refine Calls.mono HCON.out ?_;rintro e w2 ⟨rfl,d2,hsw,S2⟩;have S3:Aside (SWK encC 3 w0 blk off d2 w2):=S2;have hsw2:Aside (zcI dk d2 _ _ _):=hsw;clear S1 S2 hsw HCON;go_wp2
    go_roundg (i - j+j)
    case measure=>omega
    case rel=>exact ⟨i - j,j,d2,by congr 1;omega,rfl,by omega,hj0,by omega,by omega,Nat.le_refl _,hsw2.out.size.trans hds,(show Aside _ from fun e he=>HR.out e (zar.left him hij hsw2.out (by rw [show m - i+j=m - (i - j) by omega];exact he))),S3⟩
end Go.Proofs.YtihnghnafpgdfadGreatDoor
