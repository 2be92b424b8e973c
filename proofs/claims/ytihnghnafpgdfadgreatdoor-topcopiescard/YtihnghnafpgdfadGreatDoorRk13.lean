/- What the proofs stand on, part 13: StoreCut, StoreWhole, StoreLaid. -/
import Derived.Sort.LoopGhostIn
import Derived.Test.YtihnghnafpgdfadGreatDoorRk01
import Derived.Test.YtihnghnafpgdfadGreatDoorRk11
import Derived.Test.YtihnghnafpgdfadGreatDoorRk10
set_option linter.unusedVariables false
set_option linter.unusedSimpArgs false
namespace Go.Proofs.YtihnghnafpgdfadGreatDoor
open Go Go.RowKit Go.BigFrame
attribute [local go_sem] Oper.semAt_some
def cutOf (t:ByteArray):ByteArray:=t.extract 1 (min (1+(byteAt t 0:Int)) 40).toNat
def restT (T:ByteArray)(i:Nat):ByteArray:=T.extract (40 * i) T.size
def cutL (T:ByteArray)(k:Nat):List ByteArray:=(List.range k).map fun i=>cutOf (restT T i)
theorem cutL_length (T:ByteArray)(k:Nat):(cutL T k).length=k:=by simp [cutL]
theorem cutL_succ (T:ByteArray)(i:Nat):cutL T (i+1)=cutL T i ++ [cutOf (restT T i)]:=by simp [cutL,List.range_succ]
theorem restT_size {T:ByteArray}{k i:Nat}(h:T.size=40 * k)(hi:i≤k):(restT T i).size=40 * (k - i):=by
  unfold restT
  rw [ByteArray.size_extract]
  omega
theorem restT_next {T:ByteArray}{k i:Nat}(h:T.size=40 * k)(hi:i<k):(restT T i).extract 40 (restT T i).size=restT T (i+1):=by
  rw [restT_size h (by omega)]
  unfold restT
  rw [ByteArray.extract_extract]
  congr 1 <;> omega
theorem cutL_prefix (T:ByteArray){i k:Nat}(h:i≤k):cutL T i <+: cutL T k:=by
  refine ⟨(cutL T k).drop i,?_⟩
  have:cutL T i=(cutL T k).take i:=by
    unfold cutL
    rw [← List.map_take,List.take_range,Nat.min_eq_left h]
  rw [this,List.take_append_drop]
set_option maxRecDepth 100000 in
set_option maxHeartbeats 2000000 in
theorem cut1_stops (n B:Nat) (hn:1≤n) (T:ByteArray) (k:Nat) (hT:T.size=40 * k) (hk:k≤1000) (w:World) :
    SeqBox n Tryz.prog 223 #[.pointer (some ⟨B,0,none⟩)] (fun s:ByteArray=>#[Value.string s]) (fun b=>b=B) (fun W=>W.heap[B]?=some (.cells #[.string T] 9 (0,0))) (fun xs=>xs=cutL T k) (fun pre=>pre <+: cutL T k) w:=fun l J Jx W hG hW hJ hJx hY h0=>by
  have HY:Hid _:=hY
  have HJ:Hid _:=hJ
  have HT:Hid (T.size=40 * k):=hT
  clear hY hJ hJx hT
  refine callsIn_of_wp Tryz.func223 rfl trivial ?_ rfl
  simp only [Tryz.ntmps223,List.size_toArray,List.length_cons,List.length_nil,Nat.reduceAdd,Nat.reduceSub,Array.replicate_succ,Array.replicate_zero,List.push_toArray,List.append_toArray,List.nil_append,List.cons_append]
  gi_wp2
  gi_loopg [3] (k+1) (fun kx v3 wr=>∃ i:Nat,i≤k∧k - i≤kx∧Hid (wr.heap[B]?=some (.cells #[.string (restT T i)] 9 (0,0)))∧Hid (J (cutL T i) wr))
  case atStart=>exact ⟨0,by omega,by omega,by show _=_;rw [hG];unfold restT;simp,h0⟩
  case round =>
    obtain ⟨i,hi,hix,HB,HJI⟩:=hrel
    obtain ⟨t,ht⟩:∃ t,t=restT T i:=⟨_,rfl⟩
    have HTI:Hid (t=restT T i):=ht
    rw [← ht] at HB
    have hts:t.size=40 * (k - i):=by rw [ht];exact restT_size HT.out hi
    clear ht
    have hcell:wr.cell? ⟨B,0,none⟩=some (.string t):=by rw [cell_block HB.out];rfl
    by_cases hlt:i<k
    · have hne:t.toList.isEmpty=false:=by
        rw [List.isEmpty_eq_false_iff]
        intro e
        have h1:t.toList.length=0:=by rw [e];rfl
        rw [ba_toList,ba_len] at h1
        omega
      have hge:40≤t.size:=by omega
      have hle:t.size≤40000:=by omega
      clear hts
      have b0:=byteAt_eq (s:=t) (i:=0) (by omega)
      have l0:=byteAt_lt t 0
      obtain ⟨fn,tmps,assign,body,hyy,hR⟩:=HY.out (cutL T i) (t.extract 1 (min (1+(byteAt t 0:Int)) 40).toNat) wr HJI.out (by rw [show cutL T i ++ [t.extract 1 (min (1+(byteAt t 0:Int)) 40).toNat]=cutL T (i+1) by rw [cutL_succ,← HTI.out];rfl];exact cutL_prefix T hlt)
      have HNX:Hid (cutL T i ++ [t.extract 1 (min (1+(byteAt t 0:Int)) 40).toNat]=cutL T (i+1)):=by
        show _=_
        rw [cutL_succ,← HTI.out];rfl
      rw [HNX.out] at hR
      have HR:Hid _:=hR
      clear hR
      gi_wp2
      refine RoundIn.mono HR.out ?_
      rintro e W3 (⟨rfl,hj3,hb3⟩ | ⟨rfl,hx3⟩)
      · have HJ3:Hid (J (cutL T (i+1)) W3):=hj3
        have hb3':W3.heap[B]?=some (.cells #[.string t] 9 (0,0)):=(hb3 B rfl).trans HB.out
        have HB3:Hid (W3.heap[B]?=some (.cells #[.string t] 9 (0,0))):=hb3'
        have hcell3:W3.cell? ⟨B,0,none⟩=some (.string t):=by rw [cell_block hb3'];rfl
        have hfr3:=frozen_block hb3' 0
        have HN:Hid (t.extract 40 t.size=restT T (i+1)):=by show _=_;rw [HTI.out];exact restT_next HT.out hlt
        clear hj3 hb3 hb3'
        gi_wp2
        gi_roundg (k - (i+1))
        case measure=>omega
        case rel =>
          refine ⟨i+1,by omega,Nat.le_refl _,?_,HJ.out.box _ _ _ _ rfl HJ3.out⟩
          have:=heap_set HB3.out 0 (.string (t.extract 40 t.size))
          rw [HN.out] at this ⊢
          exact this
      · have HX3:Hid (Jx (cutL T (i+1)) W3):=hx3
        clear hx3
        gi_wp2
        refine bodyPost_ret (results_none rfl _ _ _) rfl ?_
        exact ⟨⟨_,rfl⟩,.inr ⟨_,cutL_prefix T hlt,HX3.out⟩⟩
    · have e:i=k:=by omega
      subst e
      have he:t.toList=[]:=List.eq_nil_of_length_eq_zero (by rw [ba_toList,ba_len];omega)
      gi_wp2
      go_end0
      exact ⟨⟨_,rfl⟩,.inl ⟨_,rfl,HJI.out⟩⟩
set_option maxRecDepth 100000 in
theorem storeCut_any (T:ByteArray)(w:World) :
    Calls Tryz.prog 199 #[.string T] w fun e w'=>e=.returned (.func (.func 223) #[] #[.pointer (some ⟨w.heap.size,0,none⟩)])∧w'=w.alloc (.cells #[.string T] 9 (0,0)):=by
  go_enter Tryz.func199,Tryz.ntmps199
  go_wp2
  go_ret
  exact ⟨rfl,rfl⟩
end Go.Proofs.YtihnghnafpgdfadGreatDoor
namespace Go.Proofs.YtihnghnafpgdfadGreatDoor
open Go.RowKit Go.BigFrame
def headS (d:Dk)(i:Nat):List UInt8:=d.now.getD i []
def headC (d:Dk)(i:Nat):Nat:=byteAt (baL (headS d i)) 11
def sideT (d:Dk)(i:Nat):ByteArray:=baL (regionL d.now (2+i * 12) (headC d i)).flatten
def HeadOk (d:Dk)(i:Nat):Prop:=headC d i≤12∧(headL i (sideT d i)).isPrefixOf (headS d i)=true
theorem sideT_size {d:Dk}{i:Nat}(hF:Forty d.now)(h42:42≤d.now.length)(hi:i≤1)(hc:headC d i≤12):(sideT d i).size≤480:=by
  unfold sideT
  rw [baL_size,flat_len (R:=regionL d.now (2+i * 12) (headC d i)) (fun x hx=>hF x (List.mem_of_mem_drop (List.mem_of_mem_take hx))),regionL_length (by omega)]
  omega
def WEnd (Post:Ending→World→Prop)(e:Ending)(w:World):Prop:=Post e w
set_option maxRecDepth 100000 in
set_option maxHeartbeats 2000000 in
theorem storeWhole_any (p:Dp)(d:Dk)(i:Nat)(w:World)(Post:Ending→World→Prop)(h:DiskAt w p d)(hup:d.down=false)(h42:42≤d.now.length)(hi:i≤1)
    (hbad:∀ W,Below w.heap.size w W→¬ HeadOk d i→Post (.returned (.tuple #[.slice none 0 0,.iface 90 (.int .i64 4)])) W)
    (hgood:HeadOk d i→∀ W,Below w.heap.size w W→Calls Tryz.prog 164 #[.string (sideT d i)] W fun e w'=>∃ va n vc ev,e=.returned (.tuple #[.slice va n vc,ev])∧Post (.returned (.tuple #[.slice va n vc,ev])) w') :
    Calls Tryz.prog 126 #[.pointer (some ⟨p.B,0,none⟩),.int .i64 i] w fun e w'=>WEnd Post e w':=by
  have HD:Hid (DiskAt w p d):=h
  have HBAD:Hid _:=hbad
  have HGOOD:Hid _:=hgood
  have HF:Hid (Forty d.now):=h.snow
  have h60:=h.few
  have hs40:(headS d i).length=40:=by
    unfold headS
    have hlt:i<d.now.length:=by omega
    rw [List.getD_eq_getElem?_getD,List.getElem?_eq_getElem hlt]
    exact h.snow _ (List.getElem_mem hlt)
  have kr:=diskRead_any p d (i:Int) w h
  have er:readD d (i:Int)=(headS d i,0):=by
    unfold readD headS
    rw [if_neg (by rw [hup];decide),if_pos (by omega)]
    simp
  rw [er,errV_zero rfl] at kr
  have KR:Hid (Calls Tryz.prog 160 #[.pointer (some ⟨p.B,0,none⟩),.int .i64 i] w fun e w'=>e=.returned (.tuple #[.string (baL (headS d i)),.nilIface])∧w'=w):=kr
  obtain ⟨S,hS⟩:∃ S,S=baL (headS d i):=⟨_,rfl⟩
  have HS:Hid (S=baL (headS d i)):=hS
  rw [← hS] at KR
  have hz:S.size=40:=by rw [hS,baL_size,hs40]
  have b11:=byteAt_eq (s:=S) (i:=11) (by omega)
  have l11:=byteAt_lt S 11
  obtain ⟨n,hn⟩:∃ n,n=byteAt S 11:=⟨_,rfl⟩
  have HN:Hid (n=headC d i):=by show _=_;rw [hn,hS];rfl
  rw [← hn] at b11 l11
  have hnl:n<256:=l11
  clear hn kr er h hbad hgood hS hs40
  by_cases h12:12<n
  · have h12z:(12:Int)<(n:Int):=by omega
    have HNO:Hid (¬ HeadOk d i):=fun hh=>by have:=hh.1;rw [← HN.out] at this;omega
    go_enter Tryz.func126,Tryz.ntmps126
    go_wp2_with fail
    refine Calls.mono KR.out ?_
    rintro e w1 ⟨rfl,hw⟩
    rw [hw]
    clear hw w1
    go_wp2
    go_ret2
    exact HBAD.out _ (Below.refl _ _) HNO.out
  have h12z:¬ (12:Int)<(n:Int):=by omega
  have hTs:=sideT_size (d:=d) (i:=i) HF.out h42 hi (by rw [← HN.out];omega)
  have KA:Hid _:=storeSideAt_any i w hi
  have KRD:Hid (Calls Tryz.prog 161 #[.pointer (some ⟨p.B,0,none⟩),.int .i64 ((2+i * 12:Nat):Int),.int .i64 n] w fun e w'=>e=.returned (.tuple #[.string (sideT d i),.nilIface])∧Below w.heap.size w w'):=by
    have:=storeRead_any p d (2+i * 12) n w HD.out hup (by omega)
    unfold sideT
    rw [← HN.out]
    exact this
  have KH:Hid (∀ W,Calls Tryz.prog 124 #[.int .i64 i,.string (sideT d i)] W fun e w'=>e=.returned (.string (baL (headL i (sideT d i))))∧Below W.heap.size W w'):=fun W=>storeHead_any i (sideT d i) W hi (by omega)
  have KP:Hid (∀ W,Calls Tryz.prog 163 #[.string S,.string (baL (headL i (sideT d i)))] W fun e w'=>e=.returned (.bool ((headL i (sideT d i)).isPrefixOf (headS d i)))∧w'=W):=fun W=>by
    rw [HS.out]
    have:=Tryz.strings_HasPrefix (baL (headS d i)) (baL (headL i (sideT d i))) W
    unfold Lib.hasPrefix at this
    rw [baL_list,baL_list] at this
    exact this
  have HOKI:Hid (HeadOk d i↔(headL i (sideT d i)).isPrefixOf (headS d i)=true):=⟨fun hh=>hh.2,fun hh=>⟨by rw [← HN.out];omega,hh⟩⟩
  clear hTs
  generalize (headL i (sideT d i)).isPrefixOf (headS d i)=pre at *
  generalize baL (headL i (sideT d i))=HH at *
  generalize sideT d i=T at *
  generalize ((2+i * 12:Nat):Int)=at' at *
  go_enter Tryz.func126,Tryz.ntmps126
  go_wp2_with fail
  refine Calls.mono KR.out ?_
  rintro e w1 ⟨rfl,hw⟩
  rw [hw]
  clear hw w1 KR
  go_wp2_with fail
  refine Calls.mono KA.out ?_
  rintro e w1 ⟨rfl,hw⟩
  rw [hw]
  clear hw w1 KA
  go_wp2_with fail
  refine Calls.mono KRD.out ?_
  rintro e w2 ⟨rfl,hb2⟩
  have HB2:Hid (Below w.heap.size w w2):=hb2
  clear hb2 KRD
  go_wp2_with fail
  refine Calls.mono (KH.out w2) ?_
  rintro e w3 ⟨rfl,hb3⟩
  have HB3:Hid (Below w.heap.size w w3):=HB2.out.trans (hb3.mono HB2.out.size)
  clear hb3 KH
  go_wp2_with fail
  refine Calls.mono (KP.out w3) ?_
  rintro e w4 ⟨rfl,hw⟩
  rw [hw]
  clear hw w4 KP
  cases pre
  · have HNO:Hid (¬ HeadOk d i):=fun hh=>by have:=HOKI.out.1 hh;cases this
    go_wp2
    go_ret2
    exact HBAD.out _ HB3.out HNO.out
  · have KG:Hid _:=HGOOD.out (HOKI.out.2 rfl) w3 HB3.out
    go_wp2_with fail
    refine Calls.mono KG.out ?_
    rintro e w5 ⟨va,nn,vc,ev,rfl,hpost⟩
    have HPO:Hid _:=hpost
    clear hpost KG
    go_wp2
    go_ret2
    exact HPO.out
def WholeSays (w:World)(x:Option (List Ch))(W:World)(e:Ending)(w':World):Prop :=
  Below W.heap.size W w'∧((x=none∧e=.returned (.tuple #[.slice none 0 0,.iface 90 (.int .i64 4)]))∨∃ rows va vc,x=some rows∧e=.returned (.tuple #[.slice va rows.length vc,.nilIface])∧OwnsC w' W.heap.size (.slice va rows.length vc) rows)
def laidX (wh:Nat→Option (List Ch)):Option (Nat × List Ch):=match wh 1 with
  | some r=>some (1,r)
  | none=>match wh 0 with
    | some r=>some (0,r)
    | none=>none
def LaidSays (w:World)(wh:Nat→Option (List Ch))(e:Ending)(w':World):Prop :=
  Below w.heap.size w w'∧((laidX wh=none∧e=.returned (.tuple #[.int .i64 0,.slice none 0 0,.iface 90 (.int .i64 4)]))∨∃ side rows va vc,laidX wh=some (side,rows)∧e=.returned (.tuple #[.int .i64 (side:Nat),.slice va rows.length vc,.nilIface])∧OwnsC w' w.heap.size (.slice va rows.length vc) rows)
theorem laidX_at {wh:Nat→Option (List Ch)}{i:Nat}{r:List Ch}(hi:i<2)(hb:∀ j,j<i→wh (1 - j)=none)(h:wh (1 - i)=some r):laidX wh=some (1 - i,r):=by
  match i,hi with
  | 0,_=>unfold laidX;rw [show wh 1=some r from h]
  | 1,_=>unfold laidX;rw [show wh 1=none from hb 0 (by omega)];simp only;rw [show wh 0=some r from h]
theorem laidX_none {wh:Nat→Option (List Ch)}(hb:∀ j,j<2→wh (1 - j)=none):laidX wh=none:=by
  unfold laidX
  rw [show wh 1=none from hb 0 (by omega)]
  simp only
  rw [show wh 0=none from hb 1 (by omega)]
set_option maxRecDepth 100000 in
set_option maxHeartbeats 2000000 in
theorem storeLaid_any (p:Dp) (d:Dk) (w:World) (wh:Nat→Option (List Ch)) (h:DiskAt w p d) (hup:d.down=false) (h42:42≤d.now.length)
    (hw:∀ i:Nat,i≤1→∀ W,Below w.heap.size w W→Calls Tryz.prog 126 #[.pointer (some ⟨p.B,0,none⟩),.int .i64 i] W (WholeSays w (wh i) W)) :
    Calls Tryz.prog 88 #[.pointer (some ⟨p.B,0,none⟩)] w fun e w'=>LaidSays w wh e w':=by
  have HD:Hid (DiskAt w p d):=h
  have HW:Hid (∀ i:Nat,i≤1→∀ W,Below w.heap.size w W→Calls Tryz.prog 126 #[.pointer (some ⟨p.B,0,none⟩),.int .i64 i] W (WholeSays w (wh i) W)):=hw
  have kd:=down_any p d w h
  rw [hup] at kd
  have KD:Hid _:=kd
  have KS:Hid _:=sectors_any p d w h
  have KO:Hid _:=storeOther_any 1 w (by omega)
  have h60:=h.few
  have h42z:¬ (d.now.length:Int)<42:=by omega
  clear h hw kd
  go_enter Tryz.func88,Tryz.ntmps88
  go_wp2_with fail
  refine Calls.mono KD.out ?_
  rintro e w1 ⟨rfl,hw⟩
  rw [hw]
  clear hw w1 KD
  go_wp2_with fail
  refine Calls.mono KS.out ?_
  rintro e w1 ⟨rfl,hw⟩
  rw [hw]
  clear hw w1 KS
  go_wp2_with fail
  refine Calls.mono KO.out ?_
  rintro e w1 ⟨rfl,hw⟩
  rw [hw]
  clear hw w1 KO
  go_wp2_with fail
  go_loopg [19] 3 (fun kx vi wr=>∃ i:Nat,vi=.int .i64 i∧i≤2∧2 - i≤kx∧Hid (Below w.heap.size w wr)∧Hid (wr.heap[w.heap.size]?=some (.cells #[.int .i64 1,.int .i64 0] 3 (0,0)))∧Hid (∀ j,j<i→wh (1 - j)=none))
  case atStart=>exact ⟨0,rfl,by omega,by omega,(Below.refl _ _).alloc (Nat.le_refl _) _,heap_alloc_new w _,fun j hj=>absurd hj (Nat.not_lt_zero _)⟩
  case round =>
    obtain ⟨i,rfl,hi,hix,HB,HI,HNO⟩:=hrel
    by_cases hlt:i<2
    · have hltz:(i:Int)<2:=by omega
      obtain ⟨sd,hsd⟩:∃ sd,sd=1 - i:=⟨_,rfl⟩
      have hcell:wr.cell? ⟨w.heap.size,i,none⟩=some (.int .i64 sd):=by
        rw [cell_block HI.out,hsd]
        match i,hlt with
        | 0,_=>rfl
        | 1,_=>rfl
      have HSD:Hid (sd=1 - i):=hsd
      have KW:Hid _:=HW.out sd (by omega) wr HB.out
      clear hsd
      go_wp2_with fail
      refine Calls.mono KW.out ?_
      rintro e w2 ⟨hb2,hor⟩
      have HB2:Hid (Below w.heap.size w w2):=HB.out.trans (hb2.mono HB.out.size)
      have HI2:Hid (w2.heap[w.heap.size]?=some (.cells #[.int .i64 1,.int .i64 0] 3 (0,0))):=(hb2.block _ (Array.getElem?_eq_some_iff.1 HI.out).1).trans HI.out
      clear hb2 KW
      rcases hor with ⟨hno,rfl⟩ | ⟨rows,va,vc,hyes,rfl,ho⟩
      · have HN2:Hid (∀ j,j<i+1→wh (1 - j)=none):=fun j hj=>by
          by_cases e:j=i
          · subst e;rw [← HSD.out];exact hno
          · exact HNO.out j (by omega)
        clear hno
        go_wp2
        go_roundg (2 - (i+1))
        case measure=>omega
        case rel=>exact ⟨i+1,by go_num,by omega,Nat.le_refl _,HB2,HI2,HN2⟩
      · have HL:Hid (laidX wh=some (sd,rows)):=by show _=_;rw [HSD.out];exact laidX_at hlt HNO.out (by rw [← HSD.out];exact hyes)
        have HO:Hid (OwnsC w2 w.heap.size (.slice va rows.length vc) rows):=OwnsC.base ho HB.out.size
        clear hyes ho
        go_wp2
        go_ret3
        exact ⟨HB2.out,.inr ⟨sd,rows,va,vc,HL.out,rfl,HO.out⟩⟩
    · have hge:¬ (i:Int)<2:=by omega
      have HL:Hid (laidX wh=none):=laidX_none (fun j hj=>HNO.out j (by omega))
      go_wp2
      go_ret3
      exact ⟨HB.out,.inl ⟨HL.out,rfl⟩⟩
end Go.Proofs.YtihnghnafpgdfadGreatDoor
