/- What the proofs stand on, part 11: StoreBase, Builder, StoreHead, StoreRead, StoreText, StoreChunk, StoreFormat, StoreLay. -/
import Derived.Lib.Builder
import Derived.Lib.AppendStr
import Derived.Sort.LoopGhostIn
import Derived.Test.YtihnghnafpgdfadGreatDoorRk10
import Derived.Test.YtihnghnafpgdfadGreatDoorRk01
import Derived.Test.YtihnghnafpgdfadGreatDoorStrs
set_option linter.unusedVariables false
set_option linter.unusedSimpArgs false
namespace Go.Proofs.YtihnghnafpgdfadGreatDoor
open Go.RowKit Go.BigFrame
set_option maxRecDepth 100000 in
theorem storeOther_any (i:Nat)(w:World)(hi:i≤1) :
    Calls Tryz.prog 122 #[.int .i64 i] w fun e w'=>e=.returned (.int .i64 ((1 - i:Nat):Int))∧w'=w:=by
  have HE:Hid (((1 - i:Nat):Int)=1 - (i:Int)):=by show _=_;omega
  go_enter Tryz.func122,Tryz.ntmps122
  go_wp2
  go_ret
  rw [HE.out]
  exact ⟨rfl,rfl⟩
set_option maxRecDepth 100000 in
theorem storeSideAt_any (i:Nat)(w:World)(hi:i≤1) :
    Calls Tryz.prog 162 #[.int .i64 i] w fun e w'=>e=.returned (.int .i64 ((2+i * 12:Nat):Int))∧w'=w:=by
  have HE:Hid (((2+i * 12:Nat):Int)=2+(i:Int) * 12):=by show _=_;omega
  go_enter Tryz.func162,Tryz.ntmps162
  go_wp2
  go_ret
  rw [HE.out]
  exact ⟨rfl,rfl⟩
set_option maxRecDepth 100000 in
theorem storeLogSectors_any (p:Dp)(d:Dk)(w:World)(h:DiskAt w p d) :
    Calls Tryz.prog 90 #[.pointer (some ⟨p.B,0,none⟩)] w fun e w'=>e=.returned (.int .i64 ((d.now.length:Int) - 26))∧w'=w:=by
  have KS:Hid _:=sectors_any p d w h
  have h60:=h.few
  clear h
  go_enter Tryz.func90,Tryz.ntmps90
  go_wp2_with fail
  refine Calls.mono KS.out ?_
  rintro e w1 ⟨rfl,hw⟩
  rw [hw]
  clear hw w1
  go_wp2
  go_ret
  exact ⟨rfl,rfl⟩
set_option maxRecDepth 100000 in
theorem storeFirst_any (p:Dp)(d:Dk)(i:Nat)(w:World)(h:DiskAt w p d)(hi:i≤1)(h26:26≤d.now.length) :
    Calls Tryz.prog 91 #[.pointer (some ⟨p.B,0,none⟩),.int .i64 i] w fun e w'=>e=.returned (.int .i64 ((1+(1 - i) * (d.now.length - 26):Nat):Int))∧w'=w:=by
  have KS:Hid _:=storeLogSectors_any p d w h
  have h60:=h.few
  clear h
  match i,hi with
  | 0,_ =>
    have HE:Hid (((1+(1 - 0) * (d.now.length - 26):Nat):Int)=1+((d.now.length:Int) - 26)):=by show _=_;omega
    rw [HE.out]
    go_enter Tryz.func91,Tryz.ntmps91
    go_wp2_with fail
    refine Calls.mono KS.out ?_
    rintro e w1 ⟨rfl,hw⟩
    rw [hw]
    clear hw w1
    go_wp2
    go_ret
    exact ⟨rfl,rfl⟩
  | 1,_ =>
    have HE:Hid (((1+(1 - 1) * (d.now.length - 26):Nat):Int)=1):=by show _=_;omega
    rw [HE.out]
    go_enter Tryz.func91,Tryz.ntmps91
    go_wp2_with fail
    refine Calls.mono KS.out ?_
    rintro e w1 ⟨rfl,hw⟩
    rw [hw]
    clear hw w1
    go_wp2
    go_ret
    exact ⟨rfl,rfl⟩
set_option maxRecDepth 100000 in
set_option maxHeartbeats 1000000 in
theorem storeSettle_any (p:Dp)(d:Dk)(k:Nat)(s:ByteArray)(w:World)(h:DiskAt w p d)(hs:s.size≤1000)(hwr:d.wr.length<120) :
    Calls Tryz.prog 123 #[.pointer (some ⟨p.B,0,none⟩),.int .i64 k,.string s] w fun e w'=>e=.returned (errV (layD d k [s]).2)∧∃ u,DiskAt w' { p with wv:=u } (layD d k [s]).1∧Touch (dOwn p) w w'∧NewTo p w u:=by
  have HD:Hid (DiskAt w p d):=h
  have KW:Hid _:=diskWrite_new p d (k:Int) s w h (by unfold maxLen;omega) hwr
  clear h
  by_cases h0:writeN d (k:Int) s=0
  · have HL:Hid (layD d k [s]=(flushD (writeD d (k:Int) s),stepN (writeD d (k:Int) s))):=by
      show _=_
      unfold layD
      simp only [writesD,if_pos h0]
      rfl
    rw [h0,errV_zero rfl] at KW
    go_enter Tryz.func123,Tryz.ntmps123
    go_wp2_with fail
    refine Calls.mono KW.out ?_
    rintro e w1 ⟨rfl,u,hd1,hn1,hnew1⟩
    have KF:Hid (Calls Tryz.prog 29 #[.pointer (some ⟨p.B,0,none⟩)] w1 _):=diskFlush_any { p with wv:=u } _ w1 hd1
    have HT1:Hid (Touch (dOwn p) w w1):=hn1.touch
    have HN1:Hid (NewTo p w u):=hnew1
    clear hd1 hn1 hnew1 KW
    go_wp2_with fail
    refine Calls.mono KF.out ?_
    rintro e w2 ⟨rfl,hd2,hn2⟩
    have HT2:Hid (Touch (dOwn p) w w2):=HT1.out.step hn2.touch rfl rfl rfl HN1.out
    have HE2:Hid (∃ u',DiskAt w2 { p with wv:=u' } (flushD (writeD d (k:Int) s))∧Touch (dOwn p) w w2∧NewTo p w u'):=by
      unfold flushP at hd2
      split at hd2
      · exact ⟨_,hd2,HT2.out,fun k hk=>by cases hk⟩
      · exact ⟨_,hd2,HT2.out,HN1.out⟩
    clear hd2 hn2 KF
    go_wp2
    go_ret
    rw [HL.out]
    exact ⟨rfl,HE2.out⟩
  · have HL:Hid (layD d k [s]=(writeD d (k:Int) s,writeN d (k:Int) s)):=by
      show _=_
      unfold layD
      simp only [writesD,if_neg h0]
    have HEV:Hid _:=errV_pos h0
    rw [HEV.out] at KW
    go_enter Tryz.func123,Tryz.ntmps123
    go_wp2_with fail
    refine Calls.mono KW.out ?_
    rintro e w1 ⟨rfl,u,hd1,hn1,hnew1⟩
    have HA:Hid (∃ u',DiskAt w1 { p with wv:=u' } (writeD d (k:Int) s)∧Touch (dOwn p) w w1∧NewTo p w u'):=⟨u,hd1,hn1.touch,hnew1⟩
    clear hd1 hn1 hnew1 KW
    go_wp2
    go_ret
    rw [HL.out,HEV.out]
    exact ⟨rfl,HA.out⟩
def sumI (s:ByteArray):Nat→Int
  | 0=>14695981039346656037
  | i+1=>IntKind.u64.wrap (bits BinOp.xor IntKind.u64 (sumI s i) (byteAt s i) * 1099511628211)
theorem wrap_u64_rng (z:Int):0≤IntKind.u64.wrap z∧IntKind.u64.wrap z<18446744073709551616:=by
  rw [IntKind.wrap_u64];omega
theorem sumI_rng (s:ByteArray):∀ i,0≤sumI s i∧sumI s i<18446744073709551616
  | 0=>by simp [sumI]
  | i+1=>wrap_u64_rng _
def sumOf (s:ByteArray):Nat:=(sumI s s.size).toNat
theorem sumOf_int (s:ByteArray):((sumOf s:Nat):Int)=sumI s s.size:=by
  have:=(sumI_rng s s.size).1
  unfold sumOf
  omega
theorem sumOf_lt (s:ByteArray):sumOf s<18446744073709551616:=by
  have:=sumOf_int s
  have:=(sumI_rng s s.size).2
  omega
set_option maxRecDepth 100000 in
set_option maxHeartbeats 1000000 in
theorem storeSum_any (s:ByteArray)(w:World)(hs:s.size≤1000) :
    Calls Tryz.prog 159 #[.string s] w fun e w'=>e=.returned (.int .u64 (sumOf s))∧w'=w:=by
  rw [sumOf_int]
  go_enter Tryz.func159,Tryz.ntmps159
  go_wp2_with fail
  go_loopg [7,3] (s.size+1) (fun kx vi v3 wr=>∃ (i:Nat) (n:Int),vi=.int .i64 i∧v3=.int .u64 n∧0≤n∧n<18446744073709551616∧i≤s.size∧s.size - i≤kx∧wr=w∧Hid (n=sumI s i))
  case atStart=>exact ⟨0,14695981039346656037,rfl,rfl,by decide,by decide,by omega,by omega,rfl,(rfl:(14695981039346656037:Int)=sumI s 0)⟩
  case round =>
    obtain ⟨i,n,rfl,rfl,hn0,hn,hi,hix,rfl,HN⟩:=hrel
    by_cases hlt:i<s.size
    · have hltz:(i:Int)<(s.size:Int):=by omega
      have b0:=byteAt_eq (s:=s) (i:=i) hlt
      have l0:=byteAt_lt s i
      have HX:Hid (IntKind.u64.wrap (bits BinOp.xor IntKind.u64 n (byteAt s i) * 1099511628211)=sumI s (i+1)):=by show _=_;rw [HN.out];rfl
      have HG:=sumI_rng s (i+1)
      have HGR:Hid _:=HG
      clear HG
      go_wp2_with fail
      rw [HX.out]
      go_roundg (s.size - (i+1))
      case measure=>omega
      case rel=>exact ⟨i+1,sumI s (i+1),by go_num,rfl,HGR.out.1,HGR.out.2,by omega,Nat.le_refl _,rfl,(rfl:sumI s (i+1)=sumI s (i+1))⟩
    · have e:i=s.size:=by omega
      have HE:Hid (n=sumI s s.size):=by show _=_;rw [HN.out,e]
      clear e
      go_wp2
      go_ret
      rw [HE.out]
      exact ⟨rfl,rfl⟩
theorem Tryz.infoBuilder:(Tryz.prog.info? 239).isSome=true:=by kernel_rfl
set_option maxRecDepth 100000 in
set_option maxHeartbeats 1000000 in
theorem copyCheck_any (B b:Nat)(bs:List Value)(w:World)(h:Lib.IsBuilder 239 5 B b bs w) :
    Calls Tryz.prog 219 #[.pointer (some ⟨b,0,none⟩)] w fun e w'=>e=.returned (.tuple #[])∧Lib.BuilderAt 239 5 B b (.pointer (some ⟨b,0,none⟩)) bs w'∧Below B w w':=by
  obtain ⟨j,hj⟩:=Option.isSome_iff_exists.1 Tryz.infoBuilder
  rcases h with h | h
  · have c0:=h.cell0
    have f0:=h.frozen0
    have hsh:=h.shape
    have HU:Hid (Lib.BuilderAt 239 5 B b (.pointer (some ⟨b,0,none⟩)) bs (w.setCell ⟨b,0,none⟩ (.pointer (some ⟨b,0,none⟩)))):=h.used _
    have HBL:Hid (B≤b):=h.1
    have h1:(convert 237 286 (.pointer (some ⟨b,0,none⟩))).run Tryz.prog w=.ok (.pointer (some ⟨b,0,none⟩)) w:=Lib.run_to_unsafe (P:=Tryz.prog) w (t:=239) ⟨b,0,none⟩ (by kernel_rfl) (by kernel_rfl) hj (by
      have:(Tryz.prog.info? 239).map (·.size)=some 2:=by kernel_rfl
      rw [hj] at this
      simp at this
      omega) hsh (show 0<2 by decide)
    have h2:(convert 286 237 (.pointer (some ⟨b,0,none⟩))).run Tryz.prog w=.ok (.pointer (some ⟨b,0,none⟩)) w:=Lib.run_from_unsafe (P:=Tryz.prog) w (u:=239) ⟨b,0,none⟩ (by kernel_rfl) (by kernel_rfl) hj hsh (by kernel_rfl)
    clear hsh h
    go_enter Tryz.func219,Tryz.ntmps219
    go_wp2
    rw [run_callFunc_extern Tryz.func239 (by kernel_rfl) (by kernel_rfl) (by kernel_rfl) (e:=Extern.AbiNoEscape.same) (by kernel_rfl),Lib.run_noEscape]
    simp only [Result.andThen,Oper.upon_value]
    go_wp2
    go_end0
    exact ⟨rfl,HU.out,(Below.refl B w).setCell HBL.out _⟩
  · have c0:=h.cell0
    have HU:Hid (Lib.BuilderAt 239 5 B b (.pointer (some ⟨b,0,none⟩)) bs w):=h
    have hq:=Lib.run_neq_ptr_same (P:=Tryz.prog) w (tp:=237) (te:=239) ⟨b,0,none⟩ (by kernel_rfl) hj
    clear h
    go_enter Tryz.func219,Tryz.ntmps219
    go_wp2
    go_end0
    exact ⟨rfl,HU.out,Below.refl _ _⟩
theorem Tryz.infoUint8:(Tryz.prog.info? 5).map (fun i=>(i.zero,i.size,i.bytes))=some (some (.int .u8 0),1,1):=by kernel_rfl
theorem builder_grown {B b:Nat}{p v v':Value}{bs cs:List Value}{w1 w2:World}(hB:B≤b)(hbk:w1.heap[b]?=some (.cells #[p,v] 239 (0,0)))(hne:v.ownBlock≠some b)(hg:w1.grownBy w2 v.ownBlock)(hown:w2.ownsRow B 5 1 v' (bs ++ cs).length (bs ++ cs)) :
    Lib.BuilderAt 239 5 B b p (bs ++ cs) (w2.setCell ⟨b,1,none⟩ v')∧w2.cell? ⟨b,1,none⟩=some v∧w2.frozen? ⟨b,1,none⟩=false:=by
  have hb2:w2.heap[b]?=some (.cells #[p,v] 239 (0,0)):=(hg.block b (Array.getElem?_eq_some_iff.1 hbk).1 (fun e=>hne e.symm)).trans hbk
  exact ⟨Lib.BuilderAt.put hB hb2 hown (by decide),by rw [Lib.cell_of_heap hb2];rfl,Lib.frozen_of_heap hb2 1⟩
set_option maxRecDepth 100000 in
set_option maxHeartbeats 2000000 in
theorem writeByte_any (B b:Nat)(bs:List Value)(c:Int)(w:World)(h:Lib.IsBuilder 239 5 B b bs w)(hlen:bs.length≤100000)(hBw:B≤w.heap.size) :
    Calls Tryz.prog 193 #[.pointer (some ⟨b,0,none⟩),.int .u8 c] w fun e w'=>e=.returned .nilIface∧Lib.BuilderAt 239 5 B b (.pointer (some ⟨b,0,none⟩)) (bs ++ [.int .u8 c]) w'∧Below B w w':=by
  obtain ⟨i0,hi,hz0,hz1,hz2⟩:=info_parts Tryz.infoUint8
  have KC:Hid _:=copyCheck_any B b bs w h
  clear h
  go_enter Tryz.func193,Tryz.ntmps193
  go_wp2_with fail
  refine Calls.mono KC.out ?_
  rintro e w1 ⟨rfl,⟨hB,v,hbk,hown,hne⟩,hb1⟩
  obtain ⟨va,vc,hv⟩:=row_shape hown
  subst hv
  have c1:w1.cell? ⟨b,1,none⟩=some (.slice va bs.length vc):=by rw [Lib.cell_of_heap hbk];rfl
  have HBK:Hid _:=hbk
  have HNE:Hid _:=hne
  have HO:Hid (∀ o,(w1.alloc o).ownsRow B 5 1 (.slice va bs.length vc) bs.length bs):=fun o=>ownsRow_far hown (fun k hk=>((Below.refl w1.heap.size w1).alloc (Nat.le_refl _) o).block k (hown.lt k hk).2)
  have HB1:Hid (∀ o,Below B w (w1.alloc o)):=fun o=>hb1.alloc (Nat.le_trans hBw hb1.size) o
  have HSZ:Hid (∀ o,B≤(w1.alloc o).heap.size):=fun o=>Nat.le_trans hBw (HB1.out o).size
  have HFIN:Hid (∀ o w2 v',(w1.alloc o).grownBy w2 (Value.slice va bs.length vc).ownBlock→w2.ownsRow B 5 1 v' (bs.length+1) (bs ++ [.int .u8 c])→(Lib.BuilderAt 239 5 B b (.pointer (some ⟨b,0,none⟩)) (bs ++ [.int .u8 c]) (w2.setCell ⟨b,1,none⟩ v')∧w2.cell? ⟨b,1,none⟩=some (.slice va bs.length vc)∧w2.frozen? ⟨b,1,none⟩=false)∧Below B w (w2.setCell ⟨b,1,none⟩ v')):=fun o w2 v' hg ho =>
    ⟨builder_grown hB (((Below.refl w1.heap.size w1).alloc (Nat.le_refl _) o).block b (Array.getElem?_eq_some_iff.1 hbk).1 |>.trans hbk) hne hg (by rw [List.length_append];exact ho),((HB1.out o).grown hg (HSZ.out o) (fun k hk=>((HO.out o).lt k hk).1)).setCell hB _⟩
  clear hown hne hbk hb1 KC
  go_wp2_with (at_builtin;refine wpList_append_own _ rfl _ _ 115 rfl B 5 i0 _ 1 1 (by kernel_rfl) hi hz0 hz1 hz2 rfl (by decide) (.slice va bs.length vc) bs.length bs rfl (HO.out _) ⟨w1.heap.size,0,none⟩ 1 1 [.int .u8 c] rfl rfl (cell_one_new _ _ _) (fun u hu=>by simp at hu;subst hu;rfl) (by unfold maxLen;omega) (by omega) (HSZ.out _) ?_;intro v' w2 hown' hgrow hnil;obtain ⟨xa,xc,rfl⟩:=row_shape hown';obtain ⟨⟨hA,d1,f1⟩,hbf⟩:=HFIN.out _ _ _ hgrow hown';have HA:Hid _:=hA;have HBF:Hid _:=hbf;clear hA hbf hown' hgrow hnil)
  go_wp2
  go_ret
  exact ⟨rfl,HA.out,HBF.out⟩
set_option maxRecDepth 100000 in
set_option maxHeartbeats 2000000 in
theorem writeString_any (B b : Nat) (bs:List Value) (s:ByteArray) (w:World) (h:Lib.IsBuilder 239 5 B b bs w) (hlen:bs.length≤100000) (hs:s.size≤100000) (hBw:B≤w.heap.size) :
    Calls Tryz.prog 186 #[.pointer (some ⟨b,0,none⟩),.string s] w fun e w'=>e=.returned (.tuple #[.int .i64 s.size,.nilIface])∧Lib.BuilderAt 239 5 B b (.pointer (some ⟨b,0,none⟩)) (bs ++ Lib.strCells s) w'∧Below B w w':=by
  obtain ⟨i0,hi,hz0,hz1,hz2⟩:=info_parts Tryz.infoUint8
  have KC:Hid _:=copyCheck_any B b bs w h
  clear h
  go_enter Tryz.func186,Tryz.ntmps186
  go_wp2_with fail
  refine Calls.mono KC.out ?_
  rintro e w1 ⟨rfl,⟨hB,v,hbk,hown,hne⟩,hb1⟩
  obtain ⟨va,vc,hv⟩:=row_shape hown
  subst hv
  have c1:w1.cell? ⟨b,1,none⟩=some (.slice va bs.length vc):=by rw [Lib.cell_of_heap hbk];rfl
  have HO:Hid (w1.ownsRow B 5 1 (.slice va bs.length vc) bs.length bs):=hown
  have HSZ:Hid (B≤w1.heap.size):=Nat.le_trans hBw hb1.size
  have HFIN:Hid (∀ w2 v',w1.grownBy w2 (Value.slice va bs.length vc).ownBlock→w2.ownsRow B 5 1 v' (bs.length+s.size) (bs ++ Lib.strCells s)→(Lib.BuilderAt 239 5 B b (.pointer (some ⟨b,0,none⟩)) (bs ++ Lib.strCells s) (w2.setCell ⟨b,1,none⟩ v')∧w2.cell? ⟨b,1,none⟩=some (.slice va bs.length vc)∧w2.frozen? ⟨b,1,none⟩=false)∧Below B w (w2.setCell ⟨b,1,none⟩ v')):=fun w2 v' hg ho =>
    ⟨builder_grown hB hbk hne hg (by have e:(bs ++ Lib.strCells s).length=bs.length+s.size:=by have:=ho.1;omega
                                     rw [e];exact ho),(hb1.grown hg HSZ.out (fun k hk=>(HO.out.lt k hk).1)).setCell hB _⟩
  clear hown hne hbk hb1 KC
  go_wp2_with (at_builtin;refine Lib.wpList_append_own_string _ rfl _ _ 115 9 rfl B 5 i0 (by kernel_rfl) (by kernel_rfl) hi hz0 hz1 hz2 (.slice va bs.length vc) bs.length bs rfl HO.out s rfl (by unfold maxLen;omega) (by omega) HSZ.out ?_;intro v' w2 hown' hgrow hnil;obtain ⟨xa,xc,rfl⟩:=row_shape hown';obtain ⟨⟨hA,d1,f1⟩,hbf⟩:=HFIN.out _ _ hgrow hown';have HA:Hid _:=hA;have HBF:Hid _:=hbf;clear hA hbf hown' hgrow hnil)
  go_wp2
  go_ret2
  exact ⟨rfl,HA.out,HBF.out⟩
def markL:List UInt8:=[112,97,116,99,104,113,117,105,108,116]
def headL (i:Nat)(s:ByteArray):List UInt8:=markL ++ ([UInt8.ofNat i,UInt8.ofNat (s.size / 40)] ++ leB 8 (sumOf s))
theorem headL_length (i:Nat)(s:ByteArray):(headL i s).length=20:=by simp [headL,markL,leB_length]
theorem two_cells (W:World)(a b:Nat)(ha:a<256)(hb:b<256)(T:TypeId):∀ j (hj:j < [UInt8.ofNat a,UInt8.ofNat b].length),(W.alloc (Obj.cells #[.int .u8 a,.int .u8 b] T)).cell? ((⟨W.heap.size,0,none⟩:Addr).add j)=some (.int .u8 ([UInt8.ofNat a,UInt8.ofNat b][j].toNat:Int)):=by
  intro j hj
  have e:∀ k,k<256→(UInt8.ofNat k).toNat=k:=fun k hk=>by simp;omega
  match j,hj with
  | 0,_=>simp [Addr.add];omega
  | 1,_=>simp [Addr.add];omega
theorem two_cells_far {W w':World}{a b:Nat}{T:TypeId}(ha:a<256)(hb:b<256)(h:Below (W.alloc (Obj.cells #[.int .u8 a,.int .u8 b] T)).heap.size (W.alloc (Obj.cells #[.int .u8 a,.int .u8 b] T)) w'):∀ j (hj:j < [UInt8.ofNat a,UInt8.ofNat b].length),w'.cell? ((⟨W.heap.size,0,none⟩:Addr).add j)=some (.int .u8 ([UInt8.ofNat a,UInt8.ofNat b][j].toNat:Int)):=fun j hj=>by
  have h1:=two_cells W a b ha hb T j hj
  rw [h.cell (World.block_lt_of_cell? _ _ h1)]
  exact h1
set_option maxRecDepth 100000 in
set_option maxHeartbeats 2000000 in
theorem storeHead_any (i:Nat)(s:ByteArray)(w:World)(hi:i≤1)(hs:s.size≤1000) :
    Calls Tryz.prog 124 #[.int .i64 i,.string s] w fun e w'=>e=.returned (.string (baL (headL i s)))∧Below w.heap.size w w':=by
  obtain ⟨c,hc⟩:∃ c,c=s.size / 40:=⟨_,rfl⟩
  have hc2:c<256:=by omega
  have hcz:(s.size:Int) / 40=(c:Int):=by omega
  have HY:Hid (baL (headL i s)=baL markL ++ baL [UInt8.ofNat i,UInt8.ofNat c] ++ baL (leB 8 (sumOf s))):=by
    show _=_
    rw [baL_append,baL_append,List.append_assoc,hc];rfl
  have hcv:∀ W:World,(convert 115 9 (.slice (some ⟨W.heap.size,0,none⟩) 2 2)).run Tryz.prog (W.alloc (Obj.cells #[.int .u8 i,.int .u8 c] 5))=.ok (.string (baL [UInt8.ofNat i,UInt8.ofNat c])) (W.alloc (Obj.cells #[.int .u8 i,.int .u8 c] 5)):=fun W =>
    run_convert_bytes_back (P:=Tryz.prog) (W.alloc (Obj.cells #[.int .u8 i,.int .u8 c] 5)) 115 9 5 ⟨W.heap.size,0,none⟩ 2 [UInt8.ofNat i,UInt8.ofNat c] (by kernel_rfl) (by kernel_rfl) (by kernel_rfl) (two_cells W i c (by omega) hc2 5)
  have HFAR:Hid (∀ W w':World,Below (W.alloc (Obj.cells #[.int .u8 i,.int .u8 c] 5)).heap.size (W.alloc (Obj.cells #[.int .u8 i,.int .u8 c] 5)) w'→(convert 115 9 (.slice (some ⟨W.heap.size,0,none⟩) 2 2)).run Tryz.prog w'=.ok (.string (baL [UInt8.ofNat i,UInt8.ofNat c])) w'):=fun W w' hb =>
    run_convert_bytes_back (P:=Tryz.prog) w' 115 9 5 ⟨W.heap.size,0,none⟩ 2 [UInt8.ofNat i,UInt8.ofNat c] (by kernel_rfl) (by kernel_rfl) (by kernel_rfl) (two_cells_far (by omega) hc2 hb)
  have hcv0:(convert 115 9 (.slice (some ⟨w.heap.size,0,none⟩) 2 2)).run Tryz.prog (w.alloc (Obj.cells #[.int .u8 i,.int .u8 c] 5)).drew=.ok (.string (baL [UInt8.ofNat i,UInt8.ofNat c])) (w.alloc (Obj.cells #[.int .u8 i,.int .u8 c] 5)).drew:=HFAR.out w _ (Below.refl _ _).drew
  have KS:Hid (∀ W,Calls Tryz.prog 159 #[.string s] W fun e w'=>e=.returned (.int .u64 (sumOf s))∧w'=W):=fun W=>storeSum_any s W hs
  have KB:Hid (∀ W,Calls Tryz.prog 158 #[.int .u64 (sumOf s),.int .i64 8] W fun e w'=>e=.returned (.string (baL (leB 8 (sumOf s))))∧Below W.heap.size W w'):=fun W=>numBytes_any (sumOf s) 8 W (sumOf_lt s) (by omega)
  have hz1:(baL markL).size=10:=rfl
  have hz2:(baL [UInt8.ofNat i,UInt8.ofNat c]).size=2:=rfl
  have hz3:(baL (leB 8 (sumOf s))).size=8:=by rw [baL_size,leB_length]
  have hz4:(baL markL ++ baL [UInt8.ofNat i,UInt8.ofNat c]).size=12:=by rw [ByteArray.size_append,hz1,hz2]
  rw [HY.out]
  change Calls _ _ _ _ fun e w'=>e=.returned (.string ((⟨#[112,97,116,99,104,113,117,105,108,116]⟩:ByteArray) ++ baL [UInt8.ofNat i,UInt8.ofNat c] ++ baL (leB 8 (sumOf s))))∧Below w.heap.size w w'
  generalize baL (leB 8 (sumOf s))=Z at *
  generalize baL [UInt8.ofNat i,UInt8.ofNat c]=Y at *
  generalize sumOf s=S at *
  clear hc HY
  have hw1:IntKind.u8.wrap (i:Int)=(i:Int):=by rw [IntKind.wrap_u8];omega
  have hw2:IntKind.i64.wrap (c:Int)=(c:Int):=wrap_near (by omega)
  have hw3:IntKind.u8.wrap (c:Int)=(c:Int):=by rw [IntKind.wrap_u8];omega
  go_enter Tryz.func124,Tryz.ntmps124
  go_wp2_with fail
  go_region_law
    (first
      | (go_simp
         go_at_call 159
         refine Calls.mono (KS.out _) ?_
         rintro e w5 ⟨rfl,hw⟩
         rw [hw]
         clear hw w5)
      | (go_simp
         go_at_call 158
         refine Calls.mono (KB.out (w.alloc (Obj.cells #[.int .u8 i,.int .u8 c] 5)).drew) ?_
         rintro e wa ⟨rfl,hb⟩
         have hcv2:=HFAR.out w wa ⟨hb.os,hb.tape,hb.output,hb.size,hb.block⟩
         have HB5:Hid (Below w.heap.size w wa):=((Below.refl w.heap.size w).alloc (Nat.le_refl _) _).drew.trans (hb.mono ((Below.refl w.heap.size w).alloc (Nat.le_refl _) _).drew.size)
         clear hb)
      | (go_simp
         go_at_call 158
         refine Calls.mono (KB.out w.drew) ?_
         rintro e wa ⟨rfl,hb⟩
         have HB5:Hid (Below w.heap.size w wa):=(Below.refl w.heap.size w).drew.trans hb
         clear hb))
  all_goals
    go_wp2
    go_ret
    first
      | exact ⟨rfl,HB5.out⟩
      | exact ⟨rfl,HB5.out.alloc HB5.out.size _⟩
theorem read_at {d:Dk}{start many i:Nat}(hup:d.down=false)(hin:start+many≤d.now.length)(hi:i<many):∃ h:i<(regionL d.now start many).length,readD d ((start:Int)+(i:Int))=((regionL d.now start many)[i],0):=by
  have hl:=regionL_length hin
  refine ⟨by omega,?_⟩
  have hn:start+i<d.now.length:=by omega
  unfold readD
  rw [if_neg (by rw [hup];decide),if_pos (by omega),show ((start:Int)+(i:Int)).toNat=start+i by omega]
  have:=regionL_at (now:=d.now) (from':=start) (many:=many) (j:=i)
  rw [if_pos hi,List.getElem?_eq_getElem (by omega),List.getElem?_eq_getElem hn] at this
  rw [Option.some.inj this]
  simp [hn]
theorem region_len40 {d:Dk}{start many:Nat}(h:Forty d.now){i:Nat}(hi:i<(regionL d.now start many).length):(regionL d.now start many)[i].length=40 :=
  h _ (List.mem_of_mem_drop (List.mem_of_mem_take (List.getElem_mem hi)))
theorem flat_len:∀ {R:List (List UInt8)},(∀ x ∈ R,x.length=40)→R.flatten.length=R.length * 40
  | [],_=>rfl
  | x :: R,h=>by
    have:=flat_len (R:=R) (fun y hy=>h y (List.mem_cons_of_mem _ hy))
    rw [List.flatten_cons,List.length_append,this,h x (by simp),List.length_cons]
    omega
theorem byteCells_more (l:List UInt8)(x:List UInt8):Lib.byteCells l ++ Lib.strCells (baL x)=Lib.byteCells (l ++ x):=by
  unfold Lib.byteCells Lib.strCells
  rw [baL_list,List.map_append]
theorem byteCells_len (l:List UInt8):(Lib.byteCells l).length=l.length:=by unfold Lib.byteCells;simp
theorem isBuilder_below {B b:Nat}{bs:List Value}{w w':World}(h:Lib.IsBuilder 239 5 B b bs w)(hb:Below w.heap.size w w'):Lib.IsBuilder 239 5 B b bs w':=by
  have go:∀ p,Lib.BuilderAt 239 5 B b p bs w→Lib.BuilderAt 239 5 B b p bs w':=fun p ⟨hB,v,hbk,hown,hne⟩ =>
    ⟨hB,v,by rw [hb.block b (Array.getElem?_eq_some_iff.1 hbk).1];exact hbk,ownsRow_far hown (fun k hk=>hb.block k (hown.lt k hk).2),hne⟩
  rcases h with h | h
  · exact .inl (go _ h)
  · exact .inr (go _ h)
set_option maxRecDepth 100000 in
set_option maxHeartbeats 2000000 in
theorem storeRead_any (p:Dp) (d:Dk) (start many:Nat) (w:World) (h:DiskAt w p d) (hup:d.down=false) (hin:start+many≤d.now.length) :
    Calls Tryz.prog 161 #[.pointer (some ⟨p.B,0,none⟩),.int .i64 start,.int .i64 many] w fun e w'=>e=.returned (.tuple #[.string (baL (regionL d.now start many).flatten),.nilIface])∧Below w.heap.size w w':=by
  have HD:Hid (DiskAt w p d):=h
  have h60:=h.few
  have HF:Hid (Forty d.now):=h.snow
  have HUP:Hid (d.down=false):=hup
  have HIN:Hid (start+many≤d.now.length):=hin
  have hlen:(regionL d.now start many).length=many:=regionL_length hin
  have HLEN:Hid _:=hlen
  have hm60:start+many≤60:=by omega
  clear h hup hin hlen
  obtain ⟨R,hR⟩:∃ R,R=regionL d.now start many:=⟨_,rfl⟩
  have HR:Hid (R=regionL d.now start many):=hR
  rw [← hR] at HLEN ⊢
  clear hR
  have HSZ:Hid (∀ i,(R.take i).flatten.length≤2400):=fun i=>by
    rw [flat_len (fun x hx=>by rw [HR.out] at hx;exact HF.out x (List.mem_of_mem_drop (List.mem_of_mem_take (List.mem_of_mem_take hx))))]
    have:=HLEN.out
    rw [List.length_take]
    omega
  go_enter Tryz.func161,Tryz.ntmps161
  go_wp2_with fail
  go_loopg [13] (many+1) (fun kx vi wr=>∃ i:Nat,vi=.int .i64 i∧i≤many∧many - i≤kx∧Hid (Lib.IsBuilder 239 5 w.heap.size w.heap.size (Lib.byteCells (R.take i).flatten) wr)∧Hid (Below w.heap.size w wr))
  case atStart=>exact ⟨0,rfl,by omega,by omega,Lib.fresh_isBuilder _ _ w,(Below.refl _ _).alloc (Nat.le_refl _) _⟩
  case round =>
    obtain ⟨i,rfl,hi,hix,HB,HBL⟩:=hrel
    by_cases hlt:i<many
    · have hltz:(i:Int)<(many:Int):=by omega
      obtain ⟨hri,hrd⟩:=read_at HUP.out HIN.out hlt
      have kr:=diskRead_any p d ((start:Int)+(i:Int)) wr (HD.out.below HBL.out)
      rw [hrd,errV_zero rfl] at kr
      have hx40:=region_len40 HF.out hri
      obtain ⟨x,hx⟩:∃ x,x=(regionL d.now start many)[i]:=⟨_,rfl⟩
      rw [← hx] at kr hx40
      have HX:Hid (∃ hh:i<R.length,x=R[i]):=⟨by rw [HR.out];exact hri,by simp only [HR.out];exact hx⟩
      have KR:Hid (Calls Tryz.prog 160 #[.pointer (some ⟨p.B,0,none⟩),.int .i64 ((start:Int)+(i:Int))] wr fun e w'=>e=.returned (.tuple #[.string (baL x),.nilIface])∧w'=wr):=kr
      have KW:Hid _:=writeString_any w.heap.size w.heap.size _ (baL x) wr HB.out (by rw [byteCells_len];have:=HSZ.out i;omega) (by rw [baL_size];omega) HBL.out.size
      clear kr hrd hx hri
      have HNX:Hid (Lib.byteCells (R.take i).flatten ++ Lib.strCells (baL x)=Lib.byteCells (R.take (i+1)).flatten):=by
        show _=_
        obtain ⟨hh,e⟩:=HX.out
        rw [byteCells_more,List.take_succ_eq_append_getElem hh,List.flatten_append,e]
        simp
      rw [HNX.out] at KW
      go_wp2_with fail
      refine Calls.mono KR.out ?_
      rintro e w2 ⟨rfl,hw⟩
      rw [hw]
      clear hw w2 KR
      go_wp2_with fail
      refine Calls.mono KW.out ?_
      rintro e w3 ⟨rfl,hb3,hbl3⟩
      have HB3:Hid (Lib.IsBuilder 239 5 w.heap.size w.heap.size (Lib.byteCells (R.take (i+1)).flatten) w3):=.inr hb3
      have HBL3:Hid (Below w.heap.size w w3):=HBL.out.trans hbl3
      clear hb3 hbl3 KW
      go_wp2
      go_roundg (many - (i+1))
      case measure=>omega
      case rel=>exact ⟨i+1,by go_num,by omega,Nat.le_refl _,HB3,HBL3⟩
    · have HALL:Hid (R.take i=R):=List.take_of_length_le (by have:=HLEN.out;omega)
      have ks:=Tryz.Builder_String_any w.heap.size w.heap.size _ wr HB.out HBL.out.size
      rw [HALL.out] at ks
      have KS:Hid _:=ks
      clear ks
      go_wp2_with fail
      refine Calls.mono KS.out ?_
      rintro e w3 ⟨rfl,hbl3⟩
      have HBL3:Hid (Below w.heap.size w w3):=HBL.out.trans hbl3
      clear hbl3 KS
      go_wp2
      go_ret2
      exact ⟨rfl,HBL3.out⟩
def rowL (c:Ch):List UInt8:=UInt8.ofNat (bytesC c).length :: (bytesC c ++ List.replicate (39 - (bytesC c).length) 0)
theorem rowL_length {c:Ch}(h:changeF c=0):(rowL c).length=40:=by
  have:=bytesC_len h
  simp [rowL];omega
def textL (rows:List Ch):List UInt8:=(rows.map rowL).flatten
theorem textL_length {rows:List Ch}(h:∀ c ∈ rows,changeF c=0):(textL rows).length=rows.length * 40:=by
  unfold textL
  rw [flat_len (fun x hx=>by obtain ⟨c,hc,rfl⟩:=List.mem_map.1 hx;exact rowL_length (h c hc)),List.length_map]
theorem textL_snoc (l:List Ch)(c:Ch):textL (l ++ [c])=textL l ++ rowL c:=by simp [textL]
theorem repeat_nought:∀ n,Lib.repeatL [0] n=List.replicate n 0
  | 0=>rfl
  | n+1=>by rw [Lib.repeatL,repeat_nought n];rfl
theorem row_cells (l:List UInt8)(c:Ch)(h:(bytesC c).length<256):Lib.byteCells l ++ [Value.int .u8 ((bytesC c).length:Nat)] ++ Lib.strCells (baL (bytesC c)) ++ Lib.strCells (baL (List.replicate (39 - (bytesC c).length) 0))=Lib.byteCells (l ++ rowL c):=by
  have e:[Value.int .u8 ((bytesC c).length:Nat)]=Lib.byteCells [UInt8.ofNat (bytesC c).length]:=by
    unfold Lib.byteCells
    have:(UInt8.ofNat (bytesC c).length).toNat=(bytesC c).length:=by simp;omega
    simp [this]
  rw [e]
  have a:∀ x y:List UInt8,Lib.byteCells x ++ Lib.byteCells y=Lib.byteCells (x ++ y):=fun x y=>by unfold Lib.byteCells;rw [List.map_append]
  rw [a,byteCells_more,byteCells_more]
  unfold rowL
  simp
set_option maxRecDepth 100000 in
set_option maxHeartbeats 4000000 in
theorem storeTextOf_any (a:Option Addr) (cap:Nat) (l:List Ch) (w:World) (hl:l.length≤100) (hc:CC w a l) (hok:∀ c ∈ l,changeF c=0) :
    Calls Tryz.prog 151 #[.slice a l.length cap] w fun e w'=>e=.returned (.string (baL (textL l)))∧Below w.heap.size w w':=by
  have HC:Hid (CC w a l):=hc
  have HOK:Hid (∀ c ∈ l,changeF c=0):=hok
  have HSZ:Hid (∀ i,(textL (l.take i)).length≤4000):=fun i=>by
    rw [textL_length (fun c hc=>hok c (List.mem_of_mem_take hc)),List.length_take]
    omega
  clear hc hok
  go_enter Tryz.func151,Tryz.ntmps151
  go_wp2_with fail
  go_loopg [10] (l.length+1) (fun kx vi wr=>∃ i:Nat,vi=.int .i64 i∧i≤l.length∧l.length - i≤kx∧Hid (Lib.IsBuilder 239 5 w.heap.size w.heap.size (Lib.byteCells (textL (l.take i))) wr)∧Hid (Below w.heap.size w wr))
  case atStart=>exact ⟨0,rfl,by omega,by omega,Lib.fresh_isBuilder _ _ w,(Below.refl _ _).alloc (Nat.le_refl _) _⟩
  case round =>
    obtain ⟨i,rfl,hi,hix,HB,HBL⟩:=hrel
    by_cases hlt:i<l.length
    · have hltz:(i:Int)<(l.length:Int):=by omega
      obtain ⟨cb,co,rfl,c0,c1,c2⟩:=(HC.out.below HBL.out) i hlt
      have hf:changeF l[i]=0:=HOK.out _ (List.getElem_mem hlt)
      obtain ⟨x,hx⟩:∃ x,x=l[i]:=⟨_,rfl⟩
      rw [← hx] at c0 c1 c2 hf
      have hbl:(bytesC x).length≤26:=bytesC_len hf
      have HTX:Hid (textL (l.take (i+1))=textL (l.take i) ++ rowL x):=by show _=_;rw [List.take_succ_eq_append_getElem hlt,textL_snoc,hx]
      clear hx
      have kb:=fun W=>rowBytes_any x W
      rw [hf,errV_zero rfl,if_pos rfl] at kb
      obtain ⟨n,hn⟩:∃ n,n=(bytesC x).length:=⟨_,rfl⟩
      have hn26:n≤26:=by omega
      obtain ⟨Y,hY⟩:∃ Y,Y=baL (bytesC x):=⟨_,rfl⟩
      have hYs:Y.size=n:=by rw [hY,baL_size,hn]
      have KB:Hid (∀ o,Calls Tryz.prog 192 #[x.v] (wr.alloc o) fun e w'=>e=.returned (.tuple #[.string Y,.nilIface])∧Below wr.heap.size wr w'):=fun o=>(kb (wr.alloc o)).mono fun e w' ⟨he,hb⟩=>⟨by rw [hY];exact he,((Below.refl wr.heap.size wr).alloc (Nat.le_refl _) o).trans (hb.mono ((Below.refl wr.heap.size wr).alloc (Nat.le_refl _) o).size)⟩
      have HROW:Hid (Lib.byteCells (textL (l.take i)) ++ [Value.int .u8 (n:Int)] ++ Lib.strCells Y ++ Lib.strCells (baL (List.replicate (39 - n) 0))=Lib.byteCells (textL (l.take (i+1)))):=by
        show _=_
        rw [HTX.out,hY,hn]
        exact row_cells _ x (by omega)
      have HS0:Hid ((Lib.byteCells (textL (l.take i))).length≤4000):=by show _≤_;rw [byteCells_len];exact HSZ.out i
      have HYC:Hid ((Lib.strCells Y).length=n):=by show _=_;rw [Lib.strCells_length,hYs]
      have KP:Hid (∀ W,Calls Tryz.prog 147 #[.string ⟨#[0]⟩,.int .i64 (39 - (n:Int))] W fun e w'=>e=.returned (.string (baL (List.replicate (39 - n) 0)))∧Below W.heap.size W w'):=fun W=>by
        have h:=Tryz.strings_Repeat ⟨#[0]⟩ (39 - n) W (by omega) (by have:(⟨#[0]⟩:ByteArray).size=1:=rfl;rw [this];omega)
        rw [show (((39 - n:Nat):Nat):Int)=39 - (n:Int) by omega] at h
        have e:Lib.repeatL (⟨#[0]⟩:ByteArray).data.toList (39 - n)=List.replicate (39 - n) 0:=repeat_nought _
        rw [e] at h
        exact h
      clear kb hn hY HTX hf hbl
      generalize hZ:baL (List.replicate (39 - n) 0)=Z at *
      have hZs:Z.size≤39:=by rw [← hZ,baL_size,List.length_replicate];omega
      clear hZ
      go_wp2_with fail
      refine Calls.mono (KB.out _) ?_
      rintro e w2 ⟨rfl,hb2⟩
      have HBL2:Hid (Below w.heap.size w w2):=HBL.out.trans (hb2.mono HBL.out.size)
      have HB2:Hid _:=isBuilder_below HB.out hb2
      have KW1:Hid _:=writeByte_any w.heap.size w.heap.size _ (n:Int) w2 HB2.out (by have:=HS0.out;omega) HBL2.out.size
      clear hb2
      go_wp2_with fail
      refine Calls.mono KW1.out ?_
      rintro e w3 ⟨rfl,hb3,hbl3⟩
      have HBL3:Hid (Below w.heap.size w w3):=HBL2.out.trans hbl3
      have KW2:Hid _:=writeString_any w.heap.size w.heap.size _ Y w3 (.inr hb3) (by have:=HS0.out;simp;omega) (by omega) HBL3.out.size
      clear hb3 hbl3 KW1
      go_wp2_with fail
      refine Calls.mono KW2.out ?_
      rintro e w4 ⟨rfl,hb4,hbl4⟩
      have HBL4:Hid (Below w.heap.size w w4):=HBL3.out.trans hbl4
      have HB4:Hid _:=hb4
      clear hb4 hbl4 KW2
      go_wp2_with fail
      refine Calls.mono (KP.out _) ?_
      rintro e w5 ⟨rfl,hb5⟩
      have HBL5:Hid (Below w.heap.size w w5):=HBL4.out.trans (hb5.mono HBL4.out.size)
      have KW3:Hid _:=writeString_any w.heap.size w.heap.size _ Z w5 (isBuilder_below (.inr HB4.out) hb5) (by have:=HS0.out;have:=HYC.out;simp;omega) (by omega) HBL5.out.size
      rw [HROW.out] at KW3
      clear hb5 KP
      go_wp2_with fail
      refine Calls.mono KW3.out ?_
      rintro e w6 ⟨rfl,hb6,hbl6⟩
      have HBL6:Hid (Below w.heap.size w w6):=HBL5.out.trans hbl6
      have HB6:Hid (Lib.IsBuilder 239 5 w.heap.size w.heap.size (Lib.byteCells (textL (l.take (i+1)))) w6):=.inr hb6
      clear hb6 hbl6 KW3
      go_wp2
      go_roundg (l.length - (i+1))
      case measure=>omega
      case rel=>exact ⟨i+1,by go_num,by omega,Nat.le_refl _,HB6,HBL6⟩
    · have HALL:Hid (l.take i=l):=List.take_of_length_le (by omega)
      have ks:=Tryz.Builder_String_any w.heap.size w.heap.size _ wr HB.out HBL.out.size
      rw [HALL.out] at ks
      have KS:Hid _:=ks
      clear ks
      go_wp2_with fail
      refine Calls.mono KS.out ?_
      rintro e w3 ⟨rfl,hbl3⟩
      have HBL3:Hid (Below w.heap.size w w3):=HBL.out.trans hbl3
      clear hbl3 KS
      go_wp2
      go_ret
      exact ⟨rfl,HBL3.out⟩
end Go.Proofs.YtihnghnafpgdfadGreatDoor
namespace Go.Proofs.YtihnghnafpgdfadGreatDoor
open Go Go.RowKit Go.BigFrame
attribute [local go_sem] Oper.semAt_some
def EndsOnly (K:Act→World→Prop):Exit→Act→World→Prop
  | .normal,a,w=>K a w
  | _,_,_=>False
theorem wp_ends {P:Program}{c:Code}{K:Act→World→Prop}{Q:Exit→Act→World→Prop}{a:Act}{w:World}(h:c.wp P (EndsOnly K) a w):c.wp P (Exit.then K Q) a w :=
  wp_mono h (fun e a w h=>by cases e <;> first | exact h | exact h.elim)
theorem range_succ' (i:Nat):List.range i ++ [i]=List.range (i+1):=by rw [List.range_succ]
theorem range_prefix {i k:Nat}(h:i≤k):List.range i <+: List.range k:=by
  refine ⟨(List.range k).drop i,?_⟩
  have:List.range i=(List.range k).take i:=by rw [List.take_range,Nat.min_eq_left h]
  rw [this,List.take_append_drop]
theorem range_at {pre:List Nat}{x k:Nat}(h:pre ++ [x] <+: List.range k):pre=List.range x∧x<k:=by
  have hl:=h.length_le
  rw [List.length_append,List.length_range] at hl
  have e:=List.prefix_iff_eq_take.1 h
  rw [List.take_range,List.length_append,Nat.min_eq_left (by simpa using hl),List.length_singleton,List.range_succ] at e
  obtain ⟨e1,e2⟩:=List.append_inj' e rfl
  have e3:x=pre.length:=by simpa using e2
  refine ⟨by rw [e3];exact e1,?_⟩
  simp at hl;omega
set_option maxRecDepth 100000 in
set_option maxHeartbeats 2000000 in
theorem chunk1_stops (n Bs Bn g:Nat) (hn:1≤n) (k C:Nat) (hk:k≤1000) (hC:40 * k≤C) (w:World) :
    SeqBox n Tryz.prog 222 #[.pointer (some ⟨Bs,0,none⟩),.pointer (some ⟨Bn,0,none⟩)] (fun i:Nat=>#[Value.slice (some ⟨g,40 * i,none⟩) 40 40]) (fun b=>b=Bs∨b=Bn)
      (fun W=>W.heap[Bs]?=some (.cells #[.slice (some ⟨g,0,none⟩) (40 * k) C] 115 (0,0))∧W.heap[Bn]?=some (.cells #[.int .i64 40] 3 (0,0))) (fun xs=>xs=List.range k) (fun pre=>pre <+: List.range k) w:=fun l J Jx W hG hW hJ hJx hY h0=>by
  have HY:Hid _:=hY
  have HJ:Hid _:=hJ
  obtain ⟨g1,g2⟩:=hG
  obtain ⟨N,hN⟩:∃ N,N=40 * k:=⟨_,rfl⟩
  rw [← hN] at g1 hC
  have HN:Hid (N=40 * k):=hN
  have hN4:N≤40000:=by omega
  clear hY hJ hJx hN
  refine callsIn_of_wp Tryz.func222 rfl trivial ?_ rfl
  simp only [Tryz.ntmps222,List.size_toArray,List.length_cons,List.length_nil,Nat.reduceAdd,Nat.reduceSub,Array.replicate_succ,Array.replicate_zero,List.push_toArray,List.append_toArray,List.nil_append,List.cons_append]
  gi_wp2
  gi_loopg [4] (k+1) (fun kx vi wr=>∃ i j:Nat,vi=.int .i64 j∧i≤k∧k - i≤kx∧Hid (j=40 * i)∧j≤N∧Hid (wr.heap[Bs]?=some (.cells #[.slice (some ⟨g,0,none⟩) N C] 115 (0,0))∧wr.heap[Bn]?=some (.cells #[.int .i64 40] 3 (0,0)))∧Hid (J (List.range i) wr))
  case atStart=>exact ⟨0,0,rfl,by omega,by omega,rfl,by omega,⟨g1,g2⟩,h0⟩
  case round =>
    obtain ⟨i,j,rfl,hi,hix,HJJ,hjn,HB,HJI⟩:=hrel
    have cs:wr.cell? ⟨Bs,0,none⟩=some (.slice (some ⟨g,0,none⟩) N C):=by rw [cell_block HB.out.1];rfl
    have cn:wr.cell? ⟨Bn,0,none⟩=some (.int .i64 40):=by rw [cell_block HB.out.2];rfl
    by_cases hlt:i<k
    · have hjlt:(j:Int)<(N:Int):=by have:=HJJ.out;have:=HN.out;omega
      have hj40:j+40≤N:=by have:=HJJ.out;have:=HN.out;omega
      have hmin:min (40:Int) ((N - j:Nat):Int)=40:=by omega
      have hto:((j:Int)+40).toNat=j+40:=by omega
      gi_wp2
      refine wpIn_wide.2 ?_
      go_quiet (fail)
      have hgr:wr.grownBy (wr.drewN nq) none:=⟨rfl,rfl,rfl,Nat.le_refl _,fun _ _ _=>rfl⟩
      obtain ⟨fn,tmps,assign,body,hyy,hR⟩:=HY.out (List.range i) i (wr.drewN nq) (HJ.out.grow _ _ _ HJI.out hgr) (by rw [range_succ'];exact range_prefix hlt)
      rw [← HJJ.out] at hyy
      rw [range_succ'] at hR
      have HR:Hid _:=hR
      clear hR
      gi_wp2
      refine RoundIn.mono HR.out ?_
      rintro e W3 (⟨rfl,hj3,hb3⟩ | ⟨rfl,hx3⟩)
      · have HJ3:Hid (J (List.range (i+1)) W3):=hj3
        have HB3:Hid (W3.heap[Bs]?=some (.cells #[.slice (some ⟨g,0,none⟩) N C] 115 (0,0))∧W3.heap[Bn]?=some (.cells #[.int .i64 40] 3 (0,0))):=⟨(hb3 Bs (.inl rfl)).trans HB.out.1,(hb3 Bn (.inr rfl)).trans HB.out.2⟩
        have cn3:W3.cell? ⟨Bn,0,none⟩=some (.int .i64 40):=by rw [cell_block HB3.out.2];rfl
        clear hj3 hb3
        gi_wp2
        gi_roundg (k - (i+1))
        case measure=>omega
        case rel=>exact ⟨i+1,j+40,by go_num,by omega,Nat.le_refl _,(by show _=_;rw [HJJ.out];omega),by omega,HB3,HJ3⟩
      · have HX3:Hid (Jx (List.range (i+1)) W3):=hx3
        clear hx3
        gi_wp2
        refine bodyPost_ret (results_none rfl _ _ _) rfl ?_
        exact ⟨⟨_,rfl⟩,.inr ⟨_,range_prefix hlt,HX3.out⟩⟩
    · have e:i=k:=by omega
      have hge:¬ (j:Int)<(N:Int):=by have:=HJJ.out;have:=HN.out;omega
      have HJK:Hid (J (List.range k) wr):=by rw [← e];exact HJI.out
      gi_wp2
      go_end0
      first | exact ⟨⟨_,rfl⟩,.inl ⟨_,rfl,HJK.out⟩⟩ | exact ⟨⟨_,rfl⟩,.inl HJK.out⟩
set_option maxRecDepth 100000 in
theorem chunk_any (v:Value)(hv:∃ a n c,v=.slice a n c)(w:World) :
    Calls Tryz.prog 191 #[v,.int .i64 40] w fun e w'=>e=.returned (.func (.func 222) #[] #[.pointer (some ⟨w.heap.size,0,none⟩),.pointer (some ⟨w.heap.size+1,0,none⟩)])∧w'=(w.alloc (.cells #[v] 115 (0,0))).alloc (.cells #[.int .i64 40] 3 (0,0)):=by
  obtain ⟨a,n,c,rfl⟩:=hv
  go_enter Tryz.func191,Tryz.ntmps191
  go_wp2
  go_ret
  exact ⟨rfl,rfl⟩
end Go.Proofs.YtihnghnafpgdfadGreatDoor
namespace Go.Proofs.YtihnghnafpgdfadGreatDoor
open Go.RowKit Go.BigFrame
def seqD:Dk→List (Nat × ByteArray)→Dk × Int
  | d,[]=>(d,0)
  | d,x :: r=>if (layD d x.1 [x.2]).2=0 then seqD (layD d x.1 [x.2]).1 r else layD d x.1 [x.2]
def formL:List (Nat × ByteArray):=[(0,⟨#[]⟩),(1,⟨#[]⟩),(26,⟨#[]⟩),(1,baL (headL 1 ⟨#[]⟩))]
def formatD (d:Dk):Dk × Int:=if d.now.length<42 then (d,7) else seqD d formL
def placeI:Nat→Nat
  | 0=>0
  | 1=>1
  | _=>26
theorem formL_step (D:Dk){i:Nat}(h:i<3):seqD D (formL.drop i)=if (layD D (placeI i) [⟨#[]⟩]).2=0 then seqD (layD D (placeI i) [⟨#[]⟩]).1 (formL.drop (i+1)) else layD D (placeI i) [⟨#[]⟩]:=by
  match i,h with
  | 0,_=>rfl
  | 1,_=>rfl
  | 2,_=>rfl
structure FmAt (w wr:World)(p:Dp)(u:Value)(D:Dk)(q:Nat):Prop where
  disk:DiskAt wr { p with wv:=u } D
  touch:Touch (dOwn p) w wr
  new:NewTo p w u
  few:D.wr.length≤60
  ints:wr.heap[q]?=some (.cells #[.int .i64 0,.int .i64 1,.int .i64 26] 3 (0,0))
theorem fmSettle {w wr:World}{p:Dp}{u:Value}{D d:Dk}{q:Nat}(h:FmAt w wr p u D q)(k:Nat)(s:ByteArray)(hs:s.size≤1000) :
    Calls Tryz.prog 123 #[.pointer (some ⟨p.B,0,none⟩),.int .i64 k,.string s] wr fun e w'=>e=.returned (errV (layD D k [s]).2)∧∃ u',DiskAt w' { p with wv:=u' } (layD D k [s]).1∧Touch (dOwn p) w w'∧NewTo p w u'∧((layD D k [s]).2=0→FmAt w w' p u' (layD D k [s]).1 q):=by
  refine (storeSettle_any { p with wv:=u } D k s wr h.disk hs (by have:=h.few;omega)).mono ?_
  rintro e w' ⟨he,u',hd,ht,hn⟩
  have hT:Touch (dOwn p) w w':=h.touch.step ht rfl rfl rfl h.new
  have hN:NewTo p w u':=fun k hk=>by
    rcases hn k hk with e | e
    · exact h.new k e
    · exact .inr (Nat.le_trans h.touch.size e)
  exact ⟨he,u',hd,hT,hN,fun h0=>⟨hd,hT,hN,by rw [layD_len _ _ _ h0];simp,by rw [ht.other h.disk h.ints (by decide)];exact h.ints⟩⟩
set_option maxRecDepth 100000 in
set_option maxHeartbeats 2000000 in
theorem storeFormat_any (p:Dp) (d:Dk) (w:World) (h:DiskAt w p d) (hwr:d.wr.length≤60) :
    Calls Tryz.prog 87 #[.pointer (some ⟨p.B,0,none⟩)] w fun e w'=>e=.returned (errV (formatD d).2)∧∃ u,DiskAt w' { p with wv:=u } (formatD d).1∧Touch (dOwn p) w w'∧NewTo p w u:=by
  have HD:Hid (DiskAt w p d):=h
  have KS:Hid _:=sectors_any p d w h
  have h60:=h.few
  clear h
  by_cases h42:d.now.length<42
  · have h42z:(d.now.length:Int)<42:=by omega
    have HF:Hid (formatD d=(d,7)):=by show _=_;unfold formatD;rw [if_pos h42]
    have HEV:Hid (errV 7=.iface 90 (.int .i64 7)):=errV_pos (show ¬ (7:Int)=0 by decide)
    go_enter Tryz.func87,Tryz.ntmps87
    go_wp2_with fail
    refine Calls.mono KS.out ?_
    rintro e w1 ⟨rfl,hw⟩
    rw [hw]
    clear hw w1
    go_wp2
    go_ret
    rw [HF.out]
    exact ⟨congrArg Ending.returned HEV.out.symm,p.wv,HD.out,Touch.refl _ _,fun k hk=>.inl hk⟩
  have h42z:¬ (d.now.length:Int)<42:=by omega
  have HF:Hid (formatD d=seqD d formL):=by show _=_;unfold formatD;rw [if_neg h42]
  have KO:Hid _:=storeOther_any 1 w (by omega)
  go_enter Tryz.func87,Tryz.ntmps87
  go_wp2_with fail
  refine Calls.mono KS.out ?_
  rintro e w1 ⟨rfl,hw⟩
  rw [hw]
  clear hw w1 KS
  go_wp2_with fail
  refine Calls.mono KO.out ?_
  rintro e w1 ⟨rfl,hw⟩
  rw [hw]
  clear hw w1 KO
  go_wp2_with fail
  go_loopg [13] 4 (fun kx vi wr=>∃ (i:Nat) (u:Value) (D:Dk),vi=.int .i64 i∧i≤3∧3 - i≤kx∧Hid (seqD d formL=seqD D (formL.drop i))∧Hid (FmAt w wr p u D w.heap.size))
  case atStart=>exact ⟨0,p.wv,d,rfl,by omega,by omega,(rfl:seqD d formL=seqD d (formL.drop 0)),⟨HD.out.below ((Below.refl _ _).alloc (Nat.le_refl _) _),Touch.of_below ((Below.refl _ _).alloc (Nat.le_refl _) _),(fun k hk=>.inl hk),hwr,heap_alloc_new w _⟩⟩
  case round =>
    obtain ⟨i,u,D,rfl,hi,hix,HQ,HA⟩:=hrel
    by_cases hlt:i<3
    · have hltz:(i:Int)<3:=by omega
      have HST:Hid _:=formL_step D hlt
      have hcell:wr.cell? ⟨w.heap.size,i,none⟩=some (.int .i64 (placeI i)):=by
        rw [cell_block HA.out.ints]
        match i,hlt with
        | 0,_=>rfl
        | 1,_=>rfl
        | 2,_=>rfl
      have KT:Hid _:=fmSettle (d:=d) HA.out (placeI i) ⟨#[]⟩ (by decide)
      generalize placeI i=k at *
      generalize layD D k [⟨#[]⟩]=R at *
      obtain ⟨D',n⟩:=R
      simp only at HST KT
      by_cases hn:n=0
      · have HN:Hid (seqD d formL=seqD D' (formL.drop (i+1))):=by show _=_;rw [HQ.out,HST.out,if_pos hn]
        rw [hn,errV_zero rfl] at KT
        go_wp2_with fail
        refine Calls.mono KT.out ?_
        rintro e w2 ⟨rfl,u',-,-,-,hfm⟩
        have HFM:Hid (FmAt w w2 p u' D' w.heap.size):=hfm (by trivial)
        clear hfm KT
        go_wp2
        go_roundg (3 - (i+1))
        case measure=>omega
        case rel=>exact ⟨i+1,u',D',by go_num,by omega,Nat.le_refl _,HN,HFM⟩
      · have HN:Hid (formatD d=(D',n)):=by show _=_;rw [HF.out,HQ.out,HST.out,if_neg hn]
        have HEV:Hid _:=errV_pos hn
        rw [HEV.out] at KT
        go_wp2_with fail
        refine Calls.mono KT.out ?_
        rintro e w2 ⟨rfl,u',hd2,ht2,hn2,-⟩
        have HE:Hid (∃ u,DiskAt w2 { p with wv:=u } D'∧Touch (dOwn p) w w2∧NewTo p w u):=⟨u',hd2,ht2,hn2⟩
        clear hd2 ht2 hn2 KT
        go_wp2
        go_ret
        rw [HN.out]
        exact ⟨congrArg Ending.returned HEV.out.symm,HE.out⟩
    · have hge:¬ (i:Int)<3:=by omega
      have hi3:i=3:=by omega
      have HN:Hid (formatD d=layD D 1 [baL (headL 1 ⟨#[]⟩)]):=by
        show _=_
        rw [HF.out,HQ.out,hi3]
        show (if _ then seqD _ [] else _)=_
        split
        · rename_i h0
          exact Prod.ext rfl h0.symm
        · rfl
      clear hi3
      have KH:Hid _:=storeHead_any 1 ⟨#[]⟩ wr (by omega) (by decide)
      have KT:Hid (∀ W,Below wr.heap.size wr W→Calls Tryz.prog 123 #[.pointer (some ⟨p.B,0,none⟩),.int .i64 1,.string (baL (headL 1 ⟨#[]⟩))] W fun e w'=>e=.returned (errV (layD D 1 [baL (headL 1 ⟨#[]⟩)]).2)∧∃ u',DiskAt w' { p with wv:=u' } (layD D 1 [baL (headL 1 ⟨#[]⟩)]).1∧Touch (dOwn p) w w'∧NewTo p w u'):=fun W hb=>by
        have hf:FmAt w W p u D w.heap.size:=⟨HA.out.disk.below hb,HA.out.touch.trans (Touch.of_below hb),HA.out.new,HA.out.few,by rw [hb.block _ (Array.getElem?_eq_some_iff.1 HA.out.ints).1];exact HA.out.ints⟩
        exact (fmSettle (d:=d) hf 1 (baL (headL 1 ⟨#[]⟩)) (by rw [baL_size,headL_length];omega)).mono fun e w' ⟨he,u',h1,h2,h3,_⟩=>⟨he,u',h1,h2,h3⟩
      generalize baL (headL 1 ⟨#[]⟩)=Y at *
      go_wp2_with fail
      refine Calls.mono KH.out ?_
      rintro e w2 ⟨rfl,hb2⟩
      have HB2:Hid _:=hb2
      clear hb2 KH
      go_wp2_with fail
      refine Calls.mono (KT.out w2 HB2.out) ?_
      rintro e w3 ⟨rfl,hx⟩
      have HX:Hid _:=hx
      clear hx KT
      go_wp2
      go_ret
      rw [HN.out]
      exact ⟨rfl,HX.out⟩
end Go.Proofs.YtihnghnafpgdfadGreatDoor
namespace Go.Proofs.YtihnghnafpgdfadGreatDoor
open Go Go.RowKit Go.BigFrame
def pieceL (T:ByteArray)(i:Nat):List UInt8:=(T.data.toList.drop (40 * i)).take 40
def piecesT (T:ByteArray)(k:Nat):List ByteArray:=(List.range k).map fun i=>baL (pieceL T i)
theorem piecesT_length (T:ByteArray)(k:Nat):(piecesT T k).length=k:=by simp [piecesT]
theorem pieceL_length {T:ByteArray}{k i:Nat}(hT:T.size=40 * k)(hi:i<k):(pieceL T i).length=40:=by
  unfold pieceL
  rw [List.length_take,List.length_drop,ba_len]
  omega
def layT (d:Dk)(i:Nat)(T:ByteArray)(k:Nat):Dk × Int :=
  if (layD d (2+i * 12) (piecesT T k)).2=0 then seqD (layD d (2+i * 12) (piecesT T k)).1 [(i,baL (headL i T)),(1 - i,⟨#[]⟩)] else layD d (2+i * 12) (piecesT T k)
theorem layT_stop {d D:Dk}{i k:Nat}{T:ByteArray}{e:Int}(h:writesD d (2+i * 12) (piecesT T k)=(D,e))(he:¬ e=0):layT d i T k=(D,e):=by
  have:layD d (2+i * 12) (piecesT T k)=(D,e):=by unfold layD;rw [h,if_neg he]
  unfold layT
  rw [this,if_neg he]
theorem layT_flush {d D:Dk}{i k:Nat}{T:ByteArray}(h:writesD d (2+i * 12) (piecesT T k)=(D,0))(he:¬ stepN D=0):layT d i T k=(flushD D,stepN D):=by
  have:layD d (2+i * 12) (piecesT T k)=(flushD D,stepN D):=by unfold layD;rw [h,if_pos rfl]
  unfold layT
  rw [this,if_neg he]
theorem layT_head {d D:Dk}{i k:Nat}{T:ByteArray}(h:writesD d (2+i * 12) (piecesT T k)=(D,0))(he:stepN D=0):layT d i T k=if (layD (flushD D) i [baL (headL i T)]).2=0 then layD (layD (flushD D) i [baL (headL i T)]).1 (1 - i) [⟨#[]⟩] else layD (flushD D) i [baL (headL i T)]:=by
  have:layD d (2+i * 12) (piecesT T k)=(flushD D,stepN D):=by unfold layD;rw [h,if_pos rfl]
  unfold layT
  rw [this,if_pos he]
  simp only [seqD]
  split
  · rename_i h1
    split
    · rename_i h2
      exact (Prod.ext rfl h2.symm:((layD (layD (flushD D) i [baL (headL i T)]).1 (1 - i) [⟨#[]⟩]).1,(0:Int))=layD (layD (flushD D) i [baL (headL i T)]).1 (1 - i) [⟨#[]⟩])
    · rfl
  · rfl
theorem piece_cells {W:World}{g:Nat}{T:ByteArray}{C k i:Nat}{fr:Nat × Nat}(h:W.heap[g]?=some (.cells (bytesRow T C) 5 fr))(hT:T.size=40 * k)(hi:i<k) :
    ∀ j (hj:j<(pieceL T i).length),W.cell? ((⟨g,40 * i,none⟩:Addr).add j)=some (.int .u8 ((pieceL T i)[j].toNat:Int)):=by
  intro j hj
  have h40:j<40:=by rw [pieceL_length hT hi] at hj;exact hj
  have hlt:40 * i+j<T.data.size:=by have:T.data.size=T.size:=rfl;omega
  rw [addr_add,cell_block h]
  show (bytesRow T C)[40 * i+j]?=_
  rw [bytesRow_at T C _ hlt]
  simp only [pieceL,List.getElem_take,List.getElem_drop,Array.getElem_toList]
structure LayMid (w:World)(p:Dp)(d:Dk)(a0:Nat)(T:ByteArray)(k g C:Nat)(pre:List Nat)(W:World):Prop where
  disk:∃ u D,DiskAt W { p with wv:=u } D∧NewTo p w u∧D.wr.length≤d.wr.length+pre.length∧writesD d a0 (piecesT T k)=writesD D (a0+pre.length) ((piecesT T k).drop pre.length)
  touch:Touch (dOwn p) w W
  res:Boxed W (w.heap.size+1) 38 .nilIface
  box:Boxed W w.heap.size 25 (.pointer (some ⟨p.B,0,none⟩))
  at':Boxed W (w.heap.size+1+1) 3 (.int .i64 ((a0+pre.length:Nat):Int))
  row:∃ fr,W.heap[g]?=some (.cells (bytesRow T C) 5 fr)
  bs:∃ v,Boxed W (g+1) 115 v
  bn:∃ v,Boxed W (g+1+1) 3 v
structure LayBad (w:World)(p:Dp)(d:Dk)(a0:Nat)(T:ByteArray)(k g:Nat)(c:Code)(pre:List Nat)(W:World):Prop where
  code:c=.ret
  disk:∃ u D e,DiskAt W { p with wv:=u } D∧NewTo p w u∧writesD d a0 (piecesT T k)=(D,e)∧¬ e=0∧Boxed W (w.heap.size+1) 38 (errV e)
  touch:Touch (dOwn p) w W
  bs:∃ v,Boxed W (g+1) 115 v
  bn:∃ v,Boxed W (g+1+1) 3 v
theorem disk_kept {W W':World}{row:Option Nat}{Z:Nat}{p:Dp}{d:Dk}(h:DiskAt W p d)(hg:W.grownBy W' row)(hr:∀ r,row=some r→Z≤r∧∃ o:Obj,W.heap[r]?=some o∧o.isCells=false):DiskAt W' p d :=
  h.far fun k hk=>by
    obtain ⟨C,T,fr,e,-⟩:=h.kind hk
    rw [cells_kept hg hr e,e]
theorem disk_box {W:World}{p:Dp}{d:Dk}{b:Nat}{T:TypeId}{u:Value}(v:Value)(h:DiskAt W p d)(hb:Boxed W b T u)(hT:T≠78∧T≠84∧T≠86):DiskAt (W.setCell ⟨b,0,none⟩ v) p d :=
  h.far fun k hk=>Below.heap_setCell _ _ _ _ (fun e=>by
    obtain ⟨C,T',fr,e',hT'⟩:=h.kind hk
    simp only at e
    rw [e,show W.heap[b]?=_ from hb] at e'
    simp at e'
    rcases hT' with hT' | hT' | hT'
    · exact hT.1 (by rw [e'.2.1,hT'])
    · exact hT.2.1 (by rw [e'.2.1,hT'])
    · exact hT.2.2 (by rw [e'.2.1,hT']))
theorem touch_kept {S:Nat→Prop}{w W W':World}{row:Option Nat}{Z:Nat}(h:Touch S w W)(hZ:w.heap.size≤Z)(hg:W.grownBy W' row)(hr:∀ r,row=some r→Z≤r∧∃ o:Obj,W.heap[r]?=some o∧o.isCells=false):Touch S w W' :=
  ⟨hg.os.trans h.os,hg.tape.trans h.tape,hg.output.trans h.output,Nat.le_trans h.size hg.size,fun k hk hn=>(hg.block k (Nat.lt_of_lt_of_le hk h.size) (fun e=>by have:=(hr k e.symm).1;omega)).trans (h.block k hk hn)⟩
theorem touch_new {S:Nat→Prop}{w W:World}(h:Touch S w W){b:Nat}(hb:w.heap.size≤b)(i:Nat)(v:Value):Touch S w (W.setCell ⟨b,i,none⟩ v) :=
  ⟨h.os,h.tape,h.output,by rw [World.size_setCell];exact h.size,fun k hk hn=>(Below.heap_setCell W ⟨b,i,none⟩ v k (by simp;omega)).trans (h.block k hk hn)⟩
section
variable {w:World} {p:Dp} {d:Dk} {a0 k g C:Nat} {T:ByteArray}
theorem layMid_own (Z:Nat)(hZ:w.heap.size≤Z):OwnFrom Z (LayMid w p d a0 T k g C):=fun s W W' row h hg hr=>by
  obtain ⟨⟨u,D,h1,h2,h3,h4⟩,h5,h6,h7,h8,⟨fr,h9⟩,⟨v1,h10⟩,⟨v2,h11⟩⟩:=h
  exact ⟨⟨u,D,disk_kept h1 hg hr,h2,h3,h4⟩,touch_kept h5 hZ hg hr,cells_kept hg hr h6,cells_kept hg hr h7,cells_kept hg hr h8,⟨fr,cells_kept hg hr h9⟩,⟨v1,cells_kept hg hr h10⟩,⟨v2,cells_kept hg hr h11⟩⟩
theorem layBad_own (Z:Nat)(hZ:w.heap.size≤Z)(c:Code):OwnFrom Z (LayBad w p d a0 T k g c):=fun s W W' row h hg hr=>by
  obtain ⟨h0,⟨u,D,e,h1,h2,h3,h4,h6⟩,h5,⟨v1,h10⟩,⟨v2,h11⟩⟩:=h
  exact ⟨h0,⟨u,D,e,disk_kept h1 hg hr,h2,h3,h4,cells_kept hg hr h6⟩,touch_kept h5 hZ hg hr,⟨v1,cells_kept hg hr h10⟩,⟨v2,cells_kept hg hr h11⟩⟩
theorem layMid_box (hg3:g=w.heap.size+1+1+1)(s:List Nat)(W:World)(b:Nat)(v:Value)(hb:b=g+1∨b=g+1+1)(h:LayMid w p d a0 T k g C s W):LayMid w p d a0 T k g C s (W.setCell ⟨b,0,none⟩ v):=by
  obtain ⟨⟨u,D,h1,h2,h3,h4⟩,h5,h6,h7,h8,⟨fr,h9⟩,⟨v1,h10⟩,⟨v2,h11⟩⟩:=h
  rcases hb with rfl | rfl
  · exact ⟨⟨u,D,disk_box v h1 h10 (by decide),h2,h3,h4⟩,touch_new h5 (by omega) 0 v,setBox_other h6 (by omega),setBox_other h7 (by omega),setBox_other h8 (by omega),⟨fr,setBox_other h9 (by omega)⟩,⟨v,h10.set v⟩,⟨v2,setBox_other h11 (by omega)⟩⟩
  · exact ⟨⟨u,D,disk_box v h1 h11 (by decide),h2,h3,h4⟩,touch_new h5 (by omega) 0 v,setBox_other h6 (by omega),setBox_other h7 (by omega),setBox_other h8 (by omega),⟨fr,setBox_other h9 (by omega)⟩,⟨v1,setBox_other h10 (by omega)⟩,⟨v,h11.set v⟩⟩
theorem layBad_box (hg3:g=w.heap.size+1+1+1)(c:Code)(s:List Nat)(W:World)(b:Nat)(v:Value)(hb:b=g+1∨b=g+1+1)(h:LayBad w p d a0 T k g c s W):LayBad w p d a0 T k g c s (W.setCell ⟨b,0,none⟩ v):=by
  obtain ⟨h0,⟨u,D,e,h1,h2,h3,h4,h6⟩,h5,⟨v1,h10⟩,⟨v2,h11⟩⟩:=h
  rcases hb with rfl | rfl
  · exact ⟨h0,⟨u,D,e,disk_box v h1 h10 (by decide),h2,h3,h4,setBox_other h6 (by omega)⟩,touch_new h5 (by omega) 0 v,⟨v,h10.set v⟩,⟨v2,setBox_other h11 (by omega)⟩⟩
  · exact ⟨h0,⟨u,D,e,disk_box v h1 h11 (by decide),h2,h3,h4,setBox_other h6 (by omega)⟩,touch_new h5 (by omega) 0 v,⟨v1,setBox_other h10 (by omega)⟩,⟨v,h11.set v⟩⟩
end
end Go.Proofs.YtihnghnafpgdfadGreatDoor
