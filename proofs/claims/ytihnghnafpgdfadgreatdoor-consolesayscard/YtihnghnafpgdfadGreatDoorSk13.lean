/- What the proofs stand on, part 13: StoreBase, Builder, StoreHead, StoreRead, StoreText, StoreChunk, StoreFormat, StoreLay. -/
import Derived.Lib.Builder
import Derived.Lib.AppendStr
import Derived.Sort.LoopGhostIn
import Derived.Test.YtihnghnafpgdfadGreatDoorSk12
import Derived.Test.YtihnghnafpgdfadGreatDoorSk07
import Derived.Test.YtihnghnafpgdfadGreatDoorStrs
import Derived.Test.YtihnghnafpgdfadGreatDoorSk09
set_option linter.unusedVariables false
set_option linter.unusedSimpArgs false
set_option maxRecDepth 100000
set_option maxHeartbeats 4000000
namespace Go.Proofs.YtihnghnafpgdfadGreatDoor
open Go.RowKit Go.BigFrame
variable {B C Z a b g i k many q start x:Nat}{W W' w w' w1 w2 wr:World}{D d:Dk}{c:Ch}{rows:List Ch}{Q:Exit→Act→World→Prop}{p:Dp}{u:Value}{T:ByteArray}{e:Int}{fr:Nat × Nat}{row:Option Nat}
theorem zde (i:Nat)(w:World)(hi:i≤1) :
 Calls Tryz.prog 122 #[.int .i64 i] w fun e w'=>e=.returned (.int .i64 ((1 - i:Nat):Int))∧w'=w:=by
 have HE:Hid (((1 - i:Nat):Int)=1 - (i:Int)):=by show _=_;omega
 go_enter Tryz.func122,Tryz.ntmps122
 go_wp2;go_ret;rw [HE.out];exact ⟨rfl,rfl⟩
theorem zfx (i:Nat)(w:World)(hi:i≤1) :
 Calls Tryz.prog 162 #[.int .i64 i] w fun e w'=>e=.returned (.int .i64 ((2+i * 12:Nat):Int))∧w'=w:=by
 have HE:Hid (((2+i * 12:Nat):Int)=2+(i:Int) * 12):=by show _=_;omega
 go_enter Tryz.func162,Tryz.ntmps162
 go_wp2;go_ret;rw [HE.out];exact ⟨rfl,rfl⟩
theorem zbl (p:Dp)(d:Dk)(w:World)(h:zab w p d) :
 Calls Tryz.prog 90 #[.pointer (some ⟨p.B,0,none⟩)] w fun e w'=>e=.returned (.int .i64 ((d.now.length:Int) - 26))∧w'=w:=by
 have KS:Hid _:=zff p d w h;have h60:=h.few;clear h
 go_enter Tryz.func90,Tryz.ntmps90
 go_wp2_with fail
 refine Calls.mono KS.out ?_;rintro e w1 ⟨rfl,hw⟩;rw [hw];clear hw w1;go_wp2;go_ret;exact ⟨rfl,rfl⟩
theorem zev (p:Dp)(d:Dk)(i:Nat)(w:World)(h:zab w p d)(hi:i≤1)(h26:26≤d.now.length) :
 Calls Tryz.prog 91 #[.pointer (some ⟨p.B,0,none⟩),.int .i64 i] w fun e w'=>e=.returned (.int .i64 ((1+(1 - i) * (d.now.length - 26):Nat):Int))∧w'=w:=by
 have KS:Hid _:=zbl p d w h;have h60:=h.few;clear h
 match i,hi with
 | 0,_ =>
   have HE:Hid (((1+(1 - 0) * (d.now.length - 26):Nat):Int)=1+((d.now.length:Int) - 26)):=by show _=_;omega
   rw [HE.out]
   go_enter Tryz.func91,Tryz.ntmps91
   go_wp2_with fail
   refine Calls.mono KS.out ?_;rintro e w1 ⟨rfl,hw⟩;rw [hw];clear hw w1;go_wp2;go_ret;exact ⟨rfl,rfl⟩
 | 1,_ =>
   have HE:Hid (((1+(1 - 1) * (d.now.length - 26):Nat):Int)=1):=by show _=_;omega
   rw [HE.out]
   go_enter Tryz.func91,Tryz.ntmps91
   go_wp2_with fail
   refine Calls.mono KS.out ?_;rintro e w1 ⟨rfl,hw⟩;rw [hw];clear hw w1;go_wp2;go_ret;exact ⟨rfl,rfl⟩
theorem zfV (p:Dp)(d:Dk)(k:Nat)(s:ByteArray)(w:World)(h:zab w p d)(hs:s.size≤1000)(hwr:d.wr.length<120) :
 Calls Tryz.prog 123 #[.pointer (some ⟨p.B,0,none⟩),.int .i64 k,.string s] w fun e w'=>e=.returned (errV (layD d k [s]).2)∧∃ u,zab w' { p with wv:=u } (layD d k [s]).1∧zat (dOwn p) w w'∧zbw p w u:=by
 have HD:Hid (zab w p d):=h;have KW:Hid _:=zdI p d (k:Int) s w h (by unfold maxLen;omega) hwr;clear h
 by_cases h0:zcd d (k:Int) s=0
 · have HL:Hid (layD d k [s]=(zaO (zaN d (k:Int) s),zb1 (zaN d (k:Int) s))):=by
    show _=_;unfold layD;simp only [zap,if_pos h0]
    rfl
   rw [h0,zac rfl] at KW
   go_enter Tryz.func123,Tryz.ntmps123
   go_wp2_with fail
   refine Calls.mono KW.out ?_;rintro e w1 ⟨rfl,u,hd1,hn1,hnew1⟩;have KF:Hid (Calls Tryz.prog 29 #[.pointer (some ⟨p.B,0,none⟩)] w1 _):=zdB { p with wv:=u } _ w1 hd1;have HT1:Hid (zat (dOwn p) w w1):=hn1.touch;have HN1:Hid (zbw p w u):=hnew1;clear hd1 hn1 hnew1 KW
   go_wp2_with fail
   refine Calls.mono KF.out ?_;rintro e w2 ⟨rfl,hd2,hn2⟩;have HT2:Hid (zat (dOwn p) w w2):=HT1.out.step hn2.touch rfl rfl rfl HN1.out
   have HE2:Hid (∃ u',zab w2 { p with wv:=u' } (zaO (zaN d (k:Int) s))∧zat (dOwn p) w w2∧zbw p w u'):=by
    unfold zgA at hd2
    split at hd2
    · exact ⟨_,hd2,HT2.out,fun k hk=>by cases hk⟩
    · exact ⟨_,hd2,HT2.out,HN1.out⟩
   clear hd2 hn2 KF;go_wp2;go_ret;rw [HL.out];exact ⟨rfl,HE2.out⟩
 · have HL:Hid (layD d k [s]=(zaN d (k:Int) s,zcd d (k:Int) s)):=by
    show _=_;unfold layD;simp only [zap,if_neg h0]
   have HEV:Hid _:=zak h0;rw [HEV.out] at KW
   go_enter Tryz.func123,Tryz.ntmps123
   go_wp2_with fail
   refine Calls.mono KW.out ?_;rintro e w1 ⟨rfl,u,hd1,hn1,hnew1⟩;have HA:Hid (∃ u',zab w1 { p with wv:=u' } (zaN d (k:Int) s)∧zat (dOwn p) w w1∧zbw p w u'):=⟨u,hd1,hn1.touch,hnew1⟩;clear hd1 hn1 hnew1 KW;go_wp2;go_ret;rw [HL.out,HEV.out];exact ⟨rfl,HA.out⟩
def sumI (s:ByteArray):Nat→Int
 | 0=>14695981039346656037
 | i+1=>IntKind.u64.wrap (bits BinOp.xor IntKind.u64 (sumI s i) (zbn s i) * 1099511628211)
theorem zne (z:Int):0≤IntKind.u64.wrap z∧IntKind.u64.wrap z<18446744073709551616:=by
 rw [IntKind.wrap_u64];omega
theorem zlq (s:ByteArray):∀ i,0≤sumI s i∧sumI s i<18446744073709551616
 | 0=>by simp [sumI]
 | i+1=>zne _
def zhL (s:ByteArray):Nat:=(sumI s s.size).toNat
theorem znk (s:ByteArray):((zhL s:Nat):Int)=sumI s s.size:=by
 have:=(zlq s s.size).1;unfold zhL;omega
theorem zsE (s:ByteArray):zhL s<18446744073709551616:=by
 have:=znk s;have:=(zlq s s.size).2;omega
theorem znV (s:ByteArray)(w:World)(hs:s.size≤1000) :
 Calls Tryz.prog 159 #[.string s] w fun e w'=>e=.returned (.int .u64 (zhL s))∧w'=w:=by
 rw [znk]
 go_enter Tryz.func159,Tryz.ntmps159
 go_wp2_with fail
 go_loopg [7,3] (s.size+1) (fun kx vi v3 wr=>∃ (i:Nat) (n:Int),vi=.int .i64 i∧v3=.int .u64 n∧0≤n∧n<18446744073709551616∧i≤s.size∧s.size - i≤kx∧wr=w∧Hid (n=sumI s i))
 case atStart=>exact ⟨0,14695981039346656037,rfl,rfl,by decide,by decide,by omega,by omega,rfl,(rfl:(14695981039346656037:Int)=sumI s 0)⟩
 case round =>
  obtain ⟨i,n,rfl,rfl,hn0,hn,hi,hix,rfl,HN⟩:=hrel
  by_cases hlt:i<s.size
  · have hltz:(i:Int)<(s.size:Int):=by omega
    have b0:=zf5 (s:=s) (i:=i) hlt;have l0:=zfU s i;have HX:Hid (IntKind.u64.wrap (bits BinOp.xor IntKind.u64 n (zbn s i) * 1099511628211)=sumI s (i+1)):=by show _=_;rw [HN.out];rfl
    have HG:=zlq s (i+1);have HGR:Hid _:=HG;clear HG
    go_wp2_with fail
    rw [HX.out]
    go_roundg (s.size - (i+1))
    case measure=>omega
    case rel=>exact ⟨i+1,sumI s (i+1),by go_num,rfl,HGR.out.1,HGR.out.2,by omega,Nat.le_refl _,rfl,(rfl:sumI s (i+1)=sumI s (i+1))⟩
  · have e:i=s.size:=by omega
    have HE:Hid (n=sumI s s.size):=by show _=_;rw [HN.out,e]
    clear e;go_wp2;go_ret;rw [HE.out];exact ⟨rfl,rfl⟩
theorem Tryz.infoBuilder:(Tryz.prog.info? 239).isSome=true:=by kernel_rfl
theorem zhD (B b:Nat)(bs:List Value)(w:World)(h:Lib.IsBuilder 239 5 B b bs w) :
 Calls Tryz.prog 219 #[.pointer (some ⟨b,0,none⟩)] w fun e w'=>e=.returned (.tuple #[])∧Lib.BuilderAt 239 5 B b (.pointer (some ⟨b,0,none⟩)) bs w'∧Below B w w':=by
 obtain ⟨j,hj⟩:=Option.isSome_iff_exists.1 Tryz.infoBuilder;rcases h with h | h
 · have c0:=h.cell0
   have f0:=h.frozen0;have hsh:=h.shape;have HU:Hid (Lib.BuilderAt 239 5 B b (.pointer (some ⟨b,0,none⟩)) bs (w.setCell ⟨b,0,none⟩ (.pointer (some ⟨b,0,none⟩)))):=h.used _;have HBL:Hid (B≤b):=h.1
   have h1:(convert 237 286 (.pointer (some ⟨b,0,none⟩))).run Tryz.prog w=.ok (.pointer (some ⟨b,0,none⟩)) w:=Lib.run_to_unsafe (P:=Tryz.prog) w (t:=239) ⟨b,0,none⟩ (by kernel_rfl) (by kernel_rfl) hj (by
    have:(Tryz.prog.info? 239).map (·.size)=some 2:=by kernel_rfl
    rw [hj] at this
    simp at this
    omega) hsh (show 0<2 by decide)
   have h2:(convert 286 237 (.pointer (some ⟨b,0,none⟩))).run Tryz.prog w=.ok (.pointer (some ⟨b,0,none⟩)) w:=Lib.run_from_unsafe (P:=Tryz.prog) w (u:=239) ⟨b,0,none⟩ (by kernel_rfl) (by kernel_rfl) hj hsh (by kernel_rfl);clear hsh h
   go_enter Tryz.func219,Tryz.ntmps219
   go_wp2;rw [run_callFunc_extern Tryz.func239 (by kernel_rfl) (by kernel_rfl) (by kernel_rfl) (e:=Extern.AbiNoEscape.same) (by kernel_rfl),Lib.run_noEscape];simp only [Result.andThen,Oper.upon_value];go_wp2
   go_end0
   exact ⟨rfl,HU.out,(Below.refl B w).setCell HBL.out _⟩
 · have c0:=h.cell0
   have HU:Hid (Lib.BuilderAt 239 5 B b (.pointer (some ⟨b,0,none⟩)) bs w):=h;have hq:=Lib.run_neq_ptr_same (P:=Tryz.prog) w (tp:=237) (te:=239) ⟨b,0,none⟩ (by kernel_rfl) hj;clear h
   go_enter Tryz.func219,Tryz.ntmps219
   go_wp2
   go_end0
   exact ⟨rfl,HU.out,Below.refl _ _⟩
theorem Tryz.infoUint8:(Tryz.prog.info? 5).map (fun i=>(i.zero,i.size,i.bytes))=some (some (.int .u8 0),1,1):=by kernel_rfl
theorem zhr {p v v':Value}{bs cs:List Value}(hB:B≤b)(hbk:w1.heap[b]?=some (.cells #[p,v] 239 (0,0)))(hne:v.ownBlock≠some b)(hg:w1.grownBy w2 v.ownBlock)(hown:w2.ownsRow B 5 1 v' (bs ++ cs).length (bs ++ cs)):
 Lib.BuilderAt 239 5 B b p (bs ++ cs) (w2.setCell ⟨b,1,none⟩ v')∧w2.cell? ⟨b,1,none⟩=some v∧w2.frozen? ⟨b,1,none⟩=false:=by
 have hb2:w2.heap[b]?=some (.cells #[p,v] 239 (0,0)):=(hg.block b (Array.getElem?_eq_some_iff.1 hbk).1 (fun e=>hne e.symm)).trans hbk;exact ⟨Lib.BuilderAt.put hB hb2 hown (by decide),by rw [Lib.cell_of_heap hb2];rfl,Lib.frozen_of_heap hb2 1⟩
theorem zl7 (B b:Nat)(bs:List Value)(c:Int)(w:World)(h:Lib.IsBuilder 239 5 B b bs w)(hlen:bs.length≤100000)(hBw:B≤w.heap.size) :
 Calls Tryz.prog 193 #[.pointer (some ⟨b,0,none⟩),.int .u8 c] w fun e w'=>e=.returned .nilIface∧Lib.BuilderAt 239 5 B b (.pointer (some ⟨b,0,none⟩)) (bs ++ [.int .u8 c]) w'∧Below B w w':=by
 obtain ⟨i0,hi,hz0,hz1,hz2⟩:=info_parts Tryz.infoUint8;have KC:Hid _:=zhD B b bs w h;clear h
 go_enter Tryz.func193,Tryz.ntmps193
 go_wp2_with fail
 refine Calls.mono KC.out ?_;rintro e w1 ⟨rfl,⟨hB,v,hbk,hown,hne⟩,hb1⟩;obtain ⟨va,vc,hv⟩:=zcz hown;subst hv;have c1:w1.cell? ⟨b,1,none⟩=some (.slice va bs.length vc):=by rw [Lib.cell_of_heap hbk];rfl
 have HBK:Hid _:=hbk;have HNE:Hid _:=hne;have HO:Hid (∀ o,(w1.alloc o).ownsRow B 5 1 (.slice va bs.length vc) bs.length bs):=fun o=>zaj hown (fun k hk=>((Below.refl w1.heap.size w1).alloc (Nat.le_refl _) o).block k (hown.lt k hk).2)
 have HB1:Hid (∀ o,Below B w (w1.alloc o)):=fun o=>hb1.alloc (Nat.le_trans hBw hb1.size) o
 have HSZ:Hid (∀ o,B≤(w1.alloc o).heap.size):=fun o=>Nat.le_trans hBw (HB1.out o).size
 have HFIN:Hid (∀ o w2 v',(w1.alloc o).grownBy w2 (Value.slice va bs.length vc).ownBlock→w2.ownsRow B 5 1 v' (bs.length+1) (bs ++ [.int .u8 c])→(Lib.BuilderAt 239 5 B b (.pointer (some ⟨b,0,none⟩)) (bs ++ [.int .u8 c]) (w2.setCell ⟨b,1,none⟩ v')∧w2.cell? ⟨b,1,none⟩=some (.slice va bs.length vc)∧w2.frozen? ⟨b,1,none⟩=false)∧Below B w (w2.setCell ⟨b,1,none⟩ v')):=fun o w2 v' hg ho =>
  ⟨zhr hB (((Below.refl w1.heap.size w1).alloc (Nat.le_refl _) o).block b (Array.getElem?_eq_some_iff.1 hbk).1 |>.trans hbk) hne hg (by rw [List.length_append];exact ho),((HB1.out o).grown hg (HSZ.out o) (fun k hk=>((HO.out o).lt k hk).1)).setCell hB _⟩
 clear hown hne hbk hb1 KC
 go_wp2_with (at_builtin;refine wpList_append_own _ rfl _ _ 115 rfl B 5 i0 _ 1 1 (by kernel_rfl) hi hz0 hz1 hz2 rfl (by decide) (.slice va bs.length vc) bs.length bs rfl (HO.out _) ⟨w1.heap.size,0,none⟩ 1 1 [.int .u8 c] rfl rfl (zbz _ _ _) (fun u hu=>by simp at hu;subst hu;rfl) (by unfold maxLen;omega) (by omega) (HSZ.out _) ?_;intro v' w2 hown' hgrow hnil;obtain ⟨xa,xc,rfl⟩:=zcz hown';obtain ⟨⟨hA,d1,f1⟩,hbf⟩:=HFIN.out _ _ _ hgrow hown';have HA:Hid _:=hA;have HBF:Hid _:=hbf;clear hA hbf hown' hgrow hnil)
 go_wp2;go_ret;exact ⟨rfl,HA.out,HBF.out⟩
theorem zec (B b : Nat) (bs:List Value) (s:ByteArray) (w:World) (h:Lib.IsBuilder 239 5 B b bs w) (hlen:bs.length≤100000) (hs:s.size≤100000) (hBw:B≤w.heap.size) :
 Calls Tryz.prog 186 #[.pointer (some ⟨b,0,none⟩),.string s] w fun e w'=>e=.returned (.tuple #[.int .i64 s.size,.nilIface])∧Lib.BuilderAt 239 5 B b (.pointer (some ⟨b,0,none⟩)) (bs ++ Lib.strCells s) w'∧Below B w w':=by
 obtain ⟨i0,hi,hz0,hz1,hz2⟩:=info_parts Tryz.infoUint8;have KC:Hid _:=zhD B b bs w h;clear h
 go_enter Tryz.func186,Tryz.ntmps186
 go_wp2_with fail
 refine Calls.mono KC.out ?_;rintro e w1 ⟨rfl,⟨hB,v,hbk,hown,hne⟩,hb1⟩;obtain ⟨va,vc,hv⟩:=zcz hown;subst hv;have c1:w1.cell? ⟨b,1,none⟩=some (.slice va bs.length vc):=by rw [Lib.cell_of_heap hbk];rfl
 have HO:Hid (w1.ownsRow B 5 1 (.slice va bs.length vc) bs.length bs):=hown;have HSZ:Hid (B≤w1.heap.size):=Nat.le_trans hBw hb1.size
 have HFIN:Hid (∀ w2 v',w1.grownBy w2 (Value.slice va bs.length vc).ownBlock→w2.ownsRow B 5 1 v' (bs.length+s.size) (bs ++ Lib.strCells s)→(Lib.BuilderAt 239 5 B b (.pointer (some ⟨b,0,none⟩)) (bs ++ Lib.strCells s) (w2.setCell ⟨b,1,none⟩ v')∧w2.cell? ⟨b,1,none⟩=some (.slice va bs.length vc)∧w2.frozen? ⟨b,1,none⟩=false)∧Below B w (w2.setCell ⟨b,1,none⟩ v')):=fun w2 v' hg ho =>
  ⟨zhr hB hbk hne hg (by have e:(bs ++ Lib.strCells s).length=bs.length+s.size:=by have:=ho.1;omega
                         rw [e];exact ho),(hb1.grown hg HSZ.out (fun k hk=>(HO.out.lt k hk).1)).setCell hB _⟩
 clear hown hne hbk hb1 KC
 go_wp2_with (at_builtin;refine Lib.wpList_append_own_string _ rfl _ _ 115 9 rfl B 5 i0 (by kernel_rfl) (by kernel_rfl) hi hz0 hz1 hz2 (.slice va bs.length vc) bs.length bs rfl HO.out s rfl (by unfold maxLen;omega) (by omega) HSZ.out ?_;intro v' w2 hown' hgrow hnil;obtain ⟨xa,xc,rfl⟩:=zcz hown';obtain ⟨⟨hA,d1,f1⟩,hbf⟩:=HFIN.out _ _ hgrow hown';have HA:Hid _:=hA;have HBF:Hid _:=hbf;clear hA hbf hown' hgrow hnil)
 go_wp2;go_ret2;exact ⟨rfl,HA.out,HBF.out⟩
def zp9:List UInt8:=[112,97,116,99,104,113,117,105,108,116]
def zbP (i:Nat)(s:ByteArray):List UInt8:=zp9 ++ ([UInt8.ofNat i,UInt8.ofNat (s.size / 40)] ++ leB 8 (zhL s))
theorem zcL (i:Nat)(s:ByteArray):(zbP i s).length=20:=by simp [zbP,zp9,zaT]
theorem zmN (W:World)(a b:Nat)(ha:a<256)(hb:b<256)(T:TypeId):∀ j (hj:j < [UInt8.ofNat a,UInt8.ofNat b].length),(W.alloc (Obj.cells #[.int .u8 a,.int .u8 b] T)).cell? ((⟨W.heap.size,0,none⟩:Addr).add j)=some (.int .u8 ([UInt8.ofNat a,UInt8.ofNat b][j].toNat:Int)):=by
 intro j hj;have e:∀ k,k<256→(UInt8.ofNat k).toNat=k:=fun k hk=>by simp;omega
 match j,hj with
 | 0,_=>simp [Addr.add];omega
 | 1,_=>simp [Addr.add];omega
theorem zlr {T:TypeId}(ha:a<256)(hb:b<256)(h:Below (W.alloc (Obj.cells #[.int .u8 a,.int .u8 b] T)).heap.size (W.alloc (Obj.cells #[.int .u8 a,.int .u8 b] T)) w'):∀ j (hj:j < [UInt8.ofNat a,UInt8.ofNat b].length),w'.cell? ((⟨W.heap.size,0,none⟩:Addr).add j)=some (.int .u8 ([UInt8.ofNat a,UInt8.ofNat b][j].toNat:Int)):=fun j hj=>by
 have h1:=zmN W a b ha hb T j hj;rw [h.cell (World.block_lt_of_cell? _ _ h1)];exact h1
theorem zfh (i:Nat)(s:ByteArray)(w:World)(hi:i≤1)(hs:s.size≤1000) :
 Calls Tryz.prog 124 #[.int .i64 i,.string s] w fun e w'=>e=.returned (.string (baL (zbP i s)))∧Below w.heap.size w w':=by
 obtain ⟨c,hc⟩:∃ c,c=s.size / 40:=⟨_,rfl⟩
 have hc2:c<256:=by omega
 have hcz:(s.size:Int) / 40=(c:Int):=by omega
 have HY:Hid (baL (zbP i s)=baL zp9 ++ baL [UInt8.ofNat i,UInt8.ofNat c] ++ baL (leB 8 (zhL s))):=by
  show _=_;rw [zeV,zeV,List.append_assoc,hc];rfl
 have hcv:∀ W:World,(convert 115 9 (.slice (some ⟨W.heap.size,0,none⟩) 2 2)).run Tryz.prog (W.alloc (Obj.cells #[.int .u8 i,.int .u8 c] 5))=.ok (.string (baL [UInt8.ofNat i,UInt8.ofNat c])) (W.alloc (Obj.cells #[.int .u8 i,.int .u8 c] 5)):=fun W =>
  run_convert_bytes_back (P:=Tryz.prog) (W.alloc (Obj.cells #[.int .u8 i,.int .u8 c] 5)) 115 9 5 ⟨W.heap.size,0,none⟩ 2 [UInt8.ofNat i,UInt8.ofNat c] (by kernel_rfl) (by kernel_rfl) (by kernel_rfl) (zmN W i c (by omega) hc2 5)
 have HFAR:Hid (∀ W w':World,Below (W.alloc (Obj.cells #[.int .u8 i,.int .u8 c] 5)).heap.size (W.alloc (Obj.cells #[.int .u8 i,.int .u8 c] 5)) w'→(convert 115 9 (.slice (some ⟨W.heap.size,0,none⟩) 2 2)).run Tryz.prog w'=.ok (.string (baL [UInt8.ofNat i,UInt8.ofNat c])) w'):=fun W w' hb =>
  run_convert_bytes_back (P:=Tryz.prog) w' 115 9 5 ⟨W.heap.size,0,none⟩ 2 [UInt8.ofNat i,UInt8.ofNat c] (by kernel_rfl) (by kernel_rfl) (by kernel_rfl) (zlr (by omega) hc2 hb)
 have hcv0:(convert 115 9 (.slice (some ⟨w.heap.size,0,none⟩) 2 2)).run Tryz.prog (w.alloc (Obj.cells #[.int .u8 i,.int .u8 c] 5)).drew=.ok (.string (baL [UInt8.ofNat i,UInt8.ofNat c])) (w.alloc (Obj.cells #[.int .u8 i,.int .u8 c] 5)).drew:=HFAR.out w _ (Below.refl _ _).drew;have KS:Hid (∀ W,Calls Tryz.prog 159 #[.string s] W fun e w'=>e=.returned (.int .u64 (zhL s))∧w'=W):=fun W=>znV s W hs
 have KB:Hid (∀ W,Calls Tryz.prog 158 #[.int .u64 (zhL s),.int .i64 8] W fun e w'=>e=.returned (.string (baL (leB 8 (zhL s))))∧Below W.heap.size W w'):=fun W=>zeo (zhL s) 8 W (zsE s) (by omega)
 have hz1:(baL zp9).size=10:=rfl;have hz2:(baL [UInt8.ofNat i,UInt8.ofNat c]).size=2:=rfl;have hz3:(baL (leB 8 (zhL s))).size=8:=by rw [za3,zaT]
 have hz4:(baL zp9 ++ baL [UInt8.ofNat i,UInt8.ofNat c]).size=12:=by rw [ByteArray.size_append,hz1,hz2]
 rw [HY.out];change Calls _ _ _ _ fun e w'=>e=.returned (.string ((⟨#[112,97,116,99,104,113,117,105,108,116]⟩:ByteArray) ++ baL [UInt8.ofNat i,UInt8.ofNat c] ++ baL (leB 8 (zhL s))))∧Below w.heap.size w w'
 generalize baL (leB 8 (zhL s))=Z at *;generalize baL [UInt8.ofNat i,UInt8.ofNat c]=Y at *;generalize zhL s=S at *;clear hc HY;have hw1:IntKind.u8.wrap (i:Int)=(i:Int):=by rw [IntKind.wrap_u8];omega
 have hw2:IntKind.i64.wrap (c:Int)=(c:Int):=zha (by omega);have hw3:IntKind.u8.wrap (c:Int)=(c:Int):=by rw [IntKind.wrap_u8];omega
 go_enter Tryz.func124,Tryz.ntmps124
 go_wp2_with fail
 go_region_law
  (first
    | (go_simp
       go_at_call 159
       refine Calls.mono (KS.out _) ?_;rintro e w5 ⟨rfl,hw⟩;rw [hw];clear hw w5)
    | (go_simp
       go_at_call 158
       refine Calls.mono (KB.out (w.alloc (Obj.cells #[.int .u8 i,.int .u8 c] 5)).drew) ?_;rintro e wa ⟨rfl,hb⟩;have hcv2:=HFAR.out w wa ⟨hb.os,hb.tape,hb.output,hb.size,hb.block⟩;have HB5:Hid (Below w.heap.size w wa):=((Below.refl w.heap.size w).alloc (Nat.le_refl _) _).drew.trans (hb.mono ((Below.refl w.heap.size w).alloc (Nat.le_refl _) _).drew.size);clear hb)
    | (go_simp
       go_at_call 158
       refine Calls.mono (KB.out w.drew) ?_;rintro e wa ⟨rfl,hb⟩;have HB5:Hid (Below w.heap.size w wa):=(Below.refl w.heap.size w).drew.trans hb;clear hb))
 all_goals
  go_wp2;go_ret
  first
   | exact ⟨rfl,HB5.out⟩
   | exact ⟨rfl,HB5.out.alloc HB5.out.size _⟩
theorem zt5 (hup:d.down=false)(hin:start+many≤d.now.length)(hi:i<many):∃ h:i<(zao d.now start many).length,zgK d ((start:Int)+(i:Int))=((zao d.now start many)[i],0):=by
 have hl:=zaU hin;refine ⟨by omega,?_⟩;have hn:start+i<d.now.length:=by omega
 unfold zgK;rw [if_neg (by rw [hup];decide),if_pos (by omega),show ((start:Int)+(i:Int)).toNat=start+i by omega];have:=za8 (now:=d.now) (from':=start) (many:=many) (j:=i);rw [if_pos hi,List.getElem?_eq_getElem (by omega),List.getElem?_eq_getElem hn] at this
 rw [Option.some.inj this];simp [hn]
theorem znx (h:zgu d.now)(hi:i<(zao d.now start many).length):(zao d.now start many)[i].length=40 :=
 h _ (List.mem_of_mem_drop (List.mem_of_mem_take (List.getElem_mem hi)))
theorem zhI:∀ {R:List (List UInt8)},(∀ x ∈ R,x.length=40)→R.flatten.length=R.length * 40
 | [],_=>rfl
 | x :: R,h=>by
   have:=zhI (R:=R) (fun y hy=>h y (List.mem_cons_of_mem _ hy));rw [List.flatten_cons,List.length_append,this,h x (by simp),List.length_cons];omega
theorem zeA (l:List UInt8)(x:List UInt8):Lib.byteCells l ++ Lib.strCells (baL x)=Lib.byteCells (l ++ x):=by
 unfold Lib.byteCells Lib.strCells;rw [zbT,List.map_append]
theorem zhd (l:List UInt8):(Lib.byteCells l).length=l.length:=by unfold Lib.byteCells;simp
theorem zf2 {bs:List Value}(h:Lib.IsBuilder 239 5 B b bs w)(hb:Below w.heap.size w w'):Lib.IsBuilder 239 5 B b bs w':=by
 have go:∀ p,Lib.BuilderAt 239 5 B b p bs w→Lib.BuilderAt 239 5 B b p bs w':=fun p ⟨hB,v,hbk,hown,hne⟩ =>
  ⟨hB,v,by rw [hb.block b (Array.getElem?_eq_some_iff.1 hbk).1];exact hbk,zaj hown (fun k hk=>hb.block k (hown.lt k hk).2),hne⟩
 rcases h with h | h
 · exact .inl (go _ h)
 · exact .inr (go _ h)
theorem zlZ (p:Dp) (d:Dk) (start many:Nat) (w:World) (h:zab w p d) (hup:d.down=false) (hin:start+many≤d.now.length) :
 Calls Tryz.prog 161 #[.pointer (some ⟨p.B,0,none⟩),.int .i64 start,.int .i64 many] w fun e w'=>e=.returned (.tuple #[.string (baL (zao d.now start many).flatten),.nilIface])∧Below w.heap.size w w':=by
 have HD:Hid (zab w p d):=h;have h60:=h.few;have HF:Hid (zgu d.now):=h.snow;have HUP:Hid (d.down=false):=hup;have HIN:Hid (start+many≤d.now.length):=hin;have hlen:(zao d.now start many).length=many:=zaU hin;have HLEN:Hid _:=hlen;have hm60:start+many≤60:=by omega
 clear h hup hin hlen;obtain ⟨R,hR⟩:∃ R,R=zao d.now start many:=⟨_,rfl⟩
 have HR:Hid (R=zao d.now start many):=hR;rw [← hR] at HLEN ⊢;clear hR
 have HSZ:Hid (∀ i,(R.take i).flatten.length≤2400):=fun i=>by
  rw [zhI (fun x hx=>by rw [HR.out] at hx;exact HF.out x (List.mem_of_mem_drop (List.mem_of_mem_take (List.mem_of_mem_take hx))))];have:=HLEN.out;rw [List.length_take];omega
 go_enter Tryz.func161,Tryz.ntmps161
 go_wp2_with fail
 go_loopg [13] (many+1) (fun kx vi wr=>∃ i:Nat,vi=.int .i64 i∧i≤many∧many - i≤kx∧Hid (Lib.IsBuilder 239 5 w.heap.size w.heap.size (Lib.byteCells (R.take i).flatten) wr)∧Hid (Below w.heap.size w wr))
 case atStart=>exact ⟨0,rfl,by omega,by omega,Lib.fresh_isBuilder _ _ w,(Below.refl _ _).alloc (Nat.le_refl _) _⟩
 case round =>
  obtain ⟨i,rfl,hi,hix,HB,HBL⟩:=hrel
  by_cases hlt:i<many
  · have hltz:(i:Int)<(many:Int):=by omega
    obtain ⟨hri,hrd⟩:=zt5 HUP.out HIN.out hlt;have kr:=zfP p d ((start:Int)+(i:Int)) wr (HD.out.below HBL.out);rw [hrd,zac rfl] at kr;have hx40:=znx HF.out hri;obtain ⟨x,hx⟩:∃ x,x=(zao d.now start many)[i]:=⟨_,rfl⟩
    rw [← hx] at kr hx40;have HX:Hid (∃ hh:i<R.length,x=R[i]):=⟨by rw [HR.out];exact hri,by simp only [HR.out];exact hx⟩;have KR:Hid (Calls Tryz.prog 160 #[.pointer (some ⟨p.B,0,none⟩),.int .i64 ((start:Int)+(i:Int))] wr fun e w'=>e=.returned (.tuple #[.string (baL x),.nilIface])∧w'=wr):=kr;have KW:Hid _:=zec w.heap.size w.heap.size _ (baL x) wr HB.out (by rw [zhd];have:=HSZ.out i;omega) (by rw [za3];omega) HBL.out.size;clear kr hrd hx hri
    have HNX:Hid (Lib.byteCells (R.take i).flatten ++ Lib.strCells (baL x)=Lib.byteCells (R.take (i+1)).flatten):=by
     show _=_;obtain ⟨hh,e⟩:=HX.out;rw [zeA,List.take_succ_eq_append_getElem hh,List.flatten_append,e];simp
    rw [HNX.out] at KW
    go_wp2_with fail
    refine Calls.mono KR.out ?_;rintro e w2 ⟨rfl,hw⟩;rw [hw];clear hw w2 KR
    go_wp2_with fail
    refine Calls.mono KW.out ?_;rintro e w3 ⟨rfl,hb3,hbl3⟩;have HB3:Hid (Lib.IsBuilder 239 5 w.heap.size w.heap.size (Lib.byteCells (R.take (i+1)).flatten) w3):=.inr hb3;have HBL3:Hid (Below w.heap.size w w3):=HBL.out.trans hbl3;clear hb3 hbl3 KW;go_wp2
    go_roundg (many - (i+1))
    case measure=>omega
    case rel=>exact ⟨i+1,by go_num,by omega,Nat.le_refl _,HB3,HBL3⟩
  · have HALL:Hid (R.take i=R):=List.take_of_length_le (by have:=HLEN.out;omega)
    have ks:=Tryz.Builder_String_any w.heap.size w.heap.size _ wr HB.out HBL.out.size;rw [HALL.out] at ks;have KS:Hid _:=ks;clear ks
    go_wp2_with fail
    refine Calls.mono KS.out ?_;rintro e w3 ⟨rfl,hbl3⟩;have HBL3:Hid (Below w.heap.size w w3):=HBL.out.trans hbl3;clear hbl3 KS;go_wp2;go_ret2;exact ⟨rfl,HBL3.out⟩
def rowL (c:Ch):List UInt8:=UInt8.ofNat (zaM c).length :: (zaM c ++ List.replicate (39 - (zaM c).length) 0)
theorem zgQ (h:zae c=0):(rowL c).length=40:=by
 have:=zc9 h;simp [rowL];omega
def zbc (rows:List Ch):List UInt8:=(rows.map rowL).flatten
theorem zcM (h:∀ c ∈ rows,zae c=0):(zbc rows).length=rows.length * 40:=by
 unfold zbc;rw [zhI (fun x hx=>by obtain ⟨c,hc,rfl⟩:=List.mem_map.1 hx;exact zgQ (h c hc)),List.length_map]
theorem zqh (l:List Ch)(c:Ch):zbc (l ++ [c])=zbc l ++ rowL c:=by simp [zbc]
theorem zhm:∀ n,Lib.repeatL [0] n=List.replicate n 0
 | 0=>rfl
 | n+1=>by rw [Lib.repeatL,zhm n];rfl
theorem zrU (l:List UInt8)(c:Ch)(h:(zaM c).length<256):Lib.byteCells l ++ [Value.int .u8 ((zaM c).length:Nat)] ++ Lib.strCells (baL (zaM c)) ++ Lib.strCells (baL (List.replicate (39 - (zaM c).length) 0))=Lib.byteCells (l ++ rowL c):=by
 have e:[Value.int .u8 ((zaM c).length:Nat)]=Lib.byteCells [UInt8.ofNat (zaM c).length]:=by
  unfold Lib.byteCells;have:(UInt8.ofNat (zaM c).length).toNat=(zaM c).length:=by simp;omega
  simp [this]
 rw [e];have a:∀ x y:List UInt8,Lib.byteCells x ++ Lib.byteCells y=Lib.byteCells (x ++ y):=fun x y=>by unfold Lib.byteCells;rw [List.map_append]
 rw [a,zeA,zeA];unfold rowL;simp
theorem zf3 (a:Option Addr) (cap:Nat) (l:List Ch) (w:World) (hl:l.length≤100) (hc:CC w a l) (hok:∀ c ∈ l,zae c=0) :
 Calls Tryz.prog 151 #[.slice a l.length cap] w fun e w'=>e=.returned (.string (baL (zbc l)))∧Below w.heap.size w w':=by
 have HC:Hid (CC w a l):=hc;have HOK:Hid (∀ c ∈ l,zae c=0):=hok
 have HSZ:Hid (∀ i,(zbc (l.take i)).length≤4000):=fun i=>by
  rw [zcM (fun c hc=>hok c (List.mem_of_mem_take hc)),List.length_take];omega
 clear hc hok
 go_enter Tryz.func151,Tryz.ntmps151
 go_wp2_with fail
 go_loopg [10] (l.length+1) (fun kx vi wr=>∃ i:Nat,vi=.int .i64 i∧i≤l.length∧l.length - i≤kx∧Hid (Lib.IsBuilder 239 5 w.heap.size w.heap.size (Lib.byteCells (zbc (l.take i))) wr)∧Hid (Below w.heap.size w wr))
 case atStart=>exact ⟨0,rfl,by omega,by omega,Lib.fresh_isBuilder _ _ w,(Below.refl _ _).alloc (Nat.le_refl _) _⟩
 case round =>
  obtain ⟨i,rfl,hi,hix,HB,HBL⟩:=hrel
  by_cases hlt:i<l.length
  · have hltz:(i:Int)<(l.length:Int):=by omega
    obtain ⟨cb,co,rfl,c0,c1,c2⟩:=(HC.out.below HBL.out) i hlt;have hf:zae l[i]=0:=HOK.out _ (List.getElem_mem hlt);obtain ⟨x,hx⟩:∃ x,x=l[i]:=⟨_,rfl⟩
    rw [← hx] at c0 c1 c2 hf;have hbl:(zaM x).length≤26:=zc9 hf;have HTX:Hid (zbc (l.take (i+1))=zbc (l.take i) ++ rowL x):=by show _=_;rw [List.take_succ_eq_append_getElem hlt,zqh,hx]
    clear hx;have kb:=fun W=>zio x W
    rw [hf,zac rfl,if_pos rfl] at kb;obtain ⟨n,hn⟩:∃ n,n=(zaM x).length:=⟨_,rfl⟩
    have hn26:n≤26:=by omega
    obtain ⟨Y,hY⟩:∃ Y,Y=baL (zaM x):=⟨_,rfl⟩
    have hYs:Y.size=n:=by rw [hY,za3,hn]
    have KB:Hid (∀ o,Calls Tryz.prog 192 #[x.v] (wr.alloc o) fun e w'=>e=.returned (.tuple #[.string Y,.nilIface])∧Below wr.heap.size wr w'):=fun o=>(kb (wr.alloc o)).mono fun e w' ⟨he,hb⟩=>⟨by rw [hY];exact he,((Below.refl wr.heap.size wr).alloc (Nat.le_refl _) o).trans (hb.mono ((Below.refl wr.heap.size wr).alloc (Nat.le_refl _) o).size)⟩
    have HROW:Hid (Lib.byteCells (zbc (l.take i)) ++ [Value.int .u8 (n:Int)] ++ Lib.strCells Y ++ Lib.strCells (baL (List.replicate (39 - n) 0))=Lib.byteCells (zbc (l.take (i+1)))):=by
     show _=_;rw [HTX.out,hY,hn];exact zrU _ x (by omega)
    have HS0:Hid ((Lib.byteCells (zbc (l.take i))).length≤4000):=by show _≤_;rw [zhd];exact HSZ.out i
    have HYC:Hid ((Lib.strCells Y).length=n):=by show _=_;rw [Lib.strCells_length,hYs]
    have KP:Hid (∀ W,Calls Tryz.prog 147 #[.string ⟨#[0]⟩,.int .i64 (39 - (n:Int))] W fun e w'=>e=.returned (.string (baL (List.replicate (39 - n) 0)))∧Below W.heap.size W w'):=fun W=>by
     have h:=Tryz.strings_Repeat ⟨#[0]⟩ (39 - n) W (by omega) (by have:(⟨#[0]⟩:ByteArray).size=1:=rfl;rw [this];omega);rw [show (((39 - n:Nat):Nat):Int)=39 - (n:Int) by omega] at h;have e:Lib.repeatL (⟨#[0]⟩:ByteArray).data.toList (39 - n)=List.replicate (39 - n) 0:=zhm _;rw [e] at h;exact h
    clear kb hn hY HTX hf hbl;generalize hZ:baL (List.replicate (39 - n) 0)=Z at *;have hZs:Z.size≤39:=by rw [← hZ,za3,List.length_replicate];omega
    clear hZ
    go_wp2_with fail
    refine Calls.mono (KB.out _) ?_;rintro e w2 ⟨rfl,hb2⟩;have HBL2:Hid (Below w.heap.size w w2):=HBL.out.trans (hb2.mono HBL.out.size);have HB2:Hid _:=zf2 HB.out hb2;have KW1:Hid _:=zl7 w.heap.size w.heap.size _ (n:Int) w2 HB2.out (by have:=HS0.out;omega) HBL2.out.size;clear hb2
    go_wp2_with fail
    refine Calls.mono KW1.out ?_;rintro e w3 ⟨rfl,hb3,hbl3⟩;have HBL3:Hid (Below w.heap.size w w3):=HBL2.out.trans hbl3;have KW2:Hid _:=zec w.heap.size w.heap.size _ Y w3 (.inr hb3) (by have:=HS0.out;simp;omega) (by omega) HBL3.out.size;clear hb3 hbl3 KW1
    go_wp2_with fail
    refine Calls.mono KW2.out ?_;rintro e w4 ⟨rfl,hb4,hbl4⟩;have HBL4:Hid (Below w.heap.size w w4):=HBL3.out.trans hbl4;have HB4:Hid _:=hb4;clear hb4 hbl4 KW2
    go_wp2_with fail
    refine Calls.mono (KP.out _) ?_;rintro e w5 ⟨rfl,hb5⟩;have HBL5:Hid (Below w.heap.size w w5):=HBL4.out.trans (hb5.mono HBL4.out.size);have KW3:Hid _:=zec w.heap.size w.heap.size _ Z w5 (zf2 (.inr HB4.out) hb5) (by have:=HS0.out;have:=HYC.out;simp;omega) (by omega) HBL5.out.size;rw [HROW.out] at KW3;clear hb5 KP
    go_wp2_with fail
    refine Calls.mono KW3.out ?_;rintro e w6 ⟨rfl,hb6,hbl6⟩;have HBL6:Hid (Below w.heap.size w w6):=HBL5.out.trans hbl6;have HB6:Hid (Lib.IsBuilder 239 5 w.heap.size w.heap.size (Lib.byteCells (zbc (l.take (i+1)))) w6):=.inr hb6;clear hb6 hbl6 KW3;go_wp2
    go_roundg (l.length - (i+1))
    case measure=>omega
    case rel=>exact ⟨i+1,by go_num,by omega,Nat.le_refl _,HB6,HBL6⟩
  · have HALL:Hid (l.take i=l):=List.take_of_length_le (by omega)
    have ks:=Tryz.Builder_String_any w.heap.size w.heap.size _ wr HB.out HBL.out.size;rw [HALL.out] at ks;have KS:Hid _:=ks;clear ks
    go_wp2_with fail
    refine Calls.mono KS.out ?_;rintro e w3 ⟨rfl,hbl3⟩;have HBL3:Hid (Below w.heap.size w w3):=HBL.out.trans hbl3;clear hbl3 KS;go_wp2;go_ret;exact ⟨rfl,HBL3.out⟩
end Go.Proofs.YtihnghnafpgdfadGreatDoor
namespace Go.Proofs.YtihnghnafpgdfadGreatDoor
open Go Go.RowKit Go.BigFrame
variable {B C Z a b g i k many q start x:Nat}{W W' w w' w1 w2 wr:World}{D d:Dk}{c:Ch}{rows:List Ch}{Q:Exit→Act→World→Prop}{p:Dp}{u:Value}{T:ByteArray}{e:Int}{fr:Nat × Nat}{row:Option Nat}
attribute [local go_sem] Oper.semAt_some
def zdy (K:Act→World→Prop):Exit→Act→World→Prop
 | .normal,a,w=>K a w
 | _,_,_=>False
theorem zfu {P:Program}{c:Code}{K:Act→World→Prop}{a:Act}(h:c.wp P (zdy K) a w):c.wp P (Exit.then K Q) a w :=
 wp_mono h (fun e a w h=>by cases e <;> first | exact h | exact h.elim)
theorem zjq (i:Nat):List.range i ++ [i]=List.range (i+1):=by rw [List.range_succ]
theorem zib (h:i≤k):List.range i <+: List.range k:=by
 refine ⟨(List.range k).drop i,?_⟩;have:List.range i=(List.range k).take i:=by rw [List.take_range,Nat.min_eq_left h]
 rw [this,List.take_append_drop]
theorem zs2 {pre:List Nat}(h:pre ++ [x] <+: List.range k):pre=List.range x∧x<k:=by
 have hl:=h.length_le;rw [List.length_append,List.length_range] at hl;have e:=List.prefix_iff_eq_take.1 h;rw [List.take_range,List.length_append,Nat.min_eq_left (by simpa using hl),List.length_singleton,List.range_succ] at e;obtain ⟨e1,e2⟩:=List.append_inj' e rfl;have e3:x=pre.length:=by simpa using e2
 refine ⟨by rw [e3];exact e1,?_⟩;simp at hl;omega
theorem znu (n Bs Bn g:Nat) (hn:1≤n) (k C:Nat) (hk:k≤1000) (hC:40 * k≤C) (w:World) :
 zsc n Tryz.prog 222 #[.pointer (some ⟨Bs,0,none⟩),.pointer (some ⟨Bn,0,none⟩)] (fun i:Nat=>#[Value.slice (some ⟨g,40 * i,none⟩) 40 40]) (fun b=>b=Bs∨b=Bn)
  (fun W=>W.heap[Bs]?=some (.cells #[.slice (some ⟨g,0,none⟩) (40 * k) C] 115 (0,0))∧W.heap[Bn]?=some (.cells #[.int .i64 40] 3 (0,0))) (fun xs=>xs=List.range k) (fun pre=>pre <+: List.range k) w:=fun l J Jx W hG hW hJ hJx hY h0=>by
 have HY:Hid _:=hY;have HJ:Hid _:=hJ;obtain ⟨g1,g2⟩:=hG;obtain ⟨N,hN⟩:∃ N,N=40 * k:=⟨_,rfl⟩
 rw [← hN] at g1 hC;have HN:Hid (N=40 * k):=hN;have hN4:N≤40000:=by omega
 clear hY hJ hJx hN;refine callsIn_of_wp Tryz.func222 rfl trivial ?_ rfl;simp only [Tryz.ntmps222,List.size_toArray,List.length_cons,List.length_nil,Nat.reduceAdd,Nat.reduceSub,Array.replicate_succ,Array.replicate_zero,List.push_toArray,List.append_toArray,List.nil_append,List.cons_append]
 gi_wp2
 gi_loopg [4] (k+1) (fun kx vi wr=>∃ i j:Nat,vi=.int .i64 j∧i≤k∧k - i≤kx∧Hid (j=40 * i)∧j≤N∧Hid (wr.heap[Bs]?=some (.cells #[.slice (some ⟨g,0,none⟩) N C] 115 (0,0))∧wr.heap[Bn]?=some (.cells #[.int .i64 40] 3 (0,0)))∧Hid (J (List.range i) wr))
 case atStart=>exact ⟨0,0,rfl,by omega,by omega,rfl,by omega,⟨g1,g2⟩,h0⟩
 case round =>
  obtain ⟨i,j,rfl,hi,hix,HJJ,hjn,HB,HJI⟩:=hrel;have cs:wr.cell? ⟨Bs,0,none⟩=some (.slice (some ⟨g,0,none⟩) N C):=by rw [zaa HB.out.1];rfl
  have cn:wr.cell? ⟨Bn,0,none⟩=some (.int .i64 40):=by rw [zaa HB.out.2];rfl
  by_cases hlt:i<k
  · have hjlt:(j:Int)<(N:Int):=by have:=HJJ.out;have:=HN.out;omega
    have hj40:j+40≤N:=by have:=HJJ.out;have:=HN.out;omega
    have hmin:min (40:Int) ((N - j:Nat):Int)=40:=by omega
    have hto:((j:Int)+40).toNat=j+40:=by omega
    gi_wp2
    refine wpIn_wide.2 ?_
    go_quiet (fail)
    have hgr:wr.grownBy (wr.drewN nq) none:=⟨rfl,rfl,rfl,Nat.le_refl _,fun _ _ _=>rfl⟩;obtain ⟨fn,tmps,assign,body,hyy,hR⟩:=HY.out (List.range i) i (wr.drewN nq) (HJ.out.grow _ _ _ HJI.out hgr) (by rw [zjq];exact zib hlt);rw [← HJJ.out] at hyy;rw [zjq] at hR;have HR:Hid _:=hR;clear hR
    gi_wp2
    refine RoundIn.mono HR.out ?_;rintro e W3 (⟨rfl,hj3,hb3⟩ | ⟨rfl,hx3⟩)
    · have HJ3:Hid (J (List.range (i+1)) W3):=hj3
      have HB3:Hid (W3.heap[Bs]?=some (.cells #[.slice (some ⟨g,0,none⟩) N C] 115 (0,0))∧W3.heap[Bn]?=some (.cells #[.int .i64 40] 3 (0,0))):=⟨(hb3 Bs (.inl rfl)).trans HB.out.1,(hb3 Bn (.inr rfl)).trans HB.out.2⟩;have cn3:W3.cell? ⟨Bn,0,none⟩=some (.int .i64 40):=by rw [zaa HB3.out.2];rfl
      clear hj3 hb3
      gi_wp2
      gi_roundg (k - (i+1))
      case measure=>omega
      case rel=>exact ⟨i+1,j+40,by go_num,by omega,Nat.le_refl _,(by show _=_;rw [HJJ.out];omega),by omega,HB3,HJ3⟩
    · have HX3:Hid (Jx (List.range (i+1)) W3):=hx3
      clear hx3
      gi_wp2
      refine bodyPost_ret (results_none rfl _ _ _) rfl ?_;exact ⟨⟨_,rfl⟩,.inr ⟨_,zib hlt,HX3.out⟩⟩
  · have e:i=k:=by omega
    have hge:¬ (j:Int)<(N:Int):=by have:=HJJ.out;have:=HN.out;omega
    have HJK:Hid (J (List.range k) wr):=by rw [← e];exact HJI.out
    gi_wp2
    go_end0
    first | exact ⟨⟨_,rfl⟩,.inl ⟨_,rfl,HJK.out⟩⟩ | exact ⟨⟨_,rfl⟩,.inl HJK.out⟩
theorem zr9 (v:Value)(hv:∃ a n c,v=.slice a n c)(w:World) :
 Calls Tryz.prog 191 #[v,.int .i64 40] w fun e w'=>e=.returned (.func (.func 222) #[] #[.pointer (some ⟨w.heap.size,0,none⟩),.pointer (some ⟨w.heap.size+1,0,none⟩)])∧w'=(w.alloc (.cells #[v] 115 (0,0))).alloc (.cells #[.int .i64 40] 3 (0,0)):=by
 obtain ⟨a,n,c,rfl⟩:=hv
 go_enter Tryz.func191,Tryz.ntmps191
 go_wp2;go_ret;exact ⟨rfl,rfl⟩
end Go.Proofs.YtihnghnafpgdfadGreatDoor
namespace Go.Proofs.YtihnghnafpgdfadGreatDoor
open Go.RowKit Go.BigFrame
variable {B C Z a b g i k many q start x:Nat}{W W' w w' w1 w2 wr:World}{D d:Dk}{c:Ch}{rows:List Ch}{Q:Exit→Act→World→Prop}{p:Dp}{u:Value}{T:ByteArray}{e:Int}{fr:Nat × Nat}{row:Option Nat}
def seqD:Dk→List (Nat × ByteArray)→Dk × Int
 | d,[]=>(d,0)
 | d,x :: r=>if (layD d x.1 [x.2]).2=0 then seqD (layD d x.1 [x.2]).1 r else layD d x.1 [x.2]
def zhZ:List (Nat × ByteArray):=[(0,⟨#[]⟩),(1,⟨#[]⟩),(26,⟨#[]⟩),(1,baL (zbP 1 ⟨#[]⟩))]
def zcw (d:Dk):Dk × Int:=if d.now.length<42 then (d,7) else seqD d zhZ
def zld:Nat→Nat
 | 0=>0
 | 1=>1
 | _=>26
theorem zqj (D:Dk)(h:i<3):seqD D (zhZ.drop i)=if (layD D (zld i) [⟨#[]⟩]).2=0 then seqD (layD D (zld i) [⟨#[]⟩]).1 (zhZ.drop (i+1)) else layD D (zld i) [⟨#[]⟩]:=by
 match i,h with
 | 0,_=>rfl
 | 1,_=>rfl
 | 2,_=>rfl
structure FmAt (w wr:World)(p:Dp)(u:Value)(D:Dk)(q:Nat):Prop where
 disk:zab wr { p with wv:=u } D
 touch:zat (dOwn p) w wr
 new:zbw p w u
 few:D.wr.length≤60
 ints:wr.heap[q]?=some (.cells #[.int .i64 0,.int .i64 1,.int .i64 26] 3 (0,0))
theorem zpC {D d:Dk}(h:FmAt w wr p u D q)(k:Nat)(s:ByteArray)(hs:s.size≤1000):
 Calls Tryz.prog 123 #[.pointer (some ⟨p.B,0,none⟩),.int .i64 k,.string s] wr fun e w'=>e=.returned (errV (layD D k [s]).2)∧∃ u',zab w' { p with wv:=u' } (layD D k [s]).1∧zat (dOwn p) w w'∧zbw p w u'∧((layD D k [s]).2=0→FmAt w w' p u' (layD D k [s]).1 q):=by
 refine (zfV { p with wv:=u } D k s wr h.disk hs (by have:=h.few;omega)).mono ?_;rintro e w' ⟨he,u',hd,ht,hn⟩;have hT:zat (dOwn p) w w':=h.touch.step ht rfl rfl rfl h.new
 have hN:zbw p w u':=fun k hk=>by
  rcases hn k hk with e | e
  · exact h.new k e
  · exact .inr (Nat.le_trans h.touch.size e)
 exact ⟨he,u',hd,hT,hN,fun h0=>⟨hd,hT,hN,by rw [ziM _ _ _ h0];simp,by rw [ht.other h.disk h.ints (by decide)];exact h.ints⟩⟩
theorem zjb (p:Dp) (d:Dk) (w:World) (h:zab w p d) (hwr:d.wr.length≤60) :
 Calls Tryz.prog 87 #[.pointer (some ⟨p.B,0,none⟩)] w fun e w'=>e=.returned (errV (zcw d).2)∧∃ u,zab w' { p with wv:=u } (zcw d).1∧zat (dOwn p) w w'∧zbw p w u:=by
 have HD:Hid (zab w p d):=h;have KS:Hid _:=zff p d w h;have h60:=h.few;clear h
 by_cases h42:d.now.length<42
 · have h42z:(d.now.length:Int)<42:=by omega
   have HF:Hid (zcw d=(d,7)):=by show _=_;unfold zcw;rw [if_pos h42]
   have HEV:Hid (errV 7=.iface 90 (.int .i64 7)):=zak (show ¬ (7:Int)=0 by decide)
   go_enter Tryz.func87,Tryz.ntmps87
   go_wp2_with fail
   refine Calls.mono KS.out ?_;rintro e w1 ⟨rfl,hw⟩;rw [hw];clear hw w1;go_wp2;go_ret;rw [HF.out];exact ⟨congrArg Ending.returned HEV.out.symm,p.wv,HD.out,zat.refl _ _,fun k hk=>.inl hk⟩
 have h42z:¬ (d.now.length:Int)<42:=by omega
 have HF:Hid (zcw d=seqD d zhZ):=by show _=_;unfold zcw;rw [if_neg h42]
 have KO:Hid _:=zde 1 w (by omega)
 go_enter Tryz.func87,Tryz.ntmps87
 go_wp2_with fail
 refine Calls.mono KS.out ?_;rintro e w1 ⟨rfl,hw⟩;rw [hw];clear hw w1 KS
 go_wp2_with fail
 refine Calls.mono KO.out ?_;rintro e w1 ⟨rfl,hw⟩;rw [hw];clear hw w1 KO
 go_wp2_with fail
 go_loopg [13] 4 (fun kx vi wr=>∃ (i:Nat) (u:Value) (D:Dk),vi=.int .i64 i∧i≤3∧3 - i≤kx∧Hid (seqD d zhZ=seqD D (zhZ.drop i))∧Hid (FmAt w wr p u D w.heap.size))
 case atStart=>exact ⟨0,p.wv,d,rfl,by omega,by omega,(rfl:seqD d zhZ=seqD d (zhZ.drop 0)),⟨HD.out.below ((Below.refl _ _).alloc (Nat.le_refl _) _),zat.of_below ((Below.refl _ _).alloc (Nat.le_refl _) _),(fun k hk=>.inl hk),hwr,heap_alloc_new w _⟩⟩
 case round =>
  obtain ⟨i,u,D,rfl,hi,hix,HQ,HA⟩:=hrel
  by_cases hlt:i<3
  · have hltz:(i:Int)<3:=by omega
    have HST:Hid _:=zqj D hlt
    have hcell:wr.cell? ⟨w.heap.size,i,none⟩=some (.int .i64 (zld i)):=by
     rw [zaa HA.out.ints]
     match i,hlt with
     | 0,_=>rfl
     | 1,_=>rfl
     | 2,_=>rfl
    have KT:Hid _:=zpC (d:=d) HA.out (zld i) ⟨#[]⟩ (by decide);generalize zld i=k at *;generalize layD D k [⟨#[]⟩]=R at *;obtain ⟨D',n⟩:=R;simp only at HST KT
    by_cases hn:n=0
    · have HN:Hid (seqD d zhZ=seqD D' (zhZ.drop (i+1))):=by show _=_;rw [HQ.out,HST.out,if_pos hn]
      rw [hn,zac rfl] at KT
      go_wp2_with fail
      refine Calls.mono KT.out ?_;rintro e w2 ⟨rfl,u',-,-,-,hfm⟩;have HFM:Hid (FmAt w w2 p u' D' w.heap.size):=hfm (by trivial);clear hfm KT;go_wp2
      go_roundg (3 - (i+1))
      case measure=>omega
      case rel=>exact ⟨i+1,u',D',by go_num,by omega,Nat.le_refl _,HN,HFM⟩
    · have HN:Hid (zcw d=(D',n)):=by show _=_;rw [HF.out,HQ.out,HST.out,if_neg hn]
      have HEV:Hid _:=zak hn;rw [HEV.out] at KT
      go_wp2_with fail
      refine Calls.mono KT.out ?_;rintro e w2 ⟨rfl,u',hd2,ht2,hn2,-⟩;have HE:Hid (∃ u,zab w2 { p with wv:=u } D'∧zat (dOwn p) w w2∧zbw p w u):=⟨u',hd2,ht2,hn2⟩;clear hd2 ht2 hn2 KT;go_wp2;go_ret;rw [HN.out];exact ⟨congrArg Ending.returned HEV.out.symm,HE.out⟩
  · have hge:¬ (i:Int)<3:=by omega
    have hi3:i=3:=by omega
    have HN:Hid (zcw d=layD D 1 [baL (zbP 1 ⟨#[]⟩)]):=by
     show _=_;rw [HF.out,HQ.out,hi3];show (if _ then seqD _ [] else _)=_
     split
     · rename_i h0
       exact Prod.ext rfl h0.symm
     · rfl
    clear hi3;have KH:Hid _:=zfh 1 ⟨#[]⟩ wr (by omega) (by decide)
    have KT:Hid (∀ W,Below wr.heap.size wr W→Calls Tryz.prog 123 #[.pointer (some ⟨p.B,0,none⟩),.int .i64 1,.string (baL (zbP 1 ⟨#[]⟩))] W fun e w'=>e=.returned (errV (layD D 1 [baL (zbP 1 ⟨#[]⟩)]).2)∧∃ u',zab w' { p with wv:=u' } (layD D 1 [baL (zbP 1 ⟨#[]⟩)]).1∧zat (dOwn p) w w'∧zbw p w u'):=fun W hb=>by
     have hf:FmAt w W p u D w.heap.size:=⟨HA.out.disk.below hb,HA.out.touch.trans (zat.of_below hb),HA.out.new,HA.out.few,by rw [hb.block _ (Array.getElem?_eq_some_iff.1 HA.out.ints).1];exact HA.out.ints⟩;exact (zpC (d:=d) hf 1 (baL (zbP 1 ⟨#[]⟩)) (by rw [za3,zcL];omega)).mono fun e w' ⟨he,u',h1,h2,h3,_⟩=>⟨he,u',h1,h2,h3⟩
    generalize baL (zbP 1 ⟨#[]⟩)=Y at *
    go_wp2_with fail
    refine Calls.mono KH.out ?_;rintro e w2 ⟨rfl,hb2⟩;have HB2:Hid _:=hb2;clear hb2 KH
    go_wp2_with fail
    refine Calls.mono (KT.out w2 HB2.out) ?_;rintro e w3 ⟨rfl,hx⟩;have HX:Hid _:=hx;clear hx KT;go_wp2;go_ret;rw [HN.out];exact ⟨rfl,HX.out⟩
end Go.Proofs.YtihnghnafpgdfadGreatDoor
namespace Go.Proofs.YtihnghnafpgdfadGreatDoor
open Go Go.RowKit Go.BigFrame
variable {B C Z a b g i k many q start x:Nat}{W W' w w' w1 w2 wr:World}{D d:Dk}{c:Ch}{rows:List Ch}{Q:Exit→Act→World→Prop}{p:Dp}{u:Value}{T:ByteArray}{e:Int}{fr:Nat × Nat}{row:Option Nat}
def zfo (T:ByteArray)(i:Nat):List UInt8:=(T.data.toList.drop (40 * i)).take 40
def za4 (T:ByteArray)(k:Nat):List ByteArray:=(List.range k).map fun i=>baL (zfo T i)
theorem zcE (T:ByteArray)(k:Nat):(za4 T k).length=k:=by simp [za4]
theorem zfi (hT:T.size=40 * k)(hi:i<k):(zfo T i).length=40:=by
 unfold zfo;rw [List.length_take,List.length_drop,zhf];omega
def layT (d:Dk)(i:Nat)(T:ByteArray)(k:Nat):Dk × Int :=
 if (layD d (2+i * 12) (za4 T k)).2=0 then seqD (layD d (2+i * 12) (za4 T k)).1 [(i,baL (zbP i T)),(1 - i,⟨#[]⟩)] else layD d (2+i * 12) (za4 T k)
theorem zrQ (h:zap d (2+i * 12) (za4 T k)=(D,e))(he:¬ e=0):layT d i T k=(D,e):=by
 have:layD d (2+i * 12) (za4 T k)=(D,e):=by unfold layD;rw [h,if_neg he]
 unfold layT;rw [this,if_neg he]
theorem zqx (h:zap d (2+i * 12) (za4 T k)=(D,0))(he:¬ zb1 D=0):layT d i T k=(zaO D,zb1 D):=by
 have:layD d (2+i * 12) (za4 T k)=(zaO D,zb1 D):=by unfold layD;rw [h,if_pos rfl]
 unfold layT;rw [this,if_neg he]
theorem zrJ (h:zap d (2+i * 12) (za4 T k)=(D,0))(he:zb1 D=0):layT d i T k=if (layD (zaO D) i [baL (zbP i T)]).2=0 then layD (layD (zaO D) i [baL (zbP i T)]).1 (1 - i) [⟨#[]⟩] else layD (zaO D) i [baL (zbP i T)]:=by
 have:layD d (2+i * 12) (za4 T k)=(zaO D,zb1 D):=by unfold layD;rw [h,if_pos rfl]
 unfold layT;rw [this,if_pos he];simp only [seqD]
 split
 · rename_i h1
   split
   · rename_i h2
     exact (Prod.ext rfl h2.symm:((layD (layD (zaO D) i [baL (zbP i T)]).1 (1 - i) [⟨#[]⟩]).1,(0:Int))=layD (layD (zaO D) i [baL (zbP i T)]).1 (1 - i) [⟨#[]⟩])
   · rfl
 · rfl
theorem zoq (h:W.heap[g]?=some (.cells (bytesRow T C) 5 fr))(hT:T.size=40 * k)(hi:i<k):
 ∀ j (hj:j<(zfo T i).length),W.cell? ((⟨g,40 * i,none⟩:Addr).add j)=some (.int .u8 ((zfo T i)[j].toNat:Int)):=by
 intro j hj;have h40:j<40:=by rw [zfi hT hi] at hj;exact hj
 have hlt:40 * i+j<T.data.size:=by have:T.data.size=T.size:=rfl;omega
 rw [zti,zaa h];show (bytesRow T C)[40 * i+j]?=_;rw [bytesRow_at T C _ hlt];simp only [zfo,List.getElem_take,List.getElem_drop,Array.getElem_toList]
structure zkI (w:World)(p:Dp)(d:Dk)(a0:Nat)(T:ByteArray)(k g C:Nat)(pre:List Nat)(W:World):Prop where
 disk:∃ u D,zab W { p with wv:=u } D∧zbw p w u∧D.wr.length≤d.wr.length+pre.length∧zap d a0 (za4 T k)=zap D (a0+pre.length) ((za4 T k).drop pre.length)
 touch:zat (dOwn p) w W
 res:Boxed W (w.heap.size+1) 38 .nilIface
 box:Boxed W w.heap.size 25 (.pointer (some ⟨p.B,0,none⟩))
 at':Boxed W (w.heap.size+1+1) 3 (.int .i64 ((a0+pre.length:Nat):Int))
 row:∃ fr,W.heap[g]?=some (.cells (bytesRow T C) 5 fr)
 bs:∃ v,Boxed W (g+1) 115 v
 bn:∃ v,Boxed W (g+1+1) 3 v
structure zph (w:World)(p:Dp)(d:Dk)(a0:Nat)(T:ByteArray)(k g:Nat)(c:Code)(pre:List Nat)(W:World):Prop where
 code:c=.ret
 disk:∃ u D e,zab W { p with wv:=u } D∧zbw p w u∧zap d a0 (za4 T k)=(D,e)∧¬ e=0∧Boxed W (w.heap.size+1) 38 (errV e)
 touch:zat (dOwn p) w W
 bs:∃ v,Boxed W (g+1) 115 v
 bn:∃ v,Boxed W (g+1+1) 3 v
theorem zhj (h:zab W p d)(hg:W.grownBy W' row)(hr:∀ r,row=some r→Z≤r∧∃ o:Obj,W.heap[r]?=some o∧o.isCells=false):zab W' p d :=
 h.far fun k hk=>by
  obtain ⟨C,T,fr,e,-⟩:=h.kind hk;rw [za7 hg hr e,e]
theorem zfc {T:TypeId}(v:Value)(h:zab W p d)(hb:Boxed W b T u)(hT:T≠78∧T≠84∧T≠86):zab (W.setCell ⟨b,0,none⟩ v) p d :=
 h.far fun k hk=>Below.heap_setCell _ _ _ _ (fun e=>by
  obtain ⟨C,T',fr,e',hT'⟩:=h.kind hk;simp only at e;rw [e,show W.heap[b]?=_ from hb] at e';simp at e';rcases hT' with hT' | hT' | hT'
  · exact hT.1 (by rw [e'.2.1,hT'])
  · exact hT.2.1 (by rw [e'.2.1,hT'])
  · exact hT.2.2 (by rw [e'.2.1,hT']))
theorem zgd {S:Nat→Prop}(h:zat S w W)(hZ:w.heap.size≤Z)(hg:W.grownBy W' row)(hr:∀ r,row=some r→Z≤r∧∃ o:Obj,W.heap[r]?=some o∧o.isCells=false):zat S w W' :=
 ⟨hg.os.trans h.os,hg.tape.trans h.tape,hg.output.trans h.output,Nat.le_trans h.size hg.size,fun k hk hn=>(hg.block k (Nat.lt_of_lt_of_le hk h.size) (fun e=>by have:=(hr k e.symm).1;omega)).trans (h.block k hk hn)⟩
theorem zeb {S:Nat→Prop}(h:zat S w W)(hb:w.heap.size≤b)(i:Nat)(v:Value):zat S w (W.setCell ⟨b,i,none⟩ v) :=
 ⟨h.os,h.tape,h.output,by rw [World.size_setCell];exact h.size,fun k hk hn=>(Below.heap_setCell W ⟨b,i,none⟩ v k (by simp;omega)).trans (h.block k hk hn)⟩
section
variable {w:World} {p:Dp} {d:Dk} {a0 k g C:Nat} {T:ByteArray}
theorem zqN (Z:Nat)(hZ:w.heap.size≤Z):OwnFrom Z (zkI w p d a0 T k g C):=fun s W W' row h hg hr=>by
 obtain ⟨⟨u,D,h1,h2,h3,h4⟩,h5,h6,h7,h8,⟨fr,h9⟩,⟨v1,h10⟩,⟨v2,h11⟩⟩:=h;exact ⟨⟨u,D,zhj h1 hg hr,h2,h3,h4⟩,zgd h5 hZ hg hr,za7 hg hr h6,za7 hg hr h7,za7 hg hr h8,⟨fr,za7 hg hr h9⟩,⟨v1,za7 hg hr h10⟩,⟨v2,za7 hg hr h11⟩⟩
theorem zqQ (Z:Nat)(hZ:w.heap.size≤Z)(c:Code):OwnFrom Z (zph w p d a0 T k g c):=fun s W W' row h hg hr=>by
 obtain ⟨h0,⟨u,D,e,h1,h2,h3,h4,h6⟩,h5,⟨v1,h10⟩,⟨v2,h11⟩⟩:=h;exact ⟨h0,⟨u,D,e,zhj h1 hg hr,h2,h3,h4,za7 hg hr h6⟩,zgd h5 hZ hg hr,⟨v1,za7 hg hr h10⟩,⟨v2,za7 hg hr h11⟩⟩
theorem zqE (hg3:g=w.heap.size+1+1+1)(s:List Nat)(W:World)(b:Nat)(v:Value)(hb:b=g+1∨b=g+1+1)(h:zkI w p d a0 T k g C s W):zkI w p d a0 T k g C s (W.setCell ⟨b,0,none⟩ v):=by
 obtain ⟨⟨u,D,h1,h2,h3,h4⟩,h5,h6,h7,h8,⟨fr,h9⟩,⟨v1,h10⟩,⟨v2,h11⟩⟩:=h;rcases hb with rfl | rfl
 · exact ⟨⟨u,D,zfc v h1 h10 (by decide),h2,h3,h4⟩,zeb h5 (by omega) 0 v,zaz h6 (by omega),zaz h7 (by omega),zaz h8 (by omega),⟨fr,zaz h9 (by omega)⟩,⟨v,h10.set v⟩,⟨v2,zaz h11 (by omega)⟩⟩
 · exact ⟨⟨u,D,zfc v h1 h11 (by decide),h2,h3,h4⟩,zeb h5 (by omega) 0 v,zaz h6 (by omega),zaz h7 (by omega),zaz h8 (by omega),⟨fr,zaz h9 (by omega)⟩,⟨v1,zaz h10 (by omega)⟩,⟨v,h11.set v⟩⟩
theorem zp3 (hg3:g=w.heap.size+1+1+1)(c:Code)(s:List Nat)(W:World)(b:Nat)(v:Value)(hb:b=g+1∨b=g+1+1)(h:zph w p d a0 T k g c s W):zph w p d a0 T k g c s (W.setCell ⟨b,0,none⟩ v):=by
 obtain ⟨h0,⟨u,D,e,h1,h2,h3,h4,h6⟩,h5,⟨v1,h10⟩,⟨v2,h11⟩⟩:=h;rcases hb with rfl | rfl
 · exact ⟨h0,⟨u,D,e,zfc v h1 h10 (by decide),h2,h3,h4,zaz h6 (by omega)⟩,zeb h5 (by omega) 0 v,⟨v,h10.set v⟩,⟨v2,zaz h11 (by omega)⟩⟩
 · exact ⟨h0,⟨u,D,e,zfc v h1 h11 (by decide),h2,h3,h4,zaz h6 (by omega)⟩,zeb h5 (by omega) 0 v,⟨v1,zaz h10 (by omega)⟩,⟨v,h11.set v⟩⟩
end
end Go.Proofs.YtihnghnafpgdfadGreatDoor
