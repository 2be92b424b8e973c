/-
  A DISK IS SPOILT: sectors from a place on have these bytes; the trio over it. And: few texts.
-/
import Derived.Test.YtihnghnafpgdfadGreatDoorRk38
import Derived.Test.YtihnghnafpgdfadGreatDoorRk07
namespace Go.Proofs.YtihnghnafpgdfadGreatDoor
open Go Go.RowKit Go.BigFrame
set_option linter.unusedVariables false
set_option linter.unusedSimpArgs false
theorem mask_1024 (n:Int):bits .and .i64 n 1023=n % 1024:=by
  have h127:(BitVec.ofInt 64 1023).toNat=2 ^ 10 - 1:=by decide
  have key:(BitVec.ofInt 64 n &&& BitVec.ofInt 64 1023).toNat=(n % ((2 ^ 64:Nat):Int)).toNat % 2 ^ 10:=by
    rw [BitVec.toNat_and,h127,Nat.and_two_pow_sub_one_eq_mod];rfl
  show IntKind.i64.wrap ((BitVec.ofInt 64 n &&& BitVec.ofInt 64 1023).toNat:Nat)=n % 1024
  rw [key,IntKind.wrap_i64]
  omega
theorem place_of (n:Int)(m:Nat)(hm:0<m):∃ k:Nat,k<m∧(bits .and .i64 n 1023).tmod (m:Int)=(k:Int):=by
  rw [mask_1024]
  have h0:0≤n % 1024:=by omega
  refine ⟨((n % 1024).toNat) % m,Nat.mod_lt _ hm,?_⟩
  rw [Int.tmod_eq_emod_of_nonneg h0]
  have h1:(((n % 1024).toNat:Nat):Int)=n % 1024:=Int.toNat_of_nonneg h0
  rw [Int.natCast_emod,h1]
def spotI (x:Int)(i:Nat):Nat:=((bits .and .i64 (wrap64 (x+(i:Int))) 1023).tmod 50).toNat
theorem spot_is (x:Int)(i:Nat):(bits .and .i64 (wrap64 (x+(i:Int))) 1023).tmod 50=(spotI x i:Int)∧spotI x i<50:=by
  obtain ⟨k,hk,e⟩:=place_of (wrap64 (x+(i:Int))) 50 (by omega)
  have e2:(bits .and .i64 (wrap64 (x+(i:Int))) 1023).tmod 50=(k:Int):=e
  unfold spotI
  rw [e2]
  exact ⟨by simp,by simpa using hk⟩
/-- The disk behind so many writes. -/
def spoilD (d:Dk)(x:Int)(ts:List ByteArray):Nat→Dk
  | 0=>d
  | i+1=>writeD (spoilD d x ts i) (spotI x i:Int) (ts.getD i ⟨#[]⟩)
/-- Some of the sectors were written. -/
structure SpoilTo (w wr:World)(p:Dp)(u:Value)(d:Dk)(k:Nat):Prop where
  disk:DiskAt wr { p with wv:=u } d
  free:Free d 50 k
  new:NewTo p w u
  touch:Touch (dOwn p) w wr
theorem SpoilTo.step {w wr w1:World}{p:Dp}{u v:Value}{d d':Dk}{k k':Nat}(h:SpoilTo w wr p u d k)(hd:DiskAt w1 { p with wv:=v } d')(hn:NewTo { p with wv:=u } wr v)(ht:Touch (dOwn { p with wv:=u }) wr w1)(hf:Free d' 50 k'):SpoilTo w w1 p v d' k' :=
  ⟨hd,hf,fun j hj=>by
    rcases hn j hj with h1 | h1
    · exact h.new j h1
    · exact .inr (Nat.le_trans h.touch.size h1),Touch.step h.touch ht rfl rfl rfl h.new⟩
set_option maxRecDepth 100000 in
set_option maxHeartbeats 200000 in
theorem spoil_any (p:Dp) (d:Dk) (x:Int) (a:Option Addr) (cap:Nat) (ts:List ByteArray) (w:World) (hd:DiskAt w p d) (hf:Free d 50 0) (h60:ts.length≤60) (h40:∀ s ∈ ts,s.size≤40) (hs:∀ W,Touch (dOwn p) w W→Strs W a ts) :
    Calls Tryz.prog 10 #[.pointer (some ⟨p.B,0,none⟩),.int .i64 x,.slice a ts.length cap] w fun e w'=>e=.returned (.bool true)∧∃ d',SpoilTo w w' p (.slice none 0 0) d' 0∧Clean d'∧d'.now=(spoilD d x ts ts.length).now:=by
  have HS:Hid (∀ W,Touch (dOwn p) w W→Strs W a ts):=hs
  have H40:Hid (∀ s ∈ ts,s.size≤40):=h40
  have H0:Hid (SpoilTo w w p p.wv d 0):=⟨hd,hf,fun j hj=>.inl hj,Touch.refl _ _⟩
  clear hs h40 hd hf
  go_enter Tryz.func10,Tryz.ntmps10
  go_wp2_with fail
  go_loopg [7] (ts.length+1) (fun kx vi wr=>∃ (i:Nat) (u:Value),vi=.int .i64 i∧i≤ts.length∧ts.length - i≤kx∧Hid (SpoilTo w wr p u (spoilD d x ts i) i))
  case atStart=>exact ⟨0,p.wv,rfl,Nat.zero_le _,by omega,H0⟩
  case round =>
    obtain ⟨i,u,rfl,hi,hix,HT⟩:=hrel
    by_cases hlt:i<ts.length
    · have hltz:(i:Int)<(ts.length:Int):=by omega
      obtain ⟨b,off,rfl,c0⟩:=HS.out wr HT.out.touch i hlt
      have hsz:=H40.out _ (List.getElem_mem hlt)
      have hszz:¬ (40:Int)<(ts[i].size:Int):=by omega
      obtain ⟨hsp,hsl⟩:=spot_is x i
      have KW:Hid _:=diskWrite_new { p with wv:=u } (spoilD d x ts i) (spotI x i:Int) ts[i] wr HT.out.disk (by unfold maxLen;omega) (by have:=HT.out.free.wr;omega)
      obtain ⟨hw0,hwf⟩:=write_free (i:=spotI x i) (s:=ts[i]) HT.out.free hsl hsz
      have HWF:Hid (Free (writeD (spoilD d x ts i) (spotI x i:Int) ts[i]) 50 (i+1)):=hwf
      rw [hw0,errV_zero rfl] at KW
      have HSP:Hid (spoilD d x ts (i+1)=writeD (spoilD d x ts i) (spotI x i:Int) ts[i]):=by
        show writeD _ _ (ts.getD i ⟨#[]⟩)=_
        rw [List.getD_eq_getElem?_getD,List.getElem?_eq_getElem hlt];rfl
      rw [← hsp] at KW
      have HSE:Hid ((bits .and .i64 (wrap64 (x+(i:Int))) 1023).tmod 50=(spotI x i:Int)):=hsp
      clear hw0 hwf hsl hsp hsz
      go_wp2_with fail
      refine Calls.mono KW.out ?_
      rintro e w1 ⟨rfl,v,hd1,hn1,hw1⟩
      rw [HSE.out] at hd1
      have HT1:Hid (SpoilTo w w1 p v (spoilD d x ts (i+1)) (i+1)):=by rw [HSP.out];exact HT.out.step hd1 hw1 hn1.touch HWF.out
      clear hd1 hn1 hw1 KW c0
      go_wp2
      go_roundg (ts.length - (i+1))
      case measure=>omega
      case rel=>exact ⟨i+1,v,by go_num,by omega,Nat.le_refl _,HT1⟩
    · have hk3:i=ts.length:=by omega
      subst hk3
      have KF:Hid _:=diskFlush_any { p with wv:=u } (spoilD d x ts ts.length) wr HT.out.disk
      have hst:stepN (spoilD d x ts ts.length)=0:=by
        unfold stepN
        rw [if_neg]
        rintro (e | e)
        · rw [HT.out.free.up] at e;cases e
        · have:=HT.out.free.left;omega
      rw [hst,errV_zero rfl] at KF
      have hcl:=flushD_clean hst
      have hnow:(flushD (spoilD d x ts ts.length)).now=(spoilD d x ts ts.length).now:=by
        unfold flushD
        rw [if_pos hst]
        exact (stepD_rest _).1
      have hleft:(flushD (spoilD d x ts ts.length)).left<0:=by
        unfold flushD
        rw [if_pos hst]
        show (stepD _).left<0
        have:=HT.out.free.left
        unfold stepD
        rw [if_neg (by rintro (e | e);rw [HT.out.free.up] at e;cases e;omega),if_neg (by omega)]
        exact this
      have hP:flushP { p with wv:=u } (spoilD d x ts ts.length)={ p with wv:=.slice none 0 0 }:=by
        unfold flushP
        rw [if_pos hst]
      have HFR:Hid (Free (flushD (spoilD d x ts ts.length)) 50 0):=⟨hcl.up,hleft,by rw [hcl.wr];simp,by rw [hnow];exact HT.out.free.len⟩
      have HCL:Hid (Clean (flushD (spoilD d x ts ts.length))∧(flushD (spoilD d x ts ts.length)).now=(spoilD d x ts ts.length).now):=⟨hcl,hnow⟩
      rw [hP] at KF
      clear hst hcl hnow hleft hP
      go_wp2_with fail
      refine Calls.mono KF.out ?_
      rintro e w1 ⟨rfl,hd1,hn1⟩
      have HE:Hid (SpoilTo w w1 p (.slice none 0 0) (flushD (spoilD d x ts ts.length)) 0):=HT.out.step hd1 (fun j hj=>by cases hj) hn1.touch HFR.out
      clear hd1 hn1 KF
      go_wp2
      go_ret
      exact ⟨rfl,_,HE.out,HCL.out⟩
/-- The trio over a disk that was spoilt. -/
theorem Life.spoil {lo:Nat}{w w':World}{P:Nat→Dp}{D:Nat→Dk}{tb:Nat}{so:Nat→Option Nat}{a:Option Addr}{cap:Nat}{l:List Fi}{t:Int}{k:Nat}{u:Value}{d':Dk}(h:Life lo 50 w P D tb so a cap l t)(hk:k<3)(hs:SpoilTo w w' (P k) u d' 0)(hc:Clean d') :
    Life lo 50 w' (upd P k { P k with wv:=u }) (upd D k d') tb so a cap l t∧Below lo w w'∧LetT w w'∧∀ i,i<3→(upd P k { P k with wv:=u } i).B=(P i).B:=by
  have hd:=h.three.disk k hk
  have hB:∀ i,i<3→(upd P k { P k with wv:=u } i).B=(P i).B:=fun i hi=>by
    by_cases e:i=k
    · subst e;rw [upd_same]
    · rw [upd_other _ _ e]
  have hb:Below lo w w':=hs.touch.below (fun j hj=>Nat.le_trans (h.three.lo k hk) (own_low hd j hj)) h.low
  refine ⟨⟨h.three.step hk hs.disk hs.new hs.touch (fun j hj=>.inl hj),(h.trio.touch hd hs.touch).place hB,fun i hi=>?_,h.good,h.vars.go hb,Nat.le_trans h.low hs.touch.size,h.tbl,fun i hi=>?_⟩,hb,LetT.of_touch hd (h.up k hk).2.1 hs.touch,hB⟩
  · by_cases e:i=k
    · subst e
      rw [upd_same,upd_same]
      exact ((h.mem i hi).touch hd hs.touch).turn rfl (by rw [hs.free.len,(h.up i hi).2.2])
    · rw [upd_other _ _ e,upd_other _ _ e]
      exact (h.mem i hi).touch hd hs.touch
  · by_cases e:i=k
    · subst e
      rw [upd_same]
      exact ⟨hc.up,hc.wr,hs.free.len⟩
    · rw [upd_other _ _ e];exact h.up i hi
theorem two_others {k:Nat}(hk:k<3):∃ i j,i<3∧j<3∧i≠j∧i≠k∧j≠k:=by
  rcases (show k=0∨k=1∨k=2 by omega) with rfl | rfl | rfl
  · exact ⟨1,2,by omega,by omega,by omega,by omega,by omega⟩
  · exact ⟨0,2,by omega,by omega,by omega,by omega,by omega⟩
  · exact ⟨0,1,by omega,by omega,by omega,by omega,by omega⟩
/-- One of three disks was spoilt. -/
structure Spoilt (lo:Nat)(w w':World)(P P':Nat→Dp)(D':Nat→Dk)(tb:Nat)(so:Nat→Option Nat)(a:Option Addr)(cap:Nat)(l:List Fi)(t:Int)(k:Nat):Prop where
  life:Life lo 50 w' P' D' tb so a cap l t
  same:∀ i,i<3→(P' i).B=(P i).B
  free:∀ i,i<3→Free (D' i) 50 0
  sound:∀ i,i<3→i≠k→Sound 50 (D' i) (rowsL l t)
  bel:Below lo w w'
  far:LetT w w'
theorem Well.spoilt {lo:Nat}{w w':World}{P:Nat→Dp}{D:Nat→Dk}{tb:Nat}{so:Nat→Option Nat}{a:Option Addr}{cap:Nat}{l:List Fi}{t:Int}{k:Nat}{u:Value}{d':Dk}(h:Well lo w P D tb so a cap l t)(hk:k<3)(hs:SpoilTo w w' (P k) u d' 0)(hc:Clean d') :
    Spoilt lo w w' P (upd P k { P k with wv:=u }) (upd D k d') tb so a cap l t k:=by
  obtain ⟨h1,h2,h3,h4⟩:=h.life.spoil hk hs hc
  refine ⟨h1,h4,fun i hi=>?_,fun i hi hik=>?_,h2,h3⟩
  · by_cases e:i=k
    · subst e;rw [upd_same];exact hs.free
    · rw [upd_other _ _ e];exact h.free i hi
  · rw [upd_other _ _ hik];exact h.sound i hi
theorem DBox.at {W:World}{B:Nat}{P:Nat→Dp}(h:DBox W B (dptr (P 0)) (dptr (P 1)) (dptr (P 2))){k:Nat}(hk:k<3):W.cell? ⟨B,k,none⟩=some (dptr (P k)):=by
  obtain ⟨d0,d1,d2,-⟩:=h.cells
  rcases (show k=0∨k=1∨k=2 by omega) with rfl | rfl | rfl
  · exact d0
  · exact d1
  · exact d2
def FewT (ts:List ByteArray):Prop:=ts.length≤60∧∀ s ∈ ts,s.size≤40
set_option maxRecDepth 100000 in
set_option maxHeartbeats 1000000 in
theorem fewTexts_any (a:Option Addr) (cap:Nat) (ts:List ByteArray) (w:World) (hl:ts.length≤maxLen) (hs:Strs w a ts) :
    Calls Tryz.prog 16 #[.slice a ts.length cap] w fun e w'=>(∃ b,e=.returned (.bool b)∧(b=true→FewT ts))∧w'=w:=by
  have HS:Hid (Strs w a ts):=hs
  unfold maxLen at hl
  clear hs
  go_enter Tryz.func16,Tryz.ntmps16
  by_cases h60:60<ts.length
  · have h60z:(60:Int)<(ts.length:Int):=by omega
    go_wp2
    go_ret
    exact ⟨⟨false,rfl,fun h=>by cases h⟩,rfl⟩
  have h60z:¬ (60:Int)<(ts.length:Int):=by omega
  go_wp2_with fail
  go_loopg [3] (ts.length+1) (fun kx vi wr=>∃ (i:Nat),vi=.int .i64 i∧i≤ts.length∧ts.length - i≤kx∧wr=w∧Hid (∀ j (h:j<ts.length),j<i→ts[j].size≤40))
  case atStart=>exact ⟨0,rfl,Nat.zero_le _,by omega,rfl,fun j h h2=>absurd h2 (Nat.not_lt_zero _)⟩
  case round =>
    obtain ⟨i,rfl,hi,hix,hwr,HI⟩:=hrel
    rw [hwr]
    clear hwr
    by_cases hlt:i<ts.length
    · have hltz:(i:Int)<(ts.length:Int):=by omega
      obtain ⟨b,off,rfl,c0⟩:=HS.out i hlt
      by_cases h40:40<ts[i].size
      · have h40z:(40:Int)<(ts[i].size:Int):=by omega
        go_wp2
        go_ret
        exact ⟨⟨false,rfl,fun h=>by cases h⟩,rfl⟩
      · have h40z:¬ (40:Int)<(ts[i].size:Int):=by omega
        have HN:Hid (∀ j (h:j<ts.length),j<i+1→ts[j].size≤40):=fun j h h2=>by
          by_cases e:j=i
          · subst e;omega
          · exact HI.out j h (by omega)
        go_wp2
        go_roundg (ts.length - (i+1))
        case measure=>omega
        case rel=>exact ⟨i+1,by go_num,by omega,Nat.le_refl _,rfl,HN⟩
    · have hk3:i=ts.length:=by omega
      subst hk3
      go_wp2
      go_ret
      exact ⟨⟨true,rfl,fun _=>⟨by omega,fun s hs=>by
        obtain ⟨j,hj,rfl⟩:=List.getElem_of_mem hs
        exact HI.out j hj hj⟩⟩,rfl⟩
end Go.Proofs.YtihnghnafpgdfadGreatDoor
