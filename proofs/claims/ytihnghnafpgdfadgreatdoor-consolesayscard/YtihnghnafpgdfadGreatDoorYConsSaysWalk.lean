/-
  THE WALK OF ConsoleSays: it returns true.
-/
import Derived.Test.YtihnghnafpgdfadGreatDoorSk36
import Derived.Test.YtihnghnafpgdfadGreatDoorYConsOpen
set_option maxRecDepth 100000
set_option maxHeartbeats 2000000
namespace Go.Proofs.YtihnghnafpgdfadGreatDoor
open Go Go.RowKit Go.BigFrame
set_option linter.unusedVariables false
set_option linter.unusedSimpArgs false
/-- Lines,one behind the other. -/
def zdz:List ByteArray→List ByteArray × List Fi × Int
 | l=>l.foldl (fun st line=>(st.1 ++ [(sayC line st.2.1 st.2.2).1],(sayC line st.2.1 st.2.2).2)) ([],[],1)
theorem zqv (l:List ByteArray)(x:ByteArray):zdz (l ++ [x])=((zdz l).1 ++ [(sayC x (zdz l).2.1 (zdz l).2.2).1],(sayC x (zdz l).2.1 (zdz l).2.2).2):=by
 unfold zdz;rw [List.foldl_append]
 rfl
theorem zgg {L:List ByteArray}{n:Nat}(hn:n<L.length):zdz (L.take (n+1))=((zdz (L.take n)).1 ++ [(sayC L[n] (zdz (L.take n)).2.1 (zdz (L.take n)).2.2).1],(sayC L[n] (zdz (L.take n)).2.1 (zdz (L.take n)).2.2).2):=by
 rw [zb8 L n hn,zqv]
/-- A line that the law takes. -/
def znc (s:ByteArray):Prop:=s.size≤100∧zi4 s
theorem zlV {s:ByteArray}(h3:3<s.size→((s.extract 0 4).toList == [97,114,109,32])=false)(h5:5<s.size→((s.extract 0 6).toList == [115,112,111,105,108,32])=false):zi4 s:=by
 have hl:s.data.toList.length=s.size:=by simp
 refine ⟨fun m e=>?_,fun m e=>?_⟩
 · have h:=congrArg List.length e
   rw [hl] at h;simp at h;have h2:=h3 (by omega);rw [ByteArray.toList_eq,ByteArray.data_extract,Array.toList_extract,List.extract_eq_take_drop,e] at h2;simp at h2
 · have h:=congrArg List.length e
   rw [hl] at h;simp at h;have h2:=h5 (by omega);rw [ByteArray.toList_eq,ByteArray.data_extract,Array.toList_extract,List.extract_eq_take_drop,e] at h2;simp at h2
/-- What may be is said of a quilt that may be. -/
theorem zen {l:List Fi}{t:Int}{r:Res}(hq:zau l t)(h:zmt l t r):zau (zaX r l t).2.1 (zaX r l t).2.2:=by
 unfold zaX
 split
 · rename_i h0
   rcases h.1 with h | h
   · exact h.2
   · omega
 · exact hq
theorem zrS {l:List Fi} {t:Int} (hq:zau l t) (line:ByteArray):zau (sayC line l t).2.1 (sayC line l t).2.2:=by
 unfold sayC
 split
 · exact hq
 · split
   · unfold zcu;repeat' split
     all_goals exact hq
   · unfold oneC;split
     · exact zen hq (zeI hq _)
     · repeat' split
       all_goals exact hq
   · unfold twoC;split
     · unfold zeG;split
       · exact zen hq (zd2 hq _ _)
       · exact hq
     · split
       · exact zen hq (zeB hq _ _)
       · split
         · exact zen hq (zeU hq _ _)
         · repeat' split
           all_goals exact hq
   · exact hq
theorem zkU:∀ (n:Nat) (L:List ByteArray),zau (zdz (L.take n)).2.1 (zdz (L.take n)).2.2
 | 0,L=>zjW
 | n + 1,L=>by
   have ih:=zkU n L
   by_cases hn:n<L.length
   · rw [zgg hn]
     exact zrS ih _
   · rw [List.take_of_length_le (by omega)]
     rw [List.take_of_length_le (by omega)] at ih;exact ih
theorem zj7:∀ (n:Nat) (L:List ByteArray),n≤L.length→(zdz (L.take n)).1.length=n
 | 0,L,_=>rfl
 | n+1,L,h=>by
   rw [zgg (by omega)];simp [zj7 n L (by omega)]
/-- All lines,run. -/
theorem zqa (a:Option Addr)(cap:Nat)(L:List ByteArray)(w:World)(hc:CLo w)(hs:Strs w a L)(hL:L.length≤80)(hok:∀ i (h:i<L.length),znc L[i]) :
 Calls Tryz.prog 20 #[.slice a L.length cap] w fun e w'=>∃ v,e=.returned (.tuple #[v,.nilIface])∧za0 w' w.heap.size v (zdz L).1∧Below w.heap.size w w':=by
 refine (ziy (fun n ans _ l t k=>k=3∧zdz (L.take n)=(ans,l,t)) a cap L w hc hs hL (fun D=>⟨rfl,rfl⟩) (fun n hn ans P0 P D tb so aq cq l t k w1 hr h=>?_)).mono ?_
 · obtain ⟨rfl,hf⟩:=hr
   refine (zlc L[n] w w1 P0 P D tb so aq cq l t hc h (hok n hn).2).mono fun e w' hx=>hx.to ?_
   rintro s D2 l2 t2 k2 ⟨rfl,he⟩;refine ⟨rfl,?_⟩;rw [zgg hn,hf];simp only;rw [← he]
 · rintro e w' ⟨v,ans,D,l,t,k,rfl,ho,-,⟨-,hf⟩,hb⟩
   rw [List.take_length] at hf;exact ⟨v,rfl,by rw [hf];exact ho,hb⟩
/-- A row of texts and one more: the row ahead of it. -/
theorem zrF {w:World}{B:Nat}{v:Value}{L:List ByteArray}{s:ByteArray}(h:w.ownsRow B 9 1 v (L.length+1) (L.map Value.string ++ [.string s])):∃ g c,v=.slice (some ⟨g,0,none⟩) (L.length+1) c∧L.length+1≤c∧c≤maxLen∧Strs w (some ⟨g,0,none⟩) L∧g<w.heap.size:=by
 rcases h.2 with ⟨_,h0⟩ | ⟨g,cap,cur,rfl,hb,hg,hn,hm,hs,ht⟩
 · cases h0
 · have ho:za0 w B (.slice (some ⟨g,0,none⟩) (L.length+1) cap) (L ++ [s]):=za0.snoc h
   obtain ⟨a,c,e,hst,-⟩:=za0.texts ho;have ea:a=some ⟨g,0,none⟩:=by injection e with e1;exact e1.symm
   subst ea;refine ⟨g,cap,rfl,hn,hm,fun i hi=>?_,(Array.getElem?_eq_some_iff.1 hg).1⟩;obtain ⟨b,off,e,c0⟩:=hst i (by simp;omega);exact ⟨b,off,e,by rw [List.getElem_append_left hi] at c0;exact c0⟩
theorem zjH (a:Option Addr) (cap:Nat) (L:List ByteArray) (w:World) (hm:L.length≤maxLen) (hs:Strs w a L) (hnl:a=none→cap=0) (hz:∀ s ∈ L,s.size≤maxLen) (hc:CLo w) :
 Calls Tryz.prog 6 #[.slice a L.length cap] w fun e w'=>e=.returned (.bool true)∧Below w.heap.size w w':=by
 unfold maxLen at hm hz;have HA:Hid (Strs w a L):=hs;have HNL:Hid (a=none→cap=0):=hnl;have HC:Hid (CLo w):=hc;have KH:Hid _:=zrK w hc;clear hs hnl hc
 go_enter Tryz.func6,Tryz.ntmps6
 go_wp2_with fail
 refine Calls.mono KH.out ?_;rintro e w1 ⟨rfl,hb1⟩;have HB1:Hid (Below w.heap.size w w1):=hb1;clear hb1 KH
 by_cases h90:90<L.length
 · have h90z:(90:Int)<(L.length:Int):=by omega
   go_wp2;go_ret;exact ⟨rfl,HB1.out⟩
 have h90z:¬ (90:Int)<(L.length:Int):=by omega
 go_wp2_with fail
 go_loopg [4] (L.length+1) (fun kx vi wr=>∃ n:Nat,vi=.int .i64 n∧n≤L.length∧L.length - n≤kx∧wr=w1∧Hid (∀ j (h:j<L.length),j<n→znc L[j]))
 case atStart=>exact ⟨0,rfl,Nat.zero_le _,by omega,rfl,fun j _ h=>absurd h (Nat.not_lt_zero _)⟩
 case round =>
  obtain ⟨n,rfl,hn,hkx,hwr,HOK⟩:=hrel;rw [hwr];clear hwr wr
  by_cases hlt:n<L.length
  · have hltz:(n:Int)<(L.length:Int):=by omega
    obtain ⟨b,off,rfl,c0⟩:=HA.out.below HB1.out n hlt;have hbl:b<w1.heap.size:=World.block_lt_of_cell? _ _ c0;have hsz:=hz L[n] (List.getElem_mem hlt)
    have HNX:Hid (znc L[n]→∀ j (h:j<L.length),j<n+1→znc L[j]):=fun ho j h hj=>by
     rcases Nat.lt_or_ge j n with h1 | h1
     · exact HOK.out j h h1
     · obtain rfl:j=n:=by omega
       exact ho
    generalize L[n]=s at *
    by_cases h100:100<s.size
    · have hz1:(100:Int)<(s.size:Int):=by omega
      go_wp2;go_ret;exact ⟨rfl,HB1.out⟩
    have hz1:¬ (100:Int)<(s.size:Int):=by omega
    by_cases h3:3<s.size
    · have hz3:(3:Int)<(s.size:Int):=by omega
      cases e4:((s.extract 0 4).toList == [97,114,109,32])
      · by_cases h5:5<s.size
        · have hz5:(5:Int)<(s.size:Int):=by omega
          cases e6:((s.extract 0 6).toList == [115,112,111,105,108,32])
          · have HLO:=HNX.out ⟨by omega,zlV (fun _=>e4) (fun _=>e6)⟩
            go_wp2
            go_roundg (L.length - (n+1))
            case measure=>omega
            case rel=>exact ⟨n+1,by go_num,by omega,Nat.le_refl _,rfl,HLO⟩
          · go_wp2
            go_ret;exact ⟨rfl,HB1.out⟩
        · have hz5:¬ (5:Int)<(s.size:Int):=by omega
          have HLO:=HNX.out ⟨by omega,zlV (fun _=>e4) (fun h=>absurd h h5)⟩;go_wp2
          go_roundg (L.length - (n+1))
          case measure=>omega
          case rel=>exact ⟨n+1,by go_num,by omega,Nat.le_refl _,rfl,HLO⟩
      · go_wp2
        go_ret;exact ⟨rfl,HB1.out⟩
    · have hz3:¬ (3:Int)<(s.size:Int):=by omega
      have hz5:¬ (5:Int)<(s.size:Int):=by omega
      have HLO:=HNX.out ⟨by omega,zlV (fun h=>absurd h h3) (fun h=>absurd (show 3<s.size by omega) h3)⟩;go_wp2
      go_roundg (L.length - (n+1))
      case measure=>omega
      case rel=>exact ⟨n+1,by go_num,by omega,Nat.le_refl _,rfl,HLO⟩
  · have HALL : Hid (∀ j (h:j<L.length),znc L[j]):=fun j h=>HOK.out j h (by omega)
    clear HOK;obtain ⟨i0,hi,hz0,hz1,hz2⟩:=info_parts Tryz.infoString
    go_wp2_with (at_builtin;first
     | (refine zmL rfl _ _ rfl _ a cap L (by omega) (HA.out.below HB1.out) HNL.out rfl rfl ?_
        intro va wa howna hba)
     | (refine wpList_append_own _ rfl _ _ 34 rfl w1.heap.size 9 i0 _ 1 16 Tryz.underlying34 hi hz0 hz1 hz2 rfl (by decide) va L.length (L.map Value.string) rfl (World.ownsRow.alloc howna _) ⟨wa.heap.size,0,none⟩ 1 1 [.string ⟨#[109,97,114,107]⟩] rfl rfl (zbz wa (.string ⟨#[109,97,114,107]⟩) 9) (zfL _) (by unfold maxLen;omega) (by omega) (by simp;have:=hba.size;omega) ?_
        intro vb wb hownb hgb hnb;obtain ⟨g,c9,rfl,hle9,hmx9,hst9,hgl9⟩:=zrF hownb))
    have hbm:=(hba.alloc hba.size (.cells #[.string ⟨#[109,97,114,107]⟩] 9)).grown hgb (by simp;have:=hba.size;omega) (fun q hq=>(howna.lt q hq).1);have HBB:Hid (Below w.heap.size w wb):=HB1.out.trans (hbm.mono HB1.out.size);have HOWN:Hid (Strs wb (some ⟨g,0,none⟩) L):=hst9;clear hbm hgb hnb hba howna hownb hst9 hgl9
    by_cases h80:80<L.length
    · have h80z:(80:Int)<(L.length:Int):=by omega
      have KR:Hid _:=znr (some ⟨g,0,none⟩) c9 L.length wb h80 (by unfold maxLen;omega);have KS:Hid _:=zlS 2 wb (by omega) (by omega);rw [zak (show ¬ (2:Int)=0 by decide)] at KR KS;refine Calls.mono KR.out ?_;rintro e w2 ⟨rfl,hw2⟩;rw [hw2];clear hw2 w2 KR
      go_wp2_with fail
      refine Calls.mono KS.out ?_;rintro e w2 ⟨rfl,hw2⟩;rw [hw2];clear hw2 w2 KS;go_wp2;go_ret;exact ⟨rfl,HBB.out⟩
    have h80z:¬ (80:Int)<(L.length:Int):=by omega
    have KR:Hid _:=zqa (some ⟨g,0,none⟩) c9 L wb (HC.out.go HBB.out) HOWN.out (by omega) HALL.out;refine Calls.mono KR.out ?_;rintro e w2 ⟨v,rfl,ho,hb2⟩;obtain ⟨ao,co,rfl,hso,-,-,hlo,-⟩:=za0.texts ho;have HOUT:Hid (Strs w2 ao (zdz L).1):=hso;have hfl:(zdz L).1.length=L.length:=by have:=zj7 L.length L (Nat.le_refl _);rwa [List.take_length] at this
    rw [hfl];have HFL:Hid ((zdz L).1.length=L.length):=hfl;have HB2:Hid (Below w.heap.size w w2):=HBB.out.trans (hb2.mono HBB.out.size);have HW2:Hid (Strs w2 (some ⟨g,0,none⟩) L):=HOWN.out.below hb2;obtain ⟨W,hW⟩:∃ y,y=w2.alloc (.cells #[.slice none 0 0,.int .i64 1,.bool false,.bool false,.bool false] 59):=⟨_,rfl⟩
    have hbW:Below w2.heap.size w2 W:=by rw [hW];exact (Below.refl _ _).alloc (Nat.le_refl _) _
    have HBW:Hid (Below w2.heap.size w2 W):=hbW;have HSB:Hid (SBox W w2.heap.size none 0 [] 1):=⟨by rw [hW];exact World.alloc_heap_new w2 _,zad.nil _⟩;clear ho hso hlo hfl hb2 hbW KR HOWN
    go_wp2_with fail
    rw [← hW];clear hW
    go_loopg [10,11] (L.length+1) (fun kx vw vi wr=>∃ (n:Nat) (ans:List ByteArray) (l:List Fi) (t:Int) (a':Option Addr) (cap':Nat),vi=.int .i64 n∧n≤L.length∧L.length - n≤kx∧Hid (zdz (L.take n)=(ans,l,t))∧Hid (SBox wr w2.heap.size a' cap' l t)∧Hid (za0 wr (w2.heap.size+1) vw ans)∧Hid (Below w2.heap.size w2 wr))
    case atStart=>exact ⟨0,[],[],1,none,0,rfl,Nat.zero_le _,by omega,rfl,HSB,World.ownsRow_nil _ _ _ _,HBW⟩
    case round =>
     obtain ⟨n,ans,l,t,a2,c2,rfl,hn,hkx,HF,HS,HO,HB⟩:=hrel
     by_cases hlt:n<L.length
     · have hltz:(n:Int)<(L.length:Int):=by omega
       have HBw:Hid (Below w.heap.size w wr):=HB2.out.trans (HB.out.mono HB2.out.size);obtain ⟨b,off,rfl,c0⟩:=HA.out.below HBw.out n hlt;have hbl:b<wr.heap.size:=World.block_lt_of_cell? _ _ c0;have hq:zau l t:=by have h:=zkU n L;rw [HF.out] at h;exact h
       have HF2:Hid (zdz (L.take (n+1))=(ans ++ [(sayC L[n] l t).1],(sayC L[n] l t).2.1,(sayC L[n] l t).2.2)):=by show _=_;rw [zgg hlt,HF.out]
       have han:ans.length=n:=by have h:=zj7 n L hn;rw [HF.out] at h;exact h
       have KS:Hid _:=zuu L[n] w2.heap.size a2 c2 l t wr HS.out hq (fun s=>(zeI hq s).num) (fun s tx=>(zd2 hq s tx).num) (fun s tx=>(zeB hq s tx).num) (fun s tx=>(zeU hq s tx).num);generalize L[n]=x at *;generalize sayC x l t=r at *;clear hq
       go_wp2_with fail
       refine Calls.mono KS.out ?_;rintro e w4 ⟨a4,c4,rfl,hsb4,hb4,hoff4⟩;have HS4:Hid (SBox w4 w2.heap.size a4 c4 r.2.1 r.2.2):=hsb4;have HB4:Hid (Below w2.heap.size w2 w4):=HB.out.trans hb4
       have HO4:Hid (za0 w4 (w2.heap.size+1) u10 ans):=zaj HO.out (fun g hg=>by
        have h1:=(HO.out.lt g hg).1;exact hoff4 g (HO.out.lt g hg).2 (by omega))
       have hlt4:w2.heap.size<w4.heap.size:=hsb4.lt
       have HEND:Hid (∀ w5,(w4.alloc (.cells #[.string r.1] 9)).grownBy w5 u10.ownBlock→SBox w5 w2.heap.size a4 c4 r.2.1 r.2.2∧Below w2.heap.size w2 w5):=fun w5 hg=>by
        have hbo:Below w4.heap.size w4 (w4.alloc (.cells #[.string r.1] 9)):=(Below.refl _ _).alloc (Nat.le_refl _) _;have hoo:za0 (w4.alloc (.cells #[.string r.1] 9)) (w2.heap.size+1) u10 ans:=HO4.out.alloc _;have hs5:=HS4.out.below hbo;refine ⟨⟨?_,hs5.files.keep (fun k C fr e=>hg.block k (Array.getElem?_eq_some_iff.1 e).1 (fun ek=>?_))⟩,(HB4.out.trans (hbo.mono (Nat.le_of_lt hlt4))).grown hg (Nat.le_trans (Nat.le_of_lt hlt4) hbo.size) (fun q hq=>Nat.le_of_succ_le (hoo.lt q hq).1)⟩
        · exact (hg.block _ hs5.lt (fun ek=>by
           have h1:=(hoo.lt _ ek.symm).1;omega)).trans hs5.blk
        · obtain ⟨C2,fr2,e2⟩:=Lib.ownsRow_kind hoo k ek.symm
          rw [e] at e2;simp at e2
       clear hsb4 hb4 hoff4 KS c0 hbl;obtain ⟨rs,rl,rt⟩:=r;simp only at HF2 HS4 HEND
       go_wp2_with (at_builtin;refine wpList_append_own _ rfl _ _ 34 rfl (w2.heap.size+1) 9 i0 _ 1 16 Tryz.underlying34 hi hz0 hz1 hz2 rfl (by decide) _ _ _ rfl (HO4.out.alloc _) ⟨w4.heap.size,0,none⟩ 1 1 [.string rs] rfl rfl (zbz w4 (.string rs) 9) (zfL rs) (by unfold maxLen;omega) (by omega) (by simp;omega) ?_;intro v' w5 hown' hgrow5 hnil5)
       obtain ⟨hs5,hb5⟩:=HEND.out w5 hgrow5
       go_roundg (L.length - (n+1))
       case measure=>omega
       case rel=>exact ⟨n+1,_,_,_,a4,c4,by go_num,by omega,Nat.le_refl _,HF2,hs5,za0.snoc hown',hb5⟩
     · have hn9:n=L.length:=by omega
       have hfin:zdz L=(ans,l,t):=by have h:=HF.out;rw [hn9,List.take_length] at h;exact h
       have HBw:Hid (Below w.heap.size w wr):=HB2.out.trans (HB.out.mono HB2.out.size);have hout:=HOUT.out.below HB.out;rw [hfin] at hout;have hfl:=HFL.out;rw [hfin] at hfl;simp only at hout hfl;obtain ⟨aw,cw,rfl,hsw,-,-,-,-⟩:=za0.texts HO.out;rw [hfl];have K0:Hid _:=zlS 0 wr (by omega) (by omega);rw [zac rfl] at K0
       have KT1:Hid (Calls Tryz.prog 23 #[.slice ao L.length co,.slice aw L.length cw] wr fun e w'=>e=.returned (.bool true)∧Below wr.heap.size wr w'):=by
        have h:=ze9 ao aw co cw ans ans wr (by omega) (by omega) hout hsw;rw [hfl] at h;refine h.mono ?_;rintro e w' ⟨rfl,k,rfl⟩;exact ⟨by rw [(zeQ _ _).2 rfl],below_drewN (Below.refl _ _) _⟩
       have HOW:Hid (Strs wr (some ⟨g,0,none⟩) L):=HW2.out.below HB.out;have HIN:Hid (Strs wr a L):=HA.out.below HBw.out
       have KT2:Hid (∀ V,Below wr.heap.size wr V→Calls Tryz.prog 23 #[.slice (some ⟨g,0,none⟩) L.length c9,.slice a L.length cap] V fun e w'=>e=.returned (.bool true)∧Below wr.heap.size wr w'):=fun V hb=>by
        refine (ze9 (some ⟨g,0,none⟩) a c9 cap L L V (by omega) (by omega) (HOW.out.below hb) (HIN.out.below hb)).mono ?_;rintro e w' ⟨rfl,k,rfl⟩;exact ⟨by rw [(zeQ _ _).2 rfl],below_drewN hb _⟩
       clear hout hsw hfin hfl HF HS HO
       go_wp2_with fail
       refine Calls.mono K0.out ?_;rintro e w6 ⟨rfl,hw6⟩;rw [hw6];clear hw6 w6 K0
       go_wp2_with fail
       refine Calls.mono KT1.out ?_;rintro e w6 ⟨rfl,hb6⟩;have HB6:Hid (Below wr.heap.size wr w6):=hb6;clear hb6 KT1
       go_wp2_with fail
       refine Calls.mono (KT2.out _ HB6.out) ?_;rintro e w7 ⟨rfl,hb7⟩;have HB7:Hid (Below w.heap.size w w7):=HBw.out.trans (hb7.mono HBw.out.size);clear hb7 KT2;go_wp2;go_ret;exact ⟨rfl,HB7.out⟩
end Go.Proofs.YtihnghnafpgdfadGreatDoor
