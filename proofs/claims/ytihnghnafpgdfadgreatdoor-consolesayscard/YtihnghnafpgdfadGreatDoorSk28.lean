/- What the proofs stand on, part 28: ImageParse. -/
import Derived.Test.YtihnghnafpgdfadGreatDoorSk27
import Derived.Test.YtihnghnafpgdfadGreatDoorSk26
import Derived.Test.YtihnghnafpgdfadGreatDoorSk15
set_option linter.unusedVariables false
set_option linter.unusedSimpArgs false
set_option maxRecDepth 100000
set_option maxHeartbeats 8000000
namespace Go.Proofs.YtihnghnafpgdfadGreatDoor
open Go Go.RowKit Go.BigFrame
variable {rows:List Ch}{fs fs' l:List Fi}{s t t':Int}{i:Nat}{c:Ch}
theorem Img.add (h:Img rows l s)(i:Nat)(hi:i<rows.length):addP rows[i] (l.take i) (if i≤l.length then 0 else s)=some (l.take (i+1),if i+1≤l.length then 0 else s):=by
 have hlen:=h.length
 by_cases hl:i<l.length
 · rw [h.f i hi hl,if_pos (by omega),if_pos (by omega)]
   obtain ⟨k,hk,hk2⟩:=h.good.four _ (List.getElem_mem hl);have hv:=zhA hk hk2;have hz:¬ (frow l[i]).val.size<4:=by rw [zda,hv,List.length_append,zcC];omega
   have h4:(frow l[i]).val.data.toList.take 4=t4 k:=by rw [hv];exact List.take_left' (zcC k)
   have hkey:(frow l[i]).key.toList=102 :: l[i].n.toList:=zsb _;have hkd:(frow l[i]).key.data.toList=102 :: l[i].n.data.toList:=by rw [← zb4,hkey,zb4]
   unfold addP;rw [if_neg hz,h4,zlW hk2];have hne:¬ (frow l[i]).key.toList=[116,117,114,110]:=by rw [hkey];simp
   have hpf:Lib.hasPrefix (frow l[i]).key.data.toList [102]=true:=by rw [hkd];simp [Lib.hasPrefix]
   simp only [if_neg hne,hpf,if_true]
   congr 1
   rw [zb8 l i hl]
   congr 2
   have hn:Lib.trimPrefix (frow l[i]).key.data.toList [102]=l[i].n.data.toList:=by
    unfold Lib.trimPrefix;rw [hpf,if_pos rfl,hkd]
    rfl
   unfold zik;rw [hn];refine congrArg (fun x=>[x]) (Fi.ext' rfl ?_ hk.symm)
   apply zpL
   show ((frow l[i]).val.extract 4 (frow l[i]).val.size).data.toList=_;rw [zlf,List.take_of_length_le (by rw [List.length_drop,zda];exact Nat.le_refl _),hv];exact List.drop_left' (zcC k)
 · rw [h.t i hi hl,if_pos (by omega),if_neg (by omega)]
   obtain ⟨k,hk,_,hk2⟩:=h.good.turn;have hv:=zhF hk (show k<10000 by omega);have hz:¬ (trow s).val.size<4:=by rw [zda,hv,zcC];omega
   have h4:(trow s).val.data.toList.take 4=t4 k:=by rw [hv];exact List.take_of_length_le (by rw [zcC];exact Nat.le_refl _)
   unfold addP;rw [if_neg hz,h4,zlW (by omega)];have hkey:(trow s).key.toList=[116,117,114,110]:=zk9;simp only [hkey,if_true];rw [zft l i (by omega),zft l (i+1) (by omega),hk]
def Fits (rows:List Ch)(i:Nat)(fs:List Fi)(t:Int):Prop:=∀ l s,Img rows l s→fs=l.take i∧t=if i≤l.length then 0 else s
theorem Fits.nil (rows:List Ch):Fits rows 0 [] 0:=fun l s _=>⟨rfl,by rw [if_pos (Nat.zero_le _)]⟩
theorem Fits.next (h:Fits rows i fs t)(hi:i<rows.length)(ha:addP rows[i] fs t=some (fs',t')):Fits rows (i+1) fs' t':=fun l s himg=>by
 obtain ⟨rfl,rfl⟩:=h l s himg;rw [himg.add i hi] at ha;simp only [Option.some.injEq,Prod.mk.injEq] at ha;exact ⟨ha.1.symm,ha.2.symm⟩
theorem Fits.none (h:Fits rows i fs t)(hi:i<rows.length)(ha:addP rows[i] fs t=none):zqU rows:=fun l s himg=>by
 obtain ⟨rfl,rfl⟩:=h l s himg;rw [himg.add i hi] at ha;cases ha
theorem Fits.all (h:Fits rows rows.length fs t)(himg:Img rows l s):fs=l∧t=s:=by
 obtain ⟨h1,h2⟩:=h l s himg;have hlen:=himg.length;rw [zft l _ (by omega)] at h1;rw [if_neg (by omega)] at h2;exact ⟨h1,h2⟩
theorem zsw (h:addP c fs t=some (fs',t')) (hk:c.key.size≤100) (hv:c.val.size≤100) (hf:∀ f ∈ fs,f.n.size≤100∧f.t.size≤100):fs'.length≤fs.length+1∧∀ f ∈ fs',f.n.size≤100∧f.t.size≤100:=by
 unfold addP at h
 by_cases h4:c.val.size<4
 · rw [if_pos h4] at h;cases h
 · rw [if_neg h4] at h
   cases ha:Lib.atoi (c.val.data.toList.take 4) with
   | none=>rw [ha] at h;cases h
   | some n =>
     rw [ha] at h;simp only at h
     by_cases hkt:c.key.toList=[116,117,114,110]
     · rw [if_pos hkt] at h
       simp only [Option.some.injEq,Prod.mk.injEq] at h;rw [← h.1];exact ⟨by omega,hf⟩
     · rw [if_neg hkt] at h
       by_cases hp:Lib.hasPrefix c.key.data.toList [102]=true
       · rw [if_pos hp] at h
         simp only [Option.some.injEq,Prod.mk.injEq] at h;rw [← h.1];refine ⟨by simp,fun f hm=>?_⟩;rcases List.mem_append.1 hm with e | e
         · exact hf f e
         · rw [List.mem_singleton.1 e]
           have h1:=Lib.trimPrefix_le c.key.data.toList [102];have h2:(c.val.extract 4 c.val.size).size≤100:=by rw [ByteArray.size_extract];omega
           refine ⟨?_,h2⟩;have h3:c.key.data.toList.length=c.key.size:=(zda _).symm;show (⟨(Lib.trimPrefix c.key.data.toList [102]).toArray⟩:ByteArray).size≤100;rw [zda];simp only [List.toList_toArray];omega
       · rw [if_neg hp] at h;cases h
def POut (w:World)(rows:List Ch)(e:Ending)(w':World):Prop :=
 (∃ fs t va vc,Img rows fs t∧e=.returned (.tuple #[.agg #[.slice va fs.length vc,.int .i64 t],.nilIface])∧zad w' va vc fs∧Below w.heap.size w w')∨(zqU rows∧e=.returned (.tuple #[.agg #[.slice none 0 0,.int .i64 0],errV 4])∧Below w.heap.size w w')
theorem zq3 (pa:Option Addr) (ca:Nat) (rows:List Ch) (w:World) (h1:rows.length≤50) (hz:∀ c ∈ rows,c.key.size≤100∧c.val.size≤100) (hc:CC w pa rows) (hv:Vars w) :
 Calls Tryz.prog 62 #[.slice pa rows.length ca] w (POut w rows):=by
 have HC:Hid (CC w pa rows):=hc;have HZ:Hid (∀ c ∈ rows,c.key.size≤100∧c.val.size≤100):=hz;have HV:Hid (Vars w):=hv;clear hc hz hv
 go_enter Tryz.func62,Tryz.ntmps62
 go_wp2_with fail
 obtain ⟨W1,hW⟩:∃ x,x=(w.alloc (.cells #[.slice none 0 0,.int .i64 0] 32)).alloc (.cells #[.slice none 0 0,.int .i64 0] 32):=⟨_,rfl⟩
 have HB1:Hid (Below w.heap.size w W1):=by rw [hW];exact ((Below.refl _ _).alloc (Nat.le_refl _) _).alloc (by simp) _
 have HQ0:Hid (QBox W1 w.heap.size (.slice none 0 0) 0):=by rw [hW];exact (QBox.new w _ 0 _).alloc _
 have HM1:Hid (QM W1 (w.heap.size+1) [] 0):=by
  rw [hW];have h:=QBox.new (w.alloc (.cells #[.slice none 0 0,.int .i64 0] 32)) (.slice none 0 0) 0 32;rw [World.size_alloc] at h;exact ⟨none,0,h,World.ownsRow_nil _ _ _ _⟩
 rw [← hW];clear hW
 go_loopg [9] (rows.length+1) (fun kx vi wr=>∃ (i:Nat) (fs:List Fi) (t:Int),vi=.int .i64 i∧i≤rows.length∧rows.length - i≤kx∧Hid (Fits rows i fs t)∧fs.length≤i∧Hid (∀ f ∈ fs,f.n.size≤100∧f.t.size≤100)∧Hid (QM wr (w.heap.size+1) fs t)∧Hid (QBox wr w.heap.size (.slice none 0 0) 0)∧Hid (Below w.heap.size w wr))
 case atStart=>exact ⟨0,[],0,rfl,by omega,by omega,Fits.nil rows,by simp,(fun f h=>absurd h (by simp)),HM1,HQ0,HB1⟩
 case round =>
  obtain ⟨i,fs,t,rfl,hi',hkx,HF,hfl,HS,HM,HQ,HW0⟩:=hrel;obtain ⟨W0,rfl⟩:∃ x,x=wr:=⟨wr,rfl⟩
  by_cases hlt:i<rows.length
  · obtain ⟨b,off,rfl,c0,c1,c2⟩:=HC.out.below HW0.out i hlt
    obtain ⟨z1,z2⟩:=HZ.out _ (List.getElem_mem hlt);have h100:fs.length≤100:=by omega
    obtain ⟨W2,hW⟩:∃ x,x=W0.alloc (.cells #[.string rows[i].key,.string rows[i].val,.bool rows[i].gone] 143):=⟨_,rfl⟩
    have HB2:Hid (Below w.heap.size w W2):=by rw [hW];exact HW0.out.alloc HW0.out.size _
    have HM2:Hid (QM W2 (w.heap.size+1) fs t):=by rw [hW];exact HM.out.far ((Below.refl _ _).alloc (Nat.le_refl _) _)
    have HQ2:Hid (QBox W2 w.heap.size (.slice none 0 0) 0):=by rw [hW];exact HQ.out.alloc _
    have HV2:Hid (Vars W2):=HV.out.below HB2.out;have KA:Hid _:=zuo (w.heap.size+1) rows[i] fs t W2 z1 z2 h100 HM2.out HV2.out
    go_wp2_with fail
    rw [← hW];clear hW c0 c1 c2;refine Calls.mono KA.out ?_;rintro e w3 (⟨fs',t',ha,rfl,hm,hb⟩ | ⟨ha,rfl,hb⟩)
    · have HF3:Hid (Fits rows (i+1) fs' t'):=HF.out.next hlt ha
      obtain ⟨hl9,hs9⟩:=zsw ha z1 z2 HS.out;have HS3:Hid (∀ f ∈ fs',f.n.size≤100∧f.t.size≤100):=hs9;have HM3:Hid (QM w3 (w.heap.size+1) fs' t'):=hm;have HB3:Hid (Below w.heap.size w w3):=HB2.out.trans (hb.mono (Nat.le_succ _));have HQ3:Hid (QBox w3 w.heap.size (.slice none 0 0) 0):=HQ2.out.below hb (Nat.lt_succ_self _);clear ha hm hb hs9 KA;go_wp2
      go_roundg (rows.length - (i+1))
      case measure=>omega
      case rel=>exact ⟨i+1,fs',t',by go_num,hlt,Nat.le_refl _,HF3,by omega,HS3,HM3,HQ3,HB3⟩
    · have HNO:Hid (zqU rows):=HF.out.none hlt ha
      have HB3:Hid (Below w.heap.size w w3):=HB2.out.trans (hb.mono (Nat.le_succ _));obtain ⟨r0,r1,rf0,rf1,rl,_⟩:=HQ2.out.below hb (Nat.lt_succ_self _);clear ha hb KA;go_wp2;refine bodyPost_ret (v:=.tuple #[.agg #[.slice none 0 0,.int .i64 0],errV 4]) (by simp [results,Tryz.results62,go_sem,r0,r1,rl,errV]) rfl (.inr ⟨HNO.out,rfl,?_⟩);exact (HB3.out.setCell (p:=⟨w.heap.size,0,none⟩) (Nat.le_refl _) _).setCell (p:=⟨w.heap.size,1,none⟩) (Nat.le_refl _) _
  · obtain rfl:i=rows.length:=by omega
    obtain ⟨va,vc,hqb,how⟩:=HM.out;obtain ⟨pb9,cb9,e9,hcl,_,_,_,hlow⟩:=Owns.files how;have e9':va=pb9:=by injection e9
    rw [← e9'] at hcl hlow;have HAP:Hid (∀ x:Addr,va=some x→x.block≠w.heap.size):=fun x hx=>by have:=(hlow x hx).1;omega
    have HSZ:Hid (zok fs):=fun f hf=>by obtain ⟨a,b⟩:=HS.out f hf;unfold maxLen;exact ⟨by omega,by omega⟩
    have KF:Hid _:=zgw va vc fs t W0 (by unfold maxLen;omega) HSZ.out hcl;have HCL:Hid (zad W0 va vc fs):=.of_owns how;have HQB:Hid (QBox W0 (w.heap.size+1) (.slice va fs.length vc) t):=hqb;obtain ⟨q0,q1,_,_,_,_⟩:=hqb;clear how e9 e9' hcl hlow
    by_cases hq:zfz fs t=0
    · have HG:Hid (zau fs t):=zs5 hq
      rw [zac hq] at KF;clear hq
      go_wp2_with fail
      refine Calls.mono KF.out ?_;rintro e w5 ⟨rfl,hb⟩;have HB5:Hid (Below w.heap.size w w5):=HW0.out.trans (hb.mono HW0.out.size);have HC5:Hid (zad w5 va vc fs):=HCL.out.below hb;have HQ5:Hid (QBox w5 w.heap.size (.slice none 0 0) 0):=HQ.out.below hb HQ.out.lt;have HQB5:Hid (QBox w5 (w.heap.size+1) (.slice va fs.length vc) t):=HQB.out.below hb HQB.out.lt;have KR:Hid _:=zdA va vc fs t w5 HG.out HC5.out.cells (HV.out.below HB5.out);obtain ⟨y0,y1,_,_,yl,_⟩:=HQB5.out;clear hb KF q0 q1
      go_wp2_with fail
      refine Calls.mono KR.out ?_;rintro e w6 ⟨pr,cr,rfl,hcc,_,_,hb6⟩;have HB6:Hid (Below w.heap.size w w6):=HB5.out.trans (hb6.mono HB5.out.size);have HC6:Hid (zad w6 va vc fs):=HC5.out.below hb6;have HQ6:Hid (QBox w6 w.heap.size (.slice none 0 0) 0):=HQ5.out.below hb6 HQ5.out.lt;have HQB6:Hid (QBox w6 (w.heap.size+1) (.slice va fs.length vc) t):=HQB5.out.below hb6 HQB5.out.lt;have KE:Hid _:=zk2 pr pa cr ca (zaw fs t) rows w6 (by rw [zbY];omega) (by omega) hcc (HC.out.below HB6.out);clear hb6 KR y0 y1 hcc
      go_wp2_with fail
      refine Calls.mono KE.out ?_;rintro e w7 ⟨rfl,hb7⟩;have HB7:Hid (Below w.heap.size w w7):=HB6.out.trans (hb7.mono HB6.out.size);have HC7:Hid (zad w7 va vc fs):=HC6.out.below hb7;obtain ⟨r0,r1,rf0,rf1,rl,_⟩:=HQ6.out.below hb7 HQ6.out.lt;obtain ⟨y0,y1,_,_,yl,_⟩:=HQB6.out.below hb7 HQB6.out.lt;clear hb7 KE;cases hs:zdR (zaw fs t) rows
      · have HNO:Hid (zqU rows):=fun l s himg=>by
         obtain ⟨e1,e2⟩:=HF.out.all himg;rw [e1,e2,(zc5 _ _).2 himg.rows.symm] at hs;cases hs
        clear hs;go_wp2;refine bodyPost_ret (v:=.tuple #[.agg #[.slice none 0 0,.int .i64 0],errV 4]) (by simp [results,Tryz.results62,go_sem,r0,r1,rl,errV]) rfl (.inr ⟨HNO.out,rfl,?_⟩);exact (HB7.out.setCell (p:=⟨w.heap.size,0,none⟩) (Nat.le_refl _) _).setCell (p:=⟨w.heap.size,1,none⟩) (Nat.le_refl _) _
      · have HIMG:Hid (Img rows fs t):=⟨HG.out,((zc5 _ _).1 hs).symm⟩
        clear hs;go_wp2;refine bodyPost_ret (v:=.tuple #[.agg #[.slice va fs.length vc,.int .i64 t],.nilIface]) (by simp [results,Tryz.results62,go_sem,r0,r1,rl]) rfl (.inl ⟨fs,t,va,vc,HIMG.out,rfl,?_,?_⟩)
        · exact (HC7.out.apart HAP.out).apart HAP.out
        · exact (HB7.out.setCell (p:=⟨w.heap.size,0,none⟩) (Nat.le_refl _) _).setCell (p:=⟨w.heap.size,1,none⟩) (Nat.le_refl _) _
    · have HNO:Hid (zqU rows):=fun l s himg=>by
       obtain ⟨e1,e2⟩:=HF.out.all himg;exact hq (by rw [e1,e2];exact znR himg.good)
      rw [zak hq] at KF;generalize zfz fs t=F at *;clear hq
      go_wp2_with fail
      refine Calls.mono KF.out ?_;rintro e w5 ⟨rfl,hb⟩;have HB5:Hid (Below w.heap.size w w5):=HW0.out.trans (hb.mono HW0.out.size);obtain ⟨r0,r1,rf0,rf1,rl,_⟩:=HQ.out.below hb HQ.out.lt;clear hb KF q0 q1;go_wp2;refine bodyPost_ret (v:=.tuple #[.agg #[.slice none 0 0,.int .i64 0],errV 4]) (by simp [results,Tryz.results62,go_sem,r0,r1,rl,errV]) rfl (.inr ⟨HNO.out,rfl,?_⟩);exact (HB5.out.setCell (p:=⟨w.heap.size,0,none⟩) (Nat.le_refl _) _).setCell (p:=⟨w.heap.size,1,none⟩) (Nat.le_refl _) _
end Go.Proofs.YtihnghnafpgdfadGreatDoor
