/-
  THE WALK OF TopCopies: it returns true.
-/
import Derived.Test.YtihnghnafpgdfadGreatDoorYTrioSpoil
import Derived.Test.YtihnghnafpgdfadGreatDoorRk01
import Derived.Deep.RegionHeld3
import Derived.BigQuiet
namespace Go.Proofs.YtihnghnafpgdfadGreatDoor
open Go Go.RowKit Go.BigFrame
set_option linter.unusedVariables false
set_option linter.unusedSimpArgs false
theorem RdOk.alike {w w':World} {lo lo':Nat} {p p':Dp} {d:Dk} {s s2:Option Nat} {c c2:Co} (h1:RdOk w lo p d s c) (h2:RdOk w' lo' p' d s2 c2):sameCo c c2=true:=by
  have key:c.is=c2.is∧c.l=c2.l∧c.t=c2.t:=by
    rcases h1 with ⟨e,_,rfl⟩ | ⟨b,side,rows,used,ra,rc,lb,va,vc,k1,k2,k3,k4,k5,k6,k7,k8,k9⟩
    · rcases h2 with ⟨e2,_,rfl⟩ | ⟨b,side,rows,used,ra,rc,lb,va,vc,k1,k2,k3,k4,k5,k6,k7,k8,k9⟩
      · exact ⟨rfl,rfl,rfl⟩
      · rw [e] at k1;cases k1
    · rcases h2 with ⟨e2,_,rfl⟩ | ⟨b',side',rows',used',ra',rc',lb',va',vc',m1,m2,m3,m4,m5,m6,m7,m8,m9⟩
      · rw [k1] at e2;cases e2
      · rw [k1] at m1
        simp at m1
        obtain ⟨_,e2,_⟩:=m1
        subst e2
        rw [k8,m8]
        exact ⟨rfl,rfl,rfl⟩
  unfold sameCo
  obtain ⟨a1,a2,a3⟩:=key
  by_cases hi:c.is=true
  · rw [if_pos ⟨hi,by rw [← a1];exact hi⟩]
    unfold sameQ
    rw [a2,a3,sameL_true rfl]
    simp
  · rw [if_neg (fun h=>hi h.1),a1]
    simp
set_option maxRecDepth 100000 in
set_option maxHeartbeats 1000000 in
theorem topCopies_any (a:Option Addr) (cap:Nat) (L:List Ac) (which x:Int) (b0:Option Addr) (cb:Nat) (ts:List ByteArray) (w:World) (hm:L.length≤maxLen) (hs:ActCells w a L) (hst:Strs w b0 ts) (htl:ts.length≤maxLen) (hv:Vars w) :
    Calls Tryz.prog 4 #[.slice a L.length cap,.int .i64 which,.int .i64 x,.slice b0 ts.length cb] w fun e w'=>e=.returned (.bool true)∧Below w.heap.size w w':=by
  have HA:Hid (ActCells w a L):=hs
  have HV:Hid (VarsLo w.heap.size w):=⟨w,hv,Nat.le_refl _,Below.refl _ _⟩
  have KW:Hid _:=works_any w HV.out
  have HST:Hid (Strs w b0 ts):=hst
  clear hs hv hst
  go_enter Tryz.func4,Tryz.ntmps4
  go_wp2_with fail
  refine Calls.mono KW.out ?_
  rintro e w1 ⟨rfl,hb1⟩
  have HB1:Hid (Below w.heap.size w w1):=hb1
  have KP:Hid _:=played_any a cap L w1 hm (HA.out.below hb1) ((HV.out.go hb1).mono hb1.size)
  clear hb1 KW
  go_wp2_with fail
  refine Calls.mono KP.out ?_
  rintro e w2 ⟨hb2,P,D,tb,so,aq,cq,l,t,v,ok,rfl,hok,hw⟩
  obtain ⟨W,hW⟩:∃ y,y=w2.alloc (.cells #[dptr (P 0),dptr (P 1),dptr (P 2)] 26):=⟨_,rfl⟩
  have hb3:Below w2.heap.size w2 W:=by rw [hW];exact (Below.refl _ _).alloc (Nat.le_refl _) _
  have HB:Hid (Below w.heap.size w W):=HB1.out.trans ((hb2.trans (hb3.mono hb2.size)).mono HB1.out.size)
  have HL1:Hid (w.heap.size≤w1.heap.size∧w1.heap.size≤W.heap.size):=⟨HB1.out.size,Nat.le_trans hb2.size hb3.size⟩
  have HD:Hid (DBox W w2.heap.size (dptr (P 0)) (dptr (P 1)) (dptr (P 2))):=by rw [hW];exact DBox.new w2 _ _ _
  have HW:Hid (Well w1.heap.size W P D tb so aq cq l t):=hw.below hb3
  have HK:Hid (ok=true→v=.pointer (some ⟨tb,0,none⟩)):=hok
  have H8:Hid (l.length≤8):=hw.life.good.files.few
  clear hb2 hb3 hok hw KP
  go_upto_region 5 with fail
  rw [← hW]
  clear hW
  cases ok with
  | false =>
    go_wp2
    go_ret
    exact ⟨rfl,HB.out⟩
  | true =>
  obtain rfl:=HK.out rfl
  have KF:Hid _:=fewTexts_any b0 cb ts W htl (HST.out.below HB.out)
  go_wp2_with fail
  refine Calls.mono KF.out ?_
  rintro e w3 ⟨⟨fb,rfl,hfb⟩,hw3⟩
  rw [hw3]
  clear hw3 w3 KF
  cases fb with
  | false =>
    go_wp2
    go_ret
    exact ⟨rfl,HB.out⟩
  | true =>
  have HFT:Hid (FewT ts):=hfb rfl
  clear hfb
  have KQ:Hid _:=quilt_here P tb so aq cq l t W HW.out.life.trio H8.out
  go_wp2_with fail
  refine Calls.mono KQ.out ?_
  rintro e w3 ⟨a3,c3,rfl,hf3,hb3⟩
  obtain ⟨W4,hW4⟩:∃ y,y=w3.alloc (.cells #[.slice a3 l.length c3,.int .i64 t] 32):=⟨_,rfl⟩
  have hb4:Below w3.heap.size w3 W4:=by rw [hW4];exact (Below.refl _ _).alloc (Nat.le_refl _) _
  have hb34:Below W.heap.size W W4:=hb3.trans (hb4.mono hb3.size)
  have HQ:Hid (QHere W4 w3.heap.size a3 c3 l t):=by rw [hW4];exact QHere.new hf3
  have HB4:Hid (Below w.heap.size w W4):=HB.out.trans (hb34.mono HB.out.size)
  have HD4:Hid (DBox W4 w2.heap.size (dptr (P 0)) (dptr (P 1)) (dptr (P 2))):=HD.out.below hb34
  have HW4:Hid (Well w1.heap.size W4 P D tb so aq cq l t):=HW.out.below hb34
  clear hf3 hb3 hb4 hb34 KQ
  go_upto_region 8 with fail
  rw [← hW4]
  clear hW4
  obtain ⟨k,hk,hke⟩:=place_of which 3 (by omega)
  have hke3:(bits .and .i64 which 1023).tmod 3=(k:Int):=hke
  have hkz:(k:Int)<3:=by omega
  have hkz0:(0:Int)≤(k:Int):=by omega
  have dk:=HD4.out.at hk
  have dl:=HD4.out.lt
  have KS:Hid _:=spoil_any (P k) (D k) (bits .and .i64 x 1023) b0 cb ts W4 (HW4.out.life.three.disk k hk) (HW4.out.free k hk) HFT.out.1 HFT.out.2 (fun V hV=>HST.out.below (HB4.out.trans (hV.below (fun j hj=>Nat.le_trans HL1.out.1 (Nat.le_trans (HW4.out.life.three.lo k hk) (own_low (HW4.out.life.three.disk k hk) j hj))) HB4.out.size)))
  clear hke
  go_wp2_with fail
  refine Calls.mono KS.out ?_
  rintro e w5 ⟨rfl,d5,hsp,hcl,-⟩
  have HS5:Hid (Spoilt w1.heap.size W4 w5 P (upd P k { P k with wv:=.slice none 0 0 }) (upd D k d5) tb so aq cq l t k):=HW4.out.spoilt hk hsp hcl
  generalize (upd P k { P k with wv:=.slice none 0 0 })=P5 at *
  generalize (upd D k d5)=D5 at *
  have HB5:Hid (Below w.heap.size w w5):=HB4.out.trans (HS5.out.bel.mono HL1.out.1)
  have HQ5:Hid (QHere w5 w3.heap.size a3 c3 l t):=HQ.out.far HS5.out.far
  have HD5:Hid (DBox w5 w2.heap.size (dptr (P5 0)) (dptr (P5 1)) (dptr (P5 2))):=(HD4.out.far HS5.out.far).place HS5.out.same
  clear hsp hcl KS dk dl
  have HKE:Hid ((bits .and .i64 which 1023).tmod 3=(k:Int)):=hke3
  clear hke3
  have hup:∀ i,i<3→(D5 i).down=false∧42≤(D5 i).now.length:=fun i hi=>⟨(HS5.out.free i hi).up,by rw [(HS5.out.free i hi).len];omega⟩
  have HUP:Hid (∀ i,i<3→(D5 i).down=false∧42≤(D5 i).now.length):=hup
  have KC:Hid _:=copies_any w1.heap.size P5 D5 w5 HS5.out.life.three HUP.out HS5.out.life.vars HS5.out.life.low
  obtain ⟨d0,d1,d2,-⟩:=HD5.out.cells
  clear hup
  go_wp2_with fail
  refine Calls.mono KC.out ?_
  rintro e w6 ⟨s,c,rfl,hb6,hrd⟩
  obtain ⟨W6,hW6⟩:∃ y,y=w6.alloc (.cells #[.bool (c 0).is,.slice (c 0).a (c 0).l.length (c 0).cap,.int .i64 (c 0).t,.bool (c 1).is,.slice (c 1).a (c 1).l.length (c 1).cap,.int .i64 (c 1).t,.bool (c 2).is,.slice (c 2).a (c 2).l.length (c 2).cap,.int .i64 (c 2).t] 48):=⟨_,rfl⟩
  have hbW:Below w6.heap.size w6 W6:=by rw [hW6];exact (Below.refl _ _).alloc (Nat.le_refl _) _
  have HN:Hid (NBox W6 w6.heap.size c):=by rw [hW6];exact NBox.new w6 c
  have hb56:Below w5.heap.size w5 W6:=hb6.trans (hbW.mono hb6.size)
  have HB6:Hid (Below w.heap.size w W6):=HB5.out.trans (hb56.mono HB5.out.size)
  have HR:Hid (∀ i,i<3→RdOk W6 w5.heap.size (P5 i) (D5 i) (s i) (c i)):=fun i hi=>(hrd i hi).below hbW
  have HQ6:Hid (QHere W6 w3.heap.size a3 c3 l t):=HQ5.out.below hb56
  have HD6:Hid (DBox W6 w2.heap.size (dptr (P5 0)) (dptr (P5 1)) (dptr (P5 2))):=HD5.out.below hb56
  have HL6:Hid (Life w1.heap.size 50 W6 P5 D5 tb so aq cq l t):=HS5.out.life.below hb56
  clear hb6 hrd hbW hb56 KC d0 d1 d2
  go_upto_region 12 with fail
  rw [← hW6]
  clear hW6
  have KC2:Hid _:=copies_any w1.heap.size P5 D5 W6 HL6.out.three HUP.out HL6.out.vars HL6.out.low
  obtain ⟨d0,d1,d2,-⟩:=HD6.out.cells
  go_wp2_with fail
  refine Calls.mono KC2.out ?_
  rintro e w7 ⟨s2,c2,rfl,hb7,hrd2⟩
  obtain ⟨W7,hW7⟩:∃ y,y=w7.alloc (.cells #[.bool (c2 0).is,.slice (c2 0).a (c2 0).l.length (c2 0).cap,.int .i64 (c2 0).t,.bool (c2 1).is,.slice (c2 1).a (c2 1).l.length (c2 1).cap,.int .i64 (c2 1).t,.bool (c2 2).is,.slice (c2 2).a (c2 2).l.length (c2 2).cap,.int .i64 (c2 2).t] 48):=⟨_,rfl⟩
  have hbW:Below w7.heap.size w7 W7:=by rw [hW7];exact (Below.refl _ _).alloc (Nat.le_refl _) _
  have HN2:Hid (NBox W7 w7.heap.size c2):=by rw [hW7];exact NBox.new w7 c2
  have hb67:Below W6.heap.size W6 W7:=hb7.trans (hbW.mono hb7.size)
  have HN1:Hid (NBox W7 w6.heap.size c):=HN.out.below hb67
  have HB7:Hid (Below w.heap.size w W7):=HB6.out.trans (hb67.mono HB6.out.size)
  have HR1:Hid (∀ i,i<3→RdOk W7 w5.heap.size (P5 i) (D5 i) (s i) (c i)):=fun i hi=>(HR.out i hi).below hb67
  have HR2:Hid (∀ i,i<3→RdOk W7 W6.heap.size (P5 i) (D5 i) (s2 i) (c2 i)):=fun i hi=>(hrd2 i hi).below hbW
  have HQ7:Hid (QHere W7 w3.heap.size a3 c3 l t):=HQ6.out.below hb67
  clear hb7 hrd2 hbW hb67 KC2 d0 d1 d2
  go_upto_region 13 with fail
  rw [← hW7]
  clear hW7
  have hkk:(k:Int)=(bits .and .i64 which 1023).tmod 3:=HKE.out.symm
  try rw [← hkk]
  clear hkk
  go_wp2_with fail
  go_loopg [16] 4 (fun kx vi wr=>∃ n:Nat,vi=.int .i64 n∧n≤3∧3 - n≤kx∧Hid (Below W7.heap.size W7 wr))
  case atStart=>exact ⟨0,rfl,by omega,by omega,Below.refl _ _⟩
  case round =>
    obtain ⟨n,rfl,hn,hnx,HBr⟩:=hrel
    by_cases hlt:n<3
    · have hltz:(n:Int)<3:=by omega
      have hnz0:(0:Int)≤(n:Int):=by omega
      obtain ⟨x0,x1,x2⟩:=(HN1.out.below HBr.out).cells n hlt
      obtain ⟨y0,y1,y2⟩:=(HN2.out.below HBr.out).cells n hlt
      obtain ⟨q0,q1⟩:=(HQ7.out.below HBr.out).cells
      have ax:=(HN1.out.below HBr.out).lt
      have ay:=(HN2.out.below HBr.out).lt
      have KSC:Hid (∀ p:Later wr,Calls Tryz.prog 18 #[(c n).v,(c2 n).v] p.W fun e w'=>e=.returned (.bool true)∧Below p.W.heap.size p.W w'):=fun p=>by
        have hb:=HBr.out.trans (p.h.mono HBr.out.size)
        have h:=sameCopy_any (c n) (c2 n) p.W ((HR1.out n hlt).co.below hb) ((HR2.out n hlt).co.below hb)
        rw [(HR1.out n hlt).alike (HR2.out n hlt)] at h
        exact h
      have some':=Later.ne wr
      by_cases hnk:n=k
      · subst hnk
        have p0:=Later.cell x0
        have p1:=Later.cell x1
        have p2:=Later.cell x2
        have p3:=Later.cell y0
        have p4:=Later.cell y1
        have p5:=Later.cell y2
        clear x0 x1 x2 y0 y1 y2 q0 q1
        go_wp2_with fail
        refine wp_region_later (by kernel_rfl) (by kernel_rfl) ?_
        repeat (go_big_quiet_step ((go_at_call 18;exact later_of _ (KSC.out _))))
        refine wpQuiet_nil ?_
        rintro _ ⟨p,rfl⟩
        have HBN:Hid (Below W7.heap.size W7 p.W):=HBr.out.trans (p.h.mono HBr.out.size)
        clear p0 p1 p2 p3 p4 p5
        go_wp2
        go_roundg (3 - (n+1))
        case measure=>omega
        case rel=>exact ⟨n+1,by go_num,by omega,Nat.le_refl _,HBN⟩
      · have hne:((n:Int) != (k:Int))=true:=by simp;omega
        obtain ⟨hi1,hi2,hi3⟩:=((HR1.out n hlt).tells HS5.out.life.good).2 (HS5.out.sound n hlt hnk).tells
        have KSQ:Hid (∀ p:Later wr,Calls Tryz.prog 14 #[.agg #[.slice (c n).a (c n).l.length (c n).cap,.int .i64 (c n).t],.agg #[.slice a3 l.length c3,.int .i64 t]] p.W fun e w'=>e=.returned (.bool true)∧Below p.W.heap.size p.W w'):=fun p=>by
          have hb:=HBr.out.trans (p.h.mono HBr.out.size)
          rw [hi2,hi3]
          have hc:=((HR1.out n hlt).co.below hb).slice
          rw [hi2] at hc
          refine (sameQuilt_any (c n).a a3 (c n).cap c3 l l t t p.W (by have:=H8.out;omega) (by have:=H8.out;omega) hc.cells (HQ7.out.below hb).files.cells).mono ?_
          rintro e w' ⟨rfl,hb2⟩
          exact ⟨by rw [sameL_true rfl];simp,hb2⟩
        have p0:=Later.cell x0
        rw [hi1] at p0
        have p1:=Later.cell x1
        have p2:=Later.cell x2
        have p3:=Later.cell y0
        have p4:=Later.cell y1
        have p5:=Later.cell y2
        have p6:=Later.cell q0
        have p7:=Later.cell q1
        have KSC2:Hid (∀ p:Later wr,Calls Tryz.prog 18 #[.agg #[.bool true,.slice (c n).a (c n).l.length (c n).cap,.int .i64 (c n).t],(c2 n).v] p.W fun e w'=>e=.returned (.bool true)∧Below p.W.heap.size p.W w'):=fun p=>by
          have e:(Value.agg #[.bool true,.slice (c n).a (c n).l.length (c n).cap,.int .i64 (c n).t])=(c n).v:=by rw [← hi1]
          have h:=KSC.out p
          rw [e]
          exact h
        clear x0 x1 x2 y0 y1 y2 q0 q1 hi1 hi2 hi3
        go_wp2_with fail
        refine wp_region_later (by kernel_rfl) (by kernel_rfl) ?_
        repeat (go_big_quiet_step ((first | (go_at_call 18;exact later_of _ (KSC2.out _)) | (go_at_call 14;exact later_of _ (KSQ.out _)))))
        refine wpQuiet_nil ?_
        rintro _ ⟨p,rfl⟩
        have HBN:Hid (Below W7.heap.size W7 p.W):=HBr.out.trans (p.h.mono HBr.out.size)
        clear p0 p1 p2 p3 p4 p5 p6 p7
        go_wp2
        go_roundg (3 - (n+1))
        case measure=>omega
        case rel=>exact ⟨n+1,by go_num,by omega,Nat.le_refl _,HBN⟩
    · have hnl:¬ (n:Int)<3:=by omega
      go_wp2
      go_ret
      exact ⟨rfl,HB7.out.trans (HBr.out.mono HB7.out.size)⟩
end Go.Proofs.YtihnghnafpgdfadGreatDoor
