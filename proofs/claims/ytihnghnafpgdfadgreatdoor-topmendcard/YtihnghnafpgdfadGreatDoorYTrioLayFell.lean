/-
  TO LAY A QUILT ON A DISK THAT MAY FALL: trio.lay.
-/
import Derived.Test.YtihnghnafpgdfadGreatDoorYTrioFell
namespace Go.Proofs.YtihnghnafpgdfadGreatDoor
open Go Go.RowKit Go.BigFrame
set_option linter.unusedVariables false
set_option linter.unusedSimpArgs false
/-- What lay leaves of a disk that may fall. -/
structure LaidF (w w':World)(N:Nat)(p:Dp)(u:Value)(d:Dk):Prop where
  disk:DiskAt w' { p with wv:=u } d
  new:NewTo p w u
  touch:Touch (dOwn p) w w'
  hurt:Hurt N d
theorem LaidF.go {w w1 w2:World}{N:Nat}{p:Dp}{u1 u2:Value}{d1 d2:Dk}(hn1:NewTo p w u1)(ht1:Touch (dOwn p) w w1)(h:LaidF w1 w2 N { p with wv:=u1 } u2 d2):LaidF w w2 N p u2 d2 :=
  ⟨h.disk,fun k hk=>by
    rcases h.new k hk with h1 | h1
    · exact hn1 k h1
    · exact .inr (Nat.le_trans ht1.size h1),Touch.step ht1 h.touch rfl rfl rfl hn1,h.hurt⟩
theorem LaidF.from {w0 w w':World}{N:Nat}{p:Dp}{u:Value}{d:Dk}(h:LaidF w w' N p u d)(hb:Below w0.heap.size w0 w):LaidF w0 w' N p u d :=
  ⟨h.disk,fun k hk=>by
    rcases h.new k hk with h1 | h1
    · exact .inl h1
    · exact .inr (Nat.le_trans hb.size h1),(Touch.of_below hb).trans h.touch,h.hurt⟩
theorem errV_le {n:Int}(h:0≤n):n=0∨¬ n=0:=by omega
set_option maxRecDepth 100000 in
set_option maxHeartbeats 4000000 in
theorem layF_any (N:Nat) (p:Dp) (d:Dk) (a:Option Addr) (cap:Nat) (l:List Fi) (t:Int) (w:World) (hd:DiskAt w p d) (hcl:Clean d) (hl:d.now.length=N) (hN:42≤N) (hN2:N≤60) (hg:GoodQ l t) (hc:FilesIn w a cap l) (hv:VarsLo p.lo w) (hlo:p.lo≤w.heap.size) :
    Calls Tryz.prog 60 #[.pointer (some ⟨p.B,0,none⟩),.agg #[.slice a l.length cap,.int .i64 t]] w fun e w'=>∃ (v:Value) (n:Int) (u:Value) (d':Dk),e=.returned (.tuple #[v,errV n])∧((n=0∧∃ b,v=.pointer (some ⟨b,0,none⟩))∨(¬ n=0∧v=.pointer none))∧LaidF w w' N p u d':=by
  have HC:Hid (FilesIn w a cap l):=hc
  have HG:Hid (GoodQ l t):=hg
  have HV:Hid (VarsLo p.lo w):=hv
  have hl8:l.length≤8:=hg.files.few
  have HFC:Hid (((formatD d).2=0∧Clean (formatD d).1∧KeptL N (formatD d).1.now 1 0 [])∨((formatD d).2=8∧Hurt N (formatD d).1)):=format_cases hcl hl hN hN2
  have HD:Hid (DiskAt w p d):=hd
  obtain ⟨W0,hW⟩:∃ x,x=w.alloc (.cells #[.slice a l.length cap,.int .i64 t] 32):=⟨_,rfl⟩
  have HB0:Hid (Below w.heap.size w W0):=by rw [hW];exact (Below.refl _ _).alloc (Nat.le_refl _) _
  have HQ0:Hid (QBox W0 w.heap.size (.slice a l.length cap) t):=by rw [hW];exact QBox.new w _ t _
  have KF:Hid _:=storeFormat_any p d W0 (hd.below HB0.out) (by rw [hcl.wr];simp)
  clear hc hg hv hd hcl hl
  go_enter Tryz.func60,Tryz.ntmps60
  go_wp2_with fail
  rw [← hW]
  clear hW
  refine Calls.mono KF.out ?_
  rintro e w1 ⟨rfl,u1,hd1,ht1,hn1⟩
  have HD0:Hid (DiskAt W0 p d):=HD.out.below HB0.out
  have HD1:Hid (DiskAt w1 { p with wv:=u1 } (formatD d).1):=hd1
  have HT1:Hid (Touch (dOwn p) W0 w1):=ht1
  have HN1:Hid (NewTo p W0 u1):=hn1
  have HQ1:Hid (QBox w1 w.heap.size (.slice a l.length cap) t):=HQ0.out.keep (ht1.block _ HQ0.out.lt (fun ho=>by have:=HD.out.lts ho;omega)) ht1.size
  have HC1:Hid (FilesIn w1 a cap l):=(HC.out.below HB0.out).keep (fun k C fr e=>ht1.other HD0.out e ⟨by decide,by decide,by decide⟩)
  have HV1:Hid (VarsLo p.lo w1):=(HV.out.go (HB0.out.mono hlo)).go (ht1.below (own_low HD0.out) (Nat.le_trans hlo HB0.out.size))
  clear hd1 ht1 hn1 KF HQ0
  rcases HFC.out with ⟨f1,f2,f3⟩ | ⟨f1,f2⟩
  case inr =>
    have HE:Hid (LaidF w w1 N p u1 (formatD d).1):=(LaidF.mk HD1.out HN1.out HT1.out f2).from HB0.out
    rw [f1]
    have e8:errV 8=.iface 90 (.int .i64 8):=errV_pos (show ¬ (8:Int)=0 by decide)
    rw [e8]
    clear f1 f2
    go_wp2
    try simp only [Exit.inBlock,Exit.then]
    refine bodyPost_ret (v:=.tuple #[.pointer none,.iface 90 (.int .i64 8)]) (by simp [results,Tryz.results60,go_sem]) rfl ⟨_,8,u1,_,by rw [e8],.inr ⟨by decide,rfl⟩,HE.out⟩
  rw [f1,errV_zero rfl]
  have HK1:Hid (Clean (formatD d).1∧KeptL N (formatD d).1.now 1 0 []):=⟨f2,f3⟩
  have KO:Hid _:=storeOpen_any { p with wv:=u1 } (formatD d).1 w1 HD1.out f2.up (by rw [f3.len];exact hN)
  clear f1 f2 f3 HFC
  generalize (formatD d).1=d1 at *
  go_wp2_with fail
  refine Calls.mono KO.out ?_
  rintro e w2 ⟨hb2,hor⟩
  have hop:openD d1=some (1,[],0):=HK1.out.2.g.opens
  have hso:∃ b ra rc lb,e=.returned (.tuple #[.pointer (some ⟨b,0,none⟩),.nilIface])∧StoreOwn w2 w1.heap.size b ⟨p.B,1,ra,rc,[],lb⟩ ⟨p.B,26,N - 26,firstOf d1 1,0⟩:=by
    rcases hor with ⟨ho,-⟩ | ⟨b,side',rows',used',ra,rc,lb,ho,h1,h2,h3,h4,rfl,hs⟩
    · rw [hop] at ho;cases ho
    · rw [hop] at ho
      cases ho
      rw [HK1.out.2.len] at hs
      exact ⟨b,ra,rc,lb,rfl,hs⟩
  obtain ⟨b,ra,rc,lb,rfl,hso⟩:=hso
  have HB2:Hid (Below w1.heap.size w1 w2):=hb2
  have HSO:Hid (StoreOwn w2 w1.heap.size b ⟨p.B,1,ra,rc,[],lb⟩ ⟨p.B,26,N - 26,firstOf d1 1,0⟩):=hso
  have HQ2:Hid (QBox w2 w.heap.size (.slice a l.length cap) t):=HQ1.out.below hb2 HQ1.out.lt
  have KR:Hid _:=imageRows_any a cap l t w2 HG.out (HC1.out.below hb2).cells (HV1.out.vars.below hb2)
  obtain ⟨q0,q1,_,_,ql,_⟩:=HQ2.out
  clear hb2 hso hor hop KO
  go_wp2_with fail
  refine Calls.mono KR.out ?_
  rintro e w3 ⟨pr,cr,rfl,hcc,hle,⟨_,hty⟩,hb3⟩
  have HB3:Hid (Below w1.heap.size w1 w3):=HB2.out.trans (hb3.mono HB2.out.size)
  have hR:=rowsL_length l t
  have HS3:Hid (StoreOwn w3 p.lo b ⟨p.B,1,ra,rc,[],lb⟩ ⟨p.B,26,N - 26,firstOf d1 1,0⟩):=(HSO.out.below hb3).lower (Nat.le_trans hlo (Nat.le_trans HB0.out.size HT1.out.size))
  have HD3:Hid (DiskAt w3 { p with wv:=u1 } d1):=HD1.out.below HB3.out
  have hlen:=HK1.out.2.len
  have hfst:=first_ok (d:=d1) (side:=1) hlen (Nat.le_refl _) hN hN2
  have kcm:=storeCommit_any p.lo b { p with wv:=u1 } d1 ⟨p.B,1,ra,rc,[],lb⟩ ⟨p.B,26,N - 26,firstOf d1 1,0⟩ pr cr (rowsL l t) w3 HS3.out HD3.out (Nat.le_refl _) rfl rfl ⟨by show 26+(N - 26)≤_;omega,hfst.2,Nat.zero_le _⟩ rfl hfst.1 (by show N - 26=_;rw [hlen]) (by rw [hlen];exact hN) (Nat.le_refl _) (Nat.zero_le _) Rowed.nil (by intro c hc;cases hc) (by rw [HK1.out.1.wr];simp) ⟨hcc,fun x hx _=>.inr (hty x hx)⟩ (fun e=>by subst e;obtain ⟨b9,o9,e9,_⟩:=hcc 0 (by omega);cases e9) (by omega)
  have hlow:w.heap.size≤w1.heap.size:=Nat.le_trans HB0.out.size HT1.out.size
  have hhurt:=commit_hurt (c:=rowsL l t) (s:=⟨p.B,1,ra,rc,[],lb⟩) (g:=⟨p.B,26,N - 26,firstOf d1 1,0⟩) HK1.out.2 HK1.out.1 HD1.out.snow hN hN2 rfl
  have HEND:Hid (∀ e w4,CommitSays w3 p.lo b { p with wv:=u1 } d1 ⟨p.B,1,ra,rc,[],lb⟩ ⟨p.B,26,N - 26,firstOf d1 1,0⟩ (rowsL l t) e w4→(∃ n,e=.returned (errV n))∧∃ u d',LaidF w w4 N p u d'):=fun e w4 hcs=>by
    obtain ⟨he,u2,lb2,ra2,rc2,hd4,hn4,ht4,ho4⟩:=hcs
    refine ⟨⟨_,he⟩,u2,_,⟨hd4,?_,⟨?_,?_,?_,?_,?_⟩,hhurt⟩⟩
    · intro k hk
      rcases hn4 k hk with h1 | h1
      · rcases HN1.out k h1 with h2 | h2
        · exact .inl h2
        · exact .inr (Nat.le_trans HB0.out.size h2)
      · exact .inr (Nat.le_trans hlow (Nat.le_trans HB3.out.size h1))
    · exact ht4.os.trans (HB3.out.os.trans (HT1.out.os.trans HB0.out.os))
    · exact ht4.tape.trans (HB3.out.tape.trans (HT1.out.tape.trans HB0.out.tape))
    · exact ht4.output.trans (HB3.out.output.trans (HT1.out.output.trans HB0.out.output))
    · exact Nat.le_trans hlow (Nat.le_trans HB3.out.size ht4.size)
    · intro k hk hno
      have hk0:k<W0.heap.size:=Nat.lt_of_lt_of_le hk HB0.out.size
      have hk1:k<w1.heap.size:=Nat.lt_of_lt_of_le hk hlow
      rw [ht4.block k (Nat.lt_of_lt_of_le hk1 HB3.out.size) (fun hs=>by
        rcases hs with ((e | e | e | e) | e) | e
        · exact hno (.inl e)
        · exact hno (.inr (.inl e))
        · exact hno (.inr (.inr (.inl e)))
        · rcases HN1.out k e with e2 | e2
          · exact hno (.inr (.inr (.inr e2)))
          · omega
        · have:=HSO.out.low.1;omega
        · have:w1.heap.size≤lb:=HSO.out.low.2
          have e3:k=lb:=e
          omega),HB3.out.block k hk1,HT1.out.block k hk0 hno,HB0.out.block k hk]
  have KC:Hid (Calls Tryz.prog 76 #[.pointer (some ⟨b,0,none⟩),.slice pr (rowsL l t).length cr] w3 fun e w'=>(∃ n,e=.returned (errV n))∧∃ u d',LaidF w w' N p u d'):=kcm.mono HEND.out
  clear kcm hhurt HEND hty hcc hR hle hfst hb3 hlen
  go_wp2_with fail
  refine Calls.mono KC.out ?_
  rintro e w4 ⟨⟨n,rfl⟩,u4,d4,hlaid⟩
  have HL:Hid _:=hlaid
  clear hlaid KC
  by_cases hn:n=0
  · rw [errV_zero hn]
    go_wp2
    try simp only [Exit.inBlock,Exit.then]
    refine bodyPost_ret (v:=.tuple #[.pointer (some ⟨b,0,none⟩),.nilIface]) (by simp [results,Tryz.results60,go_sem]) rfl ⟨_,0,u4,d4,by rw [errV_zero rfl],.inl ⟨rfl,b,rfl⟩,HL.out⟩
  · have HNE:Hid (errV n=.iface 90 (.int .i64 n)):=errV_pos hn
    rw [errV_pos hn]
    go_wp2
    try simp only [Exit.inBlock,Exit.then]
    refine bodyPost_ret (v:=.tuple #[.pointer none,.iface 90 (.int .i64 n)]) (by simp [results,Tryz.results60,go_sem]) rfl ⟨_,n,u4,d4,by rw [HNE.out],.inr ⟨hn,rfl⟩,HL.out⟩
end Go.Proofs.YtihnghnafpgdfadGreatDoor
