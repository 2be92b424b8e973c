/- What the proofs stand on, part 14: StoreLayWalk. -/
import Derived.Test.YtihnghnafpgdfadGreatDoorSk13
set_option linter.unusedVariables false
set_option linter.unusedSimpArgs false
set_option maxRecDepth 100000
set_option maxHeartbeats 4000000
namespace Go.Proofs.YtihnghnafpgdfadGreatDoor
open Go Go.RowKit Go.BigFrame
variable {W W' W3 w w1:World}{p:Dp}{D D' d:Dk}{B Z a0 k n:Nat}{T:ByteArray}{fr:Nat × Nat}{u u' v:Value}
attribute [local go_sem] Oper.semAt_some
theorem zrX (h:zab w p d)(hb:Below w.heap.size w W3)(hsz:W3.heap.size=w.heap.size+1+1+1)(b0:Boxed W3 w.heap.size 25 (.pointer (some ⟨p.B,0,none⟩)))(b1:Boxed W3 (w.heap.size+1) 38 .nilIface)(b2:Boxed W3 (w.heap.size+1+1) 3 (.int .i64 a0))(C:Nat)
 (hw:w1=((W3.alloc (.cells (bytesRow T C) 5 fr)).drew.alloc (.cells #[.slice (some ⟨w.heap.size+1+1+1,0,none⟩) n C] 115 (0,0))).alloc (.cells #[.int .i64 40] 3 (0,0))) :
 zkI w p d a0 T k (w.heap.size+1+1+1) C [] w1∧w1.heap.size=w.heap.size+1+1+1+1+1+1∧Boxed w1 (w.heap.size+1+1+1+1) 115 (.slice (some ⟨w.heap.size+1+1+1,0,none⟩) n C)∧Boxed w1 (w.heap.size+1+1+1+1+1) 3 (.int .i64 40):=by
 have hwb:Below W3.heap.size W3 w1:=by rw [hw];exact ((((Below.refl _ W3).alloc (Nat.le_refl _) _).drew.alloc (by simp) _).alloc (by simp;omega) _)
 have r0:(W3.alloc (.cells (bytesRow T C) 5 fr)).drew.heap[w.heap.size+1+1+1]?=some (.cells (bytesRow T C) 5 fr):=by rw [← hsz];exact heap_alloc_new W3 _
 have r1:=Boxed.new (W3.alloc (.cells (bytesRow T C) 5 fr)).drew 115 (.slice (some ⟨w.heap.size+1+1+1,0,none⟩) n C);have r2:=Boxed.new ((W3.alloc (.cells (bytesRow T C) 5 fr)).drew.alloc (.cells #[.slice (some ⟨w.heap.size+1+1+1,0,none⟩) n C] 115 (0,0))) 3 (.int .i64 40);simp only [World.size_alloc,World.size_drew,hsz] at r1 r2;have s1:=r1.alloc (.cells #[.int .i64 40] 3 (0,0))
 have g0:w1.heap[w.heap.size+1+1+1]?=some (.cells (bytesRow T C) 5 fr):=by
  rw [hw];refine (Below.heap_alloc _ _ _ ?_).trans ((Below.heap_alloc _ _ _ ?_).trans r0)
  · simp [hsz]
    try omega
  · simp [hsz]
 have hs1:w1.heap.size=w.heap.size+1+1+1+1+1+1:=by rw [hw];simp only [World.size_alloc,World.size_drew,hsz]
 rw [← hw] at r2 s1;refine ⟨⟨⟨p.wv,d,(h.below hb).below hwb,fun k hk=>.inl hk,by simp,by simp⟩,?_,(hwb.block _ b1.lt).trans b1,(hwb.block _ b0.lt).trans b0,?_,⟨fr,g0⟩,⟨_,s1⟩,⟨_,r2⟩⟩,hs1,s1,r2⟩
 · exact zat.of_below (hb.trans (hwb.mono hb.size))
 · exact (hwb.block _ b2.lt).trans b2
theorem zjf (h:zat (dOwn p) W W')(hd:zab W p d):KeepsFrom Z W W' :=
 ⟨h.size,fun k o _ hk ho=>(h.block k (Array.getElem?_eq_some_iff.1 hk).1 (fun e=>by
  obtain ⟨C,T,fr,e',-⟩:=hd.kind e;rw [hk] at e';cases e';cases ho)).trans hk⟩
structure zbv (w:World)(p:Dp)(u:Value)(Dk':Dk)(B:Nat)(W:World):Prop where
 disk:zab W { p with wv:=u } Dk'
 new:zbw p w u
 touch:zat (dOwn p) w W
 res:∃ v,Boxed W (w.heap.size+1) 38 v
 box:Boxed W w.heap.size 25 (.pointer (some ⟨p.B,0,none⟩))
 mark:W.heap[B]?=some (.deferred (some []))
 far:w.heap.size+1<B
theorem zbv.below (h:zbv w p u D B W)(hb:Below W.heap.size W W'):zbv w p u D B W':=by
 obtain ⟨v,hv⟩:=h.res;exact ⟨h.disk.below hb,h.new,h.touch.trans (zat.of_below hb),⟨v,(hb.block _ hv.lt).trans hv⟩,(hb.block _ h.box.lt).trans h.box,(hb.block _ (Array.getElem?_eq_some_iff.1 h.mark).1).trans h.mark,h.far⟩
theorem zbv.turn (h:zbv w p u D B W)(hd:zab W' { p with wv:=u' } D')(ht:zat (dOwn { p with wv:=u }) W W')(hn:zbw { p with wv:=u } W u'):zbv w p u' D' B W':=by
 obtain ⟨v,hv⟩:=h.res;have hk:KeepsFrom B W W':=zjf ht h.disk
 exact ⟨hd,fun k hk=>by
  rcases hn k hk with e | e
  · exact h.new k e
  · exact .inr (Nat.le_trans h.touch.size e),h.touch.step ht rfl rfl rfl h.new,⟨v,(ht.other h.disk hv (by decide)).trans hv⟩,(ht.other h.disk h.box (by decide)).trans h.box,hk.same _ _ (Nat.le_refl _) h.mark rfl,h.far⟩
theorem zk7 (h:zbv w p u D B W)(k:Nat)(s:ByteArray)(hs:s.size≤1000)(hwr:D.wr.length<120):
 Calls Tryz.prog 123 #[.pointer (some ⟨p.B,0,none⟩),.int .i64 k,.string s] W fun e w'=>e=.returned (errV (layD D k [s]).2)∧∃ u',zbv w p u' (layD D k [s]).1 B w' :=
 (zfV { p with wv:=u } D k s W h.disk hs hwr).mono fun e w' ⟨he,u',hd,ht,hn⟩=>⟨he,u',h.turn hd ht hn⟩
theorem zso (h:zbv w p u D B W):
 Calls Tryz.prog 29 #[.pointer (some ⟨p.B,0,none⟩)] W fun e w'=>e=.returned (errV (zb1 D))∧∃ u',zbv w p u' (zaO D) B w' :=
 (zdB { p with wv:=u } D W h.disk).mono fun e w' ⟨he,hd,hn⟩=>by
   refine ⟨he,?_⟩;unfold zgA at hd
   split at hd
   · exact ⟨_,h.turn (u':=.slice none 0 0) hd hn.touch (fun k hk=>by cases hk)⟩
   · exact ⟨u,h.turn hd hn.touch (fun k hk=>.inl hk)⟩
theorem zbv.end (h:zbv w p u D B W)(v:Value):
 (W.setCell ⟨w.heap.size+1,0,none⟩ v).heap[B]?=some (.deferred (some []))∧((W.setCell ⟨w.heap.size+1,0,none⟩ v).putObj B (.deferred none)).cell? ⟨w.heap.size+1,0,none⟩=some v ∧
 ∃ u,zab ((W.setCell ⟨w.heap.size+1,0,none⟩ v).putObj B (.deferred none)) { p with wv:=u } D∧zat (dOwn p) w ((W.setCell ⟨w.heap.size+1,0,none⟩ v).putObj B (.deferred none))∧zbw p w u:=by
 obtain ⟨v0,hv⟩:=h.res;have hk:=(KeepsOthers.setCell W ⟨w.heap.size+1,0,none⟩ v).same B _ h.mark rfl
 have hr:∀ r,(some B:Option Nat)=some r→w.heap.size≤r∧∃ o:Obj,(W.setCell ⟨w.heap.size+1,0,none⟩ v).heap[r]?=some o∧o.isCells=false:=fun r e=>by
  cases e;exact ⟨by have:=h.far;omega,_,hk,rfl⟩
 have hg:=grownBy_putObj' (W.setCell ⟨w.heap.size+1,0,none⟩ v) B (.deferred none);have hb:Boxed ((W.setCell ⟨w.heap.size+1,0,none⟩ v).putObj B (.deferred none)) (w.heap.size+1) 38 v:=za7 hg hr (hv.set v);exact ⟨hk,hb.cell,u,zhj (zfc v h.disk hv (by decide)) hg hr,zgd (zeb h.touch (by omega) 0 v) (Nat.le_refl _) hg hr,h.new⟩
theorem zqS (hd:zab W { p with wv:=u } D)(hn:zbw p w u)(ht:zat (dOwn p) w W)(hv:Boxed W (w.heap.size+1) 38 v)(hK:W.heap[B]?=some (.deferred (some [])))(hB:w.heap.size≤B):
 (W.putObj B (.deferred none)).cell? ⟨w.heap.size+1,0,none⟩=some v∧∃ u,zab (W.putObj B (.deferred none)) { p with wv:=u } D∧zat (dOwn p) w (W.putObj B (.deferred none))∧zbw p w u:=by
 have hr:∀ r,(some B:Option Nat)=some r→w.heap.size≤r∧∃ o:Obj,W.heap[r]?=some o∧o.isCells=false:=fun r e=>by
  cases e;exact ⟨hB,_,hK,rfl⟩
 have hg:=grownBy_putObj' W B (.deferred none);have hb:Boxed (W.putObj B (.deferred none)) (w.heap.size+1) 38 v:=za7 hg hr hv;exact ⟨hb.cell,u,zhj hd hg hr,zgd ht (Nat.le_refl _) hg hr,hn⟩
theorem zmd (p:Dp) (d:Dk) (i k:Nat) (T:ByteArray) (w:World) (h:zab w p d) (hi:i≤1) (hk:k≤12) (hT:T.size=40 * k) (hwr:d.wr.length≤60) :
 Calls Tryz.prog 150 #[.pointer (some ⟨p.B,0,none⟩),.int .i64 i,.string T] w fun e w'=>e=.returned (errV (layT d i T k).2)∧∃ u,zab w' { p with wv:=u } (layT d i T k).1∧zat (dOwn p) w w'∧zbw p w u:=by
 have HD:Hid (zab w p d):=h;have HT:Hid (T.size=40 * k):=hT;have hTs:T.size≤480:=by omega
 have KA:Hid (∀ W,Calls Tryz.prog 162 #[.int .i64 i] W fun e w'=>e=.returned (.int .i64 ((2+i * 12:Nat):Int))∧w'=W):=fun W=>zfx i W hi
 obtain ⟨a0,ha0⟩:∃ a0,a0=2+i * 12:=⟨_,rfl⟩
 have HA0:Hid (a0=2+i * 12):=ha0;rw [← ha0] at KA;have ha0s:a0≤14:=by omega
 clear h hT ha0
 have hcv:∀ W:World,(convert 9 115 (.string T)).run Tryz.prog W=.ok (.slice (some ⟨W.heap.size,0,none⟩) T.size (grownCap W T.size 0 5))
  (W.drew.alloc (.cells (bytesRow T (grownCap W T.size 0 5)) 5 ((bytesRow T (grownCap W T.size 0 5)).size,(bytesRow T (grownCap W T.size 0 5)).size+1))):=fun W=>run_bytes_of_string (P:=Tryz.prog) W 9 115 5 T (by kernel_rfl) (by kernel_rfl) (by kernel_rfl)
 refine (callsIn_wide (n:=9)).1 ?_;refine callsIn_of_wp_marks Tryz.func150 rfl trivial ?_ rfl;simp only [Tryz.ntmps150,List.size_toArray,List.length_cons,List.length_nil,Nat.reduceAdd,Nat.reduceSub,Array.replicate_succ,Array.replicate_zero,List.push_toArray,List.append_toArray,List.nil_append,List.cons_append];refine wpIn_wide.2 ?_
 go_wp2_with fail
 refine Calls.mono (KA.out _) ?_;rintro e w1 ⟨rfl,hw⟩;rw [hw];clear hw w1 KA
 go_wp2_with fail
 refine Calls.mono (zr9 _ ⟨_,_,_,rfl⟩ _) ?_;rintro e w1 ⟨rfl,hw⟩;have b0:=((Boxed.new w 25 (.pointer (some ⟨p.B,0,none⟩))).alloc (.cells #[.nilIface] 38 (0,0))).alloc (.cells #[.int .i64 a0] 3 (0,0));have b1:=(Boxed.new (w.alloc (.cells #[.pointer (some ⟨p.B,0,none⟩)] 25 (0,0))) 38 .nilIface).alloc (.cells #[.int .i64 a0] 3 (0,0));have b2:=Boxed.new ((w.alloc (.cells #[.pointer (some ⟨p.B,0,none⟩)] 25 (0,0))).alloc (.cells #[.nilIface] 38 (0,0))) 3 (.int .i64 a0);have hb:=(((Below.refl w.heap.size w).alloc (Nat.le_refl _) (.cells #[.pointer (some ⟨p.B,0,none⟩)] 25 (0,0))).alloc (by simp) (.cells #[.nilIface] 38 (0,0))).alloc (by simp;omega) (.cells #[.int .i64 a0] 3 (0,0));simp only [World.size_alloc] at b1 b2;obtain ⟨W3,hW3⟩:∃ W3,W3=((w.alloc (.cells #[.pointer (some ⟨p.B,0,none⟩)] 25 (0,0))).alloc (.cells #[.nilIface] 38 (0,0))).alloc (.cells #[.int .i64 a0] 3 (0,0)):=⟨_,rfl⟩
 have hsz:W3.heap.size=w.heap.size+1+1+1:=by rw [hW3];simp only [World.size_alloc]
 rw [← hW3] at b0 b1 b2 hb hw;obtain ⟨C,hC⟩:∃ C,C=grownCap W3 T.size 0 5:=⟨_,rfl⟩
 rw [← hC] at hw;have hCs:T.size≤C:=by rw [hC];exact grownCap_ge _ _ _ _
 obtain ⟨hm,hsz1,hbs,hbn⟩:=zrX (k:=k) HD.out hb hsz b0 b1 b2 C hw;have HM:Hid (zkI w p d a0 T k (w.heap.size+1+1+1) C [] w1):=hm;have HSZ:Hid (w1.heap.size=w.heap.size+1+1+1+1+1+1):=hsz1;have HBS:Hid (Boxed w1 (w.heap.size+1+1+1+1) _ _∧Boxed w1 (w.heap.size+1+1+1+1+1) _ _):=⟨hbs,hbn⟩;have HC:Hid (T.size≤C):=hCs;have HW3:Hid (W3=((w.alloc (.cells #[.pointer (some ⟨p.B,0,none⟩)] 25 (0,0))).alloc (.cells #[.nilIface] 38 (0,0))).alloc (.cells #[.int .i64 a0] 3 (0,0))):=hW3;have HC0:Hid (C=grownCap W3 T.size 0 5):=hC;clear hm hsz1 hbs hbn hw b0 b1 b2 hb hsz hC hW3 hcv hCs
 go_wp2_with fail
 rw [← HW3.out,← HC0.out];clear HW3 HC0;obtain ⟨g,hg⟩:∃ g,g=w.heap.size+1+1+1:=⟨_,rfl⟩
 rw [← hg] at HM HBS ⊢;have HG:Hid (g=w.heap.size+1+1+1):=hg;clear hg;refine (wpIn_wide (n:=9)).1 ?_
 refine zhB (by omega) (gf:=222) (lb:=#[.pointer (some ⟨g+1,0,none⟩),.pointer (some ⟨g+1+1,0,none⟩)]) rfl (enters_of Tryz.func222 (by kernel_rfl) rfl) (znu 8 (g+1) (g+1+1) g (by omega) k C (by omega) (by rw [← HT.out];exact HC.out) w1)
  (fun W hW=>⟨by rw [← HT.out];exact (hW.block _ HBS.out.1.lt).trans HBS.out.1,(hW.block _ HBS.out.2.lt).trans HBS.out.2⟩) (fun b hb=>by rcases hb with rfl | rfl <;> (rw [HSZ.out,HG.out];omega)) (fun _=>rfl) (zkI w p d a0 T k g C) (zph w p d a0 T k g) (zqN _ (by rw [HSZ.out];omega)) (fun c=>zqQ _ (by rw [HSZ.out];omega) c) (fun s W b v hb h=>zqE HG.out s W b v hb h) (fun c s W b v hb h=>zp3 HG.out c s W b v hb h) HM.out
  (fun x=>{ tmps:=List.toArray ((Value.pointer (some { block:=p.B,off:=0 })) :: (Value.int IntKind.i64 i) :: (Value.string T) :: (Value.pointer (some { block:=w.heap.size,off:=0 })) :: undef :: undef :: (Value.pointer (some { block:=w.heap.size+1,off:=0 })) :: (Value.pointer (some { block:=w.heap.size+1+1,off:=0 })) :: (.slice (some ⟨g,40 * x,none⟩) 40 40) :: undef :: undef :: undef :: (Value.int IntKind.i64 i) :: (Value.int IntKind.i64 a0) :: (Value.string T) :: (Value.slice (some { block:=g,off:=0 }) T.size C) :: (Value.func (Fn.func 222) #[] #[Value.pointer (some { block:=g+1,off:=0 }),Value.pointer (some { block:=g+1+1,off:=0 })]) :: (.slice (some ⟨g,40 * x,none⟩) 40 40) :: undef :: undef :: undef :: undef :: undef :: undef :: undef :: undef :: undef :: undef :: undef :: undef :: undef :: undef :: undef :: undef :: undef :: undef :: undef :: undef :: undef :: undef :: undef :: undef :: undef :: undef :: undef :: undef :: []),defers:=[] }) ?assign ?body ?done ?stop
 case assign =>
  intro l x W K hK
  gi_wp2
  exact hK
 case body =>
  rintro l pre x W hm hpre;obtain ⟨rfl,hxk⟩:=zs2 hpre;obtain ⟨⟨u,D,h1,h2,h3,h4⟩,h5,h6,h7,h8,⟨fr,h9⟩,⟨v1,h10⟩,⟨v2,h11⟩⟩:=hm;rw [List.length_range] at h3 h4 h8;have hcv:=run_convert_bytes_back (P:=Tryz.prog) W 115 9 5 ⟨g,40 * x,none⟩ 40 (zfo T x) (by kernel_rfl) (by kernel_rfl) (by kernel_rfl) (zoq h9 HT.out hxk);rw [zfi HT.out hxk] at hcv;obtain ⟨s,hs⟩:∃ s,s=baL (zfo T x):=⟨_,rfl⟩
  have hcv':(convert 115 9 (.slice (some ⟨g,40 * x,none⟩) 40 40)).run Tryz.prog W=.ok (.string s) W:=by rw [hs];exact hcv
  have hss:s.size=40:=by rw [hs,za3,zfi HT.out hxk]
  have KW:Hid _:=zdI { p with wv:=u } D ((a0+x:Nat):Int) s W h1 (by unfold maxLen;omega) (by omega);have c7:=h7.cell;have c8:=h8.cell
  have HSTEP:Hid (zap d a0 (za4 T k)=if zcd D ((a0+x:Nat):Int) s=0 then zap (zaN D ((a0+x:Nat):Int) s) (a0+(x+1)) ((za4 T k).drop (x+1)) else (zaN D ((a0+x:Nat):Int) s,zcd D ((a0+x:Nat):Int) s)):=by
   show _=_;rw [h4,zig (by rw [zcE];exact hxk)];have e:(za4 T k)[x]'(by rw [zcE];exact hxk)=s:=by rw [hs];simp [za4]
   rw [e]
  have fit:∀ {W5:World},Near { p with wv:=u } W W5→KeepsFrom w1.heap.size W W5∧zat (dOwn p) w W5∧Boxed W5 (w.heap.size+1) 38 .nilIface∧Boxed W5 w.heap.size 25 (.pointer (some ⟨p.B,0,none⟩))∧Boxed W5 (w.heap.size+1+1) 3 (.int .i64 ((a0+x:Nat):Int))∧W5.heap[g]?=some (.cells (bytesRow T C) 5 fr)∧Boxed W5 (g+1) 115 v1∧Boxed W5 (g+1+1) 3 v2:=fun {W5} hn=>by
   have ht:=hn.touch;exact ⟨zjf ht h1,h5.step ht rfl rfl rfl h2,(ht.other h1 h6 (by decide)).trans h6,(ht.other h1 h7 (by decide)).trans h7,(ht.other h1 h8 (by decide)).trans h8,(ht.other h1 h9 (by decide)).trans h9,(ht.other h1 h10 (by decide)).trans h10,(ht.other h1 h11 (by decide)).trans h11⟩
  have HFIT:Hid _:=@fit;have HNEW:Hid (zbw p w u∧w.heap.size≤W.heap.size):=⟨h2,h5.size⟩;have HB12:Hid (Boxed W (g+1) 115 v1∧Boxed W (g+1+1) 3 v2):=⟨h10,h11⟩;have HFEW:Hid (D.wr.length≤d.wr.length+x):=h3;clear h1 h2 h3 h4 h5 h6 h7 h8 h9 h10 h11 fit hcv hs;obtain ⟨at',hat⟩:∃ at',at'=((a0+x:Nat):Int):=⟨_,rfl⟩
  have HAT:Hid (at'=((a0+x:Nat):Int)):=hat;rw [← hat] at KW c8 HSTEP HFIT;clear hat;have hat1:0≤at'∧at'≤100:=by have:=HAT.out;omega
  by_cases h0:zcd D at' s=0
  · rw [h0,zac rfl] at KW
    rw [if_pos h0] at HSTEP;clear h0
    gi_wp2_with fail
    refine ⟨trivial,?_⟩;refine (CallsIn.inRound l (callsIn_wide.2 KW.out)).mono ?_;rintro e W5 ⟨rfl,u5,hd5,hn5,hnew5⟩;obtain ⟨f1,f2,f3,f4,f5,f6,f7,f8⟩:=HFIT.out hn5;have HE:Hid (KeepsFrom w1.heap.size W W5∧zat (dOwn p) w W5∧Boxed W5 (w.heap.size+1) 38 .nilIface∧Boxed W5 w.heap.size 25 (.pointer (some ⟨p.B,0,none⟩))∧Boxed W5 (w.heap.size+1+1) 3 (.int .i64 at')∧W5.heap[g]?=some (.cells (bytesRow T C) 5 fr)∧Boxed W5 (g+1) 115 v1∧Boxed W5 (g+1+1) 3 v2):=⟨f1,f2,f3,f4,f5,f6,f7,f8⟩
    have HD5:Hid (zab W5 { p with wv:=u5 } (zaN D at' s)∧zbw p w u5):=⟨hd5,fun k hk=>by
     rcases hnew5 k hk with e | e
     · exact HNEW.out.1 k e
     · exact .inr (Nat.le_trans HNEW.out.2 e)⟩
    have c8':=f5.cell;have fr8:=f5.frozen;clear f1 f2 f3 f4 f5 f6 f7 f8 hd5 hn5 hnew5 KW
    gi_wp2_with fail
    obtain ⟨f1,f2,f3,f4,f5,f6,f7,f8⟩:=HE.out;refine ⟨f1.trans ((KeepsOthers.setCell _ _ _).from _),fun b hb=>?_,⟨⟨u5,zaN D at' s,zfc _ HD5.out.1 f5 (by decide),HD5.out.2,?_,?_⟩,zeb f2 (by omega) 0 _,zaz f3 (by omega),zaz f4 (by omega),?_,⟨fr,zaz f6 (by have:=HG.out;omega)⟩,⟨v1,zaz f7 (by have:=HG.out;omega)⟩,⟨v2,zaz f8 (by have:=HG.out;omega)⟩⟩⟩
    · rcases hb with rfl | rfl
      · exact (Below.heap_setCell _ _ _ _ (by have:=HG.out;simp;omega)).trans (f7.trans HB12.out.1.symm)
      · exact (Below.heap_setCell _ _ _ _ (by have:=HG.out;simp;omega)).trans (f8.trans HB12.out.2.symm)
    · have:=zhP D at' s
      have:=HFEW.out;simp;omega
    · rw [List.length_append,List.length_range]
      exact HSTEP.out
    · have e:((a0+(List.range x ++ [x]).length:Nat):Int)=at'+1:=by rw [HAT.out];simp;omega
      rw [e];exact f5.set _
  · have HEV:Hid _:=zak h0
    rw [HEV.out] at KW;rw [if_neg h0] at HSTEP;have HN0:Hid (¬ zcd D at' s=0):=h0;clear h0
    gi_wp2_with fail
    refine ⟨trivial,?_⟩;refine (CallsIn.inRound l (callsIn_wide.2 KW.out)).mono ?_;rintro e W5 ⟨rfl,u5,hd5,hn5,hnew5⟩;obtain ⟨f1,f2,f3,f4,f5,f6,f7,f8⟩:=HFIT.out hn5;have HE:Hid (KeepsFrom w1.heap.size W W5∧zat (dOwn p) w W5∧Boxed W5 (w.heap.size+1) 38 .nilIface∧Boxed W5 w.heap.size 25 (.pointer (some ⟨p.B,0,none⟩))∧Boxed W5 (w.heap.size+1+1) 3 (.int .i64 at')∧W5.heap[g]?=some (.cells (bytesRow T C) 5 fr)∧Boxed W5 (g+1) 115 v1∧Boxed W5 (g+1+1) 3 v2):=⟨f1,f2,f3,f4,f5,f6,f7,f8⟩
    have HD5:Hid (zab W5 { p with wv:=u5 } (zaN D at' s)∧zbw p w u5):=⟨hd5,fun k hk=>by
     rcases hnew5 k hk with e | e
     · exact HNEW.out.1 k e
     · exact .inr (Nat.le_trans HNEW.out.2 e)⟩
    have c3':=f3.cell;have fr3:=f3.frozen;clear f1 f2 f3 f4 f5 f6 f7 f8 hd5 hn5 hnew5 KW
    gi_wp2_with fail
    obtain ⟨f1,f2,f3,f4,f5,f6,f7,f8⟩:=HE.out;exact ⟨f1.trans ((KeepsOthers.setCell _ _ _).from _),⟨rfl,⟨u5,zaN D at' s,zcd D at' s,zfc _ HD5.out.1 f3 (by decide),HD5.out.2,HSTEP.out,HN0.out,by rw [HEV.out];exact f3.set _⟩,zeb f2 (by omega) 0 _,⟨v1,zaz f7 (by have:=HG.out;omega)⟩,⟨v2,zaz f8 (by have:=HG.out;omega)⟩⟩⟩
 case done =>
  rintro B xs W hB rfl hm hK;obtain ⟨⟨u,D,h1,h2,h3,h4⟩,h5,h6,h7,-,-,-,-⟩:=hm;rw [List.length_range] at h3 h4;rw [List.drop_eq_nil_of_le (by rw [zcE];omega)] at h4;have HW:Hid (zap d (2+i * 12) (za4 T k)=(D,0)):=by rw [← HA0.out];exact h4
  have HR:Hid (zbv w p u D B W):=⟨h1,h2,h5,⟨_,h6⟩,h7,hK,by have:=HSZ.out;omega⟩;have hfew:D.wr.length<120:=by omega
  have KF:Hid _:=zso HR.out;have c7:=h7.cell;clear h1 h2 h3 h4 h5 h6 h7 hK HM HBS;simp only [Exit.inBlock,Exit.then]
  go_wp2_with fail
  refine Calls.mono KF.out ?_;rintro e W2 ⟨rfl,u2,hr2⟩;have HR2:Hid (zbv w p u2 (zaO D) B W2):=hr2;obtain ⟨v2,hv2⟩:=hr2.res;have c6:=hv2.cell;have f6:=hv2.frozen;have c7b:=hr2.box.cell;clear hr2 hv2 KF HR c7
  by_cases h0:zb1 D=0
  · rw [zac h0]
    have HL:Hid _:=zrJ (i:=i) HW.out h0
    have hwr2:(zaO D).wr.length<120:=by
     have:(zaO D).wr=[]:=by unfold zaO;rw [if_pos h0]
     rw [this];decide
    have KH:Hid (∀ W,Calls Tryz.prog 124 #[.int .i64 i,.string T] W fun e w'=>e=.returned (.string (baL (zbP i T)))∧Below W.heap.size W w'):=fun W=>zfh i T W hi (by omega)
    have hhz:(baL (zbP i T)).size=20:=by rw [za3,zcL]
    obtain ⟨H,hH⟩:∃ H,H=baL (zbP i T):=⟨_,rfl⟩
    rw [← hH] at KH HL hhz;obtain ⟨D1,hD1⟩:∃ D1,D1=layD (zaO D) i [H]:=⟨_,rfl⟩
    have KS:Hid (∀ W' u',zbv w p u' (zaO D) B W'→Calls Tryz.prog 123 #[.pointer (some ⟨p.B,0,none⟩),.int .i64 i,.string H] W' fun e w'=>e=.returned (errV D1.2)∧∃ u',zbv w p u' D1.1 B w'):=fun W' u' hr=>by rw [hD1];exact zk7 hr i H (by omega) hwr2
    have HL1:Hid (D1.2=0→D1.1.wr=[]):=fun h=>by rw [hD1] at h ⊢;exact ziM _ _ _ h
    rw [← hD1] at HL;clear hH hD1 h0
    by_cases h1:D1.2=0
    · rw [if_pos h1] at HL
      rw [h1,zac rfl] at KS;have hwr1:D1.1.wr.length<120:=by rw [HL1.out h1];decide
      obtain ⟨D2,hD2⟩:∃ D2,D2=layD D1.1 (1 - i) [⟨#[]⟩]:=⟨_,rfl⟩
      have KO:Hid (∀ W,Calls Tryz.prog 122 #[.int .i64 i] W fun e w'=>e=.returned (.int .i64 ((1 - i:Nat):Int))∧w'=W):=fun W=>zde i W hi
      have KS2:Hid (∀ W' u',zbv w p u' D1.1 B W'→Calls Tryz.prog 123 #[.pointer (some ⟨p.B,0,none⟩),.int .i64 ((1 - i:Nat):Int),.string ⟨#[]⟩] W' fun e w'=>e=.returned (errV D2.2)∧∃ u',zbv w p u' D2.1 B w'):=fun W' u' hr=>by rw [hD2];exact zk7 hr (1 - i) ⟨#[]⟩ (by decide) hwr1
      rw [← hD2] at HL;obtain ⟨ev,hev⟩:∃ ev,ev=errV D2.2:=⟨_,rfl⟩
      rw [← hev] at KS2;have HEV:Hid (ev=errV D2.2):=hev
      have HEVC:Hid (ev=.nilIface∨∃ n,ev=.iface 90 (.int .i64 n)):=by
       rw [hev]
       by_cases h2:D2.2=0
       · exact .inl (zac h2)
       · exact .inr ⟨_,zak h2⟩
      clear hD2 h1 hev HL1;generalize ((1 - i:Nat):Int)=oi at *
      go_wp2_with fail
      refine zfu ?_
      go_region_law
       (first
         | (go_simp
            go_at_call 124
            refine Calls.mono (KH.out _) ?_;rintro e Wh ⟨rfl,hbh⟩;have HRH:Hid (zbv w p u2 (zaO D) B Wh):=HR2.out.below ((Below.refl _ W2).drew.trans hbh);have c7c:=HRH.out.box.cell;clear hbh)
         | (go_simp
            go_at_call 123
            refine Calls.mono (KS.out _ _ HRH.out) ?_;rintro e W4 ⟨rfl,u4,hr4⟩;have HR4:Hid (zbv w p u4 D1.1 B W4):=hr4;obtain ⟨v4,hv4⟩:=HR4.out.res;have c6d:=hv4.cell;have f6d:=hv4.frozen;have c7d:=HR4.out.box.cell;clear hr4 hv4))
      all_goals
       simp only [zdy]
       go_wp2_with fail
       have HR4d:Hid (zbv w p u4 D1.1 B W4.drew):=HR4.out.below (Below.refl _ W4).drew;clear c6 f6 c7b c7c c6d f6d;rcases HEVC.out with e | ⟨n6,e⟩
       · rw [e] at KS2 HEV
         clear e;refine zfu ?_
         go_region_law
          (first
            | (go_simp
               go_at_call 122
               refine Calls.mono (KO.out _) ?_;rintro e Wo ⟨rfl,hwo⟩;rw [hwo];clear hwo)
            | (go_simp
               go_at_call 123
               refine Calls.mono (KS2.out _ _ HR4d.out) ?_;rintro e W6 ⟨rfl,u6,hr6⟩;have HR6:Hid (zbv w p u6 D2.1 B W6):=hr6;obtain ⟨v6,hv6⟩:=HR6.out.res;have c6e:=hv6.cell;have f6e:=hv6.frozen;clear hr6 hv6))
         all_goals
          simp only [zdy]
          go_wp2_with fail
          obtain ⟨k1,k2,u3,k3,k4,k5⟩:=HR6.out.end (.nilIface);refine ⟨by simp,.inl ⟨_,_,rfl,run_takeDeferred k1,?_⟩⟩;refine ⟨.nilIface,by simp [results,Tryz.results150,go_sem,k2],?_,u3,?_,k4,k5⟩
          · rw [HL.out,HEV.out]
          · rw [HL.out];exact k3
       · rw [e] at KS2 HEV
         clear e;refine zfu ?_
         go_region_law
          (first
            | (go_simp
               go_at_call 122
               refine Calls.mono (KO.out _) ?_;rintro e Wo ⟨rfl,hwo⟩;rw [hwo];clear hwo)
            | (go_simp
               go_at_call 123
               refine Calls.mono (KS2.out _ _ HR4d.out) ?_;rintro e W6 ⟨rfl,u6,hr6⟩;have HR6:Hid (zbv w p u6 D2.1 B W6):=hr6;obtain ⟨v6,hv6⟩:=HR6.out.res;have c6e:=hv6.cell;have f6e:=hv6.frozen;clear hr6 hv6))
         all_goals
          simp only [zdy]
          go_wp2_with fail
          obtain ⟨k1,k2,u3,k3,k4,k5⟩:=HR6.out.end (.iface 90 (.int .i64 n6));refine ⟨by simp,.inl ⟨_,_,rfl,run_takeDeferred k1,?_⟩⟩;refine ⟨.iface 90 (.int .i64 n6),by simp [results,Tryz.results150,go_sem,k2],?_,u3,?_,k4,k5⟩
          · rw [HL.out,HEV.out]
          · rw [HL.out];exact k3
    · rw [if_neg h1] at HL
      have HEV:Hid _:=zak h1;rw [HEV.out] at KS;clear h1 HL1
      go_wp2_with fail
      refine zfu ?_
      go_region_law
       (first
         | (go_simp
            go_at_call 124
            refine Calls.mono (KH.out _) ?_;rintro e Wh ⟨rfl,hbh⟩;have HRH:Hid (zbv w p u2 (zaO D) B Wh):=HR2.out.below ((Below.refl _ W2).drew.trans hbh);have c7c:=HRH.out.box.cell;clear hbh)
         | (go_simp
            go_at_call 123
            refine Calls.mono (KS.out _ _ HRH.out) ?_;rintro e W4 ⟨rfl,u4,hr4⟩;have HR4:Hid (zbv w p u4 D1.1 B W4):=hr4;obtain ⟨v4,hv4⟩:=HR4.out.res;have c6d:=hv4.cell;have f6d:=hv4.frozen;have c7d:=HR4.out.box.cell;clear hr4 hv4))
      all_goals
       simp only [zdy]
       go_wp2_with fail
       obtain ⟨k1,k2,u3,k3,k4,k5⟩:=HR4.out.end (.iface 90 (.int .i64 D1.2));refine ⟨by simp,.inl ⟨_,_,rfl,run_takeDeferred k1,?_⟩⟩;refine ⟨.iface 90 (.int .i64 D1.2),by simp [results,Tryz.results150,go_sem,k2],?_,u3,?_,k4,k5⟩
       · rw [HL.out,HEV.out]
       · rw [HL.out];exact k3
  · have HL:Hid (layT d i T k=(zaO D,zb1 D)):=zqx HW.out h0
    have HEV:Hid _:=zak h0;rw [HEV.out]
    go_wp2_with fail
    obtain ⟨k1,k2,u3,k3,k4,k5⟩:=HR2.out.end (.iface 90 (.int .i64 (zb1 D)));refine ⟨by simp,.inl ⟨_,_,rfl,run_takeDeferred k1,?_⟩⟩;refine ⟨.iface 90 (.int .i64 (zb1 D)),by simp [results,Tryz.results150,go_sem,k2],?_,u3,?_,k4,k5⟩
    · rw [HL.out,HEV.out]
    · rw [HL.out];exact k3
 case stop =>
  rintro B c pre W hB hpre ⟨rfl,⟨u,D,e,h1,h2,h3,h4,h6⟩,h5,-,-⟩ hK;obtain ⟨k2,u3,k3,k4,k5⟩:=zqS h1 h2 h5 h6 hK (by have:=HSZ.out;omega);have HL:Hid (layT d i T k=(D,e)):=zrQ (by rw [← HA0.out];exact h3) h4
  gi_wp2
  refine ⟨by simp,.inl ⟨_,_,rfl,run_takeDeferred hK,?_⟩⟩;refine ⟨errV e,by simp [results,Tryz.results150,go_sem,k2],?_,u3,?_,k4,k5⟩
  · rw [HL.out]
  · rw [HL.out];exact k3
end Go.Proofs.YtihnghnafpgdfadGreatDoor
