/- What the proofs stand on, part 36: TrioDone1, TrioQuilt, TrioWhat, TrioDone. -/
import Derived.Defers
import Derived.Recover
import Derived.Laws.Pointers
import Derived.Test.YtihnghnafpgdfadGreatDoorRk32
import Derived.Test.YtihnghnafpgdfadGreatDoorRk35
set_option linter.unusedVariables false
set_option linter.unusedSimpArgs false
namespace Go.Proofs.YtihnghnafpgdfadGreatDoor
open Go Go.RowKit Go.BigFrame
theorem done1_idle (p q:Addr)(w:World) :
    CallsD Tryz.prog 104 #[.pointer (some p),.pointer (some q)] .returning w fun e u' w'=>e=.returned (.tuple #[])∧u'=.returning∧w'=w:=by
  refine callsD_of_wpS Tryz.func104 rfl fun c₀ cs hu=>?_
  apply wpS_seq
  apply wpS_region
  simp [wpOpsS,go_sem,recoverD,hu,Tryz.ntmps104,Exit.thenS]
  refine wpS_cond (t:=false) (by simp [Act.eval,Array.replicate]) ?_
  simp only [Bool.false_eq_true,if_false]
  refine wpS_of_wp (wp_skip ?_)
  cases c₀
  simp_all [bodyPostS,results,Tryz.results104]
set_option maxRecDepth 100000 in
set_option maxHeartbeats 1000000 in
theorem trioQuilt_any (P:Nat→Dp)(tb:Nat)(so:Nat→Option Nat)(a:Option Addr)(cap:Nat)(l:List Fi)(t:Int)(w:World)(ht:TrioAt w tb P so a cap l t)(hl:l.length≤100) :
    Calls Tryz.prog 9 #[.pointer (some ⟨tb,0,none⟩)] w fun e w'=>∃ a' cap',e=.returned (.agg #[.slice a' l.length cap',.int .i64 t])∧Owns w' w.heap.size (.slice a' l.length cap') l∧Below w.heap.size w w':=by
  have HT:Hid (TrioAt w tb P so a cap l t):=ht
  obtain ⟨d0,d1,d2,s0,s1,s2,q0,q1,fr⟩:=ht.cells
  have htl:=ht.lt
  obtain ⟨W,hW⟩:∃ x,x=w.alloc (.cells #[.slice none 0 0,.int .i64 0] 32):=⟨_,rfl⟩
  have HB0:Hid (Below w.heap.size w W):=by rw [hW];exact (Below.refl _ _).alloc (Nat.le_refl _) _
  have HQ:Hid (QBox W w.heap.size (.slice none 0 0) 0):=by rw [hW];exact QBox.new w _ _ _
  have KC:Hid _:=quiltClone_any ⟨true,a,cap,l,t⟩ W ⟨(ht.files.below HB0.out).slice,hl⟩
  clear ht fr
  go_enter Tryz.func9,Tryz.ntmps9
  go_wp2_with fail
  rw [← hW]
  clear hW
  refine Calls.mono KC.out ?_
  rintro e w1 ⟨a',cap',rfl,ho,hb⟩
  have HB1:Hid (Below W.heap.size W w1):=hb
  have HO1:Hid (Owns w1 W.heap.size (.slice a' l.length cap') l):=ho
  obtain ⟨y0,y1,g0,g1,yl,_⟩:=HQ.out.below hb HQ.out.lt
  have HL:Hid (w.heap.size<W.heap.size):=HQ.out.lt
  clear ho hb KC
  go_wp2
  try simp only [Exit.inBlock,Exit.then]
  refine bodyPost_ret (v:=.agg #[.slice a' l.length cap',.int .i64 t]) (by simp [results,Tryz.results9,go_sem,y0,y1,g0,g1,yl]) rfl ⟨a',cap',rfl,(Owns.over2 HO1.out HL.out _ _).base HB0.out.size,?_⟩
  exact ((HB0.out.trans (HB1.out.mono HB0.out.size)).setCell (Nat.le_refl _) _).setCell (Nat.le_refl _) _
structure AcBox (w:World)(b:Nat)(x:Ac):Prop where
  c0:w.cell? ⟨b,0,none⟩=some (.string x.kind)
  c1:w.cell? ⟨b,1,none⟩=some (.string x.s)
  c2:w.cell? ⟨b,2,none⟩=some (.string x.t)
  c3:w.cell? ⟨b,3,none⟩=some (.int .i64 x.n)
  c4:w.cell? ⟨b,4,none⟩=some (.int .u64 x.k)
  c5:w.cell? ⟨b,5,none⟩=some (.slice x.ca x.cl.length x.cc)
theorem AcBox.lt {w:World}{b:Nat}{x:Ac}(h:AcBox w b x):b<w.heap.size:=World.block_lt_of_cell? _ _ h.c0
theorem AcBox.below {w w':World}{b:Nat}{x:Ac}(h:AcBox w b x)(hb:Below w.heap.size w w'):AcBox w' b x :=
  ⟨by rw [hb.cell h.lt];exact h.c0,by rw [hb.cell h.lt];exact h.c1,by rw [hb.cell h.lt];exact h.c2,by rw [hb.cell h.lt];exact h.c3,by rw [hb.cell h.lt];exact h.c4,by rw [hb.cell h.lt];exact h.c5⟩
set_option maxRecDepth 100000 in
set_option maxHeartbeats 1000000 in
theorem what_any (cp:Nat)(a:Option Addr)(cap:Nat)(l:List Fi)(t:Int)(x:Ac)(w:World)(hq:GoodQ l t)(hs:Slice w a cap l)(hn:x.s.size≤maxLen)(hx:x.t.size≤maxLen)(hb:AcBox w cp x) :
    Calls Tryz.prog 49 #[.agg #[.slice a l.length cap,.int .i64 t],.pointer (some ⟨cp,0,none⟩)] w (Answers w (doR l t x)):=by
  obtain ⟨W,hW⟩:∃ y,y=(w.alloc (.cells #[.slice a l.length cap,.int .i64 t] 32)).alloc (.cells #[.slice none 0 0,.int .i64 0] 32):=⟨_,rfl⟩
  have hbW:Below w.heap.size w W:=by rw [hW];exact ((Below.refl _ _).alloc (Nat.le_refl _) _).alloc (by simp) _
  have HBW:Hid (Below w.heap.size w W):=hbW
  have KD:Hid _:=do_any a cap l t x W hq (hs.below hbW) hn hx
  have hq1:QBox W (w.heap.size+1) (.slice none 0 0) 0:=by
    have:=QBox.new (w.alloc (.cells #[.slice a l.length cap,.int .i64 t] 32)) (.slice none 0 0) 0 32
    rw [World.size_alloc] at this
    rw [hW];exact this
  have HQ1:Hid (QBox W (w.heap.size+1) (.slice none 0 0) 0):=hq1
  have hcl:=hb.lt
  obtain ⟨c0,c1,c2,c3,c4,c5⟩:=hb
  clear hbW hs hq1 hq
  go_enter Tryz.func49,Tryz.ntmps49
  go_wp2_with fail
  rw [← hW]
  clear hW c0 c1 c2 c3 c4 c5
  refine Calls.mono KD.out ?_
  rintro e w1 ⟨a1,cap1,rfl,hs1,hb1⟩
  have HS1:Hid (Slice w1 a1 cap1 (doR l t x).l):=hs1
  have HB1:Hid (Below W.heap.size W w1):=hb1
  have hq2:=HQ1.out.below hb1 HQ1.out.lt
  have HYO:Hid (∀ o,2≤o→w1.cell? ⟨w.heap.size+1,o,none⟩=none):=hq2.only
  obtain ⟨y0,y1,g0,g1,yl,_⟩:=hq2
  clear hs1 hb1 KD
  go_wp2
  refine bodyPost_ret (v:=.tuple #[.agg #[.slice a1 (doR l t x).l.length cap1,.int .i64 (doR l t x).t],errV (doR l t x).n]) (by simp [results,Tryz.results49,go_sem,y0,y1,yl]) rfl ⟨a1,cap1,rfl,?_,?_⟩
  · exact HS1.out.store2 HYO.out _ _
  · exact ((HBW.out.trans (HB1.out.mono HBW.out.size)).setCell (by show w.heap.size≤w.heap.size+1;omega) _).setCell (by show w.heap.size≤w.heap.size+1;omega) _
theorem QBox.put2 {W:World}{B:Nat}{v v':Value}{t t':Int}(h:QBox W B v t):QBox ((W.setCell ⟨B,0,none⟩ v').setCell ⟨B,1,none⟩ (.int .i64 t')) B v' t':=h.files.turn
structure EBox (W:World)(B:Nat)(v:Value):Prop where
  blk:W.heap[B]?=some (.cells #[v] 38 (0,0))
theorem EBox.c0 {W:World}{B:Nat}{v:Value}(h:EBox W B v):W.cell? ⟨B,0,none⟩=some v:=by rw [cell_block h.blk];rfl
theorem EBox.only {W:World}{B:Nat}{v:Value}(h:EBox W B v):∀ o,2≤o→W.cell? ⟨B,o,none⟩=none:=fun o ho=>by rw [cell_block h.blk];simp;omega
theorem EBox.f0 {W:World}{B:Nat}{v:Value}(h:EBox W B v):W.frozen? ⟨B,0,none⟩=false:=by have:=h.blk;simp [World.frozen?,this]
theorem EBox.lt {W:World}{B:Nat}{v:Value}(h:EBox W B v):B<W.heap.size:=(Array.getElem?_eq_some_iff.1 h.blk).1
theorem EBox.put {W:World}{B:Nat}{v u:Value}(h:EBox W B v):EBox (W.setCell ⟨B,0,none⟩ u) B u:=⟨heap_set h.blk 0 u⟩
theorem EBox.apart {W:World}{B C j:Nat}{v u:Value}(h:EBox W B v)(hne:B≠C):EBox (W.setCell ⟨C,j,none⟩ u) B v:=⟨(Below.heap_setCell _ _ _ _ hne).trans h.blk⟩
theorem EBox.below {W W':World}{B:Nat}{v:Value}(h:EBox W B v)(hb:Below W.heap.size W W'):EBox W' B v:=⟨(hb.block _ h.lt).trans h.blk⟩
theorem Slice.store1 {W:World}{B j:Nat}{a:Option Addr}{cap:Nat}{l:List Fi}(h:Slice W a cap l)(q:∀ o,2≤o→W.cell? ⟨B,o,none⟩=none)(u:Value):Slice (W.setCell ⟨B,j,none⟩ u) a cap l:=⟨h.cells.store q,h.room,h.most,h.nil⟩
set_option maxRecDepth 100000 in
set_option maxHeartbeats 1000000 in
theorem done_any (cp:Nat) (a:Option Addr) (cap:Nat) (l:List Fi) (t:Int) (x:Ac) (w:World) (hq:GoodQ l t) (hs:Slice w a cap l) (hn:x.s.size≤maxLen) (hx:x.t.size≤maxLen) (hb:AcBox w cp x) :
    Calls Tryz.prog 73 #[.agg #[.slice a l.length cap,.int .i64 t],.func (.func 49) #[] #[.pointer (some ⟨cp,0,none⟩)]] w fun e w'=>∃ a2 cap2,e=.returned (.tuple #[.agg #[.slice a2 (doR l t x).l.length cap2,.int .i64 (doR l t x).t],errV (doR l t x).n])∧FilesIn w' a2 cap2 (doR l t x).l∧Below w.heap.size w w':=by
  have hmf:∀ (fn:Fn) (first cap:Array Value) (w:World),(Instr.makeFunc fn first cap).run Tryz.prog w=.ok (.func fn first cap) w:=fun _ _ _ _=>rfl
  obtain ⟨W,hW⟩:∃ y,y=((w.alloc (.cells #[.slice a l.length cap,.int .i64 t] 32)).alloc (.cells #[.slice none 0 0,.int .i64 0] 32)).alloc (.cells #[.nilIface] 38):=⟨_,rfl⟩
  have hbW:Below w.heap.size w W:=by rw [hW];exact (((Below.refl _ _).alloc (Nat.le_refl _) _).alloc (by simp) _).alloc (by simp;omega) _
  have HBW:Hid (Below w.heap.size w W):=hbW
  have KD:Hid _:=what_any cp a cap l t x W hq (hs.below hbW) hn hx (hb.below hbW)
  have HQ0:Hid (QBox W w.heap.size (.slice a l.length cap) t):=by
    have h1:=(QBox.new w (.slice a l.length cap) t 32).alloc (.cells #[.slice none 0 0,.int .i64 0] 32)
    rw [hW];exact h1.alloc _
  have HQ1:Hid (QBox W (w.heap.size+1) (.slice none 0 0) 0):=by
    have h1:=QBox.new (w.alloc (.cells #[.slice a l.length cap,.int .i64 t] 32)) (.slice none 0 0) 0 32
    rw [World.size_alloc] at h1
    rw [hW];exact h1.alloc _
  have HE:Hid (EBox W (w.heap.size+1+1) .nilIface):=by
    have h1:=World.alloc_heap_new ((w.alloc (.cells #[.slice a l.length cap,.int .i64 t] 32)).alloc (.cells #[.slice none 0 0,.int .i64 0] 32)) (.cells #[.nilIface] 38)
    rw [World.size_alloc,World.size_alloc] at h1
    rw [hW];exact ⟨h1⟩
  have HT1:Hid (∃ C fr,W.heap[w.heap.size+1]?=some (.cells C 32 fr)):=by
    have h1:=World.alloc_heap_new (w.alloc (.cells #[.slice a l.length cap,.int .i64 t] 32)) (.cells #[.slice none 0 0,.int .i64 0] 32)
    rw [World.size_alloc] at h1
    refine ⟨#[.slice none 0 0,.int .i64 0],(0,0),?_⟩
    rw [hW,Below.heap_alloc _ _ _ (by simp)]
    exact h1
  have HGD:Hid (((doR l t x).n=0∧GoodQ (doR l t x).l (doR l t x).t)∨(0<(doR l t x).n∧(doR l t x).n≤100∧(doR l t x).l=[]∧(doR l t x).t=0)):=do_good hq x
  have hlW:=HE.out.lt
  clear hs hb hq hbW
  go_enter_defers Tryz.func73,Tryz.ntmps73
  go_wp2_with fail
  rw [← hW]
  clear hW
  refine Calls.mono KD.out ?_
  rintro e w1 ⟨a1,cap1,rfl,hs1,hb1⟩
  generalize hr:doR l t x=r at *
  have HRR:Hid (doR l t x=r):=hr
  clear hr
  have HS1:Hid (Slice w1 a1 cap1 r.l):=hs1
  have hQ0:QBox w1 w.heap.size (.slice a l.length cap) t:=HQ0.out.below hb1 HQ0.out.lt
  have hQ1:QBox w1 (w.heap.size+1) (.slice none 0 0) 0:=HQ1.out.below hb1 HQ1.out.lt
  have hE1:EBox w1 (w.heap.size+1+1) .nilIface:=HE.out.below hb1
  have HW1:Hid (Below w.heap.size w w1):=HBW.out.trans (hb1.mono HBW.out.size)
  have hl1:=hE1.lt
  have HT2:Hid (∃ C fr,w1.heap[w.heap.size+1]?=some (.cells C 32 fr)):=by
    obtain ⟨C,fr,e⟩:=HT1.out
    exact ⟨C,fr,(hb1.block _ (Array.getElem?_eq_some_iff.1 e).1).trans e⟩
  clear hb1 hs1 KD
  rcases HGD.out with ⟨hn0,hgq⟩ | ⟨hn1,hn2,hl0,ht0⟩
  · have HN:Hid (r.n=0):=hn0
    have HGQ:Hid (GoodQ r.l r.t):=hgq
    rw [errV_zero hn0]
    clear hgq hn0
    obtain ⟨W2,hW2⟩:∃ y,y=((w1.setCell ⟨w.heap.size,0,none⟩ (.slice a1 r.l.length cap1)).setCell ⟨w.heap.size,1,none⟩ (.int .i64 r.t)).setCell ⟨w.heap.size+1+1,0,none⟩ (.nilIface):=⟨_,rfl⟩
    have HQ0':Hid (QBox W2 w.heap.size (.slice a1 r.l.length cap1) r.t):=by
      rw [hW2];exact hQ0.put2.apart (by omega)
    have HQ1':Hid (QBox W2 (w.heap.size+1) (.slice none 0 0) 0):=by
      rw [hW2];exact ((hQ1.apart (by omega)).apart (by omega)).apart (by omega)
    have HE2:Hid (EBox W2 (w.heap.size+1+1) (.nilIface)):=by
      rw [hW2];exact ((hE1.apart (by omega)).apart (by omega)).put
    have HB2:Hid (Below w.heap.size w W2):=by
      rw [hW2];exact ((HW1.out.setCell (Nat.le_refl _) _).setCell (Nat.le_refl _) _).setCell (by show w.heap.size≤w.heap.size+1+1;omega) _
    have HS2:Hid (Slice W2 a1 cap1 r.l):=by
      rw [hW2];exact (HS1.out.store2 hQ0.only _ _).store1 ((hE1.apart (by omega)).apart (by omega)).only _
    have HT2w:Hid (∃ C fr,W2.heap[w.heap.size+1]?=some (.cells C 32 fr)):=by
      obtain ⟨C,fr,e⟩:=HT2.out
      refine ⟨C,fr,?_⟩
      rw [hW2]
      exact (((Below.heap_setCell _ _ _ _ (by show ¬ _=w.heap.size+1+1;omega)).trans (Below.heap_setCell _ _ _ _ (by show ¬ _=w.heap.size;omega))).trans (Below.heap_setCell _ _ _ _ (by show ¬ _=w.heap.size;omega))).trans e
    obtain ⟨z0,z1,zf0,zf1,zl,-⟩:=hQ0
    have e0:=hE1.c0
    have ef:=hE1.f0
    clear hQ1 hE1
    go_upto_region 3 with fail
    rw [← hW2]
    clear hW2 z0 z1 zf0 zf1 zl e0 ef
    obtain ⟨z0,z1,zf0,zf1,zl,-⟩:=HQ0'.out
    obtain ⟨y0,y1,yf0,yf1,yl,-⟩:=HQ1'.out
    have e0:=HE2.out.c0
    have ef:=HE2.out.f0
    have el:=HE2.out.lt
    have HT3:Hid (∃ C fr,W2.heap[w.heap.size+1]?=some (.cells C 32 fr)):=HT2w
    have KC:Hid _:=quiltCheck_any a1 cap1 r.l r.t W2 (by have:=HGQ.out.files.few;unfold maxLen;omega) (good_sized HGQ.out.files) HS2.out.cells
    rw [quiltF_of HGQ.out,errV_zero rfl] at KC
    go_wp2_with fail
    refine Calls.mono KC.out ?_
    rintro e w3 ⟨rfl,hb3⟩
    have HS3:Hid (Slice w3 a1 cap1 r.l):=HS2.out.below hb3
    have KL:Hid _:=quiltClone_any ⟨true,a1,cap1,r.l,r.t⟩ w3 ⟨HS3.out,by have:=HGQ.out.files.few;show r.l.length≤100;omega⟩
    have HQ03:Hid (QBox w3 w.heap.size (.slice a1 r.l.length cap1) r.t):=HQ0'.out.below hb3 HQ0'.out.lt
    have HQ13:Hid (QBox w3 (w.heap.size+1) (.slice none 0 0) 0):=HQ1'.out.below hb3 HQ1'.out.lt
    have HE3:Hid (EBox w3 (w.heap.size+1+1) .nilIface):=HE2.out.below hb3
    have HT4:Hid (∃ C fr,w3.heap[w.heap.size+1]?=some (.cells C 32 fr)):=by
      obtain ⟨C,fr,e⟩:=HT3.out
      exact ⟨C,fr,(hb3.block _ (Array.getElem?_eq_some_iff.1 e).1).trans e⟩
    have HB3:Hid (Below w.heap.size w w3):=HB2.out.trans (hb3.mono HB2.out.size)
    clear hb3 KC z0 z1 zf0 zf1 zl y0 y1 yf0 yf1 yl e0 ef el
    obtain ⟨z0,z1,zf0,zf1,zl,-⟩:=HQ03.out
    go_wp2_with fail
    refine Calls.mono KL.out ?_
    rintro e w4 ⟨a4,cap4,rfl,ho4,hb4⟩
    have HQ14:Hid (QBox w4 (w.heap.size+1) (.slice none 0 0) 0):=HQ13.out.below hb4 HQ13.out.lt
    have HE4:Hid (EBox w4 (w.heap.size+1+1) .nilIface):=HE3.out.below hb4
    have HT5:Hid (∃ C fr,w4.heap[w.heap.size+1]?=some (.cells C 32 fr)):=by
      obtain ⟨C,fr,e⟩:=HT4.out
      exact ⟨C,fr,(hb4.block _ (Array.getElem?_eq_some_iff.1 e).1).trans e⟩
    have HB4:Hid (Below w.heap.size w w4):=HB3.out.trans (hb4.mono HB3.out.size)
    have HF4:Hid (FilesIn w4 a4 cap4 r.l):=FilesIn.of_owns ho4
    clear hb4 ho4 KL z0 z1 zf0 zf1 zl
    obtain ⟨W5,hW5⟩:∃ y,y=((w4.setCell ⟨w.heap.size+1,0,none⟩ (.slice a4 r.l.length cap4)).setCell ⟨w.heap.size+1,1,none⟩ (.int .i64 r.t)).setCell ⟨w.heap.size+1+1,0,none⟩ .nilIface:=⟨_,rfl⟩
    have HQ15:Hid (QBox W5 (w.heap.size+1) (.slice a4 r.l.length cap4) r.t):=by
      rw [hW5];exact HQ14.out.put2.apart (by omega)
    have HE5:Hid (EBox W5 (w.heap.size+1+1) .nilIface):=by
      rw [hW5];exact ((HE4.out.apart (by omega)).apart (by omega)).put
    have HB5:Hid (Below w.heap.size w W5):=by
      rw [hW5];exact ((HB4.out.setCell (by show w.heap.size≤w.heap.size+1;omega) _).setCell (by show w.heap.size≤w.heap.size+1;omega) _).setCell (by show w.heap.size≤w.heap.size+1+1;omega) _
    have HF5:Hid (FilesIn W5 a4 cap4 r.l):=by
      rw [hW5]
      refine HF4.out.keep (fun j C fr e=>?_)
      have n1:j≠w.heap.size+1:=fun ej=>by
        obtain ⟨C',fr',e'⟩:=HT5.out
        rw [ej,e'] at e
        simp at e
      have n2:j≠w.heap.size+1+1:=fun ej=>by
        rw [ej,HE4.out.blk] at e
        simp at e
      exact ((Below.heap_setCell _ _ _ _ n2).trans (Below.heap_setCell _ _ _ _ n1)).trans (Below.heap_setCell _ _ _ _ n1)
    obtain ⟨y0,y1,yf0,yf1,yl,-⟩:=HQ14.out
    have e0:=HE4.out.c0
    have ef:=HE4.out.f0
    have el:=HE4.out.lt
    go_wp2
    rw [← hW5]
    clear hW5 y0 y1 yf0 yf1 yl e0 ef el
    obtain ⟨y0,y1,yf0,yf1,yl,-⟩:=HQ15.out
    have e0:=HE5.out.c0
    refine leaves_cons (f:=104) (args:=#[.pointer (some ⟨w.heap.size+1,0,none⟩),.pointer (some ⟨w.heap.size+1+1,0,none⟩)]) (by simp) (by simp [go_sem]) ?_
    refine (done1_idle _ _ _).mono ?_
    rintro e u' w'' ⟨rfl,rfl,rfl⟩
    simp [Leaves,settle,results,Tryz.results73,go_sem,y0,y1,e0]
    rw [HRR.out,errV_zero HN.out]
    exact ⟨a4,cap4,⟨⟨⟨rfl,rfl,rfl⟩,rfl⟩,rfl⟩,HF5.out,HB5.out⟩
  · have HN:Hid (¬ r.n=0∧r.l=[]∧r.t=0):=⟨by omega,hl0,ht0⟩
    rw [errV_pos (show ¬ r.n=0 by omega)]
    clear hl0 ht0
    obtain ⟨W2,hW2⟩:∃ y,y=((w1.setCell ⟨w.heap.size,0,none⟩ (.slice a1 r.l.length cap1)).setCell ⟨w.heap.size,1,none⟩ (.int .i64 r.t)).setCell ⟨w.heap.size+1+1,0,none⟩ (.iface 90 (.int .i64 r.n)):=⟨_,rfl⟩
    have HQ0':Hid (QBox W2 w.heap.size (.slice a1 r.l.length cap1) r.t):=by
      rw [hW2];exact hQ0.put2.apart (by omega)
    have HQ1':Hid (QBox W2 (w.heap.size+1) (.slice none 0 0) 0):=by
      rw [hW2];exact ((hQ1.apart (by omega)).apart (by omega)).apart (by omega)
    have HE2:Hid (EBox W2 (w.heap.size+1+1) (.iface 90 (.int .i64 r.n))):=by
      rw [hW2];exact ((hE1.apart (by omega)).apart (by omega)).put
    have HB2:Hid (Below w.heap.size w W2):=by
      rw [hW2];exact ((HW1.out.setCell (Nat.le_refl _) _).setCell (Nat.le_refl _) _).setCell (by show w.heap.size≤w.heap.size+1+1;omega) _
    have HS2:Hid (Slice W2 a1 cap1 r.l):=by
      rw [hW2];exact (HS1.out.store2 hQ0.only _ _).store1 ((hE1.apart (by omega)).apart (by omega)).only _
    obtain ⟨z0,z1,zf0,zf1,zl,-⟩:=hQ0
    have e0:=hE1.c0
    have ef:=hE1.f0
    clear hQ1 hE1
    go_upto_region 3 with fail
    rw [← hW2]
    clear hW2 z0 z1 zf0 zf1 zl e0 ef
    obtain ⟨z0,z1,zf0,zf1,zl,-⟩:=HQ0'.out
    obtain ⟨y0,y1,yf0,yf1,yl,-⟩:=HQ1'.out
    have e0:=HE2.out.c0
    have ef:=HE2.out.f0
    have el:=HE2.out.lt
    have mixed:Tryz.prog.follows Departure.mixedOrders=true:=by kernel_rfl
    go_wp2_with fail
    go_big_region_o
    obtain ⟨W5,hW5⟩:∃ y,y=(((W2.setCell ⟨w.heap.size+1,0,none⟩ (.slice none 0 0)).setCell ⟨w.heap.size+1,1,none⟩ (.int .i64 0)).setCell ⟨w.heap.size+1+1,0,none⟩ (.iface 90 (.int .i64 r.n))).drew:=⟨_,rfl⟩
    have HQ15:Hid (QBox W5 (w.heap.size+1) (.slice none 0 0) 0):=by
      have h:=(HQ1'.out.put2 (v':=.slice none 0 0) (t':=0)).apart (C:=w.heap.size+1+1) (j:=0) (u:=.iface 90 (.int .i64 r.n)) (by omega)
      rw [hW5];exact ⟨h.c0,h.c1,h.f0,h.f1,h.lt,h.only⟩
    have HE5:Hid (EBox W5 (w.heap.size+1+1) (.iface 90 (.int .i64 r.n))):=by
      have h:=((HE2.out.apart (C:=w.heap.size+1) (j:=0) (u:=.slice none 0 0) (by omega)).apart (C:=w.heap.size+1) (j:=1) (u:=.int .i64 0) (by omega)).put (u:=.iface 90 (.int .i64 r.n))
      rw [hW5];exact ⟨h.blk⟩
    have HB5:Hid (Below w.heap.size w W5):=by
      rw [hW5];exact (((HB2.out.setCell (by show w.heap.size≤w.heap.size+1;omega) _).setCell (by show w.heap.size≤w.heap.size+1;omega) _).setCell (by show w.heap.size≤w.heap.size+1+1;omega) _).drew
    rw [← hW5]
    clear hW5 z0 z1 zf0 zf1 zl y0 y1 yf0 yf1 yl e0 ef el
    obtain ⟨y0,y1,yf0,yf1,yl,-⟩:=HQ15.out
    have e0:=HE5.out.c0
    go_wp2
    refine leaves_cons (f:=104) (args:=#[.pointer (some ⟨w.heap.size+1,0,none⟩),.pointer (some ⟨w.heap.size+1+1,0,none⟩)]) (by simp) (by simp [go_sem]) ?_
    refine (done1_idle _ _ _).mono ?_
    rintro e u' w'' ⟨rfl,rfl,rfl⟩
    simp [Leaves,settle,results,Tryz.results73,go_sem,y0,y1,e0]
    rw [HRR.out,errV_pos HN.out.1,HN.out.2.1,HN.out.2.2]
    exact ⟨none,0,⟨⟨⟨rfl,rfl,rfl⟩,rfl⟩,rfl⟩,FilesIn.nil _,HB5.out⟩
end Go.Proofs.YtihnghnafpgdfadGreatDoor
