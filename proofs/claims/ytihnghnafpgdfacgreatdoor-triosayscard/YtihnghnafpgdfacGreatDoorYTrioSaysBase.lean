/-
  WHAT TrioSays STANDS ON: trios; what a session over three disks keeps.
-/
import Derived.Test.YtihnghnafpgdfacGreatDoorYTrioActs
import Derived.Test.YtihnghnafpgdfacGreatDoorYTopWholeBase
import Derived.Test.YtihnghnafpgdfacGreatDoorYDoneRef
namespace Go.Proofs.YtihnghnafpgdfacGreatDoor
open Go Go.RowKit Go.BigFrame
set_option linter.unusedVariables false
set_option linter.unusedSimpArgs false
theorem two_others4 (k:Nat):∃ i j,i<3∧j<3∧i≠j∧i≠k∧j≠k:=by
  by_cases hk:k<3
  · exact two_others hk
  · exact ⟨0,1,by omega,by omega,by omega,by omega,by omega⟩
/-- Which disk is spoilt: 3 is none. -/
def spV (k:Nat):Int:=if k=3 then -1 else (k:Int)
theorem spV_ne {k i:Nat}(hk:k≤3)(hi:i<3):((i:Int)≠spV k)↔i≠k:=by
  unfold spV
  split <;> omega
/-- Scrubbed,or opened anew. -/
theorem Spoilt.mend {lo:Nat} {w wr w':World} {P P1 P2:Nat→Dp} {D1 D2:Nat→Dk} {tb tb2:Nat} {so S:Nat→Option Nat} {a a2:Option Addr} {cap cap2:Nat} {l:List Fi} {t:Int} {k n:Nat} (h:Spoilt lo w wr P P1 D1 tb so a cap l t k) (hk:k≤3) (hm:Mended lo wr w' P1 P2 D1 D2 tb2 S a2 cap2 l t n) :
    Spoilt lo w w' P P2 D2 tb2 S a2 cap2 l t (if n=1 then 3 else k)∧(n=1→k<3):=by
  have hnot:n=1→∃ i,i<3∧¬ Tells (D1 i) (rowsL l t):=fun h1=>by
    by_cases hx:∃ i,i<3∧¬ Tells (D1 i) (rowsL l t)
    · exact hx
    · have h0:n=0:=hm.none.2 (fun i hi=>Classical.byContradiction fun hn=>hx ⟨i,hi,hn⟩)
      omega
  refine ⟨⟨hm.life,fun i hi=>(hm.same i hi).trans (h.same i hi),hm.free,fun i hi hik=>?_,h.bel.trans hm.bel,h.far.trans hm.far⟩,fun h1=>?_⟩
  · by_cases ht:Tells (D1 i) (rowsL l t)
    · by_cases e:i=k
      · by_cases h1:n=1
        · obtain ⟨j,hj,hn⟩:=hnot h1
          have:j=k:=Classical.byContradiction fun hjk=>hn (h.sound j hj hjk).tells
          rw [this,← e] at hn
          exact absurd ht hn
        · rw [if_neg h1] at hik
          exact absurd e hik
      · exact hm.sound hi (.inl (h.sound i hi e))
    · exact hm.wrong i hi ht
  · obtain ⟨j,hj,hn⟩:=hnot h1
    by_cases hjk:j=k
    · omega
    · exact absurd (h.sound j hj hjk).tells hn
/-- A disk is spoilt: one sector. -/
theorem Spoilt.spoil {lo:Nat}{w wr w':World}{P P1:Nat→Dp}{D1:Nat→Dk}{tb:Nat}{so:Nat→Option Nat}{a:Option Addr}{cap:Nat}{l:List Fi}{t:Int}{k0 k:Nat}{u:Value}{d':Dk}(h:Spoilt lo w wr P P1 D1 tb so a cap l t k0)(hk:k<3)(hk0:k0=3∨k0=k)(hs:SpoilTo wr w' (P1 k) u d' 0)(hc:Clean d') :
    Spoilt lo w w' P (upd P1 k { P1 k with wv:=u }) (upd D1 k d') tb so a cap l t k:=by
  obtain ⟨h1,h2,h3,h4⟩:=h.life.spoil hk hs hc
  refine ⟨h1,fun i hi=>(h4 i hi).trans (h.same i hi),fun i hi=>?_,fun i hi hik=>?_,h.bel.trans h2,h.far.trans h3⟩
  · by_cases e:i=k
    · subst e;rw [upd_same];exact hs.free
    · rw [upd_other _ _ e];exact h.free i hi
  · rw [upd_other _ _ hik];exact h.sound i hi (by omega)
theorem Well.open_ {lo:Nat}{w:World}{P:Nat→Dp}{D:Nat→Dk}{tb:Nat}{so:Nat→Option Nat}{a:Option Addr}{cap:Nat}{l:List Fi}{t:Int}(h:Well lo w P D tb so a cap l t):Spoilt lo w w P P D tb so a cap l t 3 :=
  ⟨h.life,fun _ _=>rfl,h.free,fun i hi _=>h.sound i hi,Below.refl _ _,LetT.refl _⟩
theorem Spoilt.keep {lo:Nat}{w wr w':World}{P P1:Nat→Dp}{D1:Nat→Dk}{tb:Nat}{so:Nat→Option Nat}{a:Option Addr}{cap:Nat}{l:List Fi}{t:Int}{k:Nat}(h:Spoilt lo w wr P P1 D1 tb so a cap l t k)(hk:∀ (k:Nat) (C:Array Value) (T:TypeId) (fr:Nat × Nat),wr.heap[k]?=some (.cells C T fr)→StoreT T∨T=126∨T=94→w'.heap[k]?=wr.heap[k]?)(hb:Below lo wr w')(hf:LetT w w'):Spoilt lo w w' P P1 D1 tb so a cap l t k :=
  ⟨h.life.keep hk hb,h.same,h.free,h.sound,h.bel.trans hb,hf⟩
theorem Spoilt.below {lo:Nat}{w wr w':World}{P P1:Nat→Dp}{D1:Nat→Dk}{tb:Nat}{so:Nat→Option Nat}{a:Option Addr}{cap:Nat}{l:List Fi}{t:Int}{k:Nat}(h:Spoilt lo w wr P P1 D1 tb so a cap l t k)(hb:Below wr.heap.size wr w'):Spoilt lo w w' P P1 D1 tb so a cap l t k :=
  ⟨h.life.below hb,h.same,h.free,h.sound,h.bel.trans (hb.mono h.life.low),h.far.trans (LetT.of_below hb)⟩
theorem act_spoilt2 {lo:Nat}{w wr:World}{P P':Nat→Dp}{D':Nat→Dk}{tb:Nat}{so:Nat→Option Nat}{a:Option Addr}{cap:Nat}{l:List Fi}{t:Int}{k:Nat}(h:Spoilt lo w wr P P' D' tb so a cap l t k)(x:Ac)(hn:x.s.size≤maxLen)(hx:x.t.size≤maxLen) :
    Calls Tryz.prog 20 #[.pointer (some ⟨tb,0,none⟩),x.v] wr fun e w'=>e=.returned (errV (doR l t x).n)∧LetT wr w'∧∃ P2 D2 so2 a2 cap2 l2 t2,Spoilt lo w w' P P2 D2 tb so2 a2 cap2 l2 t2 k∧((¬ (doR l t x).n=0∧l2=l∧t2=t)∨((doR l t x).n=0∧l2=(doR l t x).l∧t2=(doR l t x).t)):=by
  refine (act_any lo P' D' tb so a cap l t x wr h.life h.free hn hx).mono ?_
  rintro e w' ⟨h1,⟨h2,h3⟩,h4⟩
  refine ⟨h1,h3,?_⟩
  rcases h4 with ⟨h4,h5⟩ | ⟨h4,h5,P2,D2,so2,a2,cap2,h6⟩
  · exact ⟨P',D',so,a,cap,l,t,⟨h5,h.same,h.free,h.sound,h.bel.trans h2,h.far.trans h3⟩,.inl ⟨h4,rfl,rfl⟩⟩
  · exact ⟨P2,D2,so2,a2,cap2,_,_,⟨h6.life,fun i hi=>(h6.same i hi).trans (h.same i hi),h6.free,fun i hi hik=>h6.sound i hi (h.sound i hi hik),h.bel.trans h2,h.far.trans h3⟩,.inr ⟨h4,rfl,rfl⟩⟩
/-- A sector is written. -/
theorem spoil_write (p:Dp)(d:Dk)(i:Nat)(s:ByteArray)(w:World)(hd:DiskAt w p d)(hf:Free d 50 0)(hi:i<50)(hs:s.size≤40) :
    Calls Tryz.prog 14 #[.pointer (some ⟨p.B,0,none⟩),.int .i64 i,.string s] w fun e w'=>e=.returned .nilIface∧∃ v,SpoilTo w w' p v (writeD d (i:Int) s) 1:=by
  obtain ⟨hw0,hwf⟩:=write_free (i:=i) (s:=s) hf hi hs
  refine (diskWrite_new p d (i:Int) s w hd (by unfold maxLen;omega) (by have:=hf.wr;omega)).mono ?_
  rintro e w1 ⟨rfl,v,hd1,hn1,hw1⟩
  exact ⟨by rw [hw0,errV_zero rfl],v,hd1,hwf,hw1,hn1.touch⟩
/-- It is flushed. -/
theorem spoil_flush {w wr:World}{p:Dp}{u:Value}{d:Dk}{k:Nat}(h:SpoilTo w wr p u d k) :
    Calls Tryz.prog 15 #[.pointer (some ⟨p.B,0,none⟩)] wr fun e w'=>e=.returned .nilIface∧SpoilTo w w' p (.slice none 0 0) (flushD d) 0∧Clean (flushD d):=by
  have hst:stepN d=0:=by
    unfold stepN
    rw [if_neg]
    rintro (e | e)
    · rw [h.free.up] at e;cases e
    · have:=h.free.left;omega
  have hcl:=flushD_clean hst
  have hnow:(flushD d).now=d.now:=by
    unfold flushD
    rw [if_pos hst]
    exact (stepD_rest _).1
  have hleft:(flushD d).left<0:=by
    unfold flushD
    rw [if_pos hst]
    show (stepD _).left<0
    have:=h.free.left
    unfold stepD
    rw [if_neg (by rintro (e | e);rw [h.free.up] at e;cases e;omega),if_neg (by omega)]
    exact this
  have hP:flushP { p with wv:=u } d={ p with wv:=.slice none 0 0 }:=by
    unfold flushP
    rw [if_pos hst]
  refine (diskFlush_any { p with wv:=u } d wr h.disk).mono ?_
  rintro e w1 ⟨rfl,hd1,hn1⟩
  rw [hP] at hd1
  exact ⟨by rw [hst,errV_zero rfl],h.step hd1 (fun j hj=>by cases hj) hn1.touch ⟨hcl.up,hleft,by rw [hcl.wr];simp,by rw [hnow];exact h.free.len⟩,hcl⟩
theorem QSome.far {W W':World}{B:Nat}{a:Option Addr}{cap:Nat}{l:List Fi}{t:Int}(h:QSome W B a cap l t)(hf:LetT W W'):QSome W' B a cap l t :=
  ⟨hf _ _ _ _ h.blk (.inl ⟨by decide,by decide,by decide,by decide,by decide,by decide⟩),h.files.farT hf⟩
set_option maxRecDepth 100000 in
set_option maxHeartbeats 1000000 in
theorem trios_any (w:World)(hv:VarsLo w.heap.size w) :
    Calls Tryz.prog 11 #[] w fun e w'=>e=.returned (.bool true)∧Below w.heap.size w w':=by
  have K3:Hid _:=three_any w.heap.size w hv (Nat.le_refl _)
  clear hv
  go_enter Tryz.func11,Tryz.ntmps11
  go_wp2_with fail
  refine Calls.mono K3.out ?_
  rintro e w1 ⟨P,D,tb,so,a,cap,rfl,hw,hb1⟩
  obtain ⟨W,hW⟩:∃ y,y=w1.alloc (.cells #[dptr (P 0),dptr (P 1),dptr (P 2)] 26):=⟨_,rfl⟩
  have hb2:Below w1.heap.size w1 W:=by rw [hW];exact (Below.refl _ _).alloc (Nat.le_refl _) _
  have HB:Hid (Below w.heap.size w W):=hb1.trans (hb2.mono hb1.size)
  have HD:Hid (DBox W w1.heap.size (dptr (P 0)) (dptr (P 1)) (dptr (P 2))):=by rw [hW];exact DBox.new w1 _ _ _
  have HW:Hid (Well w.heap.size W P D tb so a cap [] 1):=hw.below hb2
  have KA:Hid _:=act_well w.heap.size P D tb so a cap [] 1 actW W HW.out (by decide) (by decide)
  have KA2:Hid (Calls Tryz.prog 20 #[.pointer (some ⟨tb,0,none⟩),.agg #[.string ⟨#[119,114,105,116,101]⟩,.string ⟨#[97]⟩,.string ⟨#[120]⟩,.int .i64 0,.int .u64 0,.slice none 0 0]] W _):=KA.out
  clear hw hb1 hb2 K3 KA
  go_upto_region 2 with fail
  rw [← hW]
  clear hW
  go_wp2_with fail
  refine Calls.mono KA2.out ?_
  rintro e w2 ⟨rfl,⟨hb2,hf2⟩,P',D',so',a',cap',l',t',hs2,hw2,hor⟩
  obtain ⟨hn0,hl1⟩:=actW_does
  rw [errV_zero hn0]
  have hl':l'.length=1:=by
    rcases hor with ⟨h,_⟩ | ⟨_,h,_⟩
    · exact absurd hn0 h
    · rw [h];exact hl1
  have HL1:Hid (l'.length=1):=hl'
  have HB2:Hid (Below w.heap.size w w2):=HB.out.trans hb2
  have HD2:Hid (DBox w2 w1.heap.size (dptr (P' 0)) (dptr (P' 1)) (dptr (P' 2))):=by
    have h1:=hf2 _ _ _ _ HD.out.blk (.inl ⟨by decide,by decide,by decide,by decide,by decide,by decide⟩)
    have e:∀ i,i<3→dptr (P' i)=dptr (P i):=fun i hi=>by unfold dptr;rw [hs2 i hi]
    rw [e 0 (by omega),e 1 (by omega),e 2 (by omega)]
    exact ⟨h1⟩
  have KO:Hid _:=open_mended w.heap.size P' D' l' t' w2 hw2.life.good hw2.life.three hw2.free hw2.life.vars hw2.life.low (i:=0) (j:=1) (by omega) (by omega) (by omega) (hw2.sound 0 (by omega)).tells (hw2.sound 1 (by omega)).tells
  have HT:Hid (∀ i,i<3→Tells (D' i) (rowsL l' t')):=fun i hi=>(hw2.sound i hi).tells
  obtain ⟨d0,d1,d2,-⟩:=HD2.out.cells
  clear hb2 hf2 hs2 hw2 hor hl' hl1 hn0 KA2
  go_wp2_with fail
  refine Calls.mono KO.out ?_
  rintro e w3 ⟨tb3,n,P3,D3,S3,a3,cap3,rfl,hsz,hm⟩
  have hn:n=0:=hm.none.2 HT.out
  subst hn
  have HB3:Hid (Below w.heap.size w w3):=HB2.out.trans hm.bel
  have KQ:Hid _:=trioQuilt_any P3 tb3 S3 a3 cap3 l' t' w3 hm.life.trio (by have:=HL1.out;omega)
  clear hm hsz KO d0 d1 d2
  go_wp2_with fail
  refine Calls.mono KQ.out ?_
  rintro e w4 ⟨a4,cap4,rfl,ho,hb4⟩
  have HB4:Hid (Below w.heap.size w w4):=HB3.out.trans (hb4.mono HB3.out.size)
  have hl1z:((l'.length:Int) == 1)=true:=by rw [HL1.out];rfl
  clear ho hb4 KQ
  have hfl:=fun W=>field0 (.slice a4 l'.length cap4) (.int .i64 t') W
  go_wp2
  go_ret
  exact ⟨rfl,HB4.out⟩
end Go.Proofs.YtihnghnafpgdfacGreatDoor
