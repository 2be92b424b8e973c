/-
  THE DOCUMENT'S ANSWER, CHAPTER 3: next, Written, Dropped.
-/
import Derived.Test.YtihnghnafpgdfacGreatDoorRk09
namespace Go.Proofs.YtihnghnafpgdfacGreatDoor
open Go.RowKit
set_option linter.unusedVariables false
set_option linter.unusedSimpArgs false
/-- What the document's answer returns: a quilt and the error's number. -/
def AnswersN (w:World)(r:Res)(e:Ending)(w':World):Prop :=
  ∃ a cap,e=.returned (.tuple #[.agg #[.slice a r.l.length cap,.int .i64 r.t],.int .i64 r.n])∧Slice w' a cap r.l∧Below w.heap.size w w'
set_option maxRecDepth 100000 in
set_option maxHeartbeats 1000000 in
theorem next_any (t:Int)(a:Option Addr)(cap:Nat)(l:List Fi)(n:Int)(w:World)(h0:0≤t)(hn:0≤n∧n≤100)(b:Option Addr)(m c:Nat)(hs:Slice w a cap l) :
    Calls Tryz.prog 70 #[.agg #[.slice b m c,.int .i64 t],.slice a l.length cap,.int .i64 n] w (AnswersN w (nextR t l n)):=by
  have HS:Hid (Slice w a cap l):=hs
  clear hs
  obtain ⟨hn0,hn1⟩:=hn
  have hbel:∀ o o':Obj,Below w.heap.size w ((w.alloc o).alloc o'):=fun o o'=>((Below.refl _ _).alloc (Nat.le_refl _) _).alloc (by simp) _
  have HBEL:Hid (∀ o o':Obj,Below w.heap.size w ((w.alloc o).alloc o')):=hbel
  clear hbel
  by_cases hz:n=0
  · by_cases ht:9999≤t
    · have e:nextR t l n=⟨[],0,7⟩:=by simp [nextR,hz,turnR,ht]
      rw [e]
      subst hz
      clear e
      go_enter Tryz.func70,Tryz.ntmps70
      go_wp2
      refine bodyPost_ret (v:=.tuple #[.agg #[.slice none 0 0,.int .i64 0],.int .i64 7]) (by simp [results,Tryz.results70,go_sem]) rfl ⟨none,0,rfl,noSlice _,HBEL.out _ _⟩
    · have e:nextR t l n=⟨l,t+1,0⟩:=by simp [nextR,hz,turnR,ht]
      rw [e]
      subst hz
      clear e
      go_enter Tryz.func70,Tryz.ntmps70
      go_wp2
      refine bodyPost_ret (v:=.tuple #[.agg #[.slice a l.length cap,.int .i64 (t+1)],.int .i64 0]) (by simp [results,Tryz.results70,go_sem]) rfl ⟨a,cap,rfl,HS.out.below (HBEL.out _ _),HBEL.out _ _⟩
  · have e:nextR t l n=⟨[],0,n⟩:=by simp [nextR,hz]
    rw [e]
    have hpos:0<n:=by omega
    clear e hz
    go_enter Tryz.func70,Tryz.ntmps70
    go_wp2
    refine bodyPost_ret (v:=.tuple #[.agg #[.slice none 0 0,.int .i64 0],.int .i64 n]) (by simp [results,Tryz.results70,go_sem]) rfl ⟨none,0,rfl,noSlice _,HBEL.out _ _⟩
set_option maxRecDepth 100000 in
set_option maxHeartbeats 1000000 in
theorem dropped_any (a:Option Addr)(cap:Nat)(l:List Fi)(t:Int)(name:ByteArray)(w:World)(hq:GoodQ l t)(hs:Slice w a cap l) :
    Calls Tryz.prog 44 #[.agg #[.slice a l.length cap,.int .i64 t],.string name] w (AnswersN w (dropR' l t name)):=by
  have HS:Hid (Slice w a cap l):=hs
  have HQ:Hid (GoodQ l t):=hq
  have hl:=hq.files.few
  have ht0:=hq.low
  have ht1:=hq.high
  clear hs hq
  have HR:Hid (dropR' l t name=nextR t (dropL l name) (dropN l name)):=rfl
  generalize dropR' l t name=r at *
  go_enter Tryz.func44,Tryz.ntmps44
  go_wp2_with fail
  refine (dropFile_all a cap l name _ HQ.out.files (by exact (HS.out.below ((Below.refl _ _).alloc (Nat.le_refl _) _)).below ((Below.refl _ _).alloc (Nat.le_refl _) _))).mono ?_
  rintro e w2 ⟨v,rfl,hown,hb⟩
  obtain ⟨a1,cap1,rfl,hs1⟩:=hown.slice
  have q2:QBox w2 w.heap.size (.slice a l.length cap) t:=((QBox.new w _ t _).alloc _).below hb (by simp;omega)
  have s2:QBox w2 (w.heap.size+1) (.slice none 0 0) 0:=by
    have:=QBox.new (w.alloc (.cells #[.slice a l.length cap,.int .i64 t] 32)) (.slice none 0 0) 0 32
    rw [World.size_alloc] at this
    exact this.below hb (by simp)
  have HB2:Hid (Below w.heap.size w w2):=(((Below.refl _ _).alloc (Nat.le_refl _) _).alloc (by simp) _).trans (hb.mono (by simp;omega))
  have HS2:Hid (Slice w2 a1 cap1 (dropL l name)):=hs1
  have HR2:Hid (QBox w2 (w.heap.size+1) (.slice none 0 0) 0):=s2
  clear hb hown hs1
  obtain ⟨x0,x1,_,_,xl,_⟩:=q2
  clear s2
  have hnr:=dropN_range l name
  generalize dropN l name=n at *
  generalize dropL l name=dl at *
  go_wp2_with fail
  refine (next_any t a1 cap1 dl n _ (by omega) hnr a l.length cap HS2.out).mono ?_
  rintro e w3 ⟨a2,cap2,rfl,hs3,hb⟩
  rw [← HR.out]
  rw [← HR.out] at hs3
  have s3:=HR2.out.below hb HR2.out.lt
  have HB3:Hid (Below w.heap.size w w3):=HB2.out.trans (hb.mono HB2.out.size)
  have HS3:Hid (Slice w3 a2 cap2 r.l):=hs3
  clear hb hs3
  obtain ⟨y0,y1,yf0,yf1,yl,yo⟩:=s3
  have HYO:Hid (∀ o,2≤o→w3.cell? ⟨w.heap.size+1,o,none⟩=none):=yo
  clear yo
  go_wp2
  refine bodyPost_ret (v:=.tuple #[.agg #[.slice a2 r.l.length cap2,.int .i64 r.t],.int .i64 r.n]) (by simp [results,Tryz.results44,go_sem,y0,y1,yl]) rfl ⟨a2,cap2,rfl,?_,?_⟩
  · exact HS3.out.store2 HYO.out _ _
  · exact (HB3.out.setCell (by simp) _).setCell (by simp) _
set_option maxRecDepth 100000 in
set_option maxHeartbeats 1000000 in
theorem written_any (a:Option Addr)(cap:Nat)(l:List Fi)(t:Int)(name text:ByteArray)(w:World)(hq:GoodQ l t)(hs:Slice w a cap l)(hn:name.size≤maxLen)(hx:text.size≤maxLen) :
    Calls Tryz.prog 43 #[.agg #[.slice a l.length cap,.int .i64 t],.string name,.string text] w (AnswersN w (writeR l t name text)):=by
  have HS:Hid (Slice w a cap l):=hs
  have HQ:Hid (GoodQ l t):=hq
  have hl:=hq.files.few
  have ht0:=hq.low
  have ht1:=hq.high
  have hk:0≤(getD' (getF l name)).k∧(getD' (getF l name)).k≤9999:=by
    cases hg:getF l name with
    | none=>exact ⟨by decide,by decide⟩
    | some f=>have:=hq.files.times (getF_mem hg).1;exact ⟨by simp [getD'];omega,by simp [getD'];omega⟩
  have hwf:writeF l name text=⟨name,text,(getD' (getF l name)).k+1⟩:=rfl
  clear hs hq
  have HR:Hid (writeR l t name text=nextR t (putL l (writeF l name text)) (putN l (writeF l name text))):=rfl
  generalize writeR l t name text=r at *
  generalize hg:getD' (getF l name)=g at *
  have HG:Hid (getD' (getF l name)=g):=hg
  generalize hwf':writeF l name text=f at *
  subst hwf
  clear hg hwf'
  obtain ⟨hk0,hk1⟩:=hk
  go_enter Tryz.func43,Tryz.ntmps43
  go_wp2_with fail
  refine (getFile_any a cap l name _ (by unfold maxLen;omega) (by exact (HS.out.cells.alloc _).alloc _)).mono ?_
  rintro e w1 ⟨rfl,hb⟩
  rw [getV_eq,HG.out]
  have q1:QBox w1 w.heap.size (.slice a l.length cap) t:=((QBox.new w _ t _).alloc _).below hb (by simp;omega)
  have s1:QBox w1 (w.heap.size+1) (.slice none 0 0) 0:=by
    have:=QBox.new (w.alloc (.cells #[.slice a l.length cap,.int .i64 t] 32)) (.slice none 0 0) 0 32
    rw [World.size_alloc] at this
    exact this.below hb (by simp)
  have HB1:Hid (Below w.heap.size w w1):=(((Below.refl _ _).alloc (Nat.le_refl _) _).alloc (by simp) _).trans (hb.mono (by simp;omega))
  have HS1:Hid (Slice w1 a cap l):=HS.out.below HB1.out
  have HQ1:Hid (QBox w1 w.heap.size (.slice a l.length cap) t):=q1
  have HR1:Hid (QBox w1 (w.heap.size+1) (.slice none 0 0) 0):=s1
  obtain ⟨x0,x1,_,_,xl,_⟩:=q1
  clear hb s1
  go_wp2_with fail
  refine (putFile_any a cap l ⟨name,text,g.k+1⟩ _ ⟨hn,hx⟩ HQ.out.files (by exact HS1.out.below ((Below.refl _ _).alloc (Nat.le_refl _) _))).mono ?_
  rintro e w2 ⟨v,rfl,hown,hb⟩
  obtain ⟨a1,cap1,rfl,hs1⟩:=hown.slice
  have q2:QBox w2 w.heap.size (.slice a l.length cap) t:=(HQ1.out.alloc _).below hb (by simp;have:=HQ1.out.lt;omega)
  have s2:QBox w2 (w.heap.size+1) (.slice none 0 0) 0:=(HR1.out.alloc _).below hb (by simp;have:=HR1.out.lt;omega)
  have HB2:Hid (Below w.heap.size w w2):=(HB1.out.alloc HB1.out.size _).trans (hb.mono (by simp;have:=HB1.out.size;omega))
  have HS2:Hid (Slice w2 a1 cap1 (putL l ⟨name,text,g.k+1⟩)):=hs1
  have HR2:Hid (QBox w2 (w.heap.size+1) (.slice none 0 0) 0):=s2
  clear x0 x1 xl HQ1 HR1 HS1 HB1 hb hown hs1 s2
  obtain ⟨x0,x1,_,_,xl,_⟩:=q2
  have hpr:=putN_range l ⟨name,text,g.k+1⟩
  generalize putN l ⟨name,text,g.k+1⟩=n at *
  generalize putL l ⟨name,text,g.k+1⟩=pl at *
  go_wp2_with fail
  refine (next_any t a1 cap1 pl n _ (by omega) hpr a l.length cap HS2.out).mono ?_
  rintro e w3 ⟨a2,cap2,rfl,hs3,hb⟩
  rw [← HR.out]
  rw [← HR.out] at hs3
  have s3:=HR2.out.below hb HR2.out.lt
  have HB3:Hid (Below w.heap.size w w3):=HB2.out.trans (hb.mono HB2.out.size)
  have HS3:Hid (Slice w3 a2 cap2 r.l):=hs3
  clear hb hs3
  obtain ⟨y0,y1,yf0,yf1,yl,yo⟩:=s3
  have HYO:Hid (∀ o,2≤o→w3.cell? ⟨w.heap.size+1,o,none⟩=none):=yo
  clear yo
  go_wp2
  refine bodyPost_ret (v:=.tuple #[.agg #[.slice a2 r.l.length cap2,.int .i64 r.t],.int .i64 r.n]) (by simp [results,Tryz.results43,go_sem,y0,y1,yl]) rfl ⟨a2,cap2,rfl,?_,?_⟩
  · exact HS3.out.store2 HYO.out _ _
  · exact (HB3.out.setCell (by simp) _).setCell (by simp) _
end Go.Proofs.YtihnghnafpgdfacGreatDoor
