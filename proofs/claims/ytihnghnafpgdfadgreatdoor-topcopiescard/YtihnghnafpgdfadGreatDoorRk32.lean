/- What the proofs stand on, part 32: ActsDo, DoGood, DoLow, Grown, TopPure, TopBase, TopGoodWalk, QuiltSame, VoteBase, VoteWrong, VoteWrongOf, VoteFind. -/
import Derived.Deep.RegionWith
import Derived.Deep.LoopGhost
import Derived.Deep.RegionHeld3
import Derived.Test.YtihnghnafpgdfadGreatDoorRk31
import Derived.Test.YtihnghnafpgdfadGreatDoorRk10
import Derived.Test.YtihnghnafpgdfadGreatDoorRk09
set_option linter.unusedVariables false
set_option linter.unusedSimpArgs false
namespace Go.Proofs.YtihnghnafpgdfadGreatDoor
open Go.RowKit
def doR (l:List Fi)(t:Int)(x:Ac):Res :=
  if x.kind=⟨#[119,114,105,116,101]⟩ then writeR l t x.s x.t
  else if x.kind=⟨#[100,114,111,112]⟩ then dropR' l t x.s
  else if x.kind=⟨#[110,97,109,101]⟩ then renameR l t x.s x.t
  else if x.kind=⟨#[115,119,97,112]⟩ then swapR l t x.s x.t
  else ⟨l,t,0⟩
set_option maxRecDepth 100000 in
set_option maxHeartbeats 4000000 in
theorem do_any (a:Option Addr) (cap:Nat) (l:List Fi) (t:Int) (x:Ac) (w:World) (hq:GoodQ l t) (hs:Slice w a cap l) (hn:x.s.size≤maxLen) (hx:x.t.size≤maxLen) :
    Calls Tryz.prog 50 #[.agg #[.slice a l.length cap,.int .i64 t],x.v] w (Answers w (doR l t x)):=by
  have HS:Hid (Slice w a cap l):=hs
  have HQ:Hid (GoodQ l t):=hq
  clear hs hq
  obtain ⟨kind,s,tx,n,k,ca,cc,cl⟩:=x
  simp only at hn hx
  generalize hr:doR l t ⟨kind,s,tx,n,k,ca,cc,cl⟩=r
  have HRN:Hid (doR l t ⟨kind,s,tx,n,k,ca,cc,cl⟩=r):=hr
  clear hr
  have hS:Slice (((w.alloc (.cells #[.slice a l.length cap,.int .i64 t] 32)).alloc (.cells #[.string kind,.string s,.string tx,.int .i64 n,.int .u64 k,.slice ca cl.length cc] 66)).alloc (.cells #[.slice none 0 0,.int .i64 0] 32)) a cap l :=
    ((HS.out.below ((Below.refl _ _).alloc (Nat.le_refl _) _)).below ((Below.refl _ _).alloc (Nat.le_refl _) _)).below ((Below.refl _ _).alloc (Nat.le_refl _) _)
  have HS3:Hid (Slice (((w.alloc (.cells #[.slice a l.length cap,.int .i64 t] 32)).alloc (.cells #[.string kind,.string s,.string tx,.int .i64 n,.int .u64 k,.slice ca cl.length cc] 66)).alloc (.cells #[.slice none 0 0,.int .i64 0] 32)) a cap l):=hS
  have HB3:Hid (Below w.heap.size w (((w.alloc (.cells #[.slice a l.length cap,.int .i64 t] 32)).alloc (.cells #[.string kind,.string s,.string tx,.int .i64 n,.int .u64 k,.slice ca cl.length cc] 66)).alloc (.cells #[.slice none 0 0,.int .i64 0] 32))) :=
    (((Below.refl _ _).alloc (Nat.le_refl _) _).alloc (by simp) _).alloc (by simp;omega) _
  have HR3:Hid (QBox (((w.alloc (.cells #[.slice a l.length cap,.int .i64 t] 32)).alloc (.cells #[.string kind,.string s,.string tx,.int .i64 n,.int .u64 k,.slice ca cl.length cc] 66)).alloc (.cells #[.slice none 0 0,.int .i64 0] 32)) (w.heap.size+1+1) (.slice none 0 0) 0):=by
    have:=QBox.new ((w.alloc (.cells #[.slice a l.length cap,.int .i64 t] 32)).alloc (.cells #[.string kind,.string s,.string tx,.int .i64 n,.int .u64 k,.slice ca cl.length cc] 66)) (.slice none 0 0) 0 32
    show QBox _ _ _ _
    simpa [World.size_alloc] using this
  clear hS
  by_cases k1:kind=⟨#[119,114,105,116,101]⟩
  · have HRR:Hid (writeR l t s tx=r):=by show _=_;rw [← HRN.out];simp [doR,k1]
    subst k1
    go_enter Tryz.func50,Tryz.ntmps50
    go_wp2_with fail
    refine (write_any a cap l t s tx _ HQ.out HS3.out hn hx).mono ?_
    rintro e w6 ⟨a6,cap6,rfl,hs6,hb⟩
    rw [HRR.out]
    rw [HRR.out] at hs6
    have r6:=HR3.out.below hb HR3.out.lt
    have HB6:Hid (Below w.heap.size w w6):=HB3.out.trans (hb.mono HB3.out.size)
    have HS6:Hid (Slice w6 a6 cap6 r.l):=hs6
    have HYO:Hid (∀ o,2≤o→w6.cell? ⟨w.heap.size+1+1,o,none⟩=none):=r6.only
    obtain ⟨y0,y1,yf0,yf1,yl,_⟩:=r6
    clear hb hs6
    go_wp2
    refine bodyPost_ret (v:=.tuple #[.agg #[.slice a6 r.l.length cap6,.int .i64 r.t],errV r.n]) (by simp [results,Tryz.results50,go_sem,y0,y1,yl]) rfl ⟨a6,cap6,rfl,?_,?_⟩
    · exact HS6.out.store2 HYO.out _ _
    · exact (HB6.out.setCell (by show w.heap.size≤w.heap.size+1+1;omega) _).setCell (by show w.heap.size≤w.heap.size+1+1;omega) _
  · have b0 : (kind.toList == [119,114,105,116,101])=false:=by have h:=beqB_false k1;rw [ByteArray.toList_eq ⟨#[119,114,105,116,101]⟩] at h;exact h
    by_cases k2:kind=⟨#[100,114,111,112]⟩
    · have HRR:Hid (dropR' l t s=r):=by show _=_;rw [← HRN.out];simp [doR,k2]
      subst k2
      clear k1
      go_enter Tryz.func50,Tryz.ntmps50
      go_wp2_with fail
      refine (dropQ_any a cap l t s _ HQ.out HS3.out).mono ?_
      rintro e w6 ⟨a6,cap6,rfl,hs6,hb⟩
      rw [HRR.out]
      rw [HRR.out] at hs6
      have r6:=HR3.out.below hb HR3.out.lt
      have HB6:Hid (Below w.heap.size w w6):=HB3.out.trans (hb.mono HB3.out.size)
      have HS6:Hid (Slice w6 a6 cap6 r.l):=hs6
      have HYO:Hid (∀ o,2≤o→w6.cell? ⟨w.heap.size+1+1,o,none⟩=none):=r6.only
      obtain ⟨y0,y1,yf0,yf1,yl,_⟩:=r6
      clear hb hs6
      go_wp2
      refine bodyPost_ret (v:=.tuple #[.agg #[.slice a6 r.l.length cap6,.int .i64 r.t],errV r.n]) (by simp [results,Tryz.results50,go_sem,y0,y1,yl]) rfl ⟨a6,cap6,rfl,?_,?_⟩
      · exact HS6.out.store2 HYO.out _ _
      · exact (HB6.out.setCell (by show w.heap.size≤w.heap.size+1+1;omega) _).setCell (by show w.heap.size≤w.heap.size+1+1;omega) _
    · have b1:(kind.toList == [100,114,111,112])=false:=by have h:=beqB_false k2;rw [ByteArray.toList_eq ⟨#[100,114,111,112]⟩] at h;exact h
      by_cases k3:kind=⟨#[110,97,109,101]⟩
      · have HRR:Hid (renameR l t s tx=r):=by show _=_;rw [← HRN.out];simp [doR,k3]
        subst k3
        clear k1
        clear k2
        go_enter Tryz.func50,Tryz.ntmps50
        go_wp2_with fail
        refine (rename_any a cap l t s tx _ HQ.out HS3.out hn hx).mono ?_
        rintro e w6 ⟨a6,cap6,rfl,hs6,hb⟩
        rw [HRR.out]
        rw [HRR.out] at hs6
        have r6:=HR3.out.below hb HR3.out.lt
        have HB6:Hid (Below w.heap.size w w6):=HB3.out.trans (hb.mono HB3.out.size)
        have HS6:Hid (Slice w6 a6 cap6 r.l):=hs6
        have HYO:Hid (∀ o,2≤o→w6.cell? ⟨w.heap.size+1+1,o,none⟩=none):=r6.only
        obtain ⟨y0,y1,yf0,yf1,yl,_⟩:=r6
        clear hb hs6
        go_wp2
        refine bodyPost_ret (v:=.tuple #[.agg #[.slice a6 r.l.length cap6,.int .i64 r.t],errV r.n]) (by simp [results,Tryz.results50,go_sem,y0,y1,yl]) rfl ⟨a6,cap6,rfl,?_,?_⟩
        · exact HS6.out.store2 HYO.out _ _
        · exact (HB6.out.setCell (by show w.heap.size≤w.heap.size+1+1;omega) _).setCell (by show w.heap.size≤w.heap.size+1+1;omega) _
      · have b2:(kind.toList == [110,97,109,101])=false:=by have h:=beqB_false k3;rw [ByteArray.toList_eq ⟨#[110,97,109,101]⟩] at h;exact h
        by_cases k4:kind=⟨#[115,119,97,112]⟩
        · have HRR:Hid (swapR l t s tx=r):=by show _=_;rw [← HRN.out];simp [doR,k4]
          subst k4
          clear k1
          clear k2
          clear k3
          go_enter Tryz.func50,Tryz.ntmps50
          go_wp2_with fail
          refine (swap_any a cap l t s tx _ HQ.out HS3.out hn hx).mono ?_
          rintro e w6 ⟨a6,cap6,rfl,hs6,hb⟩
          rw [HRR.out]
          rw [HRR.out] at hs6
          have r6:=HR3.out.below hb HR3.out.lt
          have HB6:Hid (Below w.heap.size w w6):=HB3.out.trans (hb.mono HB3.out.size)
          have HS6:Hid (Slice w6 a6 cap6 r.l):=hs6
          have HYO:Hid (∀ o,2≤o→w6.cell? ⟨w.heap.size+1+1,o,none⟩=none):=r6.only
          obtain ⟨y0,y1,yf0,yf1,yl,_⟩:=r6
          clear hb hs6
          go_wp2
          refine bodyPost_ret (v:=.tuple #[.agg #[.slice a6 r.l.length cap6,.int .i64 r.t],errV r.n]) (by simp [results,Tryz.results50,go_sem,y0,y1,yl]) rfl ⟨a6,cap6,rfl,?_,?_⟩
          · exact HS6.out.store2 HYO.out _ _
          · exact (HB6.out.setCell (by show w.heap.size≤w.heap.size+1+1;omega) _).setCell (by show w.heap.size≤w.heap.size+1+1;omega) _
        · have b3:(kind.toList == [115,119,97,112])=false:=by have h:=beqB_false k4;rw [ByteArray.toList_eq ⟨#[115,119,97,112]⟩] at h;exact h
          have HRR:Hid (r=⟨l,t,0⟩):=by show _=_;rw [← HRN.out];simp [doR,k1,k2,k3,k4]
          clear k1 k2 k3 k4
          go_enter Tryz.func50,Tryz.ntmps50
          go_wp2
          rw [HRR.out]
          refine bodyPost_ret (v:=.tuple #[.agg #[.slice a l.length cap,.int .i64 t],.nilIface]) (by simp [results,Tryz.results50,go_sem]) rfl ⟨a,cap,rfl,?_,?_⟩
          · refine HS.out.below ?_
            repeat (first | exact Below.refl _ _ | refine Below.alloc ?_ (by simp;try omega) _)
          · repeat (first | exact Below.refl _ _ | refine Below.alloc ?_ (by simp;try omega) _)
def Fine (t:Int)(r:Res):Prop:=(r.n=0∧GoodQ r.l r.t∧r.t=t+1)∨(0<r.n∧r.n≤100∧r.l=[]∧r.t=0)
theorem turn_fine {t:Int}{l:List Fi}(hg:Good l)(h1:1≤t):Fine t (turnR t l):=by
  unfold turnR
  split
  · exact .inr ⟨by decide,by decide,rfl,rfl⟩
  · exact .inl ⟨rfl,⟨hg,by show 1≤t+1;omega,by show t+1≤9999;omega⟩,rfl⟩
theorem fail_fine {t n:Int}(h:0<n)(h':n≤100):Fine t (failR n):=.inr ⟨h,h',rfl,rfl⟩
theorem putN_zero {l:List Fi}{f:Fi}(h:putN l f=0):f.fault=0∧(hasF l f.n=false→l.length<8):=by
  unfold putN at h
  by_cases hf:f.fault=0
  · rw [if_neg (by simp [hf])] at h
    refine ⟨hf,fun hh=>?_⟩
    by_cases h8:8≤l.length
    · rw [if_pos ⟨hh,h8⟩] at h;exact absurd h (by decide)
    · omega
  · rw [if_pos hf] at h;exact absurd h hf
theorem put_fine {t:Int}{l:List Fi}{f:Fi}(hg:Good l)(h1:1≤t):Fine t (nextR t (putL l f) (putN l f)):=by
  unfold nextR
  have hr:=putN_range l f
  by_cases h:putN l f=0
  · rw [if_neg (by simp [h])]
    obtain ⟨hf,h8⟩:=putN_zero h
    have e:putL l f=putF l f:=by simp [putL,h]
    rw [e]
    exact turn_fine (good_put hg hf h8) h1
  · rw [if_pos h]
    exact .inr ⟨by show 0<putN l f;omega,hr.2,rfl,rfl⟩
theorem write_fine {l:List Fi}{t:Int}(hq:GoodQ l t)(name text:ByteArray):Fine t (writeR l t name text):=put_fine hq.files hq.low
theorem drop_fine {l:List Fi}{t:Int}(hq:GoodQ l t)(name:ByteArray):Fine t (dropR' l t name):=by
  unfold dropR' nextR
  cases hh:hasF l name
  · have e:dropN l name=5:=by simp [dropN,hh]
    rw [e,if_pos (by decide)]
    exact .inr ⟨by decide,by decide,rfl,rfl⟩
  · have e:dropN l name=0:=by simp [dropN,hh]
    have e2:dropL l name=dropF l name:=by simp [dropL,hh]
    rw [e,e2,if_neg (by decide)]
    exact turn_fine (good_drop hq.files name) hq.low
theorem rename_fine {l:List Fi}{t:Int}(hq:GoodQ l t)(name tgt:ByteArray):Fine t (renameR l t name tgt):=by
  unfold renameR
  cases hg:getF l name with
  | none=>exact fail_fine (by decide) (by decide)
  | some f =>
    simp only
    split
    · have:=nameF_cases tgt.data.toList
      exact fail_fine (by omega) (by omega)
    · split
      · exact fail_fine (by decide) (by decide)
      · exact put_fine (good_drop hq.files name) hq.low
theorem swap_fine {l:List Fi} {t:Int} (hq:GoodQ l t) (a b:ByteArray):Fine t (swapR l t a b):=by
  unfold swapR
  cases ha:getF l a with
  | none=>exact fail_fine (by decide) (by decide)
  | some f =>
    cases hb:getF l b with
    | none=>exact fail_fine (by decide) (by decide)
    | some g =>
      simp only
      split
      · exact fail_fine (by decide) (by decide)
      · split
        · exact turn_fine hq.files hq.low
        · exact turn_fine (swap_ok hq.files ha hb (by omega) (by omega) ‹_›).2.2.2 hq.low
def knownB (x:Ac):Bool:=decide (x.kind=⟨#[119,114,105,116,101]⟩) || (decide (x.kind=⟨#[100,114,111,112]⟩) || (decide (x.kind=⟨#[110,97,109,101]⟩) || decide (x.kind=⟨#[115,119,97,112]⟩)))
theorem do_fine {l:List Fi} {t:Int} (hq:GoodQ l t) (x:Ac):Fine t (doR l t x)∨(knownB x=false∧doR l t x=⟨l,t,0⟩):=by
  unfold doR
  split
  · exact .inl (write_fine hq _ _)
  · split
    · exact .inl (drop_fine hq _)
    · split
      · exact .inl (rename_fine hq _ _)
      · split
        · exact .inl (swap_fine hq _ _)
        · rename_i h1 h2 h3 h4
          exact .inr ⟨by simp [knownB,h1,h2,h3,h4],rfl⟩
theorem do_good {l:List Fi}{t:Int}(hq:GoodQ l t)(x:Ac):((doR l t x).n=0∧GoodQ (doR l t x).l (doR l t x).t)∨(0<(doR l t x).n∧(doR l t x).n≤100∧(doR l t x).l=[]∧(doR l t x).t=0):=by
  rcases do_fine hq x with (⟨h1,h2,_⟩ | h) | ⟨_,h⟩
  · exact .inl ⟨h1,h2⟩
  · exact .inr h
  · rw [h];exact .inl ⟨rfl,hq⟩
theorem Below.undrew {B:Nat}{W w':World}(h:Below B W.drew w'):Below B W w':=⟨h.os,h.tape,h.output,h.size,h.block⟩
theorem has_of_get {l:List Fi}(hg:Good l){name:ByteArray}{f:Fi}(h:getF l name=some f):hasF l name=true:=by
  rw [← getF_isSome hg,h];rfl
theorem good_of_fine {t:Int}{r:Res}(h:Fine t r)(h0:r.n=0):GoodQ r.l r.t∧r.t=t+1:=by
  rcases h with ⟨_,h1,h2⟩ | ⟨h1,_,_,_⟩
  · exact ⟨h1,h2⟩
  · omega
theorem next_zero {t:Int}{l:List Fi}{n:Int}(h:(nextR t l n).n=0):n=0∧t<9999∧nextR t l n=⟨l,t+1,0⟩:=by
  unfold nextR at h ⊢
  by_cases hn:n=0
  · rw [if_neg (by simp [hn])] at h ⊢
    unfold turnR at h ⊢
    by_cases h9:9999≤t
    · rw [if_pos h9] at h;exact absurd h (by simp)
    · rw [if_neg h9];exact ⟨hn,by omega,rfl⟩
  · rw [if_pos hn] at h;exact absurd h hn
theorem putL_of {l:List Fi}{f:Fi}(h:putN l f=0):putL l f=putF l f:=by simp [putL,h]
theorem write_get {l:List Fi}{t:Int}(hq:GoodQ l t){name text:ByteArray}(h:(writeR l t name text).n=0) :
    GoodQ (writeR l t name text).l (writeR l t name text).t∧getF (writeR l t name text).l name=some (writeF l name text)∧∀ other,¬ other=name→getF (writeR l t name text).l other=getF l other:=by
  obtain ⟨h0,_,e⟩:=next_zero h
  have hp:=putN_zero h0
  have hg:Good (putF l (writeF l name text)):=good_put hq.files hp.1 hp.2
  refine ⟨(good_of_fine (write_fine hq name text) h).1,?_,?_⟩
  · unfold writeR;rw [e,putL_of h0];exact get_put_same hq.files hg
  · intro other ho
    unfold writeR;rw [e,putL_of h0];exact get_put_other hq.files hg ho
theorem drop_there {l:List Fi}{t:Int}{name:ByteArray}(h:(dropR' l t name).n=0):hasF l name=true∧dropR' l t name=⟨dropF l name,t+1,0⟩:=by
  obtain ⟨h0,_,e⟩:=next_zero h
  cases hh:hasF l name
  · rw [dropN,hh] at h0;exact absurd h0 (by simp)
  · refine ⟨rfl,?_⟩
    unfold dropR';rw [e];simp [dropL,hh]
theorem put_set {l:List Fi}{f:Fi}(hh:hasF l f.n=true):putF l f=l.set (posF l f.n) f:=by
  have:=(hasF_name hh).1
  unfold putF
  rw [if_pos hh,List.set_eq_take_append_cons_drop,if_pos this]
theorem rename_zero {l:List Fi} {t:Int} (hq:GoodQ l t) {a b:ByteArray} (h:(renameR l t a b).n=0) :
    ∃ f,getF l a=some f∧nameF b.data.toList=0∧getF l b=none∧¬ a=b∧Good (putF (dropF l a) ⟨b,f.t,f.k⟩)∧renameR l t a b=⟨putF (dropF l a) ⟨b,f.t,f.k⟩,t+1,0⟩:=by
  unfold renameR at h ⊢
  cases hgf:getF l a with
  | none=>rw [hgf] at h;exact absurd h (by simp [failR])
  | some f =>
    rw [hgf] at h
    simp only at h ⊢
    by_cases h1:nameF b.data.toList=0
    · rw [if_neg (by simp [h1])] at h
      cases h2:getF l b with
      | some g=>rw [h2] at h;exact absurd h (by simp [failR])
      | none =>
        rw [h2] at h
        rw [if_neg (by simp)] at h
        obtain ⟨h0,_,e⟩:=next_zero h
        have hp:=putN_zero h0
        refine ⟨f,rfl,h1,rfl,?_,good_put (good_drop hq.files a) hp.1 hp.2,?_⟩
        · rintro rfl;rw [hgf] at h2;cases h2
        · rw [if_neg (by simp [h1]),if_neg (by simp),e,putL_of h0]
    · rw [if_pos h1] at h
      exact absurd h h1
theorem swap_zero {l:List Fi} {t:Int} {a b:ByteArray} (h:(swapR l t a b).n=0) :
    ∃ f g,getF l a=some f∧getF l b=some g∧f.k<9999∧g.k<9999∧swapR l t a b=⟨if a=b then l else swapL l a b f g,t+1,0⟩:=by
  unfold swapR at h ⊢
  cases ha:getF l a with
  | none=>rw [ha] at h;exact absurd h (by simp [failR])
  | some f =>
    cases hb:getF l b with
    | none=>rw [ha,hb] at h;exact absurd h (by simp [failR])
    | some g =>
      rw [ha,hb] at h
      simp only at h ⊢
      split at h
      · exact absurd h (by simp [failR])
      · rename_i hne
        refine ⟨f,g,rfl,rfl,by omega,by omega,?_⟩
        rw [if_neg hne]
        split at h
        · rename_i hab
          rw [if_pos hab,if_pos hab]
          unfold turnR at h ⊢
          split at h
          · exact absurd h (by simp)
          · rename_i h9;rw [if_neg h9]
        · rename_i hab
          rw [if_neg hab,if_neg hab]
          unfold turnR at h ⊢
          split at h
          · exact absurd h (by simp)
          · rename_i h9;rw [if_neg h9]
theorem names_put {l:List Fi}{f:Fi}(hh:hasF l f.n=true):(putF l f).map Fi.n=l.map Fi.n:=by
  rw [put_set hh,List.map_set]
  obtain ⟨hp,he⟩:=hasF_name hh
  apply List.ext_getElem
  · simp
  · intro i h1 h2
    rw [List.getElem_set]
    split
    · rename_i hi
      subst hi
      simp [he]
    · rfl
theorem good_sized {l:List Fi}(h:Good l):Sized l:=by
  intro f hf
  have:=h.times hf
  have h6:=name_size this.1
  unfold maxLen
  exact ⟨by omega,by omega⟩
set_option maxRecDepth 100000 in
set_option maxHeartbeats 1000000 in
theorem equalFiles_any (a a':Option Addr) (cap cap':Nat) (l m:List Fi) (w:World) (hl:l.length≤1000) (hm:m.length≤1000) (hc:Cells w a l) (hc':Cells w a' m) :
    Calls Tryz.prog 119 #[.slice a l.length cap,.slice a' m.length cap'] w fun e w'=>e=.returned (.bool (sameL l m))∧∃ n,w'=w.drewN n:=by
  have HC:Hid (Cells w a l):=hc
  have HC':Hid (Cells w a' m):=hc'
  clear hc hc'
  by_cases hlen:l.length=m.length
  · have hne:((l.length:Int) != (m.length:Int))=false:=by simp [hlen]
    have HL:Hid (l.length=m.length):=hlen
    clear hlen
    go_enter Tryz.func119,Tryz.ntmps119
    go_wp2_with fail
    go_loopw [13] (fun i wr=>∃ k n:Nat,k≤l.length∧i=.int .i64 k∧wr=w.drewN n∧∀ i (h1:i<l.length) (h2:i<m.length),i<k→eqFi l[i] m[i]=true) (fun i _=>l.length - (intOf i).toNat)
    case atStart=>exact ⟨0,0,Nat.zero_le _,rfl,rfl,fun i h1 h2 h=>absurd h (Nat.not_lt_zero _)⟩
    case round =>
      obtain ⟨k,n,hk,rfl,rfl,hall⟩:=hrel
      have Hall:Hid (∀ i (h1:i<l.length) (h2:i<m.length),i<k→eqFi l[i] m[i]=true):=hall
      clear hall
      by_cases hlt:k<l.length
      · have hlt2:k<m.length:=by have:=HL.out;omega
        obtain ⟨b,off,rfl,c0,c1,c2⟩:=HC.out k hlt
        obtain ⟨b',off',rfl,d0,d1,d2⟩:=HC'.out k hlt2
        have hq:=fun w=>run_neq_file l[k] m[k] w
        cases he:eqFi l[k] m[k]
        · go_wp2
          go_quiet (fail)
          go_wp2
          go_ret
          exact ⟨ret_bool (sameL_at hlt hlt2 he).symm,n+nq,by simp⟩
        · go_wp2
          go_quiet (fail)
          go_wp2
          refine ⟨⟨k+1,_,by omega,by go_num,rfl,fun i h1 h2 h=>?_⟩,by simp [intOf];omega⟩
          rcases Nat.lt_or_ge i k with h3 | h3
          · exact Hall.out i h1 h2 h3
          · have e:i=k:=by omega
            subst e
            exact he
      · go_wp2
        go_ret
        exact ⟨ret_bool (sameL_all HL.out (fun i h1 h2=>Hall.out i h1 h2 (by omega))).symm,n,rfl⟩
  · have hne:((l.length:Int) != (m.length:Int))=true:=by rw [bne_iff_ne];omega
    go_enter Tryz.func119,Tryz.ntmps119
    go_wp2
    go_ret
    exact ⟨ret_bool (sameL_len hlen).symm,0,rfl⟩
set_option maxRecDepth 100000 in
set_option maxHeartbeats 1000000 in
theorem quiltSame_any (a a':Option Addr)(cap cap':Nat)(l m:List Fi)(t s:Int)(w:World)(hl:l.length≤1000)(hm:m.length≤1000)(hc:Cells w a l)(hc':Cells w a' m) :
    Calls Tryz.prog 84 #[.agg #[.slice a l.length cap,.int .i64 t],.agg #[.slice a' m.length cap',.int .i64 s]] w fun e w'=>e=.returned (.bool (sameL l m && (t == s)))∧Below w.heap.size w w':=by
  have HC:Hid (Cells w a l):=hc
  have HC':Hid (Cells w a' m):=hc'
  clear hc hc'
  cases hts:(t == s)
  · go_enter Tryz.func84,Tryz.ntmps84
    go_wp2
    go_ret
    refine ⟨by simp,?_⟩
    repeat (first | exact Below.refl _ _ | refine below_drewN ?_ _ | refine Below.drew ?_ | refine Below.alloc ?_ (by simp;try omega) _)
  · go_enter Tryz.func84,Tryz.ntmps84
    go_wp2_with fail
    refine (equalFiles_any a a' cap cap' l m _ hl hm (by exact (HC.out.alloc _).alloc _) (by exact (HC'.out.alloc _).alloc _)).mono ?_
    rintro e w1 ⟨rfl,n1,hw⟩
    rw [hw]
    clear hw w1
    go_wp2
    go_ret
    refine ⟨by simp,?_⟩
    repeat (first | exact Below.refl _ _ | refine below_drewN ?_ _ | refine Below.drew ?_ | refine Below.alloc ?_ (by simp;try omega) _)
structure Co where
  is:Bool
  a:Option Addr
  cap:Nat
  l:List Fi
  t:Int
abbrev Co.v (c:Co):Value:=.agg #[.bool c.is,.slice c.a c.l.length c.cap,.int .i64 c.t]
abbrev Co.q (c:Co):Value:=.agg #[.slice c.a c.l.length c.cap,.int .i64 c.t]
structure CoOk (w:World)(c:Co):Prop where
  slice:Slice w c.a c.cap c.l
  few:c.l.length≤100
theorem CoOk.below {w w':World}{c:Co}(h:CoOk w c)(hb:Below w.heap.size w w'):CoOk w' c:=⟨h.slice.below hb,h.few⟩
def sameQ (x y:Co):Bool:=sameL x.l y.l && (x.t == y.t)
def sameCo (x y:Co):Bool:=if x.is=true∧y.is=true then sameQ x y else x.is == y.is
set_option maxRecDepth 100000 in
set_option maxHeartbeats 1000000 in
theorem voteSame_any (x y:Co)(w:World)(hx:CoOk w x)(hy:CoOk w y) :
    Calls Tryz.prog 58 #[x.v,y.v] w fun e w'=>e=.returned (.bool (sameCo x y))∧Below w.heap.size w w':=by
  have HX:Hid (CoOk w x):=hx
  have HY:Hid (CoOk w y):=hy
  clear hx hy
  cases h1:x.is
  · cases h2:y.is
    all_goals
      have HS:Hid (sameCo x y=(x.is == y.is)):=by show _=_;simp [sameCo,h1]
      rw [HS.out,h1,h2]
      go_enter Tryz.func58,Tryz.ntmps58
      go_wp2
      go_ret
      exact ⟨rfl,by repeat (first | exact Below.refl _ _ | refine below_drewN ?_ _ | refine Below.drew ?_ | refine Below.alloc ?_ (by simp;try omega) _)⟩
  · cases h2:y.is
    · have HS:Hid (sameCo x y=(x.is == y.is)):=by show _=_;simp [sameCo,h2]
      rw [HS.out,h1,h2]
      go_enter Tryz.func58,Tryz.ntmps58
      go_wp2
      go_ret
      exact ⟨rfl,by repeat (first | exact Below.refl _ _ | refine below_drewN ?_ _ | refine Below.drew ?_ | refine Below.alloc ?_ (by simp;try omega) _)⟩
    · have HS:Hid (sameCo x y=sameQ x y):=by show _=_;simp [sameCo,h1,h2]
      rw [HS.out]
      have f1:=HX.out.few
      have f2:=HY.out.few
      go_enter Tryz.func58,Tryz.ntmps58
      go_wp2_with fail
      refine (quiltSame_any x.a y.a x.cap y.cap x.l y.l x.t y.t _ (by omega) (by omega) (by exact ((HX.out.slice.cells.alloc _).alloc _)) (by exact ((HY.out.slice.cells.alloc _).alloc _))).mono ?_
      rintro e w1 ⟨rfl,hb⟩
      have HB:Hid (Below w.heap.size w w1):=(((Below.refl _ _).alloc (Nat.le_refl _) _).alloc (by simp) _).trans (hb.mono (by simp;omega))
      clear hb
      go_wp2
      go_ret
      exact ⟨rfl,HB.out⟩
set_option maxRecDepth 100000 in
set_option maxHeartbeats 1000000 in
theorem sameCopy_any (x y:Co)(w:World)(hx:CoOk w x)(hy:CoOk w y) :
    Calls Tryz.prog 18 #[x.v,y.v] w fun e w'=>e=.returned (.bool (sameCo x y))∧Below w.heap.size w w':=by
  have HX:Hid (CoOk w x):=hx
  have HY:Hid (CoOk w y):=hy
  clear hx hy
  cases h1:x.is
  · cases h2:y.is
    all_goals
      have HS:Hid (sameCo x y=(x.is == y.is)):=by show _=_;simp [sameCo,h1]
      rw [HS.out,h1,h2]
      go_enter Tryz.func18,Tryz.ntmps18
      go_wp2
      go_ret
      exact ⟨rfl,by repeat (first | exact Below.refl _ _ | refine below_drewN ?_ _ | refine Below.drew ?_ | refine Below.alloc ?_ (by simp;try omega) _)⟩
  · cases h2:y.is
    · have HS:Hid (sameCo x y=(x.is == y.is)):=by show _=_;simp [sameCo,h2]
      rw [HS.out,h1,h2]
      go_enter Tryz.func18,Tryz.ntmps18
      go_wp2
      go_ret
      exact ⟨rfl,by repeat (first | exact Below.refl _ _ | refine below_drewN ?_ _ | refine Below.drew ?_ | refine Below.alloc ?_ (by simp;try omega) _)⟩
    · have HS:Hid (sameCo x y=sameQ x y):=by show _=_;simp [sameCo,h1,h2]
      rw [HS.out]
      have f1:=HX.out.few
      have f2:=HY.out.few
      go_enter Tryz.func18,Tryz.ntmps18
      go_wp2_with fail
      refine (sameQuilt_any x.a y.a x.cap y.cap x.l y.l x.t y.t _ (by omega) (by omega) (by exact ((HX.out.slice.cells.alloc _).alloc _)) (by exact ((HY.out.slice.cells.alloc _).alloc _))).mono ?_
      rintro e w1 ⟨rfl,hb⟩
      have HB:Hid (Below w.heap.size w w1):=(((Below.refl _ _).alloc (Nat.le_refl _) _).alloc (by simp) _).trans (hb.mono (by simp;omega))
      clear hb
      go_wp2
      go_ret
      exact ⟨rfl,HB.out⟩
theorem rowFar {w w':World}{B:Nat}{e:TypeId}{size:Nat}{v:Value}{n:Nat}{xs:List Value}(h:w.ownsRow B e size v n xs)(hk:∀ g,v.ownBlock=some g→w'.heap[g]?=w.heap[g]?):w'.ownsRow B e size v n xs:=by
  refine ⟨h.1,?_⟩
  rcases h.2 with h0 | ⟨g,cap,cur,e,hg,hh,rest⟩
  · exact .inl h0
  · exact .inr ⟨g,cap,cur,e,hg,by rw [hk g (by rw [e];rfl)];exact hh,rest⟩
theorem Owns.over {w:World}{b:Nat}{v:Value}{l:List Fi}(h:Owns w (b+1) v l)(y:Value):Owns ((w.setCell ⟨b,0,none⟩ v).setCell ⟨b,1,none⟩ y) (b+1) v l :=
  rowFar h fun g hg=>by
    have hge:=(h.lt g hg).1
    rw [Below.heap_setCell _ _ _ _ (by show g≠b;omega),Below.heap_setCell _ _ _ _ (by show g≠b;omega)]
set_option maxRecDepth 100000 in
set_option maxHeartbeats 1000000 in
theorem quiltClone_any (x:Co)(w:World)(hx:CoOk w x) :
    Calls Tryz.prog 27 #[x.q] w fun e w'=>∃ a cap,e=.returned (.agg #[.slice a x.l.length cap,.int .i64 x.t])∧Owns w' w.heap.size (.slice a x.l.length cap) x.l∧Below w.heap.size w w':=by
  have HX:Hid (CoOk w x):=hx
  clear hx
  go_enter Tryz.func27,Tryz.ntmps27
  have hfew:=HX.out.few
  go_wp2_with fail
  go_region_with (go_at_call 52
                  refine (clone_any x.a x.cap x.l _ (by omega) (by refine HX.out.slice.below ?_;repeat (first | exact Below.refl _ _ | refine Below.drew ?_ | refine below_drewN ?_ _ | refine Below.alloc ?_ (by simp;try omega) _))).mono ?_
                  rintro e w3 ⟨v,rfl,hown,hb⟩
                  have hb4:=Below.undrew hb
                  obtain ⟨cc,cf⟩:=bcell' hb4
                  have z1:=cc w.heap.size 1 (by simp;omega)
                  have y0:=cc (w.heap.size+1) 0 (by simp)
                  have y1:=cc (w.heap.size+1) 1 (by simp)
                  have g0:=cf (w.heap.size+1) 0 (by simp)
                  have g1:=cf (w.heap.size+1) 1 (by simp)
                  simp at z1 y0 y1 g0 g1
                  have HB3:Hid (Below w.heap.size w w3):=(((Below.refl _ _).alloc (Nat.le_refl _) _).alloc (by simp) _).trans (hb4.mono (by simp;omega))
                  obtain ⟨p3,cap3,e3,_⟩:=hown.slice
                  subst e3
                  have HO3:Hid (Owns w3 (w.heap.size+1+1) (.slice p3 x.l.length cap3) x.l):=by have h:=hown;simp only [World.size_drew,World.size_alloc] at h;exact h
                  have hz3:=hb4.size
                  simp only [World.size_alloc] at hz3
                  have hz4:w.heap.size+1<w3.heap.size:=by omega
                  clear hb hb4 cc cf hown hz3)
  all_goals
    go_wp2
    refine bodyPost_ret (v:=.agg #[.slice p3 x.l.length cap3,.int .i64 x.t]) (by simp [results,Tryz.results27,go_sem,y0,y1,g0,g1,hz4]) rfl ⟨p3,cap3,rfl,(Owns.over HO3.out (.int .i64 x.t)).base (by omega),?_⟩
    exact (HB3.out.setCell (by simp) _).setCell (by simp) _
abbrev OwnsN (w:World)(base:Nat)(v:Value)(l:List Int):Prop:=w.ownsRow base 3 1 v l.length (l.map (Value.int .i64))
def Nums (w:World)(a:Option Addr)(l:List Int):Prop :=
  ∀ i (h:i<l.length),∃ b off,a=some ⟨b,off,none⟩∧w.cell? ⟨b,off+i,none⟩=some (.int .i64 l[i])
theorem OwnsN.nums {w:World}{base:Nat}{v:Value}{l:List Int}(h:OwnsN w base v l):∃ a cap,v=.slice a l.length cap∧Nums w a l:=by
  rcases h.2 with ⟨rfl,h0⟩ | ⟨g,cap,cur,rfl,hb,hg,hn,hm,hs,ht⟩
  · have e:l=[]:=List.eq_nil_of_length_eq_zero h0
    subst e
    exact ⟨none,0,rfl,fun i h=>absurd h (Nat.not_lt_zero _)⟩
  · refine ⟨some ⟨g,0,none⟩,cap,rfl,?_⟩
    intro i hi
    refine ⟨g,0,rfl,?_⟩
    rw [h.cellAt (0+i) (by omega),Nat.zero_add]
    simp [hi]
abbrev threeV (x y z:Co):Value:=.agg #[.bool x.is,.slice x.a x.l.length x.cap,.int .i64 x.t,.bool y.is,.slice y.a y.l.length y.cap,.int .i64 y.t,.bool z.is,.slice z.a z.l.length z.cap,.int .i64 z.t]
def rightC (a:Option Addr)(cap:Nat)(l:List Fi)(t:Int):Co:=⟨true,a,cap,l,t⟩
def wrongL (x y z q:Co):List Int:=(if sameCo x q=true then [] else [0]) ++ ((if sameCo y q=true then [] else [1]) ++ (if sameCo z q=true then [] else [2]))
def wrongTo (x y z q:Co):Nat→List Int
  | 0=>[]
  | 1=>if sameCo x q=true then [] else [0]
  | 2=>(if sameCo x q=true then [] else [0]) ++ (if sameCo y q=true then [] else [1])
  | _=>wrongL x y z q
theorem wrongTo_len (x y z q:Co)(k:Nat):(wrongTo x y z q k).length≤3:=by
  unfold wrongTo
  split
  · simp
  · split <;> simp
  · split <;> split <;> simp
  · unfold wrongL
    split <;> split <;> split <;> simp
theorem OwnsN.below {w w':World}{B:Nat}{v:Value}{l:List Int}(h:OwnsN w B v l)(hb:Below w.heap.size w w'):OwnsN w' B v l :=
  rowFar h fun g hg=>hb.block g (h.lt g hg).2
theorem OwnsN.snoc {w:World}{B:Nat}{v:Value}{l:List Int}{k:Int}(h:w.ownsRow B 3 1 v (l.length+1) (l.map (Value.int .i64) ++ [.int .i64 k])):OwnsN w B v (l ++ [k]):=by
  show World.ownsRow _ _ _ _ _ _ _
  rw [List.map_append,List.length_append]
  exact h
theorem OwnsN.base {w:World}{B B':Nat}{v:Value}{l:List Int}(h:OwnsN w B v l)(hb:B'≤B):OwnsN w B' v l:=by
  refine ⟨h.1,?_⟩
  rcases h.2 with h0 | ⟨g,cap,cur,e,hg,rest⟩
  · exact .inl h0
  · exact .inr ⟨g,cap,cur,e,by omega,rest⟩
theorem cell_one_newN (w:World)(a:Value)(t:TypeId):∀ j u,[a][j]?=some u→(w.alloc (.cells #[a] t)).cell? ((⟨w.heap.size,0,none⟩:Addr).add j)=some u:=by
  intro j u hj
  match j,hj with
  | 0,hj=>simp at hj;subst hj;simp [Addr.add]
  | j+1,hj=>simp at hj
structure RightBox (w0:World)(b:Nat)(q:Co):Prop where
  c0:w0.cell? ⟨b,0,none⟩=some (.bool q.is)
  c1:w0.cell? ⟨b,1,none⟩=some (.slice q.a q.l.length q.cap)
  c2:w0.cell? ⟨b,2,none⟩=some (.int .i64 q.t)
theorem rightBox_new (W:World)(q:Co)(hq:q.is=true)(b:Nat)(T:TypeId)(hb:b=W.heap.size):RightBox (W.alloc (Obj.cells #[.bool true,.slice q.a q.l.length q.cap,.int .i64 q.t] T)) b q:=by
  subst hb
  exact ⟨by rw [hq];simp,by simp,by simp⟩
theorem index3_0 (x y z:Co)(w:World):(Instr.index 48 (threeV x y z) (.int .i64 0)).run Tryz.prog w=.ok x.v w:=by kernel_rfl
theorem index3_1 (x y z:Co)(w:World):(Instr.index 48 (threeV x y z) (.int .i64 1)).run Tryz.prog w=.ok y.v w:=by kernel_rfl
theorem index3_2 (x y z:Co)(w:World):(Instr.index 48 (threeV x y z) (.int .i64 2)).run Tryz.prog w=.ok z.v w:=by kernel_rfl
theorem RightBox.cells {w0:World}{b:Nat}{q:Co}(h:RightBox w0 b q)(w:World)(hb:Below (b+1) w0 w):w.cell? ⟨b,0,none⟩=some (.bool q.is)∧w.cell? ⟨b,1,none⟩=some (.slice q.a q.l.length q.cap)∧w.cell? ⟨b,2,none⟩=some (.int .i64 q.t) :=
  ⟨by rw [hb.cell (by simp)];exact h.c0,by rw [hb.cell (by simp)];exact h.c1,by rw [hb.cell (by simp)];exact h.c2⟩
theorem Tryz.infoInt:(Tryz.prog.info? 3).map (fun i=>(i.zero,i.size,i.bytes))=some (some (.int .i64 0),1,8):=by kernel_rfl
set_option maxRecDepth 100000 in
set_option maxHeartbeats 4000000 in
theorem wrong_any (x y z:Co) (a:Option Addr) (cap:Nat) (l:List Fi) (t:Int) (w:World) (hx:CoOk w x) (hy:CoOk w y) (hz:CoOk w z) (hq:CoOk w (rightC a cap l t)) :
    Calls Tryz.prog 85 #[threeV x y z,.agg #[.slice a l.length cap,.int .i64 t]] w fun e w'=>∃ v,e=.returned v∧OwnsN w' w.heap.size v (wrongL x y z (rightC a cap l t))∧Below w.heap.size w w':=by
  obtain ⟨i0,hi,hz0,hz1,hz2'⟩:=info_parts Tryz.infoInt
  have HX:Hid (CoOk w x):=hx
  have HY:Hid (CoOk w y):=hy
  have HZ:Hid (CoOk w z):=hz
  have HQ:Hid (CoOk w (rightC a cap l t)):=hq
  clear hx hy hz hq
  go_enter Tryz.func85,Tryz.ntmps85
  go_wp2_with fail
  obtain ⟨w0,hw0⟩:∃ u,u=(((w.alloc (Obj.cells #[Value.bool x.is,Value.slice x.a x.l.length x.cap,Value.int IntKind.i64 x.t,Value.bool y.is,Value.slice y.a y.l.length y.cap,Value.int IntKind.i64 y.t,Value.bool z.is,Value.slice z.a z.l.length z.cap,Value.int IntKind.i64 z.t] 48)).alloc
    (Obj.cells #[Value.slice a l.length cap,Value.int IntKind.i64 t] 32)).alloc (Obj.cells #[Value.bool true,Value.slice a l.length cap,Value.int IntKind.i64 t] 47)):=⟨_,rfl⟩
  have HB0:Hid (Below w.heap.size w w0):=by rw [hw0];exact (((Below.refl _ _).alloc (Nat.le_refl _) _).alloc (by simp) _).alloc (by simp;omega) _
  have HZ0:Hid (w0.heap.size=w.heap.size+3):=by rw [hw0];show _=_;simp
  have HR:Hid (RightBox w0 (w.heap.size+1+1) (rightC a cap l t)):=by rw [hw0];exact rightBox_new _ (rightC a cap l t) rfl _ _ (by simp)
  rw [← hw0]
  clear hw0
  go_loopg [6,12] 4 (fun kx vp vi wr=>∃ k:Nat,vi=.int .i64 k∧k≤3∧3 - k≤kx∧Hid (OwnsN wr (w.heap.size+3) vp (wrongTo x y z (rightC a cap l t) k))∧Hid (Below (w.heap.size+3) w0 wr))
  case atStart=>exact ⟨0,rfl,by omega,by omega,World.ownsRow_nil _ _ _ _,Below.refl _ _⟩
  case round =>
    obtain ⟨k,rfl,hk,hkx,HO,HB⟩:=hrel
    have HBW:Hid (Below w.heap.size w wr):=HB0.out.trans (HB.out.mono (by omega))
    have hzw:=HZ0.out
    by_cases h0:k=0
    · subst h0
      have hidx:=index3_0 x y z
      have hcon:=voteSame_any x (rightC a cap l t) (wr.alloc (Obj.cells #[.bool x.is,.slice x.a x.l.length x.cap,.int .i64 x.t] 47)) (HX.out.below (HBW.out.alloc HBW.out.size _)) (HQ.out.below (HBW.out.alloc HBW.out.size _))
      have HCON:Hid _:=hcon
      clear hcon
      obtain ⟨r0,r1,r2⟩:=HR.out.cells wr HB.out
      simp only [rightC] at r0 r1 r2
      have hzr:=HB.out.size
      have hzr2:w.heap.size+1+1<wr.heap.size:=by omega
      cases hs:sameCo x (rightC a cap l t)
      · go_wp2_with fail
        refine Calls.mono HCON.out ?_
        rintro _ w2 ⟨rfl,hb2⟩
        rw [hs]
        have HB2:Hid (Below (w.heap.size+3) w0 w2):=(HB.out.alloc (by omega) _).trans (hb2.mono (by simp;omega))
        have HO2:Hid (OwnsN w2 (w.heap.size+3) u6 (wrongTo x y z (rightC a cap l t) 0)):=OwnsN.below (HO.out.alloc _) hb2
        have hz2:=HB2.out.size
        clear hb2 HCON
        go_wp2_with (at_builtin;refine wpList_append_own _ rfl _ _ 120 rfl (w.heap.size+3) 3 i0 _ 1 8 Tryz.underlying120 hi hz0 hz1 hz2' rfl (by decide) _ _ _ rfl (HO2.out.alloc _) ⟨w2.heap.size,0,none⟩ 1 1 [.int .i64 0] rfl rfl (cell_one_newN _ _ _) (by intro u hu;simp at hu;subst hu;rfl) (by unfold maxLen;have:=wrongTo_len x y z (rightC a cap l t) 0;omega) (by have:=wrongTo_len x y z (rightC a cap l t) 0;omega) (by simp;omega) ?_;intro v3 w3 hown3 hgrow3 hnil3)
        go_wp2
        go_roundg (3 - (0+1))
        case measure=>omega
        case rel =>
          refine ⟨0+1,by go_num,by omega,Nat.le_refl _,?_,(HB2.out.alloc (by omega) _).grown hgrow3 (by simp;omega) (fun q hq=>(HO2.out.lt q hq).1)⟩
          show OwnsN _ _ _ _
          have e:wrongTo x y z (rightC a cap l t) (0+1)=wrongTo x y z (rightC a cap l t) 0 ++ [0]:=by simp [wrongTo,wrongL,hs]
          rw [e]
          exact OwnsN.snoc hown3
      · go_wp2_with fail
        refine Calls.mono HCON.out ?_
        rintro _ w2 ⟨rfl,hb2⟩
        rw [hs]
        have HB2:Hid (Below (w.heap.size+3) w0 w2):=(HB.out.alloc (by omega) _).trans (hb2.mono (by simp;omega))
        have HO2:Hid (OwnsN w2 (w.heap.size+3) u6 (wrongTo x y z (rightC a cap l t) 0)):=OwnsN.below (HO.out.alloc _) hb2
        clear hb2 HCON
        go_wp2
        go_roundg (3 - (0+1))
        case measure=>omega
        case rel =>
          refine ⟨0+1,by go_num,by omega,Nat.le_refl _,?_,HB2⟩
          have e:wrongTo x y z (rightC a cap l t) (0+1)=wrongTo x y z (rightC a cap l t) 0:=by simp [wrongTo,wrongL,hs]
          rw [e]
          exact HO2
    · by_cases h1:k=1
      · subst h1
        have hidx:=index3_1 x y z
        have hcon:=voteSame_any y (rightC a cap l t) (wr.alloc (Obj.cells #[.bool y.is,.slice y.a y.l.length y.cap,.int .i64 y.t] 47)) (HY.out.below (HBW.out.alloc HBW.out.size _)) (HQ.out.below (HBW.out.alloc HBW.out.size _))
        have HCON:Hid _:=hcon
        clear hcon
        obtain ⟨r0,r1,r2⟩:=HR.out.cells wr HB.out
        simp only [rightC] at r0 r1 r2
        have hzr:=HB.out.size
        have hzr2:w.heap.size+1+1<wr.heap.size:=by omega
        cases hs:sameCo y (rightC a cap l t)
        · go_wp2_with fail
          refine Calls.mono HCON.out ?_
          rintro _ w2 ⟨rfl,hb2⟩
          rw [hs]
          have HB2:Hid (Below (w.heap.size+3) w0 w2):=(HB.out.alloc (by omega) _).trans (hb2.mono (by simp;omega))
          have HO2:Hid (OwnsN w2 (w.heap.size+3) u6 (wrongTo x y z (rightC a cap l t) 1)):=OwnsN.below (HO.out.alloc _) hb2
          have hz2:=HB2.out.size
          clear hb2 HCON
          go_wp2_with (at_builtin;refine wpList_append_own _ rfl _ _ 120 rfl (w.heap.size+3) 3 i0 _ 1 8 Tryz.underlying120 hi hz0 hz1 hz2' rfl (by decide) _ _ _ rfl (HO2.out.alloc _) ⟨w2.heap.size,0,none⟩ 1 1 [.int .i64 1] rfl rfl (cell_one_newN _ _ _) (by intro u hu;simp at hu;subst hu;rfl) (by unfold maxLen;have:=wrongTo_len x y z (rightC a cap l t) 1;omega) (by have:=wrongTo_len x y z (rightC a cap l t) 1;omega) (by simp;omega) ?_;intro v3 w3 hown3 hgrow3 hnil3)
          go_wp2
          go_roundg (3 - (1+1))
          case measure=>omega
          case rel =>
            refine ⟨1+1,by go_num,by omega,Nat.le_refl _,?_,(HB2.out.alloc (by omega) _).grown hgrow3 (by simp;omega) (fun q hq=>(HO2.out.lt q hq).1)⟩
            show OwnsN _ _ _ _
            have e:wrongTo x y z (rightC a cap l t) (1+1)=wrongTo x y z (rightC a cap l t) 1 ++ [1]:=by simp [wrongTo,wrongL,hs]
            rw [e]
            exact OwnsN.snoc hown3
        · go_wp2_with fail
          refine Calls.mono HCON.out ?_
          rintro _ w2 ⟨rfl,hb2⟩
          rw [hs]
          have HB2:Hid (Below (w.heap.size+3) w0 w2):=(HB.out.alloc (by omega) _).trans (hb2.mono (by simp;omega))
          have HO2:Hid (OwnsN w2 (w.heap.size+3) u6 (wrongTo x y z (rightC a cap l t) 1)):=OwnsN.below (HO.out.alloc _) hb2
          clear hb2 HCON
          go_wp2
          go_roundg (3 - (1+1))
          case measure=>omega
          case rel =>
            refine ⟨1+1,by go_num,by omega,Nat.le_refl _,?_,HB2⟩
            have e:wrongTo x y z (rightC a cap l t) (1+1)=wrongTo x y z (rightC a cap l t) 1:=by simp [wrongTo,wrongL,hs]
            rw [e]
            exact HO2
      · by_cases h2:k=2
        · subst h2
          have hidx:=index3_2 x y z
          have hcon:=voteSame_any z (rightC a cap l t) (wr.alloc (Obj.cells #[.bool z.is,.slice z.a z.l.length z.cap,.int .i64 z.t] 47)) (HZ.out.below (HBW.out.alloc HBW.out.size _)) (HQ.out.below (HBW.out.alloc HBW.out.size _))
          have HCON:Hid _:=hcon
          clear hcon
          obtain ⟨r0,r1,r2⟩:=HR.out.cells wr HB.out
          simp only [rightC] at r0 r1 r2
          have hzr:=HB.out.size
          have hzr2:w.heap.size+1+1<wr.heap.size:=by omega
          cases hs:sameCo z (rightC a cap l t)
          · go_wp2_with fail
            refine Calls.mono HCON.out ?_
            rintro _ w2 ⟨rfl,hb2⟩
            rw [hs]
            have HB2:Hid (Below (w.heap.size+3) w0 w2):=(HB.out.alloc (by omega) _).trans (hb2.mono (by simp;omega))
            have HO2:Hid (OwnsN w2 (w.heap.size+3) u6 (wrongTo x y z (rightC a cap l t) 2)):=OwnsN.below (HO.out.alloc _) hb2
            have hz2:=HB2.out.size
            clear hb2 HCON
            go_wp2_with (at_builtin;refine wpList_append_own _ rfl _ _ 120 rfl (w.heap.size+3) 3 i0 _ 1 8 Tryz.underlying120 hi hz0 hz1 hz2' rfl (by decide) _ _ _ rfl (HO2.out.alloc _) ⟨w2.heap.size,0,none⟩ 1 1 [.int .i64 2] rfl rfl (cell_one_newN _ _ _) (by intro u hu;simp at hu;subst hu;rfl) (by unfold maxLen;have:=wrongTo_len x y z (rightC a cap l t) 2;omega) (by have:=wrongTo_len x y z (rightC a cap l t) 2;omega) (by simp;omega) ?_;intro v3 w3 hown3 hgrow3 hnil3)
            go_wp2
            go_roundg (3 - (2+1))
            case measure=>omega
            case rel =>
              refine ⟨2+1,by go_num,by omega,Nat.le_refl _,?_,(HB2.out.alloc (by omega) _).grown hgrow3 (by simp;omega) (fun q hq=>(HO2.out.lt q hq).1)⟩
              show OwnsN _ _ _ _
              have e:wrongTo x y z (rightC a cap l t) (2+1)=wrongTo x y z (rightC a cap l t) 2 ++ [2]:=by simp [wrongTo,wrongL,hs]
              rw [e]
              exact OwnsN.snoc hown3
          · go_wp2_with fail
            refine Calls.mono HCON.out ?_
            rintro _ w2 ⟨rfl,hb2⟩
            rw [hs]
            have HB2:Hid (Below (w.heap.size+3) w0 w2):=(HB.out.alloc (by omega) _).trans (hb2.mono (by simp;omega))
            have HO2:Hid (OwnsN w2 (w.heap.size+3) u6 (wrongTo x y z (rightC a cap l t) 2)):=OwnsN.below (HO.out.alloc _) hb2
            clear hb2 HCON
            go_wp2
            go_roundg (3 - (2+1))
            case measure=>omega
            case rel =>
              refine ⟨2+1,by go_num,by omega,Nat.le_refl _,?_,HB2⟩
              have e:wrongTo x y z (rightC a cap l t) (2+1)=wrongTo x y z (rightC a cap l t) 2:=by simp [wrongTo,wrongL,hs]
              rw [e]
              exact HO2
        · have h3:k=3:=by omega
          subst h3
          go_wp2
          go_ret
          exact ⟨_,rfl,HO.out.base (by omega),HBW.out⟩
structure NineBox (w:World)(b:Nat)(x y z:Co):Prop where
  x0:w.cell? ⟨b,0,none⟩=some (.bool x.is)
  x1:w.cell? ⟨b,1,none⟩=some (.slice x.a x.l.length x.cap)
  x2:w.cell? ⟨b,2,none⟩=some (.int .i64 x.t)
  y0:w.cell? ⟨b,3,none⟩=some (.bool y.is)
  y1:w.cell? ⟨b,4,none⟩=some (.slice y.a y.l.length y.cap)
  y2:w.cell? ⟨b,5,none⟩=some (.int .i64 y.t)
  z0:w.cell? ⟨b,6,none⟩=some (.bool z.is)
  z1:w.cell? ⟨b,7,none⟩=some (.slice z.a z.l.length z.cap)
  z2:w.cell? ⟨b,8,none⟩=some (.int .i64 z.t)
theorem NineBox.below {w w':World}{b:Nat}{x y z:Co}(h:NineBox w b x y z){B:Nat}(hb:Below B w w')(hB:b<B):NineBox w' b x y z :=
  ⟨by rw [hb.cell hB];exact h.x0,by rw [hb.cell hB];exact h.x1,by rw [hb.cell hB];exact h.x2,by rw [hb.cell hB];exact h.y0,by rw [hb.cell hB];exact h.y1,by rw [hb.cell hB];exact h.y2,by rw [hb.cell hB];exact h.z0,by rw [hb.cell hB];exact h.z1,by rw [hb.cell hB];exact h.z2⟩
theorem NineBox.new (w:World)(x y z:Co)(T:TypeId):NineBox (w.alloc (Obj.cells #[.bool x.is,.slice x.a x.l.length x.cap,.int .i64 x.t,.bool y.is,.slice y.a y.l.length y.cap,.int .i64 y.t,.bool z.is,.slice z.a z.l.length z.cap,.int .i64 z.t] T)) w.heap.size x y z :=
  ⟨by simp,by simp,by simp,by simp,by simp,by simp,by simp,by simp,by simp⟩
structure CoBox (w:World)(b:Nat)(x:Co):Prop where
  c0:w.cell? ⟨b,0,none⟩=some (.bool x.is)
  c1:w.cell? ⟨b,1,none⟩=some (.slice x.a x.l.length x.cap)
  c2:w.cell? ⟨b,2,none⟩=some (.int .i64 x.t)
theorem CoBox.lt {w:World}{b:Nat}{x:Co}(h:CoBox w b x):b<w.heap.size:=World.block_lt_of_cell? _ _ h.c0
theorem CoBox.below {w w':World}{b:Nat}{x:Co}(h:CoBox w b x)(hb:Below w.heap.size w w'):CoBox w' b x :=
  ⟨by rw [hb.cell h.lt];exact h.c0,by rw [hb.cell h.lt];exact h.c1,by rw [hb.cell h.lt];exact h.c2⟩
def CoCells (w:World)(b off:Nat)(cs:List Co):Prop :=
  ∀ i (h:i<cs.length),(w.cell? ⟨b,off+i * 3,none⟩=some (.bool cs[i].is)∧w.cell? ⟨b,off+i * 3+1,none⟩=some (.slice cs[i].a cs[i].l.length cs[i].cap)∧w.cell? ⟨b,off+i * 3+2,none⟩=some (.int .i64 cs[i].t))∧CoOk w cs[i]
theorem CoCells.below {w w':World}{b off:Nat}{cs:List Co}(h:CoCells w b off cs)(hb:Below w.heap.size w w'):CoCells w' b off cs:=by
  intro i hi
  obtain ⟨⟨c0,c1,c2⟩,ok⟩:=h i hi
  exact ⟨⟨by rw [hb.cell (World.block_lt_of_cell? _ _ c0)];exact c0,by rw [hb.cell (World.block_lt_of_cell? _ _ c1)];exact c1,by rw [hb.cell (World.block_lt_of_cell? _ _ c2)];exact c2⟩,ok.below hb⟩
set_option maxRecDepth 100000 in
set_option maxHeartbeats 1000000 in
theorem ofSame_any (x o:Co)(b:Nat)(w:World)(hb:CoBox w b x)(hx:CoOk w x)(ho:CoOk w o) :
    Calls Tryz.prog 57 #[o.v,.pointer (some ⟨b,0,none⟩)] w fun e w'=>e=.returned (.bool (sameCo x o))∧Below w.heap.size w w':=by
  obtain ⟨c0,c1,c2⟩:=hb
  have hlt:=World.block_lt_of_cell? _ _ c0
  have hbw:Below w.heap.size w (w.alloc (Obj.cells #[.bool o.is,.slice o.a o.l.length o.cap,.int .i64 o.t] 47)):=(Below.refl _ _).alloc (Nat.le_refl _) _
  have hcon:=voteSame_any x o _ (hx.below hbw) (ho.below hbw)
  have HCON:Hid _:=hcon
  have HBW:Hid _:=hbw
  clear hcon hbw hx ho
  go_enter Tryz.func57,Tryz.ntmps57
  go_wp2_with fail
  refine Calls.mono HCON.out ?_
  rintro _ w1 ⟨rfl,hb1⟩
  have HB1:Hid (Below w.heap.size w w1):=Below.trans HBW.out (hb1.mono (by simp))
  clear hb1 HCON
  go_wp2
  go_ret
  exact ⟨rfl,HB1.out⟩
set_option maxRecDepth 100000 in
set_option maxHeartbeats 1000000 in
theorem indexFunc_any (x:Co) (cs:List Co) (b B off cap:Nat) (w:World) (hl:cs.length≤100) (hb:CoBox w b x) (hx:CoOk w x) (hc:CoCells w B off cs) :
    Calls Tryz.prog 83 #[.slice (some ⟨B,off,none⟩) cs.length cap,.func (.func 57) #[] #[.pointer (some ⟨b,0,none⟩)]] w fun e w'=>(∃ k:Int,e=.returned (.int .i64 k) ∧ -1≤k∧k≤1000∧decide (0≤k)=cs.any (sameCo x))∧Below w.heap.size w w':=by
  have HBX:Hid (CoBox w b x):=hb
  have HX:Hid (CoOk w x):=hx
  have HC:Hid (CoCells w B off cs):=hc
  clear hb hx hc
  go_enter Tryz.func83,Tryz.ntmps83
  go_wp2_with fail
  go_loopg [8] (cs.length+1) (fun kx vi wr=>∃ k:Nat,vi=.int .i64 k∧k≤cs.length∧cs.length - k≤kx∧Hid (Below w.heap.size w wr)∧Hid (∀ j (h:j<cs.length),j<k→sameCo x cs[j]=false))
  case atStart=>exact ⟨0,rfl,Nat.zero_le _,by omega,Below.refl _ _,fun j h h2=>absurd h2 (Nat.not_lt_zero _)⟩
  case round =>
    obtain ⟨k,rfl,hk,hkx,HB,HN⟩:=hrel
    by_cases hlt:k<cs.length
    · have hltz:(k:Int)<(cs.length:Int):=by omega
      obtain ⟨⟨c0,c1,c2⟩,ok⟩:=HC.out.below HB.out k hlt
      have kc:=fun W (h:Below wr.heap.size wr W)=>ofSame_any x cs[k] b W ((HBX.out.below HB.out).below h) ((HX.out.below HB.out).below h) (ok.below h)
      have kcH:Hid (∀ W,Below wr.heap.size wr W→Calls Tryz.prog 57 _ W _):=kc
      clear kc ok
      cases hs:sameCo x cs[k]
      · have HS:Hid (sameCo x cs[k]=false):=hs
        go_wp2_with fail
        refine Calls.mono (kcH.out _ (Below.refl _ _)) ?_
        rintro _ w2 ⟨rfl,hb2⟩
        rw [hs]
        have HB2:Hid (Below w.heap.size w w2):=HB.out.trans (hb2.mono HB.out.size)
        clear hb2 kcH c0 c1 c2 hs
        go_wp2
        go_roundg (cs.length - (k+1))
        case measure=>omega
        case rel =>
          refine ⟨k+1,by go_num,by omega,Nat.le_refl _,HB2,(show Hid _ from fun j h h2=>?_)⟩
          rcases Nat.lt_or_ge j k with h3 | h3
          · exact HN.out j h h3
          · have e:j=k:=by omega
            subst e
            exact HS.out
      · have HS:Hid (cs.any (sameCo x)=true):=by
          show _=_
          rw [List.any_eq_true]
          exact ⟨cs[k],List.getElem_mem hlt,hs⟩
        go_wp2_with fail
        refine Calls.mono (kcH.out _ (Below.refl _ _)) ?_
        rintro _ w2 ⟨rfl,hb2⟩
        rw [hs]
        have HB2:Hid (Below w.heap.size w w2):=HB.out.trans (hb2.mono HB.out.size)
        clear hb2 kcH c0 c1 c2 hs
        go_wp2
        go_ret
        exact ⟨⟨k,rfl,by omega,by omega,by rw [HS.out];exact decide_eq_true (by omega)⟩,HB2.out⟩
    · go_wp2
      go_ret
      refine ⟨⟨-1,rfl,by omega,by omega,?_⟩,HB.out⟩
      have e:cs.any (sameCo x)=false:=by
        rw [List.any_eq_false]
        intro o ho
        obtain ⟨j,hj,rfl⟩:=List.getElem_of_mem ho
        rw [HN.out j hj (by omega)]
        simp
      rw [e]
      rfl
set_option maxRecDepth 100000 in
set_option maxHeartbeats 1000000 in
theorem containsFunc_any (x:Co)(cs:List Co)(b B off cap:Nat)(w:World)(hl:cs.length≤100)(hb:CoBox w b x)(hx:CoOk w x)(hc:CoCells w B off cs) :
    Calls Tryz.prog 56 #[.slice (some ⟨B,off,none⟩) cs.length cap,.func (.func 57) #[] #[.pointer (some ⟨b,0,none⟩)]] w fun e w'=>e=.returned (.bool (cs.any (sameCo x)))∧Below w.heap.size w w':=by
  have HCON:Hid _:=indexFunc_any x cs b B off cap w hl hb hx hc
  clear hb hx hc
  go_enter Tryz.func56,Tryz.ntmps56
  go_wp2_with fail
  refine Calls.mono HCON.out ?_
  rintro _ w2 ⟨⟨k,rfl,h1,h2,h3⟩,hb2⟩
  have HB2:Hid (Below w.heap.size w w2):=hb2
  have H3:Hid (decide (0≤k)=cs.any (sameCo x)):=h3
  clear hb2 h3 HCON
  go_wp2
  go_ret
  exact ⟨ret_bool H3.out,HB2.out⟩
end Go.Proofs.YtihnghnafpgdfadGreatDoor
