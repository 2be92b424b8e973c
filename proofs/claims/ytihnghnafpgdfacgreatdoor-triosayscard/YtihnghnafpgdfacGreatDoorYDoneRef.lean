/-
  THE DOCUMENT'S ANSWER TO AN ACT: doneRef.
-/
import Derived.Test.YtihnghnafpgdfacGreatDoorRk32
import Derived.Test.YtihnghnafpgdfacGreatDoorYQuiltRef2
import Derived.Test.YtihnghnafpgdfacGreatDoorYSwapRef
namespace Go.Proofs.YtihnghnafpgdfacGreatDoor
open Go.RowKit
set_option linter.unusedVariables false
set_option linter.unusedSimpArgs false
set_option maxRecDepth 100000 in
set_option maxHeartbeats 4000000 in
theorem doneRef_any (a:Option Addr) (cap:Nat) (l:List Fi) (t:Int) (x:Ac) (w:World) (hq:GoodQ l t) (hs:Slice w a cap l) (hn:x.s.size≤maxLen) (hx:x.t.size≤maxLen) :
    Calls Tryz.prog 18 #[.agg #[.slice a l.length cap,.int .i64 t],x.v] w (AnswersN w (doR l t x)):=by
  have HS:Hid (Slice w a cap l):=hs
  have HQ:Hid (GoodQ l t):=hq
  clear hs hq
  obtain ⟨kind,s,tx,n,k,ca,cc,cl⟩:=x
  simp only at hn hx
  generalize hr:doR l t ⟨kind,s,tx,n,k,ca,cc,cl⟩=r
  have HRN:Hid (doR l t ⟨kind,s,tx,n,k,ca,cc,cl⟩=r):=hr
  clear hr
  have hS:Slice (((w.alloc (.cells #[.slice a l.length cap,.int .i64 t] 32)).alloc (.cells #[.string kind,.string s,.string tx,.int .i64 n,.int .u64 k,.slice ca cl.length cc] 36)).alloc (.cells #[.slice none 0 0,.int .i64 0] 32)) a cap l :=
    ((HS.out.below ((Below.refl _ _).alloc (Nat.le_refl _) _)).below ((Below.refl _ _).alloc (Nat.le_refl _) _)).below ((Below.refl _ _).alloc (Nat.le_refl _) _)
  have HS3:Hid (Slice (((w.alloc (.cells #[.slice a l.length cap,.int .i64 t] 32)).alloc (.cells #[.string kind,.string s,.string tx,.int .i64 n,.int .u64 k,.slice ca cl.length cc] 36)).alloc (.cells #[.slice none 0 0,.int .i64 0] 32)) a cap l):=hS
  have HB3:Hid (Below w.heap.size w (((w.alloc (.cells #[.slice a l.length cap,.int .i64 t] 32)).alloc (.cells #[.string kind,.string s,.string tx,.int .i64 n,.int .u64 k,.slice ca cl.length cc] 36)).alloc (.cells #[.slice none 0 0,.int .i64 0] 32))) :=
    (((Below.refl _ _).alloc (Nat.le_refl _) _).alloc (by simp) _).alloc (by simp;omega) _
  have HR3:Hid (QBox (((w.alloc (.cells #[.slice a l.length cap,.int .i64 t] 32)).alloc (.cells #[.string kind,.string s,.string tx,.int .i64 n,.int .u64 k,.slice ca cl.length cc] 36)).alloc (.cells #[.slice none 0 0,.int .i64 0] 32)) (w.heap.size+1+1) (.slice none 0 0) 0):=by
    have:=QBox.new ((w.alloc (.cells #[.slice a l.length cap,.int .i64 t] 32)).alloc (.cells #[.string kind,.string s,.string tx,.int .i64 n,.int .u64 k,.slice ca cl.length cc] 36)) (.slice none 0 0) 0 32
    show QBox _ _ _ _
    simpa [World.size_alloc] using this
  clear hS
  by_cases k1:kind=⟨#[119,114,105,116,101]⟩
  · have HRR:Hid (writeR l t s tx=r):=by show _=_;rw [← HRN.out];simp [doR,k1]
    subst k1
    go_enter Tryz.func18,Tryz.ntmps18
    go_wp2_with fail
    refine (written_any a cap l t s tx _ HQ.out HS3.out hn hx).mono ?_
    rintro e w6 ⟨a6,cap6,rfl,hs6,hb⟩
    rw [HRR.out]
    rw [HRR.out] at hs6
    have r6:=HR3.out.below hb HR3.out.lt
    have HB6:Hid (Below w.heap.size w w6):=HB3.out.trans (hb.mono HB3.out.size)
    have HS6:Hid (Slice w6 a6 cap6 r.l):=hs6
    have HYO:Hid (∀ o,2≤o→w6.cell? ⟨w.heap.size+1+1,o,none⟩=none):=r6.only
    obtain ⟨y0,y1,yf0,yf1,yl,_⟩:=r6
    clear hb hs6
    go_wp2
    refine bodyPost_ret (v:=.tuple #[.agg #[.slice a6 r.l.length cap6,.int .i64 r.t],.int .i64 r.n]) (by simp [results,Tryz.results18,go_sem,y0,y1,yl]) rfl ⟨a6,cap6,rfl,?_,?_⟩
    · exact HS6.out.store2 HYO.out _ _
    · exact (HB6.out.setCell (by show w.heap.size≤w.heap.size+1+1;omega) _).setCell (by show w.heap.size≤w.heap.size+1+1;omega) _
  · have b0 : (kind.toList == [119,114,105,116,101])=false:=by have h:=beqB_false k1;rw [ByteArray.toList_eq ⟨#[119,114,105,116,101]⟩] at h;exact h
    by_cases k2:kind=⟨#[100,114,111,112]⟩
    · have HRR:Hid (dropR' l t s=r):=by show _=_;rw [← HRN.out];simp [doR,k2]
      subst k2
      clear k1
      go_enter Tryz.func18,Tryz.ntmps18
      go_wp2_with fail
      refine (dropped_any a cap l t s _ HQ.out HS3.out).mono ?_
      rintro e w6 ⟨a6,cap6,rfl,hs6,hb⟩
      rw [HRR.out]
      rw [HRR.out] at hs6
      have r6:=HR3.out.below hb HR3.out.lt
      have HB6:Hid (Below w.heap.size w w6):=HB3.out.trans (hb.mono HB3.out.size)
      have HS6:Hid (Slice w6 a6 cap6 r.l):=hs6
      have HYO:Hid (∀ o,2≤o→w6.cell? ⟨w.heap.size+1+1,o,none⟩=none):=r6.only
      obtain ⟨y0,y1,yf0,yf1,yl,_⟩:=r6
      clear hb hs6
      go_wp2
      refine bodyPost_ret (v:=.tuple #[.agg #[.slice a6 r.l.length cap6,.int .i64 r.t],.int .i64 r.n]) (by simp [results,Tryz.results18,go_sem,y0,y1,yl]) rfl ⟨a6,cap6,rfl,?_,?_⟩
      · exact HS6.out.store2 HYO.out _ _
      · exact (HB6.out.setCell (by show w.heap.size≤w.heap.size+1+1;omega) _).setCell (by show w.heap.size≤w.heap.size+1+1;omega) _
    · have b1:(kind.toList == [100,114,111,112])=false:=by have h:=beqB_false k2;rw [ByteArray.toList_eq ⟨#[100,114,111,112]⟩] at h;exact h
      by_cases k3:kind=⟨#[110,97,109,101]⟩
      · have HRR:Hid (renameR l t s tx=r):=by show _=_;rw [← HRN.out];simp [doR,k3]
        subst k3
        clear k1
        clear k2
        go_enter Tryz.func18,Tryz.ntmps18
        go_wp2_with fail
        refine (renamed_any a cap l t s tx _ HQ.out HS3.out hn hx).mono ?_
        rintro e w6 ⟨a6,cap6,rfl,hs6,hb⟩
        rw [HRR.out]
        rw [HRR.out] at hs6
        have r6:=HR3.out.below hb HR3.out.lt
        have HB6:Hid (Below w.heap.size w w6):=HB3.out.trans (hb.mono HB3.out.size)
        have HS6:Hid (Slice w6 a6 cap6 r.l):=hs6
        have HYO:Hid (∀ o,2≤o→w6.cell? ⟨w.heap.size+1+1,o,none⟩=none):=r6.only
        obtain ⟨y0,y1,yf0,yf1,yl,_⟩:=r6
        clear hb hs6
        go_wp2
        refine bodyPost_ret (v:=.tuple #[.agg #[.slice a6 r.l.length cap6,.int .i64 r.t],.int .i64 r.n]) (by simp [results,Tryz.results18,go_sem,y0,y1,yl]) rfl ⟨a6,cap6,rfl,?_,?_⟩
        · exact HS6.out.store2 HYO.out _ _
        · exact (HB6.out.setCell (by show w.heap.size≤w.heap.size+1+1;omega) _).setCell (by show w.heap.size≤w.heap.size+1+1;omega) _
      · have b2:(kind.toList == [110,97,109,101])=false:=by have h:=beqB_false k3;rw [ByteArray.toList_eq ⟨#[110,97,109,101]⟩] at h;exact h
        by_cases k4:kind=⟨#[115,119,97,112]⟩
        · have HRR:Hid (swapR l t s tx=r):=by show _=_;rw [← HRN.out];simp [doR,k4]
          subst k4
          clear k1
          clear k2
          clear k3
          go_enter Tryz.func18,Tryz.ntmps18
          go_wp2_with fail
          refine (swapped_any a cap l t s tx _ HQ.out HS3.out hn hx).mono ?_
          rintro e w6 ⟨a6,cap6,rfl,hs6,hb⟩
          rw [HRR.out]
          rw [HRR.out] at hs6
          have r6:=HR3.out.below hb HR3.out.lt
          have HB6:Hid (Below w.heap.size w w6):=HB3.out.trans (hb.mono HB3.out.size)
          have HS6:Hid (Slice w6 a6 cap6 r.l):=hs6
          have HYO:Hid (∀ o,2≤o→w6.cell? ⟨w.heap.size+1+1,o,none⟩=none):=r6.only
          obtain ⟨y0,y1,yf0,yf1,yl,_⟩:=r6
          clear hb hs6
          go_wp2
          refine bodyPost_ret (v:=.tuple #[.agg #[.slice a6 r.l.length cap6,.int .i64 r.t],.int .i64 r.n]) (by simp [results,Tryz.results18,go_sem,y0,y1,yl]) rfl ⟨a6,cap6,rfl,?_,?_⟩
          · exact HS6.out.store2 HYO.out _ _
          · exact (HB6.out.setCell (by show w.heap.size≤w.heap.size+1+1;omega) _).setCell (by show w.heap.size≤w.heap.size+1+1;omega) _
        · have b3:(kind.toList == [115,119,97,112])=false:=by have h:=beqB_false k4;rw [ByteArray.toList_eq ⟨#[115,119,97,112]⟩] at h;exact h
          have HRR:Hid (r=⟨l,t,0⟩):=by show _=_;rw [← HRN.out];simp [doR,k1,k2,k3,k4]
          clear k1 k2 k3 k4
          go_enter Tryz.func18,Tryz.ntmps18
          go_wp2
          rw [HRR.out]
          refine bodyPost_ret (v:=.tuple #[.agg #[.slice a l.length cap,.int .i64 t],.int .i64 0]) (by simp [results,Tryz.results18,go_sem]) rfl ⟨a,cap,rfl,?_,?_⟩
          · refine HS.out.below ?_
            repeat (first | exact Below.refl _ _ | refine Below.alloc ?_ (by simp;try omega) _)
          · repeat (first | exact Below.refl _ _ | refine Below.alloc ?_ (by simp;try omega) _)
end Go.Proofs.YtihnghnafpgdfacGreatDoor
