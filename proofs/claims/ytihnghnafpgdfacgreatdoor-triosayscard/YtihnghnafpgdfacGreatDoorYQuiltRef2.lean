/-
  THE DOCUMENT'S ANSWER, CHAPTER 3: Renamed.
-/
import Derived.Test.YtihnghnafpgdfacGreatDoorYQuiltRef
namespace Go.Proofs.YtihnghnafpgdfacGreatDoor
open Go.RowKit
set_option linter.unusedVariables false
set_option linter.unusedSimpArgs false
set_option maxRecDepth 100000 in
set_option maxHeartbeats 4000000 in
theorem renamed_any (a:Option Addr) (cap:Nat) (l:List Fi) (t:Int) (name to:ByteArray) (w:World) (hq:GoodQ l t) (hs:Slice w a cap l) (hn:name.size≤maxLen) (hx:to.size≤maxLen) :
    Calls Tryz.prog 45 #[.agg #[.slice a l.length cap,.int .i64 t],.string name,.string to] w (AnswersN w (renameR l t name to)):=by
  have HS:Hid (Slice w a cap l):=hs
  have HQ:Hid (GoodQ l t):=hq
  have hl:=hq.files.few
  have ht0:=hq.low
  have ht1:=hq.high
  clear hs hq
  have HR:Hid (renameR l t name to=renameR l t name to):=rfl
  generalize hr:renameR l t name to=r
  have HRN:Hid (renameR l t name to=r):=hr
  clear hr HR
  go_enter Tryz.func45,Tryz.ntmps45
  go_wp2_with fail
  refine (getFile_any a cap l name _ (by unfold maxLen;omega) (by exact (HS.out.cells.alloc _).alloc _)).mono ?_
  rintro e w1 ⟨rfl,hb⟩
  have q1:QBox w1 w.heap.size (.slice a l.length cap) t:=((QBox.new w _ t _).alloc _).below hb (by simp;omega)
  have s1:QBox w1 (w.heap.size+1) (.slice none 0 0) 0:=by
    have:=QBox.new (w.alloc (.cells #[.slice a l.length cap,.int .i64 t] 32)) (.slice none 0 0) 0 32
    rw [World.size_alloc] at this
    exact this.below hb (by simp)
  have HB1:Hid (Below w.heap.size w w1):=(((Below.refl _ _).alloc (Nat.le_refl _) _).alloc (by simp) _).trans (hb.mono (by simp;omega))
  have HS1:Hid (Slice w1 a cap l):=HS.out.below HB1.out
  have HQ1:Hid (QBox w1 w.heap.size (.slice a l.length cap) t):=q1
  have HR1:Hid (QBox w1 (w.heap.size+1) (.slice none 0 0) 0):=s1
  clear hb
  cases hg:getF l name with
  | none =>
    have HRR:Hid (r=⟨[],0,5⟩):=by show _=_;rw [← HRN.out];simp [renameR,hg,failR]
    rw [getV_none]
    obtain ⟨y0,y1,yf0,yf1,yl,yo⟩:=s1
    clear q1 yo hg
    go_wp2
    rw [HRR.out]
    refine bodyPost_ret (v:=.tuple #[.agg #[.slice none 0 0,.int .i64 0],.int .i64 5]) (by simp [results,Tryz.results45,go_sem,y0,y1,yl]) rfl ⟨none,0,rfl,noSlice _,?_⟩
    repeat (first | exact HB1.out | refine Below.setCell ?_ (Nat.le_succ _) _ | refine Below.alloc ?_ (by simp;have:=HB1.out.size;omega) _)
  | some f =>
    obtain ⟨hfm,hfn⟩:=getF_mem hg
    have hfs:=HQ.out.files.times hfm
    rw [getV_some]
    have HGF:Hid (getF l name=some f):=hg
    have HFN:Hid (f.n=name):=hfn
    clear hg hfn hfm
    obtain ⟨x0,x1,_,_,xl,_⟩:=q1
    obtain ⟨y0,y1,yf0,yf1,yl,yo⟩:=s1
    clear yo
    go_wp2_with fail
    refine (nameFault_any to _ hx).mono ?_
    rintro e w' ⟨rfl,hw⟩
    rw [hw]
    clear hw w'
    have hnr:=nameF_cases to.data.toList
    by_cases hto:nameF to.data.toList=0
    · have HTO:Hid (nameF to.data.toList=0):=hto
      rw [hto]
      clear hto hnr
      go_wp2_with fail
      refine (getFile_any a cap l to _ (by unfold maxLen;omega) (by exact HS1.out.cells.alloc _)).mono ?_
      rintro e w2 ⟨rfl,hb⟩
      have HF2:Hid (FBox w2 w1.heap.size f):=(FBox.new w1 f _).below hb (by simp)
      have HQ2:Hid (QBox w2 w.heap.size (.slice a l.length cap) t):=(HQ1.out.alloc _).below hb (by simp;have:=HQ1.out.lt;omega)
      have HR2:Hid (QBox w2 (w.heap.size+1) (.slice none 0 0) 0):=(HR1.out.alloc _).below hb (by simp;have:=HR1.out.lt;omega)
      have HB2:Hid (Below w.heap.size w w2):=(HB1.out.alloc HB1.out.size _).trans (hb.mono (by simp;have:=HB1.out.size;omega))
      have HS2:Hid (Slice w2 a cap l):=HS.out.below HB2.out
      have yl0:=yl
      clear x0 x1 xl y0 y1 yf0 yf1 yl hb HQ1 HR1 HS1 HB1 HS
      cases hg2:getF l to with
      | some g =>
        have HRR:Hid (r=⟨[],0,6⟩):=by show _=_;rw [← HRN.out];simp [renameR,HGF.out,HTO.out,hg2,failR]
        rw [getV_some]
        obtain ⟨y0,y1,yf0,yf1,yl,yo⟩:=HR2.out
        clear yo hg2
        go_wp2
        rw [HRR.out]
        refine bodyPost_ret (v:=.tuple #[.agg #[.slice none 0 0,.int .i64 0],.int .i64 6]) (by simp [results,Tryz.results45,go_sem,y0,y1,yl]) rfl ⟨none,0,rfl,noSlice _,?_⟩
        repeat (first | exact HB2.out | refine Below.setCell ?_ (Nat.le_succ _) _ | refine Below.alloc ?_ (by simp;have:=HB2.out.size;omega) _)
      | none =>
        have HG2:Hid (getF l to=none):=hg2
        clear hg2
        rw [getV_none]
        obtain ⟨x0,x1,_,_,xl,_⟩:=HQ2.out
        have hhas:hasF l name=true:=by rw [← getF_isSome HQ.out.files,HGF.out];rfl
        have HDN:Hid (dropN l name=0):=by show _=_;simp [dropN,hhas]
        have HDL:Hid (dropL l name=dropF l name):=by show _=_;simp [dropL,hhas]
        clear hhas
        go_wp2_with fail
        refine (dropFile_all a cap l name _ HQ.out.files HS2.out).mono ?_
        rintro e w3 ⟨v,rfl,hown,hb⟩
        rw [HDN.out]
        rw [HDL.out] at hown
        have hsz2:w1.heap.size<w2.heap.size:=HF2.out.lt
        have HF3:Hid (FBox w3 w1.heap.size f):=HF2.out.below hb HF2.out.lt
        have HQ3:Hid (QBox w3 w.heap.size (.slice a l.length cap) t):=HQ2.out.below hb HQ2.out.lt
        have HR3:Hid (QBox w3 (w.heap.size+1) (.slice none 0 0) 0):=HR2.out.below hb HR2.out.lt
        have HB3:Hid (Below w.heap.size w w3):=HB2.out.trans (hb.mono HB2.out.size)
        obtain ⟨a1,cap1,rfl,_⟩:=hown.slice
        have HO3:Hid (Owns w3 w2.heap.size (.slice a1 (dropF l name).length cap1) (dropF l name)):=hown
        have hw1:w.heap.size+1<w1.heap.size:=yl0
        clear x0 x1 xl hb hown HQ2 HR2 HS2 HF2
        obtain ⟨z0,z1,z2,zf,zl⟩:=HF3.out
        go_wp2_with fail
        have hb4:Below w1.heap.size w3 (w3.setCell ⟨w1.heap.size,0,none⟩ (.string to)):=Below.setCell (p:=⟨w1.heap.size,0,none⟩) (Below.refl _ _) (Nat.le_refl _) _
        have HO4:Hid (Owns (w3.setCell ⟨w1.heap.size,0,none⟩ (.string to)) w2.heap.size (.slice a1 (dropF l name).length cap1) (dropF l name)):=HO3.out.setOther (by show w1.heap.size<w2.heap.size;omega) _
        have HSL4:Hid (Slice (w3.setCell ⟨w1.heap.size,0,none⟩ (.string to)) a1 cap1 (dropF l name)):=by
          obtain ⟨a',cap',e,hs'⟩:=HO4.out.slice
          cases e
          exact hs'
        refine (putFile_any a1 cap1 (dropF l name) ⟨to,f.t,f.k⟩ _ ⟨hx,by unfold maxLen;have:=hfs.2.1;show f.t.size≤_;omega⟩ (good_drop HQ.out.files name) (by exact HSL4.out)).mono ?_
        rintro e w5 ⟨v5,rfl,hown5,hb5⟩
        obtain ⟨a5,cap5,rfl,hs5⟩:=hown5.slice
        have HQ5:Hid (QBox w5 w.heap.size (.slice a l.length cap) t):=(HQ3.out.below hb4 (by omega)).below hb5 (by have:=HQ3.out.lt;simpa using this)
        have HR5:Hid (QBox w5 (w.heap.size+1) (.slice none 0 0) 0):=(HR3.out.below hb4 (by omega)).below hb5 (by have:=HR3.out.lt;simpa using this)
        have HB5:Hid (Below w.heap.size w w5):=(HB3.out.trans (hb4.mono (by omega))).trans (hb5.mono (by have:=HB3.out.size;simpa using this))
        have HS5:Hid (Slice w5 a5 cap5 (putL (dropF l name) ⟨to,f.t,f.k⟩)):=hs5
        have HRR:Hid (r=nextR t (putL (dropF l name) ⟨to,f.t,f.k⟩) (putN (dropF l name) ⟨to,f.t,f.k⟩)):=by show _=_;rw [← HRN.out];simp [renameR,HGF.out,HTO.out,HG2.out]
        clear z0 z1 z2 zf zl hb4 hb5 hown5 hs5 HO3 HO4 HSL4 HQ3 HR3 HF3 HB3
        have hpr:=putN_range (dropF l name) ⟨to,f.t,f.k⟩
        generalize putL (dropF l name) ⟨to,f.t,f.k⟩=pl at *
        generalize putN (dropF l name) ⟨to,f.t,f.k⟩=pn at *
        obtain ⟨x0,x1,_,_,xl,_⟩:=HQ5.out
        go_wp2_with fail
        refine (next_any t a5 cap5 pl pn _ (by omega) hpr a l.length cap HS5.out).mono ?_
        rintro e w6 ⟨a6,cap6,rfl,hs6,hb⟩
        rw [← HRR.out]
        rw [← HRR.out] at hs6
        have s6:=HR5.out.below hb HR5.out.lt
        have HB6:Hid (Below w.heap.size w w6):=HB5.out.trans (hb.mono HB5.out.size)
        have HS6:Hid (Slice w6 a6 cap6 r.l):=hs6
        clear hb hs6
        obtain ⟨y0,y1,yf0,yf1,yl,yo⟩:=s6
        have HYO:Hid (∀ o,2≤o→w6.cell? ⟨w.heap.size+1,o,none⟩=none):=yo
        clear yo
        go_wp2
        refine bodyPost_ret (v:=.tuple #[.agg #[.slice a6 r.l.length cap6,.int .i64 r.t],.int .i64 r.n]) (by simp [results,Tryz.results45,go_sem,y0,y1,yl]) rfl ⟨a6,cap6,rfl,?_,?_⟩
        · exact HS6.out.store2 HYO.out _ _
        · exact (HB6.out.setCell (Nat.le_succ _) _).setCell (Nat.le_succ _) _
    · have HRR:Hid (r=⟨[],0,nameF to.data.toList⟩):=by show _=_;rw [← HRN.out];simp [renameR,HGF.out,hto,failR]
      have hnp:0<nameF to.data.toList:=by omega
      have hn9:nameF to.data.toList≤100:=by omega
      clear hto hnr
      generalize nameF to.data.toList=nf at *
      go_wp2
      rw [HRR.out]
      refine bodyPost_ret (v:=.tuple #[.agg #[.slice none 0 0,.int .i64 0],.int .i64 nf]) (by simp [results,Tryz.results45,go_sem,y0,y1,yl]) rfl ⟨none,0,rfl,noSlice _,?_⟩
      repeat (first | exact HB1.out | refine Below.setCell ?_ (Nat.le_succ _) _ | refine Below.alloc ?_ (by simp;have:=HB1.out.size;omega) _)
end Go.Proofs.YtihnghnafpgdfacGreatDoor
