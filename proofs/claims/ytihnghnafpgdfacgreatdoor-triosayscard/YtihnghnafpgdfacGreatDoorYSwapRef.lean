/-
  THE DOCUMENT'S ANSWER, CHAPTER 3: Swapped.
-/
import Derived.Test.YtihnghnafpgdfacGreatDoorYQuiltRef
import Derived.Test.YtihnghnafpgdfacGreatDoorYSwapPure
namespace Go.Proofs.YtihnghnafpgdfacGreatDoor
open Go.RowKit
set_option linter.unusedVariables false
set_option linter.unusedSimpArgs false
set_option maxRecDepth 100000 in
set_option maxHeartbeats 16000000 in
theorem swapped_any (a : Option Addr) (cap:Nat) (l:List Fi) (t:Int) (na nb:ByteArray) (w:World) (hq:GoodQ l t) (hs:Slice w a cap l) (hn:na.size≤maxLen) (hx:nb.size≤maxLen) :
    Calls Tryz.prog 46 #[.agg #[.slice a l.length cap,.int .i64 t],.string na,.string nb] w (AnswersN w (swapR l t na nb)):=by
  have HS:Hid (Slice w a cap l):=hs
  have HQ:Hid (GoodQ l t):=hq
  have hl:=hq.files.few
  have ht0:=hq.low
  have ht1:=hq.high
  clear hs hq
  generalize hr:swapR l t na nb=r
  have HRN:Hid (swapR l t na nb=r):=hr
  clear hr
  go_enter Tryz.func46,Tryz.ntmps46
  go_wp2_with fail
  refine (getFile_any a cap l na _ (by unfold maxLen;omega) (by exact (HS.out.cells.alloc _).alloc _)).mono ?_
  rintro e w1 ⟨rfl,hb⟩
  have q1:QBox w1 w.heap.size (.slice a l.length cap) t:=((QBox.new w _ t _).alloc _).below hb (by simp;omega)
  have s1:QBox w1 (w.heap.size+1) (.slice none 0 0) 0:=by
    have:=QBox.new (w.alloc (.cells #[.slice a l.length cap,.int .i64 t] 32)) (.slice none 0 0) 0 32
    rw [World.size_alloc] at this
    exact this.below hb (by simp)
  have HB1:Hid (Below w.heap.size w w1):=(((Below.refl _ _).alloc (Nat.le_refl _) _).alloc (by simp) _).trans (hb.mono (by simp;omega))
  have HS1:Hid (Slice w1 a cap l):=HS.out.below HB1.out
  have HQ1:Hid (QBox w1 w.heap.size (.slice a l.length cap) t):=q1
  have HR1:Hid (QBox w1 (w.heap.size+1) (.slice none 0 0) 0):=s1
  rw [getV_eq]
  generalize hgd:getD' (getF l na)=f
  generalize hgb:(getF l na).isSome=fb
  have HGF:Hid (getD' (getF l na)=f):=hgd
  have HGB:Hid ((getF l na).isSome=fb):=hgb
  clear hb hgd hgb s1
  obtain ⟨x0,x1,_,_,xl,_⟩:=q1
  go_wp2_with fail
  refine (getFile_any a cap l nb _ (by unfold maxLen;omega) (by exact HS1.out.cells.alloc _)).mono ?_
  rintro e w2 ⟨rfl,hb⟩
  rw [getV_eq]
  generalize hgd:getD' (getF l nb)=g
  generalize hgb:(getF l nb).isSome=gb
  have HGG:Hid (getD' (getF l nb)=g):=hgd
  have HGC:Hid ((getF l nb).isSome=gb):=hgb
  have HF2:Hid (FBox w2 w1.heap.size f):=(FBox.new w1 f _).below hb (by simp)
  have HQ2:Hid (QBox w2 w.heap.size (.slice a l.length cap) t):=(HQ1.out.alloc _).below hb (by simp;have:=HQ1.out.lt;omega)
  have HR2:Hid (QBox w2 (w.heap.size+1) (.slice none 0 0) 0):=(HR1.out.alloc _).below hb (by simp;have:=HR1.out.lt;omega)
  have HB2:Hid (Below w.heap.size w w2):=(HB1.out.alloc HB1.out.size _).trans (hb.mono (by simp;have:=HB1.out.size;omega))
  have HS2:Hid (Slice w2 a cap l):=HS.out.below HB2.out
  clear x0 x1 xl hb hgd hgb HQ1 HR1 HS1 HB1 HS
  obtain ⟨x0,x1,_,_,xl,_⟩:=HQ2.out
  obtain ⟨y0,y1,yf0,yf1,yl,yo⟩:=HR2.out
  obtain ⟨z0,z1,z2,zf,zl⟩:=HF2.out
  clear yo
  cases fb with
  | false =>
    have hga:getF l na=none:=by have:=HGB.out;cases h:getF l na with | none=>rfl | some _=>rw [h] at this;cases this
    have HRR:Hid (r=⟨[],0,5⟩):=by show _=_;rw [← HRN.out];simp [swapR,hga,failR]
    clear hga
    go_wp2
    rw [HRR.out]
    refine bodyPost_ret (v:=.tuple #[.agg #[.slice none 0 0,.int .i64 0],.int .i64 5]) (by simp [results,Tryz.results46,go_sem,y0,y1,yl]) rfl ⟨none,0,rfl,noSlice _,?_⟩
    repeat (first | exact HB2.out | refine Below.setCell ?_ (Nat.le_succ _) _ | refine Below.alloc ?_ (by simp;have:=HB2.out.size;omega) _)
  | true =>
    have hga:getF l na=some f:=by have h1:=HGB.out;have h2:=HGF.out;cases h:getF l na with | none=>rw [h] at h1;cases h1 | some _=>rw [h] at h2;rw [← h2];rfl
    have HGA:Hid (getF l na=some f):=hga
    clear hga
    cases gb with
    | false =>
      have hgb:getF l nb=none:=by have:=HGC.out;cases h:getF l nb with | none=>rfl | some _=>rw [h] at this;cases this
      have HRR:Hid (r=⟨[],0,5⟩):=by show _=_;rw [← HRN.out];simp [swapR,HGA.out,hgb,failR]
      clear hgb
      go_wp2
      rw [HRR.out]
      refine bodyPost_ret (v:=.tuple #[.agg #[.slice none 0 0,.int .i64 0],.int .i64 5]) (by simp [results,Tryz.results46,go_sem,y0,y1,yl]) rfl ⟨none,0,rfl,noSlice _,?_⟩
      repeat (first | exact HB2.out | refine Below.setCell ?_ (Nat.le_succ _) _ | refine Below.alloc ?_ (by simp;have:=HB2.out.size;omega) _)
    | true =>
      have hgb:getF l nb=some g:=by have h1:=HGC.out;have h2:=HGG.out;cases h:getF l nb with | none=>rw [h] at h1;cases h1 | some _=>rw [h] at h2;rw [← h2];rfl
      have HGBB:Hid (getF l nb=some g):=hgb
      have tf:=HQ.out.files.times (getF_mem HGA.out).1
      have tg:=HQ.out.files.times (getF_mem hgb).1
      obtain ⟨_,tf1,tf2,tf3⟩:=tf
      obtain ⟨_,tg1,tg2,tg3⟩:=tg
      clear hgb
      by_cases hfull:9999≤f.k∨9999≤g.k
      · have HRR:Hid (r=⟨[],0,7⟩):=by show _=_;rw [← HRN.out];simp [swapR,HGA.out,HGBB.out,hfull,failR]
        have hd:(decide (9999≤f.k) || decide (9999≤g.k))=true:=by simpa using hfull
        by_cases h9:f.k=9999
        all_goals
          have h9':9999≤f.k∨9999≤g.k:=hfull
          clear hfull hd
        · go_wp2
          rw [HRR.out]
          refine bodyPost_ret (v:=.tuple #[.agg #[.slice none 0 0,.int .i64 0],.int .i64 7]) (by simp [results,Tryz.results46,go_sem,y0,y1,yl]) rfl ⟨none,0,rfl,noSlice _,?_⟩
          repeat (first | exact HB2.out | refine Below.setCell ?_ (Nat.le_succ _) _ | refine Below.alloc ?_ (by simp;have:=HB2.out.size;omega) _)
        · have h9g:g.k=9999:=by omega
          clear h9'
          go_wp2
          rw [HRR.out]
          refine bodyPost_ret (v:=.tuple #[.agg #[.slice none 0 0,.int .i64 0],.int .i64 7]) (by simp [results,Tryz.results46,go_sem,y0,y1,yl]) rfl ⟨none,0,rfl,noSlice _,?_⟩
          repeat (first | exact HB2.out | refine Below.setCell ?_ (Nat.le_succ _) _ | refine Below.alloc ?_ (by simp;have:=HB2.out.size;omega) _)
      · have h9 : f.k<9999:=by omega
        have h9g:g.k<9999:=by omega
        have h9e:¬ f.k=9999:=by omega
        have h9ge:¬ g.k=9999:=by omega
        clear hfull
        have hq1:(f.k == 9999)=false:=by simp;omega
        have hq2:(g.k == 9999)=false:=by simp;omega
        clear h9e h9ge
        have HG2:Hid (FBox (w2.alloc (.cells #[.string g.n,.string g.t,.int .i64 g.k] 126)) w2.heap.size g):=FBox.new w2 g _
        go_wp2_with (at_builtin;refine wpList_copy rfl _ _ rfl _ a cap l (by omega) (by exact HS2.out.below ((Below.refl _ _).alloc (Nat.le_refl _) _)) rfl rfl ?_;intro v w3 hown hb)
        have hlen0:0<l.length:=List.length_pos_of_mem (getF_mem HGA.out).1
        have hHO:=hown
        rcases hown.2 with ⟨_,h0⟩ | ⟨B,cap3,cur,rfl,hB,_⟩
        · omega
        generalize hbase:(w2.alloc (.cells #[.string g.n,.string g.t,.int .i64 g.k] 126)).heap.size=base at *
        rw [World.size_alloc] at hbase
        have HO3:Hid (Owns w3 base (.slice (some ⟨B,0,none⟩) l.length cap3) l):=hHO
        have HQ3:Hid (QBox w3 w.heap.size (.slice a l.length cap) t):=(HQ2.out.alloc _).below hb (by have:=HQ2.out.lt;omega)
        have HR3:Hid (QBox w3 (w.heap.size+1) (.slice none 0 0) 0):=(HR2.out.alloc _).below hb (by have:=HR2.out.lt;omega)
        have HF3:Hid (FBox w3 w1.heap.size f):=(HF2.out.alloc _).below hb (by have:=HF2.out.lt;omega)
        have HG3:Hid (FBox w3 w2.heap.size g):=HG2.out.below hb (by omega)
        have HB3:Hid (Below w.heap.size w w3):=(HB2.out.alloc HB2.out.size _).trans (hb.mono (by have:=HB2.out.size;omega))
        have hw12:w1.heap.size<base:=by have:=HF2.out.lt;omega
        have hw22:w2.heap.size<base:=by omega
        have hww:w.heap.size+1<base:=by have:=HR2.out.lt;omega
        clear hown hHO hb hbase HF2 HG2 HQ2 HR2 HB2 HS2 x0 x1 xl y0 y1 yf0 yf1 yl z0 z1 z2 zf zl
        have HEND:Hid (∀ k,k≤l.length→(na=nb→k=0)→(na=nb∨l.length≤k)→r=nextR t (stepSw (swapZ na nb f g) l k) 0):=by
          intro k hk hz hend
          rw [← HRN.out]
          simp only [swapR,HGA.out,HGBB.out]
          rw [if_neg (by omega)]
          by_cases hab:na=nb
          · rw [if_pos hab,hz hab,stepSw_zero];simp [nextR]
          · rw [if_neg hab,stepSw_all _ _ _ (by rcases hend with h | h;exact absurd h hab;exact h),swapZ_eq HQ.out.files HGA.out HGBB.out h9 h9g hab];simp [nextR]
        have HZ:Hid (∀ z ∈ l,1≤z.k∧z.k≤9999):=fun z hz=>(HQ.out.files.times hz).2.2
        go_loopw [13] (fun i wr=>∃ k:Nat,k≤l.length∧i=.int .i64 k∧Owns wr base (.slice (some ⟨B,0,none⟩) l.length cap3) (stepSw (swapZ na nb f g) l k)∧Below base w3 wr∧(na=nb→k=0)) (fun i _=>l.length - (intOf i).toNat)
        case atStart=>exact ⟨0,Nat.zero_le _,rfl,by rw [stepSw_zero];exact HO3.out,Below.refl _ _,fun _=>rfl⟩
        case round =>
          obtain ⟨k,hk,rfl,ho,hbw,hzero⟩:=hrel
          have HO:Hid (Owns wr base (.slice (some ⟨B,0,none⟩) l.length cap3) (stepSw (swapZ na nb f g) l k)):=ho
          have HBW:Hid (Below base w3 wr):=hbw
          have HZE:Hid (na=nb→k=0):=hzero
          clear ho hbw hzero
          have fin:∀ (hend:na=nb∨l.length≤k),Hid (r=nextR t (stepSw (swapZ na nb f g) l k) 0):=fun h=>HEND.out k hk HZE.out h
          have hsl:=stepSw_len (swapZ na nb f g) l k hk
          by_cases hab:na=nb
          · have hE:(na.toList == nb.toList)=true:=beqB_true hab
            have HRR:=fin (.inl hab)
            clear fin hab
            generalize stepSw (swapZ na nb f g) l k=m at *
            have q3:=HQ3.out.below HBW.out (by omega)
            have HR4:Hid (QBox wr (w.heap.size+1) (.slice none 0 0) 0):=HR3.out.below HBW.out hww
            have HB4:Hid (Below w.heap.size w wr):=HB3.out.trans (HBW.out.mono (by omega))
            obtain ⟨x0,x1,_,_,xl,_⟩:=q3
            have hsm:Slice wr (some ⟨B,0,none⟩) cap3 m:=by
              obtain ⟨a',cap',e,h⟩:=Owns.slice HO.out
              rw [← hsl] at e
              cases e
              exact h
            have HSM:Hid (Slice wr (some ⟨B,0,none⟩) cap3 m):=hsm
            clear hsm
            have hnx:=next_any t (some ⟨B,0,none⟩) cap3 m 0 wr (by omega) ⟨by decide,by decide⟩ a l.length cap HSM.out
            rw [hsl] at hnx
            go_wp2_with (go_at_call 70
                         refine hnx.mono ?_
                         rintro e w6 ⟨a6,cap6,rfl,hs6,hb⟩
                         rw [← HRR.out]
                         rw [← HRR.out] at hs6
                         have s6:=HR4.out.below hb HR4.out.lt
                         have HB6:Hid (Below w.heap.size w w6):=HB4.out.trans (hb.mono HB4.out.size)
                         have HS6:Hid (Slice w6 a6 cap6 r.l):=hs6
                         clear hb hs6
                         obtain ⟨y0,y1,yf0,yf1,yl,yo⟩:=s6
                         have HYO:Hid (∀ o,2≤o→w6.cell? ⟨w.heap.size+1,o,none⟩=none):=yo
                         clear yo
                         clear hnx)
            all_goals
              all_goals
                refine bodyPost_ret (v:=.tuple #[.agg #[.slice a6 r.l.length cap6,.int .i64 r.t],.int .i64 r.n]) (by simp [results,Tryz.results46,go_sem,y0,y1,yl]) rfl ⟨a6,cap6,rfl,?_,?_⟩
                · exact HS6.out.store2 HYO.out _ _
                · exact (HB6.out.setCell (Nat.le_succ _) _).setCell (Nat.le_succ _) _
          · have hE : (na.toList == nb.toList)=false:=beqB_false hab
            by_cases hlt:k<l.length
            · clear fin
              have hE0:(nb.toList == na.toList)=false:=beqB_false (Ne.symm hab)
              obtain ⟨hk0,hk1⟩:=HZ.out l[k] (List.getElem_mem hlt)
              have hlt2:k<(stepSw (swapZ na nb f g) l k).length:=by omega
              have hat:=stepSw_at (swapZ na nb f g) l k hlt hlt2
              obtain ⟨e0,e1,e2⟩:=flat_at _ k hlt2
              rw [hat] at e0 e1 e2
              have hcut:(stepSw (swapZ na nb f g) l k).length=l.length:=hsl
              have ho':wr.ownsRow base 126 3 (.slice (some ⟨B,0,none⟩) (stepSw (swapZ na nb f g) l k).length cap3) (stepSw (swapZ na nb f g) l k).length (flat (stepSw (swapZ na nb f g) l k)):=by rw [hcut];have:=HO.out;rw [show Owns wr base (.slice (some ⟨B,0,none⟩) l.length cap3) (stepSw (swapZ na nb f g) l k)=wr.ownsRow base 126 3 (.slice (some ⟨B,0,none⟩) l.length cap3) (stepSw (swapZ na nb f g) l k).length (flat (stepSw (swapZ na nb f g) l k)) from rfl,hcut] at this;exact this
              have c0:wr.cell? ⟨B,k * 3,none⟩=some (.string l[k].n):=by rw [ho'.cellAt (k * 3) (by omega)];exact e0
              have c1:wr.cell? ⟨B,k * 3+1,none⟩=some (.string l[k].t):=by rw [ho'.cellAt (k * 3+1) (by omega)];exact e1
              have c2:wr.cell? ⟨B,k * 3+2,none⟩=some (.int .i64 l[k].k):=by rw [ho'.cellAt (k * 3+2) (by omega)];exact e2
              have fz:∀ j,wr.frozen? ⟨B,j,none⟩=false:=fun j=>ho'.frozenAt j
              have fz1:=fz (k * 3+1)
              have fz2:=fz (k * 3+2)
              have hbl:B<wr.heap.size:=World.block_lt_of_cell? _ _ c0
              have hwr:IntKind.i64.wrap (l[k].k+1)=l[k].k+1:=by rw [IntKind.wrap_i64];omega
              have f3:=HF3.out.below HBW.out hw12
              have g3:=HG3.out.below HBW.out hw22
              obtain ⟨p0,p1,p2,_,pl⟩:=f3
              obtain ⟨q0,q1,q2,_,ql⟩:=g3
              have hne1:B≠w1.heap.size:=by omega
              have hne2:B≠w2.heap.size:=by omega
              clear e0 e1 e2 ho' fz
              have hφ:∀ z,z=l[k]→(z.n=na→swapZ na nb f g z=⟨z.n,g.t,z.k+1⟩)∧(¬ z.n=na→z.n=nb→swapZ na nb f g z=⟨z.n,f.t,z.k+1⟩)∧(¬ z.n=na→¬ z.n=nb→swapZ na nb f g z=z):=by
                intro z _
                unfold swapZ
                exact ⟨fun h=>by rw [if_pos h],fun h h2=>by rw [if_neg h,if_pos h2],fun h h2=>by rw [if_neg h,if_neg h2]⟩
              obtain ⟨φ1,φ2,φ3⟩:=hφ l[k] rfl
              have hnk:∀ t' k',swapZ na nb f g l[k]=⟨l[k].n,t',k'⟩→stepSw (swapZ na nb f g) l (k+1)=(stepSw (swapZ na nb f g) l k).set k ⟨(stepSw (swapZ na nb f g) l k)[k].n,t',k'⟩:=by
                intro t' k' h
                rw [stepSw_succ _ _ _ hlt,h,hat]
              by_cases ca:l[k].n=na
              · have hA:(l[k].n.toList == na.toList)=true:=beqB_true ca
                have hB2:(l[k].n.toList == nb.toList)=false:=beqB_false (by rw [ca];exact hab)
                have HN:Hid (stepSw (swapZ na nb f g) l (k+1)=_):=hnk _ _ (φ1 ca)
                clear ca φ1 φ2 φ3 hφ hnk hab
                go_wp2
                refine ⟨⟨k+1,by omega,by go_num,?_,?_,fun h=>absurd h (by intro h;rw [beqB_true h] at hE;cases hE)⟩,by simp [intOf];omega⟩
                · rw [HN.out]
                  exact HO.out.wrote hsl.symm hlt2 _ _
                · exact (HBW.out.setCell hB _).setCell hB _
              · have hA:(l[k].n.toList == na.toList)=false:=beqB_false ca
                by_cases cb:l[k].n=nb
                · have hB2:(l[k].n.toList == nb.toList)=true:=beqB_true cb
                  have HN:Hid (stepSw (swapZ na nb f g) l (k+1)=_):=hnk _ _ (φ2 ca cb)
                  clear ca cb φ1 φ2 φ3 hφ hnk hab
                  go_wp2
                  refine ⟨⟨k+1,by omega,by go_num,?_,?_,fun h=>absurd h (by intro h;rw [beqB_true h] at hE;cases hE)⟩,by simp [intOf];omega⟩
                  · rw [HN.out]
                    exact HO.out.wrote hsl.symm hlt2 _ _
                  · exact (HBW.out.setCell hB _).setCell hB _
                · have hB2:(l[k].n.toList == nb.toList)=false:=beqB_false cb
                  have HN:Hid (stepSw (swapZ na nb f g) l (k+1)=stepSw (swapZ na nb f g) l k):=stepSw_same _ _ _ hlt (φ3 ca cb)
                  clear ca cb φ1 φ2 φ3 hφ hnk hab
                  go_wp2
                  refine ⟨⟨k+1,by omega,by go_num,?_,HBW.out,fun h=>absurd h (by intro h;rw [beqB_true h] at hE;cases hE)⟩,by simp [intOf];omega⟩
                  rw [HN.out]
                  exact HO.out
            · have HRR:=fin (.inr (by omega))
              clear fin
              generalize stepSw (swapZ na nb f g) l k=m at *
              have q3:=HQ3.out.below HBW.out (by omega)
              have HR4:Hid (QBox wr (w.heap.size+1) (.slice none 0 0) 0):=HR3.out.below HBW.out hww
              have HB4:Hid (Below w.heap.size w wr):=HB3.out.trans (HBW.out.mono (by omega))
              obtain ⟨x0,x1,_,_,xl,_⟩:=q3
              have hsm:Slice wr (some ⟨B,0,none⟩) cap3 m:=by
                obtain ⟨a',cap',e,h⟩:=Owns.slice HO.out
                rw [← hsl] at e
                cases e
                exact h
              have HSM:Hid (Slice wr (some ⟨B,0,none⟩) cap3 m):=hsm
              clear hsm
              have hnx:=next_any t (some ⟨B,0,none⟩) cap3 m 0 wr (by omega) ⟨by decide,by decide⟩ a l.length cap HSM.out
              rw [hsl] at hnx
              go_wp2_with (go_at_call 70
                           refine hnx.mono ?_
                           rintro e w6 ⟨a6,cap6,rfl,hs6,hb⟩
                           rw [← HRR.out]
                           rw [← HRR.out] at hs6
                           have s6:=HR4.out.below hb HR4.out.lt
                           have HB6:Hid (Below w.heap.size w w6):=HB4.out.trans (hb.mono HB4.out.size)
                           have HS6:Hid (Slice w6 a6 cap6 r.l):=hs6
                           clear hb hs6
                           obtain ⟨y0,y1,yf0,yf1,yl,yo⟩:=s6
                           have HYO:Hid (∀ o,2≤o→w6.cell? ⟨w.heap.size+1,o,none⟩=none):=yo
                           clear yo
                           clear hnx)
              refine bodyPost_ret (v:=.tuple #[.agg #[.slice a6 r.l.length cap6,.int .i64 r.t],.int .i64 r.n]) (by simp [results,Tryz.results46,go_sem,y0,y1,yl]) rfl ⟨a6,cap6,rfl,?_,?_⟩
              · exact HS6.out.store2 HYO.out _ _
              · exact (HB6.out.setCell (Nat.le_succ _) _).setCell (Nat.le_succ _) _
end Go.Proofs.YtihnghnafpgdfacGreatDoor
