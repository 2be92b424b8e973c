/- What the proofs stand on, part 33: ImageChangesB. -/
import Derived.Test.YtihnghnafpgdfadGreatDoorSk27
set_option linter.unusedVariables false
set_option linter.unusedSimpArgs false
set_option maxRecDepth 100000
set_option maxHeartbeats 4000000
namespace Go.Proofs.YtihnghnafpgdfadGreatDoor
open Go Go.RowKit Go.BigFrame
variable {w:World}{a b l:List Ch}{x:Option Addr}{cap:Nat}
theorem CC.first {a:Option Addr}(h:CC w a l)(hl:0<l.length):∃ b off,a=some ⟨b,off,none⟩∧w.cell? ⟨b,off,none⟩=some (.string l[0].key)∧w.cell? ⟨b,off+1,none⟩=some (.string l[0].val)∧w.cell? ⟨b,off+2,none⟩=some (.bool l[0].gone):=by
 obtain ⟨b,off,e,c0,c1,c2⟩:=h 0 hl;exact ⟨b,off,e,by simpa using c0,by simpa using c1,by simpa using c2⟩
theorem CC.tail1 (hl:l.length≤cap)(hc:cap=1):CC w x (l.drop 1):=by
 rw [List.drop_eq_nil_of_le (by omega)];exact CC.nil _ _
theorem CC.tail2 {b off:Nat}(h:CC w (some ⟨b,off,none⟩) l):CC w (some ⟨b,off+3,none⟩) (l.drop 1):=by
 intro i hi;rw [List.length_drop] at hi;obtain ⟨b,off,e,c0,c1,c2⟩:=h (i+1) (by omega);cases e;refine ⟨b,off+3,rfl,?_,?_,?_⟩
 · rw [List.getElem_drop,show off+3+i * 3=off+(i+1) * 3 by omega];simpa [Nat.add_comm] using c0
 · rw [List.getElem_drop,show off+3+i * 3+1=off+(i+1) * 3+1 by omega];simpa [Nat.add_comm] using c1
 · rw [List.getElem_drop,show off+3+i * 3+2=off+(i+1) * 3+2 by omega];simpa [Nat.add_comm] using c2
theorem zrt (hi:0<a.length)(h:¬ 0<b.length):chg a b=zdQ a[0] :: chg (a.drop 1) b:=by simpa using zs8 (k:=0) hi h
theorem zt6 (hi:0<a.length)(hk:0<b.length)(h:ltB a[0].key b[0].key=true):chg a b=zdQ a[0] :: chg (a.drop 1) b:=by simpa using zuA hi hk h
theorem ztw (hi:¬ 0<a.length)(hk:0<b.length):chg a b=b[0] :: chg a (b.drop 1):=by simpa using zul (i:=0) hi hk
theorem zuj (hi:0<a.length)(hk:0<b.length)(h:ltB a[0].key b[0].key=false)(h2:ltB b[0].key a[0].key=true):chg a b=b[0] :: chg a (b.drop 1):=by simpa using zuI hi hk h h2
theorem zns (hi:0<a.length)(hk:0<b.length)(h:ltB a[0].key b[0].key=false)(h2:ltB b[0].key a[0].key=false):chg a b=(if eqCh a[0] b[0]=true then [] else [b[0]]) ++ chg (a.drop 1) (b.drop 1):=by simpa using ztz hi hk h h2
theorem ztd (hi:¬ 0<a.length)(hk:¬ 0<b.length):chg a b=[]:=by simpa using zuk (i:=0) (k:=0) hi hk
theorem zoy (pa0 pb0:Option Addr) (ca0 cb0:Nat) (a b:List Ch) (w:World) (h1:a.length≤100) (h2:b.length≤100) (ha:CC w pa0 a) (hb:CC w pb0 b) (hca:a.length≤ca0) (hcb:b.length≤cb0) :
 Calls Tryz.prog 74 #[.slice pa0 a.length ca0,.slice pb0 b.length cb0] w fun e w'=>∃ v,e=.returned v∧zan w' w.heap.size v (chg a b)∧Below w.heap.size w w':=by
 obtain ⟨i0,hi,hz0,hz1,hz2⟩:=info_parts Tryz.infoChange;have HA0:Hid (CC w pa0 a):=ha;have HB0:Hid (CC w pb0 b):=hb;clear ha hb
 go_enter Tryz.func74,Tryz.ntmps74
 go_wp2_with fail
 go_loopg [0,1,5] (a.length+b.length+1) (fun kx va vb vo wr=>∃ (A B out:List Ch) (pa pb:Option Addr) (ca cb:Nat),va=.slice pa A.length ca∧vb=.slice pb B.length cb∧A.length≤100∧B.length≤100∧A.length+B.length≤kx∧Hid (CC w pa A)∧Hid (CC w pb B)∧A.length≤ca∧B.length≤cb∧Hid (chg a b=out ++ chg A B)∧out.length+A.length+B.length≤200∧Hid (zan wr w.heap.size vo out)∧Hid (Below w.heap.size w wr))
 case atStart=>exact ⟨a,b,[],pa0,pb0,ca0,cb0,rfl,rfl,h1,h2,by omega,HA0,HB0,hca,hcb,(by show _=_;simp),by simp;omega,World.ownsRow_nil _ _ _ _,Below.refl _ _⟩
 case round =>
  obtain ⟨A,B,out,pa,pb,ca,cb,rfl,rfl,hA100,hB100,hkx,HA,HB,hia',hkb',HS,hol,HN0,HW0⟩:=hrel;obtain ⟨W0,rfl⟩:∃ x,x=wr:=⟨wr,rfl⟩
  have hol200:out.length≤200:=by omega
  by_cases hia:0<A.length
  · have hiz:(0:Int)<(A.length:Int):=by omega
    have hiq:((A.length:Int) == 0)=false:=by rw [beq_eq_false_iff_ne];omega
    by_cases hkb:0<B.length
    · have hkz:(0:Int)<(B.length:Int):=by omega
      have hkq:((B.length:Int) == 0)=false:=by rw [beq_eq_false_iff_ne];omega
      obtain ⟨ba,oa,epa,c0,c1,c2⟩:=(HA.out.below HW0.out).first hia;cases epa;obtain ⟨bb,ob,epb,d0,d1,d2⟩:=(HB.out.below HW0.out).first hkb;cases epb;cases hl1:ltB A[0].key B[0].key with
      | true =>
        have hq0:=HW0.out.size
        go_wp2_with fail
        go_quiet (fail)
        have HW1:Hid (Below w.heap.size w (W0.drewN nq)):=below_drewN HW0.out _;have HN1:Hid (zan (W0.drewN nq) w.heap.size u5 out):=HN0.out.drewN _;clear HW0 HN0 c0 c1 c2 d0 d1 d2;generalize W0.drewN nq=W1 at HW1 HN1 ⊢;obtain ⟨ba,oa,epa,c0,c1,c2⟩:=(HA.out.below HW1.out).first hia;cases epa;obtain ⟨bb,ob,epb,d0,d1,d2⟩:=(HB.out.below HW1.out).first hkb;cases epb
        have HS9:Hid (chg a b=(out ++ [zdQ A[0]]) ++ chg (A.drop 1) B):=by
         show _=_;rw [HS.out,zt6 hia hkb hl1,List.append_assoc]
         rfl
        by_cases hc1:ca=1
        all_goals
         have hq9:=HW1.out.size
         go_wp2_with (at_builtin;refine wpList_append_own _ rfl _ _ 64 rfl w.heap.size 143 i0 _ 3 40 Tryz.underlying64 hi hz0 hz1 hz2 rfl (by decide) _ _ _ rfl (HN1.out.alloc _) ⟨W1.heap.size,0,none⟩ 1 1 [.string A[0].key,.string ⟨#[]⟩,.bool true] rfl rfl (zaq _ _ _ _ _) (zc8 (zdQ A[0])) (by unfold maxLen;omega) (by omega) (by simp;omega) ?_;intro v9 W9 hown9 hgrow9 hnil9)
         have HW9:Hid (Below w.heap.size w W9):=(HW1.out.alloc (by omega) _).grown hgrow9 (by simp;omega) (fun q hq=>(HN1.out.lt q hq).1);have HN9:Hid (zan W9 w.heap.size v9 (out ++ [zdQ A[0]])):=zan.snoc hown9;clear hown9 hgrow9 hnil9 HW1 HN1;go_wp2
         go_roundg (A.length+B.length - 1)
         case measure=>omega
         case rel=>first | exact ⟨A.drop 1,B,out ++ [zdQ A[0]],some ⟨ba,oa,none⟩,_,0,cb,(by rw [List.length_drop]),rfl,(by first | omega | (simp only [List.length_drop,List.length_append,List.length_singleton];omega)),(by first | omega | (simp only [List.length_drop,List.length_append,List.length_singleton];omega)),(by first | omega | (simp only [List.length_drop,List.length_append,List.length_singleton];omega)),CC.tail1 hia' hc1,HB,(by first | omega | (simp only [List.length_drop,List.length_append,List.length_singleton];omega)),(by first | omega | (simp only [List.length_drop,List.length_append,List.length_singleton];omega)),HS9,(by first | omega | (simp only [List.length_drop,List.length_append,List.length_singleton];omega)),HN9,HW9⟩ | exact ⟨A.drop 1,B,out ++ [zdQ A[0]],some ⟨ba,oa+3,none⟩,_,ca - 1,cb,(by rw [List.length_drop]),rfl,(by first | omega | (simp only [List.length_drop,List.length_append,List.length_singleton];omega)),(by first | omega | (simp only [List.length_drop,List.length_append,List.length_singleton];omega)),(by first | omega | (simp only [List.length_drop,List.length_append,List.length_singleton];omega)),HA.out.tail2,HB,(by first | omega | (simp only [List.length_drop,List.length_append,List.length_singleton];omega)),(by first | omega | (simp only [List.length_drop,List.length_append,List.length_singleton];omega)),HS9,(by first | omega | (simp only [List.length_drop,List.length_append,List.length_singleton];omega)),HN9,HW9⟩
      | false =>
        cases hl2:ltB B[0].key A[0].key with
        | true =>
          have hq0:=HW0.out.size
          go_wp2_with fail
          go_quiet (fail)
          have HW1:Hid (Below w.heap.size w (W0.drewN nq)):=below_drewN HW0.out _;have HN1:Hid (zan (W0.drewN nq) w.heap.size u5 out):=HN0.out.drewN _;clear HW0 HN0 c0 c1 c2 d0 d1 d2;generalize W0.drewN nq=W1 at HW1 HN1 ⊢;obtain ⟨ba,oa,epa,c0,c1,c2⟩:=(HA.out.below HW1.out).first hia;cases epa;obtain ⟨bb,ob,epb,d0,d1,d2⟩:=(HB.out.below HW1.out).first hkb;cases epb;have hq1:=HW1.out.size
          go_wp2_with fail
          go_quiet (fail)
          have HW2:Hid (Below w.heap.size w (W1.drewN nq)):=below_drewN HW1.out _;have HN2:Hid (zan (W1.drewN nq) w.heap.size u5 out):=HN1.out.drewN _;clear HW1 HN1 c0 c1 c2 d0 d1 d2;generalize W1.drewN nq=W2 at HW2 HN2 ⊢;obtain ⟨ba,oa,epa,c0,c1,c2⟩:=(HA.out.below HW2.out).first hia;cases epa;obtain ⟨bb,ob,epb,d0,d1,d2⟩:=(HB.out.below HW2.out).first hkb;cases epb
          have HS9:Hid (chg a b=(out ++ [B[0]]) ++ chg A (B.drop 1)):=by
           show _=_;rw [HS.out,zuj hia hkb hl1 hl2,List.append_assoc]
           rfl
          by_cases hc2:cb=1
          all_goals
           have hq9:=HW2.out.size
           go_wp2_with (at_builtin;refine wpList_append_own _ rfl _ _ 64 rfl w.heap.size 143 i0 _ 3 40 Tryz.underlying64 hi hz0 hz1 hz2 rfl (by decide) _ _ _ rfl (HN2.out.alloc _) ⟨W2.heap.size,0,none⟩ 1 1 [.string B[0].key,.string B[0].val,.bool B[0].gone] rfl rfl (zaq _ _ _ _ _) (zc8 B[0]) (by unfold maxLen;omega) (by omega) (by simp;omega) ?_;intro v9 W9 hown9 hgrow9 hnil9)
           have HW9:Hid (Below w.heap.size w W9):=(HW2.out.alloc (by omega) _).grown hgrow9 (by simp;omega) (fun q hq=>(HN2.out.lt q hq).1);have HN9:Hid (zan W9 w.heap.size v9 (out ++ [B[0]])):=zan.snoc hown9;clear hown9 hgrow9 hnil9 HW2 HN2;go_wp2
           go_roundg (A.length+B.length - 1)
           case measure=>omega
           case rel=>first | exact ⟨A,B.drop 1,out ++ [B[0]],_,some ⟨bb,ob,none⟩,ca,0,rfl,(by rw [List.length_drop]),(by first | omega | (simp only [List.length_drop,List.length_append,List.length_singleton];omega)),(by first | omega | (simp only [List.length_drop,List.length_append,List.length_singleton];omega)),(by first | omega | (simp only [List.length_drop,List.length_append,List.length_singleton];omega)),HA,CC.tail1 hkb' hc2,(by first | omega | (simp only [List.length_drop,List.length_append,List.length_singleton];omega)),(by first | omega | (simp only [List.length_drop,List.length_append,List.length_singleton];omega)),HS9,(by first | omega | (simp only [List.length_drop,List.length_append,List.length_singleton];omega)),HN9,HW9⟩ | exact ⟨A,B.drop 1,out ++ [B[0]],_,some ⟨bb,ob+3,none⟩,ca,cb - 1,rfl,(by rw [List.length_drop]),(by first | omega | (simp only [List.length_drop,List.length_append,List.length_singleton];omega)),(by first | omega | (simp only [List.length_drop,List.length_append,List.length_singleton];omega)),(by first | omega | (simp only [List.length_drop,List.length_append,List.length_singleton];omega)),HA,HB.out.tail2,(by first | omega | (simp only [List.length_drop,List.length_append,List.length_singleton];omega)),(by first | omega | (simp only [List.length_drop,List.length_append,List.length_singleton];omega)),HS9,(by first | omega | (simp only [List.length_drop,List.length_append,List.length_singleton];omega)),HN9,HW9⟩
        | false =>
          have hq:=fun w=>zgF A[0] B[0] w
          cases he:eqCh A[0] B[0] with
          | true =>
            have hq0:=HW0.out.size
            go_wp2_with fail
            go_quiet (fail)
            have HW1:Hid (Below w.heap.size w (W0.drewN nq)):=below_drewN HW0.out _;have HN1:Hid (zan (W0.drewN nq) w.heap.size u5 out):=HN0.out.drewN _;clear HW0 HN0 c0 c1 c2 d0 d1 d2;generalize W0.drewN nq=W1 at HW1 HN1 ⊢;obtain ⟨ba,oa,epa,c0,c1,c2⟩:=(HA.out.below HW1.out).first hia;cases epa;obtain ⟨bb,ob,epb,d0,d1,d2⟩:=(HB.out.below HW1.out).first hkb;cases epb;have hq1:=HW1.out.size
            go_wp2_with fail
            go_quiet (fail)
            have HW2:Hid (Below w.heap.size w (W1.drewN nq)):=below_drewN HW1.out _;have HN2:Hid (zan (W1.drewN nq) w.heap.size u5 out):=HN1.out.drewN _;clear HW1 HN1 c0 c1 c2 d0 d1 d2;generalize W1.drewN nq=W2 at HW2 HN2 ⊢;obtain ⟨ba,oa,epa,c0,c1,c2⟩:=(HA.out.below HW2.out).first hia;cases epa;obtain ⟨bb,ob,epb,d0,d1,d2⟩:=(HB.out.below HW2.out).first hkb;cases epb;have hq2:=HW2.out.size
            go_wp2_with fail
            go_quiet (fail)
            have HW3:Hid (Below w.heap.size w (W2.drewN nq)):=below_drewN HW2.out _;have HN3:Hid (zan (W2.drewN nq) w.heap.size u5 out):=HN2.out.drewN _;clear HW2 HN2 c0 c1 c2 d0 d1 d2;generalize W2.drewN nq=W3 at HW3 HN3 ⊢;obtain ⟨ba,oa,epa,c0,c1,c2⟩:=(HA.out.below HW3.out).first hia;cases epa;obtain ⟨bb,ob,epb,d0,d1,d2⟩:=(HB.out.below HW3.out).first hkb;cases epb
            have HS9:Hid (chg a b=out ++ chg (A.drop 1) (B.drop 1)):=by
             show _=_;rw [HS.out,zns hia hkb hl1 hl2,if_pos he]
             rfl
            by_cases hc1:ca=1 <;> by_cases hc2:cb=1
            all_goals
             have hq8:=HW3.out.size
             go_wp2_with fail
             go_quiet (fail)
             go_wp2
             go_roundg (A.length+B.length - 2)
             case measure=>omega
             case rel=>first | exact ⟨A.drop 1,B.drop 1,out,some ⟨ba,oa,none⟩,some ⟨bb,ob,none⟩,0,0,(by rw [List.length_drop]),(by rw [List.length_drop]),(by first | omega | (simp only [List.length_drop,List.length_append,List.length_singleton];omega)),(by first | omega | (simp only [List.length_drop,List.length_append,List.length_singleton];omega)),(by first | omega | (simp only [List.length_drop,List.length_append,List.length_singleton];omega)),CC.tail1 hia' hc1,CC.tail1 hkb' hc2,(by first | omega | (simp only [List.length_drop,List.length_append,List.length_singleton];omega)),(by first | omega | (simp only [List.length_drop,List.length_append,List.length_singleton];omega)),HS9,(by first | omega | (simp only [List.length_drop,List.length_append,List.length_singleton];omega)),(HN3.out.drewN _),(below_drewN HW3.out _)⟩ | exact ⟨A.drop 1,B.drop 1,out,some ⟨ba,oa,none⟩,some ⟨bb,ob+3,none⟩,0,cb - 1,(by rw [List.length_drop]),(by rw [List.length_drop]),(by first | omega | (simp only [List.length_drop,List.length_append,List.length_singleton];omega)),(by first | omega | (simp only [List.length_drop,List.length_append,List.length_singleton];omega)),(by first | omega | (simp only [List.length_drop,List.length_append,List.length_singleton];omega)),CC.tail1 hia' hc1,HB.out.tail2,(by first | omega | (simp only [List.length_drop,List.length_append,List.length_singleton];omega)),(by first | omega | (simp only [List.length_drop,List.length_append,List.length_singleton];omega)),HS9,(by first | omega | (simp only [List.length_drop,List.length_append,List.length_singleton];omega)),(HN3.out.drewN _),(below_drewN HW3.out _)⟩ | exact ⟨A.drop 1,B.drop 1,out,some ⟨ba,oa+3,none⟩,some ⟨bb,ob,none⟩,ca - 1,0,(by rw [List.length_drop]),(by rw [List.length_drop]),(by first | omega | (simp only [List.length_drop,List.length_append,List.length_singleton];omega)),(by first | omega | (simp only [List.length_drop,List.length_append,List.length_singleton];omega)),(by first | omega | (simp only [List.length_drop,List.length_append,List.length_singleton];omega)),HA.out.tail2,CC.tail1 hkb' hc2,(by first | omega | (simp only [List.length_drop,List.length_append,List.length_singleton];omega)),(by first | omega | (simp only [List.length_drop,List.length_append,List.length_singleton];omega)),HS9,(by first | omega | (simp only [List.length_drop,List.length_append,List.length_singleton];omega)),(HN3.out.drewN _),(below_drewN HW3.out _)⟩ | exact ⟨A.drop 1,B.drop 1,out,some ⟨ba,oa+3,none⟩,some ⟨bb,ob+3,none⟩,ca - 1,cb - 1,(by rw [List.length_drop]),(by rw [List.length_drop]),(by first | omega | (simp only [List.length_drop,List.length_append,List.length_singleton];omega)),(by first | omega | (simp only [List.length_drop,List.length_append,List.length_singleton];omega)),(by first | omega | (simp only [List.length_drop,List.length_append,List.length_singleton];omega)),HA.out.tail2,HB.out.tail2,(by first | omega | (simp only [List.length_drop,List.length_append,List.length_singleton];omega)),(by first | omega | (simp only [List.length_drop,List.length_append,List.length_singleton];omega)),HS9,(by first | omega | (simp only [List.length_drop,List.length_append,List.length_singleton];omega)),(HN3.out.drewN _),(below_drewN HW3.out _)⟩
          | false =>
            have hq0:=HW0.out.size
            go_wp2_with fail
            go_quiet (fail)
            have HW1:Hid (Below w.heap.size w (W0.drewN nq)):=below_drewN HW0.out _;have HN1:Hid (zan (W0.drewN nq) w.heap.size u5 out):=HN0.out.drewN _;clear HW0 HN0 c0 c1 c2 d0 d1 d2;generalize W0.drewN nq=W1 at HW1 HN1 ⊢;obtain ⟨ba,oa,epa,c0,c1,c2⟩:=(HA.out.below HW1.out).first hia;cases epa;obtain ⟨bb,ob,epb,d0,d1,d2⟩:=(HB.out.below HW1.out).first hkb;cases epb;have hq1:=HW1.out.size
            go_wp2_with fail
            go_quiet (fail)
            have HW2:Hid (Below w.heap.size w (W1.drewN nq)):=below_drewN HW1.out _;have HN2:Hid (zan (W1.drewN nq) w.heap.size u5 out):=HN1.out.drewN _;clear HW1 HN1 c0 c1 c2 d0 d1 d2;generalize W1.drewN nq=W2 at HW2 HN2 ⊢;obtain ⟨ba,oa,epa,c0,c1,c2⟩:=(HA.out.below HW2.out).first hia;cases epa;obtain ⟨bb,ob,epb,d0,d1,d2⟩:=(HB.out.below HW2.out).first hkb;cases epb;have hq2:=HW2.out.size
            go_wp2_with fail
            go_quiet (fail)
            have HW3:Hid (Below w.heap.size w (W2.drewN nq)):=below_drewN HW2.out _;have HN3:Hid (zan (W2.drewN nq) w.heap.size u5 out):=HN2.out.drewN _;clear HW2 HN2 c0 c1 c2 d0 d1 d2;generalize W2.drewN nq=W3 at HW3 HN3 ⊢;obtain ⟨ba,oa,epa,c0,c1,c2⟩:=(HA.out.below HW3.out).first hia;cases epa;obtain ⟨bb,ob,epb,d0,d1,d2⟩:=(HB.out.below HW3.out).first hkb;cases epb
            have HS9:Hid (chg a b=(out ++ [B[0]]) ++ chg (A.drop 1) (B.drop 1)):=by
             show _=_;rw [HS.out,zns hia hkb hl1 hl2,if_neg (by rw [he];decide),List.append_assoc]
            by_cases hc1:ca=1 <;> by_cases hc2:cb=1
            all_goals
             have hq9:=HW3.out.size
             go_wp2_with (at_builtin;refine wpList_append_own _ rfl _ _ 64 rfl w.heap.size 143 i0 _ 3 40 Tryz.underlying64 hi hz0 hz1 hz2 rfl (by decide) _ _ _ rfl (HN3.out.alloc _) ⟨W3.heap.size,0,none⟩ 1 1 [.string B[0].key,.string B[0].val,.bool B[0].gone] rfl rfl (zaq _ _ _ _ _) (zc8 B[0]) (by unfold maxLen;omega) (by omega) (by simp;omega) ?_;intro v9 W9 hown9 hgrow9 hnil9)
             have HW9:Hid (Below w.heap.size w W9):=(HW3.out.alloc (by omega) _).grown hgrow9 (by simp;omega) (fun q hq=>(HN3.out.lt q hq).1);have HN9:Hid (zan W9 w.heap.size v9 (out ++ [B[0]])):=zan.snoc hown9;clear hown9 hgrow9 hnil9 HW3 HN3;have hq8:=HW9.out.size
             go_wp2_with fail
             go_quiet (fail)
             go_wp2
             go_roundg (A.length+B.length - 2)
             case measure=>omega
             case rel=>first | exact ⟨A.drop 1,B.drop 1,out ++ [B[0]],some ⟨ba,oa,none⟩,some ⟨bb,ob,none⟩,0,0,(by rw [List.length_drop]),(by rw [List.length_drop]),(by first | omega | (simp only [List.length_drop,List.length_append,List.length_singleton];omega)),(by first | omega | (simp only [List.length_drop,List.length_append,List.length_singleton];omega)),(by first | omega | (simp only [List.length_drop,List.length_append,List.length_singleton];omega)),CC.tail1 hia' hc1,CC.tail1 hkb' hc2,(by first | omega | (simp only [List.length_drop,List.length_append,List.length_singleton];omega)),(by first | omega | (simp only [List.length_drop,List.length_append,List.length_singleton];omega)),HS9,(by first | omega | (simp only [List.length_drop,List.length_append,List.length_singleton];omega)),(HN9.out.drewN _),(below_drewN HW9.out _)⟩ | exact ⟨A.drop 1,B.drop 1,out ++ [B[0]],some ⟨ba,oa,none⟩,some ⟨bb,ob+3,none⟩,0,cb - 1,(by rw [List.length_drop]),(by rw [List.length_drop]),(by first | omega | (simp only [List.length_drop,List.length_append,List.length_singleton];omega)),(by first | omega | (simp only [List.length_drop,List.length_append,List.length_singleton];omega)),(by first | omega | (simp only [List.length_drop,List.length_append,List.length_singleton];omega)),CC.tail1 hia' hc1,HB.out.tail2,(by first | omega | (simp only [List.length_drop,List.length_append,List.length_singleton];omega)),(by first | omega | (simp only [List.length_drop,List.length_append,List.length_singleton];omega)),HS9,(by first | omega | (simp only [List.length_drop,List.length_append,List.length_singleton];omega)),(HN9.out.drewN _),(below_drewN HW9.out _)⟩ | exact ⟨A.drop 1,B.drop 1,out ++ [B[0]],some ⟨ba,oa+3,none⟩,some ⟨bb,ob,none⟩,ca - 1,0,(by rw [List.length_drop]),(by rw [List.length_drop]),(by first | omega | (simp only [List.length_drop,List.length_append,List.length_singleton];omega)),(by first | omega | (simp only [List.length_drop,List.length_append,List.length_singleton];omega)),(by first | omega | (simp only [List.length_drop,List.length_append,List.length_singleton];omega)),HA.out.tail2,CC.tail1 hkb' hc2,(by first | omega | (simp only [List.length_drop,List.length_append,List.length_singleton];omega)),(by first | omega | (simp only [List.length_drop,List.length_append,List.length_singleton];omega)),HS9,(by first | omega | (simp only [List.length_drop,List.length_append,List.length_singleton];omega)),(HN9.out.drewN _),(below_drewN HW9.out _)⟩ | exact ⟨A.drop 1,B.drop 1,out ++ [B[0]],some ⟨ba,oa+3,none⟩,some ⟨bb,ob+3,none⟩,ca - 1,cb - 1,(by rw [List.length_drop]),(by rw [List.length_drop]),(by first | omega | (simp only [List.length_drop,List.length_append,List.length_singleton];omega)),(by first | omega | (simp only [List.length_drop,List.length_append,List.length_singleton];omega)),(by first | omega | (simp only [List.length_drop,List.length_append,List.length_singleton];omega)),HA.out.tail2,HB.out.tail2,(by first | omega | (simp only [List.length_drop,List.length_append,List.length_singleton];omega)),(by first | omega | (simp only [List.length_drop,List.length_append,List.length_singleton];omega)),HS9,(by first | omega | (simp only [List.length_drop,List.length_append,List.length_singleton];omega)),(HN9.out.drewN _),(below_drewN HW9.out _)⟩
    · have hkq:((B.length:Int) == 0)=true:=by rw [beq_iff_eq];omega
      have hkz:¬ (0:Int)<(B.length:Int):=by omega
      obtain ⟨ba,oa,epa,c0,c1,c2⟩:=(HA.out.below HW0.out).first hia;cases epa;have hq0:=HW0.out.size
      go_wp2_with fail
      go_quiet (fail)
      have HW1:Hid (Below w.heap.size w (W0.drewN nq)):=below_drewN HW0.out _;have HN1:Hid (zan (W0.drewN nq) w.heap.size u5 out):=HN0.out.drewN _;clear HW0 HN0 c0 c1 c2;generalize W0.drewN nq=W1 at HW1 HN1 ⊢;obtain ⟨ba,oa,epa,c0,c1,c2⟩:=(HA.out.below HW1.out).first hia;cases epa
      have HS9:Hid (chg a b=(out ++ [zdQ A[0]]) ++ chg (A.drop 1) B):=by
       show _=_;rw [HS.out,zrt hia hkb,List.append_assoc]
       rfl
      by_cases hc1:ca=1
      all_goals
       have hq9:=HW1.out.size
       go_wp2_with (at_builtin;refine wpList_append_own _ rfl _ _ 64 rfl w.heap.size 143 i0 _ 3 40 Tryz.underlying64 hi hz0 hz1 hz2 rfl (by decide) _ _ _ rfl (HN1.out.alloc _) ⟨W1.heap.size,0,none⟩ 1 1 [.string A[0].key,.string ⟨#[]⟩,.bool true] rfl rfl (zaq _ _ _ _ _) (zc8 (zdQ A[0])) (by unfold maxLen;omega) (by omega) (by simp;omega) ?_;intro v9 W9 hown9 hgrow9 hnil9)
       have HW9:Hid (Below w.heap.size w W9):=(HW1.out.alloc (by omega) _).grown hgrow9 (by simp;omega) (fun q hq=>(HN1.out.lt q hq).1);have HN9:Hid (zan W9 w.heap.size v9 (out ++ [zdQ A[0]])):=zan.snoc hown9;clear hown9 hgrow9 hnil9 HW1 HN1;go_wp2
       go_roundg (A.length+B.length - 1)
       case measure=>omega
       case rel=>first | exact ⟨A.drop 1,B,out ++ [zdQ A[0]],some ⟨ba,oa,none⟩,_,0,cb,(by rw [List.length_drop]),rfl,(by first | omega | (simp only [List.length_drop,List.length_append,List.length_singleton];omega)),(by first | omega | (simp only [List.length_drop,List.length_append,List.length_singleton];omega)),(by first | omega | (simp only [List.length_drop,List.length_append,List.length_singleton];omega)),CC.tail1 hia' hc1,HB,(by first | omega | (simp only [List.length_drop,List.length_append,List.length_singleton];omega)),(by first | omega | (simp only [List.length_drop,List.length_append,List.length_singleton];omega)),HS9,(by first | omega | (simp only [List.length_drop,List.length_append,List.length_singleton];omega)),HN9,HW9⟩ | exact ⟨A.drop 1,B,out ++ [zdQ A[0]],some ⟨ba,oa+3,none⟩,_,ca - 1,cb,(by rw [List.length_drop]),rfl,(by first | omega | (simp only [List.length_drop,List.length_append,List.length_singleton];omega)),(by first | omega | (simp only [List.length_drop,List.length_append,List.length_singleton];omega)),(by first | omega | (simp only [List.length_drop,List.length_append,List.length_singleton];omega)),HA.out.tail2,HB,(by first | omega | (simp only [List.length_drop,List.length_append,List.length_singleton];omega)),(by first | omega | (simp only [List.length_drop,List.length_append,List.length_singleton];omega)),HS9,(by first | omega | (simp only [List.length_drop,List.length_append,List.length_singleton];omega)),HN9,HW9⟩
  · have hiz:¬ (0:Int)<(A.length:Int):=by omega
    have hiq:((A.length:Int) == 0)=true:=by rw [beq_iff_eq];omega
    by_cases hkb:0<B.length
    · have hkz:(0:Int)<(B.length:Int):=by omega
      have hkq:((B.length:Int) == 0)=false:=by rw [beq_eq_false_iff_ne];omega
      obtain ⟨bb,ob,epb,d0,d1,d2⟩:=(HB.out.below HW0.out).first hkb;cases epb;have hq0:=HW0.out.size
      go_wp2_with fail
      go_quiet (fail)
      have HW1:Hid (Below w.heap.size w (W0.drewN nq)):=below_drewN HW0.out _;have HN1:Hid (zan (W0.drewN nq) w.heap.size u5 out):=HN0.out.drewN _;clear HW0 HN0 d0 d1 d2;generalize W0.drewN nq=W1 at HW1 HN1 ⊢;obtain ⟨bb,ob,epb,d0,d1,d2⟩:=(HB.out.below HW1.out).first hkb;cases epb;have hq1:=HW1.out.size
      go_wp2_with fail
      go_quiet (fail)
      have HW2:Hid (Below w.heap.size w (W1.drewN nq)):=below_drewN HW1.out _;have HN2:Hid (zan (W1.drewN nq) w.heap.size u5 out):=HN1.out.drewN _;clear HW1 HN1 d0 d1 d2;generalize W1.drewN nq=W2 at HW2 HN2 ⊢;obtain ⟨bb,ob,epb,d0,d1,d2⟩:=(HB.out.below HW2.out).first hkb;cases epb
      have HS9:Hid (chg a b=(out ++ [B[0]]) ++ chg A (B.drop 1)):=by
       show _=_;rw [HS.out,ztw hia hkb,List.append_assoc]
       rfl
      by_cases hc2:cb=1
      all_goals
       have hq9:=HW2.out.size
       go_wp2_with (at_builtin;refine wpList_append_own _ rfl _ _ 64 rfl w.heap.size 143 i0 _ 3 40 Tryz.underlying64 hi hz0 hz1 hz2 rfl (by decide) _ _ _ rfl (HN2.out.alloc _) ⟨W2.heap.size,0,none⟩ 1 1 [.string B[0].key,.string B[0].val,.bool B[0].gone] rfl rfl (zaq _ _ _ _ _) (zc8 B[0]) (by unfold maxLen;omega) (by omega) (by simp;omega) ?_;intro v9 W9 hown9 hgrow9 hnil9)
       have HW9:Hid (Below w.heap.size w W9):=(HW2.out.alloc (by omega) _).grown hgrow9 (by simp;omega) (fun q hq=>(HN2.out.lt q hq).1);have HN9:Hid (zan W9 w.heap.size v9 (out ++ [B[0]])):=zan.snoc hown9;clear hown9 hgrow9 hnil9 HW2 HN2;go_wp2
       go_roundg (A.length+B.length - 1)
       case measure=>omega
       case rel=>first | exact ⟨A,B.drop 1,out ++ [B[0]],_,some ⟨bb,ob,none⟩,ca,0,rfl,(by rw [List.length_drop]),(by first | omega | (simp only [List.length_drop,List.length_append,List.length_singleton];omega)),(by first | omega | (simp only [List.length_drop,List.length_append,List.length_singleton];omega)),(by first | omega | (simp only [List.length_drop,List.length_append,List.length_singleton];omega)),HA,CC.tail1 hkb' hc2,(by first | omega | (simp only [List.length_drop,List.length_append,List.length_singleton];omega)),(by first | omega | (simp only [List.length_drop,List.length_append,List.length_singleton];omega)),HS9,(by first | omega | (simp only [List.length_drop,List.length_append,List.length_singleton];omega)),HN9,HW9⟩ | exact ⟨A,B.drop 1,out ++ [B[0]],_,some ⟨bb,ob+3,none⟩,ca,cb - 1,rfl,(by rw [List.length_drop]),(by first | omega | (simp only [List.length_drop,List.length_append,List.length_singleton];omega)),(by first | omega | (simp only [List.length_drop,List.length_append,List.length_singleton];omega)),(by first | omega | (simp only [List.length_drop,List.length_append,List.length_singleton];omega)),HA,HB.out.tail2,(by first | omega | (simp only [List.length_drop,List.length_append,List.length_singleton];omega)),(by first | omega | (simp only [List.length_drop,List.length_append,List.length_singleton];omega)),HS9,(by first | omega | (simp only [List.length_drop,List.length_append,List.length_singleton];omega)),HN9,HW9⟩
    · have hkz:¬ (0:Int)<(B.length:Int):=by omega
      have HE:Hid (out=chg a b):=by show _=_;rw [HS.out,ztd hia hkb,List.append_nil]
      go_wp2;go_ret;rw [← HE.out];exact ⟨_,rfl,HN0.out,HW0.out⟩
end Go.Proofs.YtihnghnafpgdfadGreatDoor
