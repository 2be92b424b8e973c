/- What the proofs stand on, part 16: SymMerge. -/
import Derived.Test.YtihnghnafpgdfadGreatDoorSk15
set_option linter.unusedVariables false
set_option linter.unusedSimpArgs false
set_option maxRecDepth 100000
set_option maxHeartbeats 4000000
namespace Go.Proofs.YtihnghnafpgdfadGreatDoor
open Go.RowKit Go.Lib Go.Sort
variable {W w0:World}{a b blk g i k m off size:Nat}{cb:Array Value}
theorem SWK.grown3 {dk:Array Ch}(h:SWK encC 3 w0 blk off dk W){d0:Array Ch}(R:RowK encC 3 w0 blk off d0)(hs:dk.size=d0.size)(i:Nat)(hi:i<dk.size):
 ∀ (n:Nat) (os:Array Obj),((grow (W.drewN n) os).cell? ⟨blk,off+i * 3,none⟩=some (.string dk[i]!.key)∧(grow (W.drewN n) os).cell? ⟨blk,off+i * 3+1,none⟩=some (.string dk[i]!.val)∧(grow (W.drewN n) os).cell? ⟨blk,off+i * 3+2,none⟩=some (.bool dk[i]!.gone)) :=
 fun n os=>(SWK.three (h.grown n os) R hs i hi).1
structure zdS (d d':Array Ch)(a k:Nat):Prop where
 size:d'.size=d.size
 lo:∀ t,a≤t→t<k→d'[t]! = d[t+1]!
 spot:d'[k]! = d[a]!
 out:∀ t,t<a∨k<t→d'[t]! = d[t]!
theorem zdS.zero (d:Array Ch)(a:Nat):zdS d d a a:=⟨rfl,fun t h1 h2=>by omega,rfl,fun _ _=>rfl⟩
theorem zdS.next {d d':Array Ch}(h:zdS d d' a k)(hk:a≤k)(hs:k+1<d.size):zdS d (swp d' k (k+1)) a (k+1):=by
 have hg:=swp_get d' (i:=k) (j:=k+1) (by rw [h.size];omega) (by rw [h.size];omega);refine ⟨by rw [size_swp];exact h.size,fun t h1 h2=>?_,?_,fun t ht=>?_⟩
 · rw [hg,if_neg (by omega)]
   by_cases e:t=k
   · subst e
     rw [if_pos rfl];exact h.out _ (by omega)
   · rw [if_neg e]
     exact h.lo t h1 (by omega)
 · rw [hg,if_pos rfl]
   exact h.spot
 · rw [hg,if_neg (by omega),if_neg (by omega)]
   exact h.out t (by omega)
theorem zdS.merged {lt:Ch→Ch→Bool}{d d':Array Ch}(h:zdS d d' a (i - 1))(hm:m=a+1)(hi:m≤i)(hb:i≤b)(hlo:∀ t,m≤t→t<i→lt d[t]! d[a]! = true)(hhi:∀ t,i≤t→t<b→lt d[t]! d[a]! = false):zam lt d d' a m b:=by
 subst hm;exact zam.one_left lt hi hb hlo hhi h.size h.lo h.spot fun t ht=>h.out t (by omega)
structure zcj (d d':Array Ch)(m k:Nat):Prop where
 size:d'.size=d.size
 hi:∀ t,k≤t→t<m→d'[t+1]! = d[t]!
 spot:d'[k]! = d[m]!
 out:∀ t,t<k∨m<t→d'[t]! = d[t]!
theorem zcj.zero (d:Array Ch)(m:Nat):zcj d d m m:=⟨rfl,fun t h1 h2=>by omega,rfl,fun _ _=>rfl⟩
theorem zcj.next {d d':Array Ch}(h:zcj d d' m (k+1))(hk:k+1≤m)(hs:m<d.size):zcj d (swp d' (k+1) k) m k:=by
 have hg:=swp_get d' (i:=k+1) (j:=k) (by rw [h.size];omega) (by rw [h.size];omega);refine ⟨by rw [size_swp];exact h.size,fun t h1 h2=>?_,?_,fun t ht=>?_⟩
 · rw [hg,if_neg (by omega)]
   by_cases e:t=k
   · subst e
     rw [if_pos rfl];exact h.out _ (by omega)
   · rw [if_neg (by omega)]
     exact h.hi t (by omega) h2
 · rw [hg,if_pos rfl]
   exact h.spot
 · rw [hg,if_neg (by omega),if_neg (by omega)]
   exact h.out t (by omega)
theorem zcj.merged {lt:Ch→Ch→Bool}{d d':Array Ch}(h:zcj d d' m i)(hb:b=m+1)(hi:a≤i)(hm:i≤m)(hlo:∀ t,a≤t→t<i→lt d[m]! d[t]! = false)(hhi:∀ t,i≤t→t<m→lt d[m]! d[t]! = true):zam lt d d' a m b:=by
 subst hb;exact zam.one_right lt hi hm hlo hhi h.size h.hi h.spot fun t ht=>h.out t (by omega)
theorem SWK.cmp3 {cf:Ch→Ch→Int}{dk:Array Ch}(h:SWK encC 3 w0 blk off dk W)(hC:CmpLays Tryz.prog g cb encC 3 cf blk off size w0)(hs:dk.size=size)(x y:Ch)(n:Nat)(os:Array Obj):
 Calls Tryz.prog g (#[.agg #[.string x.key,.string x.val,.bool x.gone],.agg #[.string y.key,.string y.val,.bool y.gone]] ++ cb) (grow (W.drewN n) os) fun e w'=>e=.returned (.int .i64 (cf x y))∧∃ q os',w'=grow ((grow (W.drewN n) os).drewN q) os':=h.cmp hC hs x y n os
theorem zlD (cf:Ch→Ch→Int) (hO:SWO (ltOf cf)) (g:Nat) (cb:Array Value) (blk off cap a m b:Nat) (d0 d:Array Ch) (w0 w:World) (eg:∀ args w,(callFunc g args).run Tryz.prog w=.ok (.enter g args) w) (hcmp:CmpLays Tryz.prog g cb encC 3 cf blk off d0.size w0)
 (R:RowK encC 3 w0 blk off d0) (hs:d0.size=d.size) (S:SWK encC 3 w0 blk off d w) (hm:m=a+1) (hmb:m<b) (hb:b≤d.size) (hsz:d.size<4611686018427387904) (hL:zaJ (ltOf cf) d m b) :
 Calls Tryz.prog 190 #[.slice (some ⟨blk,off,none⟩) d.size cap,.int .i64 a,.int .i64 m,.int .i64 b,.func (.func g) #[] cb] w fun e w'=>e=.returned (.tuple #[])∧∃ d',zam (ltOf cf) d d' a m b∧SWK encC 3 w0 blk off d' w':=by
 have mixed:Tryz.prog.follows Departure.mixedOrders=true:=by kernel_rfl
 have HC:Aside _:=hcmp;have HL:Aside (zaJ (ltOf cf) d m b):=hL;have S0:Aside (SWK encC 3 w0 blk off d w):=S;clear S hL hcmp;have h1:((m:Int) - (a:Int) == 1)=true:=by rw [beq_iff_eq];omega
 have HM:Hid (m=a+1):=hm;have ham:a<m:=by omega
 clear hm
 go_enter Tryz.func190,Tryz.ntmps190
 go_wp2_with fail
 go_loopg [10,11] (b - a) (fun kx si sj wr=>∃ (i j:Nat),si=.int .i64 i∧sj=.int .i64 j∧m≤i∧i≤j∧j≤b∧j - i≤kx∧Aside (i=m∨ltOf cf d[i - 1]! d[a]! = true)∧Aside (j=b∨ltOf cf d[j]! d[a]! = false)∧Aside (SWK encC 3 w0 blk off d wr))
 case atStart=>exact ⟨m,b,rfl,rfl,Nat.le_refl _,by omega,Nat.le_refl _,by omega,.inl rfl,.inl rfl,S0⟩
 case round =>
  clear S0;obtain ⟨i,j,rfl,rfl,hi,hij,hj,hkx,H1,H2,S1⟩:=hrel
  by_cases hlt:i<j
  · have hltz:(i:Int)<(j:Int):=by omega
    obtain ⟨h,hh⟩:∃ h,h=(i+j) / 2:=⟨_,rfl⟩
    have hz:((i:Int)+(j:Int)) / 2=(h:Int):=by omega
    have hh1:i≤h:=by omega
    have hh2:h<j:=by omega
    clear hh;have k0:=fun n os=>(SWK.grown3 S1.out R (by omega) h (by omega) n os).1
    have k1:=fun n os=>(SWK.grown3 S1.out R (by omega) h (by omega) n os).2.1
    have k2:=fun n os=>(SWK.grown3 S1.out R (by omega) h (by omega) n os).2.2
    have a0:=fun n os=>(SWK.grown3 S1.out R (by omega) a (by omega) n os).1
    have a1:=fun n os=>(SWK.grown3 S1.out R (by omega) a (by omega) n os).2.1
    have a2:=fun n os=>(SWK.grown3 S1.out R (by omega) a (by omega) n os).2.2
    have hc:=SWK.cmp3 S1.out HC.out (by omega) d[h]! d[a]!;have bh:(h:Int)<(d.size:Int):=by omega
    have ba:(a:Int)<(d.size:Int):=by omega
    by_cases hv:cf d[h]! d[a]!<0
    · have H3:Aside (h+1=m∨ltOf cf d[h+1 - 1]! d[a]! = true):=.inr (by rw [Nat.add_sub_cancel];exact decide_eq_true hv)
      go_wp2_with fail
      go_quiet_grown (first | (go_at_fn g;refine Calls.grown_of (hc _ _)))
      have S2:Aside (SWK encC 3 w0 blk off d (grow (wr.drewN nq) osq)):=S1.out.grown nq osq;clear k0 k1 k2 a0 a1 a2 hc S1;generalize grow (wr.drewN nq) osq=w2 at S2 ⊢;clear nq osq;go_wp2
      go_roundg (j - (h+1))
      case measure=>omega
      case rel=>exact ⟨h+1,j,by go_num,rfl,by omega,by omega,hj,Nat.le_refl _,H3,H2,S2⟩
    · have H3:Aside (h=b∨ltOf cf d[h]! d[a]! = false):=.inr (decide_eq_false hv)
      go_wp2_with fail
      go_quiet_grown (first | (go_at_fn g;refine Calls.grown_of (hc _ _)))
      have S2:Aside (SWK encC 3 w0 blk off d (grow (wr.drewN nq) osq)):=S1.out.grown nq osq;clear k0 k1 k2 a0 a1 a2 hc S1;generalize grow (wr.drewN nq) osq=w2 at S2 ⊢;clear nq osq;go_wp2
      go_roundg (h - i)
      case measure=>omega
      case rel=>exact ⟨i,h,rfl,by go_num,hi,by omega,by omega,Nat.le_refl _,H1,H3,S2⟩
  · have eij:i=j:=by omega
    have HF:Aside ((∀ t,m≤t→t<i→ltOf cf d[t]! d[a]! = true)∧∀ t,i≤t→t<b→ltOf cf d[t]! d[a]! = false):=by
     refine ⟨fun t h3 h4=>?_,fun t h3 h4=>?_⟩
     · rcases H1.out with e | e
       · omega
       · exact HL.out.below (ltOf cf) hO (i:=i - 1) (by omega) e t h3 (by omega)
     · rcases H2.out with e | e
       · omega
       · rw [← eij] at e
         exact HL.out.above (ltOf cf) hO (i:=i) (by omega) e t h3 h4
    clear H1 H2 eij
    go_wp2_with fail
    go_loopg [13] (i - a) (fun kx sk wk=>∃ (k:Nat) (dk:Array Ch),sk=.int .i64 k∧a≤k∧k≤i - 1∧i - 1 - k≤kx∧Aside (zdS d dk a k)∧Aside (SWK encC 3 w0 blk off dk wk))
    case atStart=>exact ⟨a,d,rfl,Nat.le_refl _,by omega,by omega,zdS.zero d a,S1⟩
    case round =>
     clear S1;obtain ⟨k,dk,rfl,hak,hki,hkx2,HM2,S1⟩:=hrel;have hds:dk.size=d.size:=HM2.out.size
     by_cases hk:k<i - 1
     · have hkz:(k:Int)<(i:Int) - 1:=by omega
       have bk:(k:Int)<(d.size:Int):=by omega
       have bk1:(k:Int)+1<(d.size:Int):=by omega
       have ek1:((k:Int)+1).toNat=k+1:=by omega
       have S2:=SWK.swap3 S1.out R k (k+1) (by omega) (by omega);have S2:Aside _:=S2;have HM3:Aside (zdS d (swp dk k (k+1)) a (k+1)):=HM2.out.next hak (by omega);obtain ⟨⟨c0,c1,c2⟩,f0,f1,f2⟩:=SWK.three S1.out R (by omega) k (by omega);obtain ⟨⟨e0,e1,e2⟩,g0,g1,g2⟩:=SWK.three S1.out R (by omega) (k+1) (by omega);clear S1
       go_wp2_with fail
       go_big_region_o
       clear c0 c1 c2 e0 e1 e2 f0 f1 f2 g0 g1 g2
       generalize ((((((wr.setCell ⟨blk,off+k * 3,none⟩ (.string dk[k+1]!.key)).setCell ⟨blk,off+k * 3+1,none⟩ (.string dk[k+1]!.val)).setCell ⟨blk,off+k * 3+2,none⟩ (.bool dk[k+1]!.gone)).setCell
        ⟨blk,off+(k+1) * 3,none⟩ (.string dk[k]!.key)).setCell ⟨blk,off+(k+1) * 3+1,none⟩ (.string dk[k]!.val)).setCell ⟨blk,off+(k+1) * 3+2,none⟩ (.bool dk[k]!.gone)).drew=w2 at S2 ⊢
       go_wp2
       go_roundg (i - 1 - (k+1))
       case measure=>omega
       case rel=>exact ⟨k+1,_,by go_num,by omega,by omega,Nat.le_refl _,HM3,S2⟩
     · have ek:k=i - 1:=by omega
       have HK:Aside (zdS d dk a (i - 1)):=by rw [← ek];exact HM2
       clear ek HM2;go_wp2
       try simp only [Exit.inBlock,Exit.then]
       refine bodyPost_ret (results_none rfl _ _ _) rfl ?_;exact ⟨rfl,dk,HK.out.merged HM.out (by omega) (by omega) HF.out.1 HF.out.2,S1.out⟩
theorem zkh (cf:Ch→Ch→Int) (hO:SWO (ltOf cf)) (g:Nat) (cb:Array Value) (blk off cap a m b:Nat) (d0 d:Array Ch) (w0 w:World) (eg:∀ args w,(callFunc g args).run Tryz.prog w=.ok (.enter g args) w) (hcmp:CmpLays Tryz.prog g cb encC 3 cf blk off d0.size w0)
 (R:RowK encC 3 w0 blk off d0) (hs:d0.size=d.size) (S:SWK encC 3 w0 blk off d w) (hm:b=m+1) (ham:a+1<m) (hb:b≤d.size) (hsz:d.size<4611686018427387904) (hL:zaJ (ltOf cf) d a m) :
 Calls Tryz.prog 190 #[.slice (some ⟨blk,off,none⟩) d.size cap,.int .i64 a,.int .i64 m,.int .i64 b,.func (.func g) #[] cb] w fun e w'=>e=.returned (.tuple #[])∧∃ d',zam (ltOf cf) d d' a m b∧SWK encC 3 w0 blk off d' w':=by
 have mixed:Tryz.prog.follows Departure.mixedOrders=true:=by kernel_rfl
 have HC:Aside _:=hcmp;have HL:Aside (zaJ (ltOf cf) d a m):=hL;have S0:Aside (SWK encC 3 w0 blk off d w):=S;clear S hL hcmp;have h0:((m:Int) - (a:Int) == 1)=false:=by rw [beq_eq_false_iff_ne];omega
 have h1:((b:Int) - (m:Int) == 1)=true:=by rw [beq_iff_eq];omega
 have HM:Hid (b=m+1):=hm;have hmb:m<b:=by omega
 clear hm
 go_enter Tryz.func190,Tryz.ntmps190
 go_wp2_with fail
 go_loopg [14,15] (b - a) (fun kx si sj wr=>∃ (i j:Nat),si=.int .i64 i∧sj=.int .i64 j∧a≤i∧i≤j∧j≤m∧j - i≤kx∧Aside (i=a∨ltOf cf d[m]! d[i - 1]! = false)∧Aside (j=m∨ltOf cf d[m]! d[j]! = true)∧Aside (SWK encC 3 w0 blk off d wr))
 case atStart=>exact ⟨a,m,rfl,rfl,Nat.le_refl _,by omega,Nat.le_refl _,by omega,.inl rfl,.inl rfl,S0⟩
 case round =>
  clear S0;obtain ⟨i,j,rfl,rfl,hi,hij,hj,hkx,H1,H2,S1⟩:=hrel
  by_cases hlt:i<j
  · have hltz:(i:Int)<(j:Int):=by omega
    obtain ⟨h,hh⟩:∃ h,h=(i+j) / 2:=⟨_,rfl⟩
    have hz:((i:Int)+(j:Int)) / 2=(h:Int):=by omega
    have hh1:i≤h:=by omega
    have hh2:h<j:=by omega
    clear hh;have k0:=fun n os=>(SWK.grown3 S1.out R (by omega) h (by omega) n os).1
    have k1:=fun n os=>(SWK.grown3 S1.out R (by omega) h (by omega) n os).2.1
    have k2:=fun n os=>(SWK.grown3 S1.out R (by omega) h (by omega) n os).2.2
    have a0:=fun n os=>(SWK.grown3 S1.out R (by omega) m (by omega) n os).1
    have a1:=fun n os=>(SWK.grown3 S1.out R (by omega) m (by omega) n os).2.1
    have a2:=fun n os=>(SWK.grown3 S1.out R (by omega) m (by omega) n os).2.2
    have hc:=SWK.cmp3 S1.out HC.out (by omega) d[m]! d[h]!;have bh:(h:Int)<(d.size:Int):=by omega
    have ba:(m:Int)<(d.size:Int):=by omega
    by_cases hv:cf d[m]! d[h]!<0
    · have H3:Aside (h=m∨ltOf cf d[m]! d[h]! = true):=.inr (decide_eq_true hv)
      have hd:decide (cf d[m]! d[h]!<0)=true:=decide_eq_true hv
      go_wp2_with fail
      go_quiet_grown (first | (go_at_fn g;refine Calls.grown_of (hc _ _)))
      have S2:Aside (SWK encC 3 w0 blk off d (grow (wr.drewN nq) osq)):=S1.out.grown nq osq;clear k0 k1 k2 a0 a1 a2 hc S1;generalize grow (wr.drewN nq) osq=w2 at S2 ⊢;clear nq osq;go_wp2
      go_roundg (h - i)
      case measure=>omega
      case rel=>exact ⟨i,h,rfl,by go_num,hi,by omega,by omega,Nat.le_refl _,H1,H3,S2⟩
    · have H3:Aside (h+1=a∨ltOf cf d[m]! d[h+1 - 1]! = false):=.inr (by rw [Nat.add_sub_cancel];exact decide_eq_false hv)
      have hd:decide (cf d[m]! d[h]!<0)=false:=decide_eq_false hv
      go_wp2_with fail
      go_quiet_grown (first | (go_at_fn g;refine Calls.grown_of (hc _ _)))
      have S2:Aside (SWK encC 3 w0 blk off d (grow (wr.drewN nq) osq)):=S1.out.grown nq osq;clear k0 k1 k2 a0 a1 a2 hc S1;generalize grow (wr.drewN nq) osq=w2 at S2 ⊢;clear nq osq;go_wp2
      go_roundg (j - (h+1))
      case measure=>omega
      case rel=>exact ⟨h+1,j,by go_num,rfl,by omega,by omega,hj,Nat.le_refl _,H3,H2,S2⟩
  · have eij:i=j:=by omega
    have HF:Aside ((∀ t,a≤t→t<i→ltOf cf d[m]! d[t]! = false)∧∀ t,i≤t→t<m→ltOf cf d[m]! d[t]! = true):=by
     refine ⟨fun t h3 h4=>?_,fun t h3 h4=>?_⟩
     · rcases H1.out with e | e
       · omega
       · exact HL.out.below' (ltOf cf) hO (i:=i - 1) (by omega) e t h3 (by omega)
     · rcases H2.out with e | e
       · omega
       · rw [← eij] at e
         exact HL.out.above' (ltOf cf) hO (i:=i) (by omega) e t h3 h4
    clear H1 H2 eij
    go_wp2_with fail
    go_loopg [17] (m - i) (fun kx sk wk=>∃ (k:Nat) (dk:Array Ch),sk=.int .i64 k∧i≤k∧k≤m∧k - i≤kx∧Aside (zcj d dk m k)∧Aside (SWK encC 3 w0 blk off dk wk))
    case atStart=>exact ⟨m,d,rfl,by omega,Nat.le_refl _,by omega,zcj.zero d m,S1⟩
    case round =>
     clear S1;obtain ⟨k,dk,rfl,hak,hki,hkx2,HM2,S1⟩:=hrel;have hds:dk.size=d.size:=HM2.out.size
     by_cases hk:i<k
     · obtain ⟨k,rfl⟩:∃ q,k=q+1:=⟨k - 1,by omega⟩
       have hkz:(i:Int)<(k:Int)+1:=by omega
       have bk:(k:Int)<(d.size:Int):=by omega
       have bk1:(k:Int)+1<(d.size:Int):=by omega
       have ek1:((k:Int)+1).toNat=k+1:=by omega
       have p0:(0:Int)≤(k:Int)+1:=by omega
       have wk1:IntKind.i64.wrap (k:Int)=(k:Int):=by rw [IntKind.wrap_i64];omega
       have S2:=SWK.swap3 S1.out R (k+1) k (by omega) (by omega);have S2:Aside _:=S2;have HM3:Aside (zcj d (swp dk (k+1) k) m k):=HM2.out.next hki (by omega);obtain ⟨⟨c0,c1,c2⟩,f0,f1,f2⟩:=SWK.three S1.out R (by omega) k (by omega);obtain ⟨⟨e0,e1,e2⟩,g0,g1,g2⟩:=SWK.three S1.out R (by omega) (k+1) (by omega);clear S1
       go_wp2_with fail
       go_big_region_o
       clear c0 c1 c2 e0 e1 e2 f0 f1 f2 g0 g1 g2
       generalize ((((((wr.setCell ⟨blk,off+(k+1) * 3,none⟩ (.string dk[k]!.key)).setCell ⟨blk,off+(k+1) * 3+1,none⟩ (.string dk[k]!.val)).setCell ⟨blk,off+(k+1) * 3+2,none⟩ (.bool dk[k]!.gone)).setCell
        ⟨blk,off+k * 3,none⟩ (.string dk[k+1]!.key)).setCell ⟨blk,off+k * 3+1,none⟩ (.string dk[k+1]!.val)).setCell ⟨blk,off+k * 3+2,none⟩ (.bool dk[k+1]!.gone)).drew=w2 at S2 ⊢
       go_wp2
       go_roundg (k - i)
       case measure=>omega
       case rel=>exact ⟨k,_,by go_num,by omega,by omega,Nat.le_refl _,HM3,S2⟩
     · have ek:k=i:=by omega
       have HK:Aside (zcj d dk m i):=by rw [← ek];exact HM2
       clear ek HM2;go_wp2
       try simp only [Exit.inBlock,Exit.then]
       refine bodyPost_ret (results_none rfl _ _ _) rfl ?_;exact ⟨rfl,dk,HK.out.merged HM.out hi (by omega) HF.out.1 HF.out.2,S1.out⟩
end Go.Proofs.YtihnghnafpgdfadGreatDoor
