/- What the proofs stand on, part 17: StableSort. -/
import Derived.Deep.DeepCutAuto
import Derived.Test.YtihnghnafpgdfadGreatDoorSk16
set_option linter.unusedVariables false
set_option linter.unusedSimpArgs false
set_option maxRecDepth 100000
set_option maxHeartbeats 8000000
namespace Go.Proofs.YtihnghnafpgdfadGreatDoor
open Go.RowKit Go.Lib Go.Sort
variable {a b m:Nat}
theorem zam.none_left {lt:Ch→Ch→Bool}{d:Array Ch}(b:Nat)(h:a=m):zam lt d d a m b:=by subst h;exact zam.skip_left _
theorem zam.none_right {lt:Ch→Ch→Bool}{d:Array Ch}(a:Nat)(h:m=b):zam lt d d a m b:=by subst h;exact zam.skip_right _
theorem zar.none_left {d:Array Ch}(h:a=m):zar d d a m b:=by subst h;exact zar.skip_left
theorem zar.none_right {d:Array Ch}(h:m=b):zar d d a m b:=by subst h;exact zar.skip_right
structure Fam (cf:Ch→Ch→Int)(g:Nat)(cb:Array Value)(blk off:Nat)(d0:Array Ch)(w0:World):Prop where
 swo:SWO (ltOf cf)
 enters:∀ args w,(callFunc g args).run Tryz.prog w=.ok (.enter g args) w
 cmp:CmpLays Tryz.prog g cb encC 3 cf blk off d0.size w0
 row:RowK encC 3 w0 blk off d0
 few:d0.size<4611686018427387904
def zo0 (cf:Ch→Ch→Int) (g:Nat) (cb:Array Value) (blk off cap:Nat) (d0:Array Ch) (w0:World) (a m b:Nat):Prop :=
 ∀ (d:Array Ch) (w:World),d.size=d0.size→SWK encC 3 w0 blk off d w→zaJ (ltOf cf) d a m→zaJ (ltOf cf) d m b →
   Calls Tryz.prog 190 #[.slice (some ⟨blk,off,none⟩) d0.size cap,.int .i64 a,.int .i64 m,.int .i64 b,.func (.func g) #[] cb] w fun e w'=>e=.returned (.tuple #[])∧∃ d',zam (ltOf cf) d d' a m b∧SWK encC 3 w0 blk off d' w'
theorem zlH (cf:Ch→Ch→Int) (g:Nat) (cb:Array Value) (blk off cap a m b:Nat) (d0:Array Ch) (w0:World) (F:Fam cf g cb blk off d0 w0) (ham:a+1<m) (hmb:m+1<b) (hb:b≤d0.size)
 (ih:∀ a' m' b',b' - a'<b - a→a'<m'→m'<b'→b'≤d0.size→zo0 cf g cb blk off cap d0 w0 a' m' b'):zo0 cf g cb blk off cap d0 w0 a m b:=by
 intro d w hs S hL hR;have mixed:Tryz.prog.follows Departure.mixedOrders=true:=by kernel_rfl
 have hsz:=F.few;have eg:=F.enters;have FF:Hid (Fam cf g cb blk off d0 w0):=F;have IH:Hid _:=ih;have HL:Aside (zaJ (ltOf cf) d a m):=hL;have HR:Aside (zaJ (ltOf cf) d m b):=hR;have S0:Aside (SWK encC 3 w0 blk off d w):=S;clear S hL hR ih F;have h0:((m:Int) - (a:Int) == 1)=false:=by rw [beq_eq_false_iff_ne];omega
 have h1:((b:Int) - (m:Int) == 1)=false:=by rw [beq_eq_false_iff_ne];omega
 obtain ⟨mid,hmid⟩:∃ x,x=(a+b) / 2:=⟨_,rfl⟩
 have hmidz:((a:Int)+(b:Int)) / 2=(mid:Int):=by omega
 obtain ⟨n,hn⟩:∃ x,x=mid+m:=⟨_,rfl⟩
 have hnz:(mid:Int)+(m:Int)=(n:Int):=by omega
 obtain ⟨p,hp⟩:∃ x,x=n - 1:=⟨_,rfl⟩
 have hpz:(n:Int) - 1=(p:Int):=by omega
 have hmid1:a<mid:=by omega
 have hmid2:mid<b:=by omega
 have HMID:Hid (mid=(a+b) / 2):=hmid;have HN:Hid (n=mid+m):=hn;have HP:Hid (p=n - 1):=hp
 obtain ⟨s0,r0,h00⟩:∃ s0 r0,(m > mid∧s0=n - b∧r0=mid)∨(m≤mid∧s0=a∧r0=m):=by
  by_cases h:m > mid
  · exact ⟨_,_,.inl ⟨h,rfl,rfl⟩⟩
  · exact ⟨_,_,.inr ⟨by omega,rfl,rfl⟩⟩
 have H00:Hid ((m > mid∧s0=n - b∧r0=mid)∨(m≤mid∧s0=a∧r0=m)):=h00;have hs0:a≤s0:=by omega
 have hr0:r0≤m:=by omega
 have hsr:s0≤r0:=by omega
 have hr0':r0≤mid:=by omega
 have hpr:r0≤p:=by omega
 have hps:p<b+s0:=by omega
 have hns:n≤b+s0:=by omega
 have hmn:m+r0≤n:=by omega
 rcases h00 with ⟨q1,q2,q3⟩ | ⟨q1,q2,q3⟩
 · have hc : (mid:Int)<(m:Int):=by omega
   have hs0z:(n:Int) - (b:Int)=(s0:Int):=by omega
   have HH:Hid _:=And.intro q2 q3;clear q1 q2 q3 hmid hn hp
   go_enter Tryz.func190,Tryz.ntmps190
   go_wp2_with fail
   go_loopg [20,21] (b - a) (fun kx ss sr wr=>∃ (s r:Nat),ss=.int .i64 s∧sr=.int .i64 r∧s0≤s∧s≤r∧r≤r0∧r - s≤kx∧Aside (s=s0∨ltOf cf d[n - 1 - (s - 1)]! d[s - 1]! = false)∧Aside (r=r0∨ltOf cf d[n - 1 - r]! d[r]! = true)∧Aside (SWK encC 3 w0 blk off d wr))
   case atStart=>exact ⟨s0,r0,rfl,by rw [HH.out.2],Nat.le_refl _,hsr,Nat.le_refl _,by omega,.inl rfl,.inl rfl,S0⟩
   case round =>
    clear S0;obtain ⟨s,r,rfl,rfl,hs1,hsr1,hr1,hkx,H1,H2,S1⟩:=hrel
    by_cases hlt:s<r
    · have hltz:(s:Int)<(r:Int):=by omega
      obtain ⟨c,hc1⟩:∃ x,x=(s+r) / 2:=⟨_,rfl⟩
      have hcz:((s:Int)+(r:Int)) / 2=(c:Int):=by omega
      have hc2:s≤c:=by omega
      have hc3:c<r:=by omega
      clear hc1;obtain ⟨q,hq⟩:∃ x,x=p - c:=⟨_,rfl⟩
      have hqz:(p:Int) - (c:Int)=(q:Int):=by omega
      have hq2:q<b:=by omega
      have rq:IntKind.i64.wrap (q:Int)=(q:Int):=by rw [IntKind.wrap_i64];omega
      have HQ:Hid (q=n - 1 - c):=by show _=_;rw [hq,HP.out]
      clear hq;have k0:=fun n os=>(SWK.grown3 S1.out FF.out.row (by omega) q (by omega) n os).1
      have k1:=fun n os=>(SWK.grown3 S1.out FF.out.row (by omega) q (by omega) n os).2.1
      have k2:=fun n os=>(SWK.grown3 S1.out FF.out.row (by omega) q (by omega) n os).2.2
      have a0:=fun n os=>(SWK.grown3 S1.out FF.out.row (by omega) c (by omega) n os).1
      have a1:=fun n os=>(SWK.grown3 S1.out FF.out.row (by omega) c (by omega) n os).2.1
      have a2:=fun n os=>(SWK.grown3 S1.out FF.out.row (by omega) c (by omega) n os).2.2
      have hcc:=SWK.cmp3 S1.out FF.out.cmp (by omega) d[q]! d[c]!;have bh:(q:Int)<(d0.size:Int):=by omega
      have ba:(c:Int)<(d0.size:Int):=by omega
      by_cases hv:cf d[q]! d[c]!<0
      · have H3:Aside (c=r0∨ltOf cf d[n - 1 - c]! d[c]! = true):=.inr (by rw [← HQ.out];exact decide_eq_true hv)
        have hd:decide (cf d[q]! d[c]!<0)=true:=decide_eq_true hv
        go_wp2_with fail
        go_quiet_grown (first | (go_at_fn g;refine Calls.grown_of (hcc _ _)))
        have S2:Aside (SWK encC 3 w0 blk off d (grow (wr.drewN nq) osq)):=S1.out.grown nq osq;clear k0 k1 k2 a0 a1 a2 hcc S1;generalize grow (wr.drewN nq) osq=w2 at S2 ⊢;clear nq osq;go_wp2
        go_roundg (c - s)
        case measure=>omega
        case rel=>exact ⟨s,c,rfl,by go_num,hs1,by omega,by omega,Nat.le_refl _,H1,H3,S2⟩
      · have H3:Aside (c+1=s0∨ltOf cf d[n - 1 - (c+1 - 1)]! d[c+1 - 1]! = false):=.inr (by rw [Nat.add_sub_cancel,← HQ.out];exact decide_eq_false hv)
        have hd:decide (cf d[q]! d[c]!<0)=false:=decide_eq_false hv
        go_wp2_with fail
        go_quiet_grown (first | (go_at_fn g;refine Calls.grown_of (hcc _ _)))
        have S2:Aside (SWK encC 3 w0 blk off d (grow (wr.drewN nq) osq)):=S1.out.grown nq osq;clear k0 k1 k2 a0 a1 a2 hcc S1;generalize grow (wr.drewN nq) osq=w2 at S2 ⊢;clear nq osq;go_wp2
        go_roundg (r - (c+1))
        case measure=>omega
        case rel=>exact ⟨c+1,r,by go_num,rfl,by omega,by omega,hr1,Nat.le_refl _,H3,H2,S2⟩
    · have esr:r=s:=by omega
      subst esr;obtain ⟨e,he⟩:∃ x,x=n - r:=⟨_,rfl⟩
      have hez:(n:Int) - (r:Int)=(e:Int):=by omega
      have hme:m≤e:=by omega
      have heb:e≤b:=by omega
      have hmide:mid=r+(e - m):=by have:=HN.out;omega
      have HMD:Hid (mid=r+(e - m)):=hmide;have HE:Hid (e=n - r):=he;clear hmide he
      have FIN:Hid (∀ d1 d2 d3,zar d d1 r m e→zam (ltOf cf) d1 d2 a r mid→zam (ltOf cf) d2 d3 mid e b→zam (ltOf cf) d d3 a m b):=fun d1 d2 d3 x1 x2 x3 =>
       zam.found (ltOf cf) FF.out.swo HL.out HR.out (by omega) (by omega) HMID.out HN.out H00.out hs1 hr1 HE.out H1.out H2.out x1 x2 x3
      have KL:Hid (∀ d1,zar d d1 r m e→zaJ (ltOf cf) d1 a r):=fun d1 x1 i j y1 y2 y3=>by
       rw [x1.out i (by omega),x1.out j (by omega)];exact HL.out i j y1 y2 (by omega)
      have KM:Hid (∀ d1,zar d d1 r m e→zaJ (ltOf cf) d1 r mid):=fun d1 x1=>by
       have y:=(HR.out.sub (ltOf cf) (a':=m) (b':=e) (Nat.le_refl _) heb).shift (ltOf cf) (d':=d1) (x:=r) (fun t z1 z2=>by rw [x1.fst (t - m) (by omega),show m+(t - m)=t by omega]);rw [← HMD.out] at y;exact y
      have KH':Hid (∀ d1,zar d d1 r m e→zaJ (ltOf cf) d1 mid e):=fun d1 x1=>by
       have y:=(HL.out.sub (ltOf cf) (a':=r) (b':=m) (by omega) (Nat.le_refl _)).shift (ltOf cf) (d':=d1) (x:=mid) (fun t z1 z2=>by
        have:=x1.snd (t - r) (by omega);rw [← HMD.out,show r+(t - r)=t by omega] at this
        exact this)
       rw [show mid+(m - r)=e by have:=HMD.out;omega] at y;exact y
      have KH:Hid (∀ d1 d2,zar d d1 r m e→zam (ltOf cf) d1 d2 a r mid→zaJ (ltOf cf) d2 mid e):=fun d1 d2 x1 x2 i j y1 y2 y3=>by
       rw [x2.out i (by omega),x2.out j (by omega)];exact KH'.out d1 x1 i j y1 y2 y3
      have KT:Hid (∀ d1 d2,zar d d1 r m e→zam (ltOf cf) d1 d2 a r mid→zaJ (ltOf cf) d2 e b):=fun d1 d2 x1 x2 i j y1 y2 y3=>by
       rw [x2.out i (by omega),x2.out j (by omega),x1.out i (by omega),x1.out j (by omega)];exact HR.out i j (by omega) y2 y3
      clear H1 H2 KH';have vA:r<m:=by have:=HMD.out;have:=HH.out.2;omega
      by_cases vB:m<e
      · by_cases vC:a<r
        · by_cases vD:e<b
          · have zA:(r:Int)<(m:Int):=by omega
            have zB1:(m:Int)<(e:Int):=by omega
            have zB2:(r:Int)<(mid:Int):=by omega
            have zC:(a:Int)<(r:Int):=by omega
            have zD1:(mid:Int)<(e:Int):=by omega
            have zD2:(e:Int)<(b:Int):=by omega
            go_wp2_with fail
            have hcon:=zcJ (.func (.func g) #[] cb) blk off cap r m e d0 d w0 wr FF.out.row hs.symm S1.out (by omega) (by omega) (by omega) (by omega);rw [hs] at hcon;refine Calls.mono hcon ?_;clear hcon;rintro _ wa ⟨rfl,da,hrot,Sa⟩;have HA:Aside (zar d da r m e):=hrot;have SA:Aside (SWK encC 3 w0 blk off da wa):=Sa;clear hrot Sa S1
            go_wp2_with fail
            refine Calls.mono (IH.out a r mid (by omega) (by omega) (by omega) (by omega) da _ (by have:=HA.out.size;omega) SA.out (KL.out da HA.out) (KM.out da HA.out)) ?_;rintro _ wb ⟨rfl,db,hmg,Sb⟩;have HB:Aside (zam (ltOf cf) da db a r mid):=hmg;have SB:Aside (SWK encC 3 w0 blk off db wb):=Sb;clear hmg Sb SA
            go_wp2_with fail
            refine Calls.mono (IH.out mid e b (by omega) (by omega) (by omega) (by omega) db _ (by have:=HA.out.size;have:=HB.out.size;omega) SB.out (KH.out da db HA.out HB.out) (KT.out da db HA.out HB.out)) ?_;rintro _ wd ⟨rfl,dd,hmg,Sd⟩;have HD:Aside (zam (ltOf cf) db dd mid e b):=hmg;have SD:Aside (SWK encC 3 w0 blk off dd wd):=Sd;clear hmg Sd SB;go_wp2
            go_end0
            exact ⟨rfl,dd,FIN.out da db dd HA.out HB.out HD.out,SD.out⟩
          · have zA:(r:Int)<(m:Int):=by omega
            have zB1:(m:Int)<(e:Int):=by omega
            have zB2:(r:Int)<(mid:Int):=by omega
            have zC:(a:Int)<(r:Int):=by omega
            have zD1:(mid:Int)<(e:Int):=by omega
            have zD2:¬ (e:Int)<(b:Int):=by omega
            go_wp2_with fail
            have hcon:=zcJ (.func (.func g) #[] cb) blk off cap r m e d0 d w0 wr FF.out.row hs.symm S1.out (by omega) (by omega) (by omega) (by omega);rw [hs] at hcon;refine Calls.mono hcon ?_;clear hcon;rintro _ wa ⟨rfl,da,hrot,Sa⟩;have HA:Aside (zar d da r m e):=hrot;have SA:Aside (SWK encC 3 w0 blk off da wa):=Sa;clear hrot Sa S1
            go_wp2_with fail
            refine Calls.mono (IH.out a r mid (by omega) (by omega) (by omega) (by omega) da _ (by have:=HA.out.size;omega) SA.out (KL.out da HA.out) (KM.out da HA.out)) ?_;rintro _ wb ⟨rfl,db,hmg,Sb⟩;have HB:Aside (zam (ltOf cf) da db a r mid):=hmg;have SB:Aside (SWK encC 3 w0 blk off db wb):=Sb;clear hmg Sb SA;have HD:Aside (zam (ltOf cf) db db mid e b):=zam.none_right _ (by omega);go_wp2
            go_end0
            exact ⟨rfl,db,FIN.out da db db HA.out HB.out HD.out,SB.out⟩
        · by_cases vD:e<b
          · have zA:(r:Int)<(m:Int):=by omega
            have zB1:(m:Int)<(e:Int):=by omega
            have zB2:(r:Int)<(mid:Int):=by omega
            have zC:¬ (a:Int)<(r:Int):=by omega
            have zD1:(mid:Int)<(e:Int):=by omega
            have zD2:(e:Int)<(b:Int):=by omega
            go_wp2_with fail
            have hcon:=zcJ (.func (.func g) #[] cb) blk off cap r m e d0 d w0 wr FF.out.row hs.symm S1.out (by omega) (by omega) (by omega) (by omega);rw [hs] at hcon;refine Calls.mono hcon ?_;clear hcon;rintro _ wa ⟨rfl,da,hrot,Sa⟩;have HA:Aside (zar d da r m e):=hrot;have SA:Aside (SWK encC 3 w0 blk off da wa):=Sa;clear hrot Sa S1;have HB:Aside (zam (ltOf cf) da da a r mid):=zam.none_left _ (by omega)
            go_wp2_with fail
            refine Calls.mono (IH.out mid e b (by omega) (by omega) (by omega) (by omega) da _ (by have:=HA.out.size;have:=HB.out.size;omega) SA.out (KH.out da da HA.out HB.out) (KT.out da da HA.out HB.out)) ?_;rintro _ wd ⟨rfl,dd,hmg,Sd⟩;have HD:Aside (zam (ltOf cf) da dd mid e b):=hmg;have SD:Aside (SWK encC 3 w0 blk off dd wd):=Sd;clear hmg Sd SA;go_wp2
            go_end0
            exact ⟨rfl,dd,FIN.out da da dd HA.out HB.out HD.out,SD.out⟩
          · have zA:(r:Int)<(m:Int):=by omega
            have zB1:(m:Int)<(e:Int):=by omega
            have zB2:(r:Int)<(mid:Int):=by omega
            have zC:¬ (a:Int)<(r:Int):=by omega
            have zD1:(mid:Int)<(e:Int):=by omega
            have zD2:¬ (e:Int)<(b:Int):=by omega
            go_wp2_with fail
            have hcon:=zcJ (.func (.func g) #[] cb) blk off cap r m e d0 d w0 wr FF.out.row hs.symm S1.out (by omega) (by omega) (by omega) (by omega);rw [hs] at hcon;refine Calls.mono hcon ?_;clear hcon;rintro _ wa ⟨rfl,da,hrot,Sa⟩;have HA:Aside (zar d da r m e):=hrot;have SA:Aside (SWK encC 3 w0 blk off da wa):=Sa;clear hrot Sa S1;have HB:Aside (zam (ltOf cf) da da a r mid):=zam.none_left _ (by omega);have HD:Aside (zam (ltOf cf) da da mid e b):=zam.none_right _ (by omega);go_wp2
            go_end0
            exact ⟨rfl,da,FIN.out da da da HA.out HB.out HD.out,SA.out⟩
      · by_cases vC:a<r
        · by_cases vD:e<b
          · have zA:(r:Int)<(m:Int):=by omega
            have zB1:¬ (m:Int)<(e:Int):=by omega
            have zB2:¬ (r:Int)<(mid:Int):=by omega
            have zC:(a:Int)<(r:Int):=by omega
            have zD1:(mid:Int)<(e:Int):=by omega
            have zD2:(e:Int)<(b:Int):=by omega
            have HA:Aside (zar d d r m e):=zar.none_right (by omega);have HB:Aside (zam (ltOf cf) d d a r mid):=zam.none_right _ (by omega)
            go_wp2_with fail
            refine Calls.mono (IH.out mid e b (by omega) (by omega) (by omega) (by omega) d _ (by have:=HA.out.size;have:=HB.out.size;omega) S1.out (KH.out d d HA.out HB.out) (KT.out d d HA.out HB.out)) ?_;rintro _ wd ⟨rfl,dd,hmg,Sd⟩;have HD:Aside (zam (ltOf cf) d dd mid e b):=hmg;have SD:Aside (SWK encC 3 w0 blk off dd wd):=Sd;clear hmg Sd S1;go_wp2
            go_end0
            exact ⟨rfl,dd,FIN.out d d dd HA.out HB.out HD.out,SD.out⟩
          · have zA:(r:Int)<(m:Int):=by omega
            have zB1:¬ (m:Int)<(e:Int):=by omega
            have zB2:¬ (r:Int)<(mid:Int):=by omega
            have zC:(a:Int)<(r:Int):=by omega
            have zD1:(mid:Int)<(e:Int):=by omega
            have zD2:¬ (e:Int)<(b:Int):=by omega
            have HA:Aside (zar d d r m e):=zar.none_right (by omega);have HB:Aside (zam (ltOf cf) d d a r mid):=zam.none_right _ (by omega);have HD:Aside (zam (ltOf cf) d d mid e b):=zam.none_right _ (by omega);go_wp2
            go_end0
            exact ⟨rfl,d,FIN.out d d d HA.out HB.out HD.out,S1.out⟩
        · by_cases vD:e<b
          · have zA:(r:Int)<(m:Int):=by omega
            have zB1:¬ (m:Int)<(e:Int):=by omega
            have zB2:¬ (r:Int)<(mid:Int):=by omega
            have zC:¬ (a:Int)<(r:Int):=by omega
            have zD1:(mid:Int)<(e:Int):=by omega
            have zD2:(e:Int)<(b:Int):=by omega
            have HA:Aside (zar d d r m e):=zar.none_right (by omega);have HB:Aside (zam (ltOf cf) d d a r mid):=zam.none_right _ (by omega)
            go_wp2_with fail
            refine Calls.mono (IH.out mid e b (by omega) (by omega) (by omega) (by omega) d _ (by have:=HA.out.size;have:=HB.out.size;omega) S1.out (KH.out d d HA.out HB.out) (KT.out d d HA.out HB.out)) ?_;rintro _ wd ⟨rfl,dd,hmg,Sd⟩;have HD:Aside (zam (ltOf cf) d dd mid e b):=hmg;have SD:Aside (SWK encC 3 w0 blk off dd wd):=Sd;clear hmg Sd S1;go_wp2
            go_end0
            exact ⟨rfl,dd,FIN.out d d dd HA.out HB.out HD.out,SD.out⟩
          · have zA:(r:Int)<(m:Int):=by omega
            have zB1:¬ (m:Int)<(e:Int):=by omega
            have zB2:¬ (r:Int)<(mid:Int):=by omega
            have zC:¬ (a:Int)<(r:Int):=by omega
            have zD1:(mid:Int)<(e:Int):=by omega
            have zD2:¬ (e:Int)<(b:Int):=by omega
            have HA:Aside (zar d d r m e):=zar.none_right (by omega);have HB:Aside (zam (ltOf cf) d d a r mid):=zam.none_right _ (by omega);have HD:Aside (zam (ltOf cf) d d mid e b):=zam.none_right _ (by omega);go_wp2
            go_end0
            exact ⟨rfl,d,FIN.out d d d HA.out HB.out HD.out,S1.out⟩
 · have hc : ¬ (mid:Int)<(m:Int):=by omega
   have HH:Hid _:=And.intro q2 q3;clear q1 q2 q3 hmid hn hp
   go_enter Tryz.func190,Tryz.ntmps190
   go_wp2_with fail
   go_loopg [20,21] (b - a) (fun kx ss sr wr=>∃ (s r:Nat),ss=.int .i64 s∧sr=.int .i64 r∧s0≤s∧s≤r∧r≤r0∧r - s≤kx∧Aside (s=s0∨ltOf cf d[n - 1 - (s - 1)]! d[s - 1]! = false)∧Aside (r=r0∨ltOf cf d[n - 1 - r]! d[r]! = true)∧Aside (SWK encC 3 w0 blk off d wr))
   case atStart=>exact ⟨s0,r0,by rw [HH.out.1],by rw [HH.out.2],Nat.le_refl _,hsr,Nat.le_refl _,by omega,.inl rfl,.inl rfl,S0⟩
   case round =>
    clear S0;obtain ⟨s,r,rfl,rfl,hs1,hsr1,hr1,hkx,H1,H2,S1⟩:=hrel
    by_cases hlt:s<r
    · have hltz:(s:Int)<(r:Int):=by omega
      obtain ⟨c,hc1⟩:∃ x,x=(s+r) / 2:=⟨_,rfl⟩
      have hcz:((s:Int)+(r:Int)) / 2=(c:Int):=by omega
      have hc2:s≤c:=by omega
      have hc3:c<r:=by omega
      clear hc1;obtain ⟨q,hq⟩:∃ x,x=p - c:=⟨_,rfl⟩
      have hqz:(p:Int) - (c:Int)=(q:Int):=by omega
      have hq2:q<b:=by omega
      have rq:IntKind.i64.wrap (q:Int)=(q:Int):=by rw [IntKind.wrap_i64];omega
      have HQ:Hid (q=n - 1 - c):=by show _=_;rw [hq,HP.out]
      clear hq;have k0:=fun n os=>(SWK.grown3 S1.out FF.out.row (by omega) q (by omega) n os).1
      have k1:=fun n os=>(SWK.grown3 S1.out FF.out.row (by omega) q (by omega) n os).2.1
      have k2:=fun n os=>(SWK.grown3 S1.out FF.out.row (by omega) q (by omega) n os).2.2
      have a0:=fun n os=>(SWK.grown3 S1.out FF.out.row (by omega) c (by omega) n os).1
      have a1:=fun n os=>(SWK.grown3 S1.out FF.out.row (by omega) c (by omega) n os).2.1
      have a2:=fun n os=>(SWK.grown3 S1.out FF.out.row (by omega) c (by omega) n os).2.2
      have hcc:=SWK.cmp3 S1.out FF.out.cmp (by omega) d[q]! d[c]!;have bh:(q:Int)<(d0.size:Int):=by omega
      have ba:(c:Int)<(d0.size:Int):=by omega
      by_cases hv:cf d[q]! d[c]!<0
      · have H3:Aside (c=r0∨ltOf cf d[n - 1 - c]! d[c]! = true):=.inr (by rw [← HQ.out];exact decide_eq_true hv)
        have hd:decide (cf d[q]! d[c]!<0)=true:=decide_eq_true hv
        go_wp2_with fail
        go_quiet_grown (first | (go_at_fn g;refine Calls.grown_of (hcc _ _)))
        have S2:Aside (SWK encC 3 w0 blk off d (grow (wr.drewN nq) osq)):=S1.out.grown nq osq;clear k0 k1 k2 a0 a1 a2 hcc S1;generalize grow (wr.drewN nq) osq=w2 at S2 ⊢;clear nq osq;go_wp2
        go_roundg (c - s)
        case measure=>omega
        case rel=>exact ⟨s,c,rfl,by go_num,hs1,by omega,by omega,Nat.le_refl _,H1,H3,S2⟩
      · have H3:Aside (c+1=s0∨ltOf cf d[n - 1 - (c+1 - 1)]! d[c+1 - 1]! = false):=.inr (by rw [Nat.add_sub_cancel,← HQ.out];exact decide_eq_false hv)
        have hd:decide (cf d[q]! d[c]!<0)=false:=decide_eq_false hv
        go_wp2_with fail
        go_quiet_grown (first | (go_at_fn g;refine Calls.grown_of (hcc _ _)))
        have S2:Aside (SWK encC 3 w0 blk off d (grow (wr.drewN nq) osq)):=S1.out.grown nq osq;clear k0 k1 k2 a0 a1 a2 hcc S1;generalize grow (wr.drewN nq) osq=w2 at S2 ⊢;clear nq osq;go_wp2
        go_roundg (r - (c+1))
        case measure=>omega
        case rel=>exact ⟨c+1,r,by go_num,rfl,by omega,by omega,hr1,Nat.le_refl _,H3,H2,S2⟩
    · have esr:r=s:=by omega
      subst esr;obtain ⟨e,he⟩:∃ x,x=n - r:=⟨_,rfl⟩
      have hez:(n:Int) - (r:Int)=(e:Int):=by omega
      have hme:m≤e:=by omega
      have heb:e≤b:=by omega
      have hmide:mid=r+(e - m):=by have:=HN.out;omega
      have HMD:Hid (mid=r+(e - m)):=hmide;have HE:Hid (e=n - r):=he;clear hmide he
      have FIN:Hid (∀ d1 d2 d3,zar d d1 r m e→zam (ltOf cf) d1 d2 a r mid→zam (ltOf cf) d2 d3 mid e b→zam (ltOf cf) d d3 a m b):=fun d1 d2 d3 x1 x2 x3 =>
       zam.found (ltOf cf) FF.out.swo HL.out HR.out (by omega) (by omega) HMID.out HN.out H00.out hs1 hr1 HE.out H1.out H2.out x1 x2 x3
      have KL:Hid (∀ d1,zar d d1 r m e→zaJ (ltOf cf) d1 a r):=fun d1 x1 i j y1 y2 y3=>by
       rw [x1.out i (by omega),x1.out j (by omega)];exact HL.out i j y1 y2 (by omega)
      have KM:Hid (∀ d1,zar d d1 r m e→zaJ (ltOf cf) d1 r mid):=fun d1 x1=>by
       have y:=(HR.out.sub (ltOf cf) (a':=m) (b':=e) (Nat.le_refl _) heb).shift (ltOf cf) (d':=d1) (x:=r) (fun t z1 z2=>by rw [x1.fst (t - m) (by omega),show m+(t - m)=t by omega]);rw [← HMD.out] at y;exact y
      have KH':Hid (∀ d1,zar d d1 r m e→zaJ (ltOf cf) d1 mid e):=fun d1 x1=>by
       have y:=(HL.out.sub (ltOf cf) (a':=r) (b':=m) (by omega) (Nat.le_refl _)).shift (ltOf cf) (d':=d1) (x:=mid) (fun t z1 z2=>by
        have:=x1.snd (t - r) (by omega);rw [← HMD.out,show r+(t - r)=t by omega] at this
        exact this)
       rw [show mid+(m - r)=e by have:=HMD.out;omega] at y;exact y
      have KH:Hid (∀ d1 d2,zar d d1 r m e→zam (ltOf cf) d1 d2 a r mid→zaJ (ltOf cf) d2 mid e):=fun d1 d2 x1 x2 i j y1 y2 y3=>by
       rw [x2.out i (by omega),x2.out j (by omega)];exact KH'.out d1 x1 i j y1 y2 y3
      have KT:Hid (∀ d1 d2,zar d d1 r m e→zam (ltOf cf) d1 d2 a r mid→zaJ (ltOf cf) d2 e b):=fun d1 d2 x1 x2 i j y1 y2 y3=>by
       rw [x2.out i (by omega),x2.out j (by omega),x1.out i (by omega),x1.out j (by omega)];exact HR.out i j (by omega) y2 y3
      clear H1 H2 KH'
      by_cases vA:r<m
      · have vB:m<e:=by have:=HMD.out;have:=HH.out.2;omega
        by_cases vC:a<r
        · by_cases vD:e<b
          · have zA:(r:Int)<(m:Int):=by omega
            have zB1:(m:Int)<(e:Int):=by omega
            have zB2:(r:Int)<(mid:Int):=by omega
            have zC:(a:Int)<(r:Int):=by omega
            have zD1:(mid:Int)<(e:Int):=by omega
            have zD2:(e:Int)<(b:Int):=by omega
            go_wp2_with fail
            have hcon:=zcJ (.func (.func g) #[] cb) blk off cap r m e d0 d w0 wr FF.out.row hs.symm S1.out (by omega) (by omega) (by omega) (by omega);rw [hs] at hcon;refine Calls.mono hcon ?_;clear hcon;rintro _ wa ⟨rfl,da,hrot,Sa⟩;have HA:Aside (zar d da r m e):=hrot;have SA:Aside (SWK encC 3 w0 blk off da wa):=Sa;clear hrot Sa S1
            go_wp2_with fail
            refine Calls.mono (IH.out a r mid (by omega) (by omega) (by omega) (by omega) da _ (by have:=HA.out.size;omega) SA.out (KL.out da HA.out) (KM.out da HA.out)) ?_;rintro _ wb ⟨rfl,db,hmg,Sb⟩;have HB:Aside (zam (ltOf cf) da db a r mid):=hmg;have SB:Aside (SWK encC 3 w0 blk off db wb):=Sb;clear hmg Sb SA
            go_wp2_with fail
            refine Calls.mono (IH.out mid e b (by omega) (by omega) (by omega) (by omega) db _ (by have:=HA.out.size;have:=HB.out.size;omega) SB.out (KH.out da db HA.out HB.out) (KT.out da db HA.out HB.out)) ?_;rintro _ wd ⟨rfl,dd,hmg,Sd⟩;have HD:Aside (zam (ltOf cf) db dd mid e b):=hmg;have SD:Aside (SWK encC 3 w0 blk off dd wd):=Sd;clear hmg Sd SB;go_wp2
            go_end0
            exact ⟨rfl,dd,FIN.out da db dd HA.out HB.out HD.out,SD.out⟩
          · have zA:(r:Int)<(m:Int):=by omega
            have zB1:(m:Int)<(e:Int):=by omega
            have zB2:(r:Int)<(mid:Int):=by omega
            have zC:(a:Int)<(r:Int):=by omega
            have zD1:(mid:Int)<(e:Int):=by omega
            have zD2:¬ (e:Int)<(b:Int):=by omega
            go_wp2_with fail
            have hcon:=zcJ (.func (.func g) #[] cb) blk off cap r m e d0 d w0 wr FF.out.row hs.symm S1.out (by omega) (by omega) (by omega) (by omega);rw [hs] at hcon;refine Calls.mono hcon ?_;clear hcon;rintro _ wa ⟨rfl,da,hrot,Sa⟩;have HA:Aside (zar d da r m e):=hrot;have SA:Aside (SWK encC 3 w0 blk off da wa):=Sa;clear hrot Sa S1
            go_wp2_with fail
            refine Calls.mono (IH.out a r mid (by omega) (by omega) (by omega) (by omega) da _ (by have:=HA.out.size;omega) SA.out (KL.out da HA.out) (KM.out da HA.out)) ?_;rintro _ wb ⟨rfl,db,hmg,Sb⟩;have HB:Aside (zam (ltOf cf) da db a r mid):=hmg;have SB:Aside (SWK encC 3 w0 blk off db wb):=Sb;clear hmg Sb SA;have HD:Aside (zam (ltOf cf) db db mid e b):=zam.none_right _ (by omega);go_wp2
            go_end0
            exact ⟨rfl,db,FIN.out da db db HA.out HB.out HD.out,SB.out⟩
        · by_cases vD:e<b
          · have zA:(r:Int)<(m:Int):=by omega
            have zB1:(m:Int)<(e:Int):=by omega
            have zB2:(r:Int)<(mid:Int):=by omega
            have zC:¬ (a:Int)<(r:Int):=by omega
            have zD1:(mid:Int)<(e:Int):=by omega
            have zD2:(e:Int)<(b:Int):=by omega
            go_wp2_with fail
            have hcon:=zcJ (.func (.func g) #[] cb) blk off cap r m e d0 d w0 wr FF.out.row hs.symm S1.out (by omega) (by omega) (by omega) (by omega);rw [hs] at hcon;refine Calls.mono hcon ?_;clear hcon;rintro _ wa ⟨rfl,da,hrot,Sa⟩;have HA:Aside (zar d da r m e):=hrot;have SA:Aside (SWK encC 3 w0 blk off da wa):=Sa;clear hrot Sa S1;have HB:Aside (zam (ltOf cf) da da a r mid):=zam.none_left _ (by omega)
            go_wp2_with fail
            refine Calls.mono (IH.out mid e b (by omega) (by omega) (by omega) (by omega) da _ (by have:=HA.out.size;have:=HB.out.size;omega) SA.out (KH.out da da HA.out HB.out) (KT.out da da HA.out HB.out)) ?_;rintro _ wd ⟨rfl,dd,hmg,Sd⟩;have HD:Aside (zam (ltOf cf) da dd mid e b):=hmg;have SD:Aside (SWK encC 3 w0 blk off dd wd):=Sd;clear hmg Sd SA;go_wp2
            go_end0
            exact ⟨rfl,dd,FIN.out da da dd HA.out HB.out HD.out,SD.out⟩
          · have zA:(r:Int)<(m:Int):=by omega
            have zB1:(m:Int)<(e:Int):=by omega
            have zB2:(r:Int)<(mid:Int):=by omega
            have zC:¬ (a:Int)<(r:Int):=by omega
            have zD1:(mid:Int)<(e:Int):=by omega
            have zD2:¬ (e:Int)<(b:Int):=by omega
            go_wp2_with fail
            have hcon:=zcJ (.func (.func g) #[] cb) blk off cap r m e d0 d w0 wr FF.out.row hs.symm S1.out (by omega) (by omega) (by omega) (by omega);rw [hs] at hcon;refine Calls.mono hcon ?_;clear hcon;rintro _ wa ⟨rfl,da,hrot,Sa⟩;have HA:Aside (zar d da r m e):=hrot;have SA:Aside (SWK encC 3 w0 blk off da wa):=Sa;clear hrot Sa S1;have HB:Aside (zam (ltOf cf) da da a r mid):=zam.none_left _ (by omega);have HD:Aside (zam (ltOf cf) da da mid e b):=zam.none_right _ (by omega);go_wp2
            go_end0
            exact ⟨rfl,da,FIN.out da da da HA.out HB.out HD.out,SA.out⟩
      · by_cases vB:m<e
        · by_cases vC:a<r
          · have vD:e<b:=by have:=HMD.out;have:=HH.out.2;omega
            have zA:¬ (r:Int)<(m:Int):=by omega
            have zB1:(m:Int)<(e:Int):=by omega
            have zB2:(r:Int)<(mid:Int):=by omega
            have zC:(a:Int)<(r:Int):=by omega
            have zD1:¬ (mid:Int)<(e:Int):=by omega
            have zD2:(e:Int)<(b:Int):=by omega
            have HA:Aside (zar d d r m e):=zar.none_left (by omega)
            go_wp2_with fail
            refine Calls.mono (IH.out a r mid (by omega) (by omega) (by omega) (by omega) d _ (by have:=HA.out.size;omega) S1.out (KL.out d HA.out) (KM.out d HA.out)) ?_;rintro _ wb ⟨rfl,db,hmg,Sb⟩;have HB:Aside (zam (ltOf cf) d db a r mid):=hmg;have SB:Aside (SWK encC 3 w0 blk off db wb):=Sb;clear hmg Sb S1;have HD:Aside (zam (ltOf cf) db db mid e b):=zam.none_left _ (by omega);go_wp2
            go_end0
            exact ⟨rfl,db,FIN.out d db db HA.out HB.out HD.out,SB.out⟩
          · have vD:e<b:=by have:=HMD.out;have:=HH.out.2;omega
            have zA:¬ (r:Int)<(m:Int):=by omega
            have zB1:(m:Int)<(e:Int):=by omega
            have zB2:(r:Int)<(mid:Int):=by omega
            have zC:¬ (a:Int)<(r:Int):=by omega
            have zD1:¬ (mid:Int)<(e:Int):=by omega
            have zD2:(e:Int)<(b:Int):=by omega
            have HA:Aside (zar d d r m e):=zar.none_left (by omega);have HB:Aside (zam (ltOf cf) d d a r mid):=zam.none_left _ (by omega);have HD:Aside (zam (ltOf cf) d d mid e b):=zam.none_left _ (by omega);go_wp2
            go_end0
            exact ⟨rfl,d,FIN.out d d d HA.out HB.out HD.out,S1.out⟩
        · by_cases vC:a<r
          · have vD:e<b:=by have:=HMD.out;have:=HH.out.2;omega
            have zA:¬ (r:Int)<(m:Int):=by omega
            have zB1:¬ (m:Int)<(e:Int):=by omega
            have zB2:¬ (r:Int)<(mid:Int):=by omega
            have zC:(a:Int)<(r:Int):=by omega
            have zD1:¬ (mid:Int)<(e:Int):=by omega
            have zD2:(e:Int)<(b:Int):=by omega
            have HA:Aside (zar d d r m e):=zar.none_left (by omega);have HB:Aside (zam (ltOf cf) d d a r mid):=zam.none_right _ (by omega);have HD:Aside (zam (ltOf cf) d d mid e b):=zam.none_left _ (by omega);go_wp2
            go_end0
            exact ⟨rfl,d,FIN.out d d d HA.out HB.out HD.out,S1.out⟩
          · have vD:e<b:=by have:=HMD.out;have:=HH.out.2;omega
            have zA:¬ (r:Int)<(m:Int):=by omega
            have zB1:¬ (m:Int)<(e:Int):=by omega
            have zB2:¬ (r:Int)<(mid:Int):=by omega
            have zC:¬ (a:Int)<(r:Int):=by omega
            have zD1:¬ (mid:Int)<(e:Int):=by omega
            have zD2:(e:Int)<(b:Int):=by omega
            have HA:Aside (zar d d r m e):=zar.none_left (by omega);have HB:Aside (zam (ltOf cf) d d a r mid):=zam.none_right _ (by omega);have HD:Aside (zam (ltOf cf) d d mid e b):=zam.none_left _ (by omega);go_wp2
            go_end0
            exact ⟨rfl,d,FIN.out d d d HA.out HB.out HD.out,S1.out⟩
theorem zfI (cf:Ch→Ch→Int) (g:Nat) (cb:Array Value) (blk off cap:Nat) (d0:Array Ch) (w0:World) (F:Fam cf g cb blk off d0 w0):∀ (N a m b:Nat),b - a≤N→a<m→m<b→b≤d0.size→zo0 cf g cb blk off cap d0 w0 a m b
 | 0,a,m,b,hN,ham,hmb,hb=>by omega
 | N + 1,a,m,b,hN,ham,hmb,hb=>by
   by_cases h1:m=a+1
   · intro d w hs S hL hR
     have:=zlD cf F.swo g cb blk off cap a m b d0 d w0 w F.enters F.cmp F.row hs.symm S h1 hmb (by rw [hs];exact hb) (by rw [hs];exact F.few) hR;rw [hs] at this
     exact this
   · by_cases h2:b=m+1
     · intro d w hs S hL hR
       have:=zkh cf F.swo g cb blk off cap a m b d0 d w0 w F.enters F.cmp F.row hs.symm S h2 (by omega) (by rw [hs];exact hb) (by rw [hs];exact F.few) hL;rw [hs] at this
       exact this
     · exact zlH cf g cb blk off cap a m b d0 w0 F (by omega) (by omega) hb fun a' m' b' x1 x2 x3 x4=>zfI cf g cb blk off cap d0 w0 F N a' m' b' (by omega) x2 x3 x4
end Go.Proofs.YtihnghnafpgdfadGreatDoor
