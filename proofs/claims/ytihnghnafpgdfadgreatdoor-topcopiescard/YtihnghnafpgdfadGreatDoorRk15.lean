/- What the proofs stand on, part 15: RowSame, EqualC, StableWalk. -/
import Derived.Shelf.SlSortCmp.KitK
import Derived.Deep.LoopGhost
import Derived.Deep.RegionHeld3
import Derived.Test.YtihnghnafpgdfadGreatDoorRk10
import Derived.Test.YtihnghnafpgdfadGreatDoorRk14
set_option linter.unusedVariables false
set_option linter.unusedSimpArgs false
namespace Go.Proofs.YtihnghnafpgdfadGreatDoor
open Go.RowKit
theorem stoodC:Tryz.prog.stoodInHeld 143=false:=by kernel_rfl
theorem run_equal_change (a b c d:ByteArray)(k j:Bool)(w:World):(Op.equalIn 10000 143 (.agg #[.string a,.string b,.bool k]) (.agg #[.string c,.string d,.bool j])).run Tryz.prog w=.ok ((a.toList == c.toList) && ((b.toList == d.toList) && (k == j))) w:=by
  have h:=run_equalIn_agg (P:=Tryz.prog) w 9999 143 #[.string a,.string b,.bool k] #[.string c,.string d,.bool j] (by kernel_rfl) stoodC
  rw [h]
  simp [go_sem,Op.eqFields,Program.fieldsOf,Tryz.underlying143]
  by_cases h1:a.toList=c.toList <;> by_cases h2:b.toList=d.toList <;> cases k <;> cases j <;> simp [h1,h2]
def eqCh (f g:Ch):Bool:=(f.key.toList == g.key.toList) && ((f.val.toList == g.val.toList) && (f.gone == g.gone))
theorem eqCh_iff (f g:Ch):eqCh f g=true↔f=g:=by
  constructor
  · intro h
    simp only [eqCh,Bool.and_eq_true,beq_iff_eq] at h
    cases f;cases g;simp only [Ch.mk.injEq];exact ⟨toList_inj h.1,toList_inj h.2.1,h.2.2⟩
  · rintro rfl
    simp [eqCh]
theorem run_neq_change (f g:Ch)(w:World):(binOp .neq 143 (.agg #[.string f.key,.string f.val,.bool f.gone]) (.agg #[.string g.key,.string g.val,.bool g.gone])).run Tryz.prog w=.ok (.bool (!eqCh f g)) w:=by
  rw [run_neq_struct,run_equal_change];rfl
def sameCL (l m:List Ch):Bool:=decide (l.length=m.length) && (List.range l.length).all (fun i=>match l[i]?,m[i]? with | some f,some g=>eqCh f g | _,_=>false)
theorem sameCL_iff (l m:List Ch):sameCL l m=true↔l=m:=by
  constructor
  · intro h
    simp only [sameCL,Bool.and_eq_true,decide_eq_true_eq,List.all_eq_true,List.mem_range] at h
    apply List.ext_getElem h.1
    intro i h1 h2
    have:=h.2 i h1
    rw [List.getElem?_eq_getElem h1,List.getElem?_eq_getElem h2] at this
    exact (eqCh_iff _ _).1 this
  · rintro rfl
    simp only [sameCL,decide_true,Bool.true_and,List.all_eq_true,List.mem_range]
    intro i h1
    rw [List.getElem?_eq_getElem h1]
    exact (eqCh_iff _ _).2 rfl
theorem sameCL_self (l:List Ch):sameCL l l=true:=(sameCL_iff l l).2 rfl
theorem sameCL_len {l m:List Ch}(h:¬ l.length=m.length):sameCL l m=false:=by
  rw [Bool.eq_false_iff];intro e;exact h (by rw [(sameCL_iff l m).1 e])
theorem sameCL_at {l m:List Ch}{k:Nat}(h1:k<l.length)(h2:k<m.length)(h:eqCh l[k] m[k]=false):sameCL l m=false:=by
  rw [Bool.eq_false_iff];intro e
  have:=(sameCL_iff l m).1 e
  subst this
  rw [(eqCh_iff _ _).2 rfl] at h
  exact absurd h (by simp)
theorem sameCL_all {l m:List Ch}(hl:l.length=m.length)(h:∀ i (h1:i<l.length) (h2:i<m.length),eqCh l[i] m[i]=true):sameCL l m=true:=by
  rw [sameCL_iff]
  apply List.ext_getElem hl
  intro i h1 h2
  exact (eqCh_iff _ _).1 (h i h1 h2)
end Go.Proofs.YtihnghnafpgdfadGreatDoor
namespace Go.Proofs.YtihnghnafpgdfadGreatDoor
open Go.RowKit Go.BigFrame
set_option maxRecDepth 100000 in
set_option maxHeartbeats 1000000 in
theorem equalC_any (a a':Option Addr) (cap cap':Nat) (l m:List Ch) (w:World) (hl:l.length≤1000) (hm:m.length≤1000) (hc:CC w a l) (hc':CC w a' m) :
    Calls Tryz.prog 95 #[.slice a l.length cap,.slice a' m.length cap'] w fun e w'=>e=.returned (.bool (sameCL l m))∧Below w.heap.size w w':=by
  have HC:Hid (CC w a l):=hc
  have HC':Hid (CC w a' m):=hc'
  clear hc hc'
  by_cases hlen:l.length=m.length
  · have hne:((l.length:Int) != (m.length:Int))=false:=by simp [hlen]
    have HL:Hid (l.length=m.length):=hlen
    clear hlen
    go_enter Tryz.func95,Tryz.ntmps95
    go_wp2_with fail
    go_loopg [13] (l.length+1) (fun kx vi wr=>∃ k:Nat,vi=.int .i64 k∧k≤l.length∧l.length - k≤kx∧Hid (Below w.heap.size w wr)∧Hid (∀ i (h1:i<l.length) (h2:i<m.length),i<k→eqCh l[i] m[i]=true))
    case atStart=>exact ⟨0,rfl,by omega,by omega,Below.refl _ _,fun i h1 h2 h=>absurd h (Nat.not_lt_zero _)⟩
    case round =>
      obtain ⟨k,rfl,hk,hkx,HB,Hall⟩:=hrel
      by_cases hlt:k<l.length
      · have hltz:(k:Int)<(l.length:Int):=by omega
        have hlt2:k<m.length:=by have:=HL.out;omega
        obtain ⟨b,off,rfl,c0,c1,c2⟩:=(HC.out.below HB.out) k hlt
        obtain ⟨b',off',rfl,d0,d1,d2⟩:=(HC'.out.below HB.out) k hlt2
        have hq:=fun w=>run_neq_change l[k] m[k] w
        cases he:eqCh l[k] m[k]
        · have HF:Hid (sameCL l m=false):=sameCL_at hlt hlt2 he
          go_wp2_with fail
          go_quiet (fail)
          go_wp2
          go_ret
          exact ⟨ret_bool HF.out.symm,below_drewN HB.out nq⟩
        · have HN:Hid (∀ i (h1:i<l.length) (h2:i<m.length),i<k+1→eqCh l[i] m[i]=true):=fun i h1 h2 h=>by
            rcases Nat.lt_or_ge i k with h3 | h3
            · exact Hall.out i h1 h2 h3
            · have e:i=k:=by omega
              subst e
              exact he
          go_wp2_with fail
          go_quiet (fail)
          go_wp2
          go_roundg (l.length - (k+1))
          case measure=>omega
          case rel=>exact ⟨k+1,by go_num,by omega,Nat.le_refl _,below_drewN HB.out nq,HN⟩
      · have HT:Hid (sameCL l m=true):=sameCL_all HL.out (fun i h1 h2=>Hall.out i h1 h2 (by omega))
        go_wp2
        go_ret
        exact ⟨ret_bool HT.out.symm,HB.out⟩
  · have hne:((l.length:Int) != (m.length:Int))=true:=by rw [bne_iff_ne];omega
    go_enter Tryz.func95,Tryz.ntmps95
    go_wp2
    go_ret
    exact ⟨ret_bool (sameCL_len hlen).symm,Below.refl _ _⟩
end Go.Proofs.YtihnghnafpgdfadGreatDoor
namespace Go.Proofs.YtihnghnafpgdfadGreatDoor
open Go.RowKit Go.Lib Go.Sort
def encC (c:Ch):List Value:=[.string c.key,.string c.val,.bool c.gone]
instance:Inhabited Ch:=⟨⟨⟨#[]⟩,⟨#[]⟩,false⟩⟩
theorem SWK.three {w0 W:World}{blk off:Nat}{dk:Array Ch}(h:SWK encC 3 w0 blk off dk W){d0:Array Ch}(R:RowK encC 3 w0 blk off d0)(hs:dk.size=d0.size)(i:Nat)(hi:i<dk.size) :
    (W.cell? ⟨blk,off+i * 3,none⟩=some (.string dk[i]!.key)∧W.cell? ⟨blk,off+i * 3+1,none⟩=some (.string dk[i]!.val)∧W.cell? ⟨blk,off+i * 3+2,none⟩=some (.bool dk[i]!.gone)) ∧
    (W.frozen? ⟨blk,off+i * 3,none⟩=false∧W.frozen? ⟨blk,off+i * 3+1,none⟩=false∧W.frozen? ⟨blk,off+i * 3+2,none⟩=false):=by
  have hh:=h.holds R.hblk R.hH hs
  have c0:=hh.cell hi (c:=0) (by omega)
  have c1:=hh.cell hi (c:=1) (by omega)
  have c2:=hh.cell hi (c:=2) (by omega)
  exact ⟨⟨c0.1,c1.1,c2.1⟩,c0.2,c1.2,c2.2⟩
theorem drew_setCell (W:World)(a:Addr)(v:Value):W.drew.setCell a v=(W.setCell a v).drew:=rfl
theorem SWK.swap3 {w0 W:World}{blk off:Nat}{dk:Array Ch}(h:SWK encC 3 w0 blk off dk W){d0:Array Ch}(R:RowK encC 3 w0 blk off d0)(i j:Nat)(hi:i<dk.size)(hj:j<dk.size) :
    SWK encC 3 w0 blk off (swp dk i j) ((((((W.setCell ⟨blk,off+i * 3,none⟩ (.string dk[j]!.key)).setCell ⟨blk,off+i * 3+1,none⟩ (.string dk[j]!.val)).setCell ⟨blk,off+i * 3+2,none⟩ (.bool dk[j]!.gone)).setCell
      ⟨blk,off+j * 3,none⟩ (.string dk[i]!.key)).setCell ⟨blk,off+j * 3+1,none⟩ (.string dk[i]!.val)).setCell ⟨blk,off+j * 3+2,none⟩ (.bool dk[i]!.gone)).drew:=by
  have:=h.swapped R i j hi hj
  simp only [encC,World.setCells,drew_setCell] at this
  exact this
set_option maxHeartbeats 4000000 in
set_option maxRecDepth 1000000 in
theorem swapRange_any (fv:Value) (blk off cap a b n:Nat) (d0 d:Array Ch) (w0 w:World) (R:RowK encC 3 w0 blk off d0) (hs:d0.size=d.size) (S:SWK encC 3 w0 blk off d w) (hab:a+n≤b) (hb:b+n≤d.size) (hsz:d.size<4611686018427387904) :
    Calls Tryz.prog 241 #[.slice (some ⟨blk,off,none⟩) d.size cap,.int .i64 a,.int .i64 b,.int .i64 n,fv] w fun e w'=>e=.returned (.tuple #[])∧∃ d',Swapped d d' a b n∧SWK encC 3 w0 blk off d' w':=by
  have mixed:Tryz.prog.follows Departure.mixedOrders=true:=by kernel_rfl
  have S0:Aside (SWK encC 3 w0 blk off d w):=S
  clear S
  go_enter Tryz.func241,Tryz.ntmps241
  go_wp2
  go_loopg [10] n (fun kx s wr=>∃ (i:Nat) (dk:Array Ch),s=.int .i64 i∧i≤n∧n - i≤kx∧Aside (Swapped d dk a b i)∧Aside (SWK encC 3 w0 blk off dk wr))
  case atStart=>exact ⟨0,d,rfl,Nat.zero_le _,Nat.le_refl _,Swapped.zero d a b,S0⟩
  case round =>
    clear S0
    obtain ⟨i,dk,rfl,hi,hkx,hsw,S1⟩:=hrel
    have hds:dk.size=d.size:=hsw.out.size
    by_cases hlt:i<n
    · have hltz:(i:Int)<(n:Int):=by omega
      go_wp2_with fail
      have ea:((a:Int)+(i:Int)).toNat=a+i:=by omega
      have pa:(0:Int)≤(a:Int)+(i:Int):=by omega
      have ba:(a:Int)+(i:Int)<(d.size:Int):=by omega
      have ra:IntKind.i64.wrap ((a:Int)+(i:Int))=(a:Int)+(i:Int):=by rw [IntKind.wrap_i64];omega
      have ec:((b:Int)+(i:Int)).toNat=b+i:=by omega
      have pc:(0:Int)≤(b:Int)+(i:Int):=by omega
      have bc:(b:Int)+(i:Int)<(d.size:Int):=by omega
      have rc:IntKind.i64.wrap ((b:Int)+(i:Int))=(b:Int)+(i:Int):=by rw [IntKind.wrap_i64];omega
      have S2:=SWK.swap3 S1.out R (a+i) (b+i) (by omega) (by omega)
      have S2:Aside _:=S2
      have hs2:Aside (Swapped d (swp dk (a+i) (b+i)) a b (i+1)):=hsw.out.next (by omega) (by omega)
      obtain ⟨⟨c0,c1,c2⟩,f0,f1,f2⟩:=SWK.three S1.out R (by omega) (a+i) (by omega)
      obtain ⟨⟨e0,e1,e2⟩,g0,g1,g2⟩:=SWK.three S1.out R (by omega) (b+i) (by omega)
      clear S1
      go_wp2_with fail
      go_big_region_o
      clear c0 c1 c2 e0 e1 e2 f0 f1 f2 g0 g1 g2
      generalize ((((((wr.setCell ⟨blk,off+(a+i) * 3,none⟩ (.string dk[b+i]!.key)).setCell ⟨blk,off+(a+i) * 3+1,none⟩ (.string dk[b+i]!.val)).setCell ⟨blk,off+(a+i) * 3+2,none⟩ (.bool dk[b+i]!.gone)).setCell
        ⟨blk,off+(b+i) * 3,none⟩ (.string dk[a+i]!.key)).setCell ⟨blk,off+(b+i) * 3+1,none⟩ (.string dk[a+i]!.val)).setCell ⟨blk,off+(b+i) * 3+2,none⟩ (.bool dk[a+i]!.gone)).drew=w2 at S2 ⊢
      go_wp2
      go_roundg (n - (i+1))
      case measure=>omega
      case rel=>exact ⟨i+1,_,by go_num,by omega,Nat.le_refl _,hs2,S2⟩
    · go_wp2
      go_end0
      exact ⟨rfl, dk, by have:i=n:=by omega
                         subst this;exact hsw.out,S1.out⟩
set_option maxHeartbeats 4000000 in
set_option maxRecDepth 1000000 in
theorem rotate_any (fv:Value)(blk off cap a m b:Nat)(d0 d:Array Ch)(w0 w:World)(R:RowK encC 3 w0 blk off d0)(hs:d0.size=d.size)(S:SWK encC 3 w0 blk off d w)(ham:a<m)(hmb:m<b)(hb:b≤d.size)(hsz:d.size<4611686018427387904) :
    Calls Tryz.prog 221 #[.slice (some ⟨blk,off,none⟩) d.size cap,.int .i64 a,.int .i64 m,.int .i64 b,fv] w fun e w'=>e=.returned (.tuple #[])∧∃ d',Rotated d d' a m b∧SWK encC 3 w0 blk off d' w':=by
  have S0:Aside (SWK encC 3 w0 blk off d w):=S
  clear S
  go_enter Tryz.func221,Tryz.ntmps221
  go_wp2
  go_loopg [10,11] (b - a) (fun kx si sj wr=>∃ (i j:Nat) (dk:Array Ch),si=.int .i64 i∧sj=.int .i64 j∧0<i∧0<j∧i≤m∧m+j≤d.size∧i+j≤kx∧dk.size=d.size∧Aside (∀ e,Rotated dk e (m - i) m (m+j)→Rotated d e a m b)∧Aside (SWK encC 3 w0 blk off dk wr))
  case atStart=>exact ⟨m - a,b - m,d,by congr 1;omega,by congr 1;omega,by omega,by omega,by omega,by omega,by omega,rfl,(by intro e he;rw [show m - (m - a)=a by omega,show m+(b - m)=b by omega] at he;exact he),S0⟩
  case round =>
    clear S0
    obtain ⟨i,j,dk,rfl,rfl,hi0,hj0,him,hjm,hkx,hds,HR,S1⟩:=hrel
    have hmi:(m:Int) - (i:Int)=((m - i:Nat):Int):=by omega
    rcases Nat.lt_trichotomy i j with hij | hij | hij
    · have h1:((i:Int) != (j:Int))=true:=by rw [bne_iff_ne];omega
      have h2:decide ((i:Int) > (j:Int))=false:=decide_eq_false (by omega)
      have hmji:(m:Int)+(j:Int) - (i:Int)=((m+j - i:Nat):Int):=by omega
      have hcon:=swapRange_any fv blk off cap (m - i) (m+j - i) i d0 dk w0 wr R (by omega) S1.out (by omega) (by omega) (by omega)
      rw [← hmi,← hmji,hds] at hcon
      clear hmi hmji
      have HCON:Hid _:=hcon
      clear hcon
      go_wp2_with fail
      refine Calls.mono HCON.out ?_
      rintro e w2 ⟨rfl,d2,hsw,S2⟩
      have S3:Aside (SWK encC 3 w0 blk off d2 w2):=S2
      have hsw2:Aside (Swapped dk d2 _ _ _):=hsw
      clear S1 S2 hsw HCON
      go_wp2
      go_roundg (i+(j - i))
      case measure=>omega
      case rel=>exact ⟨i,j - i,d2,rfl,by congr 1;omega,hi0,by omega,him,by omega,Nat.le_refl _,hsw2.out.size.trans hds,(show Aside _ from fun e he=>HR.out e (Rotated.right him hij hsw2.out he)),S3⟩
    · subst hij
      have h1:((i:Int) != (i:Int))=false:=by rw [bne_eq_false_iff_eq]
      have hcon:=swapRange_any fv blk off cap (m - i) m i d0 dk w0 wr R (by omega) S1.out (by omega) (by omega) (by omega)
      rw [← hmi,hds] at hcon
      clear hmi
      have HCON:Hid _:=hcon
      clear hcon
      go_wp2_with fail
      refine Calls.mono HCON.out ?_
      rintro e w2 ⟨rfl,d2,hsw,S2⟩
      have S3:Aside (SWK encC 3 w0 blk off d2 w2):=S2
      have hsw2:Aside (Swapped dk d2 _ _ _):=hsw
      clear S1 S2 hsw HCON
      go_wp2
      go_end0
      refine ⟨rfl,d2,HR.out d2 (Rotated.same ?_ (by omega) (by omega) (by omega)),S3.out⟩
      rw [show m - (m - i)=i by omega]
      exact hsw2.out
    · have h1:((i:Int) != (j:Int))=true:=by rw [bne_iff_ne];omega
      have h2:decide ((i:Int) > (j:Int))=true:=decide_eq_true (by omega)
      have hcon:=swapRange_any fv blk off cap (m - i) m j d0 dk w0 wr R (by omega) S1.out (by omega) (by omega) (by omega)
      rw [← hmi,hds] at hcon
      clear hmi
      have HCON:Hid _:=hcon
      clear hcon
      go_wp2_with fail
      refine Calls.mono HCON.out ?_
      rintro e w2 ⟨rfl,d2,hsw,S2⟩
      have S3:Aside (SWK encC 3 w0 blk off d2 w2):=S2
      have hsw2:Aside (Swapped dk d2 _ _ _):=hsw
      clear S1 S2 hsw HCON
      go_wp2
      go_roundg (i - j+j)
      case measure=>omega
      case rel=>exact ⟨i - j,j,d2,by congr 1;omega,rfl,by omega,hj0,by omega,by omega,Nat.le_refl _,hsw2.out.size.trans hds,(show Aside _ from fun e he=>HR.out e (Rotated.left him hij hsw2.out (by rw [show m - i+j=m - (i - j) by omega];exact he))),S3⟩
end Go.Proofs.YtihnghnafpgdfadGreatDoor
