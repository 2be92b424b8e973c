/- What the proofs stand on, part 32: TrioCopies, TrioContains, TrioLook, TrioFormat, TrioVote, TrioScrubBase, TrioScrub, TrioOpenBase, TrioOpen, TrioFew, TrioMem, TrioCom, TrioTell, TrioDoBase, TrioDone1, TrioQuilt, TrioWhat, TrioDone. -/
import Derived.Deep.RegionHeld3
import Derived.BigQuiet
import Derived.Defers
import Derived.Recover
import Derived.Laws.Pointers
import Derived.Test.YtihnghnafpgdfadGreatDoorSk31
import Derived.Test.YtihnghnafpgdfadGreatDoorSk29
import Derived.Test.YtihnghnafpgdfadGreatDoorSk30
import Derived.Test.YtihnghnafpgdfadGreatDoorSk27
import Derived.Test.YtihnghnafpgdfadGreatDoorSk09
set_option linter.unusedVariables false
set_option linter.unusedSimpArgs false
set_option maxRecDepth 100000
set_option maxHeartbeats 1000000
namespace Go.Proofs.YtihnghnafpgdfadGreatDoor
open Go Go.RowKit Go.BigFrame
variable {W W' w w' w0 w3 wr wr':World}{B N X b b' cap cap2 cc i j k lo lo' lo2 n side tb used:Nat}{C:Array Value}{T:TypeId}{u u0 u1 u2 u3 u4 u5 u6 u7 u8 v v':Value}{P P':Nat→Dp}{S S0 s so:Nat→Option Nat}{a a2 ca:Option Addr}{l l2 m:List Fi}{t t' t2:Int}{fr:Nat × Nat}{p q:Dp}{d d' e:Dk}{D D':Nat→Dk}{L R rows:List Ch}{g g':Lg}{x y:Co}{c:Nat→Co}{o:Option Nat}{st:St}{r:Res}
structure zhN (W W':World)(X:Nat)(C:Array Value)(T:TypeId):Prop where
 at':W'.heap[X]?=some (.cells C T (0,0))
 other:∀ j,j≠X→W'.heap[j]?=W.heap[j]?
 below:∀ {L:Nat} {w:World},L≤X→Below L w W→Below L w W'
theorem zhN.set (h:zhN W W' X C T)(i:Nat)(v:Value)(C':Array Value)(hC:C.setIfInBounds i v=C'):zhN W (W'.setCell ⟨X,i,none⟩ v) X C' T :=
 ⟨by rw [← hC];exact zaZ h.at' i v,fun j hj=>(Below.heap_setCell _ _ _ _ hj).trans (h.other j hj),fun hL hb=>(h.below hL hb).setCell hL _⟩
theorem zsT (h:W.heap[X]?=some (.cells #[u0,u1,u2,u3,u4,u5,u6,u7,u8] T (0,0)))(v0 v1 v2 v3 v4 v5 v6 v7 v8:Value):zhN W (((((((((W.setCell ⟨X,0,none⟩ v0).setCell ⟨X,1,none⟩ v1).setCell ⟨X,2,none⟩ v2).setCell ⟨X,3,none⟩ v3).setCell ⟨X,4,none⟩ v4).setCell ⟨X,5,none⟩ v5).setCell ⟨X,6,none⟩ v6).setCell ⟨X,7,none⟩ v7).setCell ⟨X,8,none⟩ v8) X #[v0,v1,v2,v3,v4,v5,v6,v7,v8] T:=by
 have h0:zhN W W X #[u0,u1,u2,u3,u4,u5,u6,u7,u8] T:=⟨h,fun _ _=>rfl,fun _ hb=>hb⟩;have h1:=h0.set 0 v0 #[v0,u1,u2,u3,u4,u5,u6,u7,u8] rfl;have h2:=h1.set 1 v1 #[v0,v1,u2,u3,u4,u5,u6,u7,u8] rfl;have h3:=h2.set 2 v2 #[v0,v1,v2,u3,u4,u5,u6,u7,u8] rfl;have h4:=h3.set 3 v3 #[v0,v1,v2,v3,u4,u5,u6,u7,u8] rfl;have h5:=h4.set 4 v4 #[v0,v1,v2,v3,v4,u5,u6,u7,u8] rfl;have h6:=h5.set 5 v5 #[v0,v1,v2,v3,v4,v5,u6,u7,u8] rfl;have h7:=h6.set 6 v6 #[v0,v1,v2,v3,v4,v5,v6,u7,u8] rfl;have h8:=h7.set 7 v7 #[v0,v1,v2,v3,v4,v5,v6,v7,u8] rfl;have h9:=h8.set 8 v8 #[v0,v1,v2,v3,v4,v5,v6,v7,v8] rfl;exact h9
theorem zrl (V:World):∃ C,(V.alloc (.cells #[Value.bool false,Value.slice none 0 0,Value.int IntKind.i64 0,Value.bool false,Value.slice none 0 0,Value.int IntKind.i64 0,Value.bool false,Value.slice none 0 0,Value.int IntKind.i64 0] 48)).heap[V.heap.size]?=some (.cells C 48 (0,0))∧C=#[Value.bool false,Value.slice none 0 0,Value.int IntKind.i64 0,Value.bool false,Value.slice none 0 0,Value.int IntKind.i64 0,Value.bool false,Value.slice none 0 0,Value.int IntKind.i64 0]:=⟨_,World.alloc_heap_new V _,rfl⟩
theorem zhS (lo:Nat)(P:Nat→Dp)(D:Nat→Dk)(w:World)(h3:zcH lo w P D)(hup:∀ i,i<3→(D i).down=false∧42≤(D i).now.length)(hv:zbF lo w)(hlo:lo≤w.heap.size) :
 Calls Tryz.prog 17 #[.agg #[dptr (P 0),dptr (P 1),dptr (P 2)]] w fun e w'=>∃ (s:Nat→Option Nat) (c:Nat→Co),e=.returned (zeS (c 0) (c 1) (c 2))∧Below w.heap.size w w'∧∀ i,i<3→RdOk w' w.heap.size (P i) (D i) (s i) (c i):=by
 obtain ⟨W,hW⟩:∃ x,x=(w.alloc (.cells #[dptr (P 0),dptr (P 1),dptr (P 2)] 26)).alloc (.cells #[Value.bool false,Value.slice none 0 0,Value.int IntKind.i64 0,Value.bool false,Value.slice none 0 0,Value.int IntKind.i64 0,Value.bool false,Value.slice none 0 0,Value.int IntKind.i64 0] 48):=⟨_,rfl⟩
 have HB0:Hid (Below w.heap.size w W):=by rw [hW];exact ((Below.refl _ _).alloc (Nat.le_refl _) _).alloc (by simp) _
 have hbx:W.heap[w.heap.size+1]?=some (.cells #[Value.bool false,Value.slice none 0 0,Value.int IntKind.i64 0,Value.bool false,Value.slice none 0 0,Value.int IntKind.i64 0,Value.bool false,Value.slice none 0 0,Value.int IntKind.i64 0] 48 (0,0)):=by
  obtain ⟨C,h1,h2⟩:=zrl (w.alloc (.cells #[dptr (P 0),dptr (P 1),dptr (P 2)] 26));rw [World.size_alloc] at h1;rw [hW,h1,h2]
 have HBX:Hid (W.heap[w.heap.size+1]?=some (.cells #[Value.bool false,Value.slice none 0 0,Value.int IntKind.i64 0,Value.bool false,Value.slice none 0 0,Value.int IntKind.i64 0,Value.bool false,Value.slice none 0 0,Value.int IntKind.i64 0] 48 (0,0))):=hbx;have hws:w.heap.size+1<W.heap.size:=(Array.getElem?_eq_some_iff.1 hbx).1;have HL:Hid (w.heap.size+1<W.heap.size):=hws;have KR:Hid _:=zpM lo P D W (h3.below HB0.out) hup (hv.go (HB0.out.mono hlo)) (Nat.le_trans hlo HB0.out.size);clear h3 hup hv hbx hws
 go_enter Tryz.func17,Tryz.ntmps17
 go_wp2_with fail
 rw [← hW];clear hW;refine Calls.mono KR.out ?_;rintro e w1 ⟨s,c,rfl,hb1,hrd⟩;have HB1:Hid (Below W.heap.size W w1):=hb1;have HRD:Hid (∀ i,i<3→RdOk w1 W.heap.size (P i) (D i) (s i) (c i)):=hrd;clear hb1 hrd KR
 go_upto_region 2 with fail
 obtain ⟨W3,hW3⟩:∃ x,x=(w1.alloc (.cells #[sptr (s 0),sptr (s 1),sptr (s 2)] 70)).alloc (.cells #[.bool (c 0).is,.slice (c 0).a (c 0).l.length (c 0).cap,.int .i64 (c 0).t,.bool (c 1).is,.slice (c 1).a (c 1).l.length (c 1).cap,.int .i64 (c 1).t,.bool (c 2).is,.slice (c 2).a (c 2).l.length (c 2).cap,.int .i64 (c 2).t] 48):=⟨_,rfl⟩
 have hb3:Below w1.heap.size w1 W3:=by rw [hW3];exact ((Below.refl _ _).alloc (Nat.le_refl _) _).alloc (by simp) _
 have hc3:W3.heap[w1.heap.size+1]?=some (.cells #[.bool (c 0).is,.slice (c 0).a (c 0).l.length (c 0).cap,.int .i64 (c 0).t,.bool (c 1).is,.slice (c 1).a (c 1).l.length (c 1).cap,.int .i64 (c 1).t,.bool (c 2).is,.slice (c 2).a (c 2).l.length (c 2).cap,.int .i64 (c 2).t] 48 (0,0)):=by
  have h1:=World.alloc_heap_new (w1.alloc (.cells #[sptr (s 0),sptr (s 1),sptr (s 2)] 70)) (.cells #[.bool (c 0).is,.slice (c 0).a (c 0).l.length (c 0).cap,.int .i64 (c 0).t,.bool (c 1).is,.slice (c 1).a (c 1).l.length (c 1).cap,.int .i64 (c 1).t,.bool (c 2).is,.slice (c 2).a (c 2).l.length (c 2).cap,.int .i64 (c 2).t] 48);rw [World.size_alloc] at h1;rw [hW3];exact h1
 have hx:W3.heap[w.heap.size+1]?=some (.cells #[Value.bool false,Value.slice none 0 0,Value.int IntKind.i64 0,Value.bool false,Value.slice none 0 0,Value.int IntKind.i64 0,Value.bool false,Value.slice none 0 0,Value.int IntKind.i64 0] 48 (0,0)):=(hb3.block _ (Nat.lt_of_lt_of_le HL.out HB1.out.size)).trans ((HB1.out.block _ HL.out).trans HBX.out);have HX:Hid (W3.heap[w.heap.size+1]?=some (.cells #[Value.bool false,Value.slice none 0 0,Value.int IntKind.i64 0,Value.bool false,Value.slice none 0 0,Value.int IntKind.i64 0,Value.bool false,Value.slice none 0 0,Value.int IntKind.i64 0] 48 (0,0))):=hx;have HB3:Hid (Below W.heap.size W W3):=HB1.out.trans (hb3.mono HB1.out.size);have HR3:Hid (∀ i,i<3→RdOk W3 W.heap.size (P i) (D i) (s i) (c i)):=fun i hi=>(HRD.out i hi).below hb3
 have y0:W3.cell? ⟨w.heap.size+1,0,none⟩=some (.bool false):=by rw [zaa hx];rfl
 have y1:W3.cell? ⟨w.heap.size+1,1,none⟩=some (.slice none 0 0):=by rw [zaa hx];rfl
 have y2:W3.cell? ⟨w.heap.size+1,2,none⟩=some (.int .i64 0):=by rw [zaa hx];rfl
 have y3:W3.cell? ⟨w.heap.size+1,3,none⟩=some (.bool false):=by rw [zaa hx];rfl
 have y4:W3.cell? ⟨w.heap.size+1,4,none⟩=some (.slice none 0 0):=by rw [zaa hx];rfl
 have y5:W3.cell? ⟨w.heap.size+1,5,none⟩=some (.int .i64 0):=by rw [zaa hx];rfl
 have y6:W3.cell? ⟨w.heap.size+1,6,none⟩=some (.bool false):=by rw [zaa hx];rfl
 have y7:W3.cell? ⟨w.heap.size+1,7,none⟩=some (.slice none 0 0):=by rw [zaa hx];rfl
 have y8:W3.cell? ⟨w.heap.size+1,8,none⟩=some (.int .i64 0):=by rw [zaa hx];rfl
 have g0:W3.frozen? ⟨w.heap.size+1,0,none⟩=false:=by simp [World.frozen?,hx]
 have g1:W3.frozen? ⟨w.heap.size+1,1,none⟩=false:=by simp [World.frozen?,hx]
 have g2:W3.frozen? ⟨w.heap.size+1,2,none⟩=false:=by simp [World.frozen?,hx]
 have g3:W3.frozen? ⟨w.heap.size+1,3,none⟩=false:=by simp [World.frozen?,hx]
 have g4:W3.frozen? ⟨w.heap.size+1,4,none⟩=false:=by simp [World.frozen?,hx]
 have g5:W3.frozen? ⟨w.heap.size+1,5,none⟩=false:=by simp [World.frozen?,hx]
 have g6:W3.frozen? ⟨w.heap.size+1,6,none⟩=false:=by simp [World.frozen?,hx]
 have g7:W3.frozen? ⟨w.heap.size+1,7,none⟩=false:=by simp [World.frozen?,hx]
 have g8:W3.frozen? ⟨w.heap.size+1,8,none⟩=false:=by simp [World.frozen?,hx]
 have x0:W3.cell? ⟨w1.heap.size+1,0,none⟩=some (.bool (c 0).is):=by rw [zaa hc3];rfl
 have x1:W3.cell? ⟨w1.heap.size+1,1,none⟩=some (.slice (c 0).a (c 0).l.length (c 0).cap):=by rw [zaa hc3];rfl
 have x2:W3.cell? ⟨w1.heap.size+1,2,none⟩=some (.int .i64 (c 0).t):=by rw [zaa hc3];rfl
 have x3:W3.cell? ⟨w1.heap.size+1,3,none⟩=some (.bool (c 1).is):=by rw [zaa hc3];rfl
 have x4:W3.cell? ⟨w1.heap.size+1,4,none⟩=some (.slice (c 1).a (c 1).l.length (c 1).cap):=by rw [zaa hc3];rfl
 have x5:W3.cell? ⟨w1.heap.size+1,5,none⟩=some (.int .i64 (c 1).t):=by rw [zaa hc3];rfl
 have x6:W3.cell? ⟨w1.heap.size+1,6,none⟩=some (.bool (c 2).is):=by rw [zaa hc3];rfl
 have x7:W3.cell? ⟨w1.heap.size+1,7,none⟩=some (.slice (c 2).a (c 2).l.length (c 2).cap):=by rw [zaa hc3];rfl
 have x8:W3.cell? ⟨w1.heap.size+1,8,none⟩=some (.int .i64 (c 2).t):=by rw [zaa hc3];rfl
 have l1:w.heap.size+1<W3.heap.size:=Nat.lt_of_lt_of_le HL.out HB3.out.size;rw [← hW3];clear hW3 hc3 hx hb3;go_wp2;obtain ⟨W4,hW4⟩:∃ x,x=(((((((((W3.setCell ⟨w.heap.size+1,0,none⟩ (.bool (c 0).is)).setCell ⟨w.heap.size+1,1,none⟩ (.slice (c 0).a (c 0).l.length (c 0).cap)).setCell ⟨w.heap.size+1,2,none⟩ (.int .i64 (c 0).t)).setCell ⟨w.heap.size+1,3,none⟩ (.bool (c 1).is)).setCell ⟨w.heap.size+1,4,none⟩ (.slice (c 1).a (c 1).l.length (c 1).cap)).setCell ⟨w.heap.size+1,5,none⟩ (.int .i64 (c 1).t)).setCell ⟨w.heap.size+1,6,none⟩ (.bool (c 2).is)).setCell ⟨w.heap.size+1,7,none⟩ (.slice (c 2).a (c 2).l.length (c 2).cap)).setCell ⟨w.heap.size+1,8,none⟩ (.int .i64 (c 2).t)):=⟨_,rfl⟩
 have hp:zhN W3 W4 (w.heap.size+1) #[.bool (c 0).is,.slice (c 0).a (c 0).l.length (c 0).cap,.int .i64 (c 0).t,.bool (c 1).is,.slice (c 1).a (c 1).l.length (c 1).cap,.int .i64 (c 1).t,.bool (c 2).is,.slice (c 2).a (c 2).l.length (c 2).cap,.int .i64 (c 2).t] 48:=by
  rw [hW4];exact zsT HX.out _ _ _ _ _ _ _ _ _
 rw [← hW4];clear hW4 y0 y1 y2 y3 y4 y5 y6 y7 y8 g0 g1 g2 g3 g4 g5 g6 g7 g8 x0 x1 x2 x3 x4 x5 x6 x7 x8;have hx:=hp.at';have y0:W4.cell? ⟨w.heap.size+1,0,none⟩=some (.bool (c 0).is):=by rw [zaa hx];rfl
 have y1:W4.cell? ⟨w.heap.size+1,1,none⟩=some (.slice (c 0).a (c 0).l.length (c 0).cap):=by rw [zaa hx];rfl
 have y2:W4.cell? ⟨w.heap.size+1,2,none⟩=some (.int .i64 (c 0).t):=by rw [zaa hx];rfl
 have y3:W4.cell? ⟨w.heap.size+1,3,none⟩=some (.bool (c 1).is):=by rw [zaa hx];rfl
 have y4:W4.cell? ⟨w.heap.size+1,4,none⟩=some (.slice (c 1).a (c 1).l.length (c 1).cap):=by rw [zaa hx];rfl
 have y5:W4.cell? ⟨w.heap.size+1,5,none⟩=some (.int .i64 (c 1).t):=by rw [zaa hx];rfl
 have y6:W4.cell? ⟨w.heap.size+1,6,none⟩=some (.bool (c 2).is):=by rw [zaa hx];rfl
 have y7:W4.cell? ⟨w.heap.size+1,7,none⟩=some (.slice (c 2).a (c 2).l.length (c 2).cap):=by rw [zaa hx];rfl
 have y8:W4.cell? ⟨w.heap.size+1,8,none⟩=some (.int .i64 (c 2).t):=by rw [zaa hx];rfl
 have HE:Hid (Below w.heap.size w W4∧∀ i,i<3→RdOk W4 w.heap.size (P i) (D i) (s i) (c i)):=⟨hp.below (by omega) (HB0.out.trans (HB3.out.mono HB0.out.size)),fun i hi=>((HR3.out i hi).far (fun k C T fr e hT=>hp.other k (fun ek=>by
  subst ek;rw [HX.out] at e;simp at e;rw [← e.2.1] at hT;revert hT
  decide))).lower HB0.out.size⟩
 clear hx hp
 try simp only [Exit.inBlock,Exit.then]
 refine bodyPost_ret (v:=zeS (c 0) (c 1) (c 2)) (by simp [results,Tryz.results17,go_sem,y0,y1,y2,y3,y4,y5,y6,y7,y8,zeS]) rfl ⟨s,c,rfl,HE.out⟩
theorem zqp (a:Option Addr) (cap:Nat) (l:List Int) (v:Int) (w:World) (hl:l.length≤1000) (hc:Nums w a l) :
 Calls Tryz.prog 120 #[.slice a l.length cap,.int .i64 v] w fun e w'=>(∃ k:Int,e=.returned (.int .i64 k) ∧ -1≤k∧k≤1000∧decide (0≤k)=l.contains v)∧Below w.heap.size w w':=by
 have HC:Hid (Nums w a l):=hc;clear hc
 go_enter Tryz.func120,Tryz.ntmps120
 go_wp2_with fail
 go_loopg [8] (l.length+1) (fun kx vi wr=>∃ k:Nat,vi=.int .i64 k∧k≤l.length∧l.length - k≤kx∧wr=w∧Hid (∀ j (h:j<l.length),j<k→¬ v=l[j]))
 case atStart=>exact ⟨0,rfl,Nat.zero_le _,by omega,rfl,fun j h h2=>absurd h2 (Nat.not_lt_zero _)⟩
 case round =>
  obtain ⟨k,rfl,hk,hkx,rfl,HN⟩:=hrel
  by_cases hlt:k<l.length
  · have hltz:(k:Int)<(l.length:Int):=by omega
    obtain ⟨b,off,rfl,c0⟩:=HC.out k hlt;obtain ⟨y,hy⟩:∃ y,y=l[k]:=⟨_,rfl⟩
    rw [← hy] at c0;have HY:Hid (y=l[k]):=hy;clear hy
    by_cases hs:v=y
    · subst hs
      have HS:Hid (l.contains v=true):=by
       show _=_;rw [List.contains_iff_mem,HY.out];exact List.getElem_mem hlt
      have hq:(v == v)=true:=by simp
      go_wp2;go_ret;exact ⟨⟨k,rfl,by omega,by omega,by rw [HS.out];exact decide_eq_true (by omega)⟩,Below.refl _ _⟩
    · have hq:(v == y)=false:=by simp [hs]
      have HS:Hid (¬ v=y):=hs;clear hs;go_wp2
      go_roundg (l.length - (k+1))
      case measure=>omega
      case rel =>
       refine ⟨k+1,by go_num,by omega,Nat.le_refl _,rfl,(show Hid _ from fun j h h2=>?_)⟩;rcases Nat.lt_or_ge j k with h3 | h3
       · exact HN.out j h h3
       · have e:j=k:=by omega
         subst e;rw [← HY.out];exact HS.out
  · go_wp2
    go_ret;refine ⟨⟨-1,rfl,by omega,by omega,?_⟩,Below.refl _ _⟩
    have e:l.contains v=false:=by
     rw [← Bool.not_eq_true,List.contains_iff_mem];intro hm;obtain ⟨j,hj,e⟩:=List.getElem_of_mem hm;exact HN.out j hj (by omega) e.symm
    rw [e]
    rfl
theorem zl2 (a:Option Addr)(cap:Nat)(l:List Int)(v:Int)(w:World)(hl:l.length≤1000)(hc:Nums w a l) :
 Calls Tryz.prog 86 #[.slice a l.length cap,.int .i64 v] w fun e w'=>e=.returned (.bool (l.contains v))∧Below w.heap.size w w':=by
 have HCON:Hid _:=zqp a cap l v w hl hc;clear hc
 go_enter Tryz.func86,Tryz.ntmps86
 go_wp2_with fail
 refine Calls.mono HCON.out ?_;rintro _ w2 ⟨⟨k,rfl,h1,h2,h3⟩,hb2⟩;have HB2:Hid (Below w.heap.size w w2):=hb2;have H3:Hid (decide (0≤k)=l.contains v):=h3;clear hb2 h3 HCON;go_wp2;go_ret;exact ⟨by rw [← H3.out];rfl,HB2.out⟩
structure zaQ (w:World)(tb:Nat)(P:Nat→Dp)(s:Nat→Option Nat)(a:Option Addr)(cap:Nat)(l:List Fi)(t:Int):Prop where
 blk:w.heap[tb]?=some (.cells #[dptr (P 0),dptr (P 1),dptr (P 2),sptr (s 0),sptr (s 1),sptr (s 2),.slice a l.length cap,.int .i64 t] 72 (0,0))
 files:zad w a cap l
theorem zaQ.below (h:zaQ w tb P s a cap l t)(hb:Below w.heap.size w w'):zaQ w' tb P s a cap l t :=
 ⟨by rw [hb.block tb (Array.getElem?_eq_some_iff.1 h.blk).1];exact h.blk,h.files.below hb⟩
theorem zaQ.lt (h:zaQ w tb P s a cap l t):tb<w.heap.size:=(Array.getElem?_eq_some_iff.1 h.blk).1
structure zq2 (w:World)(tb:Nat)(P:Nat→Dp)(s:Nat→Option Nat)(a:Option Addr)(cap:Nat)(l:List Fi)(t:Int):Prop where
 d0:w.cell? ⟨tb,0,none⟩=some (dptr (P 0))
 d1:w.cell? ⟨tb,1,none⟩=some (dptr (P 1))
 d2:w.cell? ⟨tb,2,none⟩=some (dptr (P 2))
 s0:w.cell? ⟨tb,3,none⟩=some (sptr (s 0))
 s1:w.cell? ⟨tb,4,none⟩=some (sptr (s 1))
 s2:w.cell? ⟨tb,5,none⟩=some (sptr (s 2))
 q0:w.cell? ⟨tb,6,none⟩=some (.slice a l.length cap)
 q1:w.cell? ⟨tb,7,none⟩=some (.int .i64 t)
 fr:∀ i,w.frozen? ⟨tb,i,none⟩=false
theorem zaQ.cells (h:zaQ w tb P s a cap l t):zq2 w tb P s a cap l t :=
 ⟨by rw [zaa h.blk];rfl,by rw [zaa h.blk];rfl,by rw [zaa h.blk];rfl,by rw [zaa h.blk];rfl,by rw [zaa h.blk];rfl,by rw [zaa h.blk];rfl,by rw [zaa h.blk];rfl,by rw [zaa h.blk];rfl,fun i=>by have:=h.blk;simp [World.frozen?,this]⟩
theorem zaQ.put (h:zaQ w tb P s a cap l t)(hk:k<3)(x:Option Nat):zaQ (w.setCell ⟨tb,3+k,none⟩ (sptr x)) tb P (upd s k x) a cap l t:=by
 refine ⟨?_,h.files.keep (fun j C fr e1=>Below.heap_setCell _ _ _ _ (fun e=>?_))⟩
 · have h1:=zaZ h.blk (3+k) (sptr x)
   rcases (show k=0∨k=1∨k=2 by omega) with rfl | rfl | rfl <;> exact h1
 · have e2:j=tb:=e
   rw [e2,h.blk] at e1;simp at e1
theorem zaQ.noStr (h:zaQ w tb P s a cap l t)(e:w.heap[tb]?=some (.cells C T fr)):¬ zqJ C T:=by
 intro hT;have e2:=h.blk;rw [e] at e2;simp at e2;rcases hT with hT | ⟨o,x,hx⟩
 · exact hT.2.2.2.2.2 e2.2.1
 · rw [e2.1] at hx
   rcases o with _ | _ | _ | _ | _ | _ | _ | _ | o <;> simp at hx
theorem LetT.of_trio (h:zaQ w tb P s a cap l t)(hk:∀ j,j<w.heap.size→j≠tb→w'.heap[j]?=w.heap[j]?):LetT w w':=fun k C T fr e hT =>
 (hk k (Array.getElem?_eq_some_iff.1 e).1 (fun ek=>by subst ek;exact h.noStr e hT)).trans e
theorem zdo (h:zaQ w tb P s a cap l t)(ht:zat (fun j=>j=tb) w w')(k:Nat)(C:Array Value)(T:TypeId)(fr:Nat × Nat)(hk:w.heap[k]?=some (.cells C T fr))(hT:T≠72):w'.heap[k]?=w.heap[k]? :=
 ht.block k (Array.getElem?_eq_some_iff.1 hk).1 (fun e=>by
  subst e;rw [h.blk] at hk;simp at hk;exact hT hk.2.1.symm)
theorem zil (hT:zcD T∨T=98):T≠72:=by
 intro e;subst e;revert hT
 decide
theorem ziT {l:List Int}(h:zbB w B v l)(hf:∀ (k:Nat) (C:Array Value) (fr:Nat × Nat),w.heap[k]?=some (.cells C 3 fr)→w'.heap[k]?=w.heap[k]?):zbB w' B v l :=
 zaj h (fun k e=>by
  obtain ⟨C,f,e1⟩:=Lib.ownsRow_kind h k e;exact hf _ _ _ e1)
theorem zvc (s:Nat→Option Nat)(k:Nat)(hk:k<3)(w:World):(Instr.index 70 (.agg #[sptr (s 0),sptr (s 1),sptr (s 2)]) (.int .i64 k)).run Tryz.prog w=.ok (sptr (s k)) w:=by
 rcases (show k=0∨k=1∨k=2 by omega) with rfl | rfl | rfl
 · show _=_;kernel_rfl
 · show _=_;kernel_rfl
 · show _=_;kernel_rfl
def mixS (W:List Int)(s so:Nat→Option Nat)(k:Nat):Nat→Option Nat:=fun i=>if i<k∧W.contains (i:Int)=false then s i else so i
theorem zsm {W:List Int}(h:W.contains (k:Int)=true):mixS W s so (k+1)=mixS W s so k:=by
 funext i
 unfold mixS
 by_cases e:i=k
 · subst e
   rw [if_neg (by rw [h];simp),if_neg (by omega)]
 · by_cases e2:i<k∧W.contains (i:Int)=false
   · rw [if_pos e2,if_pos ⟨by omega,e2.2⟩]
   · rw [if_neg e2,if_neg (fun h2=>e2 ⟨by omega,h2.2⟩)]
theorem zs3 {W:List Int}(h:W.contains (k:Int)=false):mixS W s so (k+1)=upd (mixS W s so k) k (s k):=by
 funext i
 by_cases e:i=k
 · subst e
   rw [zay];unfold mixS;rw [if_pos ⟨by omega,h⟩]
 · rw [zal _ _ e]
   unfold mixS
   by_cases e2:i<k∧W.contains (i:Int)=false
   · rw [if_pos e2,if_pos ⟨by omega,e2.2⟩]
   · rw [if_neg e2,if_neg (fun h2=>e2 ⟨by omega,h2.2⟩)]
theorem zq5 (W:List Int)(s so:Nat→Option Nat):mixS W s so 0=so:=by
 funext i
 unfold mixS;rw [if_neg (by omega)]
def zpR (w:World) (P:Nat→Dp) (D:Nat→Dk) (tb:Nat) (so:Nat→Option Nat) (a:Option Addr) (cap:Nat) (l:List Fi) (t:Int) (e:Ending) (w':World):Prop :=
 ∃ (s:Nat→Option Nat) (c:Nat→Co) (v:Value),e=.returned v∧zbB w' w.heap.size v (za9 (c 0) (c 1) (c 2) (zas a cap l t))∧(∀ i,i<3→RdOk w' w.heap.size (P i) (D i) (s i) (c i)) ∧
   zaQ w' tb P (mixS (za9 (c 0) (c 1) (c 2) (zas a cap l t)) s so 3) a cap l t∧zat (fun j=>j=tb) w w'
theorem zpD (lo:Nat) (P:Nat→Dp) (D:Nat→Dk) (tb:Nat) (so:Nat→Option Nat) (a:Option Addr) (cap:Nat) (l:List Fi) (t:Int) (w:World) (h3:zcH lo w P D) (hup:∀ i,i<3→(D i).down=false∧42≤(D i).now.length) (hv:zbF lo w) (hlo:lo≤w.heap.size) (ht:zaQ w tb P so a cap l t) (hl:l.length≤100) :
 Calls Tryz.prog 59 #[.pointer (some ⟨tb,0,none⟩)] w fun e w'=>zpR w P D tb so a cap l t e w':=by
 have HT:Hid (zaQ w tb P so a cap l t):=ht;obtain ⟨d0,d1,d2,s0,s1,s2,q0,q1,fr⟩:=ht.cells;have KR:Hid _:=zpM lo P D w h3 hup hv hlo;clear h3 hup hv ht fr
 go_enter Tryz.func59,Tryz.ntmps59
 go_wp2_with fail
 refine Calls.mono KR.out ?_;rintro e w1 ⟨s,c,rfl,hb1,hrd⟩;have HB1:Hid (Below w.heap.size w w1):=hb1;have HRD:Hid (∀ i,i<3→RdOk w1 w.heap.size (P i) (D i) (s i) (c i)):=hrd;clear d0 d1 d2 s0 s1 s2 q0 q1;have HT1:Hid (zaQ w1 tb P so a cap l t):=HT.out.below hb1;obtain ⟨d0,d1,d2,s0,s1,s2,q0,q1,fr⟩:=HT1.out.cells;clear hb1 hrd KR fr
 go_upto_region 2 with fail
 obtain ⟨W2,hW2⟩:∃ x,x=(w1.alloc (.cells #[sptr (s 0),sptr (s 1),sptr (s 2)] 70)).alloc (.cells #[.bool (c 0).is,.slice (c 0).a (c 0).l.length (c 0).cap,.int .i64 (c 0).t,.bool (c 1).is,.slice (c 1).a (c 1).l.length (c 1).cap,.int .i64 (c 1).t,.bool (c 2).is,.slice (c 2).a (c 2).l.length (c 2).cap,.int .i64 (c 2).t] 48):=⟨_,rfl⟩
 have hb2:Below w1.heap.size w1 W2:=by rw [hW2];exact ((Below.refl _ _).alloc (Nat.le_refl _) _).alloc (by simp) _
 have hc2:W2.heap[w1.heap.size+1]?=some (.cells #[.bool (c 0).is,.slice (c 0).a (c 0).l.length (c 0).cap,.int .i64 (c 0).t,.bool (c 1).is,.slice (c 1).a (c 1).l.length (c 1).cap,.int .i64 (c 1).t,.bool (c 2).is,.slice (c 2).a (c 2).l.length (c 2).cap,.int .i64 (c 2).t] 48 (0,0)):=by
  have h1:=World.alloc_heap_new (w1.alloc (.cells #[sptr (s 0),sptr (s 1),sptr (s 2)] 70)) (.cells #[.bool (c 0).is,.slice (c 0).a (c 0).l.length (c 0).cap,.int .i64 (c 0).t,.bool (c 1).is,.slice (c 1).a (c 1).l.length (c 1).cap,.int .i64 (c 1).t,.bool (c 2).is,.slice (c 2).a (c 2).l.length (c 2).cap,.int .i64 (c 2).t] 48);rw [World.size_alloc] at h1;rw [hW2];exact h1
 have hs2:W2.heap[w1.heap.size]?=some (.cells #[sptr (s 0),sptr (s 1),sptr (s 2)] 70 (0,0)):=by
  rw [hW2,Below.heap_alloc _ _ _ (by simp)];exact World.alloc_heap_new w1 _
 have HS2:Hid (W2.heap[w1.heap.size]?=some (.cells #[sptr (s 0),sptr (s 1),sptr (s 2)] 70 (0,0))):=hs2;have HC2:Hid (W2.heap[w1.heap.size+1]?=some (.cells #[.bool (c 0).is,.slice (c 0).a (c 0).l.length (c 0).cap,.int .i64 (c 0).t,.bool (c 1).is,.slice (c 1).a (c 1).l.length (c 1).cap,.int .i64 (c 1).t,.bool (c 2).is,.slice (c 2).a (c 2).l.length (c 2).cap,.int .i64 (c 2).t] 48 (0,0))):=hc2;have HB2:Hid (Below w.heap.size w W2):=HB1.out.trans (hb2.mono HB1.out.size);have HR2:Hid (∀ i,i<3→RdOk W2 w.heap.size (P i) (D i) (s i) (c i)):=fun i hi=>(HRD.out i hi).below hb2
 have HT2:Hid (zaQ W2 tb P so a cap l t):=HT1.out.below hb2;rw [← hW2];clear hW2 hb2 hc2 hs2 d0 d1 d2 s0 s1 s2 q0 q1
 have keepH:Hid (∀ W,Below W2.heap.size W2 W→(W.cell? ⟨w1.heap.size+1,0,none⟩=some (.bool (c 0).is)∧W.cell? ⟨w1.heap.size+1,1,none⟩=some (.slice (c 0).a (c 0).l.length (c 0).cap)∧W.cell? ⟨w1.heap.size+1,2,none⟩=some (.int .i64 (c 0).t)∧W.cell? ⟨w1.heap.size+1,3,none⟩=some (.bool (c 1).is)∧W.cell? ⟨w1.heap.size+1,4,none⟩=some (.slice (c 1).a (c 1).l.length (c 1).cap)∧W.cell? ⟨w1.heap.size+1,5,none⟩=some (.int .i64 (c 1).t)∧W.cell? ⟨w1.heap.size+1,6,none⟩=some (.bool (c 2).is)∧W.cell? ⟨w1.heap.size+1,7,none⟩=some (.slice (c 2).a (c 2).l.length (c 2).cap)∧W.cell? ⟨w1.heap.size+1,8,none⟩=some (.int .i64 (c 2).t)∧W.cell? ⟨tb,6,none⟩=some (.slice a l.length cap)∧W.cell? ⟨tb,7,none⟩=some (.int .i64 t)∧Hid (Below W2.heap.size W2 W))):=fun W h=>by
  have hx:W.heap[w1.heap.size+1]?=some (.cells #[.bool (c 0).is,.slice (c 0).a (c 0).l.length (c 0).cap,.int .i64 (c 0).t,.bool (c 1).is,.slice (c 1).a (c 1).l.length (c 1).cap,.int .i64 (c 1).t,.bool (c 2).is,.slice (c 2).a (c 2).l.length (c 2).cap,.int .i64 (c 2).t] 48 (0,0)):=(h.block _ (Array.getElem?_eq_some_iff.1 HC2.out).1).trans HC2.out;have hy:=(HT2.out.below h).cells;refine ⟨?_,?_,?_,?_,?_,?_,?_,?_,?_,hy.q0,hy.q1,h⟩ <;> (rw [zaa hx];rfl)
 have kcH:Hid (∀ W,Below W2.heap.size W2 W→Calls Tryz.prog 85 #[zeS (c 0) (c 1) (c 2),.agg #[.slice a l.length cap,.int .i64 t]] W fun e w'=>∃ v,e=.returned v∧zbB w' W.heap.size v (za9 (c 0) (c 1) (c 2) (zas a cap l t))∧Below W.heap.size W w'):=fun W h =>
  zsl (c 0) (c 1) (c 2) a cap l t W ((HR2.out 0 (by omega)).below h).co ((HR2.out 1 (by omega)).below h).co ((HR2.out 2 (by omega)).below h).co ⟨(HT2.out.below h).files.slice,hl⟩
 obtain ⟨y0,y1,y2,y3,y4,y5,y6,y7,y8,q0,q1,-⟩:=keepH.out W2 (Below.refl _ _);have htl:=HT2.out.lt
 go_region_held3 (fun W=>W.cell? ⟨w1.heap.size+1,0,none⟩=some (.bool (c 0).is)∧W.cell? ⟨w1.heap.size+1,1,none⟩=some (.slice (c 0).a (c 0).l.length (c 0).cap)∧W.cell? ⟨w1.heap.size+1,2,none⟩=some (.int .i64 (c 0).t)∧W.cell? ⟨w1.heap.size+1,3,none⟩=some (.bool (c 1).is)∧W.cell? ⟨w1.heap.size+1,4,none⟩=some (.slice (c 1).a (c 1).l.length (c 1).cap)∧W.cell? ⟨w1.heap.size+1,5,none⟩=some (.int .i64 (c 1).t)∧W.cell? ⟨w1.heap.size+1,6,none⟩=some (.bool (c 2).is)∧W.cell? ⟨w1.heap.size+1,7,none⟩=some (.slice (c 2).a (c 2).l.length (c 2).cap)∧W.cell? ⟨w1.heap.size+1,8,none⟩=some (.int .i64 (c 2).t)∧W.cell? ⟨tb,6,none⟩=some (.slice a l.length cap)∧W.cell? ⟨tb,7,none⟩=some (.int .i64 t)∧Hid (Below W2.heap.size W2 W))
  (first | exact keepH.out _ (Below.drew (Below.refl _ _)) | exact keepH.out _ hbW.out)
  (first
    | (go_at_call 85
       refine (kcH.out _ (‹_∧_∧_∧_∧_∧_∧_∧_∧_∧_∧_∧Hid (Below W2.heap.size _ _)›).2.2.2.2.2.2.2.2.2.2.2.out).mono ?_;rintro e wa ⟨v,rfl,hon,hb⟩;have hbW:Hid (Below W2.heap.size W2 wa):=Below.trans (‹_∧_∧_∧_∧_∧_∧_∧_∧_∧_∧_∧Hid (Below W2.heap.size _ _)›).2.2.2.2.2.2.2.2.2.2.2.out (hb.mono (‹_∧_∧_∧_∧_∧_∧_∧_∧_∧_∧_∧Hid (Below W2.heap.size _ _)›).2.2.2.2.2.2.2.2.2.2.2.out.size);have hOn:Hid (zbB wa W2.heap.size v (za9 (c 0) (c 1) (c 2) (zas a cap l t))):=zbB.base hon (‹_∧_∧_∧_∧_∧_∧_∧_∧_∧_∧_∧Hid (Below W2.heap.size _ _)›).2.2.2.2.2.2.2.2.2.2.2.out.size;clear hb hon))
 have HTA:Hid (zaQ wa tb P so a cap l t):=HT2.out.below hbW.out;have HRA:Hid (∀ i,i<3→RdOk wa w.heap.size (P i) (D i) (s i) (c i)):=fun i hi=>(HR2.out i hi).below hbW.out
 have HBA:Hid (Below w.heap.size w wa):=HB2.out.trans (hbW.out.mono HB2.out.size);have HOA:Hid (zbB wa w.heap.size v (za9 (c 0) (c 1) (c 2) (zas a cap l t))):=zbB.base hOn.out HB2.out.size;have hs3:wa.heap[w1.heap.size]?=some (.cells #[sptr (s 0),sptr (s 1),sptr (s 2)] 70 (0,0)):=(hbW.out.block _ (Array.getElem?_eq_some_iff.1 HS2.out).1).trans HS2.out;have z0:wa.cell? ⟨w1.heap.size,0,none⟩=some (sptr (s 0)):=by rw [zaa hs3];rfl
 have z1:wa.cell? ⟨w1.heap.size,1,none⟩=some (sptr (s 1)):=by rw [zaa hs3];rfl
 have z2:wa.cell? ⟨w1.heap.size,2,none⟩=some (sptr (s 2)):=by rw [zaa hs3];rfl
 rename_i hHeld;clear hHeld;clear kcH keepH y0 y1 y2 y3 y4 y5 y6 y7 y8 q0 q1 hs3;generalize hwl:za9 (c 0) (c 1) (c 2) (zas a cap l t)=WL at *;have HWL:Hid (za9 (c 0) (c 1) (c 2) (zas a cap l t)=WL):=hwl
 have HWL3:Hid (WL.length≤1000):=by
  show _≤_;rw [← hwl];have:=zcc (c 0) (c 1) (c 2) (zas a cap l t) 3;show (zbd (c 0) (c 1) (c 2) (zas a cap l t) 3).length≤1000;omega
 clear hwl;obtain ⟨va,vc,hv',hnums⟩:=zbB.nums HOA.out;subst hv';have HNU:Hid (Nums wa va WL):=hnums;clear hnums
 go_wp2_with fail
 go_loopg [23] 4 (fun kx vi wr=>∃ k:Nat,vi=.int .i64 k∧k≤3∧3 - k≤kx∧Hid (zaQ wr tb P (mixS WL s so k) a cap l t)∧Hid (zat (fun j=>j=tb) wa wr))
 case atStart=>exact ⟨0,rfl,by omega,by omega,(by rw [zq5];exact HTA),zat.refl _ _⟩
 case round =>
  obtain ⟨k,rfl,hk,hkx,HTK,HTC⟩:=hrel
  by_cases hlt:k<3
  · have hltz:(k:Int)<3:=by omega
    have hidx:=zvc s k hlt;have HON:Hid (zbB wr w.heap.size (.slice va WL.length vc) WL):=ziT HOA.out (fun j C fr e=>zdo HTA.out HTC.out j C _ fr e (by decide));obtain ⟨va2,vc2,hve,hnu⟩:=zbB.nums HON.out;obtain ⟨e1,e2⟩:va2=va∧vc2=vc:=by injection hve with a1 a2 a3;exact ⟨a1.symm,a3.symm⟩
    subst e1 e2;have KC:Hid _:=zl2 va2 vc2 WL k wr HWL3.out hnu;clear hnu hve
    go_wp2_with fail
    refine Calls.mono KC.out ?_;rintro e w4 ⟨rfl,hb4⟩;have HB4:Hid (Below wr.heap.size wr w4):=hb4;have HT4:Hid (zaQ w4 tb P (mixS WL s so k) a cap l t):=HTK.out.below hb4;have HTC4:Hid (zat (fun j=>j=tb) wa w4):=HTC.out.trans (zat.of_below hb4);clear hb4 KC;cases hcon:WL.contains (k:Int)
    · have HCO:Hid (WL.contains (k:Int)=false):=hcon
      clear hcon
      have hcell:∃ u,w4.cell? ⟨tb,3+k,none⟩=some u:=by
       have hh:=HT4.out.cells;rcases (show k=0∨k=1∨k=2 by omega) with rfl | rfl | rfl
       · exact ⟨_,hh.s0⟩
       · exact ⟨_,hh.s1⟩
       · exact ⟨_,hh.s2⟩
      obtain ⟨u,hu⟩:=hcell;have hfr:=HT4.out.cells.fr (3+k);have hlt4:=HT4.out.lt
      go_wp2_with fail
      go_roundg (3 - (k+1))
      case measure=>omega
      case rel =>
       refine ⟨k+1,by go_num,by omega,Nat.le_refl _,(by rw [zs3 HCO.out];exact HT4.out.put hlt (s k)),?_⟩;have h4:=HTC4.out;exact ⟨h4.os,h4.tape,h4.output,by rw [World.size_setCell];exact h4.size,fun j hj hn=>(Below.heap_setCell _ _ _ _ hn).trans (h4.block j hj hn)⟩
    · have HCO:Hid (WL.contains (k:Int)=true):=hcon
      clear hcon;go_wp2
      go_roundg (3 - (k+1))
      case measure=>omega
      case rel=>exact ⟨k+1,by go_num,by omega,Nat.le_refl _,(by rw [zsm HCO.out];exact HT4),HTC4⟩
  · have hk3:k=3:=by omega
    subst hk3;have HEND:Hid (zpR w P D tb so a cap l t (.returned (.slice va WL.length vc)) wr):=⟨s,c,_,rfl,by rw [HWL.out];exact ziT HOA.out (fun j C fr e=>zdo HTA.out HTC.out j C _ fr e (by decide)),fun i hi=>(HRA.out i hi).far (fun j C T fr e hT=>zdo HTA.out HTC.out j C T fr e (zil hT)),by rw [HWL.out];exact HTK.out,(zat.of_below HBA.out).trans HTC.out⟩;go_wp2;go_ret;exact HEND.out
structure zfl (lo N:Nat)(w wr:World)(P P':Nat→Dp)(D D':Nat→Dk)(R:List Ch)(k:Nat):Prop where
 three:zcH lo wr P' D'
 same:∀ i,i<3→(P' i).B=(P i).B
 done:∀ i,i<k→zez N (D' i) R
 rest:∀ i,k≤i→i<3→Free (D' i) N 0
 vars:zbF lo wr
 size:w.heap.size≤wr.heap.size
 bel:Below lo w wr
 far:LetT w wr
theorem zbF.mono (h:zbF lo w)(hl:lo≤lo'):zbF lo' w:=by
 obtain ⟨w0,h1,h2,h3⟩:=h;exact ⟨w0,h1,Nat.le_trans h2 hl,h3⟩
theorem zab.loSize (h:zab w p d):p.lo≤w.heap.size:=by
 have h1:=zd7 h p.B (.inl rfl);have h2:=h.lts (k:=p.B) (.inl rfl);omega
theorem zjW:zau [] 1:=⟨⟨by simp,(by intro f hf;cases hf),by simp⟩,by decide,by decide⟩
theorem zfl.below (h:zfl lo N w wr P P' D D' R k)(hb:Below wr.heap.size wr wr')(hlo:lo≤wr.heap.size):zfl lo N w wr' P P' D D' R k :=
 ⟨h.three.below hb,h.same,h.done,h.rest,h.vars.go (hb.mono hlo),Nat.le_trans h.size hb.size,h.bel.trans (hb.mono hlo),h.far.trans (LetT.of_below hb)⟩
theorem zfl.next {s:St}(h:zfl lo N w wr P P' D D' R k)(hk:k<3)(hl:Laid wr w' N (P' k) b s g u d' R)(hlo:lo≤wr.heap.size):
 zfl lo N w w' P (upd P' k { P' k with wv:=u }) D (upd D' k d') R (k+1):=by
 refine ⟨h.three.step hk hl.disk hl.new hl.touch (fun j hj=>.inl hj),fun i hi=>?_,fun i hi=>?_,fun i h1 h2=>?_,h.vars.go (hl.touch.below (fun j hj=>Nat.le_trans (h.three.lo k hk) (zd7 (h.three.disk k hk) j hj)) hlo),Nat.le_trans h.size hl.touch.size,h.bel.trans (hl.touch.below (fun j hj=>Nat.le_trans (h.three.lo k hk) (zd7 (h.three.disk k hk) j hj)) hlo),h.far.trans (LetT.of_touch (h.three.disk k hk) (List.length_eq_zero_iff.1 (Nat.le_zero.1 (h.rest k (Nat.le_refl _) hk).wr)) hl.touch)⟩
 · by_cases e:i=k
   · subst e;rw [zay];exact h.same i hi
   · rw [zal _ _ e];exact h.same i hi
 · by_cases e:i=k
   · subst e
     rw [zay,← hl.rows];exact hl.kept.sound hl.clean
   · rw [zal _ _ e];exact h.done i (by omega)
 · rw [zal _ _ (by omega)];exact h.rest i (by omega) h2
theorem zks (lo N:Nat)(P:Nat→Dp)(D:Nat→Dk)(w:World)(h3:zcH lo w P D)(hf:∀ i,i<3→Free (D i) N 0)(hN:42≤N)(hN2:N≤60)(hv:zbF lo w)(hlo:lo≤w.heap.size) :
 Calls Tryz.prog 47 #[.agg #[dptr (P 0),dptr (P 1),dptr (P 2)]] w fun e w'=>∃ P' D',e=.returned .nilIface∧zfl lo N w w' P P' D D' (zaw [] 1) 3:=by
 have HLO:Hid (lo≤w.heap.size):=hlo;obtain ⟨W,hW⟩:∃ x,x=w.alloc (.cells #[dptr (P 0),dptr (P 1),dptr (P 2)] 26):=⟨_,rfl⟩
 have HB0:Hid (Below w.heap.size w W):=by rw [hW];exact (Below.refl _ _).alloc (Nat.le_refl _) _
 have H0:Hid (zfl lo N w w P P D D (zaw [] 1) 0):=⟨h3,fun _ _=>rfl,fun i h=>absurd h (Nat.not_lt_zero _),fun i _ h=>hf i h,hv,Nat.le_refl _,Below.refl _ _,LetT.refl _⟩;have HA:Hid (zfl lo N w W P P D D (zaw [] 1) 0):=H0.out.below HB0.out hlo;clear h3 hf hv H0 hlo
 go_enter Tryz.func47,Tryz.ntmps47
 go_wp2_with fail
 rw [← hW];clear hW
 go_loopg [8] 4 (fun kx vi wr=>∃ (k:Nat) (P':Nat→Dp) (D':Nat→Dk),vi=.int .i64 k∧k≤3∧3 - k≤kx∧Hid (zfl lo N w wr P P' D D' (zaw [] 1) k))
 case atStart=>exact ⟨0,P,D,rfl,by omega,by omega,HA⟩
 case round =>
  obtain ⟨k,P',D',rfl,hk,hkx,HK⟩:=hrel
  by_cases hlt:k<3
  · have hltz:(k:Int)<3:=by omega
    have hidx:=zuS P k hlt
    go_wp2_with fail
    refine Calls.mono (zuf wr) ?_;rintro e w2 ⟨rfl,hb2⟩;have hlo2:lo≤wr.heap.size:=Nat.le_trans HLO.out HK.out.size;have HK2:Hid (zfl lo N w w2 P P' D D' (zaw [] 1) k):=HK.out.below hb2 hlo2;have HLO2:Hid (lo≤w2.heap.size):=Nat.le_trans hlo2 hb2.size;have kl:=zrR N (P' k) (D' k) none 0 [] 1 w2 (HK2.out.three.disk k hlt) (HK2.out.rest k (Nat.le_refl _) hlt) hN hN2 zjW (zad.nil _) (HK2.out.vars.mono (HK2.out.three.lo k hlt)) (HK2.out.three.disk k hlt).loSize;rw [HK2.out.same k hlt] at kl;have KL:Hid _:=kl;clear kl hb2 hlo2
    go_wp2_with fail
    refine Calls.mono KL.out ?_;rintro e w3 ⟨b,s,g,u,d',rfl,hlaid⟩;have HN:Hid (zfl lo N w w3 P (upd P' k { P' k with wv:=u }) D (upd D' k d') (zaw [] 1) (k+1)):=HK2.out.next hlt hlaid HLO2.out;clear hlaid KL;go_wp2
    go_roundg (3 - (k+1))
    case measure=>omega
    case rel=>exact ⟨k+1,_,_,by go_num,by omega,Nat.le_refl _,HN⟩
  · have hk3:k=3:=by omega
    subst hk3;go_wp2;go_ret;exact ⟨P',D',rfl,HK.out⟩
def IsQ (x:Co)(l:List Fi)(t:Int):Prop:=x.is=true∧x.l=l∧x.t=t
theorem zgf:zaC x (zas a cap l t)=true↔IsQ x l t:=by
 unfold zaC IsQ zas;cases hx:x.is
 · simp
 · simp [zqP,zd8]
theorem zpU (hx:IsQ x l t):(zaC x y=true↔IsQ y l t):=by
 obtain ⟨h1,h2,h3⟩:=hx;unfold zaC IsQ;cases hy:y.is
 · simp [h1]
 · simp [h1,zqP,zd8,h2,h3]
   constructor
   · rintro ⟨rfl,rfl⟩;exact ⟨rfl,rfl⟩
   · rintro ⟨rfl,rfl⟩;exact ⟨rfl,rfl⟩
theorem zdg (hi:i<3):(za9 (c 0) (c 1) (c 2) (zas a cap l t)).contains (i:Int)=true↔¬ IsQ (c i) l t:=by
 rw [← zgf (a:=a) (cap:=cap)];unfold za9
 cases h0:zaC (c 0) (zas a cap l t) <;> cases h1:zaC (c 1) (zas a cap l t) <;> cases h2:zaC (c 2) (zas a cap l t) <;>
  (rcases (show i=0∨i=1∨i=2 by omega) with rfl | rfl | rfl <;> simp [h0,h1,h2])
theorem zq4 (hi:i<3) (hj:j<3) (hij:i≠j) (h1:IsQ (c i) l t) (h2:IsQ (c j) l t):∃ v,zct (c 0) (c 1) (c 2)=some v∧IsQ v l t:=by
 have key:∀ {i j:Nat},i<j→j<3→IsQ (c i) l t→IsQ (c j) l t→∃ v,zct (c 0) (c 1) (c 2)=some v∧IsQ v l t:=by
  intro i j hij hj h1 h2;have hs:zaC (c i) (c j)=true:=(zpU h1).2 h2;unfold zct
  by_cases h0:(c 0).is=true∧[c 1,c 2].any (zaC (c 0))=true
  · rw [if_pos h0]
    refine ⟨_,rfl,?_⟩
    by_cases e:i=0
    · subst e;exact h1
    · have ei:i=1:=by omega
      have ej:j=2:=by omega
      subst ei ej;obtain ⟨h3,h4⟩:=h0;simp at h4;rcases h4 with h4 | h4
      · have:=h4
        unfold zaC at this
        rw [if_pos ⟨h3,h1.1⟩] at this
        simp [zqP,zd8] at this
        exact ⟨h3,this.1.trans h1.2.1,this.2.trans h1.2.2⟩
      · have:=h4
        unfold zaC at this
        rw [if_pos ⟨h3,h2.1⟩] at this
        simp [zqP,zd8] at this
        exact ⟨h3,this.1.trans h2.2.1,this.2.trans h2.2.2⟩
  · rw [if_neg h0]
    by_cases e:i=0
    · subst e
      refine absurd ⟨h1.1,?_⟩ h0;simp;rcases (show j=1∨j=2 by omega) with rfl | rfl
      · exact .inl hs
      · exact .inr hs
    · have ei:i=1:=by omega
      have ej:j=2:=by omega
      subst ei ej;rw [if_pos ⟨h1.1,by simp [hs]⟩];exact ⟨_,rfl,h1⟩
 rcases Nat.lt_or_ge i j with h | h
 · exact key h hj h1 h2
 · exact key (by omega) hi h2 h1
theorem RdOk.touch {s:Option Nat}{c:Co}(h:RdOk w lo p d s c)(hd:zab w q e)(ht:zat (dOwn q) w w'):RdOk w' lo p d s c:=by
 rcases h with h | ⟨b,side,rows,used,ra,rc,lb,va,vc,h1,h2,h3,h4,h5,h6,h7,h8,h9⟩
 · exact .inl h
 · exact .inr ⟨b,side,rows,used,ra,rc,lb,va,vc,h1,h2,h3,h4,h5,h6,h7.touch hd ht,h8,h9.keep (fun k C fr e1=>ht.other hd e1 ⟨by decide,by decide,by decide⟩)⟩
theorem zaQ.touch (h:zaQ w tb P s a cap l t)(hd:zab w q e)(ht:zat (dOwn q) w w'):zaQ w' tb P s a cap l t :=
 ⟨(ht.other hd h.blk ⟨by decide,by decide,by decide⟩).trans h.blk,h.files.keep (fun k C fr e1=>ht.other hd e1 ⟨by decide,by decide,by decide⟩)⟩
theorem zqi {l:List Int}(h:zbB w B v l)(hd:zab w q e)(ht:zat (dOwn q) w w'):zbB w' B v l :=
 ziT h (fun k C fr e1=>ht.other hd e1 ⟨by decide,by decide,by decide⟩)
def StOk (w:World)(lo N:Nat)(p:Dp)(d:Dk)(R:List Ch)(o:Option Nat):Prop :=
 ∃ b s g,o=some b∧zag w lo b s g∧s.dB=p.B∧g=⟨p.B,26,N - 26,zaf d s.side,g.used⟩∧Kept N d s.side g.used s.rows∧s.rows=R∧zdt d
theorem StOk.touch (h:StOk w lo N p d R o)(hd:zab w q e)(ht:zat (dOwn q) w w'):StOk w' lo N p d R o:=by
 obtain ⟨b,s,g,h1,h2,h3,h4,h5,h6⟩:=h;exact ⟨b,s,g,h1,h2.touch hd ht,h3,h4,h5,h6⟩
theorem StOk.far (h:StOk w lo N p d R o)(hk:∀ (k:Nat) (C:Array Value) (T:TypeId) (fr:Nat × Nat),w.heap[k]?=some (.cells C T fr)→zcD T→w'.heap[k]?=w.heap[k]?):StOk w' lo N p d R o:=by
 obtain ⟨b,s,g,h1,h2,h3,h4,h5,h6⟩:=h;exact ⟨b,s,g,h1,h2.far hk,h3,h4,h5,h6⟩
theorem StOk.below (h:StOk w lo N p d R o)(hb:Below w.heap.size w w'):StOk w' lo N p d R o :=
 h.far (fun k C T fr e _=>hb.block k (Array.getElem?_eq_some_iff.1 e).1)
theorem Laid.ok {s:St}(h:Laid w w' N p b s g u d R)(hlo:lo≤p.lo):StOk w' lo N { p with wv:=u } d R (some b) :=
 ⟨b,s,g,rfl,h.own.lower hlo,h.dB,h.gf,h.kept,h.rows,h.clean⟩
theorem Laid.from {s:St}(h:Laid w w' N p b s g u d R)(hb:Below w0.heap.size w0 w):Laid w0 w' N p b s g u d R :=
 ⟨h.disk,fun k hk=>by
  rcases h.new k hk with h1 | h1
  · exact .inl h1
  · exact .inr (Nat.le_trans hb.size h1),(zat.of_below hb).trans h.touch,h.own,h.dB,h.gf,h.kept,h.clean,h.rows⟩
structure zey (lo N:Nat)(w wr:World)(P P':Nat→Dp)(D D':Nat→Dk)(tb:Nat)(S0 S:Nat→Option Nat)(s:Nat→Option Nat)(c:Nat→Co)(a:Option Addr)(cap:Nat)(l:List Fi)(t:Int)(v:Value)(WL:List Int)(j:Nat):Prop where
 three:zcH lo wr P' D'
 same:∀ i,i<3→(P' i).B=(P i).B
 trio:zaQ wr tb P S a cap l t
 laid:∀ i:Nat,i<3→(i:Int) ∈ WL.take j→StOk wr lo N (P' i) (D' i) (zaw l t) (S i)
 rest:∀ i:Nat,i<3→¬ (i:Int) ∈ WL.take j→S i=S0 i∧D' i=D i∧P' i=P i
 read:∀ i,i<3→RdOk wr lo (P i) (D i) (s i) (c i)
 nums:zbB wr w.heap.size v WL
 vars:zbF lo wr
 size:w.heap.size≤wr.heap.size
 bel:Below lo w wr
 far:LetT w wr
 trios:∀ (k:Nat) (C:Array Value) (fr:Nat × Nat),k≠tb→w.heap[k]?=some (.cells C 72 fr)→wr.heap[k]?=some (.cells C 72 fr)
theorem zoo (h:zaQ w tb P s a cap l t){x:Value}(k:Nat)(C:Array Value)(T:TypeId)(fr:Nat × Nat)(hk:w.heap[k]?=some (.cells C T fr))(hT:T≠72):(w.setCell ⟨tb,i,none⟩ x).heap[k]?=w.heap[k]? :=
 Below.heap_setCell _ _ _ _ (fun e=>by
  have e2:k=tb:=e;subst e2;rw [h.blk] at hk;simp at hk;exact hT hk.2.1.symm)
theorem zcH.farT (h:zcH lo w P D)(hk:∀ (k:Nat) (C:Array Value) (T:TypeId) (fr:Nat × Nat),w.heap[k]?=some (.cells C T fr)→zcD T→w'.heap[k]?=w.heap[k]?):zcH lo w' P D :=
 ⟨fun i hi=>(h.disk i hi).farT hk,h.lo,h.apart⟩
theorem zey.next {WL:List Int}
 (h:zey lo N w wr P P' D D' tb S0 S s c a cap l t v WL j) (hj:j<WL.length) (hwr:(D' k).wr=[]) (hk:k<3) (hjk:WL[j]=(k:Int)) (hl:Laid wr w3 N (P' k) b st g u d' (zaw l t)) (hlo:lo≤wr.heap.size) (htb:lo≤tb) :
 zey lo N w (w3.setCell ⟨tb,3+k,none⟩ (sptr (some b))) P (upd P' k { P' k with wv:=u }) D (upd D' k d') tb S0 (upd S k (some b)) s c a cap l t v WL (j+1):=by
 have hd:=h.three.disk k hk;have ht3:zaQ w3 tb P S a cap l t:=h.trio.touch hd hl.touch;have f1:∀ (m:Nat) (C:Array Value) (T:TypeId) (fr:Nat × Nat),w3.heap[m]?=some (.cells C T fr)→zcD T→(w3.setCell ⟨tb,3+k,none⟩ (sptr (some b))).heap[m]?=w3.heap[m]?:=fun m C T fr e hT=>zoo ht3 m C T fr e (zil (.inl hT))
 have htk:WL.take (j+1)=WL.take j ++ [(k:Int)]:=by rw [← hjk];exact List.take_succ_eq_append_getElem hj
 refine ⟨(h.three.step hk hl.disk hl.new hl.touch (fun m hm=>.inl hm)).farT f1,fun i hi=>?_,ht3.put hk (some b),fun i hi hm=>?_,fun i hi hm=>?_,fun i hi=>?_,?_,?_,?_,?_,?_,?_⟩
 · by_cases e:i=k
   · subst e;rw [zay];exact h.same i hi
   · rw [zal _ _ e];exact h.same i hi
 · by_cases e:i=k
   · subst e
     rw [zay,zay,zay];exact (hl.ok (h.three.lo i hi)).far f1
   · rw [zal _ _ e,zal _ _ e,zal _ _ e]
     rw [htk] at hm;refine ((h.laid i hi ?_).touch hd hl.touch).far f1;rcases List.mem_append.1 hm with hm | hm
     · exact hm
     · simp at hm
       omega
 · rw [htk] at hm
   have e:¬ i=k:=fun e=>hm (by subst e;simp)
   rw [zal _ _ e,zal _ _ e,zal _ _ e];exact h.rest i hi (fun h2=>hm (List.mem_append.2 (.inl h2)))
 · exact ((h.read i hi).touch hd hl.touch).far (fun m C T fr e hT=>zoo ht3 m C T fr e (zil hT))
 · exact ziT (zqi h.nums hd hl.touch) (fun m C fr e=>zoo ht3 m C _ fr e (by decide))
 · exact (h.vars.go (hl.touch.below (fun m hm=>Nat.le_trans (h.three.lo k hk) (zd7 hd m hm)) hlo)).go ((Below.refl _ _).setCell htb _)
 · rw [World.size_setCell];exact Nat.le_trans h.size hl.touch.size
 · exact (h.bel.trans (hl.touch.below (fun m hm=>Nat.le_trans (h.three.lo k hk) (zd7 hd m hm)) hlo)).setCell htb _
 · exact (h.far.trans (LetT.of_touch hd hwr hl.touch)).trans (LetT.of_trio ht3 (fun j _ hj=>Below.heap_setCell _ _ _ _ hj))
 · intro m C fr hm e
   exact (Below.heap_setCell _ _ _ _ hm).trans ((hl.touch.other hd (h.trios m C fr hm e) ⟨by decide,by decide,by decide⟩).trans (h.trios m C fr hm e))
theorem zey.below {WL:List Int}
 (h:zey lo N w wr P P' D D' tb S0 S s c a cap l t v WL j) (hb:Below wr.heap.size wr w3) (hlo:lo≤wr.heap.size):zey lo N w w3 P P' D D' tb S0 S s c a cap l t v WL j :=
 ⟨h.three.below hb,h.same,h.trio.below hb,fun i hi hm=>(h.laid i hi hm).below hb,h.rest,fun i hi=>(h.read i hi).below hb,zbB.below h.nums hb,h.vars.go (hb.mono hlo),Nat.le_trans h.size hb.size,h.bel.trans (hb.mono hlo),h.far.trans (LetT.of_below hb),fun k C fr hk e=>(hb.block k (Array.getElem?_eq_some_iff.1 (h.trios k C fr hk e)).1).trans (h.trios k C fr hk e)⟩
theorem zob {x y z q:Co}:∀ i ∈ za9 x y z q,∃ k:Nat,k<3∧i=(k:Int):=by
 intro i hi;unfold za9 at hi;cases h0:zaC x q <;> cases h1:zaC y q <;> cases h2:zaC z q <;> simp [h0,h1,h2] at hi
 all_goals first
  | (rcases hi with rfl | rfl | rfl <;> first | exact ⟨0,by omega,rfl⟩ | exact ⟨1,by omega,rfl⟩ | exact ⟨2,by omega,rfl⟩)
  | (rcases hi with rfl | rfl <;> first | exact ⟨0,by omega,rfl⟩ | exact ⟨1,by omega,rfl⟩ | exact ⟨2,by omega,rfl⟩)
  | (subst hi;first | exact ⟨0,by omega,rfl⟩ | exact ⟨1,by omega,rfl⟩ | exact ⟨2,by omega,rfl⟩)
def zhM (lo N:Nat)(w:World)(P:Nat→Dp)(D:Nat→Dk)(tb:Nat)(so:Nat→Option Nat)(a:Option Addr)(cap:Nat)(l:List Fi)(t:Int)(e:Ending)(w':World):Prop :=
 ∃ P' D' S s c v,e=.returned (.tuple #[.int .i64 (za9 (c 0) (c 1) (c 2) (zas a cap l t)).length,.nilIface])∧zey lo N w w' P P' D D' tb (mixS (za9 (c 0) (c 1) (c 2) (zas a cap l t)) s so 3) S s c a cap l t v (za9 (c 0) (c 1) (c 2) (zas a cap l t)) (za9 (c 0) (c 1) (c 2) (zas a cap l t)).length
theorem zmp (lo N:Nat) (P:Nat→Dp) (D:Nat→Dk) (tb:Nat) (so:Nat→Option Nat) (a:Option Addr) (cap:Nat) (l:List Fi) (t:Int) (w:World) (h3:zcH lo w P D) (hf:∀ i,i<3→Free (D i) N 0) (hN:42≤N) (hN2:N≤60) (hv:zbF lo w) (hlo:lo≤w.heap.size) (htb:lo≤tb) (ht:zaQ w tb P so a cap l t) (hg:zau l t) :
 Calls Tryz.prog 31 #[.pointer (some ⟨tb,0,none⟩)] w fun e w'=>zhM lo N w P D tb so a cap l t e w':=by
 have KL:Hid _:=zpD lo P D tb so a cap l t w h3 (fun i hi=>⟨(hf i hi).up,by rw [(hf i hi).len];exact hN⟩) hv hlo ht (by have:=hg.files.few;omega);have H3:Hid (zcH lo w P D):=h3;have HF:Hid (∀ i,i<3→Free (D i) N 0):=hf;have HV:Hid (zbF lo w):=hv;have HT:Hid (zaQ w tb P so a cap l t):=ht;have HG:Hid (zau l t):=hg;have HLO:Hid (lo≤w.heap.size):=hlo;have HTB:Hid (lo≤tb):=htb;clear h3 hf hv ht hg hlo htb
 go_enter Tryz.func31,Tryz.ntmps31
 go_wp2_with fail
 refine Calls.mono KL.out ?_;rintro e w1 ⟨s,c,v,rfl,hon,hrd,hta,htc⟩
 have HC:Hid (zey lo N w w1 P P D D tb (mixS (za9 (c 0) (c 1) (c 2) (zas a cap l t)) s so 3) (mixS (za9 (c 0) (c 1) (c 2) (zas a cap l t)) s so 3) s c a cap l t v (za9 (c 0) (c 1) (c 2) (zas a cap l t)) 0) :=
  ⟨H3.out.farT (fun k C T fr e hT=>zdo HT.out htc k C T fr e (zil (.inl hT))),fun _ _=>rfl,hta,fun i _ hm=>by simp at hm,fun i _ _=>⟨rfl,rfl,rfl⟩,fun i hi=>(hrd i hi).lower HLO.out,hon,HV.out.go (htc.below (fun k hk=>by rw [hk];exact HTB.out) HLO.out),htc.size,htc.below (fun k hk=>by rw [hk];exact HTB.out) HLO.out,LetT.of_trio HT.out (fun j hj hne=>htc.block j hj hne),fun k C fr hk e=>(htc.block k (Array.getElem?_eq_some_iff.1 e).1 hk).trans e⟩
 have HW3:Hid (∀ i ∈ za9 (c 0) (c 1) (c 2) (zas a cap l t),∃ k:Nat,k<3∧i=(k:Int)):=zob;obtain ⟨va,vc,hv',-⟩:=zbB.nums hon;subst hv';clear KL hon hrd hta htc;generalize hwl:za9 (c 0) (c 1) (c 2) (zas a cap l t)=WL at *;have HWL:Hid (za9 (c 0) (c 1) (c 2) (zas a cap l t)=WL):=hwl
 have hwl3:WL.length≤1000:=by
  rw [← hwl];have:=zcc (c 0) (c 1) (c 2) (zas a cap l t) 3;show (zbd (c 0) (c 1) (c 2) (zas a cap l t) 3).length≤1000;omega
 clear hwl
 go_wp2_with fail
 go_loopg [13] (WL.length+1) (fun kx vi wr=>∃ (j:Nat) (P':Nat→Dp) (D':Nat→Dk) (S:Nat→Option Nat),vi=.int .i64 j∧j≤WL.length∧WL.length - j≤kx∧Hid (zey lo N w wr P P' D D' tb (mixS WL s so 3) S s c a cap l t (.slice va WL.length vc) WL j))
 case atStart=>exact ⟨0,P,D,_,rfl,Nat.zero_le _,by omega,HC⟩
 case round =>
  obtain ⟨j,P',D',S,rfl,hj,hjx,HJ⟩:=hrel
  by_cases hlt:j<WL.length
  · have hltz:(j:Int)<(WL.length:Int):=by omega
    obtain ⟨k,hk,hjk⟩:=HW3.out _ (List.getElem_mem hlt);obtain ⟨va2,vc2,hve,hnu⟩:=zbB.nums HJ.out.nums;obtain ⟨e1,e2⟩:va2=va∧vc2=vc:=by injection hve with a1 a2 a3;exact ⟨a1.symm,a3.symm⟩
    subst e1 e2;obtain ⟨bw,off,rfl,x0⟩:=hnu j hlt;rw [hjk] at x0;have HJK:Hid (WL[j]=(k:Int)):=hjk;have HLW:Hid (lo≤wr.heap.size):=Nat.le_trans HLO.out HJ.out.size
    have HFR:Hid (Free (D' k) N 0):=by
     by_cases hm:(k:Int) ∈ WL.take j
     · obtain ⟨_,_,_,_,_,_,_,h5,_⟩:=HJ.out.laid k hk hm
       exact h5.free
     · rw [(HJ.out.rest k hk hm).2.1];exact HF.out k hk
    have kcH:Hid (∀ W,Below wr.heap.size wr W→Calls Tryz.prog 60 #[dptr (P k),.agg #[.slice a l.length cap,.int .i64 t]] W fun e w'=>∃ b st g u d',e=.returned (.tuple #[.pointer (some ⟨b,0,none⟩),.nilIface])∧Laid wr w' N (P' k) b st g u d' (zaw l t)):=fun W hb=>by
     have hJ:=HJ.out.below hb HLW.out;have kl:=zrR N (P' k) (D' k) a cap l t W (hJ.three.disk k hk) HFR.out hN hN2 HG.out hJ.trio.files (hJ.vars.mono (hJ.three.lo k hk)) (hJ.three.disk k hk).loSize;rw [hJ.same k hk] at kl;exact kl.mono (fun e w' ⟨b,st,g,u,d',h1,h2⟩=>⟨b,st,g,u,d',h1,h2.from hb⟩)
    clear hnu hve hjk
    have cellsOf:Hid (∀ W,zaQ W tb P S a cap l t→(W.cell? ⟨tb,k,none⟩=some (dptr (P k))∧W.cell? ⟨tb,6,none⟩=some (.slice a l.length cap)∧W.cell? ⟨tb,7,none⟩=some (.int .i64 t)∧Hid (zaQ W tb P S a cap l t))):=fun W h=>by
     have hc:=h.cells;refine ⟨?_,hc.q0,hc.q1,h⟩;rcases (show k=0∨k=1∨k=2 by omega) with rfl | rfl | rfl
     · exact hc.d0
     · exact hc.d1
     · exact hc.d2
    obtain ⟨y0,q0,q1,-⟩:=cellsOf.out wr HJ.out.trio;have htl:=HJ.out.trio.lt;have hkz:(k:Int)<3:=by omega
    have hkz0:(0:Int)≤(k:Int):=by omega
    go_wp2_with fail
    go_region_held3 (fun W=>W.cell? ⟨tb,k,none⟩=some (dptr (P k))∧W.cell? ⟨tb,6,none⟩=some (.slice a l.length cap)∧W.cell? ⟨tb,7,none⟩=some (.int .i64 t)∧Hid (zaQ W tb P S a cap l t))
     (first | exact cellsOf.out _ (HJ.out.trio.below (Below.drew (Below.refl _ _))) | exact cellsOf.out _ hTa.out)
     (first
       | (go_at_call 60
          refine (kcH.out _ (Below.drew (Below.refl _ _))).mono ?_;rintro e wa ⟨b,st,g,u,d',rfl,hl9⟩;have hLa:Hid (Laid wr wa N (P' k) b st g u d' (zaw l t)):=hl9;have hTa:Hid (zaQ wa tb P S a cap l t):=HJ.out.trio.touch (HJ.out.three.disk k hk) hl9.touch;clear hl9))
    rename_i hHeld;clear hHeld;have HTA:Hid (zaQ wa tb P S a cap l t):=hTa;have HN:Hid (zey lo N w (wa.setCell ⟨tb,3+k,none⟩ (sptr (some b))) P (upd P' k { P' k with wv:=u }) D (upd D' k d') tb (mixS WL s so 3) (upd S k (some b)) s c a cap l t (.slice (some ⟨bw,off,none⟩) WL.length vc2) WL (j+1)):=HJ.out.next hlt (List.length_eq_zero_iff.1 (Nat.le_zero.1 HFR.out.wr)) hk HJK.out hLa.out HLW.out HTB.out
    have hcell:∃ x,wa.cell? ⟨tb,3+k,none⟩=some x:=by
     have hh:=HTA.out.cells;rcases (show k=0∨k=1∨k=2 by omega) with rfl | rfl | rfl
     · exact ⟨_,hh.s0⟩
     · exact ⟨_,hh.s1⟩
     · exact ⟨_,hh.s2⟩
    obtain ⟨x,hx⟩:=hcell;have hfr:=HTA.out.cells.fr (3+k);have hlt4:=HTA.out.lt;clear kcH cellsOf y0 q0 q1 x0
    go_wp2_with fail
    go_roundg (WL.length - (j+1))
    case measure=>omega
    case rel=>exact ⟨j+1,_,_,_,by go_num,by omega,Nat.le_refl _,HN⟩
  · have hj3:j=WL.length:=by omega
    subst hj3;have HEND:Hid (zhM lo N w P D tb so a cap l t (.returned (.tuple #[.int .i64 WL.length,.nilIface])) wr):=⟨P',D',S,s,c,_,by rw [HWL.out],by rw [HWL.out];exact HJ.out⟩;go_wp2;go_ret2;exact HEND.out
theorem RdOk.good {s:Option Nat} {c:Co} (h:RdOk w lo p d s c) (hc:c.is=true):zau c.l c.t∧∃ side rows used,zc3 d=some (side,rows,used)∧Img rows c.l c.t:=by
 rcases h with ⟨_,_,rfl⟩ | ⟨b,side,rows,used,ra,rc,lb,va,vc,h1,h2,h3,h4,h5,h6,h7,rfl,h9⟩
 · cases hc
 · have hn:(imgR rows).2.2=0:=by simpa using hc
   by_cases hx:∃ p:List Fi × Int,Img rows p.1 p.2
   · obtain ⟨q,hq⟩:=hx
     have e:=zgl hq;refine ⟨?_,side,rows,used,h1,?_⟩
     · show zau (imgR rows).1 (imgR rows).2.1
       rw [e];exact hq.1
     · show Img rows (imgR rows).1 (imgR rows).2.1
       rw [e];exact hq
   · rw [zlu (fun l t h=>hx ⟨(l,t),h⟩)] at hn
     cases hn
theorem zh5 {g c:Co}:zaV g c=g∨zaV g c=c:=by
 unfold zaV
 split
 · exact .inr rfl
 · exact .inl rfl
theorem zr4 {v:Co} (h:zct (c 0) (c 1) (c 2)=some v):v.is=true∧∃ i,i<3∧v=c i:=by
 unfold zct at h
 split at h
 · rename_i h0
   cases h;exact ⟨h0.1,0,by omega,rfl⟩
 · split at h
   · rename_i h0
     cases h;exact ⟨h0.1,1,by omega,rfl⟩
   · split at h
     · rename_i h0
       cases h;refine ⟨h0,?_⟩;rcases zh5 (g:=zaV (zaV noCo (c 0)) (c 1)) (c:=c 2) with e | e
       · rcases zh5 (g:=zaV noCo (c 0)) (c:=c 1) with e1 | e1
         · rcases zh5 (g:=noCo) (c:=c 0) with e2 | e2
           · rw [e,e1,e2] at h0
             cases h0
           · exact ⟨0,by omega,by rw [e,e1,e2]⟩
         · exact ⟨1,by omega,by rw [e,e1]⟩
       · exact ⟨2,by omega,e⟩
     · cases h
def zly (lo N:Nat) (w:World) (P:Nat→Dp) (D:Nat→Dk) (e:Ending) (w':World):Prop :=
 ∃ (s1:Nat→Option Nat) (c1:Nat→Co) (w1:World),Below w.heap.size w w1∧(∀ i,i<3→RdOk w1 w.heap.size (P i) (D i) (s1 i) (c1 i)) ∧
   ((zct (c1 0) (c1 1) (c1 2)=none∧e=.returned (.tuple #[.pointer none,.int .i64 0,.iface 90 (.int .i64 4)])∧Below w.heap.size w w') ∨
    ∃ (v:Co) (tb:Nat) (n:Int) (a:Option Addr) (cap:Nat) (w2:World),zct (c1 0) (c1 1) (c1 2)=some v∧e=.returned (.tuple #[.pointer (some ⟨tb,0,none⟩),.int .i64 n,.nilIface])∧Below w.heap.size w w2∧w.heap.size≤tb ∧
      zhM lo N w2 P D tb (fun _=>none) a cap v.l v.t (.returned (.tuple #[.int .i64 n,.nilIface])) w')
theorem znP (lo N:Nat)(P:Nat→Dp)(D:Nat→Dk)(w:World)(h3:zcH lo w P D)(hf:∀ i,i<3→Free (D i) N 0)(hN:42≤N)(hN2:N≤60)(hv:zbF lo w)(hlo:lo≤w.heap.size) :
 Calls Tryz.prog 12 #[.agg #[dptr (P 0),dptr (P 1),dptr (P 2)]] w fun e w'=>zly lo N w P D e w':=by
 obtain ⟨W,hW⟩:∃ x,x=w.alloc (.cells #[dptr (P 0),dptr (P 1),dptr (P 2)] 26):=⟨_,rfl⟩
 have HB0:Hid (Below w.heap.size w W):=by rw [hW];exact (Below.refl _ _).alloc (Nat.le_refl _) _
 have HDB:Hid (W.heap[w.heap.size]?=some (.cells #[dptr (P 0),dptr (P 1),dptr (P 2)] 26 (0,0))):=by rw [hW];exact World.alloc_heap_new w _
 have HBW1:Hid (w.heap.size<W.heap.size):=(Array.getElem?_eq_some_iff.1 HDB.out).1;have KC:Hid _:=zhS lo P D W (h3.below HB0.out) (fun i hi=>⟨(hf i hi).up,by rw [(hf i hi).len];exact hN⟩) (hv.go (HB0.out.mono hlo)) (Nat.le_trans hlo HB0.out.size);have H3:Hid (zcH lo w P D):=h3;have HF:Hid (∀ i,i<3→Free (D i) N 0):=hf;have HV:Hid (zbF lo w):=hv;have HLO:Hid (lo≤w.heap.size):=hlo;clear h3 hf hv hlo
 go_enter Tryz.func12,Tryz.ntmps12
 go_wp2_with fail
 rw [← hW];clear hW;refine Calls.mono KC.out ?_;rintro e w1 ⟨s,c,rfl,hb1,hrd⟩;have HBW:Hid (Below W.heap.size W w1):=hb1;have HB1:Hid (Below w.heap.size w w1):=HB0.out.trans (hb1.mono HB0.out.size);have HRD:Hid (∀ i,i<3→RdOk w1 W.heap.size (P i) (D i) (s i) (c i)):=hrd;have KV:Hid _:=zqq (c 0) (c 1) (c 2) w1 (hrd 0 (by omega)).co (hrd 1 (by omega)).co (hrd 2 (by omega)).co;clear hb1 hrd KC
 go_wp2_with fail
 refine Calls.mono KV.out ?_;rintro e w2 ⟨he,hb2⟩;cases hvo:zct (c 0) (c 1) (c 2) with
 | none =>
   rw [hvo] at he;obtain rfl:e=.returned (.tuple #[.agg #[.slice none 0 0,.int .i64 0],.iface 90 (.int .i64 4)]):=he;have HE:Hid (∀ w',Below w2.heap.size w2 w'→zly lo N w P D (.returned (.tuple #[.pointer none,.int .i64 0,.iface 90 (.int .i64 4)])) w'):=fun w' hb'=>⟨s,c,w1,HB1.out,fun i hi=>(HRD.out i hi).lower HB0.out.size,.inl ⟨hvo,rfl,(HB1.out.trans (hb2.mono HB1.out.size)).trans (hb'.mono (Nat.le_trans HB1.out.size hb2.size))⟩⟩
   clear hb2 hvo KV;go_wp2
   try simp only [Exit.inBlock,Exit.then]
   refine bodyPost_ret (v:=.tuple #[.pointer none,.int .i64 0,.iface 90 (.int .i64 4)]) (by simp [results,Tryz.results12,go_sem]) rfl (HE.out _ ((Below.refl _ _).alloc (Nat.le_refl _) _))
 | some v =>
   rw [hvo] at he;obtain ⟨a,cap,rfl,hsl,B,how⟩:=he;have HVO:Hid (zct (c 0) (c 1) (c 2)=some v):=hvo;clear hvo KV
   go_upto_region 4 with fail
   obtain ⟨W5,hW5⟩:∃ x,x=w2.alloc (.cells #[.slice a v.l.length cap,.int .i64 v.t] 32):=⟨_,rfl⟩
   have hq5:QBox W5 w2.heap.size (.slice a v.l.length cap) v.t:=by rw [hW5];exact QBox.new w2 _ _ _
   have hb5:Below w2.heap.size w2 W5:=by rw [hW5];exact (Below.refl _ _).alloc (Nat.le_refl _) _
   have hb15:Below w1.heap.size w1 W5:=hb2.trans (hb5.mono hb2.size);have hd5:W5.heap[w.heap.size]?=some (.cells #[dptr (P 0),dptr (P 1),dptr (P 2)] 26 (0,0)):=((HBW.out.trans (hb15.mono HBW.out.size)).block _ HBW1.out).trans HDB.out;have d0:W5.cell? ⟨w.heap.size,0,none⟩=some (dptr (P 0)):=by rw [zaa hd5];rfl
   have d1:W5.cell? ⟨w.heap.size,1,none⟩=some (dptr (P 1)):=by rw [zaa hd5];rfl
   have d2:W5.cell? ⟨w.heap.size,2,none⟩=some (dptr (P 2)):=by rw [zaa hd5];rfl
   obtain ⟨q0,q1,-,-,ql,-⟩:=hq5;rw [← hW5];clear hW5;obtain ⟨W6,hW6⟩:∃ x,x=W5.alloc (.cells #[dptr (P 0),dptr (P 1),dptr (P 2),.pointer none,.pointer none,.pointer none,.slice a v.l.length cap,.int .i64 v.t] 72):=⟨_,rfl⟩
   have hb6:Below W5.heap.size W5 W6:=by rw [hW6];exact (Below.refl _ _).alloc (Nat.le_refl _) _
   have ht6:zaQ W6 W5.heap.size P (fun _=>none) a cap v.l v.t:=⟨by rw [hW6];exact World.alloc_heap_new W5 _,((zad.of_owns how).below hb5).below hb6⟩
   have hgd:zau v.l v.t:=by
    obtain ⟨h1,i,hi,h2⟩:=zr4 HVO.out;subst h2;exact ((HRD.out i hi).good h1).1
   have hw2:Below w.heap.size w w2:=HB1.out.trans (hb2.mono HB1.out.size);have hw5:Below w.heap.size w W5:=hw2.trans (hb5.mono hw2.size);have hw6:Below w.heap.size w W6:=hw5.trans (hb6.mono hw5.size);have HS5:Hid (w.heap.size≤W5.heap.size):=hw5.size;have HW6:Hid (Below w.heap.size w W6):=hw6;have KS:Hid _:=zmp lo N P D W5.heap.size (fun _=>none) a cap v.l v.t W6 (H3.out.below hw6) HF.out hN hN2 (HV.out.go (hw6.mono HLO.out)) (Nat.le_trans HLO.out hw6.size) (Nat.le_trans HLO.out hw5.size) ht6 hgd;clear hb2 hb5 hb15 hd5 how hsl hgd hw2 hw5 hw6 ht6 hb6
   go_wp2_with fail
   rw [← hW6];clear hW6;refine Calls.mono KS.out ?_;rintro e w7 hsay;obtain ⟨P',D',S,s9,c9,v9,rfl,hsc⟩:=hsay;have HE:Hid (zly lo N w P D (.returned (.tuple #[.pointer (some ⟨W5.heap.size,0,none⟩),.int .i64 (za9 (c9 0) (c9 1) (c9 2) (zas a cap v.l v.t)).length,.nilIface])) w7):=⟨s,c,w1,HB1.out,fun i hi=>(HRD.out i hi).lower HB0.out.size,.inr ⟨v,W5.heap.size,_,a,cap,W6,HVO.out,rfl,HW6.out,HS5.out,P',D',S,s9,c9,v9,rfl,hsc⟩⟩;clear hsc KS;go_wp2
   try simp only [Exit.inBlock,Exit.then]
   refine bodyPost_ret (v:=.tuple #[.pointer (some ⟨W5.heap.size,0,none⟩),.int .i64 (za9 (c9 0) (c9 1) (c9 2) (zas a cap v.l v.t)).length,.nilIface]) (by simp [results,Tryz.results12,go_sem]) rfl HE.out
theorem zrC {α:Type} [BEq α] [LawfulBEq α]:∀ (a b:List α),a.Pairwise (fun x y=>x≠y)→(∀ x ∈ a,x ∈ b)→a.length≤b.length
 | [],b,_,_=>Nat.zero_le _
 | x :: a,b,hp,hm=>by
   have hx:=hm x (List.mem_cons_self ..);have hp':=List.pairwise_cons.1 hp;have ih:=zrC a (b.erase x) hp'.2 (fun y hy=>(List.mem_erase_of_ne (fun e=>hp'.1 y hy e.symm)).2 (hm y (List.mem_cons_of_mem _ hy)));rw [List.length_erase_of_mem hx] at ih;have:0<b.length:=List.length_pos_of_mem hx;simp only [List.length_cons];omega
theorem above {a b:List Ch}{k:ByteArray}(ha:∀ x ∈ a,ltB k x.key=true)(hb:∀ y ∈ b,ltB k y.key=true):∀ c ∈ chg a b,ltB k c.key=true:=fun c hc=>by
 rcases zer hc with ⟨x,hx,e,_⟩ | hy
 · rw [← e];exact ha x hx
 · exact hb c hy
theorem zge {y:Ch}{b:List Ch}{k:ByteArray}(hy:ltB k y.key=true)(hb:zaY (y :: b)):∀ z ∈ y :: b,ltB k z.key=true:=fun z hz=>by
 rcases List.mem_cons.1 hz with rfl | hz
 · exact hy
 · exact zcZ hy (hb.head z hz)
theorem zga:∀ {a b:List Ch},zaY a→zaY b→(chg a b).Pairwise (fun x y=>ltB x.key y.key=true)
 | [],[],_,_=>by rw [chg];exact List.Pairwise.nil
 | x :: a,[],ha,hb=>by
   rw [chg];exact List.pairwise_cons.2 ⟨above (k:=x.key) ha.head (fun y hy=>by cases hy),zga ha.tail hb⟩
 | [],y :: b,ha,hb=>by
   rw [chg];exact List.pairwise_cons.2 ⟨above (fun x hx=>by cases hx) hb.head,zga ha hb.tail⟩
 | x :: a,y :: b,ha,hb=>by
   rw [chg]
   by_cases hl:ltB x.key y.key=true
   · rw [if_pos hl]
     exact List.pairwise_cons.2 ⟨above (k:=x.key) ha.head (zge hl hb),zga ha.tail hb⟩
   · rw [if_neg hl]
     by_cases hg:ltB y.key x.key=true
     · rw [if_pos hg]
       exact List.pairwise_cons.2 ⟨above (zge hg ha) hb.head,zga ha hb.tail⟩
     · rw [if_neg hg]
       have hxy:x.key=y.key:=zdu (by simpa using hl) (by simpa using hg);have ih:=zga ha.tail hb.tail
       by_cases he:eqCh x y=true
       · rw [if_pos he]
         exact ih
       · rw [if_neg he]
         exact List.pairwise_cons.2 ⟨above (fun z hz=>by rw [← hxy];exact ha.head z hz) hb.head,ih⟩
termination_by a b=>a.length+b.length
theorem zea {x:Ch}{a:List Ch}{k:ByteArray}(h:ltB x.key k=true):look (x :: a) k=look a k:=by
 rw [zd6,if_neg (fun e=>by rw [zav.1 e,zaB] at h;cases h)]
theorem zc2:∀ {a b:List Ch},zaY a→zaY b→∀ c ∈ chg a b,look a c.key≠look b c.key
 | [],[],_,_,c,hc=>by rw [chg] at hc;cases hc
 | x :: a,[],ha,hb,c,hc=>by
   rw [chg] at hc;rcases List.mem_cons.1 hc with rfl | hc
   · have e:look (x :: a) x.key=some x:=ha.look_head
     show look (x :: a) x.key≠_;rw [e];exact fun h=>by cases h
   · have hk:=above (k:=x.key) ha.head (fun y hy=>by cases hy) c hc
     rw [zea hk];exact zc2 ha.tail hb c hc
 | [],y :: b,ha,hb,c,hc=>by
   rw [chg] at hc;rcases List.mem_cons.1 hc with rfl | hc
   · rw [hb.look_head]
     exact fun h=>by cases h
   · have hk:=above (k:=y.key) (fun x hx=>by cases hx) hb.head c hc
     rw [zea hk];exact zc2 ha hb.tail c hc
 | x :: a, y :: b,ha,hb,c,hc=>by
   rw [chg] at hc
   by_cases hl:ltB x.key y.key=true
   · rw [if_pos hl] at hc
     rcases List.mem_cons.1 hc with rfl | hc
     · show look (x :: a) x.key≠look (y :: b) x.key
       rw [ha.look_head,hb.look_lt hl];exact fun h=>by cases h
     · have hk:=above (k:=x.key) ha.head (zge hl hb) c hc
       rw [zea hk];exact zc2 ha.tail hb c hc
   · rw [if_neg hl] at hc
     by_cases hg:ltB y.key x.key=true
     · rw [if_pos hg] at hc
       rcases List.mem_cons.1 hc with rfl | hc
       · rw [hb.look_head,ha.look_lt hg]
         exact fun h=>by cases h
       · have hk:=above (zge hg ha) hb.head c hc
         rw [zea (x:=y) hk];exact zc2 ha hb.tail c hc
     · rw [if_neg hg] at hc
       have hxy:x.key=y.key:=zdu (by simpa using hl) (by simpa using hg);rcases List.mem_append.1 hc with hc | hc
       · by_cases he:eqCh x y=true
         · rw [if_pos he] at hc;cases hc
         · rw [if_neg he] at hc
           rw [List.mem_singleton.1 hc,hb.look_head,← hxy,ha.look_head];intro h;exact he ((zgn _ _).2 (Option.some.inj h))
       · have hk:=above (k:=y.key) (fun z hz=>by rw [← hxy];exact ha.head z hz) hb.head c hc
         rw [zea (x:=y) hk,zea (x:=x) (by rw [hxy];exact hk)];exact zc2 ha.tail hb.tail c hc
termination_by a b=>a.length+b.length
theorem zur {a b:List Ch}(ha:zaY a)(hb:zaY b)(K:List (List UInt8))(h:∀ k:ByteArray,look a k≠look b k→k.data.toList ∈ K):(chg a b).length≤K.length:=by
 have:=zrC ((chg a b).map (fun c=>c.key.data.toList)) K (by
  rw [List.pairwise_map];refine (zga ha hb).imp (fun {x y} hxy e=>?_);rw [zpL e,zaB] at hxy;cases hxy) (fun x hx=>by
  obtain ⟨c,hc,rfl⟩:=List.mem_map.1 hx;exact h c.key (zc2 ha hb c hc))
 simpa using this
theorem zaY.look_of (h:zaY L){c:Ch}(hc:c ∈ L):look L c.key=some c:=by
 induction L with
 | nil=>cases hc
 | cons x r ih =>
   rcases List.mem_cons.1 hc with rfl | hc
   · exact h.look_head
   · rw [zea (h.head c hc)]
     exact ih h.tail hc
theorem zs4 {k:ByteArray}{c:Ch}(h:look L k=some c):c ∈ L∧c.key=k:=by
 unfold look at h;exact ⟨List.mem_of_find?_eq_some h,zav.1 (List.find?_some h)⟩
theorem zq0 {k:ByteArray}{c:Ch}(h:look (zaw l t) k=some c):(∃ f ∈ l,c=frow f∧k=kf ++ f.n)∨(c=trow t∧k=zjr):=by
 obtain ⟨h1,h2⟩:=zs4 h;unfold zaw at h1;rcases List.mem_append.1 h1 with h3 | h3
 · obtain ⟨f,hf,rfl⟩:=List.mem_map.1 h3
   exact .inl ⟨f,hf,rfl,h2.symm⟩
 · have e:=List.mem_singleton.1 h3
   subst e;exact .inr ⟨rfl,h2.symm⟩
theorem zsV {t u:Int}(hl:zau l t)(hm:zau m u){a b:ByteArray}(h:∀ n,¬ n=a→¬ n=b→getF m n=getF l n):(chg (zaw l t) (zaw m u)).length≤3:=by
 refine zur hl.rowed hm.rowed [zjr.data.toList,(kf ++ a).data.toList,(kf ++ b).data.toList] (fun k hk=>?_)
 by_cases h1:k=zjr
 · rw [h1];simp
 by_cases h2:k=kf ++ a
 · rw [h2];simp
 by_cases h3:k=kf ++ b
 · rw [h3];simp
 exfalso
 apply hk
 have one:∀ {l m:List Fi} {t u:Int},zau l t→zau m u→(∀ n,¬ n=a→¬ n=b→getF m n=getF l n)→∀ c,look (zaw l t) k=some c→look (zaw m u) k=some c:=by
  intro l m t u hl hm h c hc;rcases zq0 hc with ⟨f,hf,rfl,e⟩ | ⟨_,e⟩
  · have hn:=h f.n (fun e2=>h2 (by rw [e,e2])) (fun e2=>h3 (by rw [e,e2]))
    have hg:getF l f.n=some f:=hl.files.get_iff.2 ⟨hf,rfl⟩;rw [hg] at hn;obtain ⟨hfm,_⟩:=zbh hn;have hin:frow f ∈ zaw m u:=List.mem_append_left _ (List.mem_map_of_mem hfm);have:=hm.rowed.look_of hin;rw [e];exact this
  · exact absurd e h1
 cases e1:look (zaw l t) k with
 | some c=>exact (one hl hm h c e1).symm
 | none =>
   cases e2:look (zaw m u) k with
   | none=>rfl
   | some c =>
     have:=one hm hl (fun n h4 h5=>(h n h4 h5).symm) c e2;rw [e1] at this
     cases this
theorem ztj {x:Ac} (hq:zau l t) (h0:(doR l t x).n=0):∀ n,¬ n=x.s→¬ n=x.t→getF (doR l t x).l n=getF l n:=by
 intro n hs ht;unfold doR at h0 ⊢
 split
 · rename_i hk
   rw [if_pos hk] at h0;exact (zqV hq h0).2.2 n hs
 · rename_i hk
   rw [if_neg hk] at h0
   split
   · rename_i hk2
     rw [if_pos hk2] at h0;obtain ⟨hh,e⟩:=zpS h0;rw [e];exact zgH hq.files hh hs
   · rename_i hk2
     rw [if_neg hk2] at h0
     split
     · rename_i hk3
       rw [if_pos hk3] at h0;obtain ⟨f,hf,_,_,hab,hg,e⟩:=zo5 hq h0;rw [e];have hh:=zeF hq.files hf;rw [zbp (zdZ hq.files x.s) hg ht];exact zgH hq.files hh hs
     · rename_i hk3
       rw [if_neg hk3] at h0
       split
       · rename_i hk4
         rw [if_pos hk4] at h0;obtain ⟨f,g,hf,hg,hf9,hg9,e⟩:=zsB h0;rw [e]
         by_cases hab:x.s=x.t
         · simp only [if_pos hab]
         · simp only [if_neg hab]
           obtain ⟨hfm,hfn⟩:=zbh hf;obtain ⟨hgm,hgn⟩:=zbh hg;obtain ⟨f1,f2,f3,f4⟩:=zdN (hq.files.each f hfm);obtain ⟨g1,g2,g3,g4⟩:=zdN (hq.files.each g hgm)
           have q1:Good (putF l ⟨x.s,g.t,f.k+1⟩):=zfe hq.files (ziR (by rw [← hfn];exact f1) g2 (by show 1≤f.k+1;omega) (by show f.k+1≤9999;omega)) (fun hh=>by
            have:=zeF hq.files hf;rw [show (⟨x.s,g.t,f.k+1⟩:Fi).n=x.s from rfl,this] at hh;cases hh)
           have hgb:getF (putF l ⟨x.s,g.t,f.k+1⟩) x.t=some g:=by rw [zbp hq.files q1 (fun e=>hab e.symm)];exact hg
           have q2:Good (putF (putF l ⟨x.s,g.t,f.k+1⟩) ⟨x.t,f.t,g.k+1⟩):=zfe q1 (ziR (by rw [← hgn];exact g1) f2 (by show 1≤g.k+1;omega) (by show g.k+1≤9999;omega)) (fun hh=>by
            have:=zeF q1 hgb;rw [show (⟨x.t,f.t,g.k+1⟩:Fi).n=x.t from rfl,this] at hh;cases hh)
           show getF (putF (putF l ⟨x.s,g.t,f.k+1⟩) ⟨x.t,f.t,g.k+1⟩) n=_;rw [zbp q1 q2 ht,zbp hq.files q1 hs]
       · rfl
theorem zqI {x:Ac}(hq:zau l t)(h0:(doR l t x).n=0)(hr:zau (doR l t x).l (doR l t x).t):(chg (zaw l t) (zaw (doR l t x).l (doR l t x).t)).length≤3:=zsV hq hr (ztj hq h0)
structure Mem (w:World)(lo N:Nat)(p:Dp)(d:Dk)(R:List Ch)(b:Nat)(s:St)(g:Lg):Prop where
 own:zag w lo b s g
 dB:s.dB=p.B
 gf:g=⟨p.B,26,N - 26,zaf d s.side,g.used⟩
 used:g.used≤N - 26
 sd:s.side≤1
 rows:s.rows=R
def zgT (w:World)(lo N:Nat)(p:Dp)(d:Dk)(R:List Ch)(o:Option Nat):Prop:=∃ b s g,o=some b∧Mem w lo N p d R b s g
theorem zag.keepT {s:St}(h:zag w lo b s g)(hb:w'.heap[b]?=w.heap[b]?)(hl:w'.heap[s.lb]?=w.heap[s.lb]?)(hk:∀ (k:Nat) (C:Array Value) (fr:Nat × Nat),w.heap[k]?=some (.cells C 143 fr)→w'.heap[k]?=w.heap[k]?):zag w' lo b s g:=by
 have ho:zan w' lo (.slice s.ra s.rows.length s.rc) s.rows:=zaj h.own (fun k e=>by
  obtain ⟨C,f,e⟩:=Lib.ownsRow_kind h.own k e;exact hk _ _ _ e)
 refine ⟨⟨hb.trans h.at'.blk,zan.slice ho⟩,ho,?_,h.low⟩;have h2:=h.log;unfold zba at h2 ⊢;exact hl.trans h2
theorem ziZ (hd:zab w p d)(hk:w.heap[k]?=some (.cells C T fr))(hT:T≠78∧T≠84∧T≠86):¬ dOwn p k:=fun ho=>by
 obtain ⟨C',T',fr',e,hT'⟩:=hd.kind ho;rw [hk] at e;simp at e;rcases hT' with e' | e' | e'
 · exact hT.1 (by rw [e.2.1,e'])
 · exact hT.2.1 (by rw [e.2.1,e'])
 · exact hT.2.2 (by rw [e.2.1,e'])
theorem zag.other {s s':St}(h:zag w lo b s g)(h':zag w lo b' s' g')(hd:zab w p d)(hdB:s.dB≠s'.dB)(hgB:g.dB≠g'.dB)(ht:zat (fun k=>(dOwn p k∨k=b')∨k=s'.lb) w w'):zag w' lo b s g:=by
 have hl:=h.log;have hl':=h'.log;unfold zba at hl hl';refine h.keepT (ht.block _ (Array.getElem?_eq_some_iff.1 h.at'.blk).1 (fun hs=>?_)) (ht.block _ (Array.getElem?_eq_some_iff.1 hl).1 (fun hs=>?_)) (fun k C fr e=>ht.block _ (Array.getElem?_eq_some_iff.1 e).1 (fun hs=>?_))
 · rcases hs with (hs | hs) | hs
   · exact ziZ hd h.at'.blk ⟨by decide,by decide,by decide⟩ hs
   · have e:=h.at'.blk
     rw [hs,h'.at'.blk] at e;simp at e
     all_goals exact hdB e.1.symm
   · have e:=h.at'.blk
     rw [hs,hl'] at e;simp at e
 · rcases hs with (hs | hs) | hs
   · exact ziZ hd hl ⟨by decide,by decide,by decide⟩ hs
   · rw [hs,h'.at'.blk] at hl
     simp at hl
   · rw [hs,hl'] at hl
     simp at hl
     all_goals exact hgB hl.1.symm
 · rcases hs with (hs | hs) | hs
   · exact ziZ hd e ⟨by decide,by decide,by decide⟩ hs
   · rw [hs,h'.at'.blk] at e
     simp at e
   · rw [hs,hl'] at e
     simp at e
theorem zgT.touch (h:zgT w lo N p d R o)(hd:zab w q e)(ht:zat (dOwn q) w w'):zgT w' lo N p d R o:=by
 obtain ⟨b,s,g,h1,h2⟩:=h;exact ⟨b,s,g,h1,⟨h2.own.touch hd ht,h2.dB,h2.gf,h2.used,h2.sd,h2.rows⟩⟩
theorem zgT.far (h:zgT w lo N p d R o)(hk:∀ (k:Nat) (C:Array Value) (T:TypeId) (fr:Nat × Nat),w.heap[k]?=some (.cells C T fr)→zcD T→w'.heap[k]?=w.heap[k]?):zgT w' lo N p d R o:=by
 obtain ⟨b,s,g,h1,h2⟩:=h;exact ⟨b,s,g,h1,⟨h2.own.far hk,h2.dB,h2.gf,h2.used,h2.sd,h2.rows⟩⟩
theorem zgT.below (h:zgT w lo N p d R o)(hb:Below w.heap.size w w'):zgT w' lo N p d R o :=
 h.far (fun k C T fr e _=>hb.block k (Array.getElem?_eq_some_iff.1 e).1)
theorem zgT.turn (h:zgT w lo N p d R o)(hB:q.B=p.B)(hl:e.now.length=d.now.length):zgT w lo N q e R o:=by
 obtain ⟨b,s,g,h1,h2⟩:=h;exact ⟨b,s,g,h1,⟨h2.own,by rw [hB];exact h2.dB,by rw [hB,zbA (d:=d) (d':=e) hl];exact h2.gf,h2.used,h2.sd,h2.rows⟩⟩
theorem StOk.mem (h:StOk w lo N p d R o)(hN:42≤N):zgT w lo N p d R o:=by
 obtain ⟨b,s,g,h1,h2,h3,h4,h5,h6⟩:=h;exact ⟨b,s,g,h1,⟨h2,h3,h4,h5.used hN,h5.sd,h6.1⟩⟩
theorem zkL (hl:d.now.length=N)(hs:side≤1)(h:zc3 d=some (side,rows,used)):zqt N d.now side used rows:=by
 unfold zc3 at h;have e1:zew (whOf d)=zew (whOf (dk d.now)):=rfl;cases hx:zew (whOf d) with
 | none=>rw [hx] at h;cases h
 | some y =>
   obtain ⟨sd,r0⟩:=y;rw [hx] at h;simp only at h;cases hf:za6 r0 (zbg d sd).1 with
   | none=>rw [hf] at h;cases h
   | some r =>
     rw [hf] at h;simp at h;obtain ⟨rfl,rfl,rfl⟩:=h;exact ⟨hl,hs,r0,(zbg d sd).1,by rw [← e1];exact hx,rfl,hf⟩
theorem zuJ (hN:42≤N)(hlo:lo≤lo2)(hg:zau l t)(hlen:∀ i,i<3→(D i).now.length=N)
 (hr:∀ i,i<3→RdOk w lo2 (P i) (D i) (s i) (c i)) (hm:∀ i,i<3→zgT w lo N (P i) (D i) (zaw l t) (so i)) :
 ∀ i,i<3→∃ b st g,mixS (za9 (c 0) (c 1) (c 2) (zas a cap l t)) s so 3 i=some b∧Mem w lo N (P i) (D i) (zaw l t) b st g∧Says (D i) (zaw l t) st g:=by
 intro i hi;unfold mixS
 by_cases hw:(za9 (c 0) (c 1) (c 2) (zas a cap l t)).contains (i:Int)=true
 · rw [if_neg (by rw [hw];simp)]
   obtain ⟨b,st,g,h1,h2⟩:=hm i hi;refine ⟨b,st,g,h1,h2,fun side used ho=>absurd ?_ ((zdg hi).1 hw)⟩;rcases hr i hi with ⟨hno,_,_⟩ | ⟨b,sd,rows,us,ra,rc,lb,va,vc,k1,k2,k3,k4,k5,k6,k7,k8,k9⟩
   · rw [ho] at hno;cases hno
   · rw [ho] at k1
     simp at k1;obtain ⟨_,e2,_⟩:=k1;subst e2;have hi2:=zgl (rows:=zaw l t) (l:=l) (t:=t) ⟨hg,rfl⟩;rw [k8,hi2];exact ⟨by simp,rfl,rfl⟩
 · have hw2:(za9 (c 0) (c 1) (c 2) (zas a cap l t)).contains (i:Int)=false:=by simpa using hw
   rw [if_pos ⟨hi,hw2⟩]
   have hq:IsQ (c i) l t:=by
    by_cases h:IsQ (c i) l t
    · exact h
    · exact absurd ((zdg (a:=a) (cap:=cap) hi).2 h) hw
   obtain ⟨hgq,sd0,rows0,us0,ho0,him⟩:=(hr i hi).good hq.1;rw [hq.2.1,hq.2.2] at him;have hrows:rows0=zaw l t:=him.2;rcases hr i hi with ⟨hno,_,_⟩ | ⟨b,sd,rows,us,ra,rc,lb,va,vc,k1,k2,k3,k4,k5,k6,k7,k8,k9⟩
   · rw [ho0] at hno;cases hno
   · have e:=k1
     rw [ho0] at e;simp at e;obtain ⟨e1,e2,e3⟩:=e;subst e1 e2 e3;have hkg:=zkL (hlen i hi) k2 k1;rw [hlen i hi] at k7;refine ⟨b,_,_,k6,⟨k7.lower hlo,rfl,rfl,hkg.usedLe hN,k2,hrows⟩,fun side used ho=>?_⟩;rw [k1] at ho;simp at ho;exact ⟨ho.1,ho.2.2⟩
theorem zn1 (d:Dk)(s:St)(g:Lg)(c:List Ch):(zai d s g c).g.dB=g.dB:=by
 have ha:∀ (g:Lg) (d:Dk),(addG g d c).dB=g.dB:=fun g d=>by unfold addG;split <;> rfl
 have hA:∀ (d:Dk) (sd:Nat) (g:Lg) (r:List Ch),(addC d sd g r c).g.dB=g.dB:=fun d sd g r=>by
  unfold addC
  split
  · exact ha _ _
  · exact ha _ _
 unfold zai
 split
 · rfl
 split
 · rfl
 split
 · rfl
 split
 · split
   · rw [hA];rfl
   · rfl
 · exact hA _ _ _ _
structure Com (lo N:Nat)(w wr:World)(P P':Nat→Dp)(D D':Nat→Dk)(tb:Nat)(so:Nat→Option Nat)(a:Option Addr)(cap:Nat)(l:List Fi)(t:Int)(l2:List Fi)(a2:Option Addr)(cap2:Nat)
 (B:Nat→Nat) (S:Nat→St) (G:Nat→Lg) (ca:Option Addr) (c:List Ch) (k:Nat):Prop where
 three:zcH lo wr P' D'
 same:∀ i,i<3→(P' i).B=(P i).B
 trio:zaQ wr tb P so a cap l t
 next:zad wr a2 cap2 l2
 done:∀ i,i<3→i<k→(zai (D i) (S i) (G i) c).e=0∧D' i=(zai (D i) (S i) (G i) c).d∧∃ ra rc lb,zag wr lo (B i) ⟨(P i).B,(zai (D i) (S i) (G i) c).side,ra,rc,(zai (D i) (S i) (G i) c).rows,lb⟩ (zai (D i) (S i) (G i) c).g
 rest:∀ i,i<3→k≤i→D' i=D i∧P' i=P i∧zag wr lo (B i) (S i) (G i)
 chg:Deed lo wr ca c
 vars:zbF lo wr
 size:w.heap.size≤wr.heap.size
 lets:Let w wr
 bel:Below lo w wr
 far:LetT w wr
 new:∀ i,i<3→∀ b,(P' i).wv.ownBlock=some b→(P i).wv.ownBlock=some b∨w.heap.size≤b
theorem zsO (h:zaQ w tb P s a cap l t)(hl:Let w w'):zaQ w' tb P s a cap l t :=
 ⟨(hl _ _ _ _ h.blk ⟨by decide,by decide,by decide,by decide,by decide⟩).trans h.blk,h.files.keep (fun k C fr e=>hl _ _ _ _ e ⟨by decide,by decide,by decide,by decide,by decide⟩)⟩
theorem zrx (h:zad w a cap l)(hl:Let w w'):zad w' a cap l :=
 h.keep (fun k C fr e=>hl _ _ _ _ e ⟨by decide,by decide,by decide,by decide,by decide⟩)
theorem Com.step
 {B:Nat→Nat} {S:Nat→St} {G:Nat→Lg} {ca:Option Addr} {c:List Ch} {k:Nat} {e:Ending} (h:Com lo N w wr P P' D D' tb so a cap l t l2 a2 cap2 B S G ca c k) (hk:k<3) (hlo:lo≤wr.heap.size) (hS:∀ i,i<3→(S i).dB=(P i).B∧(G i).dB=(P i).B) (hwr:(D k).wr=[])
 (hcs:zgk wr lo (B k) (P k) (D k) (S k) (G k) c e w3) :
 ∃ P2,zcH lo w3 P2 (upd D' k (zai (D k) (S k) (G k) c).d)∧(∀ i,i<3→(P2 i).B=(P i).B)∧zbF lo w3∧Below lo wr w3∧LetT wr w3∧(∀ i,i<3→∀ b,(P2 i).wv.ownBlock=some b→(P i).wv.ownBlock=some b∨w.heap.size≤b) ∧
   ((zai (D k) (S k) (G k) c).e=0→Com lo N w w3 P P2 D (upd D' k (zai (D k) (S k) (G k) c).d) tb so a cap l t l2 a2 cap2 B S G ca c (k+1)):=by
 obtain ⟨rfl,u,lb,ra,rc,hd,hn,ht,ho⟩:=hcs;obtain ⟨r1,r2,r3⟩:=h.rest k hk (Nat.le_refl _);have hdk:zab wr (P k) (D k):=by have:=h.three.disk k hk;rw [r1,r2] at this;exact this
 have hlk:lo≤(P k).lo:=by have:=h.three.lo k hk;rw [r2] at this;exact this
 have hlet:=ztZ hdk r3 ht
 have hpB:∀ i j,i<3→j<3→i≠j→(P i).B≠(P j).B:=fun i j hi hj hij e=>by
  refine h.three.apart i j hi hj hij (P' i).B (.inl rfl) (.inl ?_);rw [h.same i hi,h.same j hj,e]
 have hstep:zcH lo w3 (upd P' k { P' k with wv:=u }) (upd D' k (zai (D k) (S k) (G k) c).d):=by
  refine h.three.step hk ?_ ?_ ht (fun j hj=>?_)
  · rw [r2];exact hd
  · rw [r2];exact hn
  · rcases hj with (hj | hj) | hj
    · exact .inl (by rw [r2];exact hj)
    · refine .inr ?_
      rw [hj];exact h.three.none r3.at'.blk ⟨by decide,by decide,by decide⟩
    · refine .inr ?_
      have hl:=r3.log;unfold zba at hl;rw [hj];exact h.three.none hl ⟨by decide,by decide,by decide⟩
 have hbel:Below lo wr w3:=ht.below (fun j hj=>by
  rcases hj with (hj | hj) | hj
  · exact Nat.le_trans hlk (zd7 hdk j hj)
  · rw [hj];exact r3.low.1
  · rw [hj];exact r3.low.2) hlo
 have hsame:∀ i,i<3→(upd P' k { P' k with wv:=u } i).B=(P i).B:=fun i hi=>by
  by_cases ei:i=k
  · subst ei;rw [zay];exact h.same i hi
  · rw [zal _ _ ei];exact h.same i hi
 have hfar:=LetT.of_commit hdk hwr r3 ht
 have hnew:∀ i,i<3→∀ b,(upd P' k { P' k with wv:=u } i).wv.ownBlock=some b→(P i).wv.ownBlock=some b∨w.heap.size≤b:=fun i hi b hb=>by
  by_cases ei:i=k
  · subst ei
    rw [zay] at hb;exact (hn b hb).imp_right (Nat.le_trans h.size)
  · rw [zal _ _ ei] at hb;exact h.new i hi b hb
 refine ⟨upd P' k { P' k with wv:=u },hstep,hsame,h.vars.go hbel,hbel,hfar,hnew,fun h0=>?_⟩;refine ⟨hstep,hsame,zsO h.trio hlet,zrx h.next hlet,fun i hi hik=>?_,fun i hi hik=>?_,h.chg.touch ht (fun j hj=>?_),h.vars.go hbel,Nat.le_trans h.size ht.size,fun j C T fr e hT=>(hlet j C T fr ((h.lets j C T fr e hT).trans e) hT).trans (h.lets j C T fr e hT),h.bel.trans hbel,h.far.trans hfar,hnew⟩
 · by_cases ei:i=k
   · subst ei
     rw [zay];exact ⟨h0,rfl,ra,rc,lb,ho⟩
   · rw [zal _ _ ei]
     obtain ⟨d1,d2,ra',rc',lb',d3⟩:=h.done i hi (by omega);refine ⟨d1,d2,ra',rc',lb',d3.other r3 hdk ?_ ?_ ht⟩
     · show (P i).B≠_
       rw [(hS k hk).1];exact hpB i k hi hk ei
     · rw [zn1,(hS i hi).2,(hS k hk).2];exact hpB i k hi hk ei
 · have ei:¬ i=k:=by omega
   obtain ⟨d1,d2,d3⟩:=h.rest i hi (by omega);rw [zal _ _ ei,zal _ _ ei];refine ⟨d1,d2,d3.other r3 hdk ?_ ?_ ht⟩
   · rw [(hS i hi).1,(hS k hk).1];exact hpB i k hi hk ei
   · rw [(hS i hi).2,(hS k hk).2];exact hpB i k hi hk ei
 · rcases hj with (hj | hj) | hj
   · obtain ⟨C',T',fr',e,hT'⟩:=hdk.kind hj
     refine ⟨Nat.le_trans hlk (zd7 hdk j hj),C',T',fr',e,?_⟩;rcases hT' with rfl | rfl | rfl <;> decide
   · rw [hj]
     exact ⟨r3.low.1,_,_,_,r3.at'.blk,by decide⟩
   · have hl:=r3.log
     unfold zba at hl;rw [hj];exact ⟨r3.low.2,_,_,_,hl,by decide⟩
theorem zaQ.place (h:zaQ w tb P s a cap l t)(hB:∀ i,i<3→(P' i).B=(P i).B):zaQ w tb P' s a cap l t :=
 ⟨by have e:∀ i,i<3→dptr (P' i)=dptr (P i):=fun i hi=>by unfold dptr;rw [hB i hi]
     rw [e 0 (by omega),e 1 (by omega),e 2 (by omega)];exact h.blk,h.files⟩
structure Life (lo N:Nat)(w:World)(P:Nat→Dp)(D:Nat→Dk)(tb:Nat)(so:Nat→Option Nat)(a:Option Addr)(cap:Nat)(l:List Fi)(t:Int):Prop where
 three:zcH lo w P D
 trio:zaQ w tb P so a cap l t
 mem:∀ i,i<3→zgT w lo N (P i) (D i) (zaw l t) (so i)
 good:zau l t
 vars:zbF lo w
 low:lo≤w.heap.size
 tbl:lo≤tb
 up:∀ i,i<3→(D i).down=false∧(D i).wr=[]∧(D i).now.length=N
theorem Life.below (h:Life lo N w P D tb so a cap l t)(hb:Below w.heap.size w w'):Life lo N w' P D tb so a cap l t :=
 ⟨h.three.below hb,h.trio.below hb,fun i hi=>(h.mem i hi).below hb,h.good,h.vars.go (hb.mono h.low),Nat.le_trans h.low hb.size,h.tbl,h.up⟩
theorem zo1 {s:St}{c:List Ch}(hN:42≤N)(hN2:N≤60)(hd:zab wr p d)(hlo:lo≤p.lo)(ho:zag wr lo b s g)(hB:s.dB=p.B)(hg:g=⟨p.B,26,N - 26,zaf d s.side,g.used⟩)(hu:g.used≤N - 26)(hs:s.side≤1)(hR:s.rows=zaw l t)(hq:zau l t)
 (hlen:d.now.length=N) (hwr:d.wr=[]) (hc:Deed lo wr ca c) (hcn:ca=none→cc=0) (hcl:c.length≤100) :
 Calls Tryz.prog 76 #[.pointer (some ⟨b,0,none⟩),.slice ca c.length cc] wr fun e w'=>zgk wr lo b p d s g c e w':=by
 obtain ⟨k1,k2⟩:=zve hg hlen hs hu hN hN2;have hRl:=zbY l t;have h8:=hq.files.few;exact zfQ lo b p d s g ca cc c wr ho hd hlo hB (by rw [hg]) k1 (by rw [hg]) k2 (by rw [hlen,hg]) (by omega) hs (by rw [hR];omega) (by rw [hR];exact hq.rowed) (by rw [hR];exact zeR hq) (by rw [hwr];simp) hc hcn hcl
theorem RdOk.tells {s:Option Nat}{c:Co}(h:RdOk w lo p d s c)(hg:zau l t):IsQ c l t↔zdj d (zaw l t):=by
 constructor
 · intro hq
   obtain ⟨_,sd,rows,us,ho,him⟩:=h.good hq.1;rw [hq.2.1,hq.2.2] at him;rw [him.2] at ho;exact ⟨sd,us,ho⟩
 · rintro ⟨sd,us,ho⟩
   rcases h with ⟨hno,_,_⟩ | ⟨b,side,rows,used,ra,rc,lb,va,vc,k1,k2,k3,k4,k5,k6,k7,k8,k9⟩
   · rw [ho] at hno;cases hno
   · rw [ho] at k1
     simp at k1;obtain ⟨_,e2,_⟩:=k1;subst e2;have hi2:=zgl (rows:=zaw l t) (l:=l) (t:=t) ⟨hg,rfl⟩;rw [k8,hi2];exact ⟨by simp,rfl,rfl⟩
theorem zrN {c:Nat→Co}{a:Option Addr}{cap:Nat}{l:List Fi}{t:Int}{i j:Nat}(hi:i<3)(hj:j<3)(hij:i≠j)(h1:IsQ (c i) l t)(h2:IsQ (c j) l t) :
 (za9 (c 0) (c 1) (c 2) (zas a cap l t)).length≤1∧((za9 (c 0) (c 1) (c 2) (zas a cap l t)).length=0↔∀ k,k<3→IsQ (c k) l t):=by
 have k1:=(zgf (a:=a) (cap:=cap)).2 h1;have k2:=(zgf (a:=a) (cap:=cap)).2 h2
 have hall:(∀ k,k<3→IsQ (c k) l t)↔zaC (c 0) (zas a cap l t)=true∧zaC (c 1) (zas a cap l t)=true∧zaC (c 2) (zas a cap l t)=true:=by
  rw [zgf,zgf,zgf]
  constructor
  · intro h;exact ⟨h 0 (by omega),h 1 (by omega),h 2 (by omega)⟩
  · rintro ⟨x,y,z⟩ k hk
    rcases (show k=0∨k=1∨k=2 by omega) with rfl | rfl | rfl
    · exact x
    · exact y
    · exact z
 rw [hall];unfold za9
 rcases (show i=0∨i=1∨i=2 by omega) with rfl | rfl | rfl <;> rcases (show j=0∨j=1∨j=2 by omega) with rfl | rfl | rfl <;>
  first
  | exact absurd rfl hij
  | (cases h0:zaC (c 0) (zas a cap l t) <;> cases h1':zaC (c 1) (zas a cap l t) <;> cases h2':zaC (c 2) (zas a cap l t) <;> simp_all)
theorem zoc {α:Type}{Q:Nat→α→Prop}(h:∀ i,i<3→∃ x,Q i x):∃ f:Nat→α,∀ i,i<3→Q i (f i):=by
 obtain ⟨x0,h0⟩:=h 0 (by omega);obtain ⟨x1,h1⟩:=h 1 (by omega);obtain ⟨x2,h2⟩:=h 2 (by omega);refine ⟨fun i=>if i=0 then x0 else if i=1 then x1 else x2,fun i hi=>?_⟩;rcases (show i=0∨i=1∨i=2 by omega) with rfl | rfl | rfl
 · exact h0
 · exact h1
 · exact h2
theorem zaQ.stores {s s':Nat→Option Nat}(h:zaQ w tb P s a cap l t)(hs:∀ i,i<3→s i=s' i):zaQ w tb P s' a cap l t :=
 ⟨by rw [← hs 0 (by omega),← hs 1 (by omega),← hs 2 (by omega)];exact h.blk,h.files⟩
theorem zaQ.turn (h:zaQ w tb P s a cap l t)(hf:zad w a2 cap2 l2):zaQ ((w.setCell ⟨tb,6,none⟩ (.slice a2 l2.length cap2)).setCell ⟨tb,7,none⟩ (.int .i64 t2)) tb P s a2 cap2 l2 t2:=by
 refine ⟨?_,hf.keep (fun j C fr e=>?_)⟩
 · have h1:=zaZ h.blk 6 (.slice a2 l2.length cap2)
   have h2:=zaZ h1 7 (.int .i64 t2);exact h2
 · have hne:j≠tb:=fun ej=>by
    rw [ej,h.blk] at e;simp at e
   exact (Below.heap_setCell _ _ _ _ hne).trans (Below.heap_setCell _ _ _ _ hne)
theorem zpQ (h:zaQ w tb P s a cap l t){x y:Value}(k:Nat)(C:Array Value)(T:TypeId)(fr:Nat × Nat)(hk:w.heap[k]?=some (.cells C T fr))(hT:T≠72):((w.setCell ⟨tb,i,none⟩ x).setCell ⟨tb,j,none⟩ y).heap[k]?=w.heap[k]?:=by
 have hne:k≠tb:=fun ej=>by
  rw [ej,h.blk] at hk;simp at hk;exact hT hk.2.1.symm
 exact (Below.heap_setCell _ _ _ _ hne).trans (Below.heap_setCell _ _ _ _ hne)
abbrev zbu (l:List Fi)(t:Int)(r:Res):List Ch:=chg (zaw l t) (zaw r.l r.t)
def zpw (N:Nat)(p:Dp)(d:Dk)(R:List Ch)(s:St)(g:Lg):Prop:=s.rows=R∧s.side≤1∧g.used≤N - 26∧g=⟨p.B,26,N - 26,zaf d s.side,g.used⟩∧Says d R s g
theorem Com.life
 {B:Nat→Nat} {S:Nat→St} {G:Nat→Lg} {ca:Option Addr} (h:Com lo N w wr P P' D D' tb (fun i=>some (B i)) a cap l t r.l a2 cap2 B S G ca (zbu l t r) 3) (hq:zau l t) (hr:zau r.l r.t) (hlo:lo≤w.heap.size) (htb:lo≤tb) (hlen:∀ i,i<3→(D i).now.length=N)
 (hs:∀ i,i<3→zpw N (P i) (D i) (zaw l t) (S i) (G i)) :
 Life lo N ((wr.setCell ⟨tb,6,none⟩ (.slice a2 r.l.length cap2)).setCell ⟨tb,7,none⟩ (.int .i64 r.t)) P' D' tb (fun i=>some (B i)) a2 cap2 r.l r.t:=by
 have did:∀ i,i<3→Did N (S i) (G i) (zbu l t r) (zai (D i) (S i) (G i) (zbu l t r)):=fun i hi=>by
  obtain ⟨h1,h2,h3,h4,h5⟩:=hs i hi;refine zj2 (hlen i hi) ?_ h3 h2 (h.done i hi hi).1;rw [h4]
 refine ⟨h.three.farT (fun k C T fr e hT=>zpQ h.trio k C T fr e (zil (.inl hT))),(h.trio.turn h.next).place h.same,fun i hi=>?_,hr,(h.vars.go ((Below.refl _ _).setCell htb _)).go ((Below.refl _ _).setCell htb _),?_,htb,fun i hi=>?_⟩
 · obtain ⟨h1,h2,h3,h4,h5⟩:=hs i hi
   obtain ⟨d1,d2,ra,rc,lb,d3⟩:=h.done i hi hi;have hd:=did i hi;refine ⟨B i,_,_,rfl,⟨d3.far (fun k C T fr e hT=>zpQ h.trio k C T fr e (zil (.inl hT))),(h.same i hi).symm,?_,hd.used,hd.sd,?_⟩⟩
   · rw [d2,h.same i hi]
     have e:=hd.gf;rw [show (G i).dB=(P i).B by rw [h4]] at e;exact e
   · show (zai (D i) (S i) (G i) (zbu l t r)).rows=_
     rw [hd.rows,h1];exact zgP hq.rowed hr.rowed
 · rw [World.size_setCell,World.size_setCell];exact Nat.le_trans hlo h.size
 · rw [(h.done i hi hi).2.1]
   have hd:=did i hi;exact ⟨hd.clean.up,hd.clean.wr,hd.len⟩
def zja (lo N:Nat) (w:World) (P:Nat→Dp) (D:Nat→Dk) (tb:Nat) (l:List Fi) (t:Int) (r:Res) (e:Ending) (w':World):Prop :=
 (¬ r.n=0∧e=.returned (errV r.n)∧Below w.heap.size w w') ∨
 (r.n = 0∧zau r.l r.t∧(Below lo w w'∧LetT w w')∧∃ (S:Nat→St) (G:Nat→Lg),(∀ i,i<3→zpw N (P i) (D i) (zaw l t) (S i) (G i)) ∧
   ((e=.returned .nilIface∧(∀ i,i<3→(zai (D i) (S i) (G i) (zbu l t r)).e=0)∧∃ P' D' so' a' cap',Life lo N w' P' D' tb so' a' cap' r.l r.t∧(∀ i,i<3→(P' i).B=(P i).B)∧∀ i,i<3→D' i=(zai (D i) (S i) (G i) (zbu l t r)).d) ∨
    (∃ k,k<3∧(∀ i,i<k→(zai (D i) (S i) (G i) (zbu l t r)).e=0)∧¬ (zai (D k) (S k) (G k) (zbu l t r)).e=0∧e=.returned (errV (zai (D k) (S k) (G k) (zbu l t r)).e) ∧
      ∃ P' D',zcH lo w' P' D'∧(∀ i,i<3→(P' i).B=(P i).B)∧zbF lo w'∧(∀ i,i<3→∀ b,(P' i).wv.ownBlock=some b→(P i).wv.ownBlock=some b∨w.heap.size≤b)∧∀ i,i<3→D' i=if i≤k then (zai (D i) (S i) (G i) (zbu l t r)).d else D i)))
theorem zan.deed {c:List Ch}(h:zan w B (.slice ca n cc) c):Deed lo w ca c:=by
 obtain ⟨a,cap,e,hc,hn,hm,hl,hx⟩:=zan.files h;have ea:ca=a:=by injection e
 subst ea;refine ⟨hc,fun x hx hne=>.inr ?_⟩;rcases h.2 with ⟨h1,h0⟩ | ⟨g,cap',cur,h1,_,hg,_⟩
 · exact absurd (List.eq_nil_of_length_eq_zero h0) hne
 · have e2:ca=some ⟨g,0,none⟩:=by injection h1
   rw [hx] at e2;cases e2;exact ⟨_,_,hg⟩
theorem zkK (p q:Addr)(w:World) :
 CallsD Tryz.prog 104 #[.pointer (some p),.pointer (some q)] .returning w fun e u' w'=>e=.returned (.tuple #[])∧u'=.returning∧w'=w:=by
 refine callsD_of_wpS Tryz.func104 rfl fun c₀ cs hu=>?_
 apply wpS_seq
 apply wpS_region
 simp [wpOpsS,go_sem,recoverD,hu,Tryz.ntmps104,Exit.thenS];refine wpS_cond (t:=false) (by simp [Act.eval,Array.replicate]) ?_;simp only [Bool.false_eq_true,if_false];refine wpS_of_wp (wp_skip ?_);cases c₀
 simp_all [bodyPostS,results,Tryz.results104]
theorem zcT (P:Nat→Dp)(tb:Nat)(so:Nat→Option Nat)(a:Option Addr)(cap:Nat)(l:List Fi)(t:Int)(w:World)(ht:zaQ w tb P so a cap l t)(hl:l.length≤100) :
 Calls Tryz.prog 9 #[.pointer (some ⟨tb,0,none⟩)] w fun e w'=>∃ a' cap',e=.returned (.agg #[.slice a' l.length cap',.int .i64 t])∧Owns w' w.heap.size (.slice a' l.length cap') l∧Below w.heap.size w w':=by
 have HT:Hid (zaQ w tb P so a cap l t):=ht;obtain ⟨d0,d1,d2,s0,s1,s2,q0,q1,fr⟩:=ht.cells;have htl:=ht.lt;obtain ⟨W,hW⟩:∃ x,x=w.alloc (.cells #[.slice none 0 0,.int .i64 0] 32):=⟨_,rfl⟩
 have HB0:Hid (Below w.heap.size w W):=by rw [hW];exact (Below.refl _ _).alloc (Nat.le_refl _) _
 have HQ:Hid (QBox W w.heap.size (.slice none 0 0) 0):=by rw [hW];exact QBox.new w _ _ _
 have KC:Hid _:=zcA ⟨true,a,cap,l,t⟩ W ⟨(ht.files.below HB0.out).slice,hl⟩;clear ht fr
 go_enter Tryz.func9,Tryz.ntmps9
 go_wp2_with fail
 rw [← hW];clear hW;refine Calls.mono KC.out ?_;rintro e w1 ⟨a',cap',rfl,ho,hb⟩;have HB1:Hid (Below W.heap.size W w1):=hb;have HO1:Hid (Owns w1 W.heap.size (.slice a' l.length cap') l):=ho;obtain ⟨y0,y1,g0,g1,yl,_⟩:=HQ.out.below hb HQ.out.lt;have HL:Hid (w.heap.size<W.heap.size):=HQ.out.lt;clear ho hb KC;go_wp2
 try simp only [Exit.inBlock,Exit.then]
 refine bodyPost_ret (v:=.agg #[.slice a' l.length cap',.int .i64 t]) (by simp [results,Tryz.results9,go_sem,y0,y1,g0,g1,yl]) rfl ⟨a',cap',rfl,(Owns.over2 HO1.out HL.out _ _).base HB0.out.size,?_⟩;exact ((HB0.out.trans (HB1.out.mono HB0.out.size)).setCell (Nat.le_refl _) _).setCell (Nat.le_refl _) _
theorem QBox.put2 (h:QBox W B v t):QBox ((W.setCell ⟨B,0,none⟩ v').setCell ⟨B,1,none⟩ (.int .i64 t')) B v' t':=h.files.turn
structure EBox (W:World)(B:Nat)(v:Value):Prop where
 blk:W.heap[B]?=some (.cells #[v] 38 (0,0))
theorem EBox.c0 (h:EBox W B v):W.cell? ⟨B,0,none⟩=some v:=by rw [zaa h.blk];rfl
theorem EBox.only (h:EBox W B v):∀ o,2≤o→W.cell? ⟨B,o,none⟩=none:=fun o ho=>by rw [zaa h.blk];simp;omega
theorem EBox.f0 (h:EBox W B v):W.frozen? ⟨B,0,none⟩=false:=by have:=h.blk;simp [World.frozen?,this]
theorem EBox.lt (h:EBox W B v):B<W.heap.size:=(Array.getElem?_eq_some_iff.1 h.blk).1
theorem EBox.put (h:EBox W B v):EBox (W.setCell ⟨B,0,none⟩ u) B u:=⟨zaZ h.blk 0 u⟩
theorem EBox.apart {B C j:Nat}(h:EBox W B v)(hne:B≠C):EBox (W.setCell ⟨C,j,none⟩ u) B v:=⟨(Below.heap_setCell _ _ _ _ hne).trans h.blk⟩
theorem EBox.below (h:EBox W B v)(hb:Below W.heap.size W W'):EBox W' B v:=⟨(hb.block _ h.lt).trans h.blk⟩
theorem za5.store1 (h:za5 W a cap l)(q:∀ o,2≤o→W.cell? ⟨B,o,none⟩=none)(u:Value):za5 (W.setCell ⟨B,j,none⟩ u) a cap l:=⟨h.cells.store q,h.room,h.most,h.nil⟩
end Go.Proofs.YtihnghnafpgdfadGreatDoor
