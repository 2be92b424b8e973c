/- What the proofs stand on, part 30: VoteOf. -/
import Derived.Deep.Cut
import Derived.Test.YtihnghnafpgdfadGreatDoorSk29
set_option linter.unusedVariables false
set_option linter.unusedSimpArgs false
set_option maxRecDepth 100000
set_option maxHeartbeats 4000000
namespace Go.Proofs.YtihnghnafpgdfadGreatDoor
open Go.RowKit
variable {a w w':World}{B b:Nat}{c g x y z:Co}{v:Value}{l:List Fi}
def noCo:Co:=⟨false,none,0,[],0⟩
def zaV (g c:Co):Co:=if c.is=true∧(g.is=false∨g.t<c.t) then c else g
def zct (x y z:Co):Option Co :=
 if x.is=true∧[y,z].any (zaC x)=true then some x
 else if y.is=true∧[z].any (zaC y)=true then some y
 else if (zaV (zaV (zaV noCo x) y) z).is=true then some (zaV (zaV (zaV noCo x) y) z) else none
def zgv (x y z:Co):Nat→Co
 | 0=>noCo
 | 1=>zaV noCo x
 | 2=>zaV (zaV noCo x) y
 | _=>zaV (zaV (zaV noCo x) y) z
def Lone (x y z:Co)(k:Nat):Prop:=(0<k→¬ (x.is=true∧[y,z].any (zaC x)=true))∧(1<k→¬ (y.is=true∧[z].any (zaC y)=true))
def zu6 (w':World)(o:Option Co)(e:Ending):Prop:=match o with
 | some c=>∃ a cap,e=.returned (.tuple #[.agg #[.slice a c.l.length cap,.int .i64 c.t],.nilIface])∧za5 w' a cap c.l∧∃ B,Owns w' B (.slice a c.l.length cap) c.l
 | none=>e=.returned (.tuple #[.agg #[.slice none 0 0,.int .i64 0],.iface 90 (.int .i64 4)])
structure GBox (w:World)(b:Nat)(x:Co):Prop where
 c0:w.cell? ⟨b,0,none⟩=some (.bool x.is)
 c1:w.cell? ⟨b,1,none⟩=some (.slice x.a x.l.length x.cap)
 c2:w.cell? ⟨b,2,none⟩=some (.int .i64 x.t)
 f0:w.frozen? ⟨b,0,none⟩=false
 f1:w.frozen? ⟨b,1,none⟩=false
 f2:w.frozen? ⟨b,2,none⟩=false
theorem GBox.lt (h:GBox w b x):b<w.heap.size:=World.block_lt_of_cell? _ _ h.c0
theorem GBox.below (h:GBox w b x)(hb:Below w.heap.size w w'):GBox w' b x :=
 ⟨by rw [hb.cell h.lt];exact h.c0,by rw [hb.cell h.lt];exact h.c1,by rw [hb.cell h.lt];exact h.c2,by rw [hb.frozen h.lt];exact h.f0,by rw [hb.frozen h.lt];exact h.f1,by rw [hb.frozen h.lt];exact h.f2⟩
theorem ztx (W:World)(q:Co)(b:Nat)(T:TypeId)(hb:b=W.heap.size):GBox (W.alloc (Obj.cells #[.bool q.is,.slice q.a q.l.length q.cap,.int .i64 q.t] T)) b q:=by
 subst hb;exact ⟨by simp,by simp,by simp,by simp,by simp,by simp⟩
theorem GBox.set (h:GBox w b x)(hc:c.is=true):GBox (((w.setCell ⟨b,0,none⟩ (.bool true)).setCell ⟨b,1,none⟩ (.slice c.a c.l.length c.cap)).setCell ⟨b,2,none⟩ (.int .i64 c.t)) b c:=by
 refine ⟨?_,?_,?_,by simp [h.f0],by simp [h.f1],by simp [h.f2]⟩
 · rw [World.cell?_setCell_other _ _ _ _ (by simp),World.cell?_setCell_other _ _ _ _ (by simp),hc]
   exact World.cell?_setCell_same' _ _ _ (by rw [h.c0];rfl)
 · rw [World.cell?_setCell_other _ _ _ _ (by simp)]
   exact World.cell?_setCell_same' _ _ _ (by rw [World.cell?_setCell_other _ _ _ _ (by simp),h.c1];rfl)
 · exact World.cell?_setCell_same' _ _ _ (by rw [World.cell?_setCell_other _ _ _ _ (by simp),World.cell?_setCell_other _ _ _ _ (by simp),h.c2];rfl)
theorem zdL (h:Below B a w)(hb:B≤b){u v y:Value}:Below B a (((w.setCell ⟨b,0,none⟩ u).setCell ⟨b,1,none⟩ v).setCell ⟨b,2,none⟩ y) :=
 ((h.setCell hb _).setCell hb _).setCell hb _
theorem zsk (W:World)(u v:Value)(T:TypeId)(o:Obj)(b:Nat)(hb:b=W.heap.size):((W.alloc (Obj.cells #[u,v] T)).alloc o).cell? ⟨b,0,none⟩=some u∧((W.alloc (Obj.cells #[u,v] T)).alloc o).cell? ⟨b,1,none⟩=some v∧((W.alloc (Obj.cells #[u,v] T)).alloc o).frozen? ⟨b,0,none⟩=false∧((W.alloc (Obj.cells #[u,v] T)).alloc o).frozen? ⟨b,1,none⟩=false:=by
 subst hb;exact ⟨by simp,by simp,by simp,by simp⟩
theorem Owns.over2 (h:Owns w B v l)(hb:b<B)(u y:Value):Owns ((w.setCell ⟨b,0,none⟩ u).setCell ⟨b,1,none⟩ y) B v l :=
 zsf h fun g hg=>by
  have hge:=(h.lt g hg).1;rw [Below.heap_setCell _ _ _ _ (by show g≠b;omega),Below.heap_setCell _ _ _ _ (by show g≠b;omega)]
theorem zdP (h:c.is=true)(h2:g.is=false∨g.t<c.t):zaV g c=c:=by unfold zaV;rw [if_pos ⟨h,h2⟩]
theorem zhY (h2:¬ (g.is=false∨g.t<c.t)):zaV g c=g:=by unfold zaV;rw [if_neg (fun h=>h2 h.2)]
theorem zgX (h:c.is=false):zaV g c=g:=by unfold zaV;rw [if_neg (fun h2=>by rw [h] at h2;cases h2.1)]
theorem zeN (h1:CoOk w g)(h2:CoOk w c):CoOk w (zaV g c):=by unfold zaV;split <;> assumption
theorem zlt (w:World):CoOk w noCo:=⟨⟨zaF.nil _ _,Nat.zero_le _,Nat.zero_le _,fun _=>rfl⟩,Nat.zero_le _⟩
theorem zsq (h1:CoOk w x)(h2:CoOk w y)(h3:CoOk w z)(k:Nat):CoOk w (zgv x y z k):=by
 unfold zgv
 split
 · exact zlt w
 · exact zeN (zlt w) h1
 · exact zeN (zeN (zlt w) h1) h2
 · exact zeN (zeN (zeN (zlt w) h1) h2) h3
theorem zsU (h:x.is=true∧[y,z].any (zaC x)=true):zct x y z=some x:=by unfold zct;rw [if_pos h]
theorem zsJ (h1:¬ (x.is=true∧[y,z].any (zaC x)=true))(h:y.is=true∧[z].any (zaC y)=true):zct x y z=some y:=by unfold zct;rw [if_neg h1,if_pos h]
theorem zos (h1:¬ (x.is=true∧[y,z].any (zaC x)=true))(h2:¬ (y.is=true∧[z].any (zaC y)=true))(hg:g=zaV (zaV (zaV noCo x) y) z)(h:g.is=true):zct x y z=some g:=by unfold zct;rw [if_neg h1,if_neg h2,← hg,if_pos h]
theorem zn3 (h1:¬ (x.is=true∧[y,z].any (zaC x)=true))(h2:¬ (y.is=true∧[z].any (zaC y)=true))(hg:g=zaV (zaV (zaV noCo x) y) z)(h:g.is=false):zct x y z=none:=by unfold zct;rw [if_neg h1,if_neg h2,← hg,if_neg (by rw [h];simp)]
theorem zsW (h:ze1 w b x y z)(hy:CoOk w y)(hz:CoOk w z):zfH w b 3 [y,z]:=by
 intro i hi;have h2:i=0∨i=1:=by simp at hi;omega
 rcases h2 with rfl | rfl
 · exact ⟨⟨h.y0,h.y1,h.y2⟩,hy⟩
 · exact ⟨⟨h.z0,h.z1,h.z2⟩,hz⟩
theorem zto (h:ze1 w b x y z)(hz:CoOk w z):zfH w b 6 [z]:=by
 intro i hi;have h2:i=0:=by simp at hi;omega
 subst h2;exact ⟨⟨h.z0,h.z1,h.z2⟩,hz⟩
theorem zi6 (W:World)(q:Co)(b:Nat)(T:TypeId)(hb:b=W.heap.size):zeZ (W.alloc (Obj.cells #[.bool q.is,.slice q.a q.l.length q.cap,.int .i64 q.t] T)) b q:=by
 subst hb;exact ⟨by simp,by simp,by simp⟩
theorem zqq (x y z:Co) (w:World) (hx:CoOk w x) (hy:CoOk w y) (hz:CoOk w z) :
 Calls Tryz.prog 30 #[zeS x y z] w fun e w'=>zu6 w' (zct x y z) e∧Below w.heap.size w w':=by
 have HX:Hid (CoOk w x):=hx;have HY:Hid (CoOk w y):=hy;have HZ:Hid (CoOk w z):=hz;clear hx hy hz
 go_enter Tryz.func30,Tryz.ntmps30
 go_wp2_with fail
 obtain ⟨w0,hw0⟩:∃ u,u=(((w.alloc (Obj.cells #[Value.bool x.is,Value.slice x.a x.l.length x.cap,Value.int IntKind.i64 x.t,Value.bool y.is,Value.slice y.a y.l.length y.cap,Value.int IntKind.i64 y.t,Value.bool z.is,Value.slice z.a z.l.length z.cap,Value.int IntKind.i64 z.t] 48)).alloc
  (Obj.cells #[Value.slice none 0 0,Value.int IntKind.i64 0] 32)).alloc (Obj.cells #[Value.bool false,Value.slice none 0 0,Value.int IntKind.i64 0] 47)):=⟨_,rfl⟩
 have HB0:Hid (Below w.heap.size w w0):=by rw [hw0];exact (((Below.refl _ _).alloc (Nat.le_refl _) _).alloc (by simp) _).alloc (by simp;omega) _
 have HZ0:Hid (w0.heap.size=w.heap.size+1+1+1):=by rw [hw0];show _=_;simp
 have HN0:Hid (ze1 w0 w.heap.size x y z):=by
  rw [hw0];exact ((ze1.new w x y z _).below ((Below.refl _ _).alloc (Nat.le_refl _) _) (by simp)).below ((Below.refl _ _).alloc (Nat.le_refl _) _) (by simp;omega)
 have HG0:Hid (GBox w0 (w.heap.size+1+1) noCo):=by
  rw [hw0];exact ztx _ noCo _ _ (by simp)
 have HQ0:Hid (w0.cell? ⟨w.heap.size+1,0,none⟩=some (.slice none 0 0)∧w0.cell? ⟨w.heap.size+1,1,none⟩=some (.int .i64 0)∧w0.frozen? ⟨w.heap.size+1,0,none⟩=false∧w0.frozen? ⟨w.heap.size+1,1,none⟩=false):=by
  rw [hw0];exact zsk _ _ _ _ _ _ (by simp)
 rw [← hw0];clear hw0
 go_loopg [8] 4 (fun kx vi wr=>∃ k:Nat,vi=.int .i64 k∧k≤3∧3 - k≤kx∧Hid (Lone x y z k)∧Hid (GBox wr (w.heap.size+1+1) (zgv x y z k))∧Hid (Below (w.heap.size+1+1) w0 wr))
 case atStart=>exact ⟨0,rfl,by omega,by omega,⟨fun h=>absurd h (Nat.lt_irrefl _),fun h=>absurd h (by omega)⟩,HG0,Below.refl _ _⟩
 case round =>
  obtain ⟨k,rfl,hk,hkx,HL,HG,HB⟩:=hrel;have HBW:Hid (Below w.heap.size w wr):=HB0.out.trans (HB.out.mono (by omega));have hzw:=HZ0.out;have hzs:=HB.out.size;have hzg:=HG.out.lt
  by_cases h0:k=0
  · subst h0
    have hidx:=zps x y z;obtain ⟨g,hg⟩:∃ g,g=zgv x y z 0:=⟨_,rfl⟩
    rw [← hg] at HG;have HGE:Hid (zgv x y z (0+1)=zaV g x):=by show _=_;rw [hg];rfl
    clear hg
    go_upto_region 5 with fail
    obtain ⟨wc,hwc⟩:∃ u,u=wr.alloc (Obj.cells #[Value.bool x.is,Value.slice x.a x.l.length x.cap,Value.int IntKind.i64 x.t] 47):=⟨_,rfl⟩
    have hbx:zeZ wc wr.heap.size x:=by rw [hwc];exact zi6 wr x _ _ rfl
    have hbc:Below wr.heap.size wr wc:=by rw [hwc];exact (Below.refl _ _).alloc (Nat.le_refl _) _
    have HBX:Hid (zeZ wc wr.heap.size x):=hbx;have HGC:Hid (GBox wc (w.heap.size+1+1) g):=HG.out.below hbc;have HBC:Hid (Below (w.heap.size+1+1) w0 wc):=HB.out.trans (hbc.mono (by omega));have HWC:Hid (Below w.heap.size w wc):=HB0.out.trans (HBC.out.mono (by omega));have hlc:wr.heap.size<wc.heap.size:=hbx.lt;rw [← hwc];clear hwc hbc;obtain ⟨b0,b1,b2⟩:=hbx;rcases Bool.eq_false_or_eq_true x.is with hc | hc
    · rw [hc] at b0
      have HIS:Hid (x.is=true):=hc;clear hc;have HCON:Hid _:=zdv x [y,z] wr.heap.size w.heap.size 3 2 wc (by simp) HBX.out (HX.out.below HWC.out) (zsW (HN0.out.below HBC.out (by omega)) (HY.out.below HWC.out) (HZ.out.below HWC.out))
      go_wp2_with fail
      refine Calls.mono HCON.out ?_;rintro _ w2 ⟨rfl,hb2⟩;have HBN:Hid (Below (w.heap.size+1+1) w0 w2):=HBC.out.trans (hb2.mono (by omega));have HW2:Hid (Below w.heap.size w w2):=HB0.out.trans (HBN.out.mono (by omega));have hz2:=hb2.size;have HB2X:Hid (zeZ w2 wr.heap.size x):=HBX.out.below hb2;have HG2:Hid (GBox w2 (w.heap.size+1+1) g):=HGC.out.below hb2;obtain ⟨d0,d1,d2⟩:=HB2X.out;rw [HIS.out] at d0;clear hb2 HCON b0 b1 b2 HBX HGC;cases hany:([y,z]).any (zaC x)
      · have HNO:Hid (¬ (x.is=true∧([y,z]).any (zaC x)=true)):=fun h=>by rw [hany] at h;cases h.2
        clear hany;obtain ⟨g0,g1,g2,gf0,gf1,gf2⟩:=HG2.out;have hlg:w.heap.size+1+1<w2.heap.size:=HG2.out.lt;have hne:w.heap.size+1+1≠wr.heap.size:=by omega
        rcases Bool.eq_false_or_eq_true g.is with hgi | hgi
        · rw [hgi] at g0
          have HGI:Hid (g.is=true):=hgi;clear hgi
          by_cases ht:g.t<x.t
          · have HT:Hid (zaV g x=x):=zdP HIS.out (.inr ht)
            go_wp2
            go_roundg (3 - (0+1))
            case measure=>omega
            case rel=>exact ⟨0+1,by go_num,by omega,Nat.le_refl _,⟨fun _ h=>HNO.out h,fun h=>absurd h (by omega)⟩,(by show GBox _ _ _;rw [HGE.out,HT.out];exact HG2.out.set HIS.out),zdL HBN.out (by omega)⟩
          · have HT:Hid (zaV g x=g):=zhY (by rintro (h | h);rw [HGI.out] at h;cases h;exact ht h)
            go_wp2
            go_roundg (3 - (0+1))
            case measure=>omega
            case rel=>exact ⟨0+1,by go_num,by omega,Nat.le_refl _,⟨fun _ h=>HNO.out h,fun h=>absurd h (by omega)⟩,(by show GBox _ _ _;rw [HGE.out,HT.out];exact HG2.out),HBN.out⟩
        · rw [hgi] at g0
          have HT:Hid (zaV g x=x):=zdP HIS.out (.inl hgi);clear hgi;go_wp2
          go_roundg (3 - (0+1))
          case measure=>omega
          case rel=>exact ⟨0+1,by go_num,by omega,Nat.le_refl _,⟨fun _ h=>HNO.out h,fun h=>absurd h (by omega)⟩,(by show GBox _ _ _;rw [HGE.out,HT.out];exact HG2.out.set HIS.out),zdL HBN.out (by omega)⟩
      · have hany':Hid _:=hany
        clear hany';have HV:Hid (zct x y z=some x):=zsU ⟨HIS.out,hany⟩;have HOK:Hid (CoOk w2 x):=HX.out.below HW2.out;clear hany
        go_wp2_with fail
        refine Calls.mono (zcA x w2 HOK.out) ?_;rintro _ w4 ⟨a4,cap4,rfl,ho4,hb4⟩;have HO4:Hid (Owns w4 w2.heap.size (.slice a4 x.l.length cap4) x.l):=ho4;have hz4:=hb4.size;have HB4:Hid (Below (w.heap.size+1+1) w0 w4):=HBN.out.trans (hb4.mono (by omega));have HW4:Hid (Below w.heap.size w w4):=HB0.out.trans (HB4.out.mono (by omega));obtain ⟨q0,q1,qf0,qf1⟩:=HQ0.out;have q0':w4.cell? ⟨w.heap.size+1,0,none⟩=some (.slice none 0 0):=by rw [HB4.out.cell (by simp)];exact q0
        have q1':w4.cell? ⟨w.heap.size+1,1,none⟩=some (.int .i64 0):=by rw [HB4.out.cell (by simp)];exact q1
        have qf0':w4.frozen? ⟨w.heap.size+1,0,none⟩=false:=by rw [HB4.out.frozen (by simp)];exact qf0
        have qf1':w4.frozen? ⟨w.heap.size+1,1,none⟩=false:=by rw [HB4.out.frozen (by simp)];exact qf1
        have hz5:w.heap.size+1<w4.heap.size:=by omega
        clear ho4 hb4 q0 q1 qf0 qf1;go_wp2
        try simp only [Exit.inBlock,Exit.then]
        refine bodyPost_ret (v:=.tuple #[.agg #[.slice a4 x.l.length cap4,.int .i64 x.t],.nilIface]) (by simp [results,Tryz.results30,go_sem,q0',q1',qf0',qf1',hz5]) rfl ⟨?_,(HW4.out.setCell (by simp) _).setCell (by simp) _⟩;rw [HV.out];have h5:=Owns.over2 HO4.out (b:=w.heap.size+1) (by omega) (.slice a4 x.l.length cap4) (.int .i64 x.t);obtain ⟨a5,cap5,e5,hs5⟩:=h5.slice;cases e5;exact ⟨_,_,rfl,hs5,_,h5⟩
    · rw [hc] at b0
      have HIS:Hid (x.is=false):=hc;clear hc;have HNO:Hid (¬ (x.is=true∧([y,z]).any (zaC x)=true)):=fun h=>by rw [HIS.out] at h;cases h.1
      have HT:Hid (zaV g x=g):=zgX HIS.out;go_wp2
      go_roundg (3 - (0+1))
      case measure=>omega
      case rel=>exact ⟨0+1,by go_num,by omega,Nat.le_refl _,⟨fun _ h=>HNO.out h,fun h=>absurd h (by omega)⟩,(by show GBox _ _ _;rw [HGE.out,HT.out];exact HGC.out),HBC.out⟩
  · by_cases h1 : k=1
    · subst h1
      have hidx:=zpA x y z;obtain ⟨g,hg⟩:∃ g,g=zgv x y z 1:=⟨_,rfl⟩
      rw [← hg] at HG;have HGE:Hid (zgv x y z (1+1)=zaV g y):=by show _=_;rw [hg];rfl
      clear hg
      go_upto_region 5 with fail
      obtain ⟨wc,hwc⟩:∃ u,u=wr.alloc (Obj.cells #[Value.bool y.is,Value.slice y.a y.l.length y.cap,Value.int IntKind.i64 y.t] 47):=⟨_,rfl⟩
      have hbx:zeZ wc wr.heap.size y:=by rw [hwc];exact zi6 wr y _ _ rfl
      have hbc:Below wr.heap.size wr wc:=by rw [hwc];exact (Below.refl _ _).alloc (Nat.le_refl _) _
      have HBX:Hid (zeZ wc wr.heap.size y):=hbx;have HGC:Hid (GBox wc (w.heap.size+1+1) g):=HG.out.below hbc;have HBC:Hid (Below (w.heap.size+1+1) w0 wc):=HB.out.trans (hbc.mono (by omega));have HWC:Hid (Below w.heap.size w wc):=HB0.out.trans (HBC.out.mono (by omega));have hlc:wr.heap.size<wc.heap.size:=hbx.lt;rw [← hwc];clear hwc hbc;obtain ⟨b0,b1,b2⟩:=hbx;rcases Bool.eq_false_or_eq_true y.is with hc | hc
      · rw [hc] at b0
        have HIS:Hid (y.is=true):=hc;clear hc;have HCON:Hid _:=zdv y [z] wr.heap.size w.heap.size 6 1 wc (by simp) HBX.out (HY.out.below HWC.out) (zto (HN0.out.below HBC.out (by omega)) (HZ.out.below HWC.out))
        go_wp2_with fail
        refine Calls.mono HCON.out ?_;rintro _ w2 ⟨rfl,hb2⟩;have HBN:Hid (Below (w.heap.size+1+1) w0 w2):=HBC.out.trans (hb2.mono (by omega));have HW2:Hid (Below w.heap.size w w2):=HB0.out.trans (HBN.out.mono (by omega));have hz2:=hb2.size;have HB2X:Hid (zeZ w2 wr.heap.size y):=HBX.out.below hb2;have HG2:Hid (GBox w2 (w.heap.size+1+1) g):=HGC.out.below hb2;obtain ⟨d0,d1,d2⟩:=HB2X.out;rw [HIS.out] at d0;clear hb2 HCON b0 b1 b2 HBX HGC;cases hany:([z]).any (zaC y)
        · have HNO:Hid (¬ (y.is=true∧([z]).any (zaC y)=true)):=fun h=>by rw [hany] at h;cases h.2
          clear hany;obtain ⟨g0,g1,g2,gf0,gf1,gf2⟩:=HG2.out;have hlg:w.heap.size+1+1<w2.heap.size:=HG2.out.lt;have hne:w.heap.size+1+1≠wr.heap.size:=by omega
          rcases Bool.eq_false_or_eq_true g.is with hgi | hgi
          · rw [hgi] at g0
            have HGI:Hid (g.is=true):=hgi;clear hgi
            by_cases ht:g.t<y.t
            · have HT:Hid (zaV g y=y):=zdP HIS.out (.inr ht)
              go_wp2
              go_roundg (3 - (1+1))
              case measure=>omega
              case rel=>exact ⟨1+1,by go_num,by omega,Nat.le_refl _,⟨fun _=>HL.out.1 (by omega),fun _ h=>HNO.out h⟩,(by show GBox _ _ _;rw [HGE.out,HT.out];exact HG2.out.set HIS.out),zdL HBN.out (by omega)⟩
            · have HT:Hid (zaV g y=g):=zhY (by rintro (h | h);rw [HGI.out] at h;cases h;exact ht h)
              go_wp2
              go_roundg (3 - (1+1))
              case measure=>omega
              case rel=>exact ⟨1+1,by go_num,by omega,Nat.le_refl _,⟨fun _=>HL.out.1 (by omega),fun _ h=>HNO.out h⟩,(by show GBox _ _ _;rw [HGE.out,HT.out];exact HG2.out),HBN.out⟩
          · rw [hgi] at g0
            have HT:Hid (zaV g y=y):=zdP HIS.out (.inl hgi);clear hgi;go_wp2
            go_roundg (3 - (1+1))
            case measure=>omega
            case rel=>exact ⟨1+1,by go_num,by omega,Nat.le_refl _,⟨fun _=>HL.out.1 (by omega),fun _ h=>HNO.out h⟩,(by show GBox _ _ _;rw [HGE.out,HT.out];exact HG2.out.set HIS.out),zdL HBN.out (by omega)⟩
        · have hany':Hid _:=hany
          clear hany';have HV:Hid (zct x y z=some y):=zsJ (HL.out.1 (by omega)) ⟨HIS.out,hany⟩;have HOK:Hid (CoOk w2 y):=HY.out.below HW2.out;clear hany
          go_wp2_with fail
          refine Calls.mono (zcA y w2 HOK.out) ?_;rintro _ w4 ⟨a4,cap4,rfl,ho4,hb4⟩;have HO4:Hid (Owns w4 w2.heap.size (.slice a4 y.l.length cap4) y.l):=ho4;have hz4:=hb4.size;have HB4:Hid (Below (w.heap.size+1+1) w0 w4):=HBN.out.trans (hb4.mono (by omega));have HW4:Hid (Below w.heap.size w w4):=HB0.out.trans (HB4.out.mono (by omega));obtain ⟨q0,q1,qf0,qf1⟩:=HQ0.out;have q0':w4.cell? ⟨w.heap.size+1,0,none⟩=some (.slice none 0 0):=by rw [HB4.out.cell (by simp)];exact q0
          have q1':w4.cell? ⟨w.heap.size+1,1,none⟩=some (.int .i64 0):=by rw [HB4.out.cell (by simp)];exact q1
          have qf0':w4.frozen? ⟨w.heap.size+1,0,none⟩=false:=by rw [HB4.out.frozen (by simp)];exact qf0
          have qf1':w4.frozen? ⟨w.heap.size+1,1,none⟩=false:=by rw [HB4.out.frozen (by simp)];exact qf1
          have hz5:w.heap.size+1<w4.heap.size:=by omega
          clear ho4 hb4 q0 q1 qf0 qf1;go_wp2
          try simp only [Exit.inBlock,Exit.then]
          refine bodyPost_ret (v:=.tuple #[.agg #[.slice a4 y.l.length cap4,.int .i64 y.t],.nilIface]) (by simp [results,Tryz.results30,go_sem,q0',q1',qf0',qf1',hz5]) rfl ⟨?_,(HW4.out.setCell (by simp) _).setCell (by simp) _⟩;rw [HV.out];have h5:=Owns.over2 HO4.out (b:=w.heap.size+1) (by omega) (.slice a4 y.l.length cap4) (.int .i64 y.t);obtain ⟨a5,cap5,e5,hs5⟩:=h5.slice;cases e5;exact ⟨_,_,rfl,hs5,_,h5⟩
      · rw [hc] at b0
        have HIS:Hid (y.is=false):=hc;clear hc;have HNO:Hid (¬ (y.is=true∧([z]).any (zaC y)=true)):=fun h=>by rw [HIS.out] at h;cases h.1
        have HT:Hid (zaV g y=g):=zgX HIS.out;go_wp2
        go_roundg (3 - (1+1))
        case measure=>omega
        case rel=>exact ⟨1+1,by go_num,by omega,Nat.le_refl _,⟨fun _=>HL.out.1 (by omega),fun _ h=>HNO.out h⟩,(by show GBox _ _ _;rw [HGE.out,HT.out];exact HGC.out),HBC.out⟩
    · by_cases h2:k=2
      · subst h2
        have hidx:=zpe x y z;obtain ⟨g,hg⟩:∃ g,g=zgv x y z 2:=⟨_,rfl⟩
        rw [← hg] at HG;have HGE:Hid (zgv x y z (2+1)=zaV g z):=by show _=_;rw [hg];rfl
        clear hg
        go_upto_region 5 with fail
        obtain ⟨wc,hwc⟩:∃ u,u=wr.alloc (Obj.cells #[Value.bool z.is,Value.slice z.a z.l.length z.cap,Value.int IntKind.i64 z.t] 47):=⟨_,rfl⟩
        have hbx:zeZ wc wr.heap.size z:=by rw [hwc];exact zi6 wr z _ _ rfl
        have hbc:Below wr.heap.size wr wc:=by rw [hwc];exact (Below.refl _ _).alloc (Nat.le_refl _) _
        have HBX:Hid (zeZ wc wr.heap.size z):=hbx;have HGC:Hid (GBox wc (w.heap.size+1+1) g):=HG.out.below hbc;have HBC:Hid (Below (w.heap.size+1+1) w0 wc):=HB.out.trans (hbc.mono (by omega));have HWC:Hid (Below w.heap.size w wc):=HB0.out.trans (HBC.out.mono (by omega));have hlc:wr.heap.size<wc.heap.size:=hbx.lt;rw [← hwc];clear hwc hbc;obtain ⟨b0,b1,b2⟩:=hbx;rcases Bool.eq_false_or_eq_true z.is with hc | hc
        · rw [hc] at b0
          have HIS:Hid (z.is=true):=hc;clear hc;have HCON:Hid _:=zdv z ([]:List Co) wr.heap.size w.heap.size 0 0 wc (by simp) HBX.out (HZ.out.below HWC.out) ((fun i hi=>absurd hi (Nat.not_lt_zero _)))
          go_wp2_with fail
          refine Calls.mono HCON.out ?_;rintro _ w2 ⟨rfl,hb2⟩;have HBN:Hid (Below (w.heap.size+1+1) w0 w2):=HBC.out.trans (hb2.mono (by omega));have HW2:Hid (Below w.heap.size w w2):=HB0.out.trans (HBN.out.mono (by omega));have hz2:=hb2.size;have HB2X:Hid (zeZ w2 wr.heap.size z):=HBX.out.below hb2;have HG2:Hid (GBox w2 (w.heap.size+1+1) g):=HGC.out.below hb2;obtain ⟨d0,d1,d2⟩:=HB2X.out;rw [HIS.out] at d0;clear hb2 HCON b0 b1 b2 HBX HGC;cases hany:(([]:List Co)).any (zaC z)
          · have HNO:Hid (¬ (z.is=true∧(([]:List Co)).any (zaC z)=true)):=fun h=>by rw [hany] at h;cases h.2
            clear hany;obtain ⟨g0,g1,g2,gf0,gf1,gf2⟩:=HG2.out;have hlg:w.heap.size+1+1<w2.heap.size:=HG2.out.lt;have hne:w.heap.size+1+1≠wr.heap.size:=by omega
            rcases Bool.eq_false_or_eq_true g.is with hgi | hgi
            · rw [hgi] at g0
              have HGI:Hid (g.is=true):=hgi;clear hgi
              by_cases ht:g.t<z.t
              · have HT:Hid (zaV g z=z):=zdP HIS.out (.inr ht)
                go_wp2
                go_roundg (3 - (2+1))
                case measure=>omega
                case rel=>exact ⟨2+1,by go_num,by omega,Nat.le_refl _,⟨fun _=>HL.out.1 (by omega),fun _=>HL.out.2 (by omega)⟩,(by show GBox _ _ _;rw [HGE.out,HT.out];exact HG2.out.set HIS.out),zdL HBN.out (by omega)⟩
              · have HT:Hid (zaV g z=g):=zhY (by rintro (h | h);rw [HGI.out] at h;cases h;exact ht h)
                go_wp2
                go_roundg (3 - (2+1))
                case measure=>omega
                case rel=>exact ⟨2+1,by go_num,by omega,Nat.le_refl _,⟨fun _=>HL.out.1 (by omega),fun _=>HL.out.2 (by omega)⟩,(by show GBox _ _ _;rw [HGE.out,HT.out];exact HG2.out),HBN.out⟩
            · rw [hgi] at g0
              have HT:Hid (zaV g z=z):=zdP HIS.out (.inl hgi);clear hgi;go_wp2
              go_roundg (3 - (2+1))
              case measure=>omega
              case rel=>exact ⟨2+1,by go_num,by omega,Nat.le_refl _,⟨fun _=>HL.out.1 (by omega),fun _=>HL.out.2 (by omega)⟩,(by show GBox _ _ _;rw [HGE.out,HT.out];exact HG2.out.set HIS.out),zdL HBN.out (by omega)⟩
          · exact absurd hany (by simp)
        · rw [hc] at b0
          have HIS:Hid (z.is=false):=hc;clear hc;have HNO:Hid (¬ (z.is=true∧(([]:List Co)).any (zaC z)=true)):=fun h=>by rw [HIS.out] at h;cases h.1
          have HT:Hid (zaV g z=g):=zgX HIS.out;go_wp2
          go_roundg (3 - (2+1))
          case measure=>omega
          case rel=>exact ⟨2+1,by go_num,by omega,Nat.le_refl _,⟨fun _=>HL.out.1 (by omega),fun _=>HL.out.2 (by omega)⟩,(by show GBox _ _ _;rw [HGE.out,HT.out];exact HGC.out),HBC.out⟩
      · have h3:k=3:=by omega
        subst h3;obtain ⟨g,hg⟩:∃ g,g=zgv x y z 3:=⟨_,rfl⟩
        rw [← hg] at HG;have HGE:Hid (g=zaV (zaV (zaV noCo x) y) z):=by show _=_;rw [hg];rfl
        have HGO:Hid (CoOk wr g):=by rw [hg];exact zsq (HX.out.below HBW.out) (HY.out.below HBW.out) (HZ.out.below HBW.out) 3
        clear hg;have HBN:Hid (Below (w.heap.size+1+1) w0 wr):=HB;obtain ⟨g0,g1,g2,gf0,gf1,gf2⟩:=HG.out;rcases Bool.eq_false_or_eq_true g.is with hgi | hgi
        · rw [hgi] at g0
          have HV:Hid (zct x y z=some g):=zos (HL.out.1 (by omega)) (HL.out.2 (by omega)) HGE.out hgi;clear hgi
          go_wp2_with fail
          refine Calls.mono (zcA g wr HGO.out) ?_;rintro _ w4 ⟨a4,cap4,rfl,ho4,hb4⟩;have HO4:Hid (Owns w4 wr.heap.size (.slice a4 g.l.length cap4) g.l):=ho4;have hz4:=hb4.size;have HB4:Hid (Below (w.heap.size+1+1) w0 w4):=HBN.out.trans (hb4.mono (by omega));have HW4:Hid (Below w.heap.size w w4):=HB0.out.trans (HB4.out.mono (by omega));obtain ⟨q0,q1,qf0,qf1⟩:=HQ0.out;have q0':w4.cell? ⟨w.heap.size+1,0,none⟩=some (.slice none 0 0):=by rw [HB4.out.cell (by simp)];exact q0
          have q1':w4.cell? ⟨w.heap.size+1,1,none⟩=some (.int .i64 0):=by rw [HB4.out.cell (by simp)];exact q1
          have qf0':w4.frozen? ⟨w.heap.size+1,0,none⟩=false:=by rw [HB4.out.frozen (by simp)];exact qf0
          have qf1':w4.frozen? ⟨w.heap.size+1,1,none⟩=false:=by rw [HB4.out.frozen (by simp)];exact qf1
          have hz5:w.heap.size+1<w4.heap.size:=by omega
          clear ho4 hb4 q0 q1 qf0 qf1;go_wp2
          try simp only [Exit.inBlock,Exit.then]
          refine bodyPost_ret (v:=.tuple #[.agg #[.slice a4 g.l.length cap4,.int .i64 g.t],.nilIface]) (by simp [results,Tryz.results30,go_sem,q0',q1',qf0',qf1',hz5]) rfl ⟨?_,(HW4.out.setCell (by simp) _).setCell (by simp) _⟩;rw [HV.out];have h5:=Owns.over2 HO4.out (b:=w.heap.size+1) (by omega) (.slice a4 g.l.length cap4) (.int .i64 g.t);obtain ⟨a5,cap5,e5,hs5⟩:=h5.slice;cases e5;exact ⟨_,_,rfl,hs5,_,h5⟩
        · rw [hgi] at g0
          have HV:Hid (zct x y z=none):=zn3 (HL.out.1 (by omega)) (HL.out.2 (by omega)) HGE.out hgi;clear hgi;obtain ⟨q0,q1,qf0,qf1⟩:=HQ0.out;have q0':wr.cell? ⟨w.heap.size+1,0,none⟩=some (.slice none 0 0):=by rw [HB.out.cell (by simp)];exact q0
          have q1':wr.cell? ⟨w.heap.size+1,1,none⟩=some (.int .i64 0):=by rw [HB.out.cell (by simp)];exact q1
          have qf0':wr.frozen? ⟨w.heap.size+1,0,none⟩=false:=by rw [HB.out.frozen (by simp)];exact qf0
          have qf1':wr.frozen? ⟨w.heap.size+1,1,none⟩=false:=by rw [HB.out.frozen (by simp)];exact qf1
          clear q0 q1 qf0 qf1;go_wp2
          try simp only [Exit.inBlock,Exit.then]
          refine bodyPost_ret (v:=.tuple #[.agg #[.slice none 0 0,.int .i64 0],.iface 90 (.int .i64 4)]) (by simp [results,Tryz.results30,go_sem,q0',q1',qf0',qf1']) rfl ⟨?_,by first | exact (HBW.out.setCell (by simp) _).setCell (by simp) _ | exact HBW.out⟩;rw [HV.out]
          rfl
end Go.Proofs.YtihnghnafpgdfadGreatDoor
