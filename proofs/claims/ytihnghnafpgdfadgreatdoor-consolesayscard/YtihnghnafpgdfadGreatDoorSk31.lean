/- What the proofs stand on, part 31: TrioRead. -/
import Derived.Test.YtihnghnafpgdfadGreatDoorSk27
import Derived.Test.YtihnghnafpgdfadGreatDoorSk29
import Derived.Test.YtihnghnafpgdfadGreatDoorSk30
set_option linter.unusedVariables false
set_option linter.unusedSimpArgs false
set_option maxRecDepth 100000
set_option maxHeartbeats 4000000
namespace Go.Proofs.YtihnghnafpgdfadGreatDoor
open Go Go.RowKit Go.BigFrame
variable {W W' w w':World}{A B X i j k lo lo':Nat}{p:Dp}{d:Dk}{s:Nat→Option Nat}{c:Nat→Co}{a:Addr}{u v v0 v1 v2 v3:Value}
abbrev dptr (p:Dp):Value:=.pointer (some ⟨p.B,0,none⟩)
abbrev sptr (o:Option Nat):Value:=.pointer (o.map fun b=>⟨b,0,none⟩)
def zno:Co:=⟨false,none,0,[],0⟩
def RdOk (w:World) (lo:Nat) (p:Dp) (d:Dk) (s:Option Nat) (c:Co):Prop :=
 (zc3 d=none∧s=none∧c=zno) ∨
 ∃ b side rows used ra rc lb va vc,zc3 d=some (side,rows,used)∧side≤1∧zaY rows∧rows.length≤12∧(∀ c ∈ rows,zae c=0)∧s=some b ∧
   zag w lo b ⟨p.B,side,ra,rc,rows,lb⟩ ⟨p.B,26,d.now.length - 26,zaf d side,used⟩∧c=⟨decide ((imgR rows).2.2=0),va,vc,(imgR rows).1,(imgR rows).2.1⟩∧zad w va vc (imgR rows).1
theorem RdOk.far {s:Option Nat}{c:Co}(h:RdOk w lo p d s c)(hk:∀ (k:Nat) (C:Array Value) (T:TypeId) (fr:Nat × Nat),w.heap[k]?=some (.cells C T fr)→zcD T∨T=98→w'.heap[k]?=w.heap[k]?):RdOk w' lo p d s c:=by
 rcases h with h | ⟨b,side,rows,used,ra,rc,lb,va,vc,h1,h2,h3,h4,h5,h6,h7,h8,h9⟩
 · exact .inl h
 · exact .inr ⟨b,side,rows,used,ra,rc,lb,va,vc,h1,h2,h3,h4,h5,h6,h7.far (fun k C T fr e hT=>hk k C T fr e (.inl hT)),h8,h9.keep (fun k C fr e=>hk k C _ fr e (.inr rfl))⟩
theorem RdOk.below {s:Option Nat}{c:Co}(h:RdOk w lo p d s c)(hb:Below w.heap.size w w'):RdOk w' lo p d s c :=
 h.far (fun k C T fr e _=>hb.block k (Array.getElem?_eq_some_iff.1 e).1)
theorem RdOk.lower {s:Option Nat}{c:Co}(h:RdOk w lo p d s c)(hl:lo'≤lo):RdOk w lo' p d s c:=by
 rcases h with h | ⟨b,side,rows,used,ra,rc,lb,va,vc,h1,h2,h3,h4,h5,h6,h7,h8,h9⟩
 · exact .inl h
 · exact .inr ⟨b,side,rows,used,ra,rc,lb,va,vc,h1,h2,h3,h4,h5,h6,h7.lower hl,h8,h9⟩
theorem RdOk.co {s:Option Nat}{c:Co}(h:RdOk w lo p d s c):CoOk w c:=by
 rcases h with ⟨_,_,rfl⟩ | ⟨b,side,rows,used,ra,rc,lb,va,vc,h1,h2,h3,h4,h5,h6,h7,rfl,h9⟩
 · exact ⟨zc6 w,by simp [zno]⟩
 · exact ⟨h9.slice,by have:=(zqR rows (by omega)).1;show (imgR rows).1.length≤100;omega⟩
structure zcb (w:World)(A B:Nat)(s:Nat→Option Nat)(c:Nat→Co):Prop where
 tA:∃ C,w.heap[A]?=some (.cells C 70 (0,0))
 tB:∃ C,w.heap[B]?=some (.cells C 48 (0,0))
 s:∀ i,i<3→w.cell? ⟨A,i,none⟩=some (sptr (s i))
 c0:∀ i,i<3→w.cell? ⟨B,i * 3,none⟩=some (.bool (c i).is)
 c1:∀ i,i<3→w.cell? ⟨B,i * 3+1,none⟩=some (.slice (c i).a (c i).l.length (c i).cap)
 c2:∀ i,i<3→w.cell? ⟨B,i * 3+2,none⟩=some (.int .i64 (c i).t)
theorem zcb.below (h:zcb w A B s c)(hb:Below w.heap.size w w'):zcb w' A B s c:=by
 obtain ⟨CA,hA⟩:=h.tA;obtain ⟨CB,hB⟩:=h.tB;have a1:w'.heap[A]?=w.heap[A]?:=hb.block A (Array.getElem?_eq_some_iff.1 hA).1;have b1:w'.heap[B]?=w.heap[B]?:=hb.block B (Array.getElem?_eq_some_iff.1 hB).1;exact ⟨⟨CA,by rw [a1];exact hA⟩,⟨CB,by rw [b1];exact hB⟩,fun i hi=>by rw [World.cell?_of_block (w:=w) (a:=⟨A,i,none⟩) a1];exact h.s i hi,fun i hi=>by rw [World.cell?_of_block (w:=w) (a:=⟨B,i * 3,none⟩) b1];exact h.c0 i hi,fun i hi=>by rw [World.cell?_of_block (w:=w) (a:=⟨B,i * 3+1,none⟩) b1];exact h.c1 i hi,fun i hi=>by rw [World.cell?_of_block (w:=w) (a:=⟨B,i * 3+2,none⟩) b1];exact h.c2 i hi⟩
theorem zcb.frozen (h:zcb w A B s c)(i:Nat):w.frozen? ⟨A,i,none⟩=false∧w.frozen? ⟨B,i,none⟩=false:=by
 obtain ⟨CA,hA⟩:=h.tA;obtain ⟨CB,hB⟩:=h.tB;exact ⟨by simp [World.frozen?,hA],by simp [World.frozen?,hB]⟩
theorem zcb.lt (h:zcb w A B s c):A<w.heap.size∧B<w.heap.size:=by
 obtain ⟨CA,hA⟩:=h.tA;obtain ⟨CB,hB⟩:=h.tB;exact ⟨(Array.getElem?_eq_some_iff.1 hA).1,(Array.getElem?_eq_some_iff.1 hB).1⟩
theorem zmS (h:w.cell? a=some u)(p:Addr):(w.setCell a v).cell? p=if p=a then some v else w.cell? p:=by
 by_cases e:p=a
 · subst e
   rw [if_pos rfl];exact World.cell?_setCell_same _ _ _ h
 · rw [if_neg e];exact World.cell?_setCell_other _ _ _ _ (fun e'=>e e'.symm)
theorem zrB {α:Type}(f:Nat→α)(i:Nat)(x y:α):upd (upd f i x) i y=upd f i y:=by
 funext j
 by_cases e:j=i
 · subst e;rw [zay,zay]
 · rw [zal _ _ e,zal _ _ e,zal _ _ e]
theorem zcb.setA (h:zcb W A B s c)(hk:k<3)(hAB:A≠B)(x:Option Nat):zcb (W.setCell ⟨A,k,none⟩ (sptr x)) A B (upd s k x) c:=by
 obtain ⟨CA,hA⟩:=h.tA;obtain ⟨CB,hB⟩:=h.tB;have hBA:¬ B=A:=fun e=>hAB e.symm
 have k0:=zmS (v:=sptr x) (h.s k hk);refine ⟨⟨_,zaZ hA k _⟩,⟨CB,(Below.heap_setCell W ⟨A,k,none⟩ _ B hBA).trans hB⟩,fun i hi=>?_,fun i hi=>?_,fun i hi=>?_,fun i hi=>?_⟩
 · rw [k0]
   by_cases e:i=k
   · subst e;rw [if_pos rfl,zay]
   · rw [if_neg (by simp [e]),zal _ _ e];exact h.s i hi
 · rw [k0,if_neg (by simp [hBA])];exact h.c0 i hi
 · rw [k0,if_neg (by simp [hBA])];exact h.c1 i hi
 · rw [k0,if_neg (by simp [hBA])];exact h.c2 i hi
theorem zcb.set0 (h:zcb W A B s c)(hk:k<3)(hAB:A≠B)(x:Bool):zcb (W.setCell ⟨B,k * 3,none⟩ (.bool x)) A B s (upd c k ⟨x,(c k).a,(c k).cap,(c k).l,(c k).t⟩):=by
 obtain ⟨CA,hA⟩:=h.tA;obtain ⟨CB,hB⟩:=h.tB;have k0:=zmS (v:=.bool x) (h.c0 k hk);refine ⟨⟨CA,(Below.heap_setCell W ⟨B,k * 3,none⟩ _ A hAB).trans hA⟩,⟨_,zaZ hB _ _⟩,fun i hi=>?_,fun i hi=>?_,fun i hi=>?_,fun i hi=>?_⟩
 · rw [k0,if_neg (by simp [hAB])];exact h.s i hi
 all_goals
  rw [k0]
  by_cases e:i=k
  · subst e;first | rw [if_pos rfl,zay] | (rw [if_neg (by simp),zay];first | exact h.c1 i hi | exact h.c2 i hi)
  · rw [if_neg (by simp <;> omega),zal _ _ e];first | exact h.c0 i hi | exact h.c1 i hi | exact h.c2 i hi
theorem zcb.set1 (h:zcb W A B s c)(hk:k<3)(hAB:A≠B)(a:Option Addr)(cap:Nat)(l:List Fi):zcb (W.setCell ⟨B,k * 3+1,none⟩ (.slice a l.length cap)) A B s (upd c k ⟨(c k).is,a,cap,l,(c k).t⟩):=by
 obtain ⟨CA,hA⟩:=h.tA;obtain ⟨CB,hB⟩:=h.tB;have k0:=zmS (v:=.slice a l.length cap) (h.c1 k hk);refine ⟨⟨CA,(Below.heap_setCell W ⟨B,k * 3+1,none⟩ _ A hAB).trans hA⟩,⟨_,zaZ hB _ _⟩,fun i hi=>?_,fun i hi=>?_,fun i hi=>?_,fun i hi=>?_⟩
 · rw [k0,if_neg (by simp [hAB])];exact h.s i hi
 all_goals
  rw [k0]
  by_cases e:i=k
  · subst e;first | rw [if_pos rfl,zay] | (rw [if_neg (by simp),zay];first | exact h.c0 i hi | exact h.c2 i hi)
  · rw [if_neg (by simp <;> omega),zal _ _ e];first | exact h.c0 i hi | exact h.c1 i hi | exact h.c2 i hi
theorem zcb.set2 (h:zcb W A B s c)(hk:k<3)(hAB:A≠B)(t:Int):zcb (W.setCell ⟨B,k * 3+2,none⟩ (.int .i64 t)) A B s (upd c k ⟨(c k).is,(c k).a,(c k).cap,(c k).l,t⟩):=by
 obtain ⟨CA,hA⟩:=h.tA;obtain ⟨CB,hB⟩:=h.tB;have k0:=zmS (v:=.int .i64 t) (h.c2 k hk);refine ⟨⟨CA,(Below.heap_setCell W ⟨B,k * 3+2,none⟩ _ A hAB).trans hA⟩,⟨_,zaZ hB _ _⟩,fun i hi=>?_,fun i hi=>?_,fun i hi=>?_,fun i hi=>?_⟩
 · rw [k0,if_neg (by simp [hAB])];exact h.s i hi
 all_goals
  rw [k0]
  by_cases e:i=k
  · subst e;first | rw [if_pos rfl,zay] | (rw [if_neg (by simp),zay];first | exact h.c0 i hi | exact h.c1 i hi)
  · rw [if_neg (by simp <;> omega),zal _ _ e];first | exact h.c0 i hi | exact h.c1 i hi | exact h.c2 i hi
theorem zcb.drew (h:zcb W A B s c):zcb W.drew A B s c:=⟨h.tA,h.tB,h.s,h.c0,h.c1,h.c2⟩
theorem zcb.put (h:zcb W A B s c)(hk:k<3)(hAB:A≠B)(b:Nat)(x:Co):
 zcb ((((W.setCell ⟨A,k,none⟩ (.pointer (some ⟨b,0,none⟩))).setCell ⟨B,k * 3,none⟩ (.bool x.is)).setCell ⟨B,k * 3+1,none⟩ (.slice x.a x.l.length x.cap)).setCell ⟨B,k * 3+2,none⟩ (.int .i64 x.t)).drew A B (upd s k (some b)) (upd c k x):=by
 have h1:=h.setA hk hAB (some b);have h2:=h1.set0 hk hAB x.is;have h3:=h2.set1 hk hAB x.a x.cap x.l;rw [zrB] at h3;simp only [zay] at h3;have h4:=h3.set2 hk hAB x.t;rw [zrB] at h4;simp only [zay] at h4;exact h4.drew
structure zfp (A B:Nat)(W W':World):Prop where
 cell:∀ p,W'.cell? p=W.cell? p
 heap:∀ j,j≠A→j≠B→W'.heap[j]?=W.heap[j]?
 below:∀ {L:Nat} {w:World},L≤A→L≤B→Below L w W→Below L w W'
theorem zfp.refl (A B:Nat)(W:World):zfp A B W W:=⟨fun _=>rfl,fun _ _ _=>rfl,fun _ _ h=>h⟩
theorem zfp.drew (h:zfp A B W W'):zfp A B W W'.drew:=⟨h.cell,h.heap,fun a b hb=>(h.below a b hb).drew⟩
theorem zfp.set (h:zfp A B W W')(hv:W.cell? ⟨X,i,none⟩=some v)(hX:X=A∨X=B):zfp A B W (W'.setCell ⟨X,i,none⟩ v):=by
 have h0:W'.cell? ⟨X,i,none⟩=some v:=(h.cell _).trans hv;refine ⟨fun p=>?_,fun j h1 h2=>?_,fun h1 h2 hb=>(h.below h1 h2 hb).setCell (by rcases hX with rfl | rfl <;> assumption) _⟩
 · rw [zmS h0]
   by_cases e:p=⟨X,i,none⟩
   · subst e;rw [if_pos rfl,hv]
   · rw [if_neg e];exact h.cell p
 · rw [Below.heap_setCell _ _ _ _ (by rcases hX with rfl | rfl <;> assumption)]
   exact h.heap j h1 h2
theorem zfp.typed (hs:zfp A B W W')(h:zcb W A B s c)(j:Nat)(C:Array Value)(T:TypeId)(fr:Nat × Nat)(hj:W.heap[j]?=some (.cells C T fr))(hT:zcD T∨T=98):W'.heap[j]?=W.heap[j]?:=by
 obtain ⟨CA,hA⟩:=h.tA;obtain ⟨CB,hB⟩:=h.tB;refine hs.heap j (fun e=>?_) (fun e=>?_)
 · subst e
   rw [hA] at hj;simp at hj;rw [← hj.2.1] at hT;revert hT
   decide
 · subst e
   rw [hB] at hj;simp at hj;rw [← hj.2.1] at hT;revert hT
   decide
theorem zuh (h1:j≠A)(h2:j≠B):((((W.setCell ⟨A,k,none⟩ v0).setCell ⟨B,k * 3,none⟩ v1).setCell ⟨B,k * 3+1,none⟩ v2).setCell ⟨B,k * 3+2,none⟩ v3).drew.heap[j]?=W.heap[j]?:=by
 show (World.setCell _ _ _).heap[j]?=_;rw [Below.heap_setCell _ _ _ _ h2,Below.heap_setCell _ _ _ _ h2,Below.heap_setCell _ _ _ _ h2,Below.heap_setCell _ _ _ _ h1]
theorem zcb.put_typed (h:zcb W A B s c)(j:Nat)(C:Array Value)(T:TypeId)(fr:Nat × Nat)(hj:W.heap[j]?=some (.cells C T fr))(hT:zcD T∨T=98):((((W.setCell ⟨A,k,none⟩ v0).setCell ⟨B,k * 3,none⟩ v1).setCell ⟨B,k * 3+1,none⟩ v2).setCell ⟨B,k * 3+2,none⟩ v3).drew.heap[j]?=W.heap[j]?:=by
 obtain ⟨CA,hA⟩:=h.tA;obtain ⟨CB,hB⟩:=h.tB;refine zuh (fun e=>?_) (fun e=>?_)
 · subst e
   rw [hA] at hj;simp at hj;rw [← hj.2.1] at hT;revert hT
   decide
 · subst e
   rw [hB] at hj;simp at hj;rw [← hj.2.1] at hT;revert hT
   decide
theorem zrA (w:World)(C:Array Value)(T:TypeId):zcb (((w.alloc (Obj.cells C T)).alloc (Obj.cells #[.pointer none,.pointer none,.pointer none] 70)).alloc
 (Obj.cells #[Value.bool false,Value.slice none 0 0,Value.int IntKind.i64 0,Value.bool false,Value.slice none 0 0,Value.int IntKind.i64 0,Value.bool false,Value.slice none 0 0,Value.int IntKind.i64 0] 48)) (w.heap.size+1) (w.heap.size+1+1) (fun _=>none) (fun _=>zno):=by
 have e1:w.heap.size+1=(w.alloc (Obj.cells C T)).heap.size:=by simp
 rw [e1];generalize w.alloc (Obj.cells C T)=V;have e2:V.heap.size+1=(V.alloc (Obj.cells #[.pointer none,.pointer none,.pointer none] 70)).heap.size:=by simp
 have hA:(V.alloc (Obj.cells #[.pointer none,.pointer none,.pointer none] 70)).heap[V.heap.size]?=some (.cells #[.pointer none,.pointer none,.pointer none] 70 (0,0)):=World.alloc_heap_new V _;rw [e2];generalize (V.alloc (Obj.cells #[.pointer none,.pointer none,.pointer none] 70))=W at *;have hA2:=Eq.trans (Below.heap_alloc W (Obj.cells #[Value.bool false,Value.slice none 0 0,Value.int IntKind.i64 0,Value.bool false,Value.slice none 0 0,Value.int IntKind.i64 0,Value.bool false,Value.slice none 0 0,Value.int IntKind.i64 0] 48) V.heap.size (by omega)) hA;have hB:=World.alloc_heap_new W (Obj.cells #[Value.bool false,Value.slice none 0 0,Value.int IntKind.i64 0,Value.bool false,Value.slice none 0 0,Value.int IntKind.i64 0,Value.bool false,Value.slice none 0 0,Value.int IntKind.i64 0] 48);refine ⟨⟨_,hA2⟩,⟨_,hB⟩,fun i hi=>?_,fun i hi=>?_,fun i hi=>?_,fun i hi=>?_⟩
 · rw [zaa hA2]
   rcases (show i=0∨i=1∨i=2 by omega) with rfl | rfl | rfl <;> rfl
 all_goals
  rw [zaa hB];rcases (show i=0∨i=1∨i=2 by omega) with rfl | rfl | rfl <;> rfl
theorem zuU (rows:List Ch):(imgR rows).2.2=0∨(imgR rows).2.2=4:=by
 by_cases hx:∃ p:List Fi × Int,Img rows p.1 p.2
 · obtain ⟨p,hp⟩:=hx
   rw [zgl hp];exact .inl rfl
 · rw [zlu (fun l t h=>hx ⟨(l,t),h⟩)];exact .inr rfl
theorem zuS (P:Nat→Dp)(k:Nat)(hk:k<3)(w:World):(Instr.index 26 (.agg #[dptr (P 0),dptr (P 1),dptr (P 2)]) (.int .i64 k)).run Tryz.prog w=.ok (dptr (P k)) w:=by
 rcases (show k=0∨k=1∨k=2 by omega) with rfl | rfl | rfl
 · show _=_;kernel_rfl
 · show _=_;kernel_rfl
 · show _=_;kernel_rfl
def ztC (w:World)(P:Nat→Dp)(D:Nat→Dk)(e:Ending)(w':World):Prop :=
 ∃ (s:Nat→Option Nat) (c:Nat→Co),e=.returned (.tuple #[.agg #[sptr (s 0),sptr (s 1),sptr (s 2)],zeS (c 0) (c 1) (c 2)])∧Below w.heap.size w w'∧∀ i,i<3→RdOk w' w.heap.size (P i) (D i) (s i) (c i)
theorem zpM (lo:Nat) (P:Nat→Dp) (D:Nat→Dk) (w:World) (h3:zcH lo w P D) (hup:∀ i,i<3→(D i).down=false∧42≤(D i).now.length) (hv:zbF lo w) (hlo:lo≤w.heap.size) :
 Calls Tryz.prog 34 #[.agg #[dptr (P 0),dptr (P 1),dptr (P 2)]] w fun e w'=>ztC w P D e w':=by
 have H3:Hid (zcH lo w P D):=h3;have HV:Hid (zbF lo w):=hv;have HU:Hid (∀ i,i<3→(D i).down=false∧42≤(D i).now.length):=hup;clear h3 hv hup
 go_enter Tryz.func34,Tryz.ntmps34
 go_wp2_with fail
 obtain ⟨w0,hw0⟩:∃ u,u=(((w.alloc (Obj.cells #[dptr (P 0),dptr (P 1),dptr (P 2)] 26)).alloc (Obj.cells #[.pointer none,.pointer none,.pointer none] 70)).alloc
  (Obj.cells #[Value.bool false,Value.slice none 0 0,Value.int IntKind.i64 0,Value.bool false,Value.slice none 0 0,Value.int IntKind.i64 0,Value.bool false,Value.slice none 0 0,Value.int IntKind.i64 0] 48)):=⟨_,rfl⟩
 have HB0:Hid (Below w.heap.size w w0):=by rw [hw0];exact (((Below.refl _ _).alloc (Nat.le_refl _) _).alloc (by simp) _).alloc (by simp;omega) _
 have HZ0:Hid (w0.heap.size=w.heap.size+1+1+1):=by rw [hw0];show _=_;simp
 have HR0:Hid (zcb w0 (w.heap.size+1) (w.heap.size+1+1) (fun _=>none) (fun _=>zno)):=by
  rw [hw0];exact zrA w _ _
 rw [← hw0];clear hw0
 go_loopg [10] 4 (fun kx vi wr=>∃ (k:Nat) (s:Nat→Option Nat) (c:Nat→Co),vi=.int .i64 k∧k≤3∧3 - k≤kx∧Hid (Below w.heap.size w wr)∧Hid (zcb wr (w.heap.size+1) (w.heap.size+1+1) s c)∧Hid (∀ i,i<k→RdOk wr w.heap.size (P i) (D i) (s i) (c i))∧Hid (∀ i,k≤i→s i=none∧c i=zno))
 case atStart=>exact ⟨0,_,_,rfl,by omega,by omega,HB0,HR0,fun i h=>absurd h (Nat.not_lt_zero _),fun i _=>⟨rfl,rfl⟩⟩
 case round =>
  obtain ⟨k,s,c,rfl,hk,hkx,HB,HR,HG,HN⟩:=hrel
  by_cases hlt:k<3
  · have hltz:(k:Int)<3:=by omega
    have hidx:=zuS P k hlt;have KO:Hid _:=zg8 (P k) (D k) wr ((H3.out.below HB.out).disk k hlt) (HU.out k hlt).1 (HU.out k hlt).2;have HWS:=HB.out.size
    go_wp2_with fail
    refine Calls.mono KO.out ?_;rintro e w1 ⟨hb1,hor⟩;have HB1:Hid (Below wr.heap.size wr w1):=hb1;have HR1:Hid (zcb w1 (w.heap.size+1) (w.heap.size+1+1) s c):=HR.out.below hb1;have HG1:Hid (∀ i,i<k→RdOk w1 w.heap.size (P i) (D i) (s i) (c i)):=fun i hi=>(HG.out i hi).below hb1
    have HBW1:Hid (Below w.heap.size w w1):=HB.out.trans (hb1.mono HWS);clear hb1 KO;rcases hor with ⟨hno,rfl⟩ | ⟨b,side,rows,used,ra,rc,lb,ho,hs1,hrw,hlen,hflt,rfl,hso⟩
    · have HE:Hid (RdOk w1 w.heap.size (P k) (D k) (s k) (c k)):=.inl ⟨hno,(HN.out k (Nat.le_refl _)).1,(HN.out k (Nat.le_refl _)).2⟩
      clear hno;go_wp2
      go_roundg (3 - (k+1))
      case measure=>omega
      case rel=>exact ⟨k+1,s,c,by go_num,by omega,Nat.le_refl _,HBW1,HR1,fun i hi=>by
       by_cases e:i=k
       · subst e;exact HE.out
       · exact HG1.out i (by omega),fun i hi=>HN.out i (by omega)⟩
    · have HSO:Hid (zag w1 wr.heap.size b ⟨(P k).B,side,ra,rc,rows,lb⟩ ⟨(P k).B,26,(D k).now.length - 26,zaf (D k) side,used⟩):=hso
      have HI:Hid (zc3 (D k)=some (side,rows,used)∧side≤1∧zaY rows∧rows.length≤12∧(∀ c ∈ rows,zae c=0)):=⟨ho,hs1,hrw,hlen,hflt⟩;have KR:Hid _:=zlB b ⟨(P k).B,side,ra,rc,rows,lb⟩ w1 HSO.out.at' (by show rows.length≤100;omega);clear ho hs1 hrw hlen hflt hso
      go_wp2_with fail
      refine Calls.mono KR.out ?_;rintro e w2 ⟨v2,rfl,hoc,hb2⟩;obtain ⟨va2,vc2,hv2,hcc2,-⟩:=zan.files hoc;subst hv2;have KP:Hid _:=zsX va2 vc2 rows w2 (by have:=HI.out.2.2.2.1;omega) (fun x hx=>by have:=zeh (HI.out.2.2.2.2 x hx);omega) hcc2 ((HV.out.go (HBW1.out.mono hlo)).vars.below hb2);have HB2:Hid (Below w1.heap.size w1 w2):=hb2;clear hoc hb2 hcc2 KR
      go_wp2_with fail
      refine Calls.mono KP.out ?_;rintro e w3 ⟨va,vc,rfl,hfi,hb3⟩;have HFI:Hid (zad w3 va vc (imgR rows).1):=hfi;have HB3:Hid (Below w1.heap.size w1 w3):=HB2.out.trans (hb3.mono HB2.out.size);clear hfi hb3 HB2 KP
      go_wp2_with fail
      obtain ⟨W,hW⟩:∃ x,x=w3.alloc (.cells #[.slice va (imgR rows).1.length vc,.int .i64 (imgR rows).2.1] 32):=⟨_,rfl⟩
      have hQ:QBox W w3.heap.size (.slice va (imgR rows).1.length vc) (imgR rows).2.1:=by rw [hW];exact QBox.new w3 _ _ _
      have HB3W:Hid (Below w3.heap.size w3 W):=by rw [hW];exact (Below.refl _ _).alloc (Nat.le_refl _) _
      have HB4:Hid (Below w1.heap.size w1 W):=HB3.out.trans (HB3W.out.mono HB3.out.size);have HR4:Hid (zcb W (w.heap.size+1) (w.heap.size+1+1) s c):=HR1.out.below HB4.out;have HF4:Hid (zad W va vc (imgR rows).1):=HFI.out.below HB3W.out;have HS4:Hid (zag W w.heap.size b ⟨(P k).B,side,ra,rc,rows,lb⟩ ⟨(P k).B,26,(D k).now.length - 26,zaf (D k) side,used⟩):=(HSO.out.below HB4.out).lower HWS;have HG4:Hid (∀ i,i<k→RdOk W w.heap.size (P i) (D i) (s i) (c i)):=fun i hi=>(HG1.out i hi).below HB4.out
      have HW4:Hid (Below w.heap.size w W):=HBW1.out.trans (HB4.out.mono HBW1.out.size);rw [← hW];clear hW;obtain ⟨q0,q1,-,-,ql,-⟩:=hQ;have z1:=HR4.out.s k hlt;have z2:=HR4.out.c0 k hlt;have z3:=HR4.out.c1 k hlt;have z4:=HR4.out.c2 k hlt;have f1:=(HR4.out.frozen k).1;have f2:=(HR4.out.frozen (k * 3)).2;have f3:=(HR4.out.frozen (k * 3+1)).2;have f4:=(HR4.out.frozen (k * 3+2)).2;have l1:=HR4.out.lt.1;have l2:=HR4.out.lt.2;have hl1:=(HR1.out.below HB3.out).lt.1;have hl2:=(HR1.out.below HB3.out).lt.2;have n1:¬ w3.heap.size=w.heap.size+1:=by omega
      have n2:¬ w3.heap.size=w.heap.size+1+1:=by omega
      have n3:¬ w.heap.size+1=w3.heap.size:=by omega
      have n4:¬ w.heap.size+1+1=w3.heap.size:=by omega
      clear hl1 hl2;obtain ⟨n,hn⟩:∃ n,n=(imgR rows).2.2:=⟨_,rfl⟩
      rw [← hn];have hn2:=zuU rows;rw [← hn] at hn2;have HNN:Hid (n=(imgR rows).2.2):=hn;clear hn;rcases hn2 with rfl | rfl
      · rw [zac rfl]
        have mixed:Tryz.prog.follows Departure.mixedOrders=true:=by kernel_rfl
        go_wp2_with fail
        go_big_region_o
        obtain ⟨W2,hW2⟩:∃ x,x=((((W.setCell ⟨w.heap.size+1,k,none⟩ (.pointer (some ⟨b,0,none⟩))).setCell ⟨w.heap.size+1+1,k * 3,none⟩ (.bool true)).setCell ⟨w.heap.size+1+1,k * 3+1,none⟩ (.slice va (imgR rows).1.length vc)).setCell ⟨w.heap.size+1+1,k * 3+2,none⟩ (.int .i64 (imgR rows).2.1)).drew:=⟨_,rfl⟩
        have HT:Hid (∀ (j:Nat) (C:Array Value) (T:TypeId) (fr:Nat × Nat),W.heap[j]?=some (.cells C T fr)→zcD T∨T=98→W2.heap[j]?=W.heap[j]?):=by rw [hW2];exact fun j C T fr e1 e2=>HR4.out.put_typed j C T fr e1 e2
        have HR5:Hid (zcb W2 (w.heap.size+1) (w.heap.size+1+1) (upd s k (some b)) (upd c k ⟨true,va,vc,(imgR rows).1,(imgR rows).2.1⟩)):=by rw [hW2];exact HR4.out.put hlt (by omega) b ⟨true,va,vc,(imgR rows).1,(imgR rows).2.1⟩
        have HW5:Hid (Below w.heap.size w W2):=by rw [hW2];exact (((((HW4.out.setCell (by simp) _).setCell (by simp;omega) _).setCell (by simp;omega) _).setCell (by simp;omega) _)).drew
        have HE:Hid (RdOk W2 w.heap.size (P k) (D k) (some b) ⟨true,va,vc,(imgR rows).1,(imgR rows).2.1⟩):=.inr ⟨b,side,rows,used,ra,rc,lb,va,vc,HI.out.1,HI.out.2.1,HI.out.2.2.1,HI.out.2.2.2.1,HI.out.2.2.2.2,rfl,HS4.out.far (fun j C T fr e1 e2=>HT.out j C T fr e1 (.inl e2)),by rw [← HNN.out];rfl,HF4.out.keep (fun j C fr e1=>HT.out j C _ fr e1 (.inr rfl))⟩;rw [← hW2];clear hW2 q0 q1 ql z1 z2 z3 z4 f1 f2 f3 f4 l1 l2 n1 n2 n3 n4;go_wp2
        go_roundg (3 - (k+1))
        case measure=>omega
        case rel=>exact ⟨k+1,upd s k (some b),upd c k ⟨true,va,vc,(imgR rows).1,(imgR rows).2.1⟩,by go_num,by omega,Nat.le_refl _,HW5,HR5,fun i hi=>by
         by_cases e:i=k
         · subst e;rw [zay,zay];exact HE.out
         · rw [zal _ _ e,zal _ _ e];exact (HG4.out i (by omega)).far HT.out,fun i hi=>by rw [zal _ _ (by omega),zal _ _ (by omega)];exact HN.out i (by omega)⟩
      · rw [show errV 4=.iface 90 (.int .i64 4) from rfl]
        have mixed:Tryz.prog.follows Departure.mixedOrders=true:=by kernel_rfl
        go_wp2_with fail
        go_big_region_o
        obtain ⟨W2,hW2⟩:∃ x,x=((((W.setCell ⟨w.heap.size+1,k,none⟩ (.pointer (some ⟨b,0,none⟩))).setCell ⟨w.heap.size+1+1,k * 3,none⟩ (.bool false)).setCell ⟨w.heap.size+1+1,k * 3+1,none⟩ (.slice va (imgR rows).1.length vc)).setCell ⟨w.heap.size+1+1,k * 3+2,none⟩ (.int .i64 (imgR rows).2.1)).drew:=⟨_,rfl⟩
        have HT:Hid (∀ (j:Nat) (C:Array Value) (T:TypeId) (fr:Nat × Nat),W.heap[j]?=some (.cells C T fr)→zcD T∨T=98→W2.heap[j]?=W.heap[j]?):=by rw [hW2];exact fun j C T fr e1 e2=>HR4.out.put_typed j C T fr e1 e2
        have HR5:Hid (zcb W2 (w.heap.size+1) (w.heap.size+1+1) (upd s k (some b)) (upd c k ⟨false,va,vc,(imgR rows).1,(imgR rows).2.1⟩)):=by rw [hW2];exact HR4.out.put hlt (by omega) b ⟨false,va,vc,(imgR rows).1,(imgR rows).2.1⟩
        have HW5:Hid (Below w.heap.size w W2):=by rw [hW2];exact (((((HW4.out.setCell (by simp) _).setCell (by simp;omega) _).setCell (by simp;omega) _).setCell (by simp;omega) _)).drew
        have HE:Hid (RdOk W2 w.heap.size (P k) (D k) (some b) ⟨false,va,vc,(imgR rows).1,(imgR rows).2.1⟩):=.inr ⟨b,side,rows,used,ra,rc,lb,va,vc,HI.out.1,HI.out.2.1,HI.out.2.2.1,HI.out.2.2.2.1,HI.out.2.2.2.2,rfl,HS4.out.far (fun j C T fr e1 e2=>HT.out j C T fr e1 (.inl e2)),by rw [← HNN.out];rfl,HF4.out.keep (fun j C fr e1=>HT.out j C _ fr e1 (.inr rfl))⟩;rw [← hW2];clear hW2 q0 q1 ql z1 z2 z3 z4 f1 f2 f3 f4 l1 l2 n1 n2 n3 n4;go_wp2
        go_roundg (3 - (k+1))
        case measure=>omega
        case rel=>exact ⟨k+1,upd s k (some b),upd c k ⟨false,va,vc,(imgR rows).1,(imgR rows).2.1⟩,by go_num,by omega,Nat.le_refl _,HW5,HR5,fun i hi=>by
         by_cases e:i=k
         · subst e;rw [zay,zay];exact HE.out
         · rw [zal _ _ e,zal _ _ e];exact (HG4.out i (by omega)).far HT.out,fun i hi=>by rw [zal _ _ (by omega),zal _ _ (by omega)];exact HN.out i (by omega)⟩
  · have hk3:k=3:=by omega
    subst hk3;have z0:wr.cell? ⟨w.heap.size+1,0,none⟩=some (sptr (s 0)):=HR.out.s 0 (by omega);have z1:wr.cell? ⟨w.heap.size+1,1,none⟩=some (sptr (s 1)):=HR.out.s 1 (by omega);have z2:wr.cell? ⟨w.heap.size+1,2,none⟩=some (sptr (s 2)):=HR.out.s 2 (by omega);have y0:wr.cell? ⟨w.heap.size+1+1,0,none⟩=some (.bool (c 0).is):=HR.out.c0 0 (by omega);have y1:wr.cell? ⟨w.heap.size+1+1,1,none⟩=some (.slice (c 0).a (c 0).l.length (c 0).cap):=HR.out.c1 0 (by omega);have y2:wr.cell? ⟨w.heap.size+1+1,2,none⟩=some (.int .i64 (c 0).t):=HR.out.c2 0 (by omega);have y3:wr.cell? ⟨w.heap.size+1+1,3,none⟩=some (.bool (c 1).is):=HR.out.c0 1 (by omega);have y4:wr.cell? ⟨w.heap.size+1+1,4,none⟩=some (.slice (c 1).a (c 1).l.length (c 1).cap):=HR.out.c1 1 (by omega);have y5:wr.cell? ⟨w.heap.size+1+1,5,none⟩=some (.int .i64 (c 1).t):=HR.out.c2 1 (by omega);have y6:wr.cell? ⟨w.heap.size+1+1,6,none⟩=some (.bool (c 2).is):=HR.out.c0 2 (by omega);have y7:wr.cell? ⟨w.heap.size+1+1,7,none⟩=some (.slice (c 2).a (c 2).l.length (c 2).cap):=HR.out.c1 2 (by omega);have y8:wr.cell? ⟨w.heap.size+1+1,8,none⟩=some (.int .i64 (c 2).t):=HR.out.c2 2 (by omega);have f0:=(HR.out.frozen 0).1;have f1:=(HR.out.frozen 1).1;have f2:=(HR.out.frozen 2).1;have g0:=(HR.out.frozen 0).2;have g1:=(HR.out.frozen 1).2;have g2:=(HR.out.frozen 2).2;have g3:=(HR.out.frozen 3).2;have g4:=(HR.out.frozen 4).2;have g5:=(HR.out.frozen 5).2;have g6:=(HR.out.frozen 6).2;have g7:=(HR.out.frozen 7).2;have g8:=(HR.out.frozen 8).2;have mixed:Tryz.prog.follows Departure.mixedOrders=true:=by kernel_rfl
    have l1:=HR.out.lt.1;have l2:=HR.out.lt.2
    go_wp2_with fail
    go_big_region_o
    obtain ⟨W2,hW2⟩:∃ x,x=((((((((((((wr.setCell ⟨w.heap.size+1,0,none⟩ (sptr (s 0))).setCell ⟨w.heap.size+1,1,none⟩ (sptr (s 1))).setCell ⟨w.heap.size+1,2,none⟩ (sptr (s 2))).setCell ⟨w.heap.size+1+1,0,none⟩ (.bool (c 0).is)).setCell ⟨w.heap.size+1+1,1,none⟩ (.slice (c 0).a (c 0).l.length (c 0).cap)).setCell ⟨w.heap.size+1+1,2,none⟩ (.int .i64 (c 0).t)).setCell ⟨w.heap.size+1+1,3,none⟩ (.bool (c 1).is)).setCell ⟨w.heap.size+1+1,4,none⟩ (.slice (c 1).a (c 1).l.length (c 1).cap)).setCell ⟨w.heap.size+1+1,5,none⟩ (.int .i64 (c 1).t)).setCell ⟨w.heap.size+1+1,6,none⟩ (.bool (c 2).is)).setCell ⟨w.heap.size+1+1,7,none⟩ (.slice (c 2).a (c 2).l.length (c 2).cap)).setCell ⟨w.heap.size+1+1,8,none⟩ (.int .i64 (c 2).t)).drew:=⟨_,rfl⟩
    have HS:zfp (w.heap.size+1) (w.heap.size+1+1) wr W2:=by
     have h9:=(((((((((((((zfp.refl _ _ _).set z0 (.inl rfl)).set z1 (.inl rfl)).set z2 (.inl rfl)).set y0 (.inr rfl)).set y1 (.inr rfl)).set y2 (.inr rfl)).set y3 (.inr rfl)).set y4 (.inr rfl)).set y5 (.inr rfl)).set y6 (.inr rfl)).set y7 (.inr rfl)).set y8 (.inr rfl));rw [hW2];exact h9.drew
    have HW5:Hid (Below w.heap.size w W2):=HS.below (by omega) (by omega) HB.out;have HG5:Hid (∀ i,i<3→RdOk W2 w.heap.size (P i) (D i) (s i) (c i)):=fun i hi=>(HG.out i hi).far (HS.typed HR.out)
    rw [← hW2];clear hW2 f0 f1 f2 g0 g1 g2 g3 g4 g5 g6 g7 g8 l1 l2 mixed;rw [← HS.cell] at z0 z1 z2 y0 y1 y2 y3 y4 y5 y6 y7 y8;clear HS;go_wp2
    try simp only [Exit.inBlock,Exit.then]
    refine bodyPost_ret (v:=.tuple #[.agg #[sptr (s 0),sptr (s 1),sptr (s 2)],zeS (c 0) (c 1) (c 2)]) (by simp [results,Tryz.results34,go_sem,z0,z1,z2,y0,y1,y2,y3,y4,y5,y6,y7,y8,zeS]) rfl ⟨s,c,rfl,HW5.out,HG5.out⟩
end Go.Proofs.YtihnghnafpgdfadGreatDoor
