/- What the proofs stand on, part 9: ActsDo, DoGood, DoLow, TopPure, SwapPure, SwapRefT, ConsDefs, ConsRefA, ConsHelloP, RangeBox. -/
import Derived.RangeFuncWrites
import Derived.RangeFuncCalls
import Derived.RangeFuncBox
import Derived.RangeFuncNested
import Derived.RangeFuncBound
import Derived.Shelf.Abstract
import Derived.Shelf.RegionOpen
import Derived.WalkKit
import Derived.OwnWalkIn
import Derived.TacticsInMore
import Derived.LoopNIn
import Derived.LoopIn
import Derived.Test.YtihnghnafpgdfadGreatDoorSk08
import Derived.Test.YtihnghnafpgdfadGreatDoorSk05
import Derived.Test.YtihnghnafpgdfadGreatDoorSk04
import Derived.Test.YtihnghnafpgdfadGreatDoorSk07
import Derived.Test.YtihnghnafpgdfadGreatDoorProg
set_option linter.unusedVariables false
set_option linter.unusedSimpArgs false
set_option maxRecDepth 100000
set_option maxHeartbeats 16000000
namespace Go.Proofs.YtihnghnafpgdfadGreatDoor
open Go.RowKit
variable {t:Int}{l:List Fi}{f g:Fi}{a b line name s text v x:ByteArray}{W W' w:World}{B Z base cap i k n size:Nat}{r:List ByteArray}{row:Option Nat}{C:Array Value}{T e:TypeId}{fr:Nat × Nat}
def doR (l:List Fi)(t:Int)(x:Ac):Res :=
 if x.kind=⟨#[119,114,105,116,101]⟩ then zaG l t x.s x.t
 else if x.kind=⟨#[100,114,111,112]⟩ then zbb l t x.s
 else if x.kind=⟨#[110,97,109,101]⟩ then zax l t x.s x.t
 else if x.kind=⟨#[115,119,97,112]⟩ then zbs l t x.s x.t
 else ⟨l,t,0⟩
def Fine (t:Int)(r:Res):Prop:=(r.n=0∧zau r.l r.t∧r.t=t+1)∨(0<r.n∧r.n≤100∧r.l=[]∧r.t=0)
theorem zhz (hg:Good l)(h1:1≤t):Fine t (zeT t l):=by
 unfold zeT
 split
 · exact .inr ⟨by decide,by decide,rfl,rfl⟩
 · exact .inl ⟨rfl,⟨hg,by show 1≤t+1;omega,by show t+1≤9999;omega⟩,rfl⟩
theorem zeM {t n:Int}(h:0<n)(h':n≤100):Fine t (zd0 n):=.inr ⟨h,h',rfl,rfl⟩
theorem zjV (h:putN l f=0):f.fault=0∧(hasF l f.n=false→l.length<8):=by
 unfold putN at h
 by_cases hf:f.fault=0
 · rw [if_neg (by simp [hf])] at h
   refine ⟨hf,fun hh=>?_⟩
   by_cases h8:8≤l.length
   · rw [if_pos ⟨hh,h8⟩] at h;exact absurd h (by decide)
   · omega
 · rw [if_pos hf] at h;exact absurd h hf
theorem zpq (hg:Good l)(h1:1≤t):Fine t (zcy t (putL l f) (putN l f)):=by
 unfold zcy;have hr:=zf8 l f
 by_cases h:putN l f=0
 · rw [if_neg (by simp [h])]
   obtain ⟨hf,h8⟩:=zjV h;have e:putL l f=putF l f:=by simp [putL,h]
   rw [e];exact zhz (zfe hg hf h8) h1
 · rw [if_pos h]
   exact .inr ⟨by show 0<putN l f;omega,hr.2,rfl,rfl⟩
theorem zkD (hq:zau l t)(name text:ByteArray):Fine t (zaG l t name text):=zpq hq.files hq.low
theorem zsd (hq:zau l t)(name:ByteArray):Fine t (zbb l t name):=by
 unfold zbb zcy;cases hh:hasF l name
 · have e:zco l name=5:=by simp [zco,hh]
   rw [e,if_pos (by decide)];exact .inr ⟨by decide,by decide,rfl,rfl⟩
 · have e:zco l name=0:=by simp [zco,hh]
   have e2:zdJ l name=zbG l name:=by simp [zdJ,hh]
   rw [e,e2,if_neg (by decide)];exact zhz (zdZ hq.files name) hq.low
theorem zn2 (hq:zau l t)(name tgt:ByteArray):Fine t (zax l t name tgt):=by
 unfold zax;cases hg:getF l name with
 | none=>exact zeM (by decide) (by decide)
 | some f =>
   simp only
   split
   · have:=zfd tgt.data.toList
     exact zeM (by omega) (by omega)
   · split
     · exact zeM (by decide) (by decide)
     · exact zpq (zdZ hq.files name) hq.low
theorem zrV (hq:zau l t) (a b:ByteArray):Fine t (zbs l t a b):=by
 unfold zbs;cases ha:getF l a with
 | none=>exact zeM (by decide) (by decide)
 | some f =>
   cases hb:getF l b with
   | none=>exact zeM (by decide) (by decide)
   | some g =>
     simp only
     split
     · exact zeM (by decide) (by decide)
     · split
       · exact zhz hq.files hq.low
       · exact zhz (zoS hq.files ha hb (by omega) (by omega) ‹_›).2.2.2 hq.low
def ztO (x:Ac):Bool:=decide (x.kind=⟨#[119,114,105,116,101]⟩) || (decide (x.kind=⟨#[100,114,111,112]⟩) || (decide (x.kind=⟨#[110,97,109,101]⟩) || decide (x.kind=⟨#[115,119,97,112]⟩)))
theorem zum (hq:zau l t) (x:Ac):Fine t (doR l t x)∨(ztO x=false∧doR l t x=⟨l,t,0⟩):=by
 unfold doR
 split
 · exact .inl (zkD hq _ _)
 · split
   · exact .inl (zsd hq _)
   · split
     · exact .inl (zn2 hq _ _)
     · split
       · exact .inl (zrV hq _ _)
       · rename_i h1 h2 h3 h4
         exact .inr ⟨by simp [ztO,h1,h2,h3,h4],rfl⟩
theorem zup (hq:zau l t)(x:Ac):((doR l t x).n=0∧zau (doR l t x).l (doR l t x).t)∨(0<(doR l t x).n∧(doR l t x).n≤100∧(doR l t x).l=[]∧(doR l t x).t=0):=by
 rcases zum hq x with (⟨h1,h2,_⟩ | h) | ⟨_,h⟩
 · exact .inl ⟨h1,h2⟩
 · exact .inr h
 · rw [h];exact .inl ⟨rfl,hq⟩
theorem zeF (hg:Good l)(h:getF l name=some f):hasF l name=true:=by
 rw [← zd9 hg,h];rfl
theorem zmK {r:Res}(h:Fine t r)(h0:r.n=0):zau r.l r.t∧r.t=t+1:=by
 rcases h with ⟨_,h1,h2⟩ | ⟨h1,_,_,_⟩
 · exact ⟨h1,h2⟩
 · omega
theorem zj1 {n:Int}(h:(zcy t l n).n=0):n=0∧t<9999∧zcy t l n=⟨l,t+1,0⟩:=by
 unfold zcy at h ⊢
 by_cases hn:n=0
 · rw [if_neg (by simp [hn])] at h ⊢
   unfold zeT at h ⊢
   by_cases h9:9999≤t
   · rw [if_pos h9] at h;exact absurd h (by simp)
   · rw [if_neg h9];exact ⟨hn,by omega,rfl⟩
 · rw [if_pos hn] at h;exact absurd h hn
theorem zoV (h:putN l f=0):putL l f=putF l f:=by simp [putL,h]
theorem zqV (hq:zau l t)(h:(zaG l t name text).n=0):
 zau (zaG l t name text).l (zaG l t name text).t∧getF (zaG l t name text).l name=some (zfj l name text)∧∀ other,¬ other=name→getF (zaG l t name text).l other=getF l other:=by
 obtain ⟨h0,_,e⟩:=zj1 h;have hp:=zjV h0;have hg:Good (putF l (zfj l name text)):=zfe hq.files hp.1 hp.2;refine ⟨(zmK (zkD hq name text) h).1,?_,?_⟩
 · unfold zaG;rw [e,zoV h0];exact zfA hq.files hg
 · intro other ho
   unfold zaG;rw [e,zoV h0];exact zbp hq.files hg ho
theorem zpS (h:(zbb l t name).n=0):hasF l name=true∧zbb l t name=⟨zbG l name,t+1,0⟩:=by
 obtain ⟨h0,_,e⟩:=zj1 h;cases hh:hasF l name
 · rw [zco,hh] at h0;exact absurd h0 (by simp)
 · refine ⟨rfl,?_⟩
   unfold zbb;rw [e];simp [zdJ,hh]
theorem zux (hh:hasF l f.n=true):putF l f=l.set (posF l f.n) f:=by
 have:=(zce hh).1;unfold putF;rw [if_pos hh,List.set_eq_take_append_cons_drop,if_pos this]
theorem zo5 {l:List Fi} {t:Int} (hq:zau l t) {a b:ByteArray} (h:(zax l t a b).n=0) :
 ∃ f,getF l a=some f∧zbq b.data.toList=0∧getF l b=none∧¬ a=b∧Good (putF (zbG l a) ⟨b,f.t,f.k⟩)∧zax l t a b=⟨putF (zbG l a) ⟨b,f.t,f.k⟩,t+1,0⟩:=by
 unfold zax at h ⊢;cases hgf:getF l a with
 | none=>rw [hgf] at h;exact absurd h (by simp [zd0])
 | some f =>
   rw [hgf] at h;simp only at h ⊢
   by_cases h1:zbq b.data.toList=0
   · rw [if_neg (by simp [h1])] at h
     cases h2:getF l b with
     | some g=>rw [h2] at h;exact absurd h (by simp [zd0])
     | none =>
       rw [h2] at h;rw [if_neg (by simp)] at h;obtain ⟨h0,_,e⟩:=zj1 h;have hp:=zjV h0;refine ⟨f,rfl,h1,rfl,?_,zfe (zdZ hq.files a) hp.1 hp.2,?_⟩
       · rintro rfl;rw [hgf] at h2;cases h2
       · rw [if_neg (by simp [h1]),if_neg (by simp),e,zoV h0]
   · rw [if_pos h1] at h
     exact absurd h h1
theorem zsB {l:List Fi} {t:Int} {a b:ByteArray} (h:(zbs l t a b).n=0) :
 ∃ f g,getF l a=some f∧getF l b=some g∧f.k<9999∧g.k<9999∧zbs l t a b=⟨if a=b then l else zfO l a b f g,t+1,0⟩:=by
 unfold zbs at h ⊢;cases ha:getF l a with
 | none=>rw [ha] at h;exact absurd h (by simp [zd0])
 | some f =>
   cases hb:getF l b with
   | none=>rw [ha,hb] at h;exact absurd h (by simp [zd0])
   | some g =>
     rw [ha,hb] at h;simp only at h ⊢
     split at h
     · exact absurd h (by simp [zd0])
     · rename_i hne
       refine ⟨f,g,rfl,rfl,by omega,by omega,?_⟩;rw [if_neg hne]
       split at h
       · rename_i hab
         rw [if_pos hab,if_pos hab];unfold zeT at h ⊢
         split at h
         · exact absurd h (by simp)
         · rename_i h9;rw [if_neg h9]
       · rename_i hab
         rw [if_neg hab,if_neg hab];unfold zeT at h ⊢
         split at h
         · exact absurd h (by simp)
         · rename_i h9;rw [if_neg h9]
theorem znK (hh:hasF l f.n=true):(putF l f).map Fi.n=l.map Fi.n:=by
 rw [zux hh,List.map_set];obtain ⟨hp,he⟩:=zce hh
 apply List.ext_getElem
 · simp
 · intro i h1 h2
   rw [List.getElem_set]
   split
   · rename_i hi
     subst hi;simp [he]
   · rfl
def zcN (a b:ByteArray)(f g z:Fi):Fi:=if z.n=a then ⟨z.n,g.t,z.k+1⟩ else if z.n=b then ⟨z.n,f.t,z.k+1⟩ else z
theorem zty (hg:Good l) (hf:getF l a=some f) (hgg:getF l b=some g) (h1:f.k<9999) (h2:g.k<9999) (hab:¬ a=b):l.map (zcN a b f g)=zfO l a b f g:=by
 obtain ⟨p1,g1,p2,g2⟩:=zoS hg hf hgg h1 h2 hab;have hha:hasF l a=true:=zeF hg hf
 have gb1:getF (putF l ⟨a,g.t,f.k+1⟩) b=some g:=by
  rw [zbp hg g1 (Ne.symm hab)];exact hgg
 have hhb1:hasF (putF l ⟨a,g.t,f.k+1⟩) b=true:=zeF g1 gb1
 have hn:(zfO l a b f g).map Fi.n=l.map Fi.n:=by
  show (putF (putF l ⟨a,g.t,f.k+1⟩) ⟨b,f.t,g.k+1⟩).map Fi.n=_;rw [znK (f:=⟨b,f.t,g.k+1⟩) hhb1,znK (f:=⟨a,g.t,f.k+1⟩) hha]
 have hlen:(zfO l a b f g).length=l.length:=by have:=congrArg List.length hn;simpa using this
 apply List.ext_getElem
 · simpa using hlen.symm
 · intro i i1 i2
   simp only [List.length_map] at i1;rw [List.getElem_map]
   have en:(zfO l a b f g)[i].n=l[i].n:=by
    have:=List.getElem_of_eq hn (i:=i) (by simpa using i2)
    simpa using this
   have gy:getF (zfO l a b f g) l[i].n=some (zfO l a b f g)[i]:=(g2.get_iff).2 ⟨List.getElem_mem i2,en⟩;have gl:getF l l[i].n=some l[i]:=(hg.get_iff).2 ⟨List.getElem_mem i1,rfl⟩;have e0:getF (zfO l a b f g) l[i].n=getF (putF (putF l ⟨a,g.t,f.k+1⟩) ⟨b,f.t,g.k+1⟩) l[i].n:=rfl;unfold zcN
   by_cases ca:l[i].n=a
   · rw [if_pos ca]
     have e1:getF (zfO l a b f g) a=some ⟨a,g.t,f.k+1⟩:=by
      show getF (putF (putF l ⟨a,g.t,f.k+1⟩) ⟨b,f.t,g.k+1⟩) a=_;rw [zbp g1 g2 (show ¬ a=(⟨b,f.t,g.k+1⟩:Fi).n from hab)];exact zfA hg g1
     rw [ca] at gl gy ⊢;rw [e1] at gy;rw [hf] at gl;rw [← Option.some.inj gy,← Option.some.inj gl]
   · rw [if_neg ca]
     by_cases cb:l[i].n=b
     · rw [if_pos cb]
       have e1:getF (zfO l a b f g) b=some ⟨b,f.t,g.k+1⟩:=zfA g1 g2;rw [cb] at gl gy ⊢;rw [e1] at gy;rw [hgg] at gl;rw [← Option.some.inj gy,← Option.some.inj gl]
     · rw [if_neg cb]
       have e1:getF (zfO l a b f g) l[i].n=getF l l[i].n:=by
        show getF (putF (putF l ⟨a,g.t,f.k+1⟩) ⟨b,f.t,g.k+1⟩) l[i].n=_;rw [zbp g1 g2 (show ¬ l[i].n=(⟨b,f.t,g.k+1⟩:Fi).n from cb),zbp hg g1 (show ¬ l[i].n=(⟨a,g.t,f.k+1⟩:Fi).n from ca)]
       rw [e1,gl] at gy;exact Option.some.inj gy
theorem znL:∀ (l:List Fi) (i:Nat) (h:i<l.length) (t:ByteArray),(flat l).set (i * 3+1) (.string t)=flat (l.set i ⟨l[i].n,t,l[i].k⟩)
 | z :: r,0,_,t=>by simp [flat]
 | z :: r,i+1,h,t=>by
   have:=znL r i (by simpa using h) t;simp only [List.set_cons_succ,List.getElem_cons_succ];show (flat (z :: r)).set _ _=flat (z :: _);have e:∀ (q:List Fi),flat (z :: q)=.string z.n :: .string z.t :: .int .i64 z.k :: flat q:=fun q=>by simp [flat]
   rw [e,e,← this];have e2:(i+1) * 3+1=(i * 3+1)+1+1+1:=by omega
   rw [e2];simp only [List.set_cons_succ]
theorem zkJ:∀ (l:List Fi) (i:Nat) (h:i<l.length) (k:Int),(flat l).set (i * 3+2) (.int .i64 k)=flat (l.set i ⟨l[i].n,l[i].t,k⟩)
 | z :: r,0,_,t=>by simp [flat]
 | z :: r,i+1,h,t=>by
   have:=zkJ r i (by simpa using h) t;simp only [List.set_cons_succ,List.getElem_cons_succ];show (flat (z :: r)).set _ _=flat (z :: _);have e:∀ (q:List Fi),flat (z :: q)=.string z.n :: .string z.t :: .int .i64 z.k :: flat q:=fun q=>by simp [flat]
   rw [e,e,← this];have e2:(i+1) * 3+2=(i * 3+2)+1+1+1:=by omega
   rw [e2];simp only [List.set_cons_succ]
theorem Owns.wrote (h:Owns w base (.slice (some ⟨B,0,none⟩) n cap) l)(hn:n=l.length)(hi:i<l.length)(t:ByteArray)(k:Int):
 Owns ((w.setCell ⟨B,i * 3+1,none⟩ (.string t)).setCell ⟨B,i * 3+2,none⟩ (.int .i64 k)) base (.slice (some ⟨B,0,none⟩) n cap) (l.set i ⟨l[i].n,t,k⟩):=by
 subst hn;have h1:=(World.ownsRow.stored h (i * 3+1) (.string t)).1;have h2:=(World.ownsRow.stored h1 (i * 3+2) (.int .i64 k)).1;rw [znL l i hi] at h2;have e:=zkJ (l.set i ⟨l[i].n,t,l[i].k⟩) i (by simpa using hi) k;rw [e] at h2;simp only [List.getElem_set_self,List.set_set] at h2;show World.ownsRow _ _ _ _ _ _ _;rw [List.length_set];exact h2
def zbo (φ:Fi→Fi)(l:List Fi)(k:Nat):List Fi:=(l.take k).map φ ++ l.drop k
theorem zk1 (φ:Fi→Fi)(l:List Fi)(k:Nat)(hk:k≤l.length):(zbo φ l k).length=l.length:=by
 simp only [zbo,List.length_append,List.length_map,List.length_take,List.length_drop];omega
theorem zmD (φ:Fi→Fi)(l:List Fi)(k:Nat)(hk:k<l.length)(h:k<(zbo φ l k).length):(zbo φ l k)[k]=l[k]:=by
 simp only [zbo];rw [List.getElem_append_right (by simp;omega)];simp only [List.length_map,List.length_take,List.getElem_drop]
 congr 1
 omega
theorem zjB (φ:Fi→Fi)(l:List Fi)(k:Nat)(hk:k<l.length):zbo φ l (k+1)=(zbo φ l k).set k (φ l[k]):=by
 unfold zbo;rw [zb8 l k hk,List.map_append,List.drop_eq_getElem_cons hk];rw [List.set_append_right _ _ (by simp;omega)];simp only [List.map_cons,List.map_nil,List.length_map,List.length_take,List.append_assoc,List.singleton_append];have e:k - min k l.length=0:=by omega
 rw [e,List.set_cons_zero]
theorem zoF (φ:Fi→Fi)(l:List Fi)(k:Nat)(hk:k<l.length)(h:φ l[k]=l[k]):zbo φ l (k+1)=zbo φ l k:=by
 rw [zjB φ l k hk,h];have h2:k<(zbo φ l k).length:=by rw [zk1 φ l k (by omega)];exact hk
 have e:=zmD φ l k hk h2;rw [← e];exact List.set_getElem_self h2
theorem zi5 (φ:Fi→Fi)(l:List Fi):zbo φ l 0=l:=by simp [zbo]
theorem zp4 (φ:Fi→Fi)(l:List Fi)(k:Nat)(hk:l.length≤k):zbo φ l k=l.map φ:=by
 unfold zbo;rw [zft l k hk,List.drop_of_length_le hk,List.append_nil]
theorem znS (a:Option Addr) (cap:Nat) (l:List Fi) (t:Int) (na nb:ByteArray) (w:World) (hq:zau l t) (hs:zad w a cap l) (hn:na.size≤maxLen) (hx:nb.size≤maxLen) :
 Calls Tryz.prog 71 #[.agg #[.slice a l.length cap,.int .i64 t],.string na,.string nb] w (zhx w (zbs l t na nb)):=by
 have HS:Hid (zad w a cap l):=hs;have HQ:Hid (zau l t):=hq;have hl:=hq.files.few;have ht0:=hq.low;have ht1:=hq.high;clear hs hq;generalize hr:zbs l t na nb=r;have HRN:Hid (zbs l t na nb=r):=hr;clear hr
 go_enter Tryz.func71,Tryz.ntmps71
 go_wp2_with fail
 refine (zbQ a cap l na _ (by unfold maxLen;omega) (by exact (HS.out.cells.alloc _).alloc _)).mono ?_;rintro e w1 ⟨rfl,hb⟩;have q1:QBox w1 w.heap.size (.slice a l.length cap) t:=((QBox.new w _ t _).alloc _).below hb (by simp;omega)
 have s1:QBox w1 (w.heap.size+1) (.slice none 0 0) 0:=by
  have:=QBox.new (w.alloc (.cells #[.slice a l.length cap,.int .i64 t] 32)) (.slice none 0 0) 0 32;rw [World.size_alloc] at this
  exact this.below hb (by simp)
 have HB1:Hid (Below w.heap.size w w1):=(((Below.refl _ _).alloc (Nat.le_refl _) _).alloc (by simp) _).trans (hb.mono (by simp;omega));have HS1:Hid (zad w1 a cap l):=HS.out.below HB1.out;have HQ1:Hid (QBox w1 w.heap.size (.slice a l.length cap) t):=q1;have HR1:Hid (QBox w1 (w.heap.size+1) (.slice none 0 0) 0):=s1;rw [zh3];generalize hgd:zdq (getF l na)=f;generalize hgb:(getF l na).isSome=fb;have HGF:Hid (zdq (getF l na)=f):=hgd;have HGB:Hid ((getF l na).isSome=fb):=hgb;clear hb hgd hgb s1;obtain ⟨x0,x1,_,_,xl,_⟩:=q1
 go_wp2_with fail
 refine (zbQ a cap l nb _ (by unfold maxLen;omega) (by exact HS1.out.cells.alloc _)).mono ?_;rintro e w2 ⟨rfl,hb⟩;rw [zh3];generalize hgd:zdq (getF l nb)=g;generalize hgb:(getF l nb).isSome=gb;have HGG:Hid (zdq (getF l nb)=g):=hgd;have HGC:Hid ((getF l nb).isSome=gb):=hgb;have HF2:Hid (FBox w2 w1.heap.size f):=(FBox.new w1 f _).below hb (by simp);have HQ2:Hid (QBox w2 w.heap.size (.slice a l.length cap) t):=(HQ1.out.alloc _).below hb (by simp;have:=HQ1.out.lt;omega);have HR2:Hid (QBox w2 (w.heap.size+1) (.slice none 0 0) 0):=(HR1.out.alloc _).below hb (by simp;have:=HR1.out.lt;omega);have HB2:Hid (Below w.heap.size w w2):=(HB1.out.alloc HB1.out.size _).trans (hb.mono (by simp;have:=HB1.out.size;omega));have HS2:Hid (zad w2 a cap l):=HS.out.below HB2.out;clear x0 x1 xl hb hgd hgb HQ1 HR1 HS1 HB1 HS;obtain ⟨x0,x1,_,_,xl,_⟩:=HQ2.out;obtain ⟨y0,y1,yf0,yf1,yl,yo⟩:=HR2.out;obtain ⟨z0,z1,z2,zf,zl⟩:=HF2.out;clear yo;cases fb with
 | false =>
   have hga:getF l na=none:=by have:=HGB.out;cases h:getF l na with | none=>rfl | some _=>rw [h] at this;cases this
   have HRR:Hid (r=⟨[],0,5⟩):=by show _=_;rw [← HRN.out];simp [zbs,hga,zd0]
   clear hga;go_wp2;rw [HRR.out];refine bodyPost_ret (v:=.tuple #[.agg #[.slice none 0 0,.int .i64 0],.int .i64 5]) (by simp [results,Tryz.results71,go_sem,y0,y1,yl]) rfl ⟨none,0,rfl,zad.nil _,?_⟩
   repeat (first | exact HB2.out | refine Below.setCell ?_ (Nat.le_succ _) _ | refine Below.alloc ?_ (by simp;have:=HB2.out.size;omega) _)
 | true =>
   have hga:getF l na=some f:=by have h1:=HGB.out;have h2:=HGF.out;cases h:getF l na with | none=>rw [h] at h1;cases h1 | some _=>rw [h] at h2;rw [← h2];rfl
   have HGA:Hid (getF l na=some f):=hga;clear hga;cases gb with
   | false =>
     have hgb:getF l nb=none:=by have:=HGC.out;cases h:getF l nb with | none=>rfl | some _=>rw [h] at this;cases this
     have HRR:Hid (r=⟨[],0,5⟩):=by show _=_;rw [← HRN.out];simp [zbs,HGA.out,hgb,zd0]
     clear hgb;go_wp2;rw [HRR.out];refine bodyPost_ret (v:=.tuple #[.agg #[.slice none 0 0,.int .i64 0],.int .i64 5]) (by simp [results,Tryz.results71,go_sem,y0,y1,yl]) rfl ⟨none,0,rfl,zad.nil _,?_⟩
     repeat (first | exact HB2.out | refine Below.setCell ?_ (Nat.le_succ _) _ | refine Below.alloc ?_ (by simp;have:=HB2.out.size;omega) _)
   | true =>
     have hgb:getF l nb=some g:=by have h1:=HGC.out;have h2:=HGG.out;cases h:getF l nb with | none=>rw [h] at h1;cases h1 | some _=>rw [h] at h2;rw [← h2];rfl
     have HGBB:Hid (getF l nb=some g):=hgb;have tf:=HQ.out.files.times (zbh HGA.out).1;have tg:=HQ.out.files.times (zbh hgb).1;obtain ⟨_,tf1,tf2,tf3⟩:=tf;obtain ⟨_,tg1,tg2,tg3⟩:=tg;clear hgb
     by_cases hfull:9999≤f.k∨9999≤g.k
     · have HRR:Hid (r=⟨[],0,7⟩):=by show _=_;rw [← HRN.out];simp [zbs,HGA.out,HGBB.out,hfull,zd0]
       have hd:(decide (9999≤f.k) || decide (9999≤g.k))=true:=by simpa using hfull
       by_cases h9:f.k=9999
       all_goals
        have h9':9999≤f.k∨9999≤g.k:=hfull;clear hfull hd
       · go_wp2
         rw [HRR.out];refine bodyPost_ret (v:=.tuple #[.agg #[.slice none 0 0,.int .i64 0],.int .i64 7]) (by simp [results,Tryz.results71,go_sem,y0,y1,yl]) rfl ⟨none,0,rfl,zad.nil _,?_⟩
         repeat (first | exact HB2.out | refine Below.setCell ?_ (Nat.le_succ _) _ | refine Below.alloc ?_ (by simp;have:=HB2.out.size;omega) _)
       · have h9g:g.k=9999:=by omega
         clear h9';go_wp2;rw [HRR.out];refine bodyPost_ret (v:=.tuple #[.agg #[.slice none 0 0,.int .i64 0],.int .i64 7]) (by simp [results,Tryz.results71,go_sem,y0,y1,yl]) rfl ⟨none,0,rfl,zad.nil _,?_⟩
         repeat (first | exact HB2.out | refine Below.setCell ?_ (Nat.le_succ _) _ | refine Below.alloc ?_ (by simp;have:=HB2.out.size;omega) _)
     · have h9 : f.k<9999:=by omega
       have h9g:g.k<9999:=by omega
       have h9e:¬ f.k=9999:=by omega
       have h9ge:¬ g.k=9999:=by omega
       clear hfull;have hq1:(f.k == 9999)=false:=by simp;omega
       have hq2:(g.k == 9999)=false:=by simp;omega
       clear h9e h9ge;have HG2:Hid (FBox (w2.alloc (.cells #[.string g.n,.string g.t,.int .i64 g.k] 98)) w2.heap.size g):=FBox.new w2 g _
       go_wp2_with (at_builtin;refine zn4 rfl _ _ rfl _ a cap l (by omega) (by exact (HS2.out.below ((Below.refl _ _).alloc (Nat.le_refl _) _)).slice) rfl rfl ?_;intro v w3 hown hb)
       have hlen0:0<l.length:=List.length_pos_of_mem (zbh HGA.out).1;have hHO:=hown;rcases hown.2 with ⟨_,h0⟩ | ⟨B,cap3,cur,rfl,hB,_⟩
       · omega
       generalize hbase:(w2.alloc (.cells #[.string g.n,.string g.t,.int .i64 g.k] 98)).heap.size=base at *;rw [World.size_alloc] at hbase;have HO3:Hid (Owns w3 base (.slice (some ⟨B,0,none⟩) l.length cap3) l):=hHO;have HQ3:Hid (QBox w3 w.heap.size (.slice a l.length cap) t):=(HQ2.out.alloc _).below hb (by have:=HQ2.out.lt;omega);have HR3:Hid (QBox w3 (w.heap.size+1) (.slice none 0 0) 0):=(HR2.out.alloc _).below hb (by have:=HR2.out.lt;omega);have HF3:Hid (FBox w3 w1.heap.size f):=(HF2.out.alloc _).below hb (by have:=HF2.out.lt;omega);have HG3:Hid (FBox w3 w2.heap.size g):=HG2.out.below hb (by omega);have HB3:Hid (Below w.heap.size w w3):=(HB2.out.alloc HB2.out.size _).trans (hb.mono (by have:=HB2.out.size;omega));have hw12:w1.heap.size<base:=by have:=HF2.out.lt;omega
       have hw22:w2.heap.size<base:=by omega
       have hww:w.heap.size+1<base:=by have:=HR2.out.lt;omega
       clear hown hHO hb hbase HF2 HG2 HQ2 HR2 HB2 HS2 x0 x1 xl y0 y1 yf0 yf1 yl z0 z1 z2 zf zl
       have HEND:Hid (∀ k,k≤l.length→(na=nb→k=0)→(na=nb∨l.length≤k)→r=zcy t (zbo (zcN na nb f g) l k) 0):=by
        intro k hk hz hend;rw [← HRN.out];simp only [zbs,HGA.out,HGBB.out];rw [if_neg (by omega)]
        by_cases hab:na=nb
        · rw [if_pos hab,hz hab,zi5];simp [zcy]
        · rw [if_neg hab,zp4 _ _ _ (by rcases hend with h | h;exact absurd h hab;exact h),zty HQ.out.files HGA.out HGBB.out h9 h9g hab];simp [zcy]
       have HZ:Hid (∀ z ∈ l,1≤z.k∧z.k≤9999):=fun z hz=>(HQ.out.files.times hz).2.2
       go_loopw [13] (fun i wr=>∃ k:Nat,k≤l.length∧i=.int .i64 k∧Owns wr base (.slice (some ⟨B,0,none⟩) l.length cap3) (zbo (zcN na nb f g) l k)∧Below base w3 wr∧(na=nb→k=0)) (fun i _=>l.length - (intOf i).toNat)
       case atStart=>exact ⟨0,Nat.zero_le _,rfl,by rw [zi5];exact HO3.out,Below.refl _ _,fun _=>rfl⟩
       case round =>
        obtain ⟨k,hk,rfl,ho,hbw,hzero⟩:=hrel;have HO:Hid (Owns wr base (.slice (some ⟨B,0,none⟩) l.length cap3) (zbo (zcN na nb f g) l k)):=ho;have HBW:Hid (Below base w3 wr):=hbw;have HZE:Hid (na=nb→k=0):=hzero;clear ho hbw hzero;have fin:∀ (hend:na=nb∨l.length≤k),Hid (r=zcy t (zbo (zcN na nb f g) l k) 0):=fun h=>HEND.out k hk HZE.out h
        have hsl:=zk1 (zcN na nb f g) l k hk
        by_cases hab:na=nb
        · have hE:(na.toList == nb.toList)=true:=zbE hab
          have HRR:=fin (.inl hab);clear fin hab;generalize zbo (zcN na nb f g) l k=m at *;have q3:=HQ3.out.below HBW.out (by omega);have HR4:Hid (QBox wr (w.heap.size+1) (.slice none 0 0) 0):=HR3.out.below HBW.out hww;have HB4:Hid (Below w.heap.size w wr):=HB3.out.trans (HBW.out.mono (by omega));obtain ⟨x0,x1,_,_,xl,_⟩:=q3
          have hsm:zad wr (some ⟨B,0,none⟩) cap3 m:=by
           obtain ⟨a',cap',e,h⟩:=Owns.filesIn HO.out;rw [← hsl] at e;cases e;exact h
          have HSM:Hid (zad wr (some ⟨B,0,none⟩) cap3 m):=hsm;clear hsm;have hnx:=zf4 t (some ⟨B,0,none⟩) cap3 m 0 wr (by omega) ⟨by decide,by decide⟩ a l.length cap HSM.out;rw [hsl] at hnx
          go_wp2_with (go_at_call 68
                       refine hnx.mono ?_;rintro e w6 ⟨a6,cap6,rfl,hs6,hb⟩;rw [← HRR.out];rw [← HRR.out] at hs6;have s6:=HR4.out.below hb HR4.out.lt;have HB6:Hid (Below w.heap.size w w6):=HB4.out.trans (hb.mono HB4.out.size);have HS6:Hid (zad w6 a6 cap6 r.l):=hs6;clear hb hs6;obtain ⟨y0,y1,yf0,yf1,yl,yo⟩:=s6;have HYO:Hid (∀ o,2≤o→w6.cell? ⟨w.heap.size+1,o,none⟩=none):=yo;clear yo;clear hnx)
          all_goals
           all_goals
            refine bodyPost_ret (v:=.tuple #[.agg #[.slice a6 r.l.length cap6,.int .i64 r.t],.int .i64 r.n]) (by simp [results,Tryz.results71,go_sem,y0,y1,yl]) rfl ⟨a6,cap6,rfl,?_,?_⟩
            · exact HS6.out.store2 HYO.out _ _
            · exact (HB6.out.setCell (Nat.le_succ _) _).setCell (Nat.le_succ _) _
        · have hE : (na.toList == nb.toList)=false:=zaS hab
          by_cases hlt:k<l.length
          · clear fin
            have hE0:(nb.toList == na.toList)=false:=zaS (Ne.symm hab);obtain ⟨hk0,hk1⟩:=HZ.out l[k] (List.getElem_mem hlt);have hlt2:k<(zbo (zcN na nb f g) l k).length:=by omega
            have hat:=zmD (zcN na nb f g) l k hlt hlt2;obtain ⟨e0,e1,e2⟩:=zlQ _ k hlt2;rw [hat] at e0 e1 e2;have hcut:(zbo (zcN na nb f g) l k).length=l.length:=hsl;have ho':wr.ownsRow base 98 3 (.slice (some ⟨B,0,none⟩) (zbo (zcN na nb f g) l k).length cap3) (zbo (zcN na nb f g) l k).length (flat (zbo (zcN na nb f g) l k)):=by rw [hcut];have:=HO.out;rw [show Owns wr base (.slice (some ⟨B,0,none⟩) l.length cap3) (zbo (zcN na nb f g) l k)=wr.ownsRow base 98 3 (.slice (some ⟨B,0,none⟩) l.length cap3) (zbo (zcN na nb f g) l k).length (flat (zbo (zcN na nb f g) l k)) from rfl,hcut] at this;exact this
            have c0:wr.cell? ⟨B,k * 3,none⟩=some (.string l[k].n):=by rw [ho'.cellAt (k * 3) (by omega)];exact e0
            have c1:wr.cell? ⟨B,k * 3+1,none⟩=some (.string l[k].t):=by rw [ho'.cellAt (k * 3+1) (by omega)];exact e1
            have c2:wr.cell? ⟨B,k * 3+2,none⟩=some (.int .i64 l[k].k):=by rw [ho'.cellAt (k * 3+2) (by omega)];exact e2
            have fz:∀ j,wr.frozen? ⟨B,j,none⟩=false:=fun j=>ho'.frozenAt j
            have fz1:=fz (k * 3+1);have fz2:=fz (k * 3+2);have hbl:B<wr.heap.size:=World.block_lt_of_cell? _ _ c0;have hwr:IntKind.i64.wrap (l[k].k+1)=l[k].k+1:=by rw [IntKind.wrap_i64];omega
            have f3:=HF3.out.below HBW.out hw12;have g3:=HG3.out.below HBW.out hw22;obtain ⟨p0,p1,p2,_,pl⟩:=f3;obtain ⟨q0,q1,q2,_,ql⟩:=g3;have hne1:B≠w1.heap.size:=by omega
            have hne2:B≠w2.heap.size:=by omega
            clear e0 e1 e2 ho' fz
            have hφ:∀ z,z=l[k]→(z.n=na→zcN na nb f g z=⟨z.n,g.t,z.k+1⟩)∧(¬ z.n=na→z.n=nb→zcN na nb f g z=⟨z.n,f.t,z.k+1⟩)∧(¬ z.n=na→¬ z.n=nb→zcN na nb f g z=z):=by
             intro z _;unfold zcN;exact ⟨fun h=>by rw [if_pos h],fun h h2=>by rw [if_neg h,if_pos h2],fun h h2=>by rw [if_neg h,if_neg h2]⟩
            obtain ⟨φ1,φ2,φ3⟩:=hφ l[k] rfl
            have hnk:∀ t' k',zcN na nb f g l[k]=⟨l[k].n,t',k'⟩→zbo (zcN na nb f g) l (k+1)=(zbo (zcN na nb f g) l k).set k ⟨(zbo (zcN na nb f g) l k)[k].n,t',k'⟩:=by
             intro t' k' h;rw [zjB _ _ _ hlt,h,hat]
            by_cases ca:l[k].n=na
            · have hA:(l[k].n.toList == na.toList)=true:=zbE ca
              have hB2:(l[k].n.toList == nb.toList)=false:=zaS (by rw [ca];exact hab);have HN:Hid (zbo (zcN na nb f g) l (k+1)=_):=hnk _ _ (φ1 ca);clear ca φ1 φ2 φ3 hφ hnk hab;go_wp2;refine ⟨⟨k+1,by omega,by go_num,?_,?_,fun h=>absurd h (by intro h;rw [zbE h] at hE;cases hE)⟩,by simp [intOf];omega⟩
              · rw [HN.out]
                exact HO.out.wrote hsl.symm hlt2 _ _
              · exact (HBW.out.setCell hB _).setCell hB _
            · have hA:(l[k].n.toList == na.toList)=false:=zaS ca
              by_cases cb:l[k].n=nb
              · have hB2:(l[k].n.toList == nb.toList)=true:=zbE cb
                have HN:Hid (zbo (zcN na nb f g) l (k+1)=_):=hnk _ _ (φ2 ca cb);clear ca cb φ1 φ2 φ3 hφ hnk hab;go_wp2;refine ⟨⟨k+1,by omega,by go_num,?_,?_,fun h=>absurd h (by intro h;rw [zbE h] at hE;cases hE)⟩,by simp [intOf];omega⟩
                · rw [HN.out]
                  exact HO.out.wrote hsl.symm hlt2 _ _
                · exact (HBW.out.setCell hB _).setCell hB _
              · have hB2:(l[k].n.toList == nb.toList)=false:=zaS cb
                have HN:Hid (zbo (zcN na nb f g) l (k+1)=zbo (zcN na nb f g) l k):=zoF _ _ _ hlt (φ3 ca cb);clear ca cb φ1 φ2 φ3 hφ hnk hab;go_wp2;refine ⟨⟨k+1,by omega,by go_num,?_,HBW.out,fun h=>absurd h (by intro h;rw [zbE h] at hE;cases hE)⟩,by simp [intOf];omega⟩;rw [HN.out];exact HO.out
          · have HRR:=fin (.inr (by omega))
            clear fin;generalize zbo (zcN na nb f g) l k=m at *;have q3:=HQ3.out.below HBW.out (by omega);have HR4:Hid (QBox wr (w.heap.size+1) (.slice none 0 0) 0):=HR3.out.below HBW.out hww;have HB4:Hid (Below w.heap.size w wr):=HB3.out.trans (HBW.out.mono (by omega));obtain ⟨x0,x1,_,_,xl,_⟩:=q3
            have hsm:zad wr (some ⟨B,0,none⟩) cap3 m:=by
             obtain ⟨a',cap',e,h⟩:=Owns.filesIn HO.out;rw [← hsl] at e;cases e;exact h
            have HSM:Hid (zad wr (some ⟨B,0,none⟩) cap3 m):=hsm;clear hsm;have hnx:=zf4 t (some ⟨B,0,none⟩) cap3 m 0 wr (by omega) ⟨by decide,by decide⟩ a l.length cap HSM.out;rw [hsl] at hnx
            go_wp2_with (go_at_call 68
                         refine hnx.mono ?_;rintro e w6 ⟨a6,cap6,rfl,hs6,hb⟩;rw [← HRR.out];rw [← HRR.out] at hs6;have s6:=HR4.out.below hb HR4.out.lt;have HB6:Hid (Below w.heap.size w w6):=HB4.out.trans (hb.mono HB4.out.size);have HS6:Hid (zad w6 a6 cap6 r.l):=hs6;clear hb hs6;obtain ⟨y0,y1,yf0,yf1,yl,yo⟩:=s6;have HYO:Hid (∀ o,2≤o→w6.cell? ⟨w.heap.size+1,o,none⟩=none):=yo;clear yo;clear hnx)
            refine bodyPost_ret (v:=.tuple #[.agg #[.slice a6 r.l.length cap6,.int .i64 r.t],.int .i64 r.n]) (by simp [results,Tryz.results71,go_sem,y0,y1,yl]) rfl ⟨a6,cap6,rfl,?_,?_⟩
            · exact HS6.out.store2 HYO.out _ _
            · exact (HB6.out.setCell (Nat.le_succ _) _).setCell (Nat.le_succ _) _
end Go.Proofs.YtihnghnafpgdfadGreatDoor
namespace Go.Proofs.YtihnghnafpgdfadGreatDoor
open Go Go.RowKit Go.BigFrame
variable {t:Int}{l:List Fi}{f g:Fi}{a b line name s text v x:ByteArray}{W W' w:World}{B Z base cap i k n size:Nat}{r:List ByteArray}{row:Option Nat}{C:Array Value}{T e:TypeId}{fr:Nat × Nat}
def okB:ByteArray:=⟨#[111,107]⟩
def zaX (r:Res)(l:List Fi)(t:Int):ByteArray × List Fi × Int:=if r.n=0 then (okB,r.l,r.t) else (errT r.n,l,t)
def zb7 (l:List Fi)(name:ByteArray):ByteArray:=match getF l name with
 | some f=>ziG [zbW f.t,⟨(Lib.itoa f.k).toArray⟩]
 | none=>errT 5
def zb2 (which word:ByteArray):ByteArray:=if ¬ (zbR word).2=0 then errT 4 else if ¬ (zby which).2=0 then errT (zby which).2 else okB
def zeG (name word:ByteArray)(l:List Fi)(t:Int):ByteArray × List Fi × Int:=if (zbi word).2=0 then zaX (zaG l t name (zbi word).1) l t else (errT (zbi word).2,l,t)
def zcp (word:ByteArray):ByteArray:=if (zby word).2=0 then ⟨#[45]⟩ else errT (zby word).2
def zc0 (f:Fi):ByteArray:=f.n ++ ⟨#[61]⟩ ++ zbW f.t
def zdx (l:List Fi):ByteArray:=ziG (l.map zc0)
def allB:ByteArray:=⟨#[97,108,108]⟩
def zr1:ByteArray:=⟨#[116,117,114,110]⟩
def zjJ:ByteArray:=⟨#[115,99,114,117,98]⟩
def zrw:ByteArray:=⟨#[111,112,101,110]⟩
def zrY:ByteArray:=⟨#[100,114,111,112]⟩
def zrG:ByteArray:=⟨#[114,101,97,100]⟩
def zoY:ByteArray:=⟨#[100,105,102,102]⟩
def znq:ByteArray:=⟨#[119,114,105,116,101]⟩
def zrb:ByteArray:=⟨#[110,97,109,101]⟩
def zsz:ByteArray:=⟨#[115,119,97,112]⟩
def armB:ByteArray:=⟨#[97,114,109]⟩
def zml:ByteArray:=⟨#[114,101,115,116,97,114,116]⟩
def zpj:ByteArray:=⟨#[115,112,111,105,108]⟩
def zcu (v:ByteArray)(l:List Fi)(t:Int):ByteArray × List Fi × Int :=
 if v=allB then (zdx l,l,t) else if v=zr1 then (⟨(Lib.itoa t).toArray⟩,l,t) else if v=zjJ then (⟨(Lib.itoa 0).toArray⟩,l,t) else if v=zrw then (⟨(Lib.itoa 0).toArray⟩,l,t) else (errT 4,l,t)
def oneC (v x:ByteArray)(l:List Fi)(t:Int):ByteArray × List Fi × Int :=
 if v=zrY then zaX (zbb l t x) l t else if v=zrG then (zb7 l x,l,t) else if v=zoY then (zcp x,l,t) else (errT 4,l,t)
def twoC (v x y:ByteArray)(l:List Fi)(t:Int):ByteArray × List Fi × Int :=
 if v=znq then zeG x y l t else if v=zrb then zaX (zax l t x y) l t else if v=zsz then zaX (zbs l t x y) l t else if v=zml then (zb2 x y,l,t) else (errT 4,l,t)
def sayC (line:ByteArray) (l:List Fi) (t:Int):ByteArray × List Fi × Int :=
 if 50<line.size then (errT 4,l,t) else match zaP line with
  | [v]=>zcu v l t
  | [v,x]=>oneC v x l t
  | [v,x,y]=>twoC v x y l t
  | _=>(errT 4,l,t)
theorem zgh (s:ByteArray):(zbW s).size≤s.size+1:=by
 unfold zbW
 split
 · exact Nat.le_trans (by decide) (Nat.le_add_left 1 s.size)
 · omega
theorem zkF (f:Fi):(zc0 f).size≤f.n.size+f.t.size+2:=by
 unfold zc0;have:=zgh f.t;simp only [ByteArray.size_append];have h1:(⟨#[61]⟩:ByteArray).size=1:=rfl;omega
theorem zpc:∀ (r:List (List UInt8)) (n:Nat),(∀ x ∈ r,x.length≤n)→(Lib.joinTail [32] r).length≤r.length * (n+1)
 | [],n,_=>by simp [Lib.joinTail]
 | y :: r,n,h=>by
   have h1:=h y (by simp);have h2:=zpc r n (fun z hz=>h z (by simp [hz]));simp only [Lib.joinTail,List.map_cons,List.flatten_cons,List.length_append,List.length_cons,List.length_nil] at h2 ⊢;have:(r.length+1) * (n+1)=r.length * (n+1)+(n+1):=Nat.succ_mul _ _;omega
theorem zpk (l:List (List UInt8))(n:Nat)(h:∀ x ∈ l,x.length≤n):(Lib.join l [32]).length≤l.length * (n+1):=by
 cases l with
 | nil=>simp [Lib.join_nil]
 | cons x r =>
   have h1:=h x (by simp);have h2:=zpc r n (fun z hz=>h z (by simp [hz]));rw [Lib.join_cons,List.length_append,List.length_cons,Nat.succ_mul];omega
theorem ztF {l:List UInt8}(h:zbq l=0):l.length≤6:=by
 unfold zbq at h
 split at h
 · cases h
 · split at h
   · split at h
     · cases h
     · omega
   · cases h
theorem zgc (hg:Good l)(hf:f ∈ l):f.n.size≤6∧f.t.size≤12:=by
 obtain ⟨h1,h2,-⟩:=hg.times hf;exact ⟨ztF h1,h2⟩
def zi4 (line:ByteArray):Prop:=(∀ m,line.data.toList≠[97,114,109,32] ++ m)∧∀ m,line.data.toList≠[115,112,111,105,108,32] ++ m
theorem zjK:∀ (l a b:List UInt8) (r:List (List UInt8)),zck l=a :: b :: r→∃ m,l=a ++ 32 :: m
 | [],a,b,r,h=>by simp [zck] at h
 | c :: l,a,b,r,h=>by
   rw [zck] at h
   by_cases hc:c=32
   · rw [if_pos hc] at h
     injection h with h1 h2
     exact ⟨l,by rw [hc,← h1];rfl⟩
   · rw [if_neg hc] at h
     cases hw:zck l with
     | nil=>rw [hw] at h;simp at h
     | cons x y =>
       rw [hw] at h;simp at h;obtain ⟨h1,h2⟩:=h;obtain ⟨m,hm⟩:=zjK l x b r (by rw [hw,h2]);exact ⟨m,by rw [← h1,hm];rfl⟩
theorem zo7 (h:zaP line=v :: x :: r):∃ m,line.data.toList=v.data.toList ++ 32 :: m:=by
 unfold zaP at h;cases hw:zck line.data.toList with
 | nil=>rw [hw] at h;simp at h
 | cons p q =>
   cases q with
   | nil=>rw [hw] at h;simp at h
   | cons q r2 =>
     rw [hw] at h;simp at h;obtain ⟨m,hm⟩:=zjK _ _ _ _ hw;exact ⟨m,by rw [hm,← h.1]⟩
theorem zi4.arm (hc:zi4 line)(h:zaP line=v :: x :: r):v≠armB∧v≠zpj:=by
 obtain ⟨m,hm⟩:=zo7 h;refine ⟨fun e=>?_,fun e=>?_⟩
 · subst e;exact hc.1 m (by rw [hm];rfl)
 · subst e;exact hc.2 m (by rw [hm];rfl)
theorem zhw:∀ (l:List UInt8) (a:List UInt8),a ∈ zck l→a.length≤l.length
 | [],a,h=>by simp [zck] at h;rw [h];exact Nat.le_refl _
 | c :: l,a,h=>by
   rw [zck] at h
   by_cases hc:c=32
   · rw [if_pos hc] at h
     rcases List.mem_cons.1 h with rfl | h
     · exact Nat.zero_le _
     · exact Nat.le_succ_of_le (zhw l a h)
   · rw [if_neg hc] at h
     cases hw:zck l with
     | nil=>rw [hw] at h;simp at h;rw [h];simp
     | cons x y =>
       rw [hw] at h;simp at h;rcases h with rfl | h
       · have:=zhw l x (by rw [hw];simp)
         simp;omega
       · have:=zhw l a (by rw [hw];simp [h])
         simp;omega
theorem zeK (h:x ∈ zaP line):x.size≤line.size:=by
 unfold zaP at h;obtain ⟨y,hy,rfl⟩:=List.mem_map.1 h;exact zhw _ _ hy
theorem zbt (c:Array UInt8)(h:s≠⟨c⟩):(s.toList == c.toList)=false:=by
 have h:=zaS h;rw [ByteArray.toList_eq ⟨c⟩] at h;exact h
theorem zn6 {f i:Nat}(hi:i<s.size)(hfi:f≤i)(hc:s[i]=32)(hno:∀ c ∈ (s.data.toList.drop f).take (i - f),c≠32):
 (zck (s.data.toList.drop f)).map (fun l=>(⟨l.toArray⟩:ByteArray))=s.extract f i :: (zck (s.data.toList.drop (i+1))).map (fun l=>(⟨l.toArray⟩:ByteArray)):=by
 have hl:s.data.toList.length=s.size:=by simp
 have e1:s.data.toList.drop f=(s.data.toList.drop f).take (i - f) ++ 32 :: s.data.toList.drop (i+1):=by
  have hlt:i - f<(s.data.toList.drop f).length:=by rw [List.length_drop,hl];omega
  have hg:(s.data.toList.drop f)[i - f]=32:=by
   rw [List.getElem_drop];have:s.data.toList[f+(i - f)]'(by rw [hl];omega)=s.data.toList[i]'(by rw [hl];omega):=by congr 1;omega
   rw [this];exact hc
  have h:=(List.take_append_drop (i - f) (s.data.toList.drop f)).symm;rw [List.drop_eq_getElem_cons hlt,hg,List.drop_drop] at h;rw [show f+(i - f+1)=i+1 by omega] at h;exact h
 rw [e1,zi1 hno,List.map_cons]
 congr 1
 apply toList_inj
 rw [ByteArray.toList_eq,ByteArray.toList_eq];show (s.data.toList.drop f).take (i - f)=_;rw [ByteArray.data_extract,Array.toList_extract,List.extract_eq_take_drop]
theorem zqH {f:Nat}(hno:∀ c ∈ (s.data.toList.drop f).take (s.size - f),c≠32):
 (zck (s.data.toList.drop f)).map (fun l=>(⟨l.toArray⟩:ByteArray))=[s.extract f s.size]:=by
 have hl:s.data.toList.length=s.size:=by simp
 have e1:(s.data.toList.drop f).take (s.size - f)=s.data.toList.drop f:=by rw [List.take_of_length_le (by rw [List.length_drop,hl];exact Nat.le_refl _)]
 rw [e1] at hno;rw [zgM hno,List.map_cons,List.map_nil]
 congr 1
 apply toList_inj
 rw [ByteArray.toList_eq,ByteArray.toList_eq];show s.data.toList.drop f=_;rw [ByteArray.data_extract,Array.toList_extract,List.extract_eq_take_drop,e1]
theorem zub {f i:Nat}(hi:i<s.size)(hfi:f≤i)(hc:¬ s[i]=32)(hno:∀ c ∈ (s.data.toList.drop f).take (i - f),c≠32):∀ c ∈ (s.data.toList.drop f).take (i+1 - f),c≠32:=by
 have hl:s.data.toList.length=s.size:=by simp
 intro c hm;rw [show i+1 - f=(i - f)+1 by omega,List.take_add_one,List.mem_append] at hm;rcases hm with hm | hm
 · exact hno c hm
 · rw [List.getElem?_drop,show f+(i - f)=i by omega,List.getElem?_eq_getElem (by rw [hl];exact hi)] at hm
   simp at hm;rw [hm];exact hc
theorem zel (s:ByteArray) (w:World) (hs:s.size≤100) :
 Calls Tryz.prog 38 #[.string s] w fun e w'=>∃ v,e=.returned v∧za0 w' w.heap.size v (zaP s)∧Below w.heap.size w w':=by
 obtain ⟨i0,hi,hz0,hz1,hz2⟩:=info_parts Tryz.infoString
 go_enter Tryz.func38,Tryz.ntmps38
 go_wp2_with fail
 go_loopg [3,4,5] (s.size+1) (fun kx vl vf vi wr=>∃ (f i:Nat) (L:List ByteArray),vf=.int .i64 f∧vi=.int .i64 i∧f≤i∧i≤s.size∧s.size - i≤kx∧Hid (L.length≤f)∧Hid (L ++ (zck (s.data.toList.drop f)).map (fun l=>(⟨l.toArray⟩:ByteArray))=zaP s)∧Hid (∀ c ∈ (s.data.toList.drop f).take (i - f),c≠32)∧Hid (za0 wr w.heap.size vl L)∧Hid (Below w.heap.size w wr))
 case atStart=>exact ⟨0,0,[],rfl,rfl,Nat.le_refl _,Nat.zero_le _,by omega,Nat.zero_le _,rfl,(fun c h=>by simp at h),World.ownsRow_nil _ _ _ _,Below.refl _ _⟩
 case round =>
  obtain ⟨f,i,L,rfl,rfl,hfi,his,hkx,HLL,HL,HN,HO,HB⟩:=hrel
  by_cases hlt:i<s.size
  · have hltz:(i:Int)<(s.size:Int):=by omega
    by_cases hc:s[i]=32
    · have hn32:s[i].toNat=32:=by rw [hc];rfl
      have HL2:Hid ((L ++ [s.extract f i]) ++ (zck (s.data.toList.drop (i+1))).map (fun l=>(⟨l.toArray⟩:ByteArray))=zaP s):=by show _=_;rw [← HL.out,zn6 hlt hfi hc HN.out];simp
      have hL9:L.length≤100:=by have:=HLL.out;omega
      clear hc
      go_wp2_with (at_builtin;refine wpList_append_own _ rfl _ _ 34 rfl w.heap.size 9 i0 _ 1 16 Tryz.underlying34 hi hz0 hz1 hz2 rfl (by decide) _ _ _ rfl (HO.out.alloc _) ⟨wr.heap.size,0,none⟩ 1 1 [.string (s.extract f i)] rfl rfl (zbz wr (.string (s.extract f i)) 9) (zfL (s.extract f i)) (by unfold maxLen;omega) (by omega) (by simp;have:=HB.out.size;omega) ?_;intro v' w3 hown' hgrow3 hnil3)
      go_roundg (s.size - (i+1))
      case measure=>omega
      case rel=>exact ⟨i+1,i+1,_,by go_num,by go_num,Nat.le_refl _,by omega,Nat.le_refl _,by (show _≤_;have:=HLL.out;simp;omega),HL2,(fun c h=>by simp at h),za0.snoc hown',(HB.out.alloc HB.out.size _).grown hgrow3 (by simp;have:=HB.out.size;omega) (fun q hq=>(HO.out.lt q hq).1)⟩
    · have hn32:¬ s[i].toNat=32:=fun e=>hc (UInt8.toNat_inj.1 (by rw [e];rfl))
      have HN2:Hid (∀ c ∈ (s.data.toList.drop f).take (i+1 - f),c≠32):=zub hlt hfi hc HN.out;clear hc;go_wp2
      go_roundg (s.size - (i+1))
      case measure=>omega
      case rel=>exact ⟨f,i+1,L,rfl,by go_num,by omega,by omega,Nat.le_refl _,HLL,HL,HN2,HO,HB⟩
  · have hi9:i=s.size:=by omega
    subst hi9;have HL2:Hid (L ++ [s.extract f s.size]=zaP s):=by show _=_;rw [← HL.out,zqH HN.out]
    have hL9:L.length≤100:=by have:=HLL.out;omega
    go_wp2_with (at_builtin;refine wpList_append_own _ rfl _ _ 34 rfl w.heap.size 9 i0 _ 1 16 Tryz.underlying34 hi hz0 hz1 hz2 rfl (by decide) _ _ _ rfl (HO.out.alloc _) ⟨wr.heap.size,0,none⟩ 1 1 [.string (s.extract f s.size)] rfl rfl (zbz wr (.string (s.extract f s.size)) 9) (zfL (s.extract f s.size)) (by unfold maxLen;omega) (by omega) (by simp;have:=HB.out.size;omega) ?_;intro v' w3 hown' hgrow3 hnil3)
    go_ret;refine ⟨_,rfl,?_,(HB.out.alloc HB.out.size _).grown hgrow3 (by simp;have:=HB.out.size;omega) (fun q hq=>(HO.out.lt q hq).1)⟩;rw [← HL2.out];exact za0.snoc hown'
def natV (s:ByteArray):Int:=match natC s with
 | some n=>n
 | none => -1
theorem zht (h:¬ zr5 s.data.toList):natV s = -1:=by
 unfold natV natC;rw [if_neg h]
theorem znv {l:List UInt8}(hi:i<l.length):valL (l.take (i+1))=10 * valL (l.take i)+(l[i].toNat - 48):=by
 rw [← znO,← zb8 l i hi]
theorem zrq:∀ (i:Nat) (l:List UInt8),i≤l.length→zir (l.take i)→valL (l.take i)<10 ^ i
 | 0,l,_,_=>by simp [valL]
 | i+1,l,h,hd=>by
   have h1:=zrq i l (by omega) (fun c hc=>hd c (by rw [zb8 l i (by omega)];exact List.mem_append_left _ hc));have h2:=hd l[i] (by rw [zb8 l i (by omega)];exact List.mem_append_right _ (List.mem_singleton.2 rfl));rw [znv (by omega),Nat.pow_succ];omega
theorem zgJ (s:ByteArray) (w:World) (hs:s.size≤100) :
 Calls Tryz.prog 42 #[.string s,.int .i64 999] w fun e w'=>e=.returned (.int .i64 (natV s))∧w'=w:=by
 have hl:s.data.toList.length=s.size:=by simp
 by_cases h1:s.size<1
 · have HX:Hid (natV s = -1):=zht (fun h=>by have:=h.1;omega)
   have h1z:(s.size:Int)<1:=by omega
   go_enter Tryz.func42,Tryz.ntmps42
   go_wp2;go_ret;exact ⟨zca HX.out.symm,rfl⟩
 have h1z:¬ (s.size:Int)<1:=by omega
 by_cases h9:9<s.size
 · have HX:Hid (natV s = -1):=zht (fun h=>by have:=h.2.1;omega)
   have h9z:9<(s.size:Int):=by omega
   go_enter Tryz.func42,Tryz.ntmps42
   go_wp2;go_ret;exact ⟨zca HX.out.symm,rfl⟩
 have h9z:¬ 9<(s.size:Int):=by omega
 have h0s:0<s.size:=by omega
 have hget:s.data.toList[0]?=some s[0]:=by rw [List.getElem?_eq_getElem (by rw [hl];omega)];rfl
 by_cases h0:s[0].toNat=48∧1<s.size
 · have HX:Hid (natV s = -1):=zht (fun h=>h.2.2.2.1 (by omega) (by rw [hget];congr 1;exact UInt8.toNat_inj.1 (by rw [h0.1];rfl)))
   obtain ⟨ha,hb⟩:=h0;have hbz:1<(s.size:Int):=by omega
   go_enter Tryz.func42,Tryz.ntmps42
   go_wp2;go_ret;exact ⟨zca HX.out.symm,rfl⟩
 have H0:Hid (s.data.toList.length > 1→s.data.toList[0]?≠some 48):=fun hgt e=>h0 ⟨by rw [hget] at e;rw [Option.some.inj e];rfl,by omega⟩
 have hbs:¬ 1<s.size→s[0].toNat=48→¬ 1<(s.size:Int):=fun h _=>by omega
 have hcs:(¬ s[0].toNat=48)∨(s[0].toNat=48∧¬ 1<(s.size:Int)):=by
  by_cases e:s[0].toNat=48
  · exact .inr ⟨e,by omega⟩
  · exact .inl e
 clear hbs h0 hget;have HL:Hid (s.data.toList.length=s.size):=hl;have HSZ:Hid (1≤s.size∧s.size≤9):=⟨by omega,by omega⟩;clear hl;rcases hcs with ha | ⟨ha,hb⟩
 all_goals
  go_enter Tryz.func42,Tryz.ntmps42
  go_wp2_with fail
  go_loopg [5,6] (s.size+1) (fun kx vn vi wr=>∃ i:Nat,vn=.int .i64 (valL (s.data.toList.take i):Nat)∧vi=.int .i64 i∧i≤s.size∧s.size - i≤kx∧Hid (zir (s.data.toList.take i))∧wr=w)
  case atStart=>exact ⟨0,rfl,rfl,Nat.zero_le _,by omega,(fun c h=>by simp at h),rfl⟩
  case round =>
   obtain ⟨i,rfl,rfl,his,hkx,HD,hwr⟩:=hrel;rw [hwr];clear hwr wr;have hval:=zrq i s.data.toList (by rw [HL.out];exact his) HD.out;have h109:10 ^ i≤10 ^ 9:=Nat.pow_le_pow_right (by omega) (by have:=HSZ.out;omega);have e109:(10:Nat) ^ 9=1000000000:=by decide
   by_cases hlt:i<s.size
   · have hltz:(i:Int)<(s.size:Int):=by omega
     have hstep:valL (s.data.toList.take (i+1))=10 * valL (s.data.toList.take i)+(s[i].toNat - 48):=znv (by rw [HL.out];exact hlt);have hts:s.data.toList.take (i+1)=s.data.toList.take i ++ [s[i]]:=zb8 s.data.toList i (by rw [HL.out];exact hlt)
     have HBAD:Hid (¬ (48≤s[i].toNat∧s[i].toNat≤57)→natV s = -1):=fun h=>zht (fun hk=>h (hk.2.2.1 s[i] (by
      have:s[i] ∈ s.data.toList.take (i+1):=by rw [hts];exact List.mem_append_right _ (List.mem_singleton.2 rfl)
      exact List.mem_of_mem_take this)))
     have HD2:Hid (48≤s[i].toNat∧s[i].toNat≤57→zir (s.data.toList.take (i+1))):=fun h c hc=>by
      rw [hts] at hc;rcases List.mem_append.1 hc with hc | hc
      · exact HD.out c hc
      · rw [List.mem_singleton.1 hc];exact h
     clear hts;generalize hV:valL (s.data.toList.take i)=V at *;have HST:Hid (valL (s.data.toList.take (i+1))=10 * V+(s[i].toNat - 48)):=hstep;clear hstep
     by_cases hb1:s[i].toNat<48
     · have HX:Hid (natV s = -1):=HBAD.out (by omega)
       have hb1z:(s[i].toNat:Int)<48:=by omega
       go_wp2;go_ret;exact ⟨zca HX.out.symm,rfl⟩
     · have hb1z:¬ (s[i].toNat:Int)<48:=by omega
       by_cases hb2:57<s[i].toNat
       · have HX:Hid (natV s = -1):=HBAD.out (by omega)
         have hb2z:(57:Int)<(s[i].toNat:Int):=by omega
         go_wp2;go_ret;exact ⟨zca HX.out.symm,rfl⟩
       · have hb2z:¬ (57:Int)<(s[i].toNat:Int):=by omega
         have hu8:IntKind.u8.wrap ((s[i].toNat:Int) - 48)=(s[i].toNat:Int) - 48:=by rw [IntKind.wrap_u8];omega
         have hu64:IntKind.i64.wrap (10 * (V:Int)+((s[i].toNat:Int) - 48))=10 * (V:Int)+((s[i].toNat:Int) - 48):=by rw [IntKind.wrap_i64];omega
         have HD3:=HD2.out ⟨by omega,by omega⟩;have HVZ:Hid ((10 * (V:Int)+((s[i].toNat:Int) - 48))=((valL (s.data.toList.take (i+1)):Nat):Int)):=by show _=_;rw [HST.out];omega
         go_wp2
         go_roundg (s.size - (i+1))
         case measure=>omega
         case rel=>exact ⟨i+1,by rw [← HVZ.out],by go_num,by omega,Nat.le_refl _,HD3,rfl⟩
   · have hi9:i=s.size:=by omega
     have hall:s.data.toList.take i=s.data.toList:=List.take_of_length_le (by rw [HL.out];omega);rw [hall] at hval;have HD9:Hid (zir s.data.toList):=by have h:=HD.out;rw [hall] at h;exact h
     rw [hall]
     have HNV:Hid (natV s=if valL s.data.toList≤999 then ((valL s.data.toList:Nat):Int) else -1):=by
      show _=_
      by_cases h999:valL s.data.toList≤999
      · rw [if_pos h999]
        unfold natV natC;rw [if_pos ⟨by rw [HL.out];exact HSZ.out.1,by rw [HL.out];exact HSZ.out.2,HD9.out,H0.out,h999⟩]
      · rw [if_neg h999]
        exact zht (fun h=>h999 h.2.2.2.2)
     generalize valL s.data.toList=V at *;have hltz:¬ (i:Int)<(s.size:Int):=by omega
     clear hall
     by_cases h999:V≤999
     · have HX:Hid (natV s=(V:Int)):=by show _=_;rw [HNV.out,if_pos h999]
       have h9z:¬ (999:Int)<(V:Int):=by omega
       go_wp2;go_ret;exact ⟨zca HX.out.symm,rfl⟩
     · have HX:Hid (natV s = -1):=by show _=_;rw [HNV.out,if_neg h999]
       have h9z:(999:Int)<(V:Int):=by omega
       go_wp2;go_ret;exact ⟨zca HX.out.symm,rfl⟩
theorem zgZ (s:ByteArray)(w:World) :
 Calls Tryz.prog 40 #[.string s] w fun e w'=>e=.returned (.string (zbW s))∧w'=w:=by
 by_cases h1:s=⟨#[]⟩
 · have HX:Hid (zbW s=⟨#[45]⟩):=if_pos h1
   subst h1
   go_enter Tryz.func40,Tryz.ntmps40
   go_wp2
   try simp only [Exit.inBlock,Exit.then]
   exact bodyPost_ret (v:=.string ⟨#[45]⟩) (by simp [results,Tryz.results40,go_sem]) rfl ⟨by rw [HX.out],rfl⟩
 · have b1:(s.toList == [])=false:=by have h:=zaS h1;rw [ByteArray.toList_eq ⟨#[]⟩] at h;exact h
   have HX:Hid (zbW s=s):=if_neg h1;clear h1
   go_enter Tryz.func40,Tryz.ntmps40
   go_wp2
   try simp only [Exit.inBlock,Exit.then]
   exact bodyPost_ret (v:=.string s) (by simp [results,Tryz.results40,go_sem]) rfl ⟨by rw [HX.out],rfl⟩
theorem zfg (n:Nat):Lib.decDigits n=Lib.itoa (n:Int):=by
 unfold Lib.itoa;rw [if_neg (by omega)]
 rfl
theorem zbf (n:Nat)(w:World)(hn:n≤100) :
 Calls Tryz.prog 37 #[.int .i64 n] w fun e w'=>e=.returned (.string (errT n))∧Below w.heap.size w w':=by
 have KD:Hid _:=ze4 (n+1) n w (by omega) (by omega);have HX:Hid (errT n=⟨#[101,114,114,111,114,32]⟩ ++ ⟨(Lib.decDigits n).toArray⟩):=by show _=_;rw [zfg];rfl
 have hlit:¬ 9223372036854775807<6+(Lib.decDigits n).length:=by rw [zfg];have:=Lib.itoa_length_le (n:Int) (by omega) (by omega);omega
 go_enter Tryz.func37,Tryz.ntmps37
 go_wp2_with fail
 refine Calls.mono KD.out ?_;rintro e w1 ⟨rfl,hb1⟩;have HB1:Hid (Below w.heap.size w w1):=hb1;clear hb1 KD;go_wp2
 try simp only [Exit.inBlock,Exit.then]
 exact bodyPost_ret (v:=.string (errT n)) (by simp [results,Tryz.results37,go_sem,HX.out]) rfl ⟨rfl,HB1.out⟩
def hl1:List Fi:=[⟨⟨#[97]⟩,⟨#[104,97,121]⟩,1⟩]
def hl2:List Fi:=[⟨⟨#[97]⟩,⟨#[104,97,121]⟩,1⟩,⟨⟨#[98]⟩,⟨#[]⟩,1⟩]
def hl3:List Fi:=[⟨⟨#[98]⟩,⟨#[]⟩,1⟩,⟨⟨#[99]⟩,⟨#[104,97,121]⟩,1⟩]
def hl4:List Fi:=[⟨⟨#[98]⟩,⟨#[104,97,121]⟩,2⟩,⟨⟨#[99]⟩,⟨#[]⟩,2⟩]
set_option maxRecDepth 100000
theorem zuG:sayC ⟨#[119,114,105,116,101,32,97,32,104,97,121]⟩ [] 1=(okB,hl1,2):=by kernel_rfl
theorem zuM:sayC ⟨#[119,114,105,116,101,32,98,32,45]⟩ hl1 2=(okB,hl2,3):=by kernel_rfl
theorem zuR:sayC ⟨#[110,97,109,101,32,97,32,99]⟩ hl2 3=(okB,hl3,4):=by kernel_rfl
theorem zuQ:sayC ⟨#[115,119,97,112,32,98,32,99]⟩ hl3 4=(okB,hl4,5):=by kernel_rfl
theorem zuC:sayC ⟨#[97,108,108]⟩ hl4 5=(⟨#[98,61,104,97,121,32,99,61,45]⟩,hl4,5):=by kernel_rfl
theorem zeE (h:n<10):Lib.itoa (n:Int)=[UInt8.ofNat (48+n)]:=by rw [← zfg,zcl h]
theorem zkE (h:n<10):errT (n:Int)=⟨#[101,114,114,111,114,32]⟩ ++ ⟨#[UInt8.ofNat (48+n)]⟩:=by unfold errT;rw [zeE h]
theorem zuX:sayC ⟨#[114,101,97,100,32,98]⟩ hl4 5=(⟨#[104,97,121,32,50]⟩,hl4,5):=by
 have e:sayC ⟨#[114,101,97,100,32,98]⟩ hl4 5=(ziG [⟨#[104,97,121]⟩,⟨(Lib.itoa ((2:Nat):Int)).toArray⟩],hl4,5):=by kernel_rfl
 rw [e,zeE (by omega)];show _=_;kernel_rfl
theorem zt3:sayC ⟨#[100,105,102,102,32,49]⟩ hl4 5=(⟨#[45]⟩,hl4,5):=by kernel_rfl
theorem zt0:sayC ⟨#[111,112,101,110]⟩ hl4 5=(⟨#[48]⟩,hl4,5):=by
 have e:sayC ⟨#[111,112,101,110]⟩ hl4 5=(⟨(Lib.itoa ((0:Nat):Int)).toArray⟩,hl4,5):=by kernel_rfl
 rw [e,zeE (by omega)];show _=_;kernel_rfl
theorem zud:sayC ⟨#[116,117,114,110]⟩ hl4 5=(⟨#[53]⟩,hl4,5):=by
 have e:sayC ⟨#[116,117,114,110]⟩ hl4 5=(⟨(Lib.itoa ((5:Nat):Int)).toArray⟩,hl4,5):=by kernel_rfl
 rw [e,zeE (by omega)];show _=_;kernel_rfl
theorem zuw:sayC ⟨#[102,108,121]⟩ hl4 5=(⟨#[101,114,114,111,114,32,52]⟩,hl4,5):=by
 have e:sayC ⟨#[102,108,121]⟩ hl4 5=(errT ((4:Nat):Int),hl4,5):=by kernel_rfl
 rw [e,zkE (by omega)];show _=_;kernel_rfl
theorem ztp:zaP ⟨#[115,112,111,105,108,32,49,32,48]⟩=[zpj,⟨#[49]⟩,⟨#[48]⟩]:=by kernel_rfl
theorem zsZ:zaP ⟨#[115,112,111,105,108,32,49,32,49]⟩=[zpj,⟨#[49]⟩,⟨#[49]⟩]:=by kernel_rfl
theorem ztb:zaP ⟨#[100,105,102,102,32,49]⟩=[zoY,⟨#[49]⟩]:=by kernel_rfl
theorem zq1:zaP ⟨#[100,105,102,102,32,50]⟩=[zoY,⟨#[50]⟩]:=by kernel_rfl
theorem zrW:zaP zjJ=[zjJ]:=by kernel_rfl
theorem zrz:zby ⟨#[49]⟩=(((1:Nat):Int),0):=by kernel_rfl
theorem zuW:zby ⟨#[50]⟩=(((2:Nat):Int),0):=by kernel_rfl
theorem zu9:zbR ⟨#[48]⟩=(((0:Nat):Int),0):=by kernel_rfl
theorem zu8:zbR ⟨#[49]⟩=(((1:Nat):Int),0):=by kernel_rfl
theorem zu2:errT 4=⟨#[101,114,114,111,114,32,52]⟩:=by
 have e:=zkE (n:=4) (by omega);exact e.trans (by kernel_rfl)
theorem zuO:(⟨(Lib.itoa ((1:Nat):Int)).toArray⟩:ByteArray)=⟨#[49]⟩:=by rw [zeE (by omega)];kernel_rfl
def zh7:List ByteArray:=[⟨#[119,114,105,116,101,32,97,32,104,97,121]⟩,⟨#[119,114,105,116,101,32,98,32,45]⟩,⟨#[110,97,109,101,32,97,32,99]⟩,⟨#[115,119,97,112,32,98,32,99]⟩,⟨#[97,108,108]⟩,⟨#[114,101,97,100,32,98]⟩,⟨#[115,112,111,105,108,32,49,32,48]⟩,⟨#[115,112,111,105,108,32,49,32,49]⟩,⟨#[100,105,102,102,32,49]⟩,⟨#[100,105,102,102,32,50]⟩,⟨#[115,99,114,117,98]⟩,⟨#[100,105,102,102,32,49]⟩,⟨#[111,112,101,110]⟩,⟨#[116,117,114,110]⟩,⟨#[102,108,121]⟩]
def zd5:List ByteArray:=[⟨#[111,107]⟩,⟨#[111,107]⟩,⟨#[111,107]⟩,⟨#[111,107]⟩,⟨#[98,61,104,97,121,32,99,61,45]⟩,⟨#[104,97,121,32,50]⟩,⟨#[111,107]⟩,⟨#[111,107]⟩,⟨#[101,114,114,111,114,32,52]⟩,⟨#[45]⟩,⟨#[49]⟩,⟨#[45]⟩,⟨#[48]⟩,⟨#[53]⟩,⟨#[101,114,114,111,114,32,52]⟩]
end Go.Proofs.YtihnghnafpgdfadGreatDoor
namespace Go.Proofs.YtihnghnafpgdfadGreatDoor
open Go Go.RowKit
variable {t:Int}{l:List Fi}{f g:Fi}{a b line name s text v x:ByteArray}{W W' w:World}{B Z base cap i k n size:Nat}{r:List ByteArray}{row:Option Nat}{C:Array Value}{T e:TypeId}{fr:Nat × Nat}
structure zuB {β:Type}(B:Nat→Prop)(J:β→World→Prop):Prop where
 grow:∀ s W W',J s W→W.grownBy W' none→J s W'
 box:∀ s W b v,B b→J s W→J s (W.setCell ⟨b,0,none⟩ v)
def zsc {α:Type} (n:Nat) (P:Program) (gf:Nat) (lb:Array Value) (encs:α→Array Value) (B:Nat→Prop) (G:World→Prop) (S Sp:List α→Prop) (w:World):Prop :=
 ∀ (l:Nat) (J Jx:List α→World→Prop) (W:World),G W→Below w.heap.size w W→zuB B J→zuB B Jx →
   (∀ pre x W1,J pre W1→Sp (pre ++ [x])→YieldAt Fence.wide (n - 1) P l (encs x) W1 fun e W' =>
     (e=.returned (.bool true)∧J (pre ++ [x]) W'∧∀ b,B b→W'.heap[b]?=W1.heap[b]?)∨(e=.returned (.bool false)∧Jx (pre ++ [x]) W')) →
   J [] W →
   CallsIn Fence.wide n P gf (#[.func (.yield l) #[] #[]] ++ lb) W fun e W'=>(∃ v,e=.returned v)∧((∃ xs,S xs∧J xs W')∨(∃ pre,Sp pre∧Jx pre W'))
def zua {α:Type}(Z:Nat)(B:Nat→Prop)(I:List α→World→Prop)(Ix:Code→List α→World→Prop)(xs:List α)(W:World):Exit→Act→World→Prop
 | .normal,_,W'=>KeepsFrom Z W W'∧(∀ b,B b→W'.heap[b]?=W.heap[b]?)∧I xs W'
 | .ret,_,W'=>KeepsFrom Z W W'∧Ix .ret xs W'
 | .exit id,_,W'=>KeepsFrom Z W W'∧Ix (.exit id) xs W'
 | .goto t,_,W'=>KeepsFrom Z W W'∧Ix (.goto t) xs W'
 | .panic _,_,_=>False
 | .outgrown,_,_=>False
theorem zaz {v:Value}{o:Obj}(h:W.heap[k]?=some o)(hne:k≠B):(W.setCell ⟨B,0,none⟩ v).heap[k]?=some o :=
 (Below.heap_setCell W ⟨B,0,none⟩ v k hne).trans h
theorem zky {o:Obj}(hg:W.grownBy W' none)(h:W.heap[k]?=some o):W'.heap[k]?=some o :=
 (hg.block k (Array.getElem?_eq_some_iff.1 h).1 (fun e=>by cases e)).trans h
theorem zhB {α:Type} {n:Nat} {P:Program} {g:Operand} {ps:Array Tmp} {assign body:Code} {Q:Exit→Act→World→Prop} {a:Act} {w:World}
 (h1:1≤n) {gf:Nat} {lb:Array Value} (hg:a.eval g=.func (.func gf) #[] lb) (eg:∀ args w,(callFunc gf args).run P w=.ok (.enter gf args) w)
 {encs:α→Array Value} {B:Nat→Prop} {G:World→Prop} {S Sp:List α→Prop} (hseq:zsc (n - 1) P gf lb encs B G S Sp w)
 (hG:∀ W,Below w.heap.size w W→G W) (hB:∀ b,B b→b<w.heap.size) (hps:∀ x,(encs x).size=ps.size)
 (I:List α→World→Prop) (Ix:Code→List α→World→Prop) (hI:OwnFrom w.heap.size I) (hIx:∀ c,OwnFrom w.heap.size (Ix c)) (hIb:∀ s W b v,B b→I s W→I s (W.setCell ⟨b,0,none⟩ v)) (hIxb:∀ c s W b v,B b→Ix c s W→Ix c s (W.setCell ⟨b,0,none⟩ v)) (h0:I [] w) (a₁:α→Act)
 (hassign:∀ (l:Nat) (x:α) (W:World) (K:Act→World→Prop),K (a₁ x) W →
   assign.wpIn (Fence.wide.inRound l) (n - 1 - 1) P (Exit.then K (fun _ _ _=>False)) { tmps:=(ps.zip (encs x)).foldl (fun t (p,v)=>t.setIfInBounds p v) a.tmps,defers:=[] } W)
 (hbody:∀ (l:Nat) (pre:List α) (x:α) (W:World),I pre W→Sp (pre ++ [x])→body.wpIn (Fence.wide.inRound l) (n - 1 - 1) P (zua w.heap.size B I Ix (pre ++ [x]) W) (a₁ x) W)
 (hdone:∀ (D:Nat) (xs:List α) (W:World),w.heap.size≤D→S xs→I xs W→W.heap[D]?=some (.deferred (some []))→Q .normal { a with defers:={ target:=.collected D,args:=#[] } :: a.defers } W)
 (hstop:∀ (D:Nat) (c:Code) (pre:List α) (W:World),w.heap.size≤D→Sp pre→Ix c pre W→W.heap[D]?=some (.deferred (some []))→c.wpIn Fence.wide n P Q { a with defers:={ target:=.collected D,args:=#[] } :: a.defers } W) :
 (Code.rangeFunc g ps assign body).wpIn Fence.wide n P Q a w:=by
 refine wpIn_rangeFunc fun fn hfn=>?_
 obtain ⟨rc,hrc⟩:∃ rc:LoopState→Option Code→Loop,rc=fun st pe=>{ state:=st,pending:=pe,fn,tmps:=a.tmps,params:=ps,assign,body,defers:=w.heap.size }:=⟨_,rfl⟩
 have hrs:∀ st pe,(rc st pe).state=st:=fun st pe=>by rw [hrc]
 have hrp:∀ st pe,(rc st pe).pending=pe:=fun st pe=>by rw [hrc]
 have hpar:∀ st pe,(rc st pe).params=ps:=fun st pe=>by rw [hrc]
 obtain ⟨r,hr⟩:∃ r,r=w.heap.size+1:=⟨_,rfl⟩
 obtain ⟨V,hV⟩:∃ V,V=(w.alloc (.deferred (some []))).alloc (.loop (rc .ready none)):=⟨_,rfl⟩
 have hVr:V.heap[r]?=some (.loop (rc .ready none)):=by
  have:=World.alloc_heap_new (w.alloc (.deferred (some []))) (.loop (rc .ready none));rw [World.size_alloc] at this
  rw [hV,hr];exact this
 have hVd:V.heap[w.heap.size]?=some (.deferred (some [])):=by rw [hV];exact (Below.heap_alloc _ _ _ (by simp)).trans (World.alloc_heap_new w _)
 have hVI:I [] V:=by rw [hV];exact hI.alloc _ (hI.alloc _ h0)
 have hVb:Below w.heap.size w V:=by rw [hV];exact ((Below.refl _ w).alloc (Nat.le_refl _) _).alloc (by simp) _
 obtain ⟨Bk,hBk⟩:∃ Bk:LoopState→Option Code→World→Prop,Bk=fun st pe W=>W.heap[r]?=some (.loop (rc st pe))∧W.heap[w.heap.size]?=some (.deferred (some [])):=⟨_,rfl⟩
 have bk:∀ {st pe W},Bk st pe W↔(W.heap[r]?=some (.loop (rc st pe))∧W.heap[w.heap.size]?=some (.deferred (some []))):=fun {st pe W}=>by rw [hBk]
 have bgrow:∀ {st pe W W'},Bk st pe W→W.grownBy W' none→Bk st pe W':=fun h hg'=>bk.2 ⟨zky hg' (bk.1 h).1,zky hg' (bk.1 h).2⟩
 have bbox:∀ {st pe W} b v,B b→Bk st pe W→Bk st pe (W.setCell ⟨b,0,none⟩ v):=fun b v hb h=>bk.2 ⟨zaz (bk.1 h).1 (by have:=hB b hb;omega),zaz (bk.1 h).2 (by have:=hB b hb;omega)⟩
 have bput:∀ {st pe W} st' pe',Bk st pe W→Bk st' pe' (W.putObj r (.loop (rc st' pe'))):=fun st' pe' h=>bk.2 ⟨World.putObj_heap_same (Array.getElem?_eq_some_iff.1 (bk.1 h).1).1,(World.putObj_heap_other (by omega)).trans (bk.1 h).2⟩
 have iput:∀ {st pe W pre} o,I pre W→Bk st pe W→I pre (W.putObj r o):=fun o hi h=>hI.putObj o hi (by omega) (bk.1 h).1 rfl
 have xput:∀ {st pe W pre c} o,Ix c pre W→Bk st pe W→Ix c pre (W.putObj r o):=fun o hi h=>(hIx _).putObj o hi (by omega) (bk.1 h).1 rfl
 have iown:∀ {J:List α→World→Prop},OwnFrom w.heap.size J→∀ s W W',J s W→W.grownBy W' none→J s W':=fun h s W W' hs hg'=>h s W W' none hs hg' (fun r e=>by cases e)
 have hbeg:∀ {W},Bk .ready none W→(Instr.beginRound r).run P W=.ok () (W.putObj r (.loop (rc .busy none))):=fun {W} h=>by
  have:=run_beginRound (P:=P) (bk.1 h).1 (hrs _ _);rw [this,hrc]
 have hend:∀ {W} jump,Bk .busy none W→(Instr.endRound r jump).run P W=.ok (.bool jump.isNone) (W.putObj r (.loop (rc (if jump.isNone then .ready else .done) jump))):=fun {W} jump h=>by
  have:=run_endRound (P:=P) jump (bk.1 h).1;rw [this,hrc]
 have hfin:∀ {W st pe},st≠.busy→Bk st pe W→(Instr.endLoop r).run P W=.ok pe (W.putObj r (.loop (rc .exhausted pe))):=fun {W st pe} hne h=>by
  have:=run_endLoop (P:=P) (bk.1 h).1 (by rw [hrs];exact hne);rw [this,hrp,hrc]
 refine ⟨r,[{ target:=.collected w.heap.size,args:=#[] }],V,{ target:=.fn (.func gf) lb,args:=#[.func (.yield r) #[] #[]] },V,gf,#[.func (.yield r) #[] #[]] ++ lb,V,?_,?_,?_,?_,fun _=>h1,?_⟩
 · have:=run_enterLoop_outer (P:=P) (w:=w) fn a.tmps ps assign body
   rw [hV,hr,hrc];exact this
 · simp only [resolve,hg]
   simp [go_sem]
 · intro f' _;trivial
 · simp [invoke,go_sem,eg]
 · refine (hseq r (fun pre W=>I pre W∧Bk .ready none W) (fun pre W=>∃ c,Ix c pre W∧Bk .done (some c) W) V (hG V hVb) hVb
    ⟨fun s W W' h hg'=>⟨iown hI s W W' h.1 hg',bgrow h.2 hg'⟩,fun s W b v hb h=>⟨hIb s W b v hb h.1,bbox b v hb h.2⟩⟩
    ⟨fun s W W' h hg'=>by obtain ⟨c,h1,h2⟩:=h;exact ⟨c,iown (hIx c) s W W' h1 hg',bgrow h2 hg'⟩,fun s W b v hb h=>by obtain ⟨c,h1,h2⟩:=h;exact ⟨c,hIxb c s W b v hb h1,bbox b v hb h2⟩⟩
    ?_ ⟨hVI,bk.2 ⟨hVr,hVd⟩⟩).mono ?_
   · rintro pre x W ⟨hi,hb⟩ hlen
     have hy:=run_yield (P:=P) (args:=encs x) (bk.1 hb).1 (by rw [hpar];exact hps x);refine ⟨fn,(ps.zip (encs x)).foldl (fun t (p,v)=>t.setIfInBounds p v) a.tmps,assign,body,?_,roundIn_of_wpIn hfn (hassign r x W _ ⟨_,hbeg hb,?_⟩)⟩
     · rw [hy,hrc]
     have hb2:=bput .busy none hb;have hk:∀ b,B b→(W.putObj r (.loop (rc .busy none))).heap[b]?=W.heap[b]?:=fun b hb=>World.putObj_heap_other (by have:=hB b hb;omega)
     refine wpIn_mono (hbody r pre x _ (iput _ hi hb) hlen) ?_;have keep:∀ {W3},KeepsFrom w.heap.size (W.putObj r (.loop (rc .busy none))) W3→Bk .busy none W3:=fun {W3} hk3=>bk.2 ⟨hk3.same _ _ (by omega) (bk.1 hb2).1 rfl,hk3.same _ _ (Nat.le_refl _) (bk.1 hb2).2 rfl⟩
     rintro e a3 W3 hp;cases e with
     | normal =>
       obtain ⟨hk3,hkb,hi3⟩:=hp;have hb3:=keep hk3;exact ⟨_,_,hend none hb3,.inl ⟨rfl,⟨iput _ hi3 hb3,bput _ _ hb3⟩,fun b hb=>(World.putObj_heap_other (by have:=hB b hb;omega)).trans ((hkb b hb).trans (hk b hb))⟩⟩
     | ret =>
       obtain ⟨hk3,hi3⟩:=hp;have hb3:=keep hk3;exact ⟨_,_,hend (some .ret) hb3,.inr ⟨rfl,.ret,xput _ hi3 hb3,bput _ _ hb3⟩⟩
     | exit id =>
       obtain ⟨hk3,hi3⟩:=hp;have hb3:=keep hk3;exact ⟨_,_,hend (some (.exit id)) hb3,.inr ⟨rfl,.exit id,xput _ hi3 hb3,bput _ _ hb3⟩⟩
     | goto t =>
       obtain ⟨hk3,hi3⟩:=hp;have hb3:=keep hk3;exact ⟨_,_,hend (some (.goto t)) hb3,.inr ⟨rfl,.goto t,xput _ hi3 hb3,bput _ _ hb3⟩⟩
     | panic ch=>exact hp.elim
     | outgrown=>exact hp.elim
   · rintro e W2 ⟨⟨v,rfl⟩,(⟨xs,hS,hi,hb⟩ | ⟨pre,hSp,c,hi,hb⟩)⟩
     · exact ⟨none,_,hfin (by simp) hb,hdone w.heap.size xs _ (Nat.le_refl _) hS (iput _ hi hb) (bk.1 (bput .exhausted none hb)).2⟩
     · exact ⟨some c,_,hfin (by simp) hb,hstop w.heap.size c pre _ (Nat.le_refl _) hSp (xput _ hi hb) (bk.1 (bput .exhausted (some c) hb)).2⟩
theorem zj3 (h:Below W.heap.size W W'):KeepsFrom Z W W' :=
 ⟨h.size,fun k o _ hk _=>(h.block k (Array.getElem?_eq_some_iff.1 hk).1).trans hk⟩
theorem za7 (hg:W.grownBy W' row)(hr:∀ r,row=some r→Z≤r∧∃ o:Obj,W.heap[r]?=some o∧o.isCells=false)(hk:W.heap[k]?=some (.cells C T fr)):W'.heap[k]?=some (.cells C T fr) :=
 (grownBy_keeps_cells hg (fun r e=>(hr r e).2) hk rfl).trans hk
theorem ztg {v:Value}{xs:List Value}(h:W.ownsRow base e size v k xs)(hg:W.grownBy W' row)(hr:∀ r,row=some r→Z≤r∧∃ o:Obj,W.heap[r]?=some o∧o.isCells=false):W'.ownsRow base e size v k xs:=by
 refine h.kept hg ?_;rcases h.2 with ⟨rfl,_⟩ | ⟨g,cap,cur,rfl,_,hgb,_⟩
 · exact .inl rfl
 · refine .inr fun e'=>?_
   obtain ⟨_,o,ho,hc⟩:=hr g (by simpa [Value.ownBlock] using e'.symm);rw [hgb] at ho;cases ho;cases hc
theorem zk4 (h:Below n w W)(hn:n≤w.heap.size)(hZ:n≤Z)(hg:W.grownBy W' row)(hr:∀ r,row=some r→Z≤r∧∃ o:Obj,W.heap[r]?=some o∧o.isCells=false):Below n w W' :=
 h.grown hg (Nat.le_trans hn h.size) (fun k e=>Nat.le_trans hZ (hr k e).1)
end Go.Proofs.YtihnghnafpgdfadGreatDoor
