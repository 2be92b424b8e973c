/- What the proofs stand on, part 24: DeedsRef, OpenRows, LogSaysBase, RowApplied, StoreRef, StoreKeeps, OpenDeeds. -/
import Derived.Laws.OwnMore
import Derived.ProofKit
import Derived.Deep.Slices
import Derived.Deep.Strs
import Derived.Test.YtihnghnafpgdfadGreatDoorSk12
import Derived.Test.YtihnghnafpgdfadGreatDoorSk07
import Derived.Test.YtihnghnafpgdfadGreatDoorSk04
import Derived.Test.YtihnghnafpgdfadGreatDoorSk05
import Derived.Test.YtihnghnafpgdfadGreatDoorSk06
import Derived.Test.YtihnghnafpgdfadGreatDoorSk21
import Derived.Test.YtihnghnafpgdfadGreatDoorSk23
set_option linter.unusedVariables false
set_option linter.unusedSimpArgs false
namespace Go.Proofs.YtihnghnafpgdfadGreatDoor
open Go.RowKit Go.BigFrame
variable {d d':Dk}{N a first i k m n side:Nat}{l s:List UInt8}{r:List (List UInt8)}{g:Lg}{c:List Ch}
end Go.Proofs.YtihnghnafpgdfadGreatDoor
namespace Go.Proofs.YtihnghnafpgdfadGreatDoor
open Go.RowKit Go.Deep Go.ChangeShapes Go.WideShapes
variable {d d':Dk}{N a first i k m n side:Nat}{l s:List UInt8}{r:List (List UInt8)}{g:Lg}{c:List Ch}
section
variable {H:Type} {enc:TypeId × Value→H} {w:World} {base:Nat} {spare:Nat→Bool} {held:Bool}
theorem zoP:Tryz.prog.cellsOf 9=1:=by kernel_rfl
end
section
variable {H:Type} {enc:TypeId × Value→H} {w:World} {base:Nat} {spare:Nat→Bool} {held:Bool}
end
section
variable {H:Type} {enc:TypeId × Value→H} {w:World} {base:Nat} {spare:Nat→Bool} {held:Bool}
end
end Go.Proofs.YtihnghnafpgdfadGreatDoor
namespace Go.Proofs.YtihnghnafpgdfadGreatDoor
open Go.RowKit Go.BigFrame
variable {d d':Dk}{N a first i k m n side:Nat}{l s:List UInt8}{r:List (List UInt8)}{g:Lg}{c:List Ch}
def kx:Ch:=⟨⟨#[107]⟩,⟨#[120]⟩,false⟩
structure Free (d:Dk)(N k:Nat):Prop where
 up:d.down=false
 left:d.left<0
 wr:d.wr.length≤k
 len:d.now.length=N
theorem zk5 {s:ByteArray}(h:Free d N k)(hi:i<N)(hs:s.size≤40):zcd d (i:Int) s=0∧Free (zaN d (i:Int) s) N (k+1):=by
 have hgood:¬ (¬ (0≤(i:Int)∧(i:Int)<(d.now.length:Int))∨40<s.size):=by rw [h.len];omega
 rcases ze0 d h.up with ⟨h8,hl0,hst⟩ | ⟨h0,hl0,hnow,hkept,hwr,hbit,hdn,hleft⟩
 · have:=h.left;omega
 · have e2:zaN d i s={ zaK d with now:=d.now.set i (padD s),wr:=d.wr ++ [⟨i,d.bit,padD s⟩],bit:=(d.bit+1) % 64 }:=by unfold zaN;rw [if_neg hgood,if_pos h0];rfl
   refine ⟨by unfold zcd;rw [if_neg hgood,h0],?_⟩;rw [e2];refine ⟨hdn,?_,by simp;exact h.wr,by simp;exact h.len⟩;show (zaK d).left<0;rw [hleft,if_neg (by have:=h.left;omega)];exact h.left
theorem zsI (n:Nat):Free (newD n) n 0:=⟨rfl,(by decide:(-1:Int)<0),by simp [newD],by simp [newD,zcY]⟩
end Go.Proofs.YtihnghnafpgdfadGreatDoor
namespace Go.Proofs.YtihnghnafpgdfadGreatDoor
open Go.RowKit
variable {d d':Dk}{N a first i k m n side:Nat}{l s:List UInt8}{r:List (List UInt8)}{g:Lg}{c:List Ch}
end Go.Proofs.YtihnghnafpgdfadGreatDoor
namespace Go.Proofs.YtihnghnafpgdfadGreatDoor
open Go.RowKit Go.BigFrame
variable {d d':Dk}{N a first i k m n side:Nat}{l s:List UInt8}{r:List (List UInt8)}{g:Lg}{c:List Ch}
structure Ms where
 ra:Option Addr
 rc:Nat
 rows:List Ch
 used:Nat
 many:Nat
def zhV (m:Ms)(c:List Ch):Int:=if 14<c.length then 2 else if za1 c≠0 then za1 c else if 12<(zah m.rows c).length∨m.many<c.length+1 then 7 else 0
def zst (m:Ms)(c:List Ch):Nat:=(if m.many - m.used<c.length+1 then 0 else m.used)+c.length+1
end Go.Proofs.YtihnghnafpgdfadGreatDoor
namespace Go.Proofs.YtihnghnafpgdfadGreatDoor
variable {d d':Dk}{N a first i k m n side:Nat}{l s:List UInt8}{r:List (List UInt8)}{g:Lg}{c:List Ch}
theorem zpZ (l:List UInt8)(i:Nat):zbn (baL l) i=(l.getD i 0).toNat:=by unfold zbn;rw [zbT]
theorem zmq {rows:List Ch}(h:zaY rows):zah [] rows=rows :=
 zaY.ext (zbI zaY.nil) h (fun k=>by
  rw [zdp k zaY.nil,h.lastK k];have e:look ([]:List Ch) k=none:=rfl;rw [e,Option.or_none,h.alive_look k])
theorem zhv:∀ {rows:List Ch},(∀ c ∈ rows,zae c=0)→zbC (rows.map fun c=>baL (zaM c))=some rows
 | [],_=>rfl
 | c :: r,h=>by
   have e:zdw (baL (zaM c))=some c:=zh6 (h c (by simp));simp only [List.map_cons,zbC,e,zhv (rows:=r) (fun x hx=>h x (List.mem_cons_of_mem _ hx))]
   rfl
theorem zkC {rows:List Ch}(h:∀ c ∈ rows,zae c=0)(hi:i<rows.length):(zbc rows).drop (40 * i)=rowL rows[i] ++ zbc (rows.drop (i+1)):=by
 have e:zbc rows=zbc (rows.take i) ++ (rowL rows[i] ++ zbc (rows.drop (i+1))):=by
  have hs:rows.take i ++ rows[i] :: rows.drop (i+1)=rows:=by rw [← List.drop_eq_getElem_cons hi,List.take_append_drop]
  have:=congrArg zbc hs;rw [← this];unfold zbc;simp only [List.map_append,List.map_cons,List.flatten_append,List.flatten_cons]
 have hl:(zbc (rows.take i)).length=40 * i:=by
  rw [zcM (fun c hc=>h c (List.mem_of_mem_take hc)),List.length_take];omega
 rw [e,← hl,List.drop_left]
theorem zrk {rows:List Ch}(h:∀ c ∈ rows,zae c=0):cutL (baL (zbc rows)) rows.length=rows.map fun c=>baL (zaM c):=by
 apply List.ext_getElem
 · simp [cutL]
 · intro i h1 h2
   have hi:i<rows.length:=by simpa [cutL] using h1
   simp only [cutL,List.getElem_map,List.getElem_range];have hbl:=zc9 (h rows[i] (List.getElem_mem hi));have hs:(baL (zbc rows)).size=40 * rows.length:=by rw [za3,zcM h];omega
   have hl:(zgs (baL (zbc rows)) i).data.toList=rowL rows[i] ++ zbc (rows.drop (i+1)):=by
    unfold zgs;rw [zbM,zbT,← zkC h hi,List.take_of_length_le];rw [List.length_drop,hs,zcM h];omega
   have hb:zbn (zgs (baL (zbc rows)) i) 0=(zaM rows[i]).length:=by
    unfold zbn;rw [hl];simp [rowL];omega
   unfold zte;rw [hb,show (min (1+((zaM rows[i]).length:Int)) 40).toNat=1+(zaM rows[i]).length by omega]
   apply ByteArray.ext
   apply Array.ext'
   rw [zbM,hl,zbT];have e:rowL rows[i] ++ zbc (rows.drop (i+1))=UInt8.ofNat (zaM rows[i]).length :: (zaM rows[i] ++ (List.replicate (39 - (zaM rows[i]).length) 0 ++ zbc (rows.drop (i+1)))):=by simp [rowL]
   rw [e,List.drop_one,List.tail_cons,show 1+(zaM rows[i]).length - 1=(zaM rows[i]).length by omega,List.take_left]
theorem zof {rows:List Ch}(hr:zaY rows)(h:∀ c ∈ rows,zae c=0):zep (baL (zbc rows)) rows.length=some rows:=by
 unfold zep;rw [zrk h,zhv h];simp only;rw [if_pos];exact ⟨by rw [zmq hr];exact zoN rows,by rw [zbT];simp⟩
theorem zsR (h:i<l.length):(zdG l).getD i 0=l.getD i 0:=by
 unfold zdG;rw [List.getD_eq_getElem?_getD,List.getD_eq_getElem?_getD,List.getElem?_append_left h]
theorem zjl {rows:List Ch}(hi:i≤1)(hr:zaY rows)(h:∀ c ∈ rows,zae c=0)(h12:rows.length≤12)(hhead:d.now[i]?=some (zdG (zbP i (baL (zbc rows)))))
 (hrows:∀ j,j<rows.length→d.now[2+i * 12+j]?=(rows.map rowL)[j]?):whOf d i=some rows:=by
 have hs:(baL (zbc rows)).size=40 * rows.length:=by rw [za3,zcM h];omega
 have e1:zdC d i=zdG (zbP i (baL (zbc rows))):=by unfold zdC;rw [List.getD_eq_getElem?_getD,hhead];rfl
 have e2:zee d i=rows.length:=by
  unfold zee;rw [zpZ,e1,zsR (by rw [zcL];omega)];have:(zbP i (baL (zbc rows))).getD 11 0=UInt8.ofNat ((baL (zbc rows)).size / 40):=rfl;rw [this,hs];simp;omega
 have e3:zao d.now (2+i * 12) rows.length=rows.map rowL:=by
  apply List.ext_getElem?
  intro j;rw [za8]
  by_cases hj:j<rows.length
  · rw [if_pos hj,hrows j hj]
  · rw [if_neg hj,List.getElem?_eq_none (by rw [List.length_map];omega)]
 have e4:zcF d i=baL (zbc rows):=by unfold zcF;rw [e2,e3];rfl
 unfold whOf;rw [if_pos,e4,e2,zof hr h];refine ⟨by rw [e2];exact h12,?_⟩;rw [e4,e1];exact List.isPrefixOf_iff_prefix.2 ⟨_,rfl⟩
theorem zk0 (h:d.now[i]?=some blank):whOf d i=none:=by
 have e1:zdC d i=blank:=by unfold zdC;rw [List.getD_eq_getElem?_getD,h];rfl
 unfold whOf;rw [if_neg];rintro ⟨-,h2⟩;rw [e1] at h2;have e:zbP i (zcF d i)=112 :: (zbP i (zcF d i)).tail:=rfl;rw [e] at h2;simp [blank,List.replicate_succ,List.isPrefixOf] at h2
theorem zkH (hi:i≤1)(h:∀ j,j<26→d'.now[j]?=d.now[j]?):whOf d' i=whOf d i:=by
 have e1:zdC d' i=zdC d i:=by unfold zdC;rw [List.getD_eq_getElem?_getD,List.getD_eq_getElem?_getD,h i (by omega)]
 have e2:zee d' i=zee d i:=by unfold zee;rw [e1]
 by_cases h12:zee d i≤12
 · have e3:zcF d' i=zcF d i:=by
    unfold zcF;rw [e2]
    congr 2
    apply List.ext_getElem?
    intro j;rw [za8,za8]
    split
    · exact h _ (by have:=Nat.mul_le_mul hi (Nat.le_refl 12);omega)
    · rfl
   have e4:zdh d' i↔zdh d i:=by unfold zdh;rw [e1,e2,e3]
   unfold whOf
   by_cases hh:zdh d i
   · rw [if_pos hh,if_pos (e4.2 hh),e3,e2]
   · rw [if_neg hh,if_neg (fun x=>hh (e4.1 x))]
 · unfold whOf
   rw [if_neg (fun x=>h12 (by rw [← e2];exact x.1)),if_neg (fun x=>h12 x.1)]
theorem zhq {C:Type}(rd:List UInt8→Option C)(h:zfr first s=none):zaH rd first (s :: r)=([],0):=by
 unfold zaH;simp [runL,zef,h]
theorem zjd (h:¬ zfr n s=none)(hn:n<4294967296)(hm:m<4294967296)(hne:n≠m):zfr m s=none:=by
 unfold zfr at h ⊢
 split at h
 · rename_i hc
   rw [if_neg];rintro ⟨h1,-⟩;rw [hc.1] at h1;exact hne (zuv (by simpa using hn) (by simpa using hm) h1)
 · exact absurd rfl h
theorem zh8 {C:Type}(rd:List UInt8→Option C){l:List (List UInt8)}(h:0<(zaH rd first l).2):∃ s r,l=s :: r∧¬ zfr first s=none:=by
 cases l with
 | nil=>simp [zaH,runL] at h
 | cons s r =>
   refine ⟨s,r,rfl,fun hn=>?_⟩;rw [zhq rd hn] at h;exact absurd h (by simp)
theorem ziv {C:Type}(rd:List UInt8→Option C){l:List (List UInt8)}(h:(zaH rd first l).2=0):(zaH rd first l).1=[]:=by
 rcases zfM rd first l 0 ⟨[],[],0⟩ with ⟨h1,h2,h3⟩ | ⟨j,hj,hjl,h1,h2⟩
 · exact h2
 · have e:(zaH rd first l).2=0+j:=h1
   omega
end Go.Proofs.YtihnghnafpgdfadGreatDoor
namespace Go.Proofs.YtihnghnafpgdfadGreatDoor
open Go Go.RowKit Go.BigFrame
variable {d d':Dk}{N a first i k m n side:Nat}{l s:List UInt8}{r:List (List UInt8)}{g:Lg}{c:List Ch}
structure Kept (N:Nat)(d:Dk)(side used:Nat)(rows:List Ch):Prop where
 free:Free d N 0
 sd:side≤1
 said:∃ rows0 D,whOf d side=some rows0∧zbg d side=(D,used)∧za6 rows0 D=some rows
 blank:d.now[1 - side]?=some blank
theorem zeH {l:List ByteArray}(h:Free d N 0)(hl:a+l.length≤N)(hs:∀ s ∈ l,s.size≤40):
 (layD d a l).2=0∧Free (layD d a l).1 N 0∧∀ j,(layD d a l).1.now[j]?=if a≤j∧j<a+l.length then (l.map padD)[j - a]? else d.now[j]?:=by
 obtain ⟨k1,k2,k3,k4,k5,k6⟩:=zjQ d a l h.up h.left (by rw [h.len];exact hl) hs;refine ⟨k1,⟨k3,by rw [k4];exact h.left,by rw [k5];simp,by rw [k2,zbx];exact h.len⟩,fun j=>?_⟩;rw [k2,zgo _ _ _ _ (by rw [List.length_map,h.len];exact hl),List.length_map]
theorem zgj {s:ByteArray}(h:Free d N 0)(hl:a<N)(hs:s.size≤40):
 (layD d a [s]).2=0∧Free (layD d a [s]).1 N 0∧∀ j,(layD d a [s]).1.now[j]?=if j=a then some (padD s) else d.now[j]?:=by
 obtain ⟨k1,k2,k3⟩:=zeH (a:=a) (l:=[s]) h (by simp;omega) (by intro x hx;simp at hx;rw [hx];exact hs);refine ⟨k1,k2,fun j=>?_⟩;rw [k3 j]
 by_cases hj:j=a
 · subst hj
   rw [if_pos ⟨Nat.le_refl _,by simp⟩,if_pos rfl];simp
 · rw [if_neg (by simp;omega),if_neg hj]
theorem zhR (h26:26<d.now.length)(hs:d.now[26]?=some s)(h:zfr (zaf d side) s=none):zbg d side=([],0):=by
 unfold zbg zcv;have h0:(zao d.now 26 (d.now.length - 26))[0]?=some s:=by rw [za8,if_pos (by omega)];exact hs
 cases hr:zao d.now 26 (d.now.length - 26) with
 | nil=>rw [hr] at h0;simp at h0
 | cons x r =>
   rw [hr] at h0;simp at h0;subst h0;exact zhq _ h
theorem zbA (h:d'.now.length=d.now.length):zaf d' side=zaf d side:=by unfold zaf;rw [h]
theorem ze5 (hl:d'.now.length=d.now.length)(h:∀ j,26≤j→d'.now[j]?=d.now[j]?):zbg d' side=zbg d side:=by
 unfold zbg zaf zcv;rw [hl]
 congr 1
 apply List.ext_getElem?
 intro j;rw [za8,za8]
 split
 · exact h _ (by omega)
 · rfl
theorem zex:∀ {D:List (List Ch)} {r rows:List Ch},zaY r→(∀ c ∈ r,zae c=0)→r.length≤12→(∀ l ∈ D,∀ c ∈ l,zae c=0)→za6 r D=some rows→zaY rows∧(∀ c ∈ rows,zae c=0)∧rows.length≤12
 | [],r,rows,h1,h2,h3,_,h=>by
   simp only [za6] at h;cases h;exact ⟨h1,h2,h3⟩
 | c :: D,r,rows,h1,h2,h3,h4,h=>by
   simp only [za6] at h
   split at h
   · cases h
   · rename_i h12
     exact zex (zbI h1) (zkZ h2 (h4 c (by simp))) (by omega) (fun l hl=>h4 l (by simp [hl])) h
theorem zdE:∀ {D:List (List Ch)} {r rows c:List Ch},za6 r D=some rows→(zah rows c).length≤12→za6 r (D ++ [c])=some (zah rows c)
 | [],r,rows,c,h,h12=>by
   simp only [za6] at h;cases h;simp only [List.nil_append,za6];rw [if_neg (by omega)]
 | x :: D,r,rows,c,h,h12=>by
   simp only [List.cons_append,za6] at h ⊢
   split at h
   · cases h
   · rename_i hx
     rw [if_neg hx];exact zdE h h12
theorem Kept.rows {N side used:Nat}{rows:List Ch}(h:Kept N d side used rows):zaY rows∧(∀ c ∈ rows,zae c=0)∧rows.length≤12:=by
 obtain ⟨r0,D,h1,h2,h3⟩:=h.said;obtain ⟨a,b,c⟩:=zjF h1;refine zex a b c (fun l hl x hx=>?_) h3;have e:D=(zbg d side).1:=by rw [h2]
 rw [e] at hl;exact (zlN rdC zqY l hl).1 x hx
theorem Kept.used {N side used:Nat}{rows:List Ch}(h:Kept N d side used rows)(hN:42≤N):used≤N - 26:=by
 obtain ⟨r0,D,h1,h2,h3⟩:=h.said;have:=zlz rdC (now:=d.now) (from':=26) (many:=d.now.length - 26) (first:=zaf d side) (by rw [h.free.len];omega);unfold zbg at h2;rw [h2,h.free.len] at this
 exact this
theorem Kept.opens {N side used:Nat}{rows:List Ch}(h:Kept N d side used rows):zc3 d=some (side,rows,used):=by
 obtain ⟨r0,D,h1,h2,h3⟩:=h.said;have hs:=h.sd
 have hx:zew (whOf d)=some (side,r0):=by
  unfold zew;rcases (by omega:side=0∨side=1) with rfl | rfl
  · rw [zk0 h.blank,h1]
  · rw [h1]
 unfold zc3;rw [hx];simp only;rw [h2];simp only;rw [h3]
theorem zqo (h:l.length=40):zdG l=l:=by unfold zdG;rw [h];simp
theorem zjT {rows:List Ch}(h:∀ c ∈ rows,zae c=0):(za4 (baL (zbc rows)) rows.length).map padD=rows.map rowL:=by
 apply List.ext_getElem
 · simp [za4]
 · intro i h1 h2
   have hi:i<rows.length:=by simpa [za4] using h1
   simp only [za4,List.getElem_map,List.getElem_range];have hl:=zgQ (h rows[i] (List.getElem_mem hi))
   have e:zfo (baL (zbc rows)) i=rowL rows[i]:=by
    unfold zfo;rw [zbT,zkC h hi,← hl,List.take_left]
   rw [zeW,e,zqo hl]
theorem znm {rows:List Ch}(h:Free d N 0)(hN:42≤N)(hi:i≤1)(hr:zaY rows)(hc:∀ c ∈ rows,zae c=0)(h12:rows.length≤12):
 (layT d i (baL (zbc rows)) rows.length).2=0∧Free (layT d i (baL (zbc rows)) rows.length).1 N 0∧whOf (layT d i (baL (zbc rows)) rows.length).1 i=some rows∧(layT d i (baL (zbc rows)) rows.length).1.now[1 - i]?=some Go.Proofs.YtihnghnafpgdfadGreatDoor.blank∧∀ j,26≤j→(layT d i (baL (zbc rows)) rows.length).1.now[j]?=d.now[j]?:=by
 obtain ⟨T,hT⟩:∃ T,T=baL (zbc rows):=⟨_,rfl⟩
 have hpl:(za4 T rows.length).length=rows.length:=zcE _ _
 have hsz:∀ s ∈ za4 T rows.length,s.size≤40:=by
  intro s hs;unfold za4 at hs;obtain ⟨j,hj,rfl⟩:=List.mem_map.1 hs;rw [za3];unfold zfo;rw [List.length_take];omega
 have hi12:i * 12≤12:=by omega
 obtain ⟨a1,a2,a3⟩:=zeH (a:=2+i * 12) h (by rw [hpl];omega) hsz;obtain ⟨b1,b2,b3⟩:=zgj (a:=i) (s:=baL (zbP i T)) a2 (by omega) (by rw [za3,zcL];omega);obtain ⟨c1,c2,c3⟩:=zgj (a:=1 - i) (s:=⟨#[]⟩) b2 (by omega) (by decide);have pb:padD ⟨#[]⟩=Go.Proofs.YtihnghnafpgdfadGreatDoor.blank:=by decide
 rw [pb] at c3;rw [← hT]
 have eq:layT d i T rows.length=((layD (layD (layD d (2+i * 12) (za4 T rows.length)).1 i [baL (zbP i T)]).1 (1 - i) [⟨#[]⟩]).1,0):=by
  unfold layT;rw [if_pos a1];simp only [seqD];rw [if_pos b1,if_pos c1]
 rw [eq];refine ⟨rfl,c2,?_,?_,?_⟩
 · refine zjl hi hr hc h12 ?_ ?_
   · show (layD _ _ _).1.now[i]?=_
     rw [c3,if_neg (by omega),b3,if_pos rfl,zeW,hT]
   · intro j hj
     show (layD _ _ _).1.now[_]?=_;rw [c3,if_neg (by omega),b3,if_neg (by omega),a3,hpl,if_pos (by omega),hT,zjT hc]
     congr 1
     omega
 · show (layD _ _ _).1.now[_]?=_
   rw [c3,if_pos rfl]
 · intro j hj
   show (layD _ _ _).1.now[_]?=_;rw [c3,if_neg (by omega),b3,if_neg (by omega),a3,hpl,if_neg (by omega)]
theorem zry {s:St}(hk:Kept N d s.side g.used s.rows)(hN:42≤N)(hN2:N≤60)(hm:g.many=N - 26):
 (zbe d s g).2=0∧Kept N (zbe d s g).1 (zaW d s g) 0 s.rows:=by
 obtain ⟨q1,q2,q3⟩:=hk.rows;have hs:=hk.sd;have hlen:=hk.free.len;have hi:zaW d s g≤1:=by unfold zaW;split <;> omega
 obtain ⟨a1,a2,a3,a4,a5⟩:=znm hk.free hN hi q1 q2 q3;refine ⟨a1,a2,hi,⟨s.rows,[],a3,?_,rfl⟩,a4⟩;obtain ⟨r0,D,h1,h2,h3⟩:=hk.said;have hcong:zbg (zbe d s g).1 (zaW d s g)=zbg d (zaW d s g):=ze5 (by rw [show (zbe d s g).1.now.length=N from a2.len,hlen]) a5;rw [hcong];have hu:=hk.used hN
 by_cases h0:g.used=0
 · have e:zaW d s g=s.side:=by unfold zaW;rw [if_neg (by omega)]
   rw [e,h2,h0]
   have hz:(zaH rdC (zaf d s.side) (zao d.now 26 (d.now.length - 26))).2=0:=by
    have:(zbg d s.side).2=0:=by rw [h2];exact h0
    exact this
   have:=ziv rdC hz
   have hD:D=[]:=by
    have e2:D=(zbg d s.side).1:=by rw [h2]
    rw [e2];exact this
   rw [hD]
 · have e:zaW d s g=1 - s.side:=by unfold zaW;rw [if_pos (by omega)]
   rw [e]
   have hp:0<(zaH rdC (zaf d s.side) (zao d.now 26 (d.now.length - 26))).2:=by
    have:(zbg d s.side).2=g.used:=by rw [h2]
    unfold zbg zcv at this
    omega
   obtain ⟨x,r,hx,hno⟩:=zh8 rdC hp
   have h26:d.now[26]?=some x:=by
    have:=za8 (now:=d.now) (from':=26) (many:=d.now.length - 26) (j:=0);rw [hx,if_pos (by omega)] at this
    simpa using this.symm
   refine zhR (by omega) h26 (zjd hno ?_ ?_ ?_)
   all_goals
    unfold zaf;rw [hlen];rcases (by omega:s.side=0∨s.side=1) with e | e <;> rw [e] <;> simp <;> omega
theorem zsS (hf:Free d N 0)(hin:g.start+g.many≤N)(hu:g.used≤g.many)(h14:¬ 14<c.length)(hroom:¬ g.many - g.used<c.length+1)(hok:za1 c=0):
 ∀ j,j<g.start→(addD g d c).1.now[j]?=d.now[j]?:=by
 intro j hj;unfold addD;rw [if_neg h14,if_neg hroom,if_neg (by simpa using hok)];obtain ⟨m,hm⟩:∃ m,m=min (c.length+2) (g.many - g.used):=⟨_,rfl⟩
 rw [← hm];obtain ⟨a1,a2,a3⟩:=zeH (a:=g.start+g.used) (l:=List.replicate m ⟨#[]⟩) hf (by simp;omega) (by intro s hs;rw [List.eq_of_mem_replicate hs];decide);rw [if_neg (by simpa using a1)];obtain ⟨b1,b2,b3⟩:=zeH (a:=g.start+g.used) (l:=zeg g.first g.used c c.length) a2 (by rw [zcg];omega) (zdc _ _ _ _ (zb5 hok));rw [b3,if_neg (by omega),a3,if_neg (by omega)]
theorem zpv {side used B:Nat}{rows c:List Ch}(hk:Kept N d side used rows)(hN:42≤N)(hN2:N≤60)(h14:¬ 14<c.length)(hroom:¬ N - 26 - used<c.length+1)(hok:za1 c=0)(h12:(zah rows c).length≤12):
 (addD ⟨B,26,N - 26,zaf d side,used⟩ d c).2=0∧Kept N (addD ⟨B,26,N - 26,zaf d side,used⟩ d c).1 side (used+c.length+1) (zah rows c):=by
 obtain ⟨r0,D,h1,h2,h3⟩:=hk.said;have hs:=hk.sd;have hlen:=hk.free.len;have hu:=hk.used hN
 have hfirst:1≤zaf d side∧zaf d side≤4000000:=by
  unfold zaf;rw [hlen];rcases (by omega:side=0∨side=1) with e | e <;> rw [e] <;> simp <;> omega
 obtain ⟨a1,a2,a3,a4,a5,a6⟩:=zsy (g:=⟨B,26,N - 26,zaf d side,used⟩) (d:=d) (c:=c) (D:=D) ⟨by simp only;omega,hfirst.2,hu⟩ hfirst.1 (by simp only;omega) hk.free.up hk.free.left h14 hroom hok (by
  have:=h2;unfold zbg at this
  rw [hlen] at this
  exact this)
 have low:=zsS (g:=⟨B,26,N - 26,zaf d side,used⟩) (c:=c) hk.free (by simp only;omega) hu h14 hroom hok;refine ⟨a1,⟨a2,by rw [a3];exact hk.free.left,by rw [a4];simp,by rw [a5];exact hlen⟩,hs,⟨r0,D ++ [c],?_,?_,zdE h3 h12⟩,?_⟩
 · rw [zkH hs low];exact h1
 · unfold zbg
   rw [zbA a5,a5,hlen];exact a6
 · rw [low (1 - side) (show 1 - side<26 by omega)];exact hk.blank
theorem zol {s:St}{m:Ms}(hk:Kept N d s.side g.used s.rows)(hN:42≤N)(hN2:N≤60)(hg:g=⟨g.dB,26,N - 26,zaf d s.side,g.used⟩)(hm1:m.rows=s.rows)(hm2:m.used=g.used)(hm3:m.many=N - 26):
 (zai d s g c).e=zhV m c∧∃ side used,Kept N (zai d s g c).d side used (zai d s g c).rows∧(zai d s g c).side=side∧(zai d s g c).g=⟨g.dB,26,N - 26,zaf (zai d s g c).d side,used⟩ ∧
   ((¬ zhV m c=0∧used=g.used∧(zai d s g c).rows=s.rows)∨(zhV m c=0∧used=zst m c∧(zai d s g c).rows=zah s.rows c)):=by
 have hlen:=hk.free.len;have hu:=hk.used hN;have hgm:g.many=N - 26:=by rw [hg]
 unfold zhV zai;rw [hm1,hm3,hlen]
 by_cases h14:14<c.length
 · rw [if_pos h14,if_pos h14]
   exact ⟨rfl,s.side,g.used,hk,rfl,hg,.inl ⟨by omega,rfl,rfl⟩⟩
 rw [if_neg h14,if_neg h14]
 by_cases hf:za1 c=0
 case neg =>
  rw [if_pos hf,if_pos hf];exact ⟨rfl,s.side,g.used,hk,rfl,hg,.inl ⟨hf,rfl,rfl⟩⟩
 have hff:¬ ¬ za1 c=0:=fun x=>x hf
 rw [if_neg hff,if_neg hff]
 by_cases hr:12<(zah s.rows c).length∨N - 26<c.length+1
 · rw [if_pos hr,if_pos hr]
   exact ⟨rfl,s.side,g.used,hk,rfl,hg,.inl ⟨by omega,rfl,rfl⟩⟩
 rw [if_neg hr,if_neg hr];have h12:(zah s.rows c).length≤12:=by omega
 unfold zst;rw [hm2,hm3,hgm]
 by_cases hroom:N - 26 - g.used<c.length+1
 · rw [if_pos hroom,if_pos hroom]
   obtain ⟨a1,a2⟩:=zry hk hN hN2 hgm;rw [if_pos a1];have hlen2:=a2.free.len;obtain ⟨b1,b2⟩:=zpv (B:=g.dB) (c:=c) a2 hN hN2 h14 (by omega) hf h12
   have hsg:zb9 d s g=⟨g.dB,26,N - 26,zaf (zbe d s g).1 (zaW d s g),0⟩:=by
    unfold zb9;rw [hlen,zbA (d:=d) (d':=(zbe d s g).1) (by rw [hlen2,hlen])]
   rw [hsg];unfold addC;rw [if_pos b1];refine ⟨rfl,_,_,b2,rfl,?_,.inr ⟨rfl,rfl,rfl⟩⟩;have e:zaf (addD ⟨g.dB,26,N - 26,zaf (zbe d s g).1 (zaW d s g),0⟩ (zbe d s g).1 c).1 (zaW d s g)=zaf (zbe d s g).1 (zaW d s g):=zbA (by rw [b2.free.len,hlen2]);show addG _ _ _=Lg.mk _ _ _ (zaf (addD ⟨g.dB,26,N - 26,zaf (zbe d s g).1 (zaW d s g),0⟩ (zbe d s g).1 c).1 (zaW d s g)) _;unfold addG;rw [if_pos b1,e]
 · rw [if_neg hroom,if_neg hroom]
   obtain ⟨b1,b2⟩:=zpv (B:=g.dB) (c:=c) hk hN hN2 h14 hroom hf h12;rw [← hg] at b1 b2;unfold addC;rw [if_pos b1];refine ⟨rfl,_,_,b2,rfl,?_,.inr ⟨rfl,rfl,rfl⟩⟩;show addG _ _ _=_;unfold addG;rw [if_pos b1]
   have e:zaf (addD g d c).1 s.side=g.first:=by
    rw [zbA (d:=d) (by rw [b2.free.len,hlen])];rw [hg]
   rw [e,hg]
end Go.Proofs.YtihnghnafpgdfadGreatDoor
namespace Go.Proofs.YtihnghnafpgdfadGreatDoor
open Go.RowKit Go.Deep Go.ChangeShapes Go.WideShapes
variable {d d':Dk}{N a first i k m n side:Nat}{l s:List UInt8}{r:List (List UInt8)}{g:Lg}{c:List Ch}
section
variable {H:Type} {enc:TypeId × Value→H} {w:World} {base:Nat} {spare:Nat→Bool} {held:Bool}
end
end Go.Proofs.YtihnghnafpgdfadGreatDoor
