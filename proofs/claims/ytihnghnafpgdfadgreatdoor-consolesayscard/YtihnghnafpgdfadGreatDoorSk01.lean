/- What the proofs stand on, part 1: ShelfBase. -/
import Derived.WalkKit
import Derived.WalkSpells
import Derived.WalkLawsBesides
import Derived.Deep.QuietTactic
import Derived.BigQuiet
import Derived.Test.YtihnghnafpgdfadGreatDoorRows
set_option linter.unusedVariables false
set_option linter.unusedSimpArgs false
set_option maxRecDepth 100000
set_option maxHeartbeats 400000
namespace Go.Proofs.YtihnghnafpgdfadGreatDoor
open Go.RowKit
variable {n:Int}{v:Value}{a b c name:ByteArray}{B i j k r:Nat}{W w w' w1:World}
def zjX (n:Int):Bool:=(decide (97≤n) && decide (n≤122)) || (decide (48≤n) && decide (n≤57))
def pl (c:UInt8):Bool:=zjX c.toNat
def zbq (l:List UInt8):Int:=if l.isEmpty then 3 else if l.all pl then (if 6<l.length then 2 else 0) else 3
def zcB (n t:List UInt8)(k:Int):Int :=
 if zbq n≠0 then zbq n else if 12<t.length then 2 else if k<1∨9999<k then 1 else 0
theorem zfd (l:List UInt8):zbq l=0∨zbq l=2∨zbq l=3:=by
 unfold zbq;split <;> (try split) <;> (try split) <;> simp
theorem zq7 (s:ByteArray)(k:Nat)(h:k<s.size):s.data.toList.take (k+1)=s.data.toList.take k ++ [s[k]]:=by
 rw [List.take_succ_eq_append_getElem (by simpa using h)];rfl
theorem zpa (s:ByteArray)(k:Nat)(h:k<s.size):(s.data.toList.take (k+1)).all pl=((s.data.toList.take k).all pl && pl s[k]):=by
 rw [zq7 s k h];simp
theorem zpK (s:ByteArray)(k:Nat)(h:s.size≤k):s.data.toList.take k=s.data.toList :=
 List.take_of_length_le (by simp;omega)
theorem znU (s:ByteArray)(k:Nat)(h:k<s.size)(hp:pl s[k]=false):zbq s.data.toList=3:=by
 have:s.data.toList.all pl=false:=by
  rw [List.all_eq_false];exact ⟨s[k],by simp [ByteArray.getElem_eq_getElem_data],by simp [hp]⟩
 unfold zbq;simp [this]
theorem zlk (l:List UInt8)(h:l.all pl=true)(hn:l≠[]):zbq l=if 6<l.length then 2 else 0:=by
 unfold zbq;simp [h,hn]
theorem zt8 (c:UInt8)(h:(97≤(c.toNat:Int)∧(c.toNat:Int)≤122)∨(48≤(c.toNat:Int)∧(c.toNat:Int)≤57)):pl c=true:=by
 unfold pl zjX;simp only [Bool.or_eq_true,Bool.and_eq_true,decide_eq_true_eq];exact h
theorem zsM (c:UInt8)(h:((c.toNat:Int)<97∨122<(c.toNat:Int))∧((c.toNat:Int)<48∨57<(c.toNat:Int))):pl c=false:=by
 rw [Bool.eq_false_iff];unfold pl zjX;simp only [ne_eq,Bool.or_eq_true,Bool.and_eq_true,decide_eq_true_eq];omega
theorem zjw (s:ByteArray)(h:¬ s.size=0):s.data.toList≠[]:=by
 intro e
 apply h
 have:s.data.toList.length=0:=by rw [e];rfl
 simpa using this
theorem zdD (s:ByteArray)(h:¬ s.size=0):s.toList.isEmpty=false:=by
 have:s.toList=s.data.toList:=ByteArray.toList_eq s;rw [this]
 simpa using zjw s h
def errV (n:Int):Value:=if n=0 then .nilIface else .iface 90 (.int .i64 n)
theorem zac (h:n=0):errV n=.nilIface:=by unfold errV;rw [if_pos h]
theorem zak (h:n≠0):errV n=.iface 90 (.int .i64 n):=by unfold errV;rw [if_neg h]
theorem zbS {a b:Bool}(h:a=b):Ending.returned (.bool a)=.returned (.bool b):=by rw [h]
theorem zca {k:IntKind}{a b:Int}(h:a=b):Ending.returned (.int k a)=.returned (.int k b):=by rw [h]
theorem zsi (h:v=errV n):Ending.returned v=.returned (errV n):=by rw [h]
theorem zmU (n:Int)(w:World) :
 Calls Tryz.prog 157 #[.int .u8 n] w fun e w'=>e=.returned (.bool (zjX n))∧w'=w:=by
 go_enter Tryz.func157,Tryz.ntmps157
 go_wp2
 all_goals
  go_ret;exact ⟨zbS (by unfold zjX;grind),rfl⟩
theorem zlF (s:ByteArray) (w:World) (hs:s.size≤maxLen) :
 Calls Tryz.prog 117 #[.string s] w fun e w'=>e=.returned (errV (zbq s.data.toList))∧w'=w:=by
 unfold maxLen at hs
 by_cases h0:s.size=0
 · have e0:s=⟨#[]⟩:=by
    have:s.data=#[]:=Array.eq_empty_of_size_eq_zero h0;cases s;simp_all
   subst e0
   go_enter Tryz.func117,Tryz.ntmps117
   go_wp2;go_ret;exact ⟨rfl,rfl⟩
 · have hne:s.toList.isEmpty=false:=zdD s h0
   go_enter Tryz.func117,Tryz.ntmps117
   go_wp2_with fail
   go_loop [9] (fun i=>∃ k:Nat,k≤s.size∧i=.int .i64 k∧(s.data.toList.take k).all pl=true) (fun i=>s.size - (intOf i).toNat)
   case atStart=>exact ⟨0,Nat.zero_le _,rfl,rfl⟩
   case round =>
    obtain ⟨k,hk,rfl,hall⟩:=hrel;have Hall:Hid ((s.data.toList.take k).all pl=true):=hall;clear hall
    by_cases hlt:k<s.size
    · by_cases hp:pl s[k]=true
      · have hp':zjX s[k].toNat=true:=hp
        go_wp2_with (go_at_call 157;refine (zmU _ _).mono ?_;rintro e w' ⟨rfl,rfl⟩)
        go_round
        case rel=>exact ⟨k+1,by omega,by go_num,by rw [zpa s k hlt,Hall.out,hp];rfl⟩
        case measure=>simp [intOf];omega
      · have hp':zjX s[k].toNat=false:=by simpa [pl] using hp
        go_wp2_with (go_at_call 157;refine (zmU _ _).mono ?_;rintro e w' ⟨rfl,rfl⟩)
        go_ret;exact ⟨by rw [znU s k hlt hp'];rfl,rfl⟩
    · have hfin:zbq s.data.toList=if 6<s.size then 2 else 0:=by
       have h:=Hall.out;rw [zpK s k (by omega)] at h;rw [zlk _ h (zjw s h0)];simp
      have Hfin:Hid (zbq s.data.toList=if 6<s.size then 2 else 0):=hfin;clear hfin
      by_cases h6:6<s.size
      all_goals
       go_wp2;go_ret;exact ⟨by rw [Hfin.out];simp [h6,errV],rfl⟩
theorem zhC (s:ByteArray) (w:World) (hs:s.size≤maxLen) :
 Calls Tryz.prog 103 #[.string s] w fun e w'=>e=.returned (.int .i64 (zbq s.data.toList))∧w'=w:=by
 unfold maxLen at hs
 go_enter Tryz.func103,Tryz.ntmps103
 go_wp2_with fail
 go_loop [3] (fun i=>∃ k:Nat,k≤s.size∧i=.int .i64 k∧(s.data.toList.take k).all pl=true) (fun i=>s.size - (intOf i).toNat)
 case atStart=>exact ⟨0,Nat.zero_le _,rfl,rfl⟩
 case round =>
  obtain ⟨k,hk,rfl,hall⟩:=hrel;have Hall:Hid ((s.data.toList.take k).all pl=true):=hall;clear hall
  by_cases hlt:k<s.size
  · go_wp2
    all_goals first
     | (go_ret;exact ⟨zca (znU s k hlt (zsM _ (by omega))).symm,rfl⟩)
     | (refine ⟨⟨k+1,by omega,by go_num,?_⟩,by simp [intOf];omega⟩;rw [zpa s k hlt,Hall.out,zt8 s[k] (by omega)];rfl)
  · by_cases h0:s.size=0
    · have e0:s=⟨#[]⟩:=by
       have:s.data=#[]:=Array.eq_empty_of_size_eq_zero h0;cases s;simp_all
      subst e0;go_wp2;go_ret;exact ⟨zca rfl,rfl⟩
    · have hne:s.toList.isEmpty=false:=zdD s h0
      have hfin:zbq s.data.toList=if 6<s.size then 2 else 0:=by
       have h:=Hall.out;rw [zpK s k (by omega)] at h;rw [zlk _ h (zjw s h0)];simp
      have Hfin:Hid (zbq s.data.toList=if 6<s.size then 2 else 0):=hfin;clear hfin
      by_cases h6:6<s.size
      all_goals
       go_wp2;go_ret;exact ⟨zca (by rw [Hfin.out];simp [h6]),rfl⟩
def zrp (n f:Int):Bool:=if n=0 then f == 0 else decide (0<f) && n == f
theorem zk8 (v:Value)(w:World):(Instr.typeAssert (.iface 90 v) 38 90 true).run Tryz.prog w=.ok (.tuple #[v,.bool true]) w:=by kernel_rfl
theorem zs7 (n f:Int)(w:World)(h0:0≤n)(h1:n≤100) :
 Calls Tryz.prog 21 #[errV n,.int .i64 f] w fun e w'=>e=.returned (.bool (zrp n f))∧w'=w:=by
 by_cases h:n=0
 · subst h
   show Calls Tryz.prog 21 #[.nilIface,.int .i64 f] w _
   go_enter Tryz.func21,Tryz.ntmps21
   go_wp2;go_ret;exact ⟨zbS (by simp [zrp]),rfl⟩
 · have e:errV n=.iface 90 (.int .i64 n):=by simp [errV,h]
   rw [e];have ha:=zk8 (.int .i64 n)
   go_enter Tryz.func21,Tryz.ntmps21
   go_wp2
   all_goals
    go_ret;exact ⟨zbS (by simp [zrp, *] <;> omega),rfl⟩
theorem zlS (n:Int)(w:World)(h0:0≤n)(h1:n≤100) :
 Calls Tryz.prog 21 #[errV n,.int .i64 n] w fun e w'=>e=.returned (.bool true)∧w'=w:=by
 have hb:zrp n n=true:=by
  unfold zrp
  by_cases h:n=0
  · simp [h]
  · simp [h];omega
 have h:=zs7 n n w h0 h1;rw [hb] at h;exact h
abbrev zjj (n t:ByteArray)(k:Int):Value:=.agg #[.string n,.string t,.int .i64 k]
theorem zdm (n t:ByteArray)(k:Int)(w:World)(hn:n.size≤maxLen)(ht:t.size≤maxLen) :
 Calls Tryz.prog 155 #[zjj n t k] w fun e w'=>e=.returned (errV (zcB n.data.toList t.data.toList k))∧w'=w.alloc (.cells #[.string n,.string t,.int .i64 k] 98):=by
 have hn':=hn;unfold maxLen at ht hn
 by_cases hz:zbq n.data.toList=0
 · have hfin:zcB n.data.toList t.data.toList k=if 12<t.size then 2 else if k<1∨9999<k then 1 else 0:=by simp [zcB,hz]
   have Hfin:Hid (zcB n.data.toList t.data.toList k=if 12<t.size then 2 else if k<1∨9999<k then 1 else 0):=hfin;clear hfin;have he:errV (zbq n.data.toList)=.nilIface:=by rw [hz];rfl
   clear hz
   go_enter Tryz.func155,Tryz.ntmps155
   go_wp2_with (go_at_call 117;refine (zlF _ _ hn').mono ?_;rintro e w' ⟨rfl,rfl⟩)
   all_goals
    go_ret;exact ⟨by rw [Hfin.out];exact zsi (by first | (rw [if_pos (by omega)];rfl) | (rw [if_neg (by omega),if_pos (by omega)];rfl) | (rw [if_neg (by omega),if_neg (by omega)];rfl)),rfl⟩
 · have hfin:zcB n.data.toList t.data.toList k=zbq n.data.toList:=by simp [zcB,hz]
   rw [hfin];have he:errV (zbq n.data.toList)=.iface 90 (.int .i64 (zbq n.data.toList)):=by simp [errV,hz]
   rw [he];clear hfin hz
   go_enter Tryz.func155,Tryz.ntmps155
   go_wp2_with (go_at_call 117;refine (zlF _ _ hn').mono ?_;rintro e w' ⟨rfl,rfl⟩)
   go_ret;exact ⟨rfl,rfl⟩
theorem ze6 (n t:ByteArray)(k:Int)(w:World)(hn:n.size≤maxLen)(ht:t.size≤maxLen) :
 Calls Tryz.prog 146 #[zjj n t k] w fun e w'=>e=.returned (.int .i64 (zcB n.data.toList t.data.toList k))∧w'=w.alloc (.cells #[.string n,.string t,.int .i64 k] 98):=by
 have hn':=hn;unfold maxLen at ht hn;have hc:=zfd n.data.toList;have hfin:zcB n.data.toList t.data.toList k=if zbq n.data.toList≠0 then zbq n.data.toList else if 12<t.size then 2 else if k<1∨9999<k then 1 else 0:=by simp [zcB]
 have Hfin:Hid (zcB n.data.toList t.data.toList k=if zbq n.data.toList≠0 then zbq n.data.toList else if 12<t.size then 2 else if k<1∨9999<k then 1 else 0):=hfin;clear hfin;generalize hm:zbq n.data.toList=m at *;have Hm:Hid (zbq n.data.toList=m):=hm;clear hm
 by_cases hz:0<m
 all_goals
  go_enter Tryz.func146,Tryz.ntmps146
  go_wp2_with (go_at_call 103;refine (zhC _ _ hn').mono ?_;rintro e w' ⟨rfl,rfl⟩;rw [Hm.out])
  all_goals
   go_ret;exact ⟨by rw [Hfin.out];exact zca (by first | (rw [if_pos (by omega)];done) | (rw [if_neg (by omega),if_pos (by omega)];done) | (rw [if_neg (by omega),if_neg (by omega),if_pos (by omega)];done) | (rw [if_neg (by omega),if_neg (by omega),if_neg (by omega)];done)),rfl⟩
theorem zes:∀ (x y:List UInt8),Op.bytesLess x y=decide (x<y)
 | [],[]=>by simp [Op.bytesLess]
 | _ :: _,[]=>by simp [Op.bytesLess]
 | [],_ :: _=>by simp [Op.bytesLess]
 | a :: x,b :: y=>by
   rw [Op.bytesLess,zes x y];simp only [List.cons_lt_cons_iff]
   by_cases h1:a<b <;> by_cases h2:a=b <;> by_cases h3:x<y <;> simp [h1,h2,h3]
abbrev ltB (a b:ByteArray):Bool:=Op.bytesLess a.toList b.toList
theorem toList_inj (h:a.toList=b.toList):a=b:=by
 rw [ByteArray.toList_eq,ByteArray.toList_eq] at h;obtain ⟨⟨x⟩⟩:=a;obtain ⟨⟨y⟩⟩:=b;simp at h;rw [h]
theorem zaB (a:ByteArray):ltB a a=false:=by
 unfold ltB;rw [zes];simp
theorem zcZ (h1:ltB a b=true)(h2:ltB b c=true):ltB a c=true:=by
 unfold ltB at *;rw [zes] at *;simp at *;exact List.lt_trans h1 h2
theorem zi3 (h1:ltB a b=true):ltB b a=false:=by
 cases h:ltB b a
 · rfl
 · have:=zcZ h1 h;rw [zaB] at this;exact absurd this (by simp)
theorem zdu (h1:ltB a b=false)(h2:ltB b a=false):a=b:=by
 unfold ltB at *;rw [zes] at *;simp at *
 exact toList_inj (List.le_antisymm h2 h1)
theorem zit (h1:ltB b a=false)(h2:ltB c b=false):ltB c a=false:=by
 cases h:ltB c a
 · rfl
 · cases h3:ltB a b
   · have e:=zdu h3 h1;subst e;rw [h2] at h;exact absurd h (by simp)
   · have:=zcZ h h3;rw [h2] at this;exact absurd this (by simp)
theorem leqB (a b:ByteArray):(Op.bytesLess a.toList b.toList || a.toList == b.toList)=!ltB b a:=by
 cases h:ltB b a
 · simp only [Bool.not_false]
   cases h2:ltB a b
   · have e:=zdu h2 h;subst e;simp
   · unfold ltB at h2;rw [h2];rfl
 · have h2:=zi3 h
   have h3:(a.toList == b.toList)=false:=by
    cases h4:a.toList == b.toList
    · rfl
    · have e:=toList_inj (by simpa using h4:a.toList=b.toList);subst e;rw [zaB] at h;exact absurd h (by simp)
   unfold ltB at h2;rw [h2,h3];rfl
theorem zbE (h:a=b):(a.toList == b.toList)=true:=by subst h;simp
theorem zaS (h:¬ a=b):(a.toList == b.toList)=false:=by
 cases h4:a.toList == b.toList
 · rfl
 · exact absurd (toList_inj (by simpa using h4:a.toList=b.toList)) h
structure Fi where
 n:ByteArray
 t:ByteArray
 k:Int
def Fi.fault (f:Fi):Int:=zcB f.n.data.toList f.t.data.toList f.k
theorem Fi.ext' {f g:Fi}(h1:f.n=g.n)(h2:f.t=g.t)(h3:f.k=g.k):f=g:=by
 cases f;cases g;simp at h1 h2 h3;subst h1 h2 h3;rfl
theorem zb8 {α:Type}(l:List α)(k:Nat)(h:k<l.length):l.take (k+1)=l.take k ++ [l[k]]:=List.take_succ_eq_append_getElem h
theorem zft {α:Type}(l:List α)(k:Nat)(h:l.length≤k):l.take k=l:=List.take_of_length_le h
theorem zo3 (n t:List UInt8)(k:Int):zcB n t k=0∨zcB n t k=1∨zcB n t k=2∨zcB n t k=3:=by
 have:=zfd n;unfold zcB
 split <;> (try split) <;> (try split) <;> omega
theorem Fi.fault_range (f:Fi):0≤f.fault∧f.fault≤100:=by
 have:=zo3 f.n.data.toList f.t.data.toList f.k;unfold Fi.fault;omega
def zbj (l:List Fi) (i:Nat):Int :=
 match l[i]? with
 | none=>0
 | some f=>if f.fault≠0 then f.fault else match i with
   | 0=>0
   | j+1=>match l[j]? with
     | none=>0
     | some g=>if ltB g.n f.n=true then 0 else 3
theorem zgO {l:List Fi}(h:i<l.length)(hf:l[i].fault≠0):zbj l i=l[i].fault:=by
 unfold zbj;rw [List.getElem?_eq_getElem h];simp [hf]
theorem zih {l:List Fi}(h:0<l.length)(hf:l[0].fault=0):zbj l 0=0:=by
 unfold zbj;rw [List.getElem?_eq_getElem h];simp [hf]
theorem zfW {l:List Fi}(h:i+1<l.length)(hf:l[i+1].fault=0):zbj l (i+1)=if ltB l[i].n l[i+1].n=true then 0 else 3:=by
 unfold zbj;rw [List.getElem?_eq_getElem h];simp only [hf];rw [List.getElem?_eq_getElem (show i<l.length by omega)];simp
def zcR (l:List Fi):Int:=if 8<l.length then 2 else match (List.range l.length).find? (fun i=>zbj l i != 0) with
 | none=>0
 | some i=>zbj l i
theorem zjZ {l:List Fi}(h:8<l.length):zcR l=2:=by simp [zcR,h]
theorem zjG {l:List Fi}(h:l.length≤8)(hz:∀ i,i<l.length→zbj l i=0):zcR l=0:=by
 have:(List.range l.length).find? (fun i=>zbj l i != 0)=none:=by
  rw [List.find?_eq_none];intro i hi;simp [hz i (by simpa using hi)]
 simp [zcR,this,show ¬ 8<l.length by omega]
theorem zgW {l:List Fi}(h:l.length≤8)(hk:k<l.length)(hz:∀ i,i<k→zbj l i=0)(hf:zbj l k≠0):zcR l=zbj l k:=by
 have:(List.range l.length).find? (fun i=>zbj l i != 0)=some k:=by
  rw [List.find?_range_eq_some];exact ⟨by simpa using hf,by simpa using hk,fun j hj=>by simp [hz j hj]⟩
 simp [zcR,this,show ¬ 8<l.length by omega]
structure Good (l:List Fi):Prop where
 few:l.length≤8
 each:∀ f ∈ l,f.fault=0
 rise:∀ i (h:i+1<l.length),ltB l[i].n l[i+1].n=true
theorem zm3 {l:List Fi} (h:zcR l=0):Good l:=by
 have h8:l.length≤8:=by
  rcases Nat.lt_or_ge 8 l.length with h8 | h8
  · rw [zjZ h8] at h;exact absurd h (by decide)
  · exact h8
 have hz:∀ k i,i<k→k≤l.length→zbj l i=0:=by
  intro k
  induction k with
  | zero=>intro i hi;omega
  | succ k ih =>
    intro i hi hk;rcases Nat.lt_or_ge i k with h1 | h1
    · exact ih i h1 (by omega)
    · obtain rfl:i=k:=by omega
      by_cases hf:zbj l i=0
      · exact hf
      · rw [zgW h8 (by omega) (fun j hj=>ih j hj (by omega)) hf] at h;exact absurd h hf
 have hz':∀ i,i<l.length→zbj l i=0:=fun i hi=>hz l.length i hi (Nat.le_refl _)
 have hf:∀ i (h:i<l.length),l[i].fault=0:=by
  intro i hi
  by_cases e:l[i].fault=0
  · exact e
  · have:=zgO hi e;rw [hz' i hi] at this;exact this.symm
 refine ⟨h8,?_,?_⟩
 · intro f hm
   obtain ⟨i,hi,rfl⟩:=List.getElem_of_mem hm;exact hf i hi
 · intro i hi
   have:=zfW hi (hf _ hi);rw [hz' _ hi] at this
   by_cases e:ltB l[i].n l[i+1].n=true
   · exact e
   · rw [if_neg e] at this;exact absurd this (by decide)
theorem zmZ {l:List Fi}(h:Good l):zcR l=0:=by
 apply zjG h.few
 intro i hi;cases i with
 | zero=>exact zih hi (h.each _ (List.getElem_mem hi))
 | succ i=>rw [zfW hi (h.each _ (List.getElem_mem hi)),if_pos (h.rise i hi)]
theorem Good.lt {l:List Fi}(h:Good l)(hij:i<j)(hj:j<l.length):ltB l[i].n l[j].n=true:=by
 induction j with
 | zero=>omega
 | succ j ih =>
   rcases Nat.lt_or_ge i j with h1 | h1
   · exact zcZ (ih h1 (by omega)) (h.rise j hj)
   · obtain rfl:i=j:=by omega
     exact h.rise i hj
def zaF (w:World)(a:Option Addr)(l:List Fi):Prop :=
 ∀ i (h:i<l.length),∃ b off,a=some ⟨b,off,none⟩∧w.cell? ⟨b,off+i * 3,none⟩=some (.string l[i].n)∧w.cell? ⟨b,off+i * 3+1,none⟩=some (.string l[i].t)∧w.cell? ⟨b,off+i * 3+2,none⟩=some (.int .i64 l[i].k)
theorem zaF.below {a:Option Addr}{l:List Fi}(h:zaF w a l)(hb:Below w.heap.size w w'):zaF w' a l:=by
 intro i hi;obtain ⟨b,off,rfl,c0,c1,c2⟩:=h i hi;exact ⟨b,off,rfl,by rw [hb.cell (World.block_lt_of_cell? _ _ c0)];exact c0,by rw [hb.cell (World.block_lt_of_cell? _ _ c1)];exact c1,by rw [hb.cell (World.block_lt_of_cell? _ _ c2)];exact c2⟩
theorem zaF.drewN {a:Option Addr}{l:List Fi}(h:zaF w a l)(q:Nat):zaF (w.drewN q) a l:=by
 intro i hi
 simpa using h i hi
theorem zaF.alloc {a:Option Addr}{l:List Fi}(h:zaF w a l)(o:Obj):zaF (w.alloc o) a l :=
 h.below ((Below.refl _ _).alloc (Nat.le_refl _) o)
theorem zaF.nil (w:World)(a:Option Addr):zaF w a []:=fun i h=>absurd h (Nat.not_lt_zero _)
theorem zgB (hb:Below B W w1):(∀ b o,b<B→w1.cell? ⟨b,o,none⟩=W.cell? ⟨b,o,none⟩)∧(∀ b o,b<B→w1.frozen? ⟨b,o,none⟩=W.frozen? ⟨b,o,none⟩) :=
 ⟨fun b o h=>hb.cell (p:=⟨b,o,none⟩) h,fun b o h=>hb.frozen (p:=⟨b,o,none⟩) h⟩
def zok (l:List Fi):Prop:=∀ f ∈ l,f.n.size≤maxLen∧f.t.size≤maxLen
theorem zok.at {l:List Fi}(h:zok l)(hk:k<l.length):l[k].n.size≤maxLen∧l[k].t.size≤maxLen:=h _ (List.getElem_mem hk)
def posF:List Fi→ByteArray→Nat
 | [],_=>0
 | f :: r,name=>if ltB f.n name=true then posF r name+1 else 0
def hasF (l:List Fi)(name:ByteArray):Bool:=match l[posF l name]? with
 | some f=>f.n.toList == name.toList
 | none=>false
theorem zgR (l:List Fi)(name:ByteArray):posF l name≤l.length:=by
 induction l with
 | nil=>simp [posF]
 | cons f r ih=>simp only [posF,List.length_cons];split <;> omega
theorem zhQ (l:List Fi)(name:ByteArray):∀ i (hi:i<l.length),i<posF l name→ltB l[i].n name=true:=by
 induction l with
 | nil=>intro i hi;simp at hi
 | cons f r ih =>
   intro i hi h;simp only [posF] at h
   by_cases hf:ltB f.n name=true
   · rw [if_pos hf] at h
     cases i with
     | zero=>simpa using hf
     | succ i=>simpa using ih i (by simpa using hi) (by omega)
   · rw [if_neg hf] at h;omega
theorem zo6 (l:List Fi)(name:ByteArray):∀ (h:posF l name<l.length),ltB l[posF l name].n name=false:=by
 induction l with
 | nil=>intro h;simp at h
 | cons f r ih =>
   intro h
   by_cases hf:ltB f.n name=true
   · have e:posF (f :: r) name=posF r name+1:=by simp only [posF];rw [if_pos hf]
     simp only [e,List.getElem_cons_succ];exact ih (by rw [e] at h;simpa using h)
   · have e:posF (f :: r) name=0:=by simp only [posF];rw [if_neg hf]
     simp only [e,List.getElem_cons_zero]
     simpa using hf
theorem ztV {l:List Fi}(hr:r≤l.length)(h1:∀ k (h:k<l.length),k<r→ltB l[k].n name=true)(h2:∀ k (h:k<l.length),r≤k→ltB l[k].n name=false):posF l name=r:=by
 have hp:=zgR l name;rcases Nat.lt_trichotomy (posF l name) r with h | h | h
 · have:=zo6 l name (by omega)
   rw [h1 _ (by omega) h] at this
   exact absurd this (by simp)
 · exact h
 · have:=zhQ l name r (by omega) h
   rw [h2 r (by omega) (Nat.le_refl _)] at this
   exact absurd this (by simp)
def Mono (l:List Fi)(name:ByteArray):Prop:=∀ i j (hi:i<l.length) (hj:j<l.length),i≤j→ltB l[i].n name=false→ltB l[j].n name=false
theorem Good.mono {l:List Fi}(h:Good l)(name:ByteArray):Mono l name:=by
 intro i j hi hj hij hf;rcases Nat.lt_or_ge i j with h1 | h1
 · exact zit hf (zi3 (h.lt h1 hj))
 · have e:i=j:=by omega
   subst e;exact hf
def getF (l:List Fi)(name:ByteArray):Option Fi:=l.find? (fun f=>f.n.toList == name.toList)
theorem zmI {l:List Fi}(hk:k<l.length)(h:∀ i (hi:i<l.length),i<k→(l[i].n.toList == name.toList)=false)(he:(l[k].n.toList == name.toList)=true):getF l name=some l[k]:=by
 unfold getF;rw [List.find?_eq_some_iff_getElem];exact ⟨he,k,hk,rfl,fun j hj=>by simpa using h j (by omega) hj⟩
theorem zmj {l:List Fi}(h:∀ i (hi:i<l.length),(l[i].n.toList == name.toList)=false):getF l name=none:=by
 unfold getF;rw [List.find?_eq_none];intro f hf;obtain ⟨i,hi,rfl⟩:=List.getElem_of_mem hf
 simpa using h i hi
theorem zce {l:List Fi}(h:hasF l name=true):∃ hp:posF l name<l.length,l[posF l name].n=name:=by
 unfold hasF at h;rcases Nat.lt_or_ge (posF l name) l.length with hp | hp
 · rw [List.getElem?_eq_getElem hp] at h
   exact ⟨hp,toList_inj (by simpa using h)⟩
 · rw [List.getElem?_eq_none hp] at h
   exact absurd h (by simp)
theorem zlx {l:List Fi}(h:hasF l name=false)(hp:posF l name<l.length):¬ l[posF l name].n=name:=by
 unfold hasF at h;rw [List.getElem?_eq_getElem hp] at h;intro e;simp [e] at h
theorem Good.other {l:List Fi}(hg:Good l)(hi:i<l.length)(hne:i≠posF l name):¬ l[i].n=name:=by
 intro e;rcases Nat.lt_or_ge i (posF l name) with h | h
 · have:=zhQ l name i hi h
   rw [e,zaB] at this
   exact absurd this (by simp)
 · have h1:=hg.lt (i:=posF l name) (j:=i) (by omega) hi
   rw [e,zo6 l name (by omega)] at h1;exact absurd h1 (by simp)
theorem zlm {l:List Fi}(hg:Good l)(h:hasF l name=true)(hp:posF l name<l.length):getF l name=some l[posF l name]:=by
 obtain ⟨_,e⟩:=zce h;refine zmI hp (fun i hi hlt=>zaS (hg.other hi (by omega))) (zbE e)
theorem zgm {l:List Fi}(hg:Good l)(h:hasF l name=false):getF l name=none:=by
 refine zmj (fun i hi=>zaS ?_)
 by_cases e:i=posF l name
 · subst e;exact zlx h hi
 · exact hg.other hi e
theorem zd9 {l:List Fi}(hg:Good l)(name:ByteArray):(getF l name).isSome=hasF l name:=by
 cases h:hasF l name
 · rw [zgm hg h];rfl
 · obtain ⟨hp,_⟩:=zce h
   rw [zlm hg h hp];rfl
def putF (l:List Fi)(f:Fi):List Fi:=l.take (posF l f.n) ++ (f :: l.drop (if hasF l f.n=true then posF l f.n+1 else posF l f.n))
def putR (f:Fi):Bool→List Fi→List Fi
 | laid,[]=>if laid=true then [] else [f]
 | laid,g :: r =>
   (if laid=false∧ltB g.n f.n=false then [f] else []) ++ ((if g.n=f.n then [] else [g]) ++ putR f (laid || !ltB g.n f.n) r)
def zbG (l:List Fi)(name:ByteArray):List Fi:=l.take (posF l name) ++ l.drop (posF l name+1)
def zgr (l:List Fi)(name:ByteArray):List Fi:=l.filter (fun g=>!(g.n.toList == name.toList))
theorem Good.pw {l:List Fi}(h:Good l):l.Pairwise (fun a b=>ltB a.n b.n=true) :=
 List.pairwise_iff_getElem.2 (fun i j hi hj hij=>h.lt hij hj)
theorem zmx (f:Fi):∀ l:List Fi,(∀ g ∈ l,¬ g.n=f.n)→putR f true l=l
 | [],_=>rfl
 | g :: r,h=>by
   simp only [putR,Bool.true_or,Bool.true_eq_false,false_and,if_false,List.nil_append];rw [if_neg (h g (by simp)),zmx f r (fun x hx=>h x (by simp [hx]))]
   rfl
theorem zoT (f:Fi):∀ l:List Fi,l.Pairwise (fun a b=>ltB a.n b.n=true)→putR f false l=putF l f
 | [],_=>rfl
 | g :: r,h=>by
   rw [List.pairwise_cons] at h;obtain ⟨h1,h2⟩:=h
   by_cases hlt:ltB g.n f.n=true
   · have hne:¬ g.n=f.n:=by intro e;rw [e,zaB] at hlt;exact absurd hlt (by simp)
     have ih:=zoT f r h2;have e:posF (g :: r) f.n=posF r f.n+1:=by simp only [posF];rw [if_pos hlt]
     have e2:hasF (g :: r) f.n=hasF r f.n:=by unfold hasF;rw [e];simp
     simp only [putR,hlt,Bool.not_true,Bool.false_or,Bool.true_eq_false,and_false,if_false,List.nil_append];rw [if_neg hne,ih];unfold putF;rw [e,e2];cases hasF r f.n <;> simp
   · have hlt':ltB g.n f.n=false:=by simpa using hlt
     have e:posF (g :: r) f.n=0:=by simp only [posF];rw [if_neg hlt]
     have hr:∀ x ∈ r,¬ x.n=f.n:=by
      intro x hx ex;have:=h1 x hx;rw [ex,hlt'] at this
      exact absurd this (by simp)
     simp only [putR,hlt',and_self,if_true,Bool.not_false,Bool.or_true];rw [zmx f r hr];unfold putF hasF;rw [e]
     by_cases hn:g.n=f.n
     · rw [if_pos hn];simp [hn]
     · rw [if_neg hn]
       have:(g.n.toList == f.n.toList)=false:=zaS hn;simp [this]
theorem zpl (name:ByteArray):∀ l:List Fi,l.Pairwise (fun a b=>ltB a.n b.n=true)→hasF l name=true→zgr l name=zbG l name
 | [],_,h=>by simp [hasF,posF] at h
 | g :: r,h,hh=>by
   rw [List.pairwise_cons] at h;obtain ⟨h1,h2⟩:=h
   by_cases hlt:ltB g.n name=true
   · have hne:¬ g.n=name:=by intro e;rw [e,zaB] at hlt;exact absurd hlt (by simp)
     have e:posF (g :: r) name=posF r name+1:=by simp only [posF];rw [if_pos hlt]
     have e2:hasF (g :: r) name=hasF r name:=by unfold hasF;rw [e];simp
     rw [e2] at hh;have ih:=zpl name r h2 hh;unfold zbG zgr at *;rw [e];simp [zaS hne,ih]
   · have hlt':ltB g.n name=false:=by simpa using hlt
     have e:posF (g :: r) name=0:=by simp only [posF];rw [if_neg hlt]
     have hn:g.n=name:=by
      unfold hasF at hh;rw [e] at hh;exact toList_inj (by simpa using hh)
     unfold zbG zgr;rw [e]
     have hr:r.filter (fun g=>!(g.n.toList == name.toList))=r:=by
      rw [List.filter_eq_self];intro x hx
      have hx1:¬ x.n=name:=by
       intro ex;have:=h1 x hx;rw [ex,hn,zaB] at this
       exact absurd this (by simp)
      simp [zaS hx1]
     simp [zbE hn,hr]
end Go.Proofs.YtihnghnafpgdfadGreatDoor
