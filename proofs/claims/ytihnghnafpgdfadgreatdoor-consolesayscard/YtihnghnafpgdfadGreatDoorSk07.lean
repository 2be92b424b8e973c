/- What the proofs stand on, part 7: RowSame, ImageTold, ImagePure, ConsPure, ImageNought, ImageImg, Later, ImageKit, ConsBase, ConsWords, Texts, ConsTold, ImageQuiltM, QuiltRefT, QuiltRef2T, GoodMem. -/
import Derived.Shelf.SlSortCmp.KitK
import Derived.Deep.LoopGhost
import Derived.Deep.RegionHeld3
import Derived.Lib.AppendIntMem
import Derived.Lib.SplitLaws
import Derived.Lib.IndexBytes
import Derived.Lib.AtoiAll
import Derived.WalkKit
import Derived.Below
import Derived.BigQuiet
import Derived.WalkSmall
import Derived.Laws.AppendOwn
import Derived.Lib.SmallJoins
import Derived.Laws.OwnMore
import Derived.Shelf.Strconv.AtoiAll
import Derived.Shelf.Strconv.ErrVarAll
import Derived.Lib.ItoaLen
import Derived.Deep.DeepCutAuto
import Derived.Test.YtihnghnafpgdfadGreatDoorSk05
import Derived.Test.YtihnghnafpgdfadGreatDoorSk06
import Derived.Test.YtihnghnafpgdfadGreatDoorNums
import Derived.Test.YtihnghnafpgdfadGreatDoorProg
import Derived.Test.YtihnghnafpgdfadGreatDoorSplit
import Derived.Test.YtihnghnafpgdfadGreatDoorSk02
import Derived.Test.YtihnghnafpgdfadGreatDoorSk01
import Derived.Test.YtihnghnafpgdfadGreatDoorSk04
set_option linter.unusedVariables false
set_option linter.unusedSimpArgs false
set_option maxRecDepth 100000
set_option maxHeartbeats 4000000
namespace Go.Proofs.YtihnghnafpgdfadGreatDoor
open Go.RowKit
variable {B C base cap i id j k n size u vc:Nat}{r:List UInt8}{fs l:List Fi}{S rows:List Ch}{name other s:ByteArray}{Q:Exit→Act→World→Prop}{W W' w w':World}{v v':Value}{args cs:Array Value}{e:TypeId}{a va:Option Addr}{row:Option Nat}
theorem zuE:Tryz.prog.stoodInHeld 143=false:=by kernel_rfl
theorem ziC (a b c d:ByteArray)(k j:Bool)(w:World):(Op.equalIn 10000 143 (.agg #[.string a,.string b,.bool k]) (.agg #[.string c,.string d,.bool j])).run Tryz.prog w=.ok ((a.toList == c.toList) && ((b.toList == d.toList) && (k == j))) w:=by
 have h:=run_equalIn_agg (P:=Tryz.prog) w 9999 143 #[.string a,.string b,.bool k] #[.string c,.string d,.bool j] (by kernel_rfl) zuE;rw [h];simp [go_sem,Op.eqFields,Program.fieldsOf,Tryz.underlying143]
 by_cases h1:a.toList=c.toList <;> by_cases h2:b.toList=d.toList <;> cases k <;> cases j <;> simp [h1,h2]
def eqCh (f g:Ch):Bool:=(f.key.toList == g.key.toList) && ((f.val.toList == g.val.toList) && (f.gone == g.gone))
theorem zgn (f g:Ch):eqCh f g=true↔f=g:=by
 constructor
 · intro h
   simp only [eqCh,Bool.and_eq_true,beq_iff_eq] at h;cases f;cases g;simp only [Ch.mk.injEq];exact ⟨toList_inj h.1,toList_inj h.2.1,h.2.2⟩
 · rintro rfl
   simp [eqCh]
theorem zgF (f g:Ch)(w:World):(binOp .neq 143 (.agg #[.string f.key,.string f.val,.bool f.gone]) (.agg #[.string g.key,.string g.val,.bool g.gone])).run Tryz.prog w=.ok (.bool (!eqCh f g)) w:=by
 rw [run_neq_struct,ziC];rfl
def zdR (l m:List Ch):Bool:=decide (l.length=m.length) && (List.range l.length).all (fun i=>match l[i]?,m[i]? with | some f,some g=>eqCh f g | _,_=>false)
theorem zc5 (l m:List Ch):zdR l m=true↔l=m:=by
 constructor
 · intro h
   simp only [zdR,Bool.and_eq_true,decide_eq_true_eq,List.all_eq_true,List.mem_range] at h
   apply List.ext_getElem h.1
   intro i h1 h2;have:=h.2 i h1;rw [List.getElem?_eq_getElem h1,List.getElem?_eq_getElem h2] at this
   exact (zgn _ _).1 this
 · rintro rfl
   simp only [zdR,decide_true,Bool.true_and,List.all_eq_true,List.mem_range];intro i h1;rw [List.getElem?_eq_getElem h1];exact (zgn _ _).2 rfl
theorem zoN (l:List Ch):zdR l l=true:=(zc5 l l).2 rfl
theorem zp2 {l m:List Ch}(h:¬ l.length=m.length):zdR l m=false:=by
 rw [Bool.eq_false_iff];intro e;exact h (by rw [(zc5 l m).1 e])
theorem zsg {l m:List Ch}(h1:k<l.length)(h2:k<m.length)(h:eqCh l[k] m[k]=false):zdR l m=false:=by
 rw [Bool.eq_false_iff];intro e
 have:=(zc5 l m).1 e;subst this
 rw [(zgn _ _).2 rfl] at h;exact absurd h (by simp)
theorem zqF {l m:List Ch}(hl:l.length=m.length)(h:∀ i (h1:i<l.length) (h2:i<m.length),eqCh l[i] m[i]=true):zdR l m=true:=by
 rw [zc5]
 apply List.ext_getElem hl
 intro i h1 h2;exact (zgn _ _).1 (h i h1 h2)
end Go.Proofs.YtihnghnafpgdfadGreatDoor
namespace Go.Proofs.YtihnghnafpgdfadGreatDoor
open Go Go.RowKit Go.BigFrame
variable {B C base cap i id j k n size u vc:Nat}{r:List UInt8}{fs l:List Fi}{S rows:List Ch}{name other s:ByteArray}{Q:Exit→Act→World→Prop}{W W' w w':World}{v v':Value}{args cs:Array Value}{e:TypeId}{a va:Option Addr}{row:Option Nat}
theorem zdO (x:UInt8):∀ n,Lib.repeatL [x] n=List.replicate n x
 | 0=>rfl
 | n+1=>by rw [Lib.repeatL,zdO x n];rfl
theorem zci (h:Lib.nDigits (u / 10)≤k):Lib.nDigits u≤k+1:=by
 rw [Lib.nDigits]
 split <;> omega
theorem zmC (h:u<10000):(Lib.itoa (u:Int)).length≤4:=by
 rw [Lib.itoa_nonneg,Lib.decDigits_length];exact zci (zci (zci (Nat.le_of_eq (Lib.nDigits_small (by omega)))))
def zg4 (n:Int):List UInt8:=Lib.repeatL [48] (4 - (Lib.itoa n).length) ++ Lib.itoa n
theorem zpu (n:Int)(w:World)(h0:0≤n)(h1:n≤100000)(hlen:(Lib.itoa n).length≤4)(htab:Lib.TabIs Tryz.prog w "internal/strconv.uint64pow10" .u64 Lib.pow10Tab) :
 Calls Tryz.prog 105 #[.int .i64 n] w fun e w'=>e=.returned (.string ⟨(zg4 n).toArray⟩)∧Below w.heap.size w w':=by
 have KI:Hid _:=Tryz.strconv_Itoa n (by omega) (by omega) w htab;have HT:Hid (zg4 n=Lib.repeatL [48] (4 - (Lib.itoa n).length) ++ Lib.itoa n):=rfl;clear htab;generalize Lib.itoa n=D at *;generalize zg4 n=T at *;have hmax:max (0:Int) (4 - (D.length:Int))=((4 - D.length:Nat):Int):=by omega
 have HMAX:Hid (max (0:Int) (4 - (D.length:Int))=((4 - D.length:Nat):Int)):=hmax;clear hmax
 go_enter Tryz.func105,Tryz.ntmps105
 go_wp2_with fail
 refine Calls.mono KI.out ?_;rintro e w1 ⟨rfl,k,os,hw⟩;have HB1:Hid (Below w.heap.size w w1):=by show Below _ _ _;rw [hw];exact Lib.below_grow _ w (Nat.le_refl _) k os
 have KR:Hid _:=Tryz.strings_Repeat ⟨#[48]⟩ (4 - D.length) w1 (by omega) (by simp [ByteArray.size];omega);clear KI hw
 go_wp2_with fail
 rw [HMAX.out];refine Calls.mono KR.out ?_;rintro e w2 ⟨rfl,hb⟩;have HB2:Hid (Below w.heap.size w w2):=HB1.out.trans (hb.mono HB1.out.size);clear hb KR HB1
 have hsz:(⟨(Lib.repeatL [48] (4 - D.length)).toArray⟩:ByteArray).size+(⟨D.toArray⟩:ByteArray).size≤4:=by
  rw [zdO];simp [ByteArray.size];omega
 have HJ:Hid ((⟨(Lib.repeatL [48] (4 - D.length)).toArray⟩:ByteArray) ++ (⟨D.toArray⟩:ByteArray)=⟨T.toArray⟩):=by
  show _=_;rw [HT.out]
  apply ByteArray.ext
  simp
 have hs1:(⟨(Lib.repeatL [48] (4 - D.length)).toArray⟩:ByteArray).size≤4:=by omega
 have hs2:(⟨D.toArray⟩:ByteArray).size≤4:=by omega
 clear hlen;generalize (⟨(Lib.repeatL [48] (4 - D.length)).toArray⟩:ByteArray)=S1 at *;generalize (⟨D.toArray⟩:ByteArray)=S2 at *;go_wp2;go_ret;rw [HJ.out];exact ⟨rfl,HB2.out⟩
def t4 (n:Nat):List UInt8:=[UInt8.ofNat (48+n / 1000),UInt8.ofNat (48+n / 100 % 10),UInt8.ofNat (48+n / 10 % 10),UInt8.ofNat (48+n % 10)]
theorem zcl (h:n<10):Lib.decDigits n=[UInt8.ofNat (48+n)]:=by rw [Lib.decDigits,dif_pos h]
theorem zdV (h:¬ n<10):Lib.decDigits n=Lib.decDigits (n / 10) ++ [UInt8.ofNat (48+n % 10)]:=by rw [Lib.decDigits,dif_neg h]
theorem zlT (h:n<10000):zg4 (n:Int)=t4 n:=by
 unfold zg4 t4;rw [Lib.itoa_nonneg]
 by_cases h1:n<10
 · rw [zcl h1,zdO]
   have e1:n / 1000=0:=by omega
   have e2:n / 100 % 10=0:=by omega
   have e3:n / 10 % 10=0:=by omega
   have e4:n % 10=n:=by omega
   rw [e1,e2,e3,e4]
   rfl
 · by_cases h2:n<100
   · rw [zdV h1,zcl (show n / 10<10 by omega),zdO]
     have e1:n / 1000=0:=by omega
     have e2:n / 100 % 10=0:=by omega
     have e3:n / 10 % 10=n / 10:=by omega
     rw [e1,e2,e3]
     rfl
   · by_cases h3:n<1000
     · rw [zdV h1,zdV (show ¬ n / 10<10 by omega),zcl (show n / 10 / 10<10 by omega),zdO]
       have e1:n / 1000=0:=by omega
       have e2:n / 100 % 10=n / 10 / 10:=by omega
       rw [e1,e2]
       rfl
     · rw [zdV h1,zdV (show ¬ n / 10<10 by omega),zdV (show ¬ n / 10 / 10<10 by omega),zcl (show n / 10 / 10 / 10<10 by omega),zdO]
       have e1:n / 1000=n / 10 / 10 / 10:=by omega
       have e2:n / 100 % 10=n / 10 / 10 % 10:=by omega
       rw [e1,e2]
       rfl
theorem zcP (d:Nat)(h:d<10):(UInt8.ofNat (48+d)).toNat=48+d:=by
 rw [UInt8.toNat_ofNat'];omega
theorem ze2 (d:Nat)(h:d<10):Lib.digitVal (UInt8.ofNat (48+d))=some d:=by
 unfold Lib.digitVal;rw [zcP d h,if_pos (by omega)]
 congr 1
 omega
theorem zlW (h:n<10000):Lib.atoi (t4 n)=some (n:Int):=by
 have hne:∀ d,d<10→(UInt8.ofNat (48+d) == 45)=false∧(UInt8.ofNat (48+d) == 43)=false:=by
  intro d hd;have hv:=zcP d hd
  constructor
  · rw [beq_eq_false_iff_ne];intro e;rw [e] at hv;have:(45:UInt8).toNat=45:=rfl;omega
  · rw [beq_eq_false_iff_ne];intro e;rw [e] at hv;have:(43:UInt8).toNat=43:=rfl;omega
 have hd:n / 1000<10:=by omega
 unfold t4 Lib.atoi;simp only [(hne _ hd).1,(hne _ hd).2,Bool.false_eq_true,if_false];simp only [Lib.decNat,List.isEmpty_cons,Bool.false_eq_true,if_false,Lib.decFrom,ze2 _ hd,ze2 _ (show n / 100 % 10<10 by omega),ze2 _ (show n / 10 % 10<10 by omega),ze2 _ (show n % 10<10 by omega),Option.map_some,Option.some.injEq];omega
def pre (v:List UInt8):Nat→Nat
 | 0=>0
 | k+1=>10 * pre v k+((v[k]?.map UInt8.toNat).getD 48 - 48)
def digB (b:UInt8):Bool:=decide (48≤b.toNat) && decide (b.toNat≤57)
def kf:ByteArray:=⟨#[102]⟩
def zjr:ByteArray:=⟨#[116,117,114,110]⟩
def frow (f:Fi):Ch:=⟨kf ++ f.n,(⟨(zg4 f.k).toArray⟩:ByteArray) ++ f.t,false⟩
def trow (t:Int):Ch:=⟨zjr,⟨(zg4 t).toArray⟩,false⟩
def zaw (l:List Fi)(t:Int):List Ch:=l.map frow ++ [trow t]
theorem zbY (l:List Fi)(t:Int):(zaw l t).length=l.length+1:=by simp [zaw]
theorem zus (l:List Fi)(t:Int)(i:Nat)(h:i<l.length)(h':i<(zaw l t).length):(zaw l t)[i]=frow l[i]:=by
 have e:(zaw l t)[i]?=some (frow l[i]):=by
  unfold zaw;rw [List.getElem?_append_left (by simpa using h),List.getElem?_map,List.getElem?_eq_getElem h]
  rfl
 rw [List.getElem?_eq_getElem h'] at e;exact Option.some.inj e
theorem zuy (l:List Fi)(t:Int)(i:Nat)(h:i=l.length)(h':i<(zaw l t).length):(zaw l t)[i]=trow t:=by
 have e:(zaw l t)[i]?=some (trow t):=by
  unfold zaw;rw [List.getElem?_append_right (by simp;omega),show i - (l.map frow).length=0 by simp;omega]
  rfl
 rw [List.getElem?_eq_getElem h'] at e;exact Option.some.inj e
theorem zb4 (a:ByteArray):a.toList=a.data.toList:=ByteArray.toList_eq a
theorem zjD (a b:ByteArray):(a ++ b).toList=a.toList ++ b.toList:=by
 rw [zb4,zb4,zb4];simp
theorem zuP (a b:ByteArray):ltB (kf ++ a) (kf ++ b)=ltB a b:=by
 unfold ltB;rw [zjD,zjD];have e:kf.toList=[102]:=by rw [zb4];rfl
 rw [e];simp [Op.bytesLess]
theorem zk9:zjr.toList=[116,117,114,110]:=by rw [zb4];rfl
theorem zuK {a:ByteArray}(h:a.toList=102 :: r):ltB a zjr=true:=by
 unfold ltB;rw [h,zk9];simp [Op.bytesLess]
theorem zsb (a:ByteArray):(kf ++ a).toList=102 :: a.toList:=by
 rw [zjD];have e:kf.toList=[102]:=by rw [zb4];rfl
 rw [e]
 rfl
theorem zrT (a:ByteArray):ltB (kf ++ a) zjr=true:=zuK (zsb a)
theorem zu7 (a:ByteArray):¬ kf ++ a=zjr:=fun e=>by
 have:=zrT a;rw [e,zaB] at this
 cases this
theorem ztT:∀ {T S:List Ch},zfK ltC S→T.Pairwise (fun x y=>ltC x y=true)→(∀ z,S.filter (eqv ltC z)=T.filter (eqv ltC z))→S=T
 | [],S,_,_,h=>by
   cases S with
   | nil=>rfl
   | cons s S =>
     have:=h s;have e:eqv ltC s s=true:=by rw [eqvC];exact zav.2 rfl
     rw [List.filter_cons,if_pos e] at this
     cases this
 | t :: T, S,hS,hT,h=>by
   have self:∀ x:Ch,eqv ltC x x=true:=fun x=>by rw [eqvC];exact zav.2 rfl
   have mem:∀ x,x ∈ S↔x ∈ t :: T:=fun x=>by
    have:x ∈ S.filter (eqv ltC x)↔x ∈ (t :: T).filter (eqv ltC x):=by rw [h x]
    simpa [List.mem_filter,self] using this
   cases S with
   | nil=>exact absurd ((mem t).2 (List.mem_cons_self ..)) (by simp)
   | cons s S =>
     have hp:=List.pairwise_cons.1 hT;have hq:=List.pairwise_cons.1 hS
     have est:s=t:=by
      rcases List.mem_cons.1 ((mem s).1 (List.mem_cons_self ..)) with e | e
      · exact e
      · have h1:=hp.1 s e
        rcases List.mem_cons.1 ((mem t).2 (List.mem_cons_self ..)) with e2 | e2
        · exact e2.symm
        · have h2:=hq.1 t e2
          rw [h1] at h2;cases h2
     subst est
     congr 1
     refine ztT hq.2 hp.2 (fun z=>?_);have:=h z;rw [List.filter_cons,List.filter_cons] at this
     by_cases e:eqv ltC z s=true
     · rw [if_pos e,if_pos e] at this
       exact (List.cons.inj this).2
     · rw [if_neg e,if_neg e] at this
       exact this
theorem Good.frows (h:Good l):(l.map frow).Pairwise (fun x y=>ltC x y=true):=by
 rw [List.pairwise_map];refine h.pw.imp ?_;intro a b hab;show ltB (kf ++ a.n) (kf ++ b.n)=true;rw [zuP];exact hab
theorem Good.rows_rise (h:Good l)(t:Int):(zaw l t).Pairwise (fun x y=>ltC x y=true):=by
 unfold zaw;rw [List.pairwise_append];refine ⟨h.frows,List.pairwise_singleton ..,?_⟩;intro a ha b hb;obtain ⟨f,_,rfl⟩:=List.mem_map.1 ha;rw [List.mem_singleton.1 hb];exact zrT _
theorem zoJ (h:Good l)(t:Int)(hS:Stb ltC (trow t :: l.map frow) S):S=zaw l t:=by
 refine ztT hS.rises (h.rows_rise t) (fun z=>?_);rw [hS.same z];unfold zaw;rw [List.filter_append,List.filter_cons]
 by_cases e:eqv ltC z (trow t)=true
 · rw [if_pos e,List.filter_cons,if_pos e]
   have e1:(l.map frow).filter (eqv ltC z)=[]:=by
    rw [List.filter_eq_nil_iff];intro a ha hz;obtain ⟨f,_,rfl⟩:=List.mem_map.1 ha;rw [eqvC,zav] at hz e;exact zu7 f.n (hz.trans e.symm)
   rw [e1]
   rfl
 · rw [if_neg e,List.filter_cons,if_neg e]
   simp
structure Img (rows:List Ch)(l:List Fi)(t:Int):Prop where
 good:zau l t
 rows:rows=zaw l t
theorem Img.length {t:Int}(h:Img rows l t):rows.length=l.length+1:=by rw [h.rows,zbY]
theorem Img.f {t:Int}(h:Img rows l t)(i:Nat)(hi:i<rows.length)(hl:i<l.length):rows[i]=frow l[i]:=by
 have:=h.rows;subst this
 exact zus l t i hl hi
theorem Img.t {t:Int}(h:Img rows l t)(i:Nat)(hi:i<rows.length)(hl:¬ i<l.length):rows[i]=trow t:=by
 have hn:=h.length;have:=h.rows;subst this
 exact zuy l t i (by omega) hi
theorem zau.times {t:Int}(h:zau l t){f:Fi}(hf:f ∈ l):∃ k:Nat,f.k=k∧1≤k∧k≤9999:=by
 obtain ⟨_,_,h3,h4⟩:=zdN (h.files.each f hf);exact ⟨f.k.toNat,by omega,by omega,by omega⟩
theorem zau.turn {t:Int}(h:zau l t):∃ k:Nat,t=k∧1≤k∧k≤9999:=⟨t.toNat,by have:=h.low;omega,by have:=h.low;omega,by have:=h.high;have:=h.low;omega⟩
end Go.Proofs.YtihnghnafpgdfadGreatDoor
namespace Go.Proofs.YtihnghnafpgdfadGreatDoor
open Go Go.RowKit
variable {B C base cap i id j k n size u vc:Nat}{r:List UInt8}{fs l:List Fi}{S rows:List Ch}{name other s:ByteArray}{Q:Exit→Act→World→Prop}{W W' w w':World}{v v':Value}{args cs:Array Value}{e:TypeId}{a va:Option Addr}{row:Option Nat}
def zck:List UInt8→List (List UInt8)
 | []=>[[]]
 | c :: r=>if c=32 then [] :: zck r else match zck r with
   | []=>[[c]]
   | h :: t=>(c :: h) :: t
theorem zgM:∀ {l:List UInt8},(∀ c ∈ l,c≠32)→zck l=[l]
 | [],_=>rfl
 | c :: r,h=>by
   have h0:¬ c=32:=h c (by simp);unfold zck;rw [if_neg h0,zgM (fun x hx=>h x (by simp [hx]))]
theorem zi1:∀ {l r:List UInt8},(∀ c ∈ l,c≠32)→zck (l ++ 32 :: r)=l :: zck r
 | [],r,_=>by
   show zck (32 :: r)=_;rw [zck,if_pos rfl]
 | c :: l,r,h=>by
   have h0:¬ c=32:=h c (by simp);show zck (c :: (l ++ 32 :: r))=_;rw [zck,if_neg h0,zi1 (fun x hx=>h x (by simp [hx]))]
def sp:ByteArray:=⟨#[32]⟩
theorem ztL {s:List UInt8}(h1:s[i]?=some 32)(h2:∀ k,k<i→s[k]?≠some 32):s=s.take i ++ 32 :: s.drop (i+1)∧∀ c ∈ s.take i,c≠32:=by
 obtain ⟨hi,e⟩:=List.getElem?_eq_some_iff.1 h1;refine ⟨?_,fun c hc he=>?_⟩
 · conv=>lhs;rw [← List.take_append_drop i s,List.drop_eq_getElem_cons hi,e]
 · obtain ⟨k,hk,e2⟩:=List.getElem_of_mem hc
   rw [List.length_take] at hk;refine h2 k (by omega) ?_;rw [List.getElem_take] at e2;rw [List.getElem?_eq_getElem (by omega),e2,he]
theorem zkN:∀ (k:Nat) (s:ByteArray),Lib.countB s sp=k→(Lib.splitB sp 0 k s).map (·.data.toList)=zck s.data.toList
 | 0,s,h=>by
   have hno:∀ c ∈ s.data.toList,c≠32:=by
    intro c hc he;have hix:Lib.indexB s sp=Lib.indexByte s.data.toList 32:=Lib.index_one _ _;obtain ⟨j,hj,ej⟩:=List.getElem_of_mem hc
    by_cases hm:Lib.indexB s sp = -1
    · rw [hix] at hm
      refine Lib.indexByte_none hm j ?_;rw [List.getElem?_eq_getElem hj,ej,he]
    · have hge : -1≤Lib.indexB s sp:=Lib.index_ge s.data.toList sp.data.toList
      generalize hI:Lib.indexB s sp=I at *;obtain ⟨i,hi⟩:∃ i:Nat,I=i:=⟨I.toNat,by omega⟩
      rw [hi] at hI;have hi:=hI;have:=Lib.countB_hit s sp i (by decide) hi;omega
   rw [Lib.splitB_zero,zgM hno]
   rfl
 | k + 1,s,h=>by
   have hix:Lib.indexB s sp=Lib.indexByte s.data.toList 32:=Lib.index_one _ _
   by_cases hm:Lib.indexB s sp = -1
   · rw [Lib.countB_miss s sp hm] at h;cases h
   · have hge : -1≤Lib.indexB s sp:=Lib.index_ge s.data.toList sp.data.toList
     obtain ⟨i,hi⟩:∃ i:Nat,Lib.indexB s sp=i:=by
      generalize Lib.indexB s sp=I at hm hge;exact ⟨I.toNat,by omega⟩
     have hc:=Lib.countB_hit s sp i (by decide) hi;rw [hix] at hi;obtain ⟨h1,h2⟩:=Lib.indexByte_some hi;obtain ⟨e1,e2⟩:=ztL h1 h2;have ih:=zkN k (s.extract (i+sp.size) s.size) (by omega);rw [Lib.splitB_hit sp 0 k s i (by rw [hix];exact hi),List.map_cons,ih]
     conv=>rhs;rw [e1,zi1 e2]
     have hd:(s.extract (i+sp.size) s.size).data.toList=s.data.toList.drop (i+1):=by
      rw [Lib.extract_to_end]
      rfl
     rw [hd]
     congr 1
     rw [Lib.extract_from_zero]
     rfl
def zaP (s:ByteArray):List ByteArray:=(zck s.data.toList).map fun l=>⟨l.toArray⟩
theorem zg1 (s:ByteArray):Lib.splitB sp 0 (Lib.countB s sp) s=zaP s∧(zaP s).length=Lib.countB s sp+1:=by
 have h:=zkN _ s rfl
 have e:Lib.splitB sp 0 (Lib.countB s sp) s=zaP s:=by
  unfold zaP;rw [← h,List.map_map]
  conv=>lhs;rw [← List.map_id (Lib.splitB sp 0 (Lib.countB s sp) s)]
  apply List.map_congr_left
  intro x _;cases x;simp
 exact ⟨e,by rw [← e];exact Lib.splitB_all sp (by decide) 0 _ s rfl⟩
def valL (l:List UInt8):Nat:=l.foldl (fun n c=>10 * n+(c.toNat - 48)) 0
theorem znO (l:List UInt8)(c:UInt8):valL (l ++ [c])=10 * valL l+(c.toNat - 48):=by
 unfold valL;rw [List.foldl_append];rfl
def zir (l:List UInt8):Prop:=∀ c ∈ l,48≤c.toNat∧c.toNat≤57
theorem zpd:∀ (k:Nat) (l:List UInt8),l.length=k+1→zir l→(l.length > 1→l[0]?≠some 48)→Lib.decDigits (valL l)=l∧(l[0]?≠some 48→1≤valL l)
 | 0,l,hl,hd,_=>by
   match l,hl with
   | [c],_ =>
     have hc:=hd c (by simp);have e:valL [c]=c.toNat - 48:=by simp [valL]
     rw [e];refine ⟨?_,fun h=>?_⟩
     · rw [zcl (by omega)]
       congr 1
       apply UInt8.toNat_inj.1
       rw [zcP _ (by omega)];omega
     · have:c.toNat≠48:=fun e2=>h (by simp;exact UInt8.toNat_inj.1 (by rw [e2];rfl))
       omega
 | k+1,l,hl,hd,h0=>by
   have hne:l≠[]:=fun e=>by rw [e] at hl;cases hl
   obtain ⟨r,c,rfl⟩:∃ r c,l=r ++ [c]:=⟨l.dropLast,l.getLast hne,(List.dropLast_concat_getLast hne).symm⟩
   have hr:r.length=k+1:=by simp at hl;omega
   have hc:=hd c (by simp);have hd0:(r ++ [c])[0]?=r[0]?:=List.getElem?_append_left (by omega);have hr0:r[0]?≠some 48:=by rw [← hd0];exact h0 (by simp;omega)
   obtain ⟨i1,i2⟩:=zpd k r hr (fun x hx=>hd x (by simp [hx])) (fun _=>hr0);have h1:=i2 hr0;rw [znO];refine ⟨?_,fun _=>by omega⟩;rw [zdV (by omega),show (10 * valL r+(c.toNat - 48)) / 10=valL r by omega,i1,show (10 * valL r+(c.toNat - 48)) % 10=c.toNat - 48 by omega]
   congr 2
   apply UInt8.toNat_inj.1
   rw [zcP _ (by omega)];omega
def zr5 (l:List UInt8):Prop:=1≤l.length∧l.length≤9∧zir l∧(l.length > 1→l[0]?≠some 48)∧valL l≤999
instance (l:List UInt8):Decidable (zr5 l):=by unfold zr5 zir;infer_instance
def natC (s:ByteArray):Option Nat:=if zr5 s.data.toList then some (valL s.data.toList) else none
theorem zii:∀ (l:List UInt8) (acc:Nat),zir l→(acc+1) * 10 ^ l.length≤10 ^ 18→Lib.parseUint10 acc l=.ok (l.foldl (fun n c=>10 * n+(c.toNat - 48)) acc)
 | [],acc,_,_=>rfl
 | c :: r,acc,hd,h=>by
   have hc:=hd c (by simp);have hp:0<10 ^ r.length:=by have:=Nat.pow_le_pow_right (n:=10) (by omega) (Nat.zero_le r.length);rw [Nat.pow_zero] at this;exact this
   have h1:(acc+1) * 10 * 10 ^ r.length≤10 ^ 18:=by
    rw [List.length_cons,Nat.pow_succ] at h
    calc (acc+1) * 10 * 10 ^ r.length=(acc+1) * (10 ^ r.length * 10):=by rw [Nat.mul_assoc,Nat.mul_comm 10]
     _≤10 ^ 18:=h
   have h2:(acc+1) * 10≤10 ^ 18:=Nat.le_trans (Nat.le_mul_of_pos_right _ hp) h1;have h18:(10:Nat) ^ 18=1000000000000000000:=by decide
   rw [h18] at h2;unfold Lib.parseUint10
   rw [if_pos hc,if_neg (by omega),if_neg (by omega),zii r _ (fun x hx=>hd x (by simp [hx])) (by
    refine Nat.le_trans (Nat.mul_le_mul_right _ ?_) h1;omega)]
   show _=Lib.NumEnd.ok (r.foldl _ (10 * acc+(c.toNat - 48)));rw [show acc * 10+(c.toNat - 48)=10 * acc+(c.toNat - 48) by omega]
theorem zd3 (h:natC s=some n):Lib.atoiAll s.data.toList=.ok (n:Int)∧Lib.itoa (n:Int)=s.data.toList∧n≤999:=by
 unfold natC at h
 split at h
 · rename_i hk
   obtain ⟨h1,h9,hd,h0,hv⟩:=hk;simp at h;subst h;generalize s.data.toList=l at *;obtain ⟨k,hk⟩:∃ k,l.length=k+1:=⟨l.length - 1,by omega⟩
   refine ⟨?_,?_,hv⟩
   · match l,hk with
     | c :: r,_ =>
       have hc:=hd c (by simp)
       have e:=zii (c :: r) 0 hd (by
        have:10 ^ (c :: r).length≤10 ^ 9:=Nat.pow_le_pow_right (by omega) h9;have e9:(10:Nat) ^ 9=1000000000:=by decide
        have e18:(10:Nat) ^ 18=1000000000000000000:=by decide
        omega)
       have e2:Lib.parseMag (c :: r)=.ok (valL (c :: r)):=by
        unfold Lib.parseMag;rw [if_neg (by simp),e];rfl
       unfold Lib.atoiAll;simp only;rw [if_neg (by omega),e2];simp only;rw [if_neg (by omega),if_neg (by omega),if_neg (by omega)]
   · unfold Lib.itoa
     rw [if_neg (by omega)];show Lib.decDigits (valL l)=l;exact (zpd k l hk hd h0).1
 · cases h
theorem zuV {m:Nat} (h:m≤999):zr5 (Lib.decDigits m):=by
 have dg:∀ d,d<10→48≤(UInt8.ofNat (48+d)).toNat∧(UInt8.ofNat (48+d)).toNat≤57:=fun d hd=>by rw [zcP d hd];omega
 have nz:∀ d,d<10→1≤d→¬ UInt8.ofNat (48+d)=48:=fun d hd h1 e=>by
  have:=congrArg UInt8.toNat e;rw [zcP d hd] at this
  have e48:(48:UInt8).toNat=48:=rfl;omega
 have vl:∀ d,d<10→(UInt8.ofNat (48+d)).toNat - 48=d:=fun d hd=>by rw [zcP d hd];omega
 by_cases h1:m<10
 · rw [zcl h1]
   refine ⟨by simp,by simp,fun c hc=>by rw [List.mem_singleton] at hc;rw [hc];exact dg m h1,fun h=>by simp at h,?_⟩;show 10 * 0+_≤999;rw [vl m h1];omega
 · by_cases h2:m<100
   · rw [zdV h1,zcl (by omega)]
     refine ⟨by simp,by simp,fun c hc=>?_,fun _ e=>nz (m / 10) (by omega) (by omega) (Option.some.inj e),?_⟩
     · simp only [List.mem_append,List.mem_singleton] at hc
       rcases hc with rfl | rfl
       · exact dg _ (by omega)
       · exact dg _ (by omega)
     · show 10 * (10 * 0+_)+_≤999
       rw [vl _ (by omega),vl _ (by omega)];omega
   · rw [zdV h1,zdV (by omega),zcl (by omega)]
     refine ⟨by simp,by simp,fun c hc=>?_,fun _ e=>nz (m / 10 / 10) (by omega) (by omega) (Option.some.inj e),?_⟩
     · simp only [List.mem_append,List.mem_singleton] at hc
       rcases hc with (rfl | rfl) | rfl
       · exact dg _ (by omega)
       · exact dg _ (by omega)
       · exact dg _ (by omega)
     · show 10 * (10 * (10 * 0+_)+_)+_≤999
       rw [vl _ (by omega),vl _ (by omega),vl _ (by omega)];omega
theorem zra {v:Int}(h:natC s=none)(h0:0≤v)(h9:v≤999):Lib.itoa v≠s.data.toList:=fun e=>by
 unfold Lib.itoa at e;rw [if_neg (by omega)] at e;have hk:=zuV (m:=v.toNat) (by omega);unfold natC at h;rw [← e,if_pos hk] at h;cases h
end Go.Proofs.YtihnghnafpgdfadGreatDoor
namespace Go.Proofs.YtihnghnafpgdfadGreatDoor
open Go Go.RowKit Go.BigFrame
variable {B C base cap i id j k n size u vc:Nat}{r:List UInt8}{fs l:List Fi}{S rows:List Ch}{name other s:ByteArray}{Q:Exit→Act→World→Prop}{W W' w w':World}{v v':Value}{args cs:Array Value}{e:TypeId}{a va:Option Addr}{row:Option Nat}
theorem zkA (w:World)(u:Nat)(hu:u<10)(T:TypeId):∀ j (hj:j < [UInt8.ofNat (48+u)].length),(w.alloc (Obj.cells #[.int .u8 (48+(u:Int))] T)).cell? ((⟨w.heap.size,0,none⟩:Addr).add j)=some (.int .u8 (([UInt8.ofNat (48+u)])[j].toNat:Int)):=by
 intro j hj;have e:j=0:=by simp at hj;omega
 subst e;simp only [List.getElem_cons_zero];rw [zcP u hu];simp [Addr.add]
theorem zo9 (u:Nat)(hu:u<10):IntKind.u8.wrap (48+(u:Int))=48+(u:Int):=by
 rw [IntKind.wrap_u8];omega
theorem ze4:∀ (m n:Nat) (w:World),n<m→n<100000→Calls Tryz.prog 39 #[.int .i64 n] w fun e w'=>e=.returned (.string ⟨(Lib.decDigits n).toArray⟩)∧Below w.heap.size w w'
 | 0,n,w,h,_=>absurd h (by omega)
 | m + 1,n,w,hm,hn=>by
   by_cases h10:n<10
   · have hcv:=run_convert_bytes_back (P:=Tryz.prog) (w.alloc (Obj.cells #[.int .u8 (48+(n:Int))] 5)) 115 9 5 ⟨w.heap.size,0,none⟩ 1 [UInt8.ofNat (48+n)] (by kernel_rfl) (by kernel_rfl) (by kernel_rfl) (zkA w n h10 5)
     rw [show [UInt8.ofNat (48+n)].length=1 from rfl] at hcv;have HCV:Hid _:=hcv;have HD:Hid (Lib.decDigits n=[UInt8.ofNat (48+n)]):=zcl h10;have hw8:=zo9 n h10;clear hcv;generalize UInt8.ofNat (48+n)=G at HCV HD
     go_enter Tryz.func39,Tryz.ntmps39
     go_wp2_with fail
     rw [HCV.out];go_wp2;go_ret;rw [HD.out];exact ⟨rfl,(Below.refl _ _).alloc (Nat.le_refl _) _⟩
   · have KD:Hid (∀ W,Calls Tryz.prog 39 #[.int .i64 ((n:Int) / 10)] W fun e w'=>e=.returned (.string ⟨(Lib.decDigits (n / 10)).toArray⟩)∧Below W.heap.size W w'):=fun W=>by
      have:=ze4 m (n / 10) W (by omega) (by omega);rw [show ((n / 10:Nat):Int)=(n:Int) / 10 by omega] at this
      exact this
     have HD:Hid (Lib.decDigits n=Lib.decDigits (n / 10) ++ [UInt8.ofNat (48+n % 10)]):=zdV h10
     have hsz:(Lib.decDigits (n / 10)).length≤10:=by
      rw [Lib.decDigits_length];exact Nat.le_trans (zci (zci (zci (zci (Nat.le_of_eq (Lib.nDigits_small (by omega))))))) (by decide)
     have hw1:IntKind.i64.wrap ((n:Int) / 10)=(n:Int) / 10:=by rw [IntKind.wrap_i64];omega
     have hw2:IntKind.i64.wrap ((n:Int) % 10)=(n:Int) % 10:=by rw [IntKind.wrap_i64];omega
     have htm:(n:Int).tmod 10=(n:Int) % 10:=Int.tmod_eq_emod_of_nonneg (by omega);have hw3:IntKind.i64.wrap (48+(n:Int) % 10)=48+(n:Int) % 10:=by rw [IntKind.wrap_i64];omega
     have hw8:=zo9 (n % 10) (by omega);rw [show ((n % 10:Nat):Int)=(n:Int) % 10 by omega] at hw8
     have HFAR:Hid (∀ W w':World,Below (W.alloc (Obj.cells #[.int .u8 (48+(n:Int) % 10)] 5)).heap.size (W.alloc (Obj.cells #[.int .u8 (48+(n:Int) % 10)] 5)) w'→(convert 115 9 (.slice (some ⟨W.heap.size,0,none⟩) 1 1)).run Tryz.prog w'=.ok (.string ⟨[UInt8.ofNat (48+n % 10)].toArray⟩) w'):=fun W w' hb =>
      run_convert_bytes_back (P:=Tryz.prog) w' 115 9 5 ⟨W.heap.size,0,none⟩ 1 [UInt8.ofNat (48+n % 10)] (by kernel_rfl) (by kernel_rfl) (by kernel_rfl) (fun j hj=>by
       have h1:=zkA W (n % 10) (by omega) 5 j hj;rw [show ((n % 10:Nat):Int)=(n:Int) % 10 by omega] at h1;rw [hb.cell (World.block_lt_of_cell? _ _ h1)];exact h1)
     have hcv0:=HFAR.out w (w.alloc (.cells #[.int .u8 (48+(n:Int) % 10)] 5)).drew (Below.refl _ _).drew
     have hj:(⟨(Lib.decDigits (n / 10)).toArray⟩:ByteArray) ++ (⟨[UInt8.ofNat (48+n % 10)].toArray⟩:ByteArray)=⟨(Lib.decDigits n).toArray⟩:=by
      rw [HD.out]
      apply ByteArray.ext
      simp
     have HJ:Hid _:=hj;have hs1:(⟨(Lib.decDigits (n / 10)).toArray⟩:ByteArray).size≤10:=by simpa [ByteArray.size] using hsz
     have hs2:(⟨[UInt8.ofNat (48+n % 10)].toArray⟩:ByteArray).size=1:=rfl;clear hj hsz HD;generalize (⟨(Lib.decDigits (n / 10)).toArray⟩:ByteArray)=S1 at *;generalize (⟨[UInt8.ofNat (48+n % 10)].toArray⟩:ByteArray)=S2 at *;generalize (⟨(Lib.decDigits n).toArray⟩:ByteArray)=S3 at *;have hsum:¬ 9223372036854775807<S1.size+1:=by omega
     go_enter Tryz.func39,Tryz.ntmps39
     go_wp2_with fail
     go_region_law
      (first
        | (go_simp
           go_at_call 39
           refine Calls.mono (KD.out (w.alloc (Obj.cells #[.int .u8 (48+(n:Int) % 10)] 5)).drew) ?_;rintro e wa ⟨rfl,hb⟩;have hcv2:=HFAR.out w wa ⟨hb.os,hb.tape,hb.output,hb.size,hb.block⟩;have HB5:Hid (Below w.heap.size w wa):=((Below.refl w.heap.size w).alloc (Nat.le_refl _) _).drew.trans (hb.mono ((Below.refl w.heap.size w).alloc (Nat.le_refl _) _).drew.size);clear hb)
        | (go_simp
           go_at_call 39
           refine Calls.mono (KD.out w.drew) ?_;rintro e wa ⟨rfl,hb⟩;have hcv3:=HFAR.out wa _ (Below.refl _ _);have HB5:Hid (Below w.heap.size w wa):=(Below.refl w.heap.size w).drew.trans hb;clear hb))
     all_goals
      go_wp2;go_ret;rw [HJ.out]
      first
       | exact ⟨rfl,HB5.out⟩
       | exact ⟨rfl,HB5.out.alloc HB5.out.size _⟩
theorem zcC (n:Nat):(t4 n).length=4:=rfl
theorem zpL {a b:ByteArray}(h:a.data.toList=b.data.toList):a=b:=toList_inj (by rw [zb4,zb4];exact h)
theorem zdf (a b:ByteArray):(a ++ b).data.toList=a.data.toList ++ b.data.toList:=by simp
theorem zlf (s:ByteArray)(a b:Nat):(s.extract a b).data.toList=(s.data.toList.drop a).take (b - a):=by
 rw [ByteArray.data_extract,Array.toList_extract,List.extract_eq_take_drop]
theorem zda (s:ByteArray):s.size=s.data.toList.length:=by simp
def Four (f:Fi):Prop:=∃ k:Nat,f.k=k∧k<10000
theorem zhA {f:Fi}(h:f.k=k)(hk:k<10000):(frow f).val.data.toList=t4 k ++ f.t.data.toList:=by
 unfold frow;rw [zdf,h,zlT hk]
theorem zhF {t:Int}(h:t=k)(hk:k<10000):(trow t).val.data.toList=t4 k:=by
 unfold trow;rw [h,zlT hk]
theorem ztQ {a b:Nat}(ha:a<10000)(hb:b<10000)(h:t4 a=t4 b):a=b:=by
 have h1:=zlW ha;rw [h,zlW hb] at h1;simp only [Option.some.injEq] at h1;omega
theorem zsG {f g:Fi}(hf:Four f)(hg:Four g)(h:frow f=frow g):f=g:=by
 obtain ⟨a,ha,ha2⟩:=hf;obtain ⟨b,hb,hb2⟩:=hg;have hv:=zhA ha ha2;rw [h,zhA hb hb2] at hv;obtain ⟨e1,e2⟩:=List.append_inj hv rfl;have hk:(frow f).key.data.toList=(frow g).key.data.toList:=by rw [h]
 unfold frow at hk;simp only [zdf] at hk;have e3:=List.append_cancel_left hk;exact Fi.ext' (zpL e3) (zpL e2.symm) (by rw [ha,hb,ztQ hb2 ha2 e1])
theorem zmQ:∀ {l m:List Fi},(∀ f ∈ l,Four f)→(∀ f ∈ m,Four f)→l.map frow=m.map frow→l=m
 | [],[],_,_,_=>rfl
 | [],_ :: _,_,_,h=>by cases h
 | _ :: _,[],_,_,h=>by cases h
 | f :: l,g :: m,hl,hm,h=>by
   simp only [List.map_cons,List.cons.injEq] at h;rw [zsG (hl f (List.mem_cons_self ..)) (hm g (List.mem_cons_self ..)) h.1,zmQ (fun x hx=>hl x (List.mem_cons_of_mem _ hx)) (fun x hx=>hm x (List.mem_cons_of_mem _ hx)) h.2]
theorem zau.four {t:Int}(h:zau l t):∀ f ∈ l,Four f:=fun f hf=>by
 obtain ⟨k,h1,_,h3⟩:=h.times hf;exact ⟨k,h1,by omega⟩
theorem zrd {l m:List Fi}{t s:Int}(hl:∀ f ∈ l,Four f)(hm:∀ f ∈ m,Four f){a b:Nat}(ha:t=a)(hb:s=b)(ha2:a<10000)(hb2:b<10000)(h:zaw l t=zaw m s):l=m∧t=s:=by
 unfold zaw at h;obtain ⟨h1,h2⟩:=List.append_inj' h rfl;refine ⟨zmQ hl hm h1,?_⟩;have e:trow t=trow s:=by simpa using h2
 have hv:=zhF ha ha2;rw [e,zhF hb hb2] at hv;rw [ha,hb,ztQ hb2 ha2 hv]
theorem Img.inj {l m:List Fi}{t s:Int}(h1:Img rows l t)(h2:Img rows m s):l=m∧t=s:=by
 obtain ⟨a,ha,_,ha2⟩:=h1.good.turn;obtain ⟨b,hb,_,hb2⟩:=h2.good.turn;exact zrd h1.good.four h2.good.four ha hb (by omega) (by omega) (h1.rows.symm.trans h2.rows)
def zqU (rows:List Ch):Prop:=∀ l t,¬ Img rows l t
theorem zlA (d:Nat)(h:d<10):digB (UInt8.ofNat (48+d))=true:=by
 unfold digB;rw [zcP d h];simp;omega
theorem zuD (n:Nat)(hn:n<10000):∀ k (h:k<(t4 n).length),digB (t4 n)[k]=true:=by
 intro k h
 match k,h with
 | 0,_=>exact zlA _ (by omega)
 | 1,_=>exact zlA _ (by omega)
 | 2,_=>exact zlA _ (by omega)
 | 3,_=>exact zlA _ (by omega)
structure ztX (c:Ch):Prop where
 here:c.gone=false
 long:4≤c.val.size
 key:¬ c.key.size=0
 dig:∀ k (h:k<c.val.size),k<4→digB c.val[k]=true
 kind:c.key=zjr∧c.val.size=4∨∃ r,c.key.data.toList=102 :: r
theorem zuT (s:ByteArray)(k:Nat)(h:k<s.size):s[k]=s.data.toList[k]'(by simpa using h):=rfl
theorem zr6 {v:ByteArray}(hn:n<10000)(h:v.data.toList=t4 n ++ r):4≤v.size∧∀ k (h:k<v.size),k<4→digB v[k]=true:=by
 refine ⟨by rw [zda,h,List.length_append,zcC];omega,fun k hk h4=>?_⟩;rw [zuT];simp only [h];rw [List.getElem_append_left (by rw [zcC];exact h4)];exact zuD n hn k _
theorem ztY {f:Fi}(h:Four f):ztX (frow f):=by
 obtain ⟨k,h1,h2⟩:=h;obtain ⟨a,b⟩:=zr6 h2 (zhA h1 h2);refine ⟨rfl,a,?_,b,.inr ⟨f.n.data.toList,?_⟩⟩
 · rw [zda]
   unfold frow;simp only [zdf];simp [kf]
 · unfold frow
   simp only [zdf]
   rfl
theorem zt2 {t:Int}(h1:t=k)(h2:k<10000):ztX (trow t):=by
 have hv:=zhF h1 h2;obtain ⟨a,b⟩:=zr6 (r:=[]) h2 (by rw [List.append_nil];exact hv);refine ⟨rfl,a,(show ¬ zjr.size=0 by decide),b,.inl ⟨rfl,?_⟩⟩;rw [zda,hv,zcC]
theorem Img.ok {t:Int}(h:Img rows l t)(i:Nat)(hi:i<rows.length):ztX rows[i]:=by
 by_cases hl:i<l.length
 · rw [h.f i hi hl]
   exact ztY (h.good.four _ (List.getElem_mem hl))
 · rw [h.t i hi hl]
   obtain ⟨k,h1,_,h3⟩:=h.good.turn;exact zt2 h1 (by omega)
theorem zs5 {t:Int}(h:zfz l t=0):zau l t:=by
 unfold zfz at h
 by_cases hf:zcR l=0
 · rw [if_neg (by simp [hf])] at h
   by_cases ht:t<1∨9999<t
   · rw [if_pos ht] at h;exact absurd h (by decide)
   · exact ⟨zm3 hf,by omega,by omega⟩
 · rw [if_pos hf] at h
   exact absurd h hf
theorem znR {t:Int}(h:zau l t):zfz l t=0:=by
 unfold zfz;have:=h.low;have:=h.high;rw [if_neg (by simp [zmZ h.files]),if_neg (by omega)]
end Go.Proofs.YtihnghnafpgdfadGreatDoor
namespace Go.Proofs.YtihnghnafpgdfadGreatDoor
open Go.RowKit
variable {B C base cap i id j k n size u vc:Nat}{r:List UInt8}{fs l:List Fi}{S rows:List Ch}{name other s:ByteArray}{Q:Exit→Act→World→Prop}{W W' w w':World}{v v':Value}{args cs:Array Value}{e:TypeId}{a va:Option Addr}{row:Option Nat}
structure zcW (w:World) where
 W:World
 h:Below w.heap.size w W
theorem zcW.ne (w:World):Nonempty (zcW w):=⟨⟨w,Below.refl _ _⟩⟩
theorem zbV {P:Program}{a:Act}{l:List Oper}(hm:P.follows .mixedOrders=true)(hB:Region.lexB .any l.toArray=true)
 (h:wpQuiet P l.toArray (fun w'=>∃ p:zcW w,w'=p.W) (fun a'=>∀ w',(∃ p:zcW w,w'=p.W)→Q .normal a' w') l a):(Code.region id l.toArray true).wp P Q a w :=
 wp_region_quiet (C:=fun w'=>∃ p:zcW w,w'=p.W) hm hB ⟨⟨w.drew,(Below.refl _ _).drew⟩,rfl⟩ (by simpa using h)
theorem zcW.cell {a:Addr}(h:w.cell? a=some v):∀ p:zcW w,p.W.cell? a=some v:=fun p=>by
 rw [p.h.cell (World.block_lt_of_cell? _ _ h)];exact h
theorem zln {P:Program}{f:FuncId}(p:zcW w)
 (h:Calls P f args p.W fun e w'=>e=.returned v∧Below p.W.heap.size p.W w'):Calls P f args p.W fun e w''=>e=.returned v∧∃ q:zcW w,w''=q.W :=
 h.mono fun _ w' ⟨he,hb⟩=>⟨he,⟨w',p.h.trans (hb.mono p.h.size)⟩,rfl⟩
theorem zkG {P:Program}{f:FuncId}(p:zcW w)
 (h:Calls P f args p.W fun e w'=>e=.returned v∧w'=p.W):Calls P f args p.W fun e w''=>e=.returned v∧∃ q:zcW w,w''=q.W :=
 h.mono fun _ w' ⟨he,hb⟩=>⟨he,p,hb⟩
theorem zqA {P:Program}{f:FuncId}(p:zcW w)
 (h:Calls P f args p.W fun e w'=>e=.returned v∧∃ n,w'=p.W.drewN n):Calls P f args p.W fun e w''=>e=.returned v∧∃ q:zcW w,w''=q.W :=
 h.mono fun _ w' ⟨he,n,hb⟩=>⟨he,⟨w',by rw [hb];exact below_drewN p.h n⟩,rfl⟩
end Go.Proofs.YtihnghnafpgdfadGreatDoor
namespace Go.Proofs.YtihnghnafpgdfadGreatDoor
open Go
variable {B C base cap i id j k n size u vc:Nat}{r:List UInt8}{fs l:List Fi}{S rows:List Ch}{name other s:ByteArray}{Q:Exit→Act→World→Prop}{W W' w w':World}{v v':Value}{args cs:Array Value}{e:TypeId}{a va:Option Addr}{row:Option Nat}
section
variable {P:Program} {w:World}
theorem zki (base:Nat)(t ty e:TypeId)(i:TypeInfo)(z:Value)(size bytes:Nat)(ht:P.underlying t=some (.slice e))(hi:P.info? e=some i)(hz:i.zero=some z)
 (hsize:i.size=size) (hby:i.bytes=bytes) (hzs:z.cells.size=size) (hsz:0<size)
 (v:Value) (n:Nat) (xs:List Value) (hown:w.ownsRow base e size v n xs)
 (a:Addr) (m c:Nat) (news:List Value) (hl:news.length=m * size) (hnews:∀ j u,news[j]?=some u→w.cell? (a.add j)=some u) (h1:∀ u ∈ news,u.oneCell'=true)
 (h63:n+m≤maxLen) (hbytes:(n+m) * bytes≤140737488355328) (hbase:base≤w.heap.size) :
 ∃ v' w',(Builtin.append_ #[t,t] ty #[v,.slice (some a) m c]).run P w=.ok v' w'∧w'.ownsRow base e size v' (n+m) (xs ++ news)∧w.grownBy w' v.ownBlock ∧
   (∀ g,v'.ownBlock=some g→v.ownBlock=some g∨w.heap.size≤g):=by
 obtain ⟨v',w',hr,h2,h3,h4⟩:=run_append_own (P:=P) (w:=w) base t ty e i z size bytes ht hi hz hsize hby hzs hsz v n xs hown a m c news hl hnews h1 h63 hbytes hbase;refine ⟨v',w',hr,h2,h3,fun g hg=>?_⟩;have hsmall:n+m≤9223372036854775807:=by simp only [maxLen] at h63;omega
 rcases hown.2 with ⟨rfl,rfl⟩ | ⟨g0,cap,cur,rfl,hbg,hgb,hnc,hcm,hcs,htake⟩
 · have hx:xs=[]:=List.eq_nil_of_length_eq_zero (by simpa using hown.1)
   subst hx;obtain ⟨v2,w2,hr2,k2,k3,k4⟩:=run_append_own (P:=P) (w:=w) w.heap.size t ty e i z size bytes ht hi hz hsize hby hzs hsz (.slice none 0 0) 0 [] (World.ownsRow_nil _ _ _ _) a m c news hl hnews h1 h63 hbytes (Nat.le_refl _);rw [hr2] at hr
   injection hr with e1 e2
   subst e1;exact .inr (k2.lt g hg).1
 · subst hsize
   subst hby
   by_cases hroom:n+m≤cap
   · have hfit:n * i.size+news.length≤cur.size:=by rw [hl,hcs,← Nat.add_mul];exact Nat.mul_le_mul_right _ hroom
     have hr2:=run_append_room (P:=P) w t ty e i ht hi g0 n cap cur hgb a m c news hl hnews h1 hroom hfit;rw [hr2] at hr
     injection hr with e1 e2
     subst e1;exact .inl hg
   · have holds:∀ j u,xs[j]?=some u→w.cell? ((⟨g0,0,none⟩:Addr).add j)=some u:=hown.cells (g:=g0) rfl
     have hr2:=run_append_grow (P:=P) w t ty e i z ht hi hz ⟨g0,0,none⟩ n cap xs hown.1 holds a m c news hl hnews (by omega) (by omega) (growslice_fits (by omega) hbytes);rw [hr2] at hr
     injection hr with e1 e2
     subst e1;simp only [Value.ownBlock,Option.some.injEq] at hg;exact .inr (by omega)
theorem zcr {o:Oper}{a:Act}{K:Act→World→Prop}{Q:Exit→Act→World→Prop}(s x:Operand)(t:TypeId)
 (ho:o.op=.call { callee:=.builtin .append,args:=#[s,x],argTypes:=#[t,t] })
 (base:Nat) (e:TypeId) (i:TypeInfo) (z:Value) (size bytes:Nat) (ht:P.underlying t=some (.slice e)) (hi:P.info? e=some i) (hz:i.zero=some z)
 (hsize:i.size=size) (hby:i.bytes=bytes) (hzs:z.cells.size=size) (hsz:0<size)
 (v:Value) (n:Nat) (xs:List Value) (hs:a.eval s=v) (hown:w.ownsRow base e size v n xs)
 (ad:Addr) (m c:Nat) (news:List Value) (hx:a.eval x=.slice (some ad) m c) (hl:news.length=m * size) (hnews:∀ j u,news[j]?=some u→w.cell? (ad.add j)=some u) (h1:∀ u ∈ news,u.oneCell'=true)
 (h63:n+m≤maxLen) (hbytes:(n+m) * bytes≤140737488355328) (hbase:base≤w.heap.size)
 (h:∀ v' w',w'.ownsRow base e size v' (n+m) (xs ++ news)→w.grownBy w' v.ownBlock→(∀ g,v'.ownBlock=some g→v.ownBlock=some g∨w.heap.size≤g)→K (a.put o.dst v') w'):o.wp P a w K Q:=by
 obtain ⟨v',w',hr,h2,h3,h4⟩:=zki (P:=P) (w:=w) base t o.type e i z size bytes ht hi hz hsize hby hzs hsz v n xs hown ad m c news hl hnews h1 h63 hbytes hbase;unfold Oper.wp execOp;simp only [ho,resolve,invoke,builtin,Sem.run_bind,Sem.run_pure,Result.andThen_ok,List.map_toArray,List.map_cons,List.map_nil,hs,hx,hr];exact h v' w' h2 h3 h4
end
end Go.Proofs.YtihnghnafpgdfadGreatDoor
namespace Go.Proofs.YtihnghnafpgdfadGreatDoor
open Go Go.RowKit Go.BigFrame
variable {B C base cap i id j k n size u vc:Nat}{r:List UInt8}{fs l:List Fi}{S rows:List Ch}{name other s:ByteArray}{Q:Exit→Act→World→Prop}{W W' w w':World}{v v':Value}{args cs:Array Value}{e:TypeId}{a va:Option Addr}{row:Option Nat}
theorem zf9 {xs:List Value}(h:w.ownsRow base e size v n xs):∃ a c,v=.slice a n c:=by
 rcases h.2 with ⟨e1,h0⟩ | ⟨g,cap,cur,e1,_⟩
 · exact ⟨none,0,by rw [e1,h0]⟩
 · exact ⟨_,_,e1⟩
theorem zll {xs:List Value}(h:w.ownsRow B e size v n xs)(hb:Below w.heap.size w w'):w'.ownsRow B e size v n xs:=by
 refine ⟨h.1,?_⟩;rcases h.2 with h0 | ⟨g,cap,cur,e1,hg,h1,h2⟩
 · exact .inl h0
 · exact .inr ⟨g,cap,cur,e1,hg,by rw [hb.block g (Array.getElem?_eq_some_iff.1 h1).1];exact h1,h2⟩
theorem zan.far {l:List Ch}(h:zan w B v l)(hb:Below w.heap.size w w'):zan w' B v l:=zll h hb
theorem ziV {P:Program}{n:String}(h:W.var? P n=some cs)(hb:Below W.heap.size W W'):W'.var? P n=some cs:=by
 cases hg:P.globalNamed n with
 | none=>unfold World.var? at h;rw [hg] at h;cases h
 | some g=>exact Go.Joins.var_stays hg h hb (Nat.le_refl _)
def Vars (w:World):Prop:=Lib.TabIs Tryz.prog w "internal/strconv.uint64pow10" .u64 Lib.pow10Tab∧∃ tp p,w.var? Tryz.prog "strconv.ErrSyntax"=some #[.iface tp p]
theorem Vars.below (h:Vars w)(hb:Below w.heap.size w w'):Vars w':=by
 obtain ⟨h1,tp,p,h2⟩:=h;exact ⟨ziV h1 hb,tp,p,ziV h2 hb⟩
theorem zan.lit (w:World)(B:Nat)(c:Ch)(hb:B≤w.heap.size):zan (w.alloc (.cells #[.string c.key,.string c.val,.bool c.gone] 143)) B (.slice (some ⟨w.heap.size,0,none⟩) 1 1) [c] :=
 World.ownsRow_lit w #[.string c.key,.string c.val,.bool c.gone] 1 hb (by unfold maxLen;omega) rfl
structure zfs (w:World):Prop where
 vars:Vars w
 range:∃ tp p,w.var? Tryz.prog "strconv.ErrRange"=some #[.iface tp p]
theorem zfs.below (h:zfs w)(hb:Below w.heap.size w w'):zfs w':=by
 obtain ⟨tp,p,e⟩:=h.range;exact ⟨h.vars.below hb,tp,p,ziV e hb⟩
theorem zuZ (s:ByteArray)(w:World)(hs:s.size≤100)(hv:zfs w) :
 Calls Tryz.prog 131 #[.string s] w fun e w'=>Below w.heap.size w w'∧((∃ v,Lib.atoiAll s.data.toList=.ok v∧e=.returned (.tuple #[.int .i64 v,.nilIface]))∨∃ (v:Int) (T:TypeId) (x:Value),(∀ u,Lib.atoiAll s.data.toList≠.ok u)∧e=.returned (.tuple #[.int .i64 v,.iface T x])):=by
 obtain ⟨-,tp,p,hvar⟩:=hv.vars;obtain ⟨tr,pr,hrng⟩:=hv.range;cases h:Lib.atoiAll s.data.toList with
 | ok v =>
   refine (Any.strconv_Atoi_ok Tryz.laysC172 s (by omega) v h w).mono ?_;rintro e w' ⟨he,hw⟩;refine ⟨?_,.inl ⟨v,rfl,he⟩⟩;rcases hw with rfl | ⟨t,rfl⟩
   · exact Below.refl _ _
   · exact Lib.bytesWorld_below _ _ _
 | «syntax» =>
   refine (Any.strconv_Atoi_syntax_var Tryz.laysC172 s (by omega) h tp p w hvar).mono ?_;rintro e w' ⟨N,he,-,-,hb⟩;exact ⟨hb,.inr ⟨_,_,_,(fun u e=>by cases e),he⟩⟩
 | range =>
   refine (Any.strconv_Atoi_range_var Tryz.laysC172 s (by omega) h tr pr w hrng).mono ?_;rintro e w' ⟨N,he,-,-,hb⟩;exact ⟨hb,.inr ⟨_,_,_,(fun u e=>by cases e),he⟩⟩
theorem znD (n:Int)(w:World)(h0 : -9223372036854775808≤n)(h1:n≤9223372036854775807)(hv:zfs w) :
 Calls Tryz.prog 101 #[.int .i64 n] w fun e w'=>e=.returned (.string ⟨(Lib.itoa n).toArray⟩)∧Below w.heap.size w w':=by
 refine (Tryz.strconv_Itoa n h0 h1 w hv.vars.1).mono ?_;rintro e w' ⟨he,k,os,rfl⟩;exact ⟨he,Lib.below_grow _ w (Nat.le_refl _) k os⟩
def zbR (s:ByteArray):Int × Int:=match natC s with
 | some n=>((n:Int),0)
 | none=>(0,4)
theorem zf7 (h:∀ n:Nat,natC s=some n→False):zbR s=(0,4):=by
 unfold zbR;cases e:natC s with
 | none=>rfl
 | some n=>exact absurd e (fun e=>h n e)
theorem zqz {v:Int}(h0:0≤v)(h9:v≤999)(hok:Lib.atoiAll s.data.toList=.ok v)(he:Lib.itoa v=s.data.toList):zbR s=(v,0):=by
 unfold zbR;cases e:natC s with
 | none=>exact absurd he (zra e h0 h9)
 | some n =>
   have:=(zd3 e).1;rw [hok] at this
   injection this with this
   rw [this]
theorem zd4 (s:ByteArray) (w:World) (hs:s.size≤100) (hv:zfs w) :
 Calls Tryz.prog 181 #[.string s] w fun e w'=>e=.returned (.tuple #[.int .i64 (zbR s).1,errV (zbR s).2])∧Below w.heap.size w w':=by
 have KA:Hid _:=zuZ s w hs hv;have HV:Hid (zfs w):=hv;have e4:errV 4=.iface 90 (.int .i64 4):=zak (show ¬ (4:Int)=0 by decide);have HE4:Hid (errV 4=.iface 90 (.int .i64 4)):=e4;clear hv e4
 go_enter Tryz.func181,Tryz.ntmps181
 go_wp2_with fail
 refine Calls.mono KA.out ?_;rintro e w1 ⟨hb1,hor⟩;have HB1:Hid (Below w.heap.size w w1):=hb1;rcases hor with ⟨v,hok,rfl⟩ | ⟨v,T,x,hno,rfl⟩
 · have hbd:=Lib.atoiAll_bounds hok
   have HOK:Hid (Lib.atoiAll s.data.toList=.ok v):=hok;clear hok
   by_cases h0:v<0
   · have HN:Hid (zbR s=(0,4)):=zf7 (fun n e=>by
      have h:=(zd3 e).1;rw [HOK.out] at h
      injection h with h
      omega)
     clear hb1 KA hbd;go_wp2
     try simp only [Exit.inBlock,Exit.then]
     refine bodyPost_ret (v:=.tuple #[.int .i64 0,.iface 90 (.int .i64 4)]) (by simp [results,Tryz.results181,go_sem]) rfl ⟨by rw [HN.out];simp only;rw [HE4.out],HB1.out⟩
   · by_cases h9:999<v
     · have HN:Hid (zbR s=(0,4)):=zf7 (fun n e=>by
        obtain ⟨h,-,h9'⟩:=zd3 e;rw [HOK.out] at h
        injection h with h
        omega)
       clear hb1 KA hbd;go_wp2
       try simp only [Exit.inBlock,Exit.then]
       refine bodyPost_ret (v:=.tuple #[.int .i64 0,.iface 90 (.int .i64 4)]) (by simp [results,Tryz.results181,go_sem]) rfl ⟨by rw [HN.out];simp only;rw [HE4.out],HB1.out⟩
     · have KI:Hid _:=znD v w1 hbd.1 hbd.2 (HV.out.below hb1)
       have HR:Hid (0≤v∧v≤999):=⟨by omega,by omega⟩;clear hb1 KA hbd
       go_wp2_with fail
       refine Calls.mono KI.out ?_;rintro e w2 ⟨rfl,hb2⟩;have HB2:Hid (Below w.heap.size w w2):=HB1.out.trans (hb2.mono HB1.out.size)
       by_cases he:(⟨(Lib.itoa v).toArray⟩:ByteArray)=s
       · have hbq:=zbE he
         have HN:Hid (zbR s=(v,0)):=zqz HR.out.1 HR.out.2 HOK.out (by rw [← he]);clear hb2 KI he;generalize (⟨(Lib.itoa v).toArray⟩:ByteArray)=S at *;go_wp2
         try simp only [Exit.inBlock,Exit.then]
         refine bodyPost_ret (v:=.tuple #[.int .i64 v,.nilIface]) (by simp [results,Tryz.results181,go_sem]) rfl ⟨by rw [HN.out];simp only;rw [zac rfl],HB2.out⟩
       · have hbq:=zaS he
         have HN:Hid (zbR s=(0,4)):=zf7 (fun n e=>by
          obtain ⟨h,h2,-⟩:=zd3 e;rw [HOK.out] at h
          injection h with h
          apply he
          rw [h,h2])
         clear hb2 KI he;generalize (⟨(Lib.itoa v).toArray⟩:ByteArray)=S at *;go_wp2
         try simp only [Exit.inBlock,Exit.then]
         refine bodyPost_ret (v:=.tuple #[.int .i64 0,.iface 90 (.int .i64 4)]) (by simp [results,Tryz.results181,go_sem]) rfl ⟨by rw [HN.out];simp only;rw [HE4.out],HB2.out⟩
 · have HN:Hid (zbR s=(0,4)):=zf7 (fun n e=>hno _ (zd3 e).1)
   clear hb1 KA hno;go_wp2
   try simp only [Exit.inBlock,Exit.then]
   refine bodyPost_ret (v:=.tuple #[.int .i64 0,.iface 90 (.int .i64 4)]) (by simp [results,Tryz.results181,go_sem]) rfl ⟨by rw [HN.out];simp only;rw [HE4.out],HB1.out⟩
theorem zkc (s:ByteArray):0≤(zbR s).1∧(zbR s).1≤999∧((zbR s).2=0∨((zbR s).2=4∧(zbR s).1=0)):=by
 unfold zbR;cases e:natC s with
 | none=>exact ⟨by decide,by decide,.inr ⟨rfl,rfl⟩⟩
 | some n =>
   have:=(zd3 e).2.2;exact ⟨by simp,by simp;omega,.inl rfl⟩
def zby (s:ByteArray):Int × Int:=if ¬ (zbR s).2=0 then (0,4) else if 3≤(zbR s).1 then (0,5) else ((zbR s).1,0)
theorem zcQ (s:ByteArray)(w:World)(hs:s.size≤100)(hv:zfs w) :
 Calls Tryz.prog 177 #[.string s] w fun e w'=>e=.returned (.tuple #[.int .i64 (zby s).1,errV (zby s).2])∧Below w.heap.size w w':=by
 have KN:Hid _:=zd4 s w hs hv;have hr:=zkc s;have HD:Hid (zby s=if ¬ (zbR s).2=0 then (0,4) else if 3≤(zbR s).1 then (0,5) else ((zbR s).1,0)):=rfl;have HE4:Hid (errV 4=.iface 90 (.int .i64 4)):=zak (show ¬ (4:Int)=0 by decide);have HE5:Hid (errV 5=.iface 90 (.int .i64 5)):=zak (show ¬ (5:Int)=0 by decide);clear hv;generalize (zbR s).1=n at *;generalize (zbR s).2=m at *
 go_enter Tryz.func177,Tryz.ntmps177
 go_wp2_with fail
 refine Calls.mono KN.out ?_;rintro e w1 ⟨rfl,hb1⟩;have HB1:Hid (Below w.heap.size w w1):=hb1;clear hb1 KN;obtain ⟨h0,h9,hm⟩:=hr;rcases hm with hm | ⟨hm,hn⟩
 · have HM:Hid (m=0):=hm
   rw [zac hm];clear hm
   by_cases h3:3≤n
   · have HX:Hid (zby s=(0,5)):=by show _=_;rw [HD.out,if_neg (by rw [HM.out];simp),if_pos h3]
     go_wp2
     try simp only [Exit.inBlock,Exit.then]
     refine bodyPost_ret (v:=.tuple #[.int .i64 0,.iface 90 (.int .i64 5)]) (by simp [results,Tryz.results177,go_sem]) rfl ⟨by rw [HX.out];simp only;rw [HE5.out],HB1.out⟩
   · have HX:Hid (zby s=(n,0)):=by show _=_;rw [HD.out,if_neg (by rw [HM.out];simp),if_neg h3]
     go_wp2
     try simp only [Exit.inBlock,Exit.then]
     refine bodyPost_ret (v:=.tuple #[.int .i64 n,.nilIface]) (by simp [results,Tryz.results177,go_sem]) rfl ⟨by rw [HX.out];simp only;rw [zac rfl],HB1.out⟩
 · subst hm hn
   have HX:Hid (zby s=(0,4)):=by show _=_;rw [HD.out];rfl
   rw [HE4.out];go_wp2
   try simp only [Exit.inBlock,Exit.then]
   refine bodyPost_ret (v:=.tuple #[.int .i64 0,.iface 90 (.int .i64 4)]) (by simp [results,Tryz.results177,go_sem]) rfl ⟨by rw [HX.out];simp only;rw [HE4.out],HB1.out⟩
def zbi (s:ByteArray):ByteArray × Int:=if s=⟨#[]⟩ then (⟨#[]⟩,4) else if s=⟨#[45]⟩ then (⟨#[]⟩,0) else (s,0)
theorem zl0 (s:ByteArray)(w:World) :
 Calls Tryz.prog 179 #[.string s] w fun e w'=>e=.returned (.tuple #[.string (zbi s).1,errV (zbi s).2])∧w'=w:=by
 have HE4:Hid (errV 4=.iface 90 (.int .i64 4)):=zak (show ¬ (4:Int)=0 by decide)
 by_cases h1:s=⟨#[]⟩
 · have HX:Hid (zbi s=(⟨#[]⟩,4)):=if_pos h1
   subst h1
   go_enter Tryz.func179,Tryz.ntmps179
   go_wp2
   try simp only [Exit.inBlock,Exit.then]
   refine bodyPost_ret (v:=.tuple #[.string ⟨#[]⟩,.iface 90 (.int .i64 4)]) (by simp [results,Tryz.results179,go_sem]) rfl ⟨by rw [HX.out];simp only;rw [HE4.out],rfl⟩
 · have b1:(s.toList == [])=false:=by have h:=zaS h1;rw [ByteArray.toList_eq ⟨#[]⟩] at h;exact h
   by_cases h2:s=⟨#[45]⟩
   · have HX:Hid (zbi s=(⟨#[]⟩,0)):=by show _=_;unfold zbi;rw [if_neg h1,if_pos h2]
     subst h2;clear b1 h1
     go_enter Tryz.func179,Tryz.ntmps179
     go_wp2
     try simp only [Exit.inBlock,Exit.then]
     refine bodyPost_ret (v:=.tuple #[.string ⟨#[]⟩,.nilIface]) (by simp [results,Tryz.results179,go_sem]) rfl ⟨by rw [HX.out];simp only;rw [zac rfl],rfl⟩
   · have b2:(s.toList == [45])=false:=by have h:=zaS h2;rw [ByteArray.toList_eq ⟨#[45]⟩] at h;exact h
     have HX:Hid (zbi s=(s,0)):=by show _=_;unfold zbi;rw [if_neg h1,if_neg h2]
     clear h1 h2
     go_enter Tryz.func179,Tryz.ntmps179
     go_wp2
     try simp only [Exit.inBlock,Exit.then]
     refine bodyPost_ret (v:=.tuple #[.string s,.nilIface]) (by simp [results,Tryz.results179,go_sem]) rfl ⟨by rw [HX.out];simp only;rw [zac rfl],rfl⟩
def zbW (s:ByteArray):ByteArray:=if s=⟨#[]⟩ then ⟨#[45]⟩ else s
theorem zic (s:ByteArray)(w:World) :
 Calls Tryz.prog 175 #[.string s] w fun e w'=>e=.returned (.string (zbW s))∧w'=w:=by
 by_cases h1:s=⟨#[]⟩
 · have HX:Hid (zbW s=⟨#[45]⟩):=if_pos h1
   subst h1
   go_enter Tryz.func175,Tryz.ntmps175
   go_wp2
   try simp only [Exit.inBlock,Exit.then]
   refine bodyPost_ret (v:=.string ⟨#[45]⟩) (by simp [results,Tryz.results175,go_sem]) rfl ⟨by rw [HX.out],rfl⟩
 · have b1:(s.toList == [])=false:=by have h:=zaS h1;rw [ByteArray.toList_eq ⟨#[]⟩] at h;exact h
   have HX:Hid (zbW s=s):=if_neg h1;clear h1
   go_enter Tryz.func175,Tryz.ntmps175
   go_wp2
   try simp only [Exit.inBlock,Exit.then]
   refine bodyPost_ret (v:=.string s) (by simp [results,Tryz.results175,go_sem]) rfl ⟨by rw [HX.out],rfl⟩
end Go.Proofs.YtihnghnafpgdfadGreatDoor
namespace Go.Proofs.YtihnghnafpgdfadGreatDoor
open Go.RowKit
variable {B C base cap i id j k n size u vc:Nat}{r:List UInt8}{fs l:List Fi}{S rows:List Ch}{name other s:ByteArray}{Q:Exit→Act→World→Prop}{W W' w w':World}{v v':Value}{args cs:Array Value}{e:TypeId}{a va:Option Addr}{row:Option Nat}
def Strs (w:World)(a:Option Addr)(l:List ByteArray):Prop :=
 ∀ i (h:i<l.length),∃ b off,a=some ⟨b,off,none⟩∧w.cell? ⟨b,off+i,none⟩=some (.string l[i])
theorem Strs.below {l:List ByteArray}(h:Strs w a l)(hb:Below w.heap.size w w'):Strs w' a l:=by
 intro i hi;obtain ⟨b,off,rfl,c0⟩:=h i hi;exact ⟨b,off,rfl,by rw [hb.cell (World.block_lt_of_cell? _ _ c0)];exact c0⟩
theorem Strs.nil (w:World)(a:Option Addr):Strs w a []:=fun i h=>absurd h (Nat.not_lt_zero _)
theorem Tryz.infoString:(Tryz.prog.info? 9).map (fun i=>(i.zero,i.size,i.bytes))=some (some (.string ⟨#[]⟩),1,16):=by kernel_rfl
abbrev za0 (w:World)(base:Nat)(v:Value)(l:List ByteArray):Prop:=w.ownsRow base 9 1 v l.length (l.map Value.string)
theorem za0.texts {l:List ByteArray}(h:za0 w base v l):∃ a cap,v=.slice a l.length cap∧Strs w a l∧(a=none→cap=0)∧cap≤maxLen∧l.length≤cap∧(∀ x,a=some x→base≤x.block∧x.off=0∧x.spot=none):=by
 rcases h.2 with ⟨rfl,h0⟩ | ⟨g,cap,cur,rfl,hb,hg,hn,hm,hs,ht⟩
 · have e:l=[]:=List.eq_nil_of_length_eq_zero h0
   subst e;exact ⟨none,0,rfl,Strs.nil _ _,fun _=>rfl,Nat.zero_le _,Nat.le_refl _,fun x hx=>by cases hx⟩
 · refine ⟨some ⟨g,0,none⟩,cap,rfl,?_,(fun h=>by cases h),hm,hn,(fun x hx=>by cases hx;exact ⟨hb,rfl,rfl⟩)⟩
   intro i hi;refine ⟨g,0,rfl,?_⟩;rw [h.cellAt (0+i) (by omega),Nat.zero_add];simp [hi]
theorem za0.snoc {l:List ByteArray}(h:w.ownsRow B 9 1 v (l.length+1) (l.map Value.string ++ [.string s])):za0 w B v (l ++ [s]):=by
 show World.ownsRow _ _ _ _ _ _ _;rw [List.map_append,List.length_append];exact h
theorem zbz (w:World)(a:Value)(t:TypeId):∀ j u,[a][j]?=some u→(w.alloc (.cells #[a] t)).cell? ((⟨w.heap.size,0,none⟩:Addr).add j)=some u:=by
 intro j u hj
 match j,hj with
 | 0,hj=>simp at hj;subst hj;simp [Addr.add]
 | j+1,hj=>simp at hj
theorem zfL (s:ByteArray):∀ u ∈ [Value.string s],u.oneCell'=true:=by
 intro u hu;simp at hu;subst hu;rfl
def znh (l m:List ByteArray):Bool:=decide (l.length=m.length) && (List.range l.length).all (fun i=>match l[i]?,m[i]? with | some f,some g=>f.toList == g.toList | _,_=>false)
theorem zeQ (l m:List ByteArray):znh l m=true↔l=m:=by
 constructor
 · intro h
   simp only [znh,Bool.and_eq_true,decide_eq_true_eq,List.all_eq_true,List.mem_range] at h
   apply List.ext_getElem h.1
   intro i h1 h2;have:=h.2 i h1;rw [List.getElem?_eq_getElem h1,List.getElem?_eq_getElem h2] at this
   exact toList_inj (by simpa using this)
 · rintro rfl
   simp only [znh,decide_true,Bool.true_and,List.all_eq_true,List.mem_range];intro i h1;rw [List.getElem?_eq_getElem h1];simp
theorem zr8 {l m:List ByteArray}(h:¬ l.length=m.length):znh l m=false:=by
 rw [Bool.eq_false_iff];intro e;exact h (by rw [(zeQ l m).1 e])
theorem zs0 {l m:List ByteArray}(h1:k<l.length)(h2:k<m.length)(h:(l[k].toList == m[k].toList)=false):znh l m=false:=by
 rw [Bool.eq_false_iff];intro e
 have:=(zeQ l m).1 e;subst this
 simp at h
theorem zrj {l m:List ByteArray}(hl:l.length=m.length)(h:∀ i (h1:i<l.length) (h2:i<m.length),i<l.length→(l[i].toList == m[i].toList)=true):znh l m=true:=by
 rw [zeQ]
 apply List.ext_getElem hl
 intro i h1 h2;exact toList_inj (by simpa using h i h1 h2 h1)
theorem ze9 (a a':Option Addr) (cap cap':Nat) (l m:List ByteArray) (w:World) (hl:l.length≤1000) (hm:m.length≤1000) (hc:Strs w a l) (hc':Strs w a' m) :
 Calls Tryz.prog 23 #[.slice a l.length cap,.slice a' m.length cap'] w fun e w'=>e=.returned (.bool (znh l m))∧∃ n,w'=w.drewN n:=by
 have HC:Hid (Strs w a l):=hc;have HC':Hid (Strs w a' m):=hc';clear hc hc'
 by_cases hlen:l.length=m.length
 · have hne:((l.length:Int) != (m.length:Int))=false:=by simp [hlen]
   have HL:Hid (l.length=m.length):=hlen;clear hlen
   go_enter Tryz.func23,Tryz.ntmps23
   go_wp2_with fail
   go_loopw [5] (fun i wr=>∃ k n:Nat,k≤l.length∧i=.int .i64 k∧wr=w.drewN n∧∀ i (h1:i<l.length) (h2:i<m.length),i<k→(l[i].toList == m[i].toList)=true) (fun i _=>l.length - (intOf i).toNat)
   case atStart=>exact ⟨0,0,Nat.zero_le _,rfl,rfl,fun i h1 h2 h=>absurd h (Nat.not_lt_zero _)⟩
   case round =>
    obtain ⟨k,n,hk,rfl,rfl,hall⟩:=hrel;have Hall:Hid (∀ i (h1:i<l.length) (h2:i<m.length),i<k→(l[i].toList == m[i].toList)=true):=hall;clear hall
    by_cases hlt:k<l.length
    · have hlt2:k<m.length:=by have:=HL.out;omega
      obtain ⟨b,off,rfl,c0⟩:=HC.out k hlt;obtain ⟨b',off',rfl,d0⟩:=HC'.out k hlt2;cases he:l[k].toList == m[k].toList
      · have hne2:(l[k].toList != m[k].toList)=true:=by simp [bne,he]
        go_wp2
        go_quiet (fail)
        go_wp2;go_ret;exact ⟨zbS (zs0 hlt hlt2 he).symm,n+nq,by simp⟩
      · have hne2:(l[k].toList != m[k].toList)=false:=by simp [bne,he]
        go_wp2
        go_quiet (fail)
        go_wp2;refine ⟨⟨k+1,_,by omega,by go_num,rfl,fun i h1 h2 h=>?_⟩,by simp [intOf];omega⟩;rcases Nat.lt_or_ge i k with h3 | h3
        · exact Hall.out i h1 h2 h3
        · have e:i=k:=by omega
          subst e;exact he
    · go_wp2
      go_ret;exact ⟨zbS (zrj HL.out (fun i h1 h2 _=>Hall.out i h1 h2 (by omega))).symm,n,rfl⟩
 · have hne:((l.length:Int) != (m.length:Int))=true:=by rw [bne_iff_ne];omega
   go_enter Tryz.func23,Tryz.ntmps23
   go_wp2;go_ret;exact ⟨zbS (zr8 hlen).symm,0,rfl⟩
end Go.Proofs.YtihnghnafpgdfadGreatDoor
namespace Go.Proofs.YtihnghnafpgdfadGreatDoor
open Go Go.RowKit Go.BigFrame
variable {B C base cap i id j k n size u vc:Nat}{r:List UInt8}{fs l:List Fi}{S rows:List Ch}{name other s:ByteArray}{Q:Exit→Act→World→Prop}{W W' w w':World}{v v':Value}{args cs:Array Value}{e:TypeId}{a va:Option Addr}{row:Option Nat}
def errT (n:Int):ByteArray:=⟨#[101,114,114,111,114,32]⟩ ++ ⟨(Lib.itoa n).toArray⟩
theorem zjm (n:Int)(ev:Value)(w:World)(h0 : -9223372036854775808≤n)(h1:n≤9223372036854775807)(hv:zfs w) :
 Calls Tryz.prog 136 #[.int .i64 n,ev] w fun e w'=>e=.returned (.tuple #[.string ⟨(Lib.itoa n).toArray⟩,ev])∧Below w.heap.size w w':=by
 have KI:Hid _:=znD n w h0 h1 hv;clear hv
 go_enter Tryz.func136,Tryz.ntmps136
 go_wp2_with fail
 refine Calls.mono KI.out ?_;rintro e w1 ⟨rfl,hb1⟩;have HB1:Hid (Below w.heap.size w w1):=hb1;clear hb1 KI;go_wp2
 try simp only [Exit.inBlock,Exit.then]
 refine bodyPost_ret (v:=.tuple #[.string ⟨(Lib.itoa n).toArray⟩,ev]) (by simp [results,Tryz.results136,go_sem]) rfl ⟨rfl,HB1.out⟩
theorem zog (n:Int)(w:World)(h0:0<n)(h9:n≤100)(hv:zfs w) :
 Calls Tryz.prog 66 #[errV n] w fun e w'=>e=.returned (.string (errT n))∧Below w.heap.size w w':=by
 have KI:Hid _:=znD n w (by omega) (by omega) hv;have HX:Hid (errT n=⟨#[101,114,114,111,114,32]⟩ ++ ⟨(Lib.itoa n).toArray⟩):=rfl;rw [zak (show ¬ n=0 by omega)];have hlit:¬ 9223372036854775807<6+(Lib.itoa n).length:=by have:=Lib.itoa_length_le n (by omega) (by omega);omega
 have ha:=zk8 (.int .i64 n);clear hv
 go_enter Tryz.func66,Tryz.ntmps66
 go_wp2_with fail
 refine Calls.mono KI.out ?_;rintro e w1 ⟨rfl,hb1⟩;have HB1:Hid (Below w.heap.size w w1):=hb1;clear hb1 KI;go_wp2
 try simp only [Exit.inBlock,Exit.then]
 refine bodyPost_ret (v:=.string (errT n)) (by simp [results,Tryz.results66,go_sem,HX.out]) rfl ⟨rfl,HB1.out⟩
def ziG (l:List ByteArray):ByteArray:=if l=[] then ⟨#[45]⟩ else ⟨(Lib.join (l.map (·.data.toList)) [32]).toArray⟩
theorem zl6 (a:Option Addr) (c:Nat) (l:List ByteArray) (w:World) (hs:Strs w a l) (hc:l.length≤c) (hN:l.length≤140737488355328) (hlen:(Lib.join (l.map (·.data.toList)) [32]).length≤140737488355328) :
 Calls Tryz.prog 176 #[.slice a l.length c] w fun e w'=>e=.returned (.string (ziG l))∧Below w.heap.size w w':=by
 by_cases h0:l=[]
 · have HX:Hid (ziG l=⟨#[45]⟩):=if_pos h0
   subst h0;clear hs hN hlen
   go_enter Tryz.func176,Tryz.ntmps176
   go_wp2
   try simp only [Exit.inBlock,Exit.then]
   refine bodyPost_ret (v:=.string ⟨#[45]⟩) (by simp [results,Tryz.results176,go_sem]) rfl ⟨by rw [HX.out],Below.refl _ _⟩
 · have HX:Hid (ziG l=⟨(Lib.join (l.map (·.data.toList)) [32]).toArray⟩):=if_neg h0
   have hpos:0<l.length:=List.length_pos_iff.2 h0
   have KJ:Hid (Calls Tryz.prog 211 #[.slice a l.length c,.string ⟨#[32]⟩] w fun e w'=>e=.returned (.string ⟨(Lib.join (l.map (·.data.toList)) [32]).toArray⟩)∧Below w.heap.size w w'):=by
    obtain ⟨b,o,rfl,c0⟩:=hs 0 hpos
    have hcl:∀ (j:Nat) x,l[j]?=some x→w.cell? ⟨b,o+j,none⟩=some (.string x):=by
     intro j x e;obtain ⟨hj,rfl⟩:=List.getElem?_eq_some_iff.1 e;obtain ⟨b',o',e2,c⟩:=hs j hj;cases e2;exact c
    exact Tryz.strings_Join b o c l ⟨#[32]⟩ w hcl (World.block_lt_of_cell? _ _ c0) hN hc hlen
   have hz:((l.length:Int) == 0)=false:=by simp;omega
   clear hs hN hlen h0
   go_enter Tryz.func176,Tryz.ntmps176
   go_wp2_with fail
   refine Calls.mono KJ.out ?_;rintro e w1 ⟨rfl,hb1⟩;have HB1:Hid (Below w.heap.size w w1):=hb1;clear hb1 KJ;go_wp2
   try simp only [Exit.inBlock,Exit.then]
   refine bodyPost_ret (v:=.string ⟨(Lib.join (l.map (·.data.toList)) [32]).toArray⟩) (by simp [results,Tryz.results176,go_sem]) rfl ⟨by rw [HX.out],HB1.out⟩
def QM (W:World)(B:Nat)(fs:List Fi)(t:Int):Prop:=∃ va vc,QBox W B (.slice va fs.length vc) t∧Owns W (B+1) (.slice va fs.length vc) fs
theorem QM.far {t:Int}(h:QM W B fs t)(hb:Below W.heap.size W W'):QM W' B fs t:=by
 obtain ⟨va,vc,h1,h2⟩:=h;exact ⟨va,vc,h1.below hb h1.lt,zll h2 hb⟩
theorem QBox.turn {t t':Int}(h:QBox W B v t):QBox (W.setCell ⟨B,1,none⟩ (.int .i64 t')) B v t':=by
 refine ⟨?_,?_,?_,?_,by simpa using h.lt,zlE (u:=.int .i64 t') (j:=1) h.only (by decide)⟩
 · simp [go_sem,h.c0,h.c1]
 · simp [go_sem,h.c0,h.c1]
 · simp [go_sem,h.f0,h.f1]
 · simp [go_sem,h.f0,h.f1]
theorem QBox.files {t:Int}(h:QBox W B v t):QBox (W.setCell ⟨B,0,none⟩ v') B v' t:=by
 refine ⟨?_,?_,?_,?_,by simpa using h.lt,zlE (u:=v') (j:=0) h.only (by decide)⟩
 · simp [go_sem,h.c0,h.c1]
 · simp [go_sem,h.c0,h.c1]
 · simp [go_sem,h.f0,h.f1]
 · simp [go_sem,h.f0,h.f1]
theorem QBox.grown {t:Int}(h:QBox W B v t)(hg:W.grownBy W' row)(hr:∀ k,row=some k→B+1≤k):QBox W' B v t:=by
 have hb:Below (B+1) W W':=(Below.refl _ W).grown hg h.lt hr;exact h.below hb (Nat.lt_succ_self _)
theorem QBox.apart {v u:Value}{t:Int}(h:QBox W B v t)(hne:B≠C):QBox (W.setCell ⟨C,j,none⟩ u) B v t:=by
 have hh:(W.setCell ⟨C,j,none⟩ u).heap[B]?=W.heap[B]?:=Below.heap_setCell W ⟨C,j,none⟩ u B hne;exact ⟨by rw [World.cell?_of_block (a:=⟨B,0,none⟩) hh];exact h.c0,by rw [World.cell?_of_block (a:=⟨B,1,none⟩) hh];exact h.c1,by rw [World.frozen?_of_block (a:=⟨B,0,none⟩) hh];exact h.f0,by rw [World.frozen?_of_block (a:=⟨B,1,none⟩) hh];exact h.f1,by simpa using h.lt,fun o ho=>by rw [World.cell?_of_block (a:=⟨B,o,none⟩) hh];exact h.only o ho⟩
structure zad (w:World)(a:Option Addr)(cap:Nat)(l:List Fi):Prop where
 slice:za5 w a cap l
 typed:∀ x,a=some x→¬ l=[]→∃ C fr,w.heap[x.block]?=some (.cells C 98 fr)
theorem zad.cells (h:zad w a cap l):zaF w a l:=h.slice.cells
theorem zad.keep (h:zad w a cap l)(hk:∀ (k:Nat) (C:Array Value) (fr:Nat × Nat),w.heap[k]?=some (Obj.cells C 98 fr)→w'.heap[k]?=w.heap[k]?):zad w' a cap l:=by
 have key:∀ x,a=some x→¬ l=[]→w'.heap[x.block]?=w.heap[x.block]?:=fun x hx hne=>by
  obtain ⟨C,fr,e⟩:=h.typed x hx hne;exact hk _ C fr e
 refine ⟨⟨fun i hi=>?_,h.slice.room,h.slice.most,h.slice.nil⟩,fun x hx hne=>?_⟩
 · obtain ⟨b,off,rfl,c0,c1,c2⟩:=h.cells i hi
   have hb:=key ⟨b,off,none⟩ rfl (fun e=>by subst e;exact absurd hi (Nat.not_lt_zero _));exact ⟨b,off,rfl,by rw [World.cell?_of_block (w:=w) (a:=⟨b,off+i * 3,none⟩) hb];exact c0,by rw [World.cell?_of_block (w:=w) (a:=⟨b,off+i * 3+1,none⟩) hb];exact c1,by rw [World.cell?_of_block (w:=w) (a:=⟨b,off+i * 3+2,none⟩) hb];exact c2⟩
 · obtain ⟨C,fr,e⟩:=h.typed x hx hne
   exact ⟨C,fr,by rw [key x hx hne];exact e⟩
theorem zad.below (h:zad w a cap l)(hb:Below w.heap.size w w'):zad w' a cap l :=
 h.keep (fun k C fr e=>hb.block k (Array.getElem?_eq_some_iff.1 e).1)
theorem zad.nil (w:World):zad w none 0 []:=⟨zc6 w,fun x _ h=>absurd rfl h⟩
theorem zad.of_owns (h:Owns w B (.slice va n vc) l):zad w va vc l:=by
 obtain ⟨a,cap,e,hc,h1,h2,h3,_⟩:=Owns.files h;have ea:va=a:=by injection e
 have ec:vc=cap:=by injection e
 subst ea ec;refine ⟨⟨hc,h3,h2,h1⟩,fun x hx hne=>?_⟩;rcases h.2 with ⟨h1,h0⟩ | ⟨g,cap',cur,h1,_,hg,_⟩
 · exact absurd (List.eq_nil_of_length_eq_zero h0) hne
 · have e2:va=some ⟨g,0,none⟩:=by injection h1
   rw [hx] at e2;cases e2;exact ⟨cur,(0,0),hg⟩
theorem zad.apart {u:Value}(h:zad w a cap l)(hne:∀ x:Addr,a=some x→x.block≠C):zad (w.setCell ⟨C,j,none⟩ u) a cap l:=by
 refine ⟨⟨fun i hi=>?_,h.slice.room,h.slice.most,h.slice.nil⟩,fun x hx hn=>?_⟩
 · obtain ⟨b,off,rfl,c0,c1,c2⟩:=h.cells i hi
   have hh:(w.setCell ⟨C,j,none⟩ u).heap[b]?=w.heap[b]?:=Below.heap_setCell w ⟨C,j,none⟩ u b (hne _ rfl);exact ⟨b,off,rfl,by rw [World.cell?_of_block (a:=⟨b,off+i * 3,none⟩) hh];exact c0,by rw [World.cell?_of_block (a:=⟨b,off+i * 3+1,none⟩) hh];exact c1,by rw [World.cell?_of_block (a:=⟨b,off+i * 3+2,none⟩) hh];exact c2⟩
 · obtain ⟨C',fr,e⟩:=h.typed x hx hn
   exact ⟨C',fr,by rw [Below.heap_setCell w ⟨C,j,none⟩ u x.block (hne x hx)];exact e⟩
end Go.Proofs.YtihnghnafpgdfadGreatDoor
namespace Go.Proofs.YtihnghnafpgdfadGreatDoor
open Go.RowKit
variable {B C base cap i id j k n size u vc:Nat}{r:List UInt8}{fs l:List Fi}{S rows:List Ch}{name other s:ByteArray}{Q:Exit→Act→World→Prop}{W W' w w':World}{v v':Value}{args cs:Array Value}{e:TypeId}{a va:Option Addr}{row:Option Nat}
theorem Owns.filesIn (h:Owns w B v l):∃ a cap,v=.slice a l.length cap∧zad w a cap l:=by
 obtain ⟨a,cap,rfl,-⟩:=h.slice;exact ⟨a,cap,rfl,zad.of_owns h⟩
theorem zad.store2 (h:zad W a cap l)(q:∀ o,2≤o→W.cell? ⟨B,o,none⟩=none)(u v:Value):zad ((W.setCell ⟨B,0,none⟩ u).setCell ⟨B,1,none⟩ v) a cap l:=by
 refine ⟨h.slice.store2 q u v,fun x hx hne=>?_⟩
 have hxb:x.block≠B:=fun e=>by
  obtain ⟨b,off,e2,-,-,c2⟩:=h.cells 0 (List.length_pos_iff.2 hne);rw [hx] at e2;cases e2;simp at e;subst e;rw [q _ (by omega)] at c2;cases c2
 obtain ⟨C,fr,e⟩:=h.typed x hx hne;exact ⟨C,fr,by rw [Below.heap_setCell _ _ _ _ hxb,Below.heap_setCell _ _ _ _ hxb];exact e⟩
def zhx (w:World)(r:Res)(e:Ending)(w':World):Prop :=
 ∃ a cap,e=.returned (.tuple #[.agg #[.slice a r.l.length cap,.int .i64 r.t],.int .i64 r.n])∧zad w' a cap r.l∧Below w.heap.size w w'
theorem zf4 (t:Int)(a:Option Addr)(cap:Nat)(l:List Fi)(n:Int)(w:World)(h0:0≤t)(hn:0≤n∧n≤100)(b:Option Addr)(m c:Nat)(hs:zad w a cap l) :
 Calls Tryz.prog 68 #[.agg #[.slice b m c,.int .i64 t],.slice a l.length cap,.int .i64 n] w (zhx w (zcy t l n)):=by
 have HS:Hid (zad w a cap l):=hs;clear hs;obtain ⟨hn0,hn1⟩:=hn;have hbel:∀ o o':Obj,Below w.heap.size w ((w.alloc o).alloc o'):=fun o o'=>((Below.refl _ _).alloc (Nat.le_refl _) _).alloc (by simp) _
 have HBEL:Hid (∀ o o':Obj,Below w.heap.size w ((w.alloc o).alloc o')):=hbel;clear hbel
 by_cases hz:n=0
 · by_cases ht:9999≤t
   · have e:zcy t l n=⟨[],0,7⟩:=by simp [zcy,hz,zeT,ht]
     rw [e];subst hz;clear e
     go_enter Tryz.func68,Tryz.ntmps68
     go_wp2;refine bodyPost_ret (v:=.tuple #[.agg #[.slice none 0 0,.int .i64 0],.int .i64 7]) (by simp [results,Tryz.results68,go_sem]) rfl ⟨none,0,rfl,zad.nil _,HBEL.out _ _⟩
   · have e:zcy t l n=⟨l,t+1,0⟩:=by simp [zcy,hz,zeT,ht]
     rw [e];subst hz;clear e
     go_enter Tryz.func68,Tryz.ntmps68
     go_wp2;refine bodyPost_ret (v:=.tuple #[.agg #[.slice a l.length cap,.int .i64 (t+1)],.int .i64 0]) (by simp [results,Tryz.results68,go_sem]) rfl ⟨a,cap,rfl,HS.out.below (HBEL.out _ _),HBEL.out _ _⟩
 · have e:zcy t l n=⟨[],0,n⟩:=by simp [zcy,hz]
   rw [e];have hpos:0<n:=by omega
   clear e hz
   go_enter Tryz.func68,Tryz.ntmps68
   go_wp2;refine bodyPost_ret (v:=.tuple #[.agg #[.slice none 0 0,.int .i64 0],.int .i64 n]) (by simp [results,Tryz.results68,go_sem]) rfl ⟨none,0,rfl,zad.nil _,HBEL.out _ _⟩
theorem zmy (a:Option Addr)(cap:Nat)(l:List Fi)(t:Int)(name:ByteArray)(w:World)(hq:zau l t)(hs:zad w a cap l) :
 Calls Tryz.prog 44 #[.agg #[.slice a l.length cap,.int .i64 t],.string name] w (zhx w (zbb l t name)):=by
 have HS:Hid (zad w a cap l):=hs;have HQ:Hid (zau l t):=hq;have hl:=hq.files.few;have ht0:=hq.low;have ht1:=hq.high;clear hs hq;have HR:Hid (zbb l t name=zcy t (zdJ l name) (zco l name)):=rfl;generalize zbb l t name=r at *
 go_enter Tryz.func44,Tryz.ntmps44
 go_wp2_with fail
 refine (zh9 a cap l name _ HQ.out.files (by exact ((HS.out.below ((Below.refl _ _).alloc (Nat.le_refl _) _)).below ((Below.refl _ _).alloc (Nat.le_refl _) _)).slice)).mono ?_;rintro e w2 ⟨v,rfl,hown,hb⟩;obtain ⟨a1,cap1,rfl,hs1⟩:=Owns.filesIn hown;have q2:QBox w2 w.heap.size (.slice a l.length cap) t:=((QBox.new w _ t _).alloc _).below hb (by simp;omega)
 have s2:QBox w2 (w.heap.size+1) (.slice none 0 0) 0:=by
  have:=QBox.new (w.alloc (.cells #[.slice a l.length cap,.int .i64 t] 32)) (.slice none 0 0) 0 32;rw [World.size_alloc] at this
  exact this.below hb (by simp)
 have HB2:Hid (Below w.heap.size w w2):=(((Below.refl _ _).alloc (Nat.le_refl _) _).alloc (by simp) _).trans (hb.mono (by simp;omega));have HS2:Hid (zad w2 a1 cap1 (zdJ l name)):=hs1;have HR2:Hid (QBox w2 (w.heap.size+1) (.slice none 0 0) 0):=s2;clear hb hown hs1;obtain ⟨x0,x1,_,_,xl,_⟩:=q2;clear s2;have hnr:=zoA l name;generalize zco l name=n at *;generalize zdJ l name=dl at *
 go_wp2_with fail
 refine (zf4 t a1 cap1 dl n _ (by omega) hnr a l.length cap HS2.out).mono ?_;rintro e w3 ⟨a2,cap2,rfl,hs3,hb⟩;rw [← HR.out];rw [← HR.out] at hs3;have s3:=HR2.out.below hb HR2.out.lt;have HB3:Hid (Below w.heap.size w w3):=HB2.out.trans (hb.mono HB2.out.size);have HS3:Hid (zad w3 a2 cap2 r.l):=hs3;clear hb hs3;obtain ⟨y0,y1,yf0,yf1,yl,yo⟩:=s3;have HYO:Hid (∀ o,2≤o→w3.cell? ⟨w.heap.size+1,o,none⟩=none):=yo;clear yo;go_wp2;refine bodyPost_ret (v:=.tuple #[.agg #[.slice a2 r.l.length cap2,.int .i64 r.t],.int .i64 r.n]) (by simp [results,Tryz.results44,go_sem,y0,y1,yl]) rfl ⟨a2,cap2,rfl,?_,?_⟩
 · exact HS3.out.store2 HYO.out _ _
 · exact (HB3.out.setCell (by simp) _).setCell (by simp) _
theorem zia (a:Option Addr)(cap:Nat)(l:List Fi)(t:Int)(name text:ByteArray)(w:World)(hq:zau l t)(hs:zad w a cap l)(hn:name.size≤maxLen)(hx:text.size≤maxLen) :
 Calls Tryz.prog 69 #[.agg #[.slice a l.length cap,.int .i64 t],.string name,.string text] w (zhx w (zaG l t name text)):=by
 have HS:Hid (zad w a cap l):=hs;have HQ:Hid (zau l t):=hq;have hl:=hq.files.few;have ht0:=hq.low;have ht1:=hq.high
 have hk:0≤(zdq (getF l name)).k∧(zdq (getF l name)).k≤9999:=by
  cases hg:getF l name with
  | none=>exact ⟨by decide,by decide⟩
  | some f=>have:=hq.files.times (zbh hg).1;exact ⟨by simp [zdq];omega,by simp [zdq];omega⟩
 have hwf:zfj l name text=⟨name,text,(zdq (getF l name)).k+1⟩:=rfl;clear hs hq;have HR:Hid (zaG l t name text=zcy t (putL l (zfj l name text)) (putN l (zfj l name text))):=rfl;generalize zaG l t name text=r at *;generalize hg:zdq (getF l name)=g at *;have HG:Hid (zdq (getF l name)=g):=hg;generalize hwf':zfj l name text=f at *;subst hwf;clear hg hwf';obtain ⟨hk0,hk1⟩:=hk
 go_enter Tryz.func69,Tryz.ntmps69
 go_wp2_with fail
 refine (zbQ a cap l name _ (by unfold maxLen;omega) (by exact (HS.out.cells.alloc _).alloc _)).mono ?_;rintro e w1 ⟨rfl,hb⟩;rw [zh3,HG.out];have q1:QBox w1 w.heap.size (.slice a l.length cap) t:=((QBox.new w _ t _).alloc _).below hb (by simp;omega)
 have s1:QBox w1 (w.heap.size+1) (.slice none 0 0) 0:=by
  have:=QBox.new (w.alloc (.cells #[.slice a l.length cap,.int .i64 t] 32)) (.slice none 0 0) 0 32;rw [World.size_alloc] at this
  exact this.below hb (by simp)
 have HB1:Hid (Below w.heap.size w w1):=(((Below.refl _ _).alloc (Nat.le_refl _) _).alloc (by simp) _).trans (hb.mono (by simp;omega));have HS1:Hid (zad w1 a cap l):=HS.out.below HB1.out;have HQ1:Hid (QBox w1 w.heap.size (.slice a l.length cap) t):=q1;have HR1:Hid (QBox w1 (w.heap.size+1) (.slice none 0 0) 0):=s1;obtain ⟨x0,x1,_,_,xl,_⟩:=q1;clear hb s1
 go_wp2_with fail
 refine (zjU a cap l ⟨name,text,g.k+1⟩ _ ⟨hn,hx⟩ HQ.out.files (by exact (HS1.out.below ((Below.refl _ _).alloc (Nat.le_refl _) _)).slice)).mono ?_;rintro e w2 ⟨v,rfl,hown,hb⟩;obtain ⟨a1,cap1,rfl,hs1⟩:=Owns.filesIn hown;have q2:QBox w2 w.heap.size (.slice a l.length cap) t:=(HQ1.out.alloc _).below hb (by simp;have:=HQ1.out.lt;omega);have s2:QBox w2 (w.heap.size+1) (.slice none 0 0) 0:=(HR1.out.alloc _).below hb (by simp;have:=HR1.out.lt;omega);have HB2:Hid (Below w.heap.size w w2):=(HB1.out.alloc HB1.out.size _).trans (hb.mono (by simp;have:=HB1.out.size;omega));have HS2:Hid (zad w2 a1 cap1 (putL l ⟨name,text,g.k+1⟩)):=hs1;have HR2:Hid (QBox w2 (w.heap.size+1) (.slice none 0 0) 0):=s2;clear x0 x1 xl HQ1 HR1 HS1 HB1 hb hown hs1 s2;obtain ⟨x0,x1,_,_,xl,_⟩:=q2;have hpr:=zf8 l ⟨name,text,g.k+1⟩;generalize putN l ⟨name,text,g.k+1⟩=n at *;generalize putL l ⟨name,text,g.k+1⟩=pl at *
 go_wp2_with fail
 refine (zf4 t a1 cap1 pl n _ (by omega) hpr a l.length cap HS2.out).mono ?_;rintro e w3 ⟨a2,cap2,rfl,hs3,hb⟩;rw [← HR.out];rw [← HR.out] at hs3;have s3:=HR2.out.below hb HR2.out.lt;have HB3:Hid (Below w.heap.size w w3):=HB2.out.trans (hb.mono HB2.out.size);have HS3:Hid (zad w3 a2 cap2 r.l):=hs3;clear hb hs3;obtain ⟨y0,y1,yf0,yf1,yl,yo⟩:=s3;have HYO:Hid (∀ o,2≤o→w3.cell? ⟨w.heap.size+1,o,none⟩=none):=yo;clear yo;go_wp2;refine bodyPost_ret (v:=.tuple #[.agg #[.slice a2 r.l.length cap2,.int .i64 r.t],.int .i64 r.n]) (by simp [results,Tryz.results69,go_sem,y0,y1,yl]) rfl ⟨a2,cap2,rfl,?_,?_⟩
 · exact HS3.out.store2 HYO.out _ _
 · exact (HB3.out.setCell (by simp) _).setCell (by simp) _
theorem zmR (a:Option Addr) (cap:Nat) (l:List Fi) (t:Int) (name nto:ByteArray) (w:World) (hq:zau l t) (hs:zad w a cap l) (hn:name.size≤maxLen) (hx:nto.size≤maxLen) :
 Calls Tryz.prog 70 #[.agg #[.slice a l.length cap,.int .i64 t],.string name,.string nto] w (zhx w (zax l t name nto)):=by
 have HS:Hid (zad w a cap l):=hs;have HQ:Hid (zau l t):=hq;have hl:=hq.files.few;have ht0:=hq.low;have ht1:=hq.high;clear hs hq;have HR:Hid (zax l t name nto=zax l t name nto):=rfl;generalize hr:zax l t name nto=r;have HRN:Hid (zax l t name nto=r):=hr;clear hr HR
 go_enter Tryz.func70,Tryz.ntmps70
 go_wp2_with fail
 refine (zbQ a cap l name _ (by unfold maxLen;omega) (by exact (HS.out.cells.alloc _).alloc _)).mono ?_;rintro e w1 ⟨rfl,hb⟩;have q1:QBox w1 w.heap.size (.slice a l.length cap) t:=((QBox.new w _ t _).alloc _).below hb (by simp;omega)
 have s1:QBox w1 (w.heap.size+1) (.slice none 0 0) 0:=by
  have:=QBox.new (w.alloc (.cells #[.slice a l.length cap,.int .i64 t] 32)) (.slice none 0 0) 0 32;rw [World.size_alloc] at this
  exact this.below hb (by simp)
 have HB1:Hid (Below w.heap.size w w1):=(((Below.refl _ _).alloc (Nat.le_refl _) _).alloc (by simp) _).trans (hb.mono (by simp;omega));have HS1:Hid (zad w1 a cap l):=HS.out.below HB1.out;have HQ1:Hid (QBox w1 w.heap.size (.slice a l.length cap) t):=q1;have HR1:Hid (QBox w1 (w.heap.size+1) (.slice none 0 0) 0):=s1;clear hb;cases hg:getF l name with
 | none =>
   have HRR:Hid (r=⟨[],0,5⟩):=by show _=_;rw [← HRN.out];simp [zax,hg,zd0]
   rw [zed];obtain ⟨y0,y1,yf0,yf1,yl,yo⟩:=s1;clear q1 yo hg;go_wp2;rw [HRR.out];refine bodyPost_ret (v:=.tuple #[.agg #[.slice none 0 0,.int .i64 0],.int .i64 5]) (by simp [results,Tryz.results70,go_sem,y0,y1,yl]) rfl ⟨none,0,rfl,zad.nil _,?_⟩
   repeat (first | exact HB1.out | refine Below.setCell ?_ (Nat.le_succ _) _ | refine Below.alloc ?_ (by simp;have:=HB1.out.size;omega) _)
 | some f =>
   obtain ⟨hfm,hfn⟩:=zbh hg;have hfs:=HQ.out.files.times hfm;rw [zeJ];have HGF:Hid (getF l name=some f):=hg;have HFN:Hid (f.n=name):=hfn;clear hg hfn hfm;obtain ⟨x0,x1,_,_,xl,_⟩:=q1;obtain ⟨y0,y1,yf0,yf1,yl,yo⟩:=s1;clear yo
   go_wp2_with fail
   refine (zhC nto _ hx).mono ?_;rintro e w' ⟨rfl,hw⟩;rw [hw];clear hw w';have hnr:=zfd nto.data.toList
   by_cases hto:zbq nto.data.toList=0
   · have HTO:Hid (zbq nto.data.toList=0):=hto
     rw [hto];clear hto hnr
     go_wp2_with fail
     refine (zbQ a cap l nto _ (by unfold maxLen;omega) (by exact HS1.out.cells.alloc _)).mono ?_;rintro e w2 ⟨rfl,hb⟩;have HF2:Hid (FBox w2 w1.heap.size f):=(FBox.new w1 f _).below hb (by simp);have HQ2:Hid (QBox w2 w.heap.size (.slice a l.length cap) t):=(HQ1.out.alloc _).below hb (by simp;have:=HQ1.out.lt;omega);have HR2:Hid (QBox w2 (w.heap.size+1) (.slice none 0 0) 0):=(HR1.out.alloc _).below hb (by simp;have:=HR1.out.lt;omega);have HB2:Hid (Below w.heap.size w w2):=(HB1.out.alloc HB1.out.size _).trans (hb.mono (by simp;have:=HB1.out.size;omega));have HS2:Hid (zad w2 a cap l):=HS.out.below HB2.out;have yl0:=yl;clear x0 x1 xl y0 y1 yf0 yf1 yl hb HQ1 HR1 HS1 HB1 HS;cases hg2:getF l nto with
     | some g =>
       have HRR:Hid (r=⟨[],0,6⟩):=by show _=_;rw [← HRN.out];simp [zax,HGF.out,HTO.out,hg2,zd0]
       rw [zeJ];obtain ⟨y0,y1,yf0,yf1,yl,yo⟩:=HR2.out;clear yo hg2;go_wp2;rw [HRR.out];refine bodyPost_ret (v:=.tuple #[.agg #[.slice none 0 0,.int .i64 0],.int .i64 6]) (by simp [results,Tryz.results70,go_sem,y0,y1,yl]) rfl ⟨none,0,rfl,zad.nil _,?_⟩
       repeat (first | exact HB2.out | refine Below.setCell ?_ (Nat.le_succ _) _ | refine Below.alloc ?_ (by simp;have:=HB2.out.size;omega) _)
     | none =>
       have HG2:Hid (getF l nto=none):=hg2;clear hg2;rw [zed];obtain ⟨x0,x1,_,_,xl,_⟩:=HQ2.out;have hhas:hasF l name=true:=by rw [← zd9 HQ.out.files,HGF.out];rfl
       have HDN:Hid (zco l name=0):=by show _=_;simp [zco,hhas]
       have HDL:Hid (zdJ l name=zbG l name):=by show _=_;simp [zdJ,hhas]
       clear hhas
       go_wp2_with fail
       refine (zh9 a cap l name _ HQ.out.files HS2.out.slice).mono ?_;rintro e w3 ⟨v,rfl,hown,hb⟩;rw [HDN.out];rw [HDL.out] at hown;have hsz2:w1.heap.size<w2.heap.size:=HF2.out.lt;have HF3:Hid (FBox w3 w1.heap.size f):=HF2.out.below hb HF2.out.lt;have HQ3:Hid (QBox w3 w.heap.size (.slice a l.length cap) t):=HQ2.out.below hb HQ2.out.lt;have HR3:Hid (QBox w3 (w.heap.size+1) (.slice none 0 0) 0):=HR2.out.below hb HR2.out.lt;have HB3:Hid (Below w.heap.size w w3):=HB2.out.trans (hb.mono HB2.out.size);obtain ⟨a1,cap1,rfl,_⟩:=hown.slice;have HO3:Hid (Owns w3 w2.heap.size (.slice a1 (zbG l name).length cap1) (zbG l name)):=hown;have hw1:w.heap.size+1<w1.heap.size:=yl0;clear x0 x1 xl hb hown HQ2 HR2 HS2 HF2;obtain ⟨z0,z1,z2,zf,zl⟩:=HF3.out
       go_wp2_with fail
       have hb4:Below w1.heap.size w3 (w3.setCell ⟨w1.heap.size,0,none⟩ (.string nto)):=Below.setCell (p:=⟨w1.heap.size,0,none⟩) (Below.refl _ _) (Nat.le_refl _) _;have HO4:Hid (Owns (w3.setCell ⟨w1.heap.size,0,none⟩ (.string nto)) w2.heap.size (.slice a1 (zbG l name).length cap1) (zbG l name)):=HO3.out.setOther (by show w1.heap.size<w2.heap.size;omega) _
       have HSL4:Hid (za5 (w3.setCell ⟨w1.heap.size,0,none⟩ (.string nto)) a1 cap1 (zbG l name)):=by
        obtain ⟨a',cap',e,hs'⟩:=HO4.out.slice;cases e;exact hs'
       refine (zjU a1 cap1 (zbG l name) ⟨nto,f.t,f.k⟩ _ ⟨hx,by unfold maxLen;have:=hfs.2.1;show f.t.size≤_;omega⟩ (zdZ HQ.out.files name) (by exact HSL4.out)).mono ?_;rintro e w5 ⟨v5,rfl,hown5,hb5⟩;obtain ⟨a5,cap5,rfl,hs5⟩:=Owns.filesIn hown5;have HQ5:Hid (QBox w5 w.heap.size (.slice a l.length cap) t):=(HQ3.out.below hb4 (by omega)).below hb5 (by have:=HQ3.out.lt;simpa using this);have HR5:Hid (QBox w5 (w.heap.size+1) (.slice none 0 0) 0):=(HR3.out.below hb4 (by omega)).below hb5 (by have:=HR3.out.lt;simpa using this);have HB5:Hid (Below w.heap.size w w5):=(HB3.out.trans (hb4.mono (by omega))).trans (hb5.mono (by have:=HB3.out.size;simpa using this));have HS5:Hid (zad w5 a5 cap5 (putL (zbG l name) ⟨nto,f.t,f.k⟩)):=hs5;have HRR:Hid (r=zcy t (putL (zbG l name) ⟨nto,f.t,f.k⟩) (putN (zbG l name) ⟨nto,f.t,f.k⟩)):=by show _=_;rw [← HRN.out];simp [zax,HGF.out,HTO.out,HG2.out]
       clear z0 z1 z2 zf zl hb4 hb5 hown5 hs5 HO3 HO4 HSL4 HQ3 HR3 HF3 HB3;have hpr:=zf8 (zbG l name) ⟨nto,f.t,f.k⟩;generalize putL (zbG l name) ⟨nto,f.t,f.k⟩=pl at *;generalize putN (zbG l name) ⟨nto,f.t,f.k⟩=pn at *;obtain ⟨x0,x1,_,_,xl,_⟩:=HQ5.out
       go_wp2_with fail
       refine (zf4 t a5 cap5 pl pn _ (by omega) hpr a l.length cap HS5.out).mono ?_;rintro e w6 ⟨a6,cap6,rfl,hs6,hb⟩;rw [← HRR.out];rw [← HRR.out] at hs6;have s6:=HR5.out.below hb HR5.out.lt;have HB6:Hid (Below w.heap.size w w6):=HB5.out.trans (hb.mono HB5.out.size);have HS6:Hid (zad w6 a6 cap6 r.l):=hs6;clear hb hs6;obtain ⟨y0,y1,yf0,yf1,yl,yo⟩:=s6;have HYO:Hid (∀ o,2≤o→w6.cell? ⟨w.heap.size+1,o,none⟩=none):=yo;clear yo;go_wp2;refine bodyPost_ret (v:=.tuple #[.agg #[.slice a6 r.l.length cap6,.int .i64 r.t],.int .i64 r.n]) (by simp [results,Tryz.results70,go_sem,y0,y1,yl]) rfl ⟨a6,cap6,rfl,?_,?_⟩
       · exact HS6.out.store2 HYO.out _ _
       · exact (HB6.out.setCell (Nat.le_succ _) _).setCell (Nat.le_succ _) _
   · have HRR:Hid (r=⟨[],0,zbq nto.data.toList⟩):=by show _=_;rw [← HRN.out];simp [zax,HGF.out,hto,zd0]
     have hnp:0<zbq nto.data.toList:=by omega
     have hn9:zbq nto.data.toList≤100:=by omega
     clear hto hnr;generalize zbq nto.data.toList=nf at *;go_wp2;rw [HRR.out];refine bodyPost_ret (v:=.tuple #[.agg #[.slice none 0 0,.int .i64 0],.int .i64 nf]) (by simp [results,Tryz.results70,go_sem,y0,y1,yl]) rfl ⟨none,0,rfl,zad.nil _,?_⟩
     repeat (first | exact HB1.out | refine Below.setCell ?_ (Nat.le_succ _) _ | refine Below.alloc ?_ (by simp;have:=HB1.out.size;omega) _)
theorem zu0:∀ {l m:List Fi},l.Pairwise (fun a b=>ltB a.n b.n=true)→m.Pairwise (fun a b=>ltB a.n b.n=true)→(∀ x,x ∈ l↔x ∈ m)→l=m
 | [],[],_,_,_=>rfl
 | [],b :: m,_,_,h=>absurd ((h b).2 (by simp)) (by simp)
 | a :: l,[],_,_,h=>absurd ((h a).1 (by simp)) (by simp)
 | a :: l,b :: m,hl,hm,h=>by
   rw [List.pairwise_cons] at hl hm
   have hab:a=b:=by
    have h1:=(h a).1 (by simp);have h2:=(h b).2 (by simp);simp only [List.mem_cons] at h1 h2;rcases h1 with h1 | h1
    · exact h1
    · rcases h2 with h2 | h2
      · exact h2.symm
      · have:=zi3 (hm.1 a h1)
        rw [hl.1 b h2] at this
        exact absurd this (by simp)
   subst hab
   have hna:∀ x,x ∈ l→x≠a:=by
    intro x hx e;subst e;have:=hl.1 x hx;rw [zaB] at this
    exact absurd this (by simp)
   have hnb:∀ x,x ∈ m→x≠a:=by
    intro x hx e;subst e;have:=hm.1 x hx;rw [zaB] at this
    exact absurd this (by simp)
   have ht:l=m:=zu0 hl.2 hm.2 (fun x=>by
    constructor
    · intro hx
      have:=(h x).1 (by simp [hx]);simp only [List.mem_cons] at this
      rcases this with e | e
      · exact absurd e (hna x hx)
      · exact e
    · intro hx
      have:=(h x).2 (by simp [hx]);simp only [List.mem_cons] at this
      rcases this with e | e
      · exact absurd e (hnb x hx)
      · exact e)
   rw [ht]
theorem Good.uniq (h:Good l){f g:Fi}(hf:f ∈ l)(hg:g ∈ l)(e:f.n=g.n):f=g:=by
 obtain ⟨i,hi,rfl⟩:=List.getElem_of_mem hf;obtain ⟨j,hj,rfl⟩:=List.getElem_of_mem hg;rcases Nat.lt_trichotomy i j with h1 | h1 | h1
 · have:=h.lt h1 hj;rw [e,zaB] at this;exact absurd this (by simp)
 · subst h1;rfl
 · have:=h.lt h1 hi;rw [e,zaB] at this;exact absurd this (by simp)
theorem Good.get_iff (h:Good l){f:Fi}:getF l name=some f↔f ∈ l∧f.n=name:=by
 constructor
 · exact zbh
 · rintro ⟨hf,hn⟩
   cases hg:getF l name with
   | none =>
     unfold getF at hg;rw [List.find?_eq_none] at hg;exact absurd (zbE hn) (by simpa using hg f hf)
   | some g =>
     obtain ⟨hg1,hg2⟩:=zbh hg;rw [h.uniq hf hg1 (hn.trans hg2.symm)]
theorem zpf:getF l name=none↔∀ f ∈ l,¬ f.n=name:=by
 unfold getF;rw [List.find?_eq_none]
 constructor
 · intro h f hf e
   exact absurd (zbE e) (by simpa using h f hf)
 · intro h f hf
   simp [zaS (h f hf)]
theorem Good.split (hg:Good l) (name:ByteArray) (x:Fi):(x ∈ l.take (posF l name)∨x ∈ l.drop (if hasF l name=true then posF l name+1 else posF l name))↔(x ∈ l∧¬ x.n=name):=by
 have hp:=zgR l name
 constructor
 · rintro (h | h)
   · refine ⟨List.mem_of_mem_take h,?_⟩
     obtain ⟨i,hi,rfl⟩:=List.getElem_of_mem h;simp only [List.length_take] at hi;rw [List.getElem_take];exact hg.other (by omega) (by omega)
   · refine ⟨List.mem_of_mem_drop h,?_⟩
     cases hh:hasF l name
     · simp only [hh,Bool.false_eq_true,if_false] at h
       obtain ⟨i,hi,rfl⟩:=List.getElem_of_mem h;simp only [List.length_drop] at hi;rw [List.getElem_drop]
       by_cases h0:i=0
       · subst h0;exact zlx hh (by omega)
       · exact hg.other (by omega) (by omega)
     · simp only [hh,if_true] at h
       obtain ⟨i,hi,rfl⟩:=List.getElem_of_mem h;simp only [List.length_drop] at hi;rw [List.getElem_drop];exact hg.other (by omega) (by omega)
 · rintro ⟨h,hn⟩
   obtain ⟨i,hi,rfl⟩:=List.getElem_of_mem h;rcases Nat.lt_or_ge i (posF l name) with h1 | h1
   · left
     rw [List.mem_take_iff_getElem];exact ⟨i,by omega,rfl⟩
   · right
     rw [List.mem_drop_iff_getElem];cases hh:hasF l name
     · simp only [Bool.false_eq_true,if_false]
       exact ⟨i - posF l name,by omega,by congr 1;omega⟩
     · simp only [if_true]
       have hne:i≠posF l name:=by rintro rfl;exact hn (zce hh).2
       exact ⟨i - (posF l name+1),by omega,by congr 1;omega⟩
theorem zoU (hg:Good l)(f x:Fi):x ∈ putF l f↔x=f∨(x ∈ l∧¬ x.n=f.n):=by
 rw [← hg.split f.n x];unfold putF;simp only [List.mem_append,List.mem_cons]
 constructor
 · rintro (h | h | h)
   · exact .inr (.inl h)
   · exact .inl h
   · exact .inr (.inr h)
 · rintro (h | h | h)
   · exact .inr (.inl h)
   · exact .inl h
   · exact .inr (.inr h)
theorem zpr (hg:Good l)(hh:hasF l name=true)(x:Fi):x ∈ zbG l name↔x ∈ l∧¬ x.n=name:=by
 rw [← hg.split name x,hh];unfold zbG;simp only [List.mem_append,if_true]
theorem zrh (hg:Good l)(name:ByteArray):hasF l name=true↔∃ f ∈ l,f.n=name:=by
 rw [← zd9 hg]
 constructor
 · intro h
   cases hx:getF l name with
   | none=>rw [hx] at h;exact absurd h (by simp)
   | some f=>exact ⟨f,(zbh hx).1,(zbh hx).2⟩
 · rintro ⟨f,hf,hn⟩
   rw [hg.get_iff.2 ⟨hf,hn⟩];rfl
theorem zfA (hg:Good l){f:Fi}(hp:Good (putF l f)):getF (putF l f) f.n=some f :=
 hp.get_iff.2 ⟨(zoU hg f f).2 (.inl rfl),rfl⟩
theorem zbp (hg:Good l){f:Fi}(hp:Good (putF l f))(hn:¬ name=f.n):getF (putF l f) name=getF l name:=by
 cases h:getF l name with
 | none =>
   rw [zpf] at h ⊢;intro x hx;rcases (zoU hg f x).1 hx with rfl | ⟨h1,_⟩
   · exact fun e=>hn e.symm
   · exact h x h1
 | some g =>
   obtain ⟨h1,h2⟩:=zbh h;exact hp.get_iff.2 ⟨(zoU hg f g).2 (.inr ⟨h1,by rw [h2];exact hn⟩),h2⟩
theorem zgH (hg:Good l)(hh:hasF l name=true)(hn:¬ other=name):getF (zbG l name) other=getF l other:=by
 cases h:getF l other with
 | none =>
   rw [zpf] at h ⊢;intro x hx;exact h x ((zpr hg hh x).1 hx).1
 | some g =>
   obtain ⟨h1,h2⟩:=zbh h;exact (zdZ hg name).get_iff.2 ⟨(zpr hg hh g).2 ⟨h1,by rw [h2];exact hn⟩,h2⟩
end Go.Proofs.YtihnghnafpgdfadGreatDoor
