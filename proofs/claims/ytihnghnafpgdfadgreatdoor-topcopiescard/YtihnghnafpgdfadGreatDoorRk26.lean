/- What the proofs stand on, part 26: ImageNought, ImageImg, ImageKit. -/
import Derived.Deep.RegionHeld3
import Derived.Lib.SmallJoins
import Derived.Laws.OwnMore
import Derived.Test.YtihnghnafpgdfadGreatDoorRk25
import Derived.Test.YtihnghnafpgdfadGreatDoorRk01
set_option linter.unusedVariables false
set_option linter.unusedSimpArgs false
namespace Go.Proofs.YtihnghnafpgdfadGreatDoor
open Go Go.RowKit Go.BigFrame
theorem t4_length (n:Nat):(t4 n).length=4:=rfl
theorem ba_ext {a b:ByteArray}(h:a.data.toList=b.data.toList):a=b:=toList_inj (by rw [baI_toList,baI_toList];exact h)
theorem ba_data_append (a b:ByteArray):(a ++ b).data.toList=a.data.toList ++ b.data.toList:=by simp
theorem ba_extract (s:ByteArray)(a b:Nat):(s.extract a b).data.toList=(s.data.toList.drop a).take (b - a):=by
  rw [ByteArray.data_extract,Array.toList_extract,List.extract_eq_take_drop]
theorem ba_size (s:ByteArray):s.size=s.data.toList.length:=by simp
def Four (f:Fi):Prop:=∃ k:Nat,f.k=k∧k<10000
theorem frow_val {f:Fi}{k:Nat}(h:f.k=k)(hk:k<10000):(frow f).val.data.toList=t4 k ++ f.t.data.toList:=by
  unfold frow
  rw [ba_data_append,h,toldL_t4 hk]
theorem trow_val {t:Int}{k:Nat}(h:t=k)(hk:k<10000):(trow t).val.data.toList=t4 k:=by
  unfold trow
  rw [h,toldL_t4 hk]
theorem t4_inj {a b:Nat}(ha:a<10000)(hb:b<10000)(h:t4 a=t4 b):a=b:=by
  have h1:=atoi_t4 ha
  rw [h,atoi_t4 hb] at h1
  simp only [Option.some.injEq] at h1
  omega
theorem frow_inj {f g:Fi}(hf:Four f)(hg:Four g)(h:frow f=frow g):f=g:=by
  obtain ⟨a,ha,ha2⟩:=hf
  obtain ⟨b,hb,hb2⟩:=hg
  have hv:=frow_val ha ha2
  rw [h,frow_val hb hb2] at hv
  obtain ⟨e1,e2⟩:=List.append_inj hv rfl
  have hk:(frow f).key.data.toList=(frow g).key.data.toList:=by rw [h]
  unfold frow at hk
  simp only [ba_data_append] at hk
  have e3:=List.append_cancel_left hk
  exact Fi.ext' (ba_ext e3) (ba_ext e2.symm) (by rw [ha,hb,t4_inj hb2 ha2 e1])
theorem frows_inj:∀ {l m:List Fi},(∀ f ∈ l,Four f)→(∀ f ∈ m,Four f)→l.map frow=m.map frow→l=m
  | [],[],_,_,_=>rfl
  | [],_ :: _,_,_,h=>by cases h
  | _ :: _,[],_,_,h=>by cases h
  | f :: l,g :: m,hl,hm,h=>by
    simp only [List.map_cons,List.cons.injEq] at h
    rw [frow_inj (hl f (List.mem_cons_self ..)) (hm g (List.mem_cons_self ..)) h.1,frows_inj (fun x hx=>hl x (List.mem_cons_of_mem _ hx)) (fun x hx=>hm x (List.mem_cons_of_mem _ hx)) h.2]
theorem GoodQ.four {l:List Fi}{t:Int}(h:GoodQ l t):∀ f ∈ l,Four f:=fun f hf=>by
  obtain ⟨k,h1,_,h3⟩:=h.times hf
  exact ⟨k,h1,by omega⟩
theorem rowsL_inj {l m:List Fi}{t s:Int}(hl:∀ f ∈ l,Four f)(hm:∀ f ∈ m,Four f){a b:Nat}(ha:t=a)(hb:s=b)(ha2:a<10000)(hb2:b<10000)(h:rowsL l t=rowsL m s):l=m∧t=s:=by
  unfold rowsL at h
  obtain ⟨h1,h2⟩:=List.append_inj' h rfl
  refine ⟨frows_inj hl hm h1,?_⟩
  have e:trow t=trow s:=by simpa using h2
  have hv:=trow_val ha ha2
  rw [e,trow_val hb hb2] at hv
  rw [ha,hb,t4_inj hb2 ha2 hv]
theorem Img.inj {rows:List Ch}{l m:List Fi}{t s:Int}(h1:Img rows l t)(h2:Img rows m s):l=m∧t=s:=by
  obtain ⟨a,ha,_,ha2⟩:=h1.good.turn
  obtain ⟨b,hb,_,hb2⟩:=h2.good.turn
  exact rowsL_inj h1.good.four h2.good.four ha hb (by omega) (by omega) (h1.rows.symm.trans h2.rows)
def NoImg (rows:List Ch):Prop:=∀ l t,¬ Img rows l t
theorem digB_of (d:Nat)(h:d<10):digB (UInt8.ofNat (48+d))=true:=by
  unfold digB
  rw [ofNat_val d h]
  simp
  omega
theorem t4_dig (n:Nat)(hn:n<10000):∀ k (h:k<(t4 n).length),digB (t4 n)[k]=true:=by
  intro k h
  match k,h with
  | 0,_=>exact digB_of _ (by omega)
  | 1,_=>exact digB_of _ (by omega)
  | 2,_=>exact digB_of _ (by omega)
  | 3,_=>exact digB_of _ (by omega)
structure RowOk (c:Ch):Prop where
  here:c.gone=false
  long:4≤c.val.size
  key:¬ c.key.size=0
  dig:∀ k (h:k<c.val.size),k<4→digB c.val[k]=true
  kind:c.key=kturn∧c.val.size=4∨∃ r,c.key.data.toList=102 :: r
theorem ba_get (s:ByteArray)(k:Nat)(h:k<s.size):s[k]=s.data.toList[k]'(by simpa using h):=rfl
theorem val_dig {v:ByteArray}{n:Nat}{r:List UInt8}(hn:n<10000)(h:v.data.toList=t4 n ++ r):4≤v.size∧∀ k (h:k<v.size),k<4→digB v[k]=true:=by
  refine ⟨by rw [ba_size,h,List.length_append,t4_length];omega,fun k hk h4=>?_⟩
  rw [ba_get]
  simp only [h]
  rw [List.getElem_append_left (by rw [t4_length];exact h4)]
  exact t4_dig n hn k _
theorem frow_ok {f:Fi}(h:Four f):RowOk (frow f):=by
  obtain ⟨k,h1,h2⟩:=h
  obtain ⟨a,b⟩:=val_dig h2 (frow_val h1 h2)
  refine ⟨rfl,a,?_,b,.inr ⟨f.n.data.toList,?_⟩⟩
  · rw [ba_size]
    unfold frow
    simp only [ba_data_append]
    simp [kf]
  · unfold frow
    simp only [ba_data_append]
    rfl
theorem trow_ok {t:Int}{k:Nat}(h1:t=k)(h2:k<10000):RowOk (trow t):=by
  have hv:=trow_val h1 h2
  obtain ⟨a,b⟩:=val_dig (r:=[]) h2 (by rw [List.append_nil];exact hv)
  refine ⟨rfl,a,(show ¬ kturn.size=0 by decide),b,.inl ⟨rfl,?_⟩⟩
  rw [ba_size,hv,t4_length]
theorem Img.ok {rows:List Ch}{l:List Fi}{t:Int}(h:Img rows l t)(i:Nat)(hi:i<rows.length):RowOk rows[i]:=by
  by_cases hl:i<l.length
  · rw [h.f i hi hl]
    exact frow_ok (h.good.four _ (List.getElem_mem hl))
  · rw [h.t i hi hl]
    obtain ⟨k,h1,_,h3⟩:=h.good.turn
    exact trow_ok h1 (by omega)
theorem goodQ_of {l:List Fi}{t:Int}(h:quiltF l t=0):GoodQ l t:=by
  unfold quiltF at h
  by_cases hf:filesF l=0
  · rw [if_neg (by simp [hf])] at h
    by_cases ht:t<1∨9999<t
    · rw [if_pos ht] at h;exact absurd h (by decide)
    · exact ⟨good_of_zero hf,by omega,by omega⟩
  · rw [if_pos hf] at h
    exact absurd h hf
theorem quiltF_of {l:List Fi}{t:Int}(h:GoodQ l t):quiltF l t=0:=by
  unfold quiltF
  have:=h.low
  have:=h.high
  rw [if_neg (by simp [zero_of_good h.files]),if_neg (by omega)]
theorem rowI_shape {w:World}{base:Nat}{e:TypeId}{size:Nat}{v:Value}{n:Nat}{xs:List Value}(h:w.ownsRow base e size v n xs):∃ a c,v=.slice a n c:=by
  rcases h.2 with ⟨e1,h0⟩ | ⟨g,cap,cur,e1,_⟩
  · exact ⟨none,0,by rw [e1,h0]⟩
  · exact ⟨_,_,e1⟩
theorem rowI_far {w w':World}{B:Nat}{e:TypeId}{size:Nat}{v:Value}{n:Nat}{xs:List Value}(h:w.ownsRow B e size v n xs)(hb:Below w.heap.size w w'):w'.ownsRow B e size v n xs:=by
  refine ⟨h.1,?_⟩
  rcases h.2 with h0 | ⟨g,cap,cur,e1,hg,h1,h2⟩
  · exact .inl h0
  · exact .inr ⟨g,cap,cur,e1,hg,by rw [hb.block g (Array.getElem?_eq_some_iff.1 h1).1];exact h1,h2⟩
theorem OwnsC.far {w w':World}{B:Nat}{v:Value}{l:List Ch}(h:OwnsC w B v l)(hb:Below w.heap.size w w'):OwnsC w' B v l:=rowI_far h hb
theorem var_later {P:Program}{W W':World}{n:String}{cs:Array Value}(h:W.var? P n=some cs)(hb:Below W.heap.size W W'):W'.var? P n=some cs:=by
  cases hg:P.globalNamed n with
  | none=>unfold World.var? at h;rw [hg] at h;cases h
  | some g=>exact Go.Joins.var_stays hg h hb (Nat.le_refl _)
def Vars (w:World):Prop:=Lib.TabIs Tryz.prog w "internal/strconv.uint64pow10" .u64 Lib.pow10Tab∧∃ tp p,w.var? Tryz.prog "strconv.ErrSyntax"=some #[.iface tp p]
theorem Vars.below {w w':World}(h:Vars w)(hb:Below w.heap.size w w'):Vars w':=by
  obtain ⟨h1,tp,p,h2⟩:=h
  exact ⟨var_later h1 hb,tp,p,var_later h2 hb⟩
theorem OwnsC.lit (w:World)(B:Nat)(c:Ch)(hb:B≤w.heap.size):OwnsC (w.alloc (.cells #[.string c.key,.string c.val,.bool c.gone] 143)) B (.slice (some ⟨w.heap.size,0,none⟩) 1 1) [c] :=
  World.ownsRow_lit w #[.string c.key,.string c.val,.bool c.gone] 1 hb (by unfold maxLen;omega) rfl
end Go.Proofs.YtihnghnafpgdfadGreatDoor
