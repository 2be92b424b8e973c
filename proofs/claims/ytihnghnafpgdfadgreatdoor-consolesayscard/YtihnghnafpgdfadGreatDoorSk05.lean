/- What the proofs stand on, part 5: ActsBase, RowParse. -/
import Derived.Laws.IdiomStrings
import Derived.Shelf.SlSortCmp.KitK
import Derived.Test.YtihnghnafpgdfadGreatDoorSk01
import Derived.Test.YtihnghnafpgdfadGreatDoorSk04
import Derived.Test.YtihnghnafpgdfadGreatDoorSk02
set_option linter.unusedVariables false
set_option linter.unusedSimpArgs false
set_option maxRecDepth 100000
set_option maxHeartbeats 1000000
namespace Go.Proofs.YtihnghnafpgdfadGreatDoor
open Go.RowKit
variable {W w w':World}{a:Option Addr}{B B' b cap i off:Nat}{s:ByteArray}
structure Ch where
 key:ByteArray
 val:ByteArray
 gone:Bool
structure Ac where
 kind:ByteArray
 s:ByteArray
 t:ByteArray
 n:Int
 k:Int
 ca:Option Addr
 cc:Nat
 cl:List Ch
def CC (w:World)(a:Option Addr)(l:List Ch):Prop :=
 ∀ i (h:i<l.length),∃ b off,a=some ⟨b,off,none⟩∧w.cell? ⟨b,off+i * 3,none⟩=some (.string l[i].key)∧w.cell? ⟨b,off+i * 3+1,none⟩=some (.string l[i].val)∧w.cell? ⟨b,off+i * 3+2,none⟩=some (.bool l[i].gone)
theorem CC.below {l:List Ch}(h:CC w a l)(hb:Below w.heap.size w w'):CC w' a l:=by
 intro i hi;obtain ⟨b,off,rfl,c0,c1,c2⟩:=h i hi;exact ⟨b,off,rfl,by rw [hb.cell (World.block_lt_of_cell? _ _ c0)];exact c0,by rw [hb.cell (World.block_lt_of_cell? _ _ c1)];exact c1,by rw [hb.cell (World.block_lt_of_cell? _ _ c2)];exact c2⟩
theorem CC.drewN {l:List Ch}(h:CC w a l)(q:Nat):CC (w.drewN q) a l:=by
 intro i hi
 simpa using h i hi
theorem CC.nil (w:World)(a:Option Addr):CC w a []:=fun i h=>absurd h (Nat.not_lt_zero _)
structure zdk (w:World)(a:Option Addr)(cap:Nat)(l:List Ch):Prop where
 cells:CC w a l
 nil:a=none→cap=0
theorem zdk.below {l:List Ch}(h:zdk w a cap l)(hb:Below w.heap.size w w'):zdk w' a cap l:=⟨h.cells.below hb,h.nil⟩
theorem Tryz.infoChange:(Tryz.prog.info? 143).map (fun i=>(i.zero,i.size,i.bytes))=some (some (.agg #[.string ⟨#[]⟩,.string ⟨#[]⟩,.bool false]),3,40):=by kernel_rfl
def flatC:List Ch→List Value
 | []=>[]
 | f :: r=>.string f.key :: .string f.val :: .bool f.gone :: flatC r
theorem zeq:∀ l:List Ch,(flatC l).length=l.length * 3
 | []=>rfl
 | f :: r=>by simp only [flatC,List.length_cons,zeq r];omega
theorem zet:∀ l m:List Ch,flatC (l ++ m)=flatC l ++ flatC m
 | [],m=>rfl
 | f :: r,m=>by simp only [List.cons_append,flatC,zet r m]
theorem zke:∀ l:List Ch,∀ u ∈ flatC l,u.oneCell'=true
 | [],u,h=>by simp [flatC] at h
 | f :: r,u,h=>by
   simp only [flatC,List.mem_cons] at h;rcases h with rfl | rfl | rfl | h
   · rfl
   · rfl
   · rfl
   · exact zke r u h
theorem ziJ:∀ (l:List Ch) (i:Nat) (h:i<l.length),(flatC l)[i * 3]?=some (.string l[i].key)∧(flatC l)[i * 3+1]?=some (.string l[i].val)∧(flatC l)[i * 3+2]?=some (.bool l[i].gone)
 | f :: r,0,h=>by simp [flatC]
 | f :: r,i+1,h=>by
   have ih:=ziJ r i (by simpa using h);simp only [flatC,List.getElem_cons_succ];rw [show (i+1) * 3=i * 3+1+1+1 by omega]
   simpa [Nat.add_assoc] using ih
theorem CC.flatC {l:List Ch}(h:CC w (some ⟨b,off,none⟩) l):∀ j u,(flatC l)[j]?=some u→w.cell? ((⟨b,off,none⟩:Addr).add j)=some u:=by
 intro j u hu
 have hj:j<(Go.Proofs.YtihnghnafpgdfadGreatDoor.flatC l).length:=by
  rcases Nat.lt_or_ge j (Go.Proofs.YtihnghnafpgdfadGreatDoor.flatC l).length with h1 | h1
  · exact h1
  · rw [List.getElem?_eq_none h1] at hu;exact absurd hu (by simp)
 rw [zeq] at hj;obtain ⟨b',off',e,c0,c1,c2⟩:=h (j / 3) (by omega);cases e;obtain ⟨f0,f1,f2⟩:=ziJ l (j / 3) (by omega);have hadd:(⟨b,off,none⟩:Addr).add j=⟨b,off+j,none⟩:=by unfold Addr.add;split <;> simp_all
 rw [hadd];have h3:j=j / 3 * 3∨j=j / 3 * 3+1∨j=j / 3 * 3+2:=by omega
 rcases h3 with h3 | h3 | h3
 · rw [h3,f0] at hu
   rw [h3,← hu];exact c0
 · rw [h3,f1] at hu
   rw [h3,← hu,← Nat.add_assoc];exact c1
 · rw [h3,f2] at hu
   rw [h3,← hu,← Nat.add_assoc];exact c2
abbrev zan (w:World)(base:Nat)(v:Value)(l:List Ch):Prop:=w.ownsRow base 143 3 v l.length (flatC l)
theorem zan.files {base:Nat}{v:Value}{l:List Ch}(h:zan w base v l):∃ a cap,v=.slice a l.length cap∧CC w a l∧(a=none→cap=0)∧cap≤maxLen∧l.length≤cap∧(∀ x,a=some x→base≤x.block∧x.off=0∧x.spot=none):=by
 rcases h.2 with ⟨rfl,h0⟩ | ⟨g,cap,cur,rfl,hb,hg,hn,hm,hs,ht⟩
 · have e:l=[]:=List.eq_nil_of_length_eq_zero h0
   subst e;exact ⟨none,0,rfl,CC.nil _ _,fun _=>rfl,Nat.zero_le _,Nat.le_refl _,fun x hx=>by cases hx⟩
 · refine ⟨some ⟨g,0,none⟩,cap,rfl,?_,(fun h=>by cases h),hm,hn,(fun x hx=>by cases hx;exact ⟨hb,rfl,rfl⟩)⟩
   intro i hi;obtain ⟨f0,f1,f2⟩:=ziJ l i hi;refine ⟨g,0,rfl,?_,?_,?_⟩
   · rw [h.cellAt (0+i * 3) (by omega),Nat.zero_add];exact f0
   · rw [h.cellAt (0+i * 3+1) (by omega),Nat.zero_add];exact f1
   · rw [h.cellAt (0+i * 3+2) (by omega),Nat.zero_add];exact f2
theorem zrI (n:Nat)(w:World)(hn:n≤1000) :
 Calls Tryz.prog 168 #[.slice none 0 0,.int .i64 n] w fun e w'=>∃ v,e=.returned v∧zan w' w.heap.size v []∧Below w.heap.size w w':=by
 by_cases h0:n=0
 · subst h0
   go_enter Tryz.func168,Tryz.ntmps168
   go_wp2;go_ret;exact ⟨_,rfl,World.ownsRow_nil _ _ _ _,Below.refl _ _⟩
 · obtain ⟨i0,hi,hz0,hz1,hz2⟩:=info_parts Tryz.infoChange
   have hpos:(0:Int)<(n:Int):=by omega
   have hby:Tryz.t143.bytes=40:=by kernel_rfl
   have hns:Builtin.nextslicecap n 0=n:=nextslicecap_zero (by omega);have hge:=grownCap_ge w n 0 143;have hle:=grownCap_le_maxLen w n 0 143 (by unfold maxLen;omega);have HGE:Hid (n≤grownCap w n 0 143):=hge;have HLE:Hid (grownCap w n 0 143≤maxLen):=hle;clear hge hle
   go_enter Tryz.func168,Tryz.ntmps168
   go_wp2;go_ret;refine ⟨_,rfl,?_,(Below.refl _ _).drew.alloc (Nat.le_refl _) _⟩;refine World.ownsRow_made w.drew _ _ (Nat.le_refl _) HLE.out ?_;have h1:=HGE.out;simp only [grownCap] at h1;simp [zkY];omega
structure zcn where
 a:Option Addr
 cap:Nat
 l:List Ch
def zcn.v (p:zcn):Value:=.slice p.a p.l.length p.cap
def zcS (P:List zcn):List Ch:=P.flatMap (fun p=>p.l)
def zkV (w:World)(B:Nat)(P:List zcn):Prop :=
 ∀ i (h:i<P.length),w.cell? ⟨B,i,none⟩=some (.slice P[i].a P[i].l.length P[i].cap)∧CC w P[i].a P[i].l∧(P[i].a=none→P[i].cap=0)∧(∀ x,P[i].a=some x→P[i].l=[]∨x.spot=none)
theorem zkV.below {P:List zcn}(h:zkV w B P)(hb:Below w.heap.size w w'):zkV w' B P:=by
 intro i hi;obtain ⟨h1,h2,h3,h4⟩:=h i hi;exact ⟨by rw [hb.cell (World.block_lt_of_cell? _ _ h1)];exact h1,h2.below hb,h3,h4⟩
def zeX:List zcn→Nat
 | []=>0
 | p :: r=>p.l.length+zeX r
theorem zh2:∀ (P:List zcn) (k:Nat) (h:k<P.length),zeX (P.take (k+1))=zeX (P.take k)+P[k].l.length
 | p :: r,0,h=>by simp [zeX]
 | p :: r,k+1,h=>by
   have:=zh2 r k (by simpa using h);simp only [List.take_succ_cons,zeX,List.getElem_cons_succ,this];omega
theorem zhG:∀ (P:List zcn) (k:Nat),zeX (P.take k)≤zeX P
 | [],k=>by simp [zeX]
 | p :: r,0=>by simp [zeX]
 | p :: r,k+1=>by
   have:=zhG r k;simp only [List.take_succ_cons,zeX];omega
theorem zgz:∀ P:List zcn,(zcS P).length=zeX P
 | []=>rfl
 | p :: r=>by
   have:=zgz r;simp only [zcS,List.flatMap_cons,List.length_append,zeX] at *;omega
theorem zmO (P:List zcn)(k:Nat)(h:k<P.length):zcS (P.take (k+1))=zcS (P.take k) ++ P[k].l:=by
 unfold zcS;rw [zb8 P k h,List.flatMap_append];simp only [List.flatMap_cons,List.flatMap_nil,List.append_nil]
theorem zon (B m:Nat) (P:List zcn) (w:World) (hm:P.length=m) (hfew:P.length≤10) (hlen:zeX P≤1000) (hp:zkV w B P) :
 Calls Tryz.prog 129 #[.slice (some ⟨B,0,none⟩) m m] w fun e w'=>∃ v,e=.returned v∧zan w' w.heap.size v (zcS P)∧Below w.heap.size w w':=by
 obtain ⟨i0,hi,hz0,hz1,hz2⟩:=info_parts Tryz.infoChange;have HP:Hid (zkV w B P):=hp;clear hp;subst hm
 go_enter Tryz.func129,Tryz.ntmps129
 go_wp2_with fail
 go_loop [3,11] (fun s i=>∃ k:Nat,k≤P.length∧i=.int .i64 k∧s=.int .i64 (zeX (P.take k))) (fun _ i=>P.length - (intOf i).toNat)
 case atStart=>exact ⟨0,Nat.zero_le _,rfl,rfl⟩
 case round =>
  obtain ⟨k,hk,rfl,rfl⟩:=hrel;have hl1:=zhG P k
  by_cases hlt:k<P.length
  · obtain ⟨c0,_,_,_⟩:=HP.out k hlt
    have hl2:=zhG P (k+1);have hsn:=zh2 P k hlt;have HSN:Hid (zeX (P.take (k+1))=zeX (P.take k)+P[k].l.length):=hsn;have hl3:zeX (P.take k)+P[k].l.length≤1000:=by omega
    clear hsn hl2;go_wp2;exact ⟨⟨k+1,by omega,by go_num,by rw [HSN.out];go_num⟩,by simp [intOf];omega⟩
  · go_wp2_with fail
    refine (zrI (zeX (P.take k)) w (by omega)).mono ?_;rintro e w1 ⟨v,rfl,hown,hb⟩;have X:Aside (zan w1 w.heap.size v []∧Below w.heap.size w w1):=⟨hown,hb⟩;clear hown hb
    go_wp2_with fail
    go_loopw [6,27] (fun v i wr=>∃ j:Nat,j≤P.length∧i=.int .i64 j∧zan wr w.heap.size v (zcS (P.take j))∧Below w.heap.size w wr) (fun _ i _=>P.length - (intOf i).toNat)
    case atStart=>exact ⟨0,Nat.zero_le _,rfl,X.out.1,X.out.2⟩
    case round =>
     obtain ⟨j,hj,rfl,hown,hb⟩:=hrel;have HB:Hid (Below w.heap.size w wr):=hb;have hsz:=hb.size;clear hb;have hjl:(zcS (P.take j)).length≤1000:=by rw [zgz];have:=zhG P j;omega
     by_cases hltj:j<P.length
     · obtain ⟨c0,hcl,hnone,hspot⟩:=HP.out.below HB.out j hltj
       have hjs:=zmO P j hltj;have HJS:Hid (zcS (P.take (j+1))=zcS (P.take j) ++ P[j].l):=hjs;have hl2:P[j].l.length≤1000:=by have h1:=zh2 P j hltj;have h2:=zhG P (j+1);omega
       clear hjs;generalize P[j].a=pa at *;generalize P[j].cap=pc at *;generalize P[j].l=pl at *;cases pa with
       | none =>
         have e:pl=[]:=by
          cases pl with
          | nil=>rfl
          | cons f r=>obtain ⟨_,_,e,_⟩:=hcl 0 (by simp);cases e
         subst e;have e:=hnone rfl;subst e;clear hcl hnone hspot;have HOWN:Hid (zan wr w.heap.size u6 (zcS (P.take j))):=hown;clear hown
         go_wp2_with (at_builtin;refine wpList_append_own_none rfl _ _ 64 rfl w.heap.size 143 i0 3 Tryz.underlying64 hi _ _ _ rfl HOWN.out rfl ?_)
         refine ⟨⟨j+1,by omega,by go_num,?_,HB.out⟩,by simp [intOf];omega⟩;rw [HJS.out,List.append_nil];exact HOWN.out
       | some x =>
         have hcells:∀ q u,(flatC pl)[q]?=some u→wr.cell? (x.add q)=some u:=by
          rcases hspot x rfl with rfl | hsp
          · intro q u hu;simp [flatC] at hu
          · obtain ⟨xb,xo,xs⟩:=x
            simp at hsp;subst hsp;exact hcl.flatC
         have HCL:Hid (∀ q u,(flatC pl)[q]?=some u→wr.cell? (x.add q)=some u):=hcells;clear hcells hcl hnone hspot;have HOWN:Hid (zan wr w.heap.size u6 (zcS (P.take j))):=hown;clear hown
         go_wp2_with (at_builtin;refine (wpList_append_own _ rfl _ _ 64 rfl w.heap.size 143 i0 _ 3 40 Tryz.underlying64 hi hz0 hz1 hz2 rfl (by decide) _ _ _ rfl HOWN.out x pl.length pc (flatC pl) rfl (zeq _) HCL.out (zke _) (by unfold maxLen;omega) (by omega) (by omega) ?_);intro v' w3 hown' hgrow3 hnil3)
         refine ⟨⟨j+1,by omega,by go_num,?_,?_⟩,by simp [intOf];omega⟩
         · rw [HJS.out]
           show World.ownsRow _ _ _ _ _ _ _;rw [zet,List.length_append];exact hown'
         · exact HB.out.grown hgrow3 hsz (fun q hq=>(HOWN.out.lt q hq).1)
     · go_wp2
       go_ret;rw [zft P j (by omega)] at hown;exact ⟨_,rfl,hown,HB.out⟩
structure zsh (w:World)(p:zcn):Prop where
 cells:CC w p.a p.l
 nil:p.a=none→p.cap=0
 spot:∀ x,p.a=some x→p.l=[]∨x.spot=none
theorem CC.spot {l:List Ch}(h:CC w a l):∀ x,a=some x→l=[]∨x.spot=none:=by
 intro x hx;cases l with
 | nil=>exact .inl rfl
 | cons f r =>
   obtain ⟨b,off,e,_⟩:=h 0 (by simp);rw [hx] at e;cases e;exact .inr rfl
theorem ztW {p q:zcn}(c0:W.cell? ⟨B,0,none⟩=some p.v)(c1:W.cell? ⟨B,1,none⟩=some q.v)(hp:zsh W p)(hq:zsh W q):zkV W B [p,q]:=by
 intro i hi;have h:i=0∨i=1:=by simp at hi;omega
 rcases h with rfl | rfl
 · exact ⟨c0,hp.cells,hp.nil,hp.spot⟩
 · exact ⟨c1,hq.cells,hq.nil,hq.spot⟩
theorem zan.base {v:Value}{l:List Ch}(h:zan w B v l)(hb:B'≤B):zan w B' v l:=by
 refine ⟨h.1,?_⟩;rcases h.2 with h0 | ⟨g,cap,cur,e,hg,rest⟩
 · exact .inl h0
 · exact .inr ⟨g,cap,cur,e,by omega,rest⟩
theorem zc8 (f:Ch):∀ u ∈ [Value.string f.key,.string f.val,.bool f.gone],u.oneCell'=true:=by
 intro u hu;simp at hu;rcases hu with rfl | rfl | rfl <;> rfl
theorem zan.snoc {v:Value}{l:List Ch}{f:Ch}(h:w.ownsRow B 143 3 v (l.length+1) (flatC l ++ [.string f.key,.string f.val,.bool f.gone])):zan w B v (l ++ [f]):=by
 show World.ownsRow _ _ _ _ _ _ _;rw [zet,List.length_append];exact h
theorem zan.drewN {v:Value}{l:List Ch}(h:zan w B v l)(n:Nat):zan (w.drewN n) B v l:=h
theorem zp1 (a:Option Addr) (cap:Nat) (l:List Ch) (w:World) (hl:l.length≤100) (hs:zdk w a cap l) :
 Calls Tryz.prog 96 #[.slice a l.length cap] w fun e w'=>∃ v,e=.returned v∧zan w' w.heap.size v l∧Below w.heap.size w w':=by
 obtain ⟨i0,hi,hz0,hz1,hz2⟩:=info_parts Tryz.infoChange;have HS:Hid (zdk w a cap l):=hs;clear hs;cases a with
 | none =>
   have e:l=[]:=by
    cases l with
    | nil=>rfl
    | cons g r=>obtain ⟨_,_,e,_⟩:=HS.out.cells 0 (by simp);cases e
   subst e;have e:=HS.out.nil rfl;subst e;have hnil:=fun w=>Lib.run_eql_slice_nil (P:=Tryz.prog) w 64 143 none 0 0 0 0 Tryz.underlying64
   go_enter Tryz.func96,Tryz.ntmps96
   go_wp2;go_ret;exact ⟨_,rfl,World.ownsRow_nil _ _ _ _,Below.refl _ _⟩
 | some x =>
   have hcells:∀ (W:World),Below w.heap.size w W→∀ q u,(flatC l)[q]?=some u→W.cell? (x.add q)=some u:=by
    intro W hb;have hcl:=HS.out.cells.below hb;rcases hcl.spot x rfl with rfl | hsp
    · intro q u hu;simp [flatC] at hu
    · obtain ⟨xb,xo,xs⟩:=x
      simp at hsp;subst hsp;exact hcl.flatC
   have HCL:Hid (∀ (W:World),Below w.heap.size w W→∀ q u,(flatC l)[q]?=some u→W.cell? (x.add q)=some u):=hcells;clear hcells;have HOWN:Hid (zan (w.alloc (.cells #[] 143)) w.heap.size (.slice (some ⟨w.heap.size,0,none⟩) 0 0) []):=World.ownsRow_made _ _ _ (Nat.le_refl _) (Nat.zero_le _) rfl;have hnil:=fun w=>Lib.run_eql_slice_nil (P:=Tryz.prog) w 64 143 (some x) l.length cap 0 0 Tryz.underlying64
   go_enter Tryz.func96,Tryz.ntmps96
   go_wp2_with (at_builtin;refine wpList_append_own _ rfl _ _ 64 rfl w.heap.size 143 i0 _ 3 40 Tryz.underlying64 hi hz0 hz1 hz2 rfl (by decide) _ _ _ rfl HOWN.out x l.length cap (flatC l) rfl (zeq _) (HCL.out _ ((Below.refl _ _).alloc (Nat.le_refl _) _)) (zke _) (by unfold maxLen;simp;omega) (by simp;omega) (by simp) ?_;intro v' w3 hown' hgrow3 hnil3)
   go_ret;refine ⟨_,rfl,?_,?_⟩
   · show World.ownsRow _ _ _ _ _ _ _
     simpa [flatC] using hown'
   · exact ((Below.refl _ _).alloc (Nat.le_refl _) _).grown hgrow3 (by simp) (fun q hq=>(HOWN.out.lt q hq).1)
abbrev Ch.v (c:Ch):Value:=.agg #[.string c.key,.string c.val,.bool c.gone]
def zae (c:Ch):Int:=if c.key.size=0∨c.gone=true∧¬ c.val.size=0 then 3 else if 8<c.key.size∨16<c.val.size then 2 else 0
theorem zhH (h:s.size=0):s=⟨#[]⟩:=by
 have:s.data=#[]:=Array.eq_empty_of_size_eq_zero h;cases s;simp_all
theorem zmu {c:Ch}(h:c.key.size=0∨c.gone=true∧¬ c.val.size=0):zae c=3:=by unfold zae;rw [if_pos h]
theorem zjy {c:Ch}(h1:¬ c.key.size=0)(h2:¬ (c.gone=true∧¬ c.val.size=0))(h3:8<c.key.size∨16<c.val.size):zae c=2:=by
 unfold zae;rw [if_neg (by rintro (h | h);exact h1 h;exact h2 h),if_pos h3]
theorem zng {c:Ch}(h1:¬ c.key.size=0)(h2:¬ (c.gone=true∧¬ c.val.size=0))(h3:¬ 8<c.key.size)(h4:¬ 16<c.val.size):zae c=0:=by
 unfold zae;rw [if_neg (by rintro (h | h);exact h1 h;exact h2 h),if_neg (by omega)]
theorem zeh {c:Ch}(h:zae c=0):¬ c.key.size=0∧(c.gone=true→c.val.size=0)∧c.key.size≤8∧c.val.size≤16:=by
 unfold zae at h
 split at h
 · omega
 · split at h
   · omega
   · rename_i h1 h2
     refine ⟨fun e=>h1 (.inl e),fun e=>?_,by omega,by omega⟩
     by_cases e2:c.val.size=0
     · exact e2
     · exact absurd (.inr ⟨e,e2⟩) h1
theorem zdr (c:Ch) (w:World) :
 Calls Tryz.prog 109 #[c.v] w fun e w'=>e=.returned (errV (zae c))∧Below w.heap.size w w':=by
 obtain ⟨key,val,gone⟩:=c
 by_cases k0:key.size=0
 · have HF:Hid (zae ⟨key,val,gone⟩=3):=zmu (.inl k0)
   have e0:=zhH k0;subst e0
   go_enter Tryz.func109,Tryz.ntmps109
   go_wp2;go_ret;exact ⟨by rw [HF.out];rfl,by repeat (first | exact Below.refl _ _ | refine Below.drew ?_ | refine Below.alloc ?_ (by simp) _)⟩
 · have hne:key.toList.isEmpty=false:=zdD key k0
   by_cases v0:val.size=0
   · have e0:=zhH v0
     by_cases k8:8<key.size
     · have HF:Hid (zae ⟨key,val,gone⟩=2):=zjy k0 (fun h=>h.2 v0) (.inl k8)
       subst e0;cases gone
       all_goals
        go_enter Tryz.func109,Tryz.ntmps109
        go_wp2;go_ret;exact ⟨by rw [HF.out];rfl,by repeat (first | exact Below.refl _ _ | refine Below.drew ?_ | refine Below.alloc ?_ (by simp) _)⟩
     · have HF:Hid (zae ⟨key,val,gone⟩=0):=zng k0 (fun h=>h.2 v0) k8 (by show ¬ 16<val.size;omega)
       subst e0;cases gone
       all_goals
        go_enter Tryz.func109,Tryz.ntmps109
        go_wp2;go_ret;exact ⟨by rw [HF.out];rfl,by repeat (first | exact Below.refl _ _ | refine Below.drew ?_ | refine Below.alloc ?_ (by simp) _)⟩
   · have hnv:val.toList.isEmpty=false:=zdD val v0
     cases gone
     · by_cases k8:8<key.size
       · have HF:Hid (zae ⟨key,val,false⟩=2):=zjy k0 (fun h=>by cases h.1) (.inl k8)
         go_enter Tryz.func109,Tryz.ntmps109
         go_wp2;go_ret;exact ⟨by rw [HF.out];rfl,by repeat (first | exact Below.refl _ _ | refine Below.drew ?_ | refine Below.alloc ?_ (by simp) _)⟩
       · by_cases v16:16<val.size
         · have HF:Hid (zae ⟨key,val,false⟩=2):=zjy k0 (fun h=>by cases h.1) (.inr v16)
           go_enter Tryz.func109,Tryz.ntmps109
           go_wp2;go_ret;exact ⟨by rw [HF.out];rfl,by repeat (first | exact Below.refl _ _ | refine Below.drew ?_ | refine Below.alloc ?_ (by simp) _)⟩
         · have HF:Hid (zae ⟨key,val,false⟩=0):=zng k0 (fun h=>by cases h.1) k8 v16
           go_enter Tryz.func109,Tryz.ntmps109
           go_wp2;go_ret;exact ⟨by rw [HF.out];rfl,by repeat (first | exact Below.refl _ _ | refine Below.drew ?_ | refine Below.alloc ?_ (by simp) _)⟩
     · have HF:Hid (zae ⟨key,val,true⟩=3):=zmu (.inr ⟨rfl,v0⟩)
       go_enter Tryz.func109,Tryz.ntmps109
       go_wp2;go_ret;exact ⟨by rw [HF.out];rfl,by repeat (first | exact Below.refl _ _ | refine Below.drew ?_ | refine Below.alloc ?_ (by simp) _)⟩
def zoC (c:Ch):UInt8:=if c.gone=true then 1 else 0
def zaM (c:Ch):List UInt8:=zoC c :: UInt8.ofNat c.key.size :: (c.key.toList ++ c.val.toList)
theorem zmB (w:World)(n:Nat)(b:UInt8)(bi:Int)(hb:bi=(b.toNat:Int))(hn:n<256)(T:TypeId):∀ j (hj:j < [b,UInt8.ofNat n].length),(w.alloc (Obj.cells #[.int .u8 bi,.int .u8 n] T)).cell? ((⟨w.heap.size,0,none⟩:Addr).add j)=some (.int .u8 ([b,UInt8.ofNat n][j].toNat:Int)):=by
 intro j hj
 match j,hj with
 | 0,_=>subst hb;simp [Addr.add]
 | 1,_ =>
   have:(UInt8.ofNat n).toNat=n:=by simp;omega
   simp [Addr.add,this]
theorem zlb (a b:UInt8)(x y:ByteArray):(⟨#[a,b]⟩:ByteArray) ++ x ++ y=⟨(a :: b :: (x.toList ++ y.toList)).toArray⟩:=by
 rw [ByteArray.toList_eq,ByteArray.toList_eq]
 apply ByteArray.ext
 simp [ByteArray.data_append]
theorem zpP {a b:ByteArray}(h:a=b)(v:Value):Ending.returned (.tuple #[.string a,v])=.returned (.tuple #[.string b,v]):=by rw [h]
theorem zio (c:Ch)(w:World) :
 Calls Tryz.prog 192 #[c.v] w fun e w'=>e=.returned (.tuple #[.string (if zae c=0 then ⟨(zaM c).toArray⟩ else ⟨#[]⟩),errV (zae c)])∧Below w.heap.size w w':=by
 by_cases hf:zae c=0
 · obtain ⟨g1,g2,g3,g4⟩:=zeh hf
   have HF:Hid (zae c=0):=hf;clear hf;cases hg:c.gone
   · have HG:Hid (c.gone=false):=hg
     have hcon:=zdr c (w.alloc (Obj.cells #[Value.string c.key,Value.string c.val,Value.bool false] 143));rw [HF.out,zac rfl,Ch.v,hg] at hcon
     go_enter Tryz.func192,Tryz.ntmps192
     go_wp2_with fail
     refine Calls.mono hcon ?_;rintro _ w1 ⟨rfl,hb⟩;have HB:Hid (Below w.heap.size w w1):=((Below.refl _ _).alloc (Nat.le_refl _) _).trans (hb.mono (by simp));have hsz:=hb.size;obtain ⟨cc,cf⟩:=zgB hb;simp only [World.size_alloc] at hsz;have c0:=cc w.heap.size 0 (by simp);have c1:=cc w.heap.size 1 (by simp);have c2:=cc w.heap.size 2 (by simp);simp at c0 c1 c2;have hcv:=run_convert_bytes_back (P:=Tryz.prog) (w1.alloc (Obj.cells #[.int .u8 0,.int .u8 c.key.size] 5)) 115 9 5 ⟨w1.heap.size,0,none⟩ 2 [0,UInt8.ofNat c.key.size] (by kernel_rfl) (by kernel_rfl) (by kernel_rfl) (zmB w1 c.key.size 0 0 rfl (by omega) 5);simp only [List.length_cons,List.length_nil] at hcv;have hlt:w.heap.size<w1.heap.size:=by omega
     clear hb hcon cc cf hg;go_wp2;go_ret2;refine ⟨?_,(HB.out.alloc HB.out.size _)⟩
     try rw [HF.out]
     try rw [if_pos rfl]
     rw [zac rfl];exact zpP (by unfold zaM zoC;rw [HG.out];exact zlb _ _ _ _) _
   · have HG:Hid (c.gone=true):=hg
     have hcon:=zdr c (w.alloc (Obj.cells #[Value.string c.key,Value.string c.val,Value.bool true] 143));rw [HF.out,zac rfl,Ch.v,hg] at hcon
     go_enter Tryz.func192,Tryz.ntmps192
     go_wp2_with fail
     refine Calls.mono hcon ?_;rintro _ w1 ⟨rfl,hb⟩;have HB:Hid (Below w.heap.size w w1):=((Below.refl _ _).alloc (Nat.le_refl _) _).trans (hb.mono (by simp));have hsz:=hb.size;obtain ⟨cc,cf⟩:=zgB hb;simp only [World.size_alloc] at hsz;have c0:=cc w.heap.size 0 (by simp);have c1:=cc w.heap.size 1 (by simp);have c2:=cc w.heap.size 2 (by simp);simp at c0 c1 c2;have hcv:=run_convert_bytes_back (P:=Tryz.prog) (w1.alloc (Obj.cells #[.int .u8 1,.int .u8 c.key.size] 5)) 115 9 5 ⟨w1.heap.size,0,none⟩ 2 [1,UInt8.ofNat c.key.size] (by kernel_rfl) (by kernel_rfl) (by kernel_rfl) (zmB w1 c.key.size 1 1 rfl (by omega) 5);simp only [List.length_cons,List.length_nil] at hcv;have hlt:w.heap.size<w1.heap.size:=by omega
     clear hb hcon cc cf hg;go_wp2;go_ret2;refine ⟨?_,(HB.out.alloc HB.out.size _)⟩
     try rw [HF.out]
     try rw [if_pos rfl]
     rw [zac rfl];exact zpP (by unfold zaM zoC;rw [HG.out];exact zlb _ _ _ _) _
 · have HF:Hid (¬ zae c=0):=hf
   have HE:Hid (errV (zae c)=.iface 90 (.int .i64 (zae c))):=zak hf;have hcon:=zdr c (w.alloc (Obj.cells #[Value.string c.key,Value.string c.val,Value.bool c.gone] 143));rw [HE.out] at hcon;clear hf
   go_enter Tryz.func192,Tryz.ntmps192
   go_wp2_with fail
   refine Calls.mono hcon ?_;rintro _ w1 ⟨rfl,hb⟩;have HB:Hid (Below w.heap.size w w1):=((Below.refl _ _).alloc (Nat.le_refl _) _).trans (hb.mono (by simp));clear hb hcon;go_wp2;go_ret2;refine ⟨?_,HB.out⟩
   first | rw [if_neg HF.out,HE.out] | rw [HE.out]
   rfl
def zbn (s:ByteArray)(i:Nat):Nat:=(s.data.toList.getD i 0).toNat
theorem zf5 (h:i<s.size):s[i].toNat=zbn s i:=by
 unfold zbn;have h':i<s.data.size:=h;rw [List.getD_eq_getElem?_getD,List.getElem?_eq_getElem (by simpa using h')];simp [ByteArray.getElem_eq_getElem_data]
theorem zfU (s:ByteArray)(i:Nat):zbn s i<256:=UInt8.toNat_lt _
def zfB (s:ByteArray):Ch:=⟨s.extract 2 (2+zbn s 1),s.extract (2+zbn s 1) s.size,((zbn s 0:Int) == 1)⟩
def BadC (s:ByteArray):Prop:=s.size<2∨1<zbn s 0∨s.size<2+zbn s 1
instance (s:ByteArray):Decidable (BadC s):=by unfold BadC;infer_instance
def zdw (s:ByteArray):Option Ch:=if BadC s then none else if zae (zfB s)=0 then some (zfB s) else none
def zlK:Ch:=⟨⟨#[]⟩,⟨#[]⟩,false⟩
def zmA (s:ByteArray):Int:=if (zdw s).isSome=true then 0 else 4
theorem zj5 (h:BadC s):zdw s=none:=by unfold zdw;rw [if_pos h]
theorem zrv (h:¬ BadC s)(h2:¬ zae (zfB s)=0):zdw s=none:=by unfold zdw;rw [if_neg h,if_neg h2]
theorem zkX (h:¬ BadC s)(h2:zae (zfB s)=0):zdw s=some (zfB s):=by unfold zdw;rw [if_neg h,if_pos h2]
theorem zdd (h:zdw s=none):zmA s=4:=by unfold zmA;rw [h];rfl
theorem zgY {c:Ch}(h:zdw s=some c):zmA s=0:=by unfold zmA;rw [h];rfl
theorem zix (s:ByteArray) (w:World) (hs:s.size≤1000) :
 Calls Tryz.prog 167 #[.string s] w fun e w'=>e=.returned (.tuple #[((zdw s).getD zlK).v,errV (zmA s)])∧Below w.heap.size w w':=by
 by_cases h2:s.size<2
 · have HN:=zj5 (.inl h2:BadC s)
   rw [zdd HN,HN];clear HN
   go_enter Tryz.func167,Tryz.ntmps167
   go_wp2
   try simp only [Exit.inBlock,Exit.then]
   refine bodyPost_ret (v:=.tuple #[zlK.v,errV 4]) (by simp [results,Tryz.results167,go_sem,zlK,errV]) rfl ⟨rfl,?_⟩;exact (Below.refl _ _).alloc (Nat.le_refl _) _
 · have b0 := zf5 (s:=s) (i:=0) (by omega)
   have b1:=zf5 (s:=s) (i:=1) (by omega);have l0:=zfU s 0;have l1:=zfU s 1;have w1':wrap64 (zbn s 1:Int)=(zbn s 1:Int):=by unfold wrap64;omega
   have w2':wrap64 (2+(zbn s 1:Int))=2+(zbn s 1:Int):=by unfold wrap64;omega
   by_cases h3:1<zbn s 0
   · have HN:=zj5 (.inr (.inl h3):BadC s)
     rw [zdd HN,HN];clear HN
     go_enter Tryz.func167,Tryz.ntmps167
     go_wp2
     try simp only [Exit.inBlock,Exit.then]
     refine bodyPost_ret (v:=.tuple #[zlK.v,errV 4]) (by simp [results,Tryz.results167,go_sem,zlK,errV]) rfl ⟨rfl,?_⟩;exact (Below.refl _ _).alloc (Nat.le_refl _) _
   · by_cases h4:s.size<2+zbn s 1
     · have HN:=zj5 (.inr (.inr h4):BadC s)
       rw [zdd HN,HN];clear HN;have h4':(s.size:Int) - 2<(zbn s 1:Int):=by omega
       go_enter Tryz.func167,Tryz.ntmps167
       go_wp2
       try simp only [Exit.inBlock,Exit.then]
       refine bodyPost_ret (v:=.tuple #[zlK.v,errV 4]) (by simp [results,Tryz.results167,go_sem,zlK,errV]) rfl ⟨rfl,?_⟩;exact (Below.refl _ _).alloc (Nat.le_refl _) _
     · have h4':¬ (s.size:Int) - 2<(zbn s 1:Int):=by omega
       have HNB:Hid (¬ BadC s):=by rintro (h | h | h) <;> omega
       go_enter Tryz.func167,Tryz.ntmps167
       have hb1:(2:Int)≤2+(zbn s 1:Int):=by omega
       have hb2:2+(zbn s 1:Int)≤(s.size:Int):=by omega
       have hb3:(2+(zbn s 1:Int)).toNat=2+zbn s 1:=by omega
       have mixed:Tryz.prog.follows Departure.mixedOrders=true:=by kernel_rfl
       go_wp2_with fail
       go_big_region_o
       have hcon:=zdr (zfB s) ((w.alloc (Obj.cells #[Value.string ⟨#[]⟩,Value.string ⟨#[]⟩,Value.bool false] 143)).alloc (Obj.cells #[Value.string (zfB s).key,Value.string (zfB s).val,Value.bool (zfB s).gone] 143)).drew;have HCON:Hid _:=hcon;clear hcon
       by_cases hf:zae (zfB s)=0
       · have HR:Hid (zdw s=some (zfB s)):=zkX HNB.out hf
         have HF:Hid (zae (zfB s)=0):=hf;clear hf
         go_wp2_with fail
         refine Calls.mono HCON.out ?_;rintro _ wa ⟨rfl,hb⟩;rw [HF.out];rw [zac rfl];have hsz:=hb.size;obtain ⟨cc,cf⟩:=zgB hb;have c0:=cc (w.heap.size+1) 0 (by simp);have c1:=cc (w.heap.size+1) 1 (by simp);have c2:=cc (w.heap.size+1) 2 (by simp);have z0:=cc w.heap.size 0 (by simp;omega);have z1:=cc w.heap.size 1 (by simp;omega);have z2:=cc w.heap.size 2 (by simp;omega);have f0:=cf w.heap.size 0 (by simp;omega);have f1:=cf w.heap.size 1 (by simp;omega);have f2:=cf w.heap.size 2 (by simp;omega);simp at c0 c1 c2 z0 z1 z2 f0 f1 f2;simp only [World.size_drew,World.size_alloc] at hsz;have hlt:w.heap.size<wa.heap.size:=by omega
         have HB:Hid (Below w.heap.size w wa):=((((Below.refl _ _).alloc (Nat.le_refl _) _).alloc (by simp) _).drew).trans (hb.mono (by simp;omega));clear hb cc cf HCON;go_wp2
         try simp only [Exit.inBlock,Exit.then]
         refine bodyPost_ret (v:=.tuple #[(zfB s).v,.nilIface]) (by simp [results,Tryz.results167,go_sem,z0,z1,z2,f0,f1,f2,hlt]) rfl ⟨?_,?_⟩
         · rw [HR.out,zgY HR.out]
           rfl
         · exact ((HB.out.setCell (Nat.le_refl _) _).setCell (Nat.le_refl _) _).setCell (Nat.le_refl _) _
       · have HR:Hid (zdw s=none):=zrv HNB.out hf
         have HE:Hid (errV (zae (zfB s))=.iface 90 (.int .i64 (zae (zfB s)))):=zak hf;clear hf
         go_wp2_with fail
         refine Calls.mono HCON.out ?_;rintro _ wa ⟨rfl,hb⟩;rw [HE.out];have hsz:=hb.size;obtain ⟨cc,cf⟩:=zgB hb;have c0:=cc (w.heap.size+1) 0 (by simp);have c1:=cc (w.heap.size+1) 1 (by simp);have c2:=cc (w.heap.size+1) 2 (by simp);have z0:=cc w.heap.size 0 (by simp;omega);have z1:=cc w.heap.size 1 (by simp;omega);have z2:=cc w.heap.size 2 (by simp;omega);have f0:=cf w.heap.size 0 (by simp;omega);have f1:=cf w.heap.size 1 (by simp;omega);have f2:=cf w.heap.size 2 (by simp;omega);simp at c0 c1 c2 z0 z1 z2 f0 f1 f2;simp only [World.size_drew,World.size_alloc] at hsz;have hlt:w.heap.size<wa.heap.size:=by omega
         have HB:Hid (Below w.heap.size w wa):=((((Below.refl _ _).alloc (Nat.le_refl _) _).alloc (by simp) _).drew).trans (hb.mono (by simp;omega));clear hb cc cf HCON;go_wp2
         try simp only [Exit.inBlock,Exit.then]
         refine bodyPost_ret (v:=.tuple #[zlK.v,errV 4]) (by simp [results,Tryz.results167,go_sem,z0,z1,z2,f0,f1,f2,hlt,zlK,errV]) rfl ⟨?_,?_⟩
         · rw [HR.out,zdd HR.out]
           rfl
         · first | exact ((HB.out.setCell (Nat.le_refl _) _).setCell (Nat.le_refl _) _).setCell (Nat.le_refl _) _ | exact HB.out
end Go.Proofs.YtihnghnafpgdfadGreatDoor
