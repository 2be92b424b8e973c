/- What the proofs stand on, part 10: ActsBase, RowParse, LogOpen, LogAdd. -/
import Derived.Laws.IdiomStrings
import Derived.Shelf.SlSortCmp.KitK
import Derived.Deep.RegionHeld3
import Derived.Deep.RegionLaw
import Derived.Deep.DeepCutAuto
import Derived.Test.YtihnghnafpgdfadGreatDoorRk02
import Derived.Test.YtihnghnafpgdfadGreatDoorRk09
import Derived.Test.YtihnghnafpgdfadGreatDoorRk06
import Derived.Test.YtihnghnafpgdfadGreatDoorRk07
import Derived.Test.YtihnghnafpgdfadGreatDoorRk01
import Derived.Test.YtihnghnafpgdfadGreatDoorRk05
import Derived.Test.YtihnghnafpgdfadGreatDoorRk03
set_option linter.unusedVariables false
set_option linter.unusedSimpArgs false
namespace Go.Proofs.YtihnghnafpgdfadGreatDoor
open Go.RowKit
structure Ch where
  key:ByteArray
  val:ByteArray
  gone:Bool
def ChCells (w:World)(a:Option Addr)(l:List Ch):Prop :=
  ∀ i (h:i<l.length),∃ b off,a=some ⟨b,off,none⟩∧w.cell? ⟨b,off+i * 3,none⟩=some (.string l[i].key)∧w.cell? ⟨b,off+i * 3+1,none⟩=some (.string l[i].val)∧w.cell? ⟨b,off+i * 3+2,none⟩=some (.bool l[i].gone)∧l[i].key.size≤maxLen∧l[i].val.size≤maxLen
structure Ac where
  kind:ByteArray
  s:ByteArray
  t:ByteArray
  n:Int
  k:Int
  ca:Option Addr
  cc:Nat
  cl:List Ch
abbrev Ac.v (x:Ac):Value:=.agg #[.string x.kind,.string x.s,.string x.t,.int .i64 x.n,.int .u64 x.k,.slice x.ca x.cl.length x.cc]
structure AcOk (w:World)(x:Ac):Prop where
  kind:x.kind.size≤maxLen
  s:x.s.size≤maxLen
  t:x.t.size≤maxLen
  few:x.cl.length≤maxLen
  cells:ChCells w x.ca x.cl
def ActCells (w:World) (a:Option Addr) (l:List Ac):Prop :=
  ∀ i (h:i<l.length),∃ b off,a=some ⟨b,off,none⟩∧(w.cell? ⟨b,off+i * 6,none⟩=some (.string l[i].kind)∧w.cell? ⟨b,off+i * 6+1,none⟩=some (.string l[i].s)∧w.cell? ⟨b,off+i * 6+2,none⟩=some (.string l[i].t) ∧
    w.cell? ⟨b,off+i * 6+3,none⟩=some (.int .i64 l[i].n)∧w.cell? ⟨b,off+i * 6+4,none⟩=some (.int .u64 l[i].k)∧w.cell? ⟨b,off+i * 6+5,none⟩=some (.slice l[i].ca l[i].cl.length l[i].cc))∧AcOk w l[i]
theorem ChCells.below {w w':World}{a:Option Addr}{l:List Ch}(h:ChCells w a l)(hb:Below w.heap.size w w'):ChCells w' a l:=by
  intro i hi
  obtain ⟨b,off,rfl,c0,c1,c2,z0,z1⟩:=h i hi
  exact ⟨b,off,rfl,by rw [hb.cell (World.block_lt_of_cell? _ _ c0)];exact c0,by rw [hb.cell (World.block_lt_of_cell? _ _ c1)];exact c1,by rw [hb.cell (World.block_lt_of_cell? _ _ c2)];exact c2,z0,z1⟩
theorem ActCells.below {w w':World}{a:Option Addr}{l:List Ac}(h:ActCells w a l)(hb:Below w.heap.size w w'):ActCells w' a l:=by
  intro i hi
  obtain ⟨b,off,rfl,⟨c0,c1,c2,c3,c4,c5⟩,ok⟩:=h i hi
  refine ⟨b,off,rfl,⟨?_,?_,?_,?_,?_,?_⟩,⟨ok.kind,ok.s,ok.t,ok.few,ok.cells.below hb⟩⟩
  · rw [hb.cell (World.block_lt_of_cell? _ _ c0)];exact c0
  · rw [hb.cell (World.block_lt_of_cell? _ _ c1)];exact c1
  · rw [hb.cell (World.block_lt_of_cell? _ _ c2)];exact c2
  · rw [hb.cell (World.block_lt_of_cell? _ _ c3)];exact c3
  · rw [hb.cell (World.block_lt_of_cell? _ _ c4)];exact c4
  · rw [hb.cell (World.block_lt_of_cell? _ _ c5)];exact c5
def LightC (l:List Ch)(most:Int):Prop:=(l.length:Int)≤most∧∀ c ∈ l,c.key.size≤20∧c.val.size≤40
def LightEnd (l:List Ch)(most:Int)(e:Ending):Prop:=∃ b,e=.returned (.bool b)∧(b=true→LightC l most)
set_option maxRecDepth 100000 in
set_option maxHeartbeats 1000000 in
theorem lightChanges_any (a:Option Addr) (cap:Nat) (l:List Ch) (most:Int) (w:World) (hl:l.length≤maxLen) (hc:ChCells w a l) :
    Calls Tryz.prog 51 #[.slice a l.length cap,.int .i64 most] w fun e w'=>LightEnd l most e∧w'=w:=by
  unfold maxLen at hl
  have HC:Hid (ChCells w a l):=hc
  clear hc
  by_cases h12:most<(l.length:Int)
  · go_enter Tryz.func51,Tryz.ntmps51
    go_wp2
    go_ret
    exact ⟨⟨false,rfl,(fun h=>by cases h)⟩,rfl⟩
  · go_enter Tryz.func51,Tryz.ntmps51
    go_wp2_with fail
    go_loop [5] (fun i=>∃ k:Nat,k≤l.length∧i=.int .i64 k∧∀ j (h:j<l.length),j<k→l[j].key.size≤20∧l[j].val.size≤40) (fun i=>l.length - (intOf i).toNat)
    case atStart=>exact ⟨0,Nat.zero_le _,rfl,fun j h h'=>absurd h' (Nat.not_lt_zero _)⟩
    case round =>
      obtain ⟨k,hk,rfl,hall⟩:=hrel
      have Hall:Hid (∀ j (h:j<l.length),j<k→l[j].key.size≤20∧l[j].val.size≤40):=hall
      clear hall
      by_cases hlt:k<l.length
      · obtain ⟨b,off,rfl,c0,c1,c2,z1,z2⟩:=HC.out k hlt
        unfold maxLen at z1 z2
        by_cases g1:20<l[k].key.size
        · go_wp2
          go_ret
          exact ⟨⟨false,rfl,(fun h=>by cases h)⟩,rfl⟩
        · by_cases g2:40<l[k].val.size
          · go_wp2
            go_ret
            exact ⟨⟨false,rfl,(fun h=>by cases h)⟩,rfl⟩
          · go_wp2
            refine ⟨⟨k+1,by omega,by go_num,fun j hj h=>?_⟩,by simp [intOf];omega⟩
            rcases Nat.lt_or_ge j k with h1 | h1
            · exact Hall.out j hj h1
            · have e:j=k:=by omega
              subst e
              exact ⟨by omega,by omega⟩
      · go_wp2
        go_ret
        have hla:LightC l most:=⟨by omega,fun x hx=>by
          obtain ⟨j,hj,rfl⟩:=List.getElem_of_mem hx
          exact Hall.out j hj (by omega)⟩
        exact ⟨⟨true,rfl,fun _=>hla⟩,rfl⟩
def LightA (l:List Ac)(most:Nat):Prop:=l.length≤most∧∀ x ∈ l,x.s.size≤100∧x.t.size≤40∧LightC x.cl 20
def ActsEnd (l:List Ac)(most:Nat)(e:Ending):Prop:=∃ b,e=.returned (.bool b)∧(b=true→LightA l most)
set_option maxRecDepth 100000 in
set_option maxHeartbeats 2000000 in
theorem lightActs_any (a:Option Addr) (cap:Nat) (l:List Ac) (most:Nat) (w:World) (hl:l.length≤maxLen) (hmo:most≤1000) (hc:ActCells w a l) :
    Calls Tryz.prog 26 #[.slice a l.length cap,.int .i64 most] w fun e w'=>ActsEnd l most e∧w'=w:=by
  unfold maxLen at hl
  have HC:Hid (ActCells w a l):=hc
  clear hc
  by_cases h12:(most:Int)<(l.length:Int)
  · go_enter Tryz.func26,Tryz.ntmps26
    go_wp2
    go_ret
    exact ⟨⟨false,rfl,(fun h=>by cases h)⟩,rfl⟩
  · go_enter Tryz.func26,Tryz.ntmps26
    go_wp2_with fail
    go_loop [5] (fun i=>∃ k:Nat,k≤l.length∧i=.int .i64 k∧∀ j (h:j<l.length),j<k→l[j].s.size≤100∧l[j].t.size≤40∧LightC l[j].cl 20) (fun i=>l.length - (intOf i).toNat)
    case atStart=>exact ⟨0,Nat.zero_le _,rfl,fun j h h'=>absurd h' (Nat.not_lt_zero _)⟩
    case round =>
      obtain ⟨k,hk,rfl,hall⟩:=hrel
      have Hall:Hid (∀ j (h:j<l.length),j<k→l[j].s.size≤100∧l[j].t.size≤40∧LightC l[j].cl 20):=hall
      clear hall
      by_cases hlt:k<l.length
      · obtain ⟨b,off,rfl,⟨c0,c1,c2,c3,c4,c5⟩,ok⟩:=HC.out k hlt
        have z1:=ok.s
        have z2:=ok.t
        have HK:Hid (AcOk w l[k]):=ok
        clear ok
        unfold maxLen at z1 z2
        by_cases g1:100<l[k].s.size
        · go_wp2
          go_ret
          exact ⟨⟨false,rfl,(fun h=>by cases h)⟩,rfl⟩
        · by_cases g2:40<l[k].t.size
          · go_wp2
            go_ret
            exact ⟨⟨false,rfl,(fun h=>by cases h)⟩,rfl⟩
          · go_wp2_with fail
            refine (lightChanges_any _ _ _ 20 _ HK.out.few HK.out.cells).mono ?_
            rintro e w' ⟨⟨lb,rfl,hlc⟩,hw⟩
            rw [hw]
            clear hw w'
            cases lb
            · clear hlc
              go_wp2
              go_ret
              exact ⟨⟨false,rfl,(fun h=>by cases h)⟩,rfl⟩
            · have HLC:Hid (LightC l[k].cl 20):=hlc rfl
              clear hlc
              go_wp2
              refine ⟨⟨k+1,by omega,by go_num,fun j hj h=>?_⟩,by simp [intOf];omega⟩
              rcases Nat.lt_or_ge j k with h1 | h1
              · exact Hall.out j hj h1
              · have e:j=k:=by omega
                subst e
                exact ⟨by omega,by omega,HLC.out⟩
      · go_wp2
        go_ret
        have hla:LightA l most:=⟨by omega,fun x hx=>by
          obtain ⟨j,hj,rfl⟩:=List.getElem_of_mem hx
          exact Hall.out j hj (by omega)⟩
        exact ⟨⟨true,rfl,fun _=>hla⟩,rfl⟩
def CC (w:World)(a:Option Addr)(l:List Ch):Prop :=
  ∀ i (h:i<l.length),∃ b off,a=some ⟨b,off,none⟩∧w.cell? ⟨b,off+i * 3,none⟩=some (.string l[i].key)∧w.cell? ⟨b,off+i * 3+1,none⟩=some (.string l[i].val)∧w.cell? ⟨b,off+i * 3+2,none⟩=some (.bool l[i].gone)
theorem CC.below {w w':World}{a:Option Addr}{l:List Ch}(h:CC w a l)(hb:Below w.heap.size w w'):CC w' a l:=by
  intro i hi
  obtain ⟨b,off,rfl,c0,c1,c2⟩:=h i hi
  exact ⟨b,off,rfl,by rw [hb.cell (World.block_lt_of_cell? _ _ c0)];exact c0,by rw [hb.cell (World.block_lt_of_cell? _ _ c1)];exact c1,by rw [hb.cell (World.block_lt_of_cell? _ _ c2)];exact c2⟩
theorem CC.drewN {w:World}{a:Option Addr}{l:List Ch}(h:CC w a l)(q:Nat):CC (w.drewN q) a l:=by
  intro i hi
  simpa using h i hi
theorem CC.nil (w:World)(a:Option Addr):CC w a []:=fun i h=>absurd h (Nat.not_lt_zero _)
structure SliceC (w:World)(a:Option Addr)(cap:Nat)(l:List Ch):Prop where
  cells:CC w a l
  nil:a=none→cap=0
theorem SliceC.below {w w':World}{a:Option Addr}{cap:Nat}{l:List Ch}(h:SliceC w a cap l)(hb:Below w.heap.size w w'):SliceC w' a cap l:=⟨h.cells.below hb,h.nil⟩
theorem Tryz.infoChange:(Tryz.prog.info? 143).map (fun i=>(i.zero,i.size,i.bytes))=some (some (.agg #[.string ⟨#[]⟩,.string ⟨#[]⟩,.bool false]),3,40):=by kernel_rfl
def flatC:List Ch→List Value
  | []=>[]
  | f :: r=>.string f.key :: .string f.val :: .bool f.gone :: flatC r
theorem flatC_length:∀ l:List Ch,(flatC l).length=l.length * 3
  | []=>rfl
  | f :: r=>by simp only [flatC,List.length_cons,flatC_length r];omega
theorem flatC_append:∀ l m:List Ch,flatC (l ++ m)=flatC l ++ flatC m
  | [],m=>rfl
  | f :: r,m=>by simp only [List.cons_append,flatC,flatC_append r m]
theorem flatC_one:∀ l:List Ch,∀ u ∈ flatC l,u.oneCell'=true
  | [],u,h=>by simp [flatC] at h
  | f :: r,u,h=>by
    simp only [flatC,List.mem_cons] at h
    rcases h with rfl | rfl | rfl | h
    · rfl
    · rfl
    · rfl
    · exact flatC_one r u h
theorem flatC_at:∀ (l:List Ch) (i:Nat) (h:i<l.length),(flatC l)[i * 3]?=some (.string l[i].key)∧(flatC l)[i * 3+1]?=some (.string l[i].val)∧(flatC l)[i * 3+2]?=some (.bool l[i].gone)
  | f :: r,0,h=>by simp [flatC]
  | f :: r,i+1,h=>by
    have ih:=flatC_at r i (by simpa using h)
    simp only [flatC,List.getElem_cons_succ]
    rw [show (i+1) * 3=i * 3+1+1+1 by omega]
    simpa [Nat.add_assoc] using ih
theorem CC.flatC {w:World}{b off:Nat}{l:List Ch}(h:CC w (some ⟨b,off,none⟩) l):∀ j u,(flatC l)[j]?=some u→w.cell? ((⟨b,off,none⟩:Addr).add j)=some u:=by
  intro j u hu
  have hj:j<(Go.Proofs.YtihnghnafpgdfadGreatDoor.flatC l).length:=by
    rcases Nat.lt_or_ge j (Go.Proofs.YtihnghnafpgdfadGreatDoor.flatC l).length with h1 | h1
    · exact h1
    · rw [List.getElem?_eq_none h1] at hu;exact absurd hu (by simp)
  rw [flatC_length] at hj
  obtain ⟨b',off',e,c0,c1,c2⟩:=h (j / 3) (by omega)
  cases e
  obtain ⟨f0,f1,f2⟩:=flatC_at l (j / 3) (by omega)
  have hadd:(⟨b,off,none⟩:Addr).add j=⟨b,off+j,none⟩:=by unfold Addr.add;split <;> simp_all
  rw [hadd]
  have h3:j=j / 3 * 3∨j=j / 3 * 3+1∨j=j / 3 * 3+2:=by omega
  rcases h3 with h3 | h3 | h3
  · rw [h3,f0] at hu
    rw [h3,← hu]
    exact c0
  · rw [h3,f1] at hu
    rw [h3,← hu,← Nat.add_assoc]
    exact c1
  · rw [h3,f2] at hu
    rw [h3,← hu,← Nat.add_assoc]
    exact c2
abbrev OwnsC (w:World)(base:Nat)(v:Value)(l:List Ch):Prop:=w.ownsRow base 143 3 v l.length (flatC l)
theorem OwnsC.files {w:World}{base:Nat}{v:Value}{l:List Ch}(h:OwnsC w base v l):∃ a cap,v=.slice a l.length cap∧CC w a l∧(a=none→cap=0)∧cap≤maxLen∧l.length≤cap∧(∀ x,a=some x→base≤x.block∧x.off=0∧x.spot=none):=by
  rcases h.2 with ⟨rfl,h0⟩ | ⟨g,cap,cur,rfl,hb,hg,hn,hm,hs,ht⟩
  · have e:l=[]:=List.eq_nil_of_length_eq_zero h0
    subst e
    exact ⟨none,0,rfl,CC.nil _ _,fun _=>rfl,Nat.zero_le _,Nat.le_refl _,fun x hx=>by cases hx⟩
  · refine ⟨some ⟨g,0,none⟩,cap,rfl,?_,(fun h=>by cases h),hm,hn,(fun x hx=>by cases hx;exact ⟨hb,rfl,rfl⟩)⟩
    intro i hi
    obtain ⟨f0,f1,f2⟩:=flatC_at l i hi
    refine ⟨g,0,rfl,?_,?_,?_⟩
    · rw [h.cellAt (0+i * 3) (by omega),Nat.zero_add];exact f0
    · rw [h.cellAt (0+i * 3+1) (by omega),Nat.zero_add];exact f1
    · rw [h.cellAt (0+i * 3+2) (by omega),Nat.zero_add];exact f2
set_option maxRecDepth 100000 in
set_option maxHeartbeats 1000000 in
theorem growC_any (n:Nat)(w:World)(hn:n≤1000) :
    Calls Tryz.prog 168 #[.slice none 0 0,.int .i64 n] w fun e w'=>∃ v,e=.returned v∧OwnsC w' w.heap.size v []∧Below w.heap.size w w':=by
  by_cases h0:n=0
  · subst h0
    go_enter Tryz.func168,Tryz.ntmps168
    go_wp2
    go_ret
    exact ⟨_,rfl,World.ownsRow_nil _ _ _ _,Below.refl _ _⟩
  · obtain ⟨i0,hi,hz0,hz1,hz2⟩:=info_parts Tryz.infoChange
    have hpos:(0:Int)<(n:Int):=by omega
    have hby:Tryz.t143.bytes=40:=by kernel_rfl
    have hns:Builtin.nextslicecap n 0=n:=nextslicecap_zero (by omega)
    have hge:=grownCap_ge w n 0 143
    have hle:=grownCap_le_maxLen w n 0 143 (by unfold maxLen;omega)
    have HGE:Hid (n≤grownCap w n 0 143):=hge
    have HLE:Hid (grownCap w n 0 143≤maxLen):=hle
    clear hge hle
    go_enter Tryz.func168,Tryz.ntmps168
    go_wp2
    go_ret
    refine ⟨_,rfl,?_,(Below.refl _ _).drew.alloc (Nat.le_refl _) _⟩
    refine World.ownsRow_made w.drew _ _ (Nat.le_refl _) HLE.out ?_
    have h1:=HGE.out
    simp only [grownCap] at h1
    simp [zeros_size]
    omega
structure PartC where
  a:Option Addr
  cap:Nat
  l:List Ch
def PartC.v (p:PartC):Value:=.slice p.a p.l.length p.cap
def joinedC (P:List PartC):List Ch:=P.flatMap (fun p=>p.l)
def PartsC (w:World)(B:Nat)(P:List PartC):Prop :=
  ∀ i (h:i<P.length),w.cell? ⟨B,i,none⟩=some (.slice P[i].a P[i].l.length P[i].cap)∧CC w P[i].a P[i].l∧(P[i].a=none→P[i].cap=0)∧(∀ x,P[i].a=some x→P[i].l=[]∨x.spot=none)
theorem PartsC.below {w w':World}{B:Nat}{P:List PartC}(h:PartsC w B P)(hb:Below w.heap.size w w'):PartsC w' B P:=by
  intro i hi
  obtain ⟨h1,h2,h3,h4⟩:=h i hi
  exact ⟨by rw [hb.cell (World.block_lt_of_cell? _ _ h1)];exact h1,h2.below hb,h3,h4⟩
def lensC:List PartC→Nat
  | []=>0
  | p :: r=>p.l.length+lensC r
theorem lensC_snoc:∀ (P:List PartC) (k:Nat) (h:k<P.length),lensC (P.take (k+1))=lensC (P.take k)+P[k].l.length
  | p :: r,0,h=>by simp [lensC]
  | p :: r,k+1,h=>by
    have:=lensC_snoc r k (by simpa using h)
    simp only [List.take_succ_cons,lensC,List.getElem_cons_succ,this]
    omega
theorem lensC_le:∀ (P:List PartC) (k:Nat),lensC (P.take k)≤lensC P
  | [],k=>by simp [lensC]
  | p :: r,0=>by simp [lensC]
  | p :: r,k+1=>by
    have:=lensC_le r k
    simp only [List.take_succ_cons,lensC]
    omega
theorem joinedC_length:∀ P:List PartC,(joinedC P).length=lensC P
  | []=>rfl
  | p :: r=>by
    have:=joinedC_length r
    simp only [joinedC,List.flatMap_cons,List.length_append,lensC] at *
    omega
theorem joinedC_snoc (P:List PartC)(k:Nat)(h:k<P.length):joinedC (P.take (k+1))=joinedC (P.take k) ++ P[k].l:=by
  unfold joinedC
  rw [takeSucc P k h,List.flatMap_append]
  simp only [List.flatMap_cons,List.flatMap_nil,List.append_nil]
set_option maxRecDepth 100000 in
set_option maxHeartbeats 1000000 in
theorem concatC_any (B m:Nat) (P:List PartC) (w:World) (hm:P.length=m) (hfew:P.length≤10) (hlen:lensC P≤1000) (hp:PartsC w B P) :
    Calls Tryz.prog 129 #[.slice (some ⟨B,0,none⟩) m m] w fun e w'=>∃ v,e=.returned v∧OwnsC w' w.heap.size v (joinedC P)∧Below w.heap.size w w':=by
  obtain ⟨i0,hi,hz0,hz1,hz2⟩:=info_parts Tryz.infoChange
  have HP:Hid (PartsC w B P):=hp
  clear hp
  subst hm
  go_enter Tryz.func129,Tryz.ntmps129
  go_wp2_with fail
  go_loop [3,11] (fun s i=>∃ k:Nat,k≤P.length∧i=.int .i64 k∧s=.int .i64 (lensC (P.take k))) (fun _ i=>P.length - (intOf i).toNat)
  case atStart=>exact ⟨0,Nat.zero_le _,rfl,rfl⟩
  case round =>
    obtain ⟨k,hk,rfl,rfl⟩:=hrel
    have hl1:=lensC_le P k
    by_cases hlt:k<P.length
    · obtain ⟨c0,_,_,_⟩:=HP.out k hlt
      have hl2:=lensC_le P (k+1)
      have hsn:=lensC_snoc P k hlt
      have HSN:Hid (lensC (P.take (k+1))=lensC (P.take k)+P[k].l.length):=hsn
      have hl3:lensC (P.take k)+P[k].l.length≤1000:=by omega
      clear hsn hl2
      go_wp2
      exact ⟨⟨k+1,by omega,by go_num,by rw [HSN.out];go_num⟩,by simp [intOf];omega⟩
    · go_wp2_with fail
      refine (growC_any (lensC (P.take k)) w (by omega)).mono ?_
      rintro e w1 ⟨v,rfl,hown,hb⟩
      have X:Aside (OwnsC w1 w.heap.size v []∧Below w.heap.size w w1):=⟨hown,hb⟩
      clear hown hb
      go_wp2_with fail
      go_loopw [6,27] (fun v i wr=>∃ j:Nat,j≤P.length∧i=.int .i64 j∧OwnsC wr w.heap.size v (joinedC (P.take j))∧Below w.heap.size w wr) (fun _ i _=>P.length - (intOf i).toNat)
      case atStart=>exact ⟨0,Nat.zero_le _,rfl,X.out.1,X.out.2⟩
      case round =>
        obtain ⟨j,hj,rfl,hown,hb⟩:=hrel
        have HB:Hid (Below w.heap.size w wr):=hb
        have hsz:=hb.size
        clear hb
        have hjl:(joinedC (P.take j)).length≤1000:=by rw [joinedC_length];have:=lensC_le P j;omega
        by_cases hltj:j<P.length
        · obtain ⟨c0,hcl,hnone,hspot⟩:=HP.out.below HB.out j hltj
          have hjs:=joinedC_snoc P j hltj
          have HJS:Hid (joinedC (P.take (j+1))=joinedC (P.take j) ++ P[j].l):=hjs
          have hl2:P[j].l.length≤1000:=by have h1:=lensC_snoc P j hltj;have h2:=lensC_le P (j+1);omega
          clear hjs
          generalize P[j].a=pa at *
          generalize P[j].cap=pc at *
          generalize P[j].l=pl at *
          cases pa with
          | none =>
            have e:pl=[]:=by
              cases pl with
              | nil=>rfl
              | cons f r=>obtain ⟨_,_,e,_⟩:=hcl 0 (by simp);cases e
            subst e
            have e:=hnone rfl
            subst e
            clear hcl hnone hspot
            have HOWN:Hid (OwnsC wr w.heap.size u6 (joinedC (P.take j))):=hown
            clear hown
            go_wp2_with (at_builtin;refine wpList_append_own_none rfl _ _ 64 rfl w.heap.size 143 i0 3 Tryz.underlying64 hi _ _ _ rfl HOWN.out rfl ?_)
            refine ⟨⟨j+1,by omega,by go_num,?_,HB.out⟩,by simp [intOf];omega⟩
            rw [HJS.out,List.append_nil]
            exact HOWN.out
          | some x =>
            have hcells:∀ q u,(flatC pl)[q]?=some u→wr.cell? (x.add q)=some u:=by
              rcases hspot x rfl with rfl | hsp
              · intro q u hu;simp [flatC] at hu
              · obtain ⟨xb,xo,xs⟩:=x
                simp at hsp
                subst hsp
                exact hcl.flatC
            have HCL:Hid (∀ q u,(flatC pl)[q]?=some u→wr.cell? (x.add q)=some u):=hcells
            clear hcells hcl hnone hspot
            have HOWN:Hid (OwnsC wr w.heap.size u6 (joinedC (P.take j))):=hown
            clear hown
            go_wp2_with (at_builtin;refine (wpList_append_own _ rfl _ _ 64 rfl w.heap.size 143 i0 _ 3 40 Tryz.underlying64 hi hz0 hz1 hz2 rfl (by decide) _ _ _ rfl HOWN.out x pl.length pc (flatC pl) rfl (flatC_length _) HCL.out (flatC_one _) (by unfold maxLen;omega) (by omega) (by omega) ?_);intro v' w3 hown' hgrow3 hnil3)
            refine ⟨⟨j+1,by omega,by go_num,?_,?_⟩,by simp [intOf];omega⟩
            · rw [HJS.out]
              show World.ownsRow _ _ _ _ _ _ _
              rw [flatC_append,List.length_append]
              exact hown'
            · exact HB.out.grown hgrow3 hsz (fun q hq=>(HOWN.out.lt q hq).1)
        · go_wp2
          go_ret
          rw [takeAll P j (by omega)] at hown
          exact ⟨_,rfl,hown,HB.out⟩
structure PartCOk (w:World)(p:PartC):Prop where
  cells:CC w p.a p.l
  nil:p.a=none→p.cap=0
  spot:∀ x,p.a=some x→p.l=[]∨x.spot=none
theorem CC.spot {w:World}{a:Option Addr}{l:List Ch}(h:CC w a l):∀ x,a=some x→l=[]∨x.spot=none:=by
  intro x hx
  cases l with
  | nil=>exact .inl rfl
  | cons f r =>
    obtain ⟨b,off,e,_⟩:=h 0 (by simp)
    rw [hx] at e
    cases e
    exact .inr rfl
theorem partsC2 {W:World}{B:Nat}{p q:PartC}(c0:W.cell? ⟨B,0,none⟩=some p.v)(c1:W.cell? ⟨B,1,none⟩=some q.v)(hp:PartCOk W p)(hq:PartCOk W q):PartsC W B [p,q]:=by
  intro i hi
  have h:i=0∨i=1:=by simp at hi;omega
  rcases h with rfl | rfl
  · exact ⟨c0,hp.cells,hp.nil,hp.spot⟩
  · exact ⟨c1,hq.cells,hq.nil,hq.spot⟩
theorem OwnsC.base {w:World}{B B':Nat}{v:Value}{l:List Ch}(h:OwnsC w B v l)(hb:B'≤B):OwnsC w B' v l:=by
  refine ⟨h.1,?_⟩
  rcases h.2 with h0 | ⟨g,cap,cur,e,hg,rest⟩
  · exact .inl h0
  · exact .inr ⟨g,cap,cur,e,by omega,rest⟩
theorem threeC_one (f:Ch):∀ u ∈ [Value.string f.key,.string f.val,.bool f.gone],u.oneCell'=true:=by
  intro u hu
  simp at hu
  rcases hu with rfl | rfl | rfl <;> rfl
theorem OwnsC.snoc {w:World}{B:Nat}{v:Value}{l:List Ch}{f:Ch}(h:w.ownsRow B 143 3 v (l.length+1) (flatC l ++ [.string f.key,.string f.val,.bool f.gone])):OwnsC w B v (l ++ [f]):=by
  show World.ownsRow _ _ _ _ _ _ _
  rw [flatC_append,List.length_append]
  exact h
theorem OwnsC.drewN {w:World}{B:Nat}{v:Value}{l:List Ch}(h:OwnsC w B v l)(n:Nat):OwnsC (w.drewN n) B v l:=h
set_option maxRecDepth 100000 in
set_option maxHeartbeats 1000000 in
theorem cloneC_any (a:Option Addr) (cap:Nat) (l:List Ch) (w:World) (hl:l.length≤100) (hs:SliceC w a cap l) :
    Calls Tryz.prog 96 #[.slice a l.length cap] w fun e w'=>∃ v,e=.returned v∧OwnsC w' w.heap.size v l∧Below w.heap.size w w':=by
  obtain ⟨i0,hi,hz0,hz1,hz2⟩:=info_parts Tryz.infoChange
  have HS:Hid (SliceC w a cap l):=hs
  clear hs
  cases a with
  | none =>
    have e:l=[]:=by
      cases l with
      | nil=>rfl
      | cons g r=>obtain ⟨_,_,e,_⟩:=HS.out.cells 0 (by simp);cases e
    subst e
    have e:=HS.out.nil rfl
    subst e
    have hnil:=fun w=>Lib.run_eql_slice_nil (P:=Tryz.prog) w 64 143 none 0 0 0 0 Tryz.underlying64
    go_enter Tryz.func96,Tryz.ntmps96
    go_wp2
    go_ret
    exact ⟨_,rfl,World.ownsRow_nil _ _ _ _,Below.refl _ _⟩
  | some x =>
    have hcells:∀ (W:World),Below w.heap.size w W→∀ q u,(flatC l)[q]?=some u→W.cell? (x.add q)=some u:=by
      intro W hb
      have hcl:=HS.out.cells.below hb
      rcases hcl.spot x rfl with rfl | hsp
      · intro q u hu;simp [flatC] at hu
      · obtain ⟨xb,xo,xs⟩:=x
        simp at hsp
        subst hsp
        exact hcl.flatC
    have HCL:Hid (∀ (W:World),Below w.heap.size w W→∀ q u,(flatC l)[q]?=some u→W.cell? (x.add q)=some u):=hcells
    clear hcells
    have HOWN:Hid (OwnsC (w.alloc (.cells #[] 143)) w.heap.size (.slice (some ⟨w.heap.size,0,none⟩) 0 0) []):=World.ownsRow_made _ _ _ (Nat.le_refl _) (Nat.zero_le _) rfl
    have hnil:=fun w=>Lib.run_eql_slice_nil (P:=Tryz.prog) w 64 143 (some x) l.length cap 0 0 Tryz.underlying64
    go_enter Tryz.func96,Tryz.ntmps96
    go_wp2_with (at_builtin;refine wpList_append_own _ rfl _ _ 64 rfl w.heap.size 143 i0 _ 3 40 Tryz.underlying64 hi hz0 hz1 hz2 rfl (by decide) _ _ _ rfl HOWN.out x l.length cap (flatC l) rfl (flatC_length _) (HCL.out _ ((Below.refl _ _).alloc (Nat.le_refl _) _)) (flatC_one _) (by unfold maxLen;simp;omega) (by simp;omega) (by simp) ?_;intro v' w3 hown' hgrow3 hnil3)
    go_ret
    refine ⟨_,rfl,?_,?_⟩
    · show World.ownsRow _ _ _ _ _ _ _
      simpa [flatC] using hown'
    · exact ((Below.refl _ _).alloc (Nat.le_refl _) _).grown hgrow3 (by simp) (fun q hq=>(HOWN.out.lt q hq).1)
abbrev Ch.v (c:Ch):Value:=.agg #[.string c.key,.string c.val,.bool c.gone]
def changeF (c:Ch):Int:=if c.key.size=0∨c.gone=true∧¬ c.val.size=0 then 3 else if 8<c.key.size∨16<c.val.size then 2 else 0
theorem empty_of_size {s:ByteArray}(h:s.size=0):s=⟨#[]⟩:=by
  have:s.data=#[]:=Array.eq_empty_of_size_eq_zero h
  cases s;simp_all
theorem changeF_3 {c:Ch}(h:c.key.size=0∨c.gone=true∧¬ c.val.size=0):changeF c=3:=by unfold changeF;rw [if_pos h]
theorem changeF_2 {c:Ch}(h1:¬ c.key.size=0)(h2:¬ (c.gone=true∧¬ c.val.size=0))(h3:8<c.key.size∨16<c.val.size):changeF c=2:=by
  unfold changeF
  rw [if_neg (by rintro (h | h);exact h1 h;exact h2 h),if_pos h3]
theorem changeF_0 {c:Ch}(h1:¬ c.key.size=0)(h2:¬ (c.gone=true∧¬ c.val.size=0))(h3:¬ 8<c.key.size)(h4:¬ 16<c.val.size):changeF c=0:=by
  unfold changeF
  rw [if_neg (by rintro (h | h);exact h1 h;exact h2 h),if_neg (by omega)]
theorem changeF_good {c:Ch}(h:changeF c=0):¬ c.key.size=0∧(c.gone=true→c.val.size=0)∧c.key.size≤8∧c.val.size≤16:=by
  unfold changeF at h
  split at h
  · omega
  · split at h
    · omega
    · rename_i h1 h2
      refine ⟨fun e=>h1 (.inl e),fun e=>?_,by omega,by omega⟩
      by_cases e2:c.val.size=0
      · exact e2
      · exact absurd (.inr ⟨e,e2⟩) h1
set_option maxRecDepth 100000 in
set_option maxHeartbeats 1000000 in
theorem rowCheck_any (c:Ch) (w:World) :
    Calls Tryz.prog 109 #[c.v] w fun e w'=>e=.returned (errV (changeF c))∧Below w.heap.size w w':=by
  obtain ⟨key,val,gone⟩:=c
  by_cases k0:key.size=0
  · have HF:Hid (changeF ⟨key,val,gone⟩=3):=changeF_3 (.inl k0)
    have e0:=empty_of_size k0
    subst e0
    go_enter Tryz.func109,Tryz.ntmps109
    go_wp2
    go_ret
    exact ⟨by rw [HF.out];rfl,by repeat (first | exact Below.refl _ _ | refine Below.drew ?_ | refine Below.alloc ?_ (by simp) _)⟩
  · have hne:key.toList.isEmpty=false:=isEmpty_false key k0
    by_cases v0:val.size=0
    · have e0:=empty_of_size v0
      by_cases k8:8<key.size
      · have HF:Hid (changeF ⟨key,val,gone⟩=2):=changeF_2 k0 (fun h=>h.2 v0) (.inl k8)
        subst e0
        cases gone
        all_goals
          go_enter Tryz.func109,Tryz.ntmps109
          go_wp2
          go_ret
          exact ⟨by rw [HF.out];rfl,by repeat (first | exact Below.refl _ _ | refine Below.drew ?_ | refine Below.alloc ?_ (by simp) _)⟩
      · have HF:Hid (changeF ⟨key,val,gone⟩=0):=changeF_0 k0 (fun h=>h.2 v0) k8 (by show ¬ 16<val.size;omega)
        subst e0
        cases gone
        all_goals
          go_enter Tryz.func109,Tryz.ntmps109
          go_wp2
          go_ret
          exact ⟨by rw [HF.out];rfl,by repeat (first | exact Below.refl _ _ | refine Below.drew ?_ | refine Below.alloc ?_ (by simp) _)⟩
    · have hnv:val.toList.isEmpty=false:=isEmpty_false val v0
      cases gone
      · by_cases k8:8<key.size
        · have HF:Hid (changeF ⟨key,val,false⟩=2):=changeF_2 k0 (fun h=>by cases h.1) (.inl k8)
          go_enter Tryz.func109,Tryz.ntmps109
          go_wp2
          go_ret
          exact ⟨by rw [HF.out];rfl,by repeat (first | exact Below.refl _ _ | refine Below.drew ?_ | refine Below.alloc ?_ (by simp) _)⟩
        · by_cases v16:16<val.size
          · have HF:Hid (changeF ⟨key,val,false⟩=2):=changeF_2 k0 (fun h=>by cases h.1) (.inr v16)
            go_enter Tryz.func109,Tryz.ntmps109
            go_wp2
            go_ret
            exact ⟨by rw [HF.out];rfl,by repeat (first | exact Below.refl _ _ | refine Below.drew ?_ | refine Below.alloc ?_ (by simp) _)⟩
          · have HF:Hid (changeF ⟨key,val,false⟩=0):=changeF_0 k0 (fun h=>by cases h.1) k8 v16
            go_enter Tryz.func109,Tryz.ntmps109
            go_wp2
            go_ret
            exact ⟨by rw [HF.out];rfl,by repeat (first | exact Below.refl _ _ | refine Below.drew ?_ | refine Below.alloc ?_ (by simp) _)⟩
      · have HF:Hid (changeF ⟨key,val,true⟩=3):=changeF_3 (.inr ⟨rfl,v0⟩)
        go_enter Tryz.func109,Tryz.ntmps109
        go_wp2
        go_ret
        exact ⟨by rw [HF.out];rfl,by repeat (first | exact Below.refl _ _ | refine Below.drew ?_ | refine Below.alloc ?_ (by simp) _)⟩
def goneB (c:Ch):UInt8:=if c.gone=true then 1 else 0
def bytesC (c:Ch):List UInt8:=goneB c :: UInt8.ofNat c.key.size :: (c.key.toList ++ c.val.toList)
theorem two_bytes (w:World)(n:Nat)(b:UInt8)(bi:Int)(hb:bi=(b.toNat:Int))(hn:n<256)(T:TypeId):∀ j (hj:j < [b,UInt8.ofNat n].length),(w.alloc (Obj.cells #[.int .u8 bi,.int .u8 n] T)).cell? ((⟨w.heap.size,0,none⟩:Addr).add j)=some (.int .u8 ([b,UInt8.ofNat n][j].toNat:Int)):=by
  intro j hj
  match j,hj with
  | 0,_=>subst hb;simp [Addr.add]
  | 1,_ =>
    have:(UInt8.ofNat n).toNat=n:=by simp;omega
    simp [Addr.add,this]
theorem bytes_join (a b:UInt8)(x y:ByteArray):(⟨#[a,b]⟩:ByteArray) ++ x ++ y=⟨(a :: b :: (x.toList ++ y.toList)).toArray⟩:=by
  rw [ByteArray.toList_eq,ByteArray.toList_eq]
  apply ByteArray.ext
  simp [ByteArray.data_append]
theorem ret_text {a b:ByteArray}(h:a=b)(v:Value):Ending.returned (.tuple #[.string a,v])=.returned (.tuple #[.string b,v]):=by rw [h]
set_option maxRecDepth 100000 in
set_option maxHeartbeats 1000000 in
theorem rowBytes_any (c:Ch)(w:World) :
    Calls Tryz.prog 192 #[c.v] w fun e w'=>e=.returned (.tuple #[.string (if changeF c=0 then ⟨(bytesC c).toArray⟩ else ⟨#[]⟩),errV (changeF c)])∧Below w.heap.size w w':=by
  by_cases hf:changeF c=0
  · obtain ⟨g1,g2,g3,g4⟩:=changeF_good hf
    have HF:Hid (changeF c=0):=hf
    clear hf
    cases hg:c.gone
    · have HG:Hid (c.gone=false):=hg
      have hcon:=rowCheck_any c (w.alloc (Obj.cells #[Value.string c.key,Value.string c.val,Value.bool false] 143))
      rw [HF.out,errV_zero rfl,Ch.v,hg] at hcon
      go_enter Tryz.func192,Tryz.ntmps192
      go_wp2_with fail
      refine Calls.mono hcon ?_
      rintro _ w1 ⟨rfl,hb⟩
      have HB:Hid (Below w.heap.size w w1):=((Below.refl _ _).alloc (Nat.le_refl _) _).trans (hb.mono (by simp))
      have hsz:=hb.size
      obtain ⟨cc,cf⟩:=bcell' hb
      simp only [World.size_alloc] at hsz
      have c0:=cc w.heap.size 0 (by simp)
      have c1:=cc w.heap.size 1 (by simp)
      have c2:=cc w.heap.size 2 (by simp)
      simp at c0 c1 c2
      have hcv:=run_convert_bytes_back (P:=Tryz.prog) (w1.alloc (Obj.cells #[.int .u8 0,.int .u8 c.key.size] 5)) 115 9 5 ⟨w1.heap.size,0,none⟩ 2 [0,UInt8.ofNat c.key.size] (by kernel_rfl) (by kernel_rfl) (by kernel_rfl) (two_bytes w1 c.key.size 0 0 rfl (by omega) 5)
      simp only [List.length_cons,List.length_nil] at hcv
      have hlt:w.heap.size<w1.heap.size:=by omega
      clear hb hcon cc cf hg
      go_wp2
      go_ret2
      refine ⟨?_,(HB.out.alloc HB.out.size _)⟩
      try rw [HF.out]
      try rw [if_pos rfl]
      rw [errV_zero rfl]
      exact ret_text (by unfold bytesC goneB;rw [HG.out];exact bytes_join _ _ _ _) _
    · have HG:Hid (c.gone=true):=hg
      have hcon:=rowCheck_any c (w.alloc (Obj.cells #[Value.string c.key,Value.string c.val,Value.bool true] 143))
      rw [HF.out,errV_zero rfl,Ch.v,hg] at hcon
      go_enter Tryz.func192,Tryz.ntmps192
      go_wp2_with fail
      refine Calls.mono hcon ?_
      rintro _ w1 ⟨rfl,hb⟩
      have HB:Hid (Below w.heap.size w w1):=((Below.refl _ _).alloc (Nat.le_refl _) _).trans (hb.mono (by simp))
      have hsz:=hb.size
      obtain ⟨cc,cf⟩:=bcell' hb
      simp only [World.size_alloc] at hsz
      have c0:=cc w.heap.size 0 (by simp)
      have c1:=cc w.heap.size 1 (by simp)
      have c2:=cc w.heap.size 2 (by simp)
      simp at c0 c1 c2
      have hcv:=run_convert_bytes_back (P:=Tryz.prog) (w1.alloc (Obj.cells #[.int .u8 1,.int .u8 c.key.size] 5)) 115 9 5 ⟨w1.heap.size,0,none⟩ 2 [1,UInt8.ofNat c.key.size] (by kernel_rfl) (by kernel_rfl) (by kernel_rfl) (two_bytes w1 c.key.size 1 1 rfl (by omega) 5)
      simp only [List.length_cons,List.length_nil] at hcv
      have hlt:w.heap.size<w1.heap.size:=by omega
      clear hb hcon cc cf hg
      go_wp2
      go_ret2
      refine ⟨?_,(HB.out.alloc HB.out.size _)⟩
      try rw [HF.out]
      try rw [if_pos rfl]
      rw [errV_zero rfl]
      exact ret_text (by unfold bytesC goneB;rw [HG.out];exact bytes_join _ _ _ _) _
  · have HF:Hid (¬ changeF c=0):=hf
    have HE:Hid (errV (changeF c)=.iface 90 (.int .i64 (changeF c))):=errV_pos hf
    have hcon:=rowCheck_any c (w.alloc (Obj.cells #[Value.string c.key,Value.string c.val,Value.bool c.gone] 143))
    rw [HE.out] at hcon
    clear hf
    go_enter Tryz.func192,Tryz.ntmps192
    go_wp2_with fail
    refine Calls.mono hcon ?_
    rintro _ w1 ⟨rfl,hb⟩
    have HB:Hid (Below w.heap.size w w1):=((Below.refl _ _).alloc (Nat.le_refl _) _).trans (hb.mono (by simp))
    clear hb hcon
    go_wp2
    go_ret2
    refine ⟨?_,HB.out⟩
    first | rw [if_neg HF.out,HE.out] | rw [HE.out]
    rfl
def byteAt (s:ByteArray)(i:Nat):Nat:=(s.data.toList.getD i 0).toNat
theorem byteAt_eq {s:ByteArray}{i:Nat}(h:i<s.size):s[i].toNat=byteAt s i:=by
  unfold byteAt
  have h':i<s.data.size:=h
  rw [List.getD_eq_getElem?_getD,List.getElem?_eq_getElem (by simpa using h')]
  simp [ByteArray.getElem_eq_getElem_data]
theorem byteAt_lt (s:ByteArray)(i:Nat):byteAt s i<256:=UInt8.toNat_lt _
def partC (s:ByteArray):Ch:=⟨s.extract 2 (2+byteAt s 1),s.extract (2+byteAt s 1) s.size,((byteAt s 0:Int) == 1)⟩
def BadC (s:ByteArray):Prop:=s.size<2∨1<byteAt s 0∨s.size<2+byteAt s 1
instance (s:ByteArray):Decidable (BadC s):=by unfold BadC;infer_instance
def readC (s:ByteArray):Option Ch:=if BadC s then none else if changeF (partC s)=0 then some (partC s) else none
def zeroC:Ch:=⟨⟨#[]⟩,⟨#[]⟩,false⟩
def partsN (s:ByteArray):Int:=if (readC s).isSome=true then 0 else 4
theorem readC_bad {s:ByteArray}(h:BadC s):readC s=none:=by unfold readC;rw [if_pos h]
theorem readC_ill {s:ByteArray}(h:¬ BadC s)(h2:¬ changeF (partC s)=0):readC s=none:=by unfold readC;rw [if_neg h,if_neg h2]
theorem readC_good {s:ByteArray}(h:¬ BadC s)(h2:changeF (partC s)=0):readC s=some (partC s):=by unfold readC;rw [if_neg h,if_pos h2]
theorem partsN_none {s:ByteArray}(h:readC s=none):partsN s=4:=by unfold partsN;rw [h];rfl
theorem partsN_some {s:ByteArray}{c:Ch}(h:readC s=some c):partsN s=0:=by unfold partsN;rw [h];rfl
set_option maxRecDepth 100000 in
set_option maxHeartbeats 1000000 in
theorem rowParse_any (s:ByteArray) (w:World) (hs:s.size≤1000) :
    Calls Tryz.prog 167 #[.string s] w fun e w'=>e=.returned (.tuple #[((readC s).getD zeroC).v,errV (partsN s)])∧Below w.heap.size w w':=by
  by_cases h2:s.size<2
  · have HN:=readC_bad (.inl h2:BadC s)
    rw [partsN_none HN,HN]
    clear HN
    go_enter Tryz.func167,Tryz.ntmps167
    go_wp2
    try simp only [Exit.inBlock,Exit.then]
    refine bodyPost_ret (v:=.tuple #[zeroC.v,errV 4]) (by simp [results,Tryz.results167,go_sem,zeroC,errV]) rfl ⟨rfl,?_⟩
    exact (Below.refl _ _).alloc (Nat.le_refl _) _
  · have b0 := byteAt_eq (s:=s) (i:=0) (by omega)
    have b1:=byteAt_eq (s:=s) (i:=1) (by omega)
    have l0:=byteAt_lt s 0
    have l1:=byteAt_lt s 1
    have w1':wrap64 (byteAt s 1:Int)=(byteAt s 1:Int):=by unfold wrap64;omega
    have w2':wrap64 (2+(byteAt s 1:Int))=2+(byteAt s 1:Int):=by unfold wrap64;omega
    by_cases h3:1<byteAt s 0
    · have HN:=readC_bad (.inr (.inl h3):BadC s)
      rw [partsN_none HN,HN]
      clear HN
      go_enter Tryz.func167,Tryz.ntmps167
      go_wp2
      try simp only [Exit.inBlock,Exit.then]
      refine bodyPost_ret (v:=.tuple #[zeroC.v,errV 4]) (by simp [results,Tryz.results167,go_sem,zeroC,errV]) rfl ⟨rfl,?_⟩
      exact (Below.refl _ _).alloc (Nat.le_refl _) _
    · by_cases h4:s.size<2+byteAt s 1
      · have HN:=readC_bad (.inr (.inr h4):BadC s)
        rw [partsN_none HN,HN]
        clear HN
        have h4':(s.size:Int) - 2<(byteAt s 1:Int):=by omega
        go_enter Tryz.func167,Tryz.ntmps167
        go_wp2
        try simp only [Exit.inBlock,Exit.then]
        refine bodyPost_ret (v:=.tuple #[zeroC.v,errV 4]) (by simp [results,Tryz.results167,go_sem,zeroC,errV]) rfl ⟨rfl,?_⟩
        exact (Below.refl _ _).alloc (Nat.le_refl _) _
      · have h4':¬ (s.size:Int) - 2<(byteAt s 1:Int):=by omega
        have HNB:Hid (¬ BadC s):=by rintro (h | h | h) <;> omega
        go_enter Tryz.func167,Tryz.ntmps167
        have hb1:(2:Int)≤2+(byteAt s 1:Int):=by omega
        have hb2:2+(byteAt s 1:Int)≤(s.size:Int):=by omega
        have hb3:(2+(byteAt s 1:Int)).toNat=2+byteAt s 1:=by omega
        have mixed:Tryz.prog.follows Departure.mixedOrders=true:=by kernel_rfl
        go_wp2_with fail
        go_big_region_o
        have hcon:=rowCheck_any (partC s) ((w.alloc (Obj.cells #[Value.string ⟨#[]⟩,Value.string ⟨#[]⟩,Value.bool false] 143)).alloc (Obj.cells #[Value.string (partC s).key,Value.string (partC s).val,Value.bool (partC s).gone] 143)).drew
        have HCON:Hid _:=hcon
        clear hcon
        by_cases hf:changeF (partC s)=0
        · have HR:Hid (readC s=some (partC s)):=readC_good HNB.out hf
          have HF:Hid (changeF (partC s)=0):=hf
          clear hf
          go_wp2_with fail
          refine Calls.mono HCON.out ?_
          rintro _ wa ⟨rfl,hb⟩
          rw [HF.out]
          rw [errV_zero rfl]
          have hsz:=hb.size
          obtain ⟨cc,cf⟩:=bcell' hb
          have c0:=cc (w.heap.size+1) 0 (by simp)
          have c1:=cc (w.heap.size+1) 1 (by simp)
          have c2:=cc (w.heap.size+1) 2 (by simp)
          have z0:=cc w.heap.size 0 (by simp;omega)
          have z1:=cc w.heap.size 1 (by simp;omega)
          have z2:=cc w.heap.size 2 (by simp;omega)
          have f0:=cf w.heap.size 0 (by simp;omega)
          have f1:=cf w.heap.size 1 (by simp;omega)
          have f2:=cf w.heap.size 2 (by simp;omega)
          simp at c0 c1 c2 z0 z1 z2 f0 f1 f2
          simp only [World.size_drew,World.size_alloc] at hsz
          have hlt:w.heap.size<wa.heap.size:=by omega
          have HB:Hid (Below w.heap.size w wa):=((((Below.refl _ _).alloc (Nat.le_refl _) _).alloc (by simp) _).drew).trans (hb.mono (by simp;omega))
          clear hb cc cf HCON
          go_wp2
          try simp only [Exit.inBlock,Exit.then]
          refine bodyPost_ret (v:=.tuple #[(partC s).v,.nilIface]) (by simp [results,Tryz.results167,go_sem,z0,z1,z2,f0,f1,f2,hlt]) rfl ⟨?_,?_⟩
          · rw [HR.out,partsN_some HR.out]
            rfl
          · exact ((HB.out.setCell (Nat.le_refl _) _).setCell (Nat.le_refl _) _).setCell (Nat.le_refl _) _
        · have HR:Hid (readC s=none):=readC_ill HNB.out hf
          have HE:Hid (errV (changeF (partC s))=.iface 90 (.int .i64 (changeF (partC s)))):=errV_pos hf
          clear hf
          go_wp2_with fail
          refine Calls.mono HCON.out ?_
          rintro _ wa ⟨rfl,hb⟩
          rw [HE.out]
          have hsz:=hb.size
          obtain ⟨cc,cf⟩:=bcell' hb
          have c0:=cc (w.heap.size+1) 0 (by simp)
          have c1:=cc (w.heap.size+1) 1 (by simp)
          have c2:=cc (w.heap.size+1) 2 (by simp)
          have z0:=cc w.heap.size 0 (by simp;omega)
          have z1:=cc w.heap.size 1 (by simp;omega)
          have z2:=cc w.heap.size 2 (by simp;omega)
          have f0:=cf w.heap.size 0 (by simp;omega)
          have f1:=cf w.heap.size 1 (by simp;omega)
          have f2:=cf w.heap.size 2 (by simp;omega)
          simp at c0 c1 c2 z0 z1 z2 f0 f1 f2
          simp only [World.size_drew,World.size_alloc] at hsz
          have hlt:w.heap.size<wa.heap.size:=by omega
          have HB:Hid (Below w.heap.size w wa):=((((Below.refl _ _).alloc (Nat.le_refl _) _).alloc (by simp) _).drew).trans (hb.mono (by simp;omega))
          clear hb cc cf HCON
          go_wp2
          try simp only [Exit.inBlock,Exit.then]
          refine bodyPost_ret (v:=.tuple #[zeroC.v,errV 4]) (by simp [results,Tryz.results167,go_sem,z0,z1,z2,f0,f1,f2,hlt,zeroC,errV]) rfl ⟨?_,?_⟩
          · rw [HR.out,partsN_none HR.out]
            rfl
          · first | exact ((HB.out.setCell (Nat.le_refl _) _).setCell (Nat.le_refl _) _).setCell (Nat.le_refl _) _ | exact HB.out
end Go.Proofs.YtihnghnafpgdfadGreatDoor
namespace Go.Proofs.YtihnghnafpgdfadGreatDoor
open Go.RowKit Go.BigFrame
structure Lg where
  dB:Nat
  start:Nat
  many:Nat
  first:Nat
  used:Nat
def LogAt (w:World)(b:Nat)(g:Lg):Prop:=w.heap[b]?=some (.cells #[.pointer (some ⟨g.dB,0,none⟩),.int .i64 g.start,.int .i64 g.many,.int .i64 g.first,.int .i64 g.used] 208 (0,0))
structure LgOk (g:Lg):Prop where
  start:g.start+g.many≤60
  first:g.first≤4000000
  used:g.used≤g.many
theorem LogAt.cells {w:World}{b:Nat}{g:Lg}(h:LogAt w b g):w.cell? ⟨b,0,none⟩=some (.pointer (some ⟨g.dB,0,none⟩))∧w.cell? ⟨b,1,none⟩=some (.int .i64 g.start)∧w.cell? ⟨b,2,none⟩=some (.int .i64 g.many)∧w.cell? ⟨b,3,none⟩=some (.int .i64 g.first)∧w.cell? ⟨b,4,none⟩=some (.int .i64 g.used) :=
  ⟨by rw [cell_block h];rfl,by rw [cell_block h];rfl,by rw [cell_block h];rfl,by rw [cell_block h];rfl,by rw [cell_block h];rfl⟩
theorem LogAt.lt {w:World}{b:Nat}{g:Lg}(h:LogAt w b g):b<w.heap.size:=(Array.getElem?_eq_some_iff.1 h).1
theorem LogAt.below {w w':World}{b:Nat}{g:Lg}(h:LogAt w b g)(hb:Below w.heap.size w w'):LogAt w' b g:=by
  have hl:=h.lt
  unfold LogAt at h ⊢;rw [hb.block b hl];exact h
set_option maxRecDepth 100000 in
theorem logNumber_any (b:Nat)(g:Lg)(i:Nat)(w:World)(h:LogAt w b g)(hf:g.first≤4000000)(hi:i≤1000) :
    Calls Tryz.prog 201 #[.pointer (some ⟨b,0,none⟩),.int .i64 i] w fun e w'=>e=.returned (.string (baL (leB 4 (g.first+i))))∧Below w.heap.size w w':=by
  obtain ⟨c0,c1,c2,c3,c4⟩:=h.cells
  have kn:=numBytes_any (g.first+i) 4 w (by omega) (by omega)
  rw [show ((g.first+i:Nat):Int)=(g.first:Int)+(i:Int) by omega] at kn
  have KN:Hid _:=kn
  clear kn h
  go_enter Tryz.func201,Tryz.ntmps201
  go_wp2_with fail
  refine Calls.mono KN.out ?_
  rintro e w1 ⟨rfl,hb⟩
  have HB:Hid _:=hb
  clear hb
  go_wp2
  go_ret
  exact ⟨rfl,HB.out⟩
set_option maxRecDepth 100000 in
theorem logCount_any (n:Nat)(w:World)(hn:n≤1000000) :
    Calls Tryz.prog 166 #[.int .i64 n] w fun e w'=>e=.returned (.string (baL (leB 4 n)))∧Below w.heap.size w w':=by
  have KN:Hid _:=numBytes_any n 4 w (by omega) (by omega)
  go_enter Tryz.func166,Tryz.ntmps166
  go_wp2_with fail
  refine Calls.mono KN.out ?_
  rintro e w1 ⟨rfl,hb⟩
  have HB:Hid _:=hb
  clear hb
  go_wp2
  go_ret
  exact ⟨rfl,HB.out⟩
theorem ba_len (s:ByteArray):s.data.toList.length=s.size:=by rw [Array.length_toList];rfl
theorem extract_list (s:ByteArray)(a b:Nat):(s.extract a b).data.toList=(s.data.toList.drop a).take (b - a):=by
  rw [ByteArray.data_extract,Array.toList_extract,List.extract_eq_take_drop]
def writtenL (num:Nat)(s:List UInt8):ByteArray × ByteArray:=match secOf num s with
  | some (k,t)=>(⟨#[k]⟩,baL t)
  | none=>(⟨#[]⟩,⟨#[]⟩)
theorem ba_toList (s:ByteArray):s.toList=s.data.toList:=ByteArray.toList_eq s
set_option maxRecDepth 100000 in
set_option maxHeartbeats 1000000 in
theorem logWritten_any (b:Nat) (g:Lg) (i:Nat) (s:ByteArray) (w:World) (h:LogAt w b g) (hf:g.first≤4000000) (hi:i≤1000) (hs:s.size=40) :
    Calls Tryz.prog 165 #[.pointer (some ⟨b,0,none⟩),.int .i64 i,.string s] w fun e w'=>e=.returned (.tuple #[.string (writtenL (g.first+i) s.data.toList).1,.string (writtenL (g.first+i) s.data.toList).2])∧Below w.heap.size w w':=by
  have HL:Hid (LogAt w b g):=h
  clear h
  have hz:(s.extract 5 7).size=2:=by simp [ByteArray.size_extract];omega
  have ko:=fun W=>numOf_any (s.extract 5 7) W hz
  rw [extract_list] at ko
  have hlt:=ofLE_lt ((s.data.toList.drop 5).take (7 - 5))
  have hl2:((s.data.toList.drop 5).take (7 - 5)).length=2:=by rw [List.length_take,List.length_drop,ba_len,hs];rfl
  rw [hl2] at hlt
  obtain ⟨n,hn⟩:∃ n,n=ofLE ((s.data.toList.drop 5).take (7 - 5)):=⟨_,rfl⟩
  rw [← hn] at ko hlt
  have HN:Hid _:=hn
  have KO:Hid (∀ W,Calls _ _ _ W _):=ko
  clear ko hn hl2 hz
  have some':=Later.ne w
  have KN:Hid (∀ p:Later w,Calls Tryz.prog 201 #[.pointer (some ⟨b,0,none⟩),.int .i64 i] p.W fun e w'=>e=.returned (.string (baL (leB 4 (g.first+i))))∧Below p.W.heap.size p.W w'):=fun p=>logNumber_any b g i p.W (HL.out.below p.h) hf hi
  by_cases hnum:(s.extract 1 5)=baL (leB 4 (g.first+i))
  · have hd:((s.extract 1 5).toList != (baL (leB 4 (g.first+i))).toList)=false:=by rw [hnum];simp
    have hnl:(s.data.toList.drop 1).take 4=leB 4 (g.first+i):=by
      have:=congrArg (fun x=>x.data.toList) hnum
      simp only [extract_list] at this
      simpa [baL] using this
    by_cases h33:n≤33
    · have HW:Hid (writtenL (g.first+i) s.data.toList=(s.extract 0 1,s.extract 7 (7+n))):=by
        show _=_
        unfold writtenL secOf
        have hn2:ofLE ((s.data.toList.drop 5).take 2)=n:=HN.out.symm
        rw [if_pos ⟨hnl,by rw [hn2];exact h33⟩,hn2]
        simp only [Prod.mk.injEq]
        refine ⟨?_,?_⟩
        · apply ByteArray.ext
          apply Array.toList_inj.1
          rw [extract_list]
          have hs2:s.data.toList.length=40:=by rw [ba_len,hs]
          match hm:s.data.toList,hs2 with
          | c :: r,_=>simp
        · apply ByteArray.ext
          apply Array.toList_inj.1
          rw [extract_list]
          simp [baL,show 7+n - 7=n by omega]
      have hgt:decide ((33:Int)<(n:Int))=false:=decide_eq_false (by omega)
      clear hnl
      generalize baL (leB 4 (g.first+i))=Z at *
      go_enter Tryz.func165,Tryz.ntmps165
      go_wp2_with fail
      refine Calls.mono (KO.out _) ?_
      rintro e w1 ⟨rfl,hw⟩
      rw [hw]
      clear hw w1
      go_wp2_with fail
      refine wp_region_later (by kernel_rfl) (by kernel_rfl) ?_
      repeat (go_big_quiet_step ((go_at_call 201;exact later_of _ (KN.out _))))
      refine wpQuiet_nil ?_
      rintro _ ⟨p,rfl⟩
      go_wp2_with fail
      obtain ⟨W2,hW2⟩:∃ u,u=p.W:=⟨_,rfl⟩
      have H2:Hid (Below w.heap.size w W2):=by rw [hW2];exact p.h
      rw [← hW2]
      clear hW2 p
      have some2:=Later.ne W2
      refine wp_region_later (by kernel_rfl) (by kernel_rfl) ?_
      repeat (go_big_quiet_step (fail))
      refine wpQuiet_nil ?_
      rintro _ ⟨p,rfl⟩
      go_wp2
      go_ret2
      rw [HW.out]
      exact ⟨rfl,H2.out.trans (p.h.mono H2.out.size)⟩
    · have HW:Hid (writtenL (g.first+i) s.data.toList=(⟨#[]⟩,⟨#[]⟩)):=by
        show _=_
        unfold writtenL secOf
        have hn2:ofLE ((s.data.toList.drop 5).take 2)=n:=HN.out.symm
        rw [if_neg (by rw [hn2];exact fun h=>h33 h.2)]
      have hgt:decide ((33:Int)<(n:Int))=true:=decide_eq_true (by omega)
      clear hnl
      generalize baL (leB 4 (g.first+i))=Z at *
      go_enter Tryz.func165,Tryz.ntmps165
      go_wp2_with fail
      refine Calls.mono (KO.out _) ?_
      rintro e w1 ⟨rfl,hw⟩
      rw [hw]
      clear hw w1
      go_wp2_with fail
      refine wp_region_later (by kernel_rfl) (by kernel_rfl) ?_
      repeat (go_big_quiet_step ((go_at_call 201;exact later_of _ (KN.out _))))
      refine wpQuiet_nil ?_
      rintro _ ⟨p,rfl⟩
      go_wp2
      go_ret2
      rw [HW.out]
      exact ⟨rfl,p.h⟩
  · have hd:((s.extract 1 5).toList == (baL (leB 4 (g.first+i))).toList)=false:=by
      rw [beq_eq_false_iff_ne]
      exact fun h=>hnum (toList_inj h)
    have HW:Hid (writtenL (g.first+i) s.data.toList=(⟨#[]⟩,⟨#[]⟩)):=by
      show _=_
      unfold writtenL secOf
      rw [if_neg (fun h=>hnum (by
        apply ByteArray.ext
        apply Array.toList_inj.1
        rw [extract_list]
        simpa [baL] using h.1))]
    have HNN:Hid _:=hnum
    clear hnum
    generalize baL (leB 4 (g.first+i))=Z at *
    go_enter Tryz.func165,Tryz.ntmps165
    go_wp2_with fail
    refine Calls.mono (KO.out _) ?_
    rintro e w1 ⟨rfl,hw⟩
    rw [hw]
    clear hw w1
    go_wp2_with fail
    refine wp_region_later (by kernel_rfl) (by kernel_rfl) ?_
    repeat (go_big_quiet_step ((go_at_call 201;exact later_of _ (KN.out _))))
    refine wpQuiet_nil ?_
    rintro _ ⟨p,rfl⟩
    go_wp2
    go_ret2
    rw [HW.out]
    exact ⟨rfl,p.h⟩
set_option maxRecDepth 100000 in
theorem logRoom_any (b:Nat)(g:Lg)(w:World)(h:LogAt w b g)(hg:LgOk g) :
    Calls Tryz.prog 110 #[.pointer (some ⟨b,0,none⟩)] w fun e w'=>e=.returned (.int .i64 ((g.many - g.used:Nat):Int))∧∃ n,w'=w.drewN n:=by
  obtain ⟨c0,c1,c2,c3,c4⟩:=h.cells
  have h1:=hg.start
  have h2:=hg.used
  have HE:Hid (((g.many - g.used:Nat):Int)=(g.many:Int) - (g.used:Int)):=by show _=_;omega
  clear h hg
  go_enter Tryz.func110,Tryz.ntmps110
  go_wp2_with fail
  go_quiet (fail)
  go_wp2
  go_ret
  rw [HE.out]
  exact ⟨rfl,_,rfl⟩
set_option maxRecDepth 100000 in
theorem logNew_any (dB start many first:Nat)(w:World) :
    Calls Tryz.prog 127 #[.pointer (some ⟨dB,0,none⟩),.int .i64 start,.int .i64 many,.int .i64 first] w fun e w'=>e=.returned (.pointer (some ⟨w.heap.size,0,none⟩))∧LogAt w' w.heap.size ⟨dB,start,many,first,0⟩∧Below w.heap.size w w':=by
  go_enter Tryz.func127,Tryz.ntmps127
  go_wp2
  go_ret
  exact ⟨rfl,heap_alloc_new w _,(Below.refl _ _).alloc (Nat.le_refl _) _⟩
theorem baL_append (a b:List UInt8):baL a ++ baL b=baL (a ++ b):=by
  apply ByteArray.ext
  simp [baL,ByteArray.data_append]
set_option maxRecDepth 100000 in
set_option maxHeartbeats 1000000 in
theorem logSector_any (b:Nat)(g:Lg)(i:Nat)(k:UInt8)(data:List UInt8)(w:World)(h:LogAt w b g)(hf:g.first≤4000000)(hi:i≤1000)(hd:data.length≤100) :
    Calls Tryz.prog 194 #[.pointer (some ⟨b,0,none⟩),.int .i64 i,.string ⟨#[k]⟩,.string (baL data)] w fun e w'=>e=.returned (.string (baL (secL k (g.first+i) data)))∧Below w.heap.size w w':=by
  have HL:Hid (LogAt w b g):=h
  have hz1:(⟨#[k]⟩:ByteArray).size=1:=rfl
  have hz2:(baL (leB 4 (g.first+i))).size=4:=by rw [baL_size,leB_length]
  have hz3:(baL data).size=data.length:=baL_size data
  have hz4:(baL (leB 2 data.length)).size=2:=by rw [baL_size,leB_length]
  have HJ:Hid ((⟨#[k]⟩:ByteArray) ++ baL (leB 4 (g.first+i)) ++ baL (leB 2 data.length) ++ baL data=baL (secL k (g.first+i) data)):=by
    show _=_
    rw [show (⟨#[k]⟩:ByteArray)=baL [k] from rfl,baL_append,baL_append,baL_append]
    congr 1
  have KN:Hid _:=logNumber_any b g i w h hf hi
  have KB:Hid (∀ W,Calls Tryz.prog 158 #[.int .u64 data.length,.int .i64 2] W fun e w'=>e=.returned (.string (baL (leB 2 data.length)))∧Below W.heap.size W w'):=fun W=>numBytes_any data.length 2 W (by omega) (by omega)
  clear h
  generalize baL (leB 4 (g.first+i))=Z at *
  generalize baL (leB 2 data.length)=Y at *
  generalize baL (secL k (g.first+i) data)=R at *
  generalize hX:baL data=X at *
  generalize hK1:(⟨#[k]⟩:ByteArray)=K1 at *
  go_enter Tryz.func194,Tryz.ntmps194
  go_wp2_with fail
  refine Calls.mono KN.out ?_
  rintro e w1 ⟨rfl,hb⟩
  have HB1:Hid (Below w.heap.size w w1):=hb
  clear hb KN
  go_wp2_with fail
  refine Calls.mono (KB.out w1) ?_
  rintro e w2 ⟨rfl,hb⟩
  have HB2:Hid (Below w.heap.size w w2):=HB1.out.trans (hb.mono HB1.out.size)
  clear hb KB HB1
  have hz5:(K1 ++ Z).size=5:=by rw [ByteArray.size_append,hz1,hz2]
  have hz6:(K1 ++ Z ++ Y).size=7:=by rw [ByteArray.size_append,hz5,hz4]
  go_wp2
  go_ret
  rw [HJ.out]
  exact ⟨rfl,HB2.out⟩
structure Touch (S:Nat→Prop)(w w':World):Prop where
  os:w'.os=w.os
  tape:w'.tape=w.tape
  output:w'.output=w.output
  size:w.heap.size≤w'.heap.size
  block:∀ k,k<w.heap.size→¬ S k→w'.heap[k]?=w.heap[k]?
theorem Touch.refl (S:Nat→Prop)(w:World):Touch S w w:=⟨rfl,rfl,rfl,Nat.le_refl _,fun _ _ _=>rfl⟩
theorem Touch.trans {S:Nat→Prop}{a b c:World}(h:Touch S a b)(k:Touch S b c):Touch S a c :=
  ⟨k.os.trans h.os,k.tape.trans h.tape,k.output.trans h.output,Nat.le_trans h.size k.size,fun i hi hn=>(k.block i (Nat.lt_of_lt_of_le hi h.size) hn).trans (h.block i hi hn)⟩
theorem Touch.of_below {S:Nat→Prop}{w w':World}(h:Below w.heap.size w w'):Touch S w w':=⟨h.os,h.tape,h.output,h.size,fun k hk _=>h.block k hk⟩
theorem Touch.below {S:Nat→Prop}{w w':World}{C:Nat}(h:Touch S w w')(hS:∀ k,S k→C≤k)(hC:C≤w.heap.size):Below C w w' :=
  ⟨h.os,h.tape,h.output,h.size,fun k hk=>h.block k (by omega) (fun e=>by have:=hS k e;omega)⟩
theorem Tryz.infoChanges:(Tryz.prog.info? 64).map (fun i=>(i.zero,i.size,i.bytes))=some (some (.slice none 0 0),1,24):=by kernel_rfl
structure DS (w:World)(lo base:Nat)(vd vo:Value)(P:List PartC)(opn:List Ch):Prop where
  row:w.ownsRow lo 64 1 vd P.length (P.map PartC.v)
  parts:∀ p ∈ P,w.ownsRow lo 143 3 p.v p.l.length (flatC p.l)
  low:∀ p ∈ P,∀ g,p.v.ownBlock=some g→g<base
  opn:OwnsC w base vo opn
  base:lo≤base∧base≤w.heap.size
theorem DS.far {w w':World}{lo base:Nat}{vd vo:Value}{P:List PartC}{opn:List Ch}(h:DS w lo base vd vo P opn)(hs:w.heap.size≤w'.heap.size)(hk:∀ k C T fr,lo≤k→w.heap[k]?=some (.cells C T fr)→(T=64∨T=143)→w'.heap[k]?=w.heap[k]?):DS w' lo base vd vo P opn:=by
  refine ⟨ownsRow_far h.row (fun g hg=>?_),fun p hp=>ownsRow_far (h.parts p hp) (fun g hg=>?_),h.low,ownsRow_far h.opn (fun g hg=>?_),h.base.1,Nat.le_trans h.base.2 hs⟩
  · obtain ⟨c,f,e⟩:=Lib.ownsRow_kind h.row g hg
    exact hk g c _ f (h.row.lt g hg).1 e (.inl rfl)
  · obtain ⟨c,f,e⟩:=Lib.ownsRow_kind (h.parts p hp) g hg
    exact hk g c _ f ((h.parts p hp).lt g hg).1 e (.inr rfl)
  · obtain ⟨c,f,e⟩:=Lib.ownsRow_kind h.opn g hg
    exact hk g c _ f (Nat.le_trans h.base.1 (h.opn.lt g hg).1) e (.inr rfl)
theorem DS.below {w w':World}{lo base:Nat}{vd vo:Value}{P:List PartC}{opn:List Ch}(h:DS w lo base vd vo P opn)(hb:Below w.heap.size w w'):DS w' lo base vd vo P opn :=
  h.far hb.size (fun k C T fr _ hk _=>hb.block k (Array.getElem?_eq_some_iff.1 hk).1)
theorem DS.more {w w':World}{lo base:Nat}{vd vo v:Value}{P:List PartC}{opn:List Ch}{c:Ch}(h:DS w lo base vd vo P opn)(hg:w.grownBy w' vo.ownBlock)(ho:OwnsC w' base v (opn ++ [c])):DS w' lo base vd v P (opn ++ [c]):=by
  have hk:∀ k,k<w.heap.size→vo.ownBlock≠some k→w'.heap[k]?=w.heap[k]?:=fun k hk hne=>hg.block k hk (fun e=>hne e.symm)
  refine ⟨ownsRow_far h.row (fun g hg'=>hk g (h.row.lt g hg').2 (fun e=>?_)),fun p hp=>ownsRow_far (h.parts p hp) (fun g hg'=>hk g ((h.parts p hp).lt g hg').2 (fun e=>?_)),h.low,ho,h.base.1,Nat.le_trans h.base.2 hg.size⟩
  · obtain ⟨c1,f1,e1⟩:=Lib.ownsRow_kind h.row g hg'
    obtain ⟨c2,f2,e2⟩:=Lib.ownsRow_kind h.opn g e
    rw [e1] at e2;simp at e2
  · have:=h.low p hp g hg'
    have:=(h.opn.lt g e).1
    omega
theorem DS.close {w w':World}{lo base:Nat}{vd v:Value}{oa:Option Addr}{oc:Nat}{P:List PartC}{opn:List Ch}(h:DS w lo base vd (.slice oa opn.length oc) P opn)(hg:w.grownBy w' vd.ownBlock)
    (ho:w'.ownsRow lo 64 1 v (P.length+1) (P.map PartC.v ++ [.slice oa opn.length oc])):DS w' lo w'.heap.size v (.slice none 0 0) (P ++ [⟨oa,oc,opn⟩]) []:=by
  have hk:∀ k,k<w.heap.size→vd.ownBlock≠some k→w'.heap[k]?=w.heap[k]?:=fun k hk hne=>hg.block k hk (fun e=>hne e.symm)
  have hne:∀ (v':Value) (n:Nat) (xs:List Value) (B:Nat),w.ownsRow B 143 3 v' n xs→∀ g,v'.ownBlock=some g→vd.ownBlock≠some g:=fun v' n xs B hv g hg' e=>by
    obtain ⟨c1,f1,e1⟩:=Lib.ownsRow_kind h.row g e
    obtain ⟨c2,f2,e2⟩:=Lib.ownsRow_kind hv g hg'
    rw [e1] at e2;simp at e2
  have hop:w'.ownsRow base 143 3 (.slice oa opn.length oc) opn.length (flatC opn):=ownsRow_far h.opn (fun g hg'=>hk g (h.opn.lt g hg').2 (hne _ _ _ _ h.opn g hg'))
  refine ⟨?_,?_,?_,World.ownsRow_nil _ _ _ _,Nat.le_trans h.base.1 (Nat.le_trans h.base.2 hg.size),Nat.le_refl _⟩
  · rw [List.map_append,List.length_append]
    exact ho
  · intro p hp
    rcases List.mem_append.1 hp with h1 | h1
    · exact ownsRow_far (h.parts p h1) (fun g hg'=>hk g ((h.parts p h1).lt g hg').2 (hne _ _ _ _ (h.parts p h1) g hg'))
    · simp at h1
      subst h1
      exact OwnsC.base hop h.base.1
  · intro p hp g hg'
    rcases List.mem_append.1 hp with h1 | h1
    · have:=h.low p h1 g hg'
      have:=h.base.2
      have:=hg.size
      omega
    · simp at h1
      subst h1
      have:=(hop.lt g hg').2
      exact this
def rdC (t:List UInt8):Option Ch:=readC (baL t)
structure LogMid (w wr:World)(b:Nat)(g:Lg)(p:Dp)(d:Dk)(R:List (List UInt8))(i u base:Nat)(vd vo:Value)(P:List PartC)(opn:List Ch):Prop where
  ds:DS wr w.heap.size base vd vo P opn
  log:LogAt wr b { g with used:=u }
  disk:DiskAt wr p d
  touch:Touch (fun k=>k=b) w wr
  run:runL rdC g.first 0 ⟨[],[],0⟩ R=runL rdC g.first i ⟨P.map (·.l),opn,u⟩ (R.drop i)
  few:opn.length≤i∧P.length≤i∧u≤i
theorem LogMid.below {w wr wx:World}{b:Nat}{g:Lg}{p:Dp}{d:Dk}{R:List (List UInt8)}{i u base:Nat}{vd vo:Value}{P:List PartC}{opn:List Ch}(h:LogMid w wr b g p d R i u base vd vo P opn)(hb:Below wr.heap.size wr wx):LogMid w wx b g p d R i u base vd vo P opn :=
  ⟨h.ds.below hb,h.log.below hb,h.disk.far fun k hk=>hb.block k (by
    rcases hk with rfl | rfl | rfl | hk
    · exact (Array.getElem?_eq_some_iff.1 h.disk.blk).1
    · exact (Array.getElem?_eq_some_iff.1 h.disk.now).1
    · exact (Array.getElem?_eq_some_iff.1 h.disk.kept).1
    · exact (h.disk.wr.lt k hk).2),h.touch.trans (Touch.of_below hb),h.run,h.few⟩
theorem secOf_len {num:Nat}{s:List UInt8}{k:UInt8}{t:List UInt8}(h:secOf num s=some (k,t)):t.length≤33:=by
  unfold secOf at h
  split at h
  · rename_i h1
    simp only [Option.some.injEq,Prod.mk.injEq] at h
    rw [← h.2,List.length_take]
    omega
  · cases h
theorem LogAt.neRow {w:World}{b:Nat}{g:Lg}(h:LogAt w b g){B n size:Nat}{T:TypeId}{v:Value}{xs:List Value}(hv:w.ownsRow B T size v n xs)(hT:T≠208):v.ownBlock≠some b:=fun e=>by
  obtain ⟨c,f,e1⟩:=Lib.ownsRow_kind hv b e
  rw [h] at e1
  simp at e1
  exact hT e1.2.1.symm
theorem LogAt.neDisk {w:World}{b:Nat}{g:Lg}{p:Dp}{d:Dk}(h:LogAt w b g)(hd:DiskAt w p d):b≠p.B∧b≠p.gn∧b≠p.gk∧p.wv.ownBlock≠some b:=by
  refine ⟨fun e=>?_,fun e=>?_,fun e=>?_,h.neRow hd.wr (by decide)⟩
  · subst e;unfold LogAt at h;rw [hd.blk] at h;simp at h
  · subst e;unfold LogAt at h;rw [hd.now] at h;simp at h
  · subst e;unfold LogAt at h;rw [hd.kept] at h;simp at h
theorem LogMid.close {w wr w4:World}{b:Nat}{g:Lg}{p:Dp}{d:Dk}{R:List (List UInt8)}{i u base:Nat}{vd v:Value}{oa:Option Addr}{oc:Nat}{P:List PartC}{opn:List Ch}(h:LogMid w wr b g p d R i u base vd (.slice oa opn.length oc) P opn)
    (hg:wr.grownBy w4 vd.ownBlock) (ho:w4.ownsRow w.heap.size 64 1 v (P.length+1) (P.map PartC.v ++ [.slice oa opn.length oc]))
    (hrun:runL rdC g.first i ⟨P.map (·.l),opn,u⟩ (R.drop i)=runL rdC g.first (i+1) ⟨P.map (·.l) ++ [opn],[],i+1⟩ (R.drop (i+1))) :
    LogMid w (w4.setCell ⟨b,4,none⟩ (.int .i64 ((i:Int)+1))) b g p d R (i+1) (i+1) (w4.setCell ⟨b,4,none⟩ (.int .i64 ((i:Int)+1))).heap.size v (.slice none 0 0) (P ++ [⟨oa,oc,opn⟩]) []∧w4.cell? ⟨b,4,none⟩=some (.int .i64 u)∧w4.frozen? ⟨b,4,none⟩=false:=by
  have hnb:=h.log.neRow h.ds.row (by decide)
  have hb4:w4.heap[b]?=wr.heap[b]?:=hg.block b h.log.lt (fun e=>hnb e.symm)
  have hs:∀ k,k≠b→(w4.setCell ⟨b,4,none⟩ (.int .i64 ((i:Int)+1))).heap[k]?=w4.heap[k]?:=fun k hk=>Below.heap_setCell w4 ⟨b,4,none⟩ _ k hk
  obtain ⟨n1,n2,n3,n4⟩:=h.log.neDisk h.disk
  have hdk:∀ k,(k=p.B∨k=p.gn∨k=p.gk∨p.wv.ownBlock=some k)→w4.heap[k]?=wr.heap[k]?∧k≠b:=fun k hk=>by
    have hlt:k<wr.heap.size:=by
      rcases hk with rfl | rfl | rfl | hk
      · exact (Array.getElem?_eq_some_iff.1 h.disk.blk).1
      · exact (Array.getElem?_eq_some_iff.1 h.disk.now).1
      · exact (Array.getElem?_eq_some_iff.1 h.disk.kept).1
      · exact (h.disk.wr.lt k hk).2
    refine ⟨hg.block k hlt (fun e=>?_),?_⟩
    · obtain ⟨c,f,e1⟩:=Lib.ownsRow_kind h.ds.row k e.symm
      rcases hk with rfl | rfl | rfl | hk
      · rw [h.disk.blk] at e1;simp at e1
      · rw [h.disk.now] at e1;simp at e1
      · rw [h.disk.kept] at e1;simp at e1
      · obtain ⟨c2,f2,e2⟩:=Lib.ownsRow_kind h.disk.wr k hk;rw [e1] at e2;simp at e2
    · rcases hk with rfl | rfl | rfl | hk
      · exact Ne.symm n1
      · exact Ne.symm n2
      · exact Ne.symm n3
      · intro e;subst e;exact n4 hk
  have hcl:=h.ds.close hg ho
  have hL4:LogAt w4 b { g with used:=u }:=by unfold LogAt;rw [hb4];exact h.log
  refine ⟨⟨?_,?_,h.disk.far (fun k hk=>by rw [hs k (hdk k hk).2,(hdk k hk).1]),?_,?_,?_⟩,?_,?_⟩
  · have hsz:(w4.setCell ⟨b,4,none⟩ (.int .i64 ((i:Int)+1))).heap.size=w4.heap.size:=by simp
    rw [hsz]
    refine hcl.far (Nat.le_of_eq hsz.symm) (fun k C T fr _ hk hT=>hs k (fun e=>?_))
    subst e
    unfold LogAt at hL4
    rw [hL4] at hk
    simp at hk
    rcases hT with e | e <;> (rw [e] at hk;simp at hk)
  · have:=heap_set hL4 4 (.int .i64 ((i:Int)+1))
    exact this
  · refine ⟨hg.os.trans h.touch.os,hg.tape.trans h.touch.tape,hg.output.trans h.touch.output,by have:=hg.size;have:=h.touch.size;simp;omega,fun k hk hn=>?_⟩
    rw [hs k hn,hg.block k (Nat.lt_of_lt_of_le hk h.touch.size) (fun e=>by have:=(h.ds.row.lt k e.symm).1;omega),h.touch.block k hk hn]
  · rw [h.run,hrun,List.map_append]
    rfl
  · have:=h.few;simp;omega
  · rw [World.cell?_of_block (w:=wr) (a:=⟨b,4,none⟩) hb4];exact h.log.cells.2.2.2.2
  · rw [World.frozen?_of_block (w:=wr) (a:=⟨b,4,none⟩) hb4];exact frozen_block h.log 4
theorem LogMid.more {w wr w4:World}{b:Nat}{g:Lg}{p:Dp}{d:Dk}{R:List (List UInt8)}{i u base:Nat}{vd vo v:Value}{P:List PartC}{opn:List Ch}{c:Ch}(h:LogMid w wr b g p d R i u base vd vo P opn)
    (hg:wr.grownBy w4 vo.ownBlock) (ho:OwnsC w4 base v (opn ++ [c])) (hrun:runL rdC g.first i ⟨P.map (·.l),opn,u⟩ (R.drop i)=runL rdC g.first (i+1) ⟨P.map (·.l),opn ++ [c],u⟩ (R.drop (i+1))) :
    LogMid w w4 b g p d R (i+1) u base vd v P (opn ++ [c]):=by
  have hnb:=h.log.neRow h.ds.opn (by decide)
  have hb4:w4.heap[b]?=wr.heap[b]?:=hg.block b h.log.lt (fun e=>hnb e.symm)
  have hdk:∀ k,(k=p.B∨k=p.gn∨k=p.gk∨p.wv.ownBlock=some k)→w4.heap[k]?=wr.heap[k]?:=fun k hk=>by
    have hlt:k<wr.heap.size:=by
      rcases hk with rfl | rfl | rfl | hk
      · exact (Array.getElem?_eq_some_iff.1 h.disk.blk).1
      · exact (Array.getElem?_eq_some_iff.1 h.disk.now).1
      · exact (Array.getElem?_eq_some_iff.1 h.disk.kept).1
      · exact (h.disk.wr.lt k hk).2
    refine hg.block k hlt (fun e=>?_)
    obtain ⟨c,f,e1⟩:=Lib.ownsRow_kind h.ds.opn k e.symm
    rcases hk with rfl | rfl | rfl | hk
    · rw [h.disk.blk] at e1;simp at e1
    · rw [h.disk.now] at e1;simp at e1
    · rw [h.disk.kept] at e1;simp at e1
    · obtain ⟨c2,f2,e2⟩:=Lib.ownsRow_kind h.disk.wr k hk;rw [e1] at e2;simp at e2
  refine ⟨h.ds.more hg ho,by unfold LogAt;rw [hb4];exact h.log,h.disk.far hdk,?_,by rw [h.run,hrun],by have:=h.few;simp;omega⟩
  refine ⟨hg.os.trans h.touch.os,hg.tape.trans h.touch.tape,hg.output.trans h.touch.output,Nat.le_trans h.touch.size hg.size,fun k hk hn=>?_⟩
  rw [hg.block k (Nat.lt_of_lt_of_le hk h.touch.size) (fun e=>by have h1:=(h.ds.opn.lt k e.symm).1;have h2:=h.ds.base.1;omega),h.touch.block k hk hn]
theorem three_at (w:World)(c:Ch)(t:TypeId)(n:Nat)(hn:w.heap.size=n):∀ j u,[Value.string c.key,.string c.val,.bool c.gone][j]?=some u→(w.alloc (.cells #[.string c.key,.string c.val,.bool c.gone] t)).cell? ((⟨n,0,none⟩:Addr).add j)=some u:=by
  subst hn
  intro j u hj
  match j,hj with
  | 0,hj=>simp at hj;subst hj;simp [Addr.add]
  | 1,hj=>simp at hj;subst hj;simp [Addr.add]
  | 2,hj=>simp at hj;subst hj;simp [Addr.add]
  | j+3,hj=>simp at hj
theorem one_oneV (a:Option Addr)(n c:Nat):∀ u ∈ [Value.slice a n c],u.oneCell'=true:=by
  intro u hu
  simp at hu
  subst hu;rfl
def DeedsEnd (w:World)(b:Nat)(g:Lg)(p:Dp)(d:Dk)(e:Ending)(w':World):Prop :=
  ∃ vd vo P base opn,e=.returned (.tuple #[vd,.nilIface])∧DS w' w.heap.size base vd vo P opn∧P.map (·.l)=(logOf rdC d.now g.start g.many g.first).1∧LogAt w' b { g with used:=(logOf rdC d.now g.start g.many g.first).2 }∧DiskAt w' p d∧Touch (fun k=>k=b) w w'∧P.length≤g.many
theorem LogMid.stop {w wr:World}{b:Nat}{g:Lg}{p:Dp}{d:Dk}{i u base:Nat}{vd vo:Value}{P:List PartC}{opn:List Ch}(h:LogMid w wr b g p d (regionL d.now g.start g.many) i u base vd vo P opn)(hi:i≤g.many)(hr:runL rdC g.first i ⟨P.map (·.l),opn,u⟩ ((regionL d.now g.start g.many).drop i)=⟨P.map (·.l),opn,u⟩):DeedsEnd w b g p d (.returned (.tuple #[vd,.nilIface])) wr:=by
  have hrun:=h.run
  rw [hr] at hrun
  refine ⟨vd,vo,P,base,opn,rfl,h.ds,?_,?_,h.disk,h.touch,by have:=h.few;omega⟩
  · simp only [logOf,closedL,hrun]
  · simp only [logOf,closedL,hrun]
    exact h.log
set_option maxRecDepth 100000 in
set_option maxHeartbeats 4000000 in
theorem logDeeds_any (b:Nat) (g:Lg) (p:Dp) (d:Dk) (w:World) (hl:LogAt w b g) (hg:LgOk g) (hu:g.used=0) (hd:DiskAt w p d) (hB:g.dB=p.B) (hup:d.down=false) (hin:g.start+g.many≤d.now.length) :
    Calls Tryz.prog 128 #[.pointer (some ⟨b,0,none⟩)] w (DeedsEnd w b g p d):=by
  have HL:Hid (LogAt w b g):=hl
  have HG:Hid (LgOk g):=hg
  have HD:Hid (DiskAt w p d):=hd
  have HBB:Hid (g.dB=p.B):=hB
  have HIN:Hid (g.start+g.many≤d.now.length):=hin
  have h60:=hg.start
  obtain ⟨c0,c1,c2,c3,c4⟩:=hl.cells
  have HM:Hid (LogMid w w b g p d (regionL d.now g.start g.many) 0 0 w.heap.size (.slice none 0 0) (.slice none 0 0) [] []) :=
    ⟨⟨World.ownsRow_nil _ _ _ _,fun p hp=>by simp at hp,fun p hp=>by simp at hp,World.ownsRow_nil _ _ _ _,Nat.le_refl _,Nat.le_refl _⟩,by rw [← hu];exact hl,hd,Touch.refl _ _,rfl,by simp⟩
  clear hl hg hd hB hin hu
  go_enter Tryz.func128,Tryz.ntmps128
  go_wp2_with fail
  go_loopg [4,5,17] (g.many+1) (fun kx vd vo vi wr=>∃ (i u base:Nat) (P:List PartC) (opn:List Ch),vi=.int .i64 i∧i≤g.many∧g.many - i≤kx∧Hid (LogMid w wr b g p d (regionL d.now g.start g.many) i u base vd vo P opn))
  case atStart=>exact ⟨0,0,w.heap.size,[],[],rfl,by omega,by omega,HM⟩
  case round =>
    obtain ⟨i,u,base,P,opn,rfl,hi,hix,HR⟩:=hrel
    clear HM c0 c1 c2 c3 c4
    by_cases hlt:i<g.many
    · have hltz : (i:Int)<(g.many:Int):=by omega
      obtain ⟨c0,c1,c2,c3,c4⟩:=HR.out.log.cells
      simp only at c0 c1 c2 c3 c4
      have hin:g.start+i<d.now.length:=by have:=HIN.out;omega
      obtain ⟨sec,hsec⟩:∃ s,s=d.now[g.start+i]:=⟨_,rfl⟩
      have h40:sec.length=40:=by rw [hsec];exact HD.out.snow _ (List.getElem_mem hin)
      have HRD:Hid (readD d ((g.start:Int)+(i:Int))=(sec,0)):=by
        show _=_
        unfold readD
        rw [if_neg (by rw [hup];decide),if_pos (by omega),show ((g.start:Int)+(i:Int)).toNat=g.start+i by omega,hsec]
        simp [hin]
      have HDR:Hid ((regionL d.now g.start g.many).drop i=sec :: (regionL d.now g.start g.many).drop (i+1)):=by
        show _=_
        have hlen:=regionL_length HIN.out
        rw [List.drop_eq_getElem_cons (by omega)]
        congr 1
        have:=regionL_at (now:=d.now) (from':=g.start) (many:=g.many) (j:=i)
        rw [if_pos hlt,List.getElem?_eq_getElem (by omega),List.getElem?_eq_getElem hin] at this
        rw [hsec]
        exact Option.some.inj this
      have some':=Later.ne wr
      have p0:=Later.cell c0
      have p1:=Later.cell c1
      rw [HBB.out] at p0
      have KR:Hid (∀ pl:Later wr,Calls Tryz.prog 160 #[.pointer (some ⟨p.B,0,none⟩),.int .i64 ((g.start:Int)+(i:Int))] pl.W fun e w'=>e=.returned (.tuple #[.string (baL sec),.nilIface])∧w'=pl.W):=fun pl=>by
        have h:=diskRead_any p d ((g.start:Int)+(i:Int)) pl.W (HR.out.below pl.h).disk
        rw [HRD.out,errV_zero rfl] at h
        exact h
      clear hsec c0 c1 c2 c3 c4
      obtain ⟨S,hS⟩:∃ S,S=baL sec:=⟨_,rfl⟩
      rw [← hS] at KR
      have HS:Hid _:=hS
      have hs40:S.size=40:=by rw [hS,baL_size,h40]
      clear hS
      go_wp2_with fail
      refine wp_region_later (by kernel_rfl) (by kernel_rfl) ?_
      repeat (go_big_quiet_step ((go_at_call 160;exact later_same _ (KR.out _))))
      refine wpQuiet_nil ?_
      rintro _ ⟨pl,rfl⟩
      have HR1:Hid _:=HR.out.below pl.h
      obtain ⟨W1,hW1⟩:∃ u,u=pl.W:=⟨_,rfl⟩
      rw [← hW1] at HR1
      rw [← hW1]
      clear hW1 pl p0 p1 some' KR HR
      have hSd:S.data.toList=sec:=by rw [HS.out];rfl
      have kw:=logWritten_any b { g with used:=u } i S W1 HR1.out.log HG.out.first (by omega) hs40
      rw [hSd] at kw
      obtain ⟨oa,oc,hvo,-,-,-,-,-⟩:=OwnsC.files HR1.out.ds.opn
      obtain ⟨i0,hif,hz0,hz1,hz2⟩:=info_parts Tryz.infoChanges
      obtain ⟨j0,hjf,jz0,jz1,jz2⟩:=info_parts Tryz.infoChange
      subst hvo
      clear hSd HS
      cases hso:secOf (g.first+i) sec with
      | none =>
        have e0:writtenL (g.first+i) sec=(⟨#[]⟩,⟨#[]⟩):=by unfold writtenL;rw [hso]
        simp only [e0] at kw
        have HEND:Hid _:=HR1.out.stop (by omega) (by rw [HDR.out];simp [runL,stepL,hso])
        have HSTOP:Hid (∀ W,Below W1.heap.size W1 W→DeedsEnd w b g p d (.returned (.tuple #[u4,.nilIface])) W):=fun W hb=>(HR1.out.below hb).stop (by omega) (by rw [HDR.out];simp [runL,stepL,hso])
        have KW:Hid _:=kw
        clear kw e0 hso
        go_wp2_with fail
        refine Calls.mono KW.out ?_
        rintro en w2 ⟨rfl,hb⟩
        have HB2:Hid _:=hb
        clear hb KW
        go_wp2
        go_ret2
        exact HSTOP.out _ HB2.out
      | some kt =>
        obtain ⟨k,t⟩:=kt
        have e0:writtenL (g.first+i) sec=(⟨#[k]⟩,baL t):=by unfold writtenL;rw [hso]
        simp only [e0] at kw
        have ht33:=secOf_len hso
        have hK:(⟨#[k]⟩:ByteArray).toList=[k]:=by rw [ba_toList]
        have hTz:(baL t).size≤33:=by rw [baL_size];exact ht33
        have hT:baL t=baL t:=rfl
        generalize hK1:(⟨#[k]⟩:ByteArray)=K1 at *
        generalize hT1:baL t=T at kw hTz
        have HT1:Hid (baL t=T):=hT1
        have KW:Hid _:=kw
        clear kw e0 hT hT1 hK1
        by_cases k99:k=99
        · have q1:(K1.toList == [99])=true:=by rw [hK,k99];rfl
          have q2:(K1.toList == [111])=false:=by rw [hK,k99];rfl
          clear hK
          by_cases ht:t=leB 4 opn.length
          · have KC:Hid (∀ W,Calls Tryz.prog 166 #[.int .i64 opn.length] W fun e w'=>e=.returned (.string T)∧Below W.heap.size W w'):=fun W=>by
              rw [← HT1.out,ht]
              exact logCount_any opn.length W (by have:=HR1.out.few;omega)
            have HRUN:Hid (runL rdC g.first i ⟨P.map (·.l),opn,u⟩ ((regionL d.now g.start g.many).drop i)=runL rdC g.first (i+1) ⟨P.map (·.l) ++ [opn],[],i+1⟩ ((regionL d.now g.start g.many).drop (i+1))):=by
              show _=_
              rw [HDR.out]
              simp [runL,stepL,hso,k99,ht]
            clear hso k99 ht
            go_wp2_with fail
            refine Calls.mono KW.out ?_
            rintro en w2 ⟨rfl,hb⟩
            have HB2:Hid (Below W1.heap.size W1 w2):=hb
            clear hb KW
            go_wp2_with fail
            refine Calls.mono (KC.out w2) ?_
            rintro en w3 ⟨rfl,hb⟩
            have HR3:Hid _:=HR1.out.below (HB2.out.trans (hb.mono HB2.out.size))
            have hP:P.length≤60:=by have:=HR1.out.few;omega
            have HRA:Hid (∀ o,LogMid w (w3.alloc o) b g p d (regionL d.now g.start g.many) i u base u4 (.slice oa opn.length oc) P opn):=fun o=>HR3.out.below ((Below.refl _ _).alloc (Nat.le_refl _) o)
            have hlo:∀ o,w.heap.size≤(w3.alloc o).heap.size:=fun o=>(HRA.out o).touch.size
            have HLO:Hid _:=hlo
            clear hb KC HB2 hlo
            go_wp2_with (at_builtin;refine wpList_append_own _ rfl _ _ 157 rfl w.heap.size 64 i0 _ 1 24 (by kernel_rfl) hif hz0 hz1 hz2 rfl (by decide) u4 P.length (P.map PartC.v) rfl (HRA.out _).ds.row ⟨w3.heap.size,0,none⟩ 1 1 [.slice oa opn.length oc] rfl rfl (cell_one_new _ _ _) (one_oneV _ _ _) (by unfold maxLen;omega) (by omega) (HLO.out _) ?_;intro v' w4 hown4 hgrow4 hnil4;obtain ⟨xa,xc,rfl⟩:=row_shape hown4;obtain ⟨hA,hc1,hc2⟩:=(HRA.out _).close hgrow4 hown4 HRUN.out;have HA:Hid _:=hA;clear hA hown4 hgrow4 hnil4)
            go_roundg (g.many - (i+1))
            case measure=>omega
            case rel=>exact ⟨i+1,i+1,_,P ++ [⟨oa,oc,opn⟩],[],by go_num,by omega,Nat.le_refl _,HA⟩
          · have KC:Hid (∀ W,Calls Tryz.prog 166 #[.int .i64 opn.length] W fun e w'=>e=.returned (.string (baL (leB 4 opn.length)))∧Below W.heap.size W w'):=fun W=>logCount_any opn.length W (by have:=HR1.out.few;omega)
            have qz:(T.toList == (baL (leB 4 opn.length)).toList)=false:=by
              rw [beq_eq_false_iff_ne,← HT1.out,ba_toList,ba_toList]
              exact fun h=>ht h
            have HSTOP:Hid (∀ W,Below W1.heap.size W1 W→DeedsEnd w b g p d (.returned (.tuple #[u4,.nilIface])) W):=fun W hb=>(HR1.out.below hb).stop (by omega) (by rw [HDR.out];simp [runL,stepL,hso,k99,ht])
            generalize baL (leB 4 opn.length)=Z at *
            clear hso k99 ht
            go_wp2_with fail
            refine Calls.mono KW.out ?_
            rintro en w2 ⟨rfl,hb⟩
            have HB2:Hid (Below W1.heap.size W1 w2):=hb
            clear hb KW
            go_wp2_with fail
            refine Calls.mono (KC.out w2) ?_
            rintro en w3 ⟨rfl,hb⟩
            have HB3:Hid (Below W1.heap.size W1 w3):=HB2.out.trans (hb.mono HB2.out.size)
            clear hb KC
            go_wp2
            go_ret2
            exact HSTOP.out _ HB3.out
        · have q1:(K1.toList == [99])=false:=by rw [hK,beq_eq_false_iff_ne];intro h;injection h with h;exact k99 h
          by_cases k111:k=111
          · have q2:(K1.toList == [111])=true:=by rw [hK,k111];rfl
            clear hK
            have kp:=fun W=>rowParse_any T W (by omega)
            cases hrd:readC T with
            | none =>
              rw [hrd,partsN_none hrd,errV_pos (by decide)] at kp
              have KP:Hid (∀ W,Calls _ _ _ W _):=kp
              have hrd2:rdC t=none:=by unfold rdC;rw [HT1.out];exact hrd
              have HSTOP:Hid (∀ W,Below W1.heap.size W1 W→DeedsEnd w b g p d (.returned (.tuple #[u4,.nilIface])) W):=fun W hb=>(HR1.out.below hb).stop (by omega) (by rw [HDR.out];simp [runL,stepL,hso,k111,hrd2])
              clear kp hso k99 k111 hrd hrd2
              go_wp2_with fail
              refine Calls.mono KW.out ?_
              rintro en w2 ⟨rfl,hb⟩
              have HB2:Hid (Below W1.heap.size W1 w2):=hb
              clear hb KW
              go_wp2_with fail
              refine Calls.mono (KP.out w2) ?_
              rintro en w3 ⟨rfl,hb⟩
              have HB3:Hid (Below W1.heap.size W1 w3):=HB2.out.trans (hb.mono HB2.out.size)
              clear hb KP
              go_wp2
              go_ret2
              exact HSTOP.out _ (HB3.out.alloc HB3.out.size _)
            | some c =>
              rw [hrd,partsN_some hrd,errV_zero rfl] at kp
              simp only [Option.getD_some] at kp
              have KP:Hid (∀ W,Calls _ _ _ W _):=kp
              have hrd2:rdC t=some c:=by unfold rdC;rw [HT1.out];exact hrd
              have HRUN:Hid (runL rdC g.first i ⟨P.map (·.l),opn,u⟩ ((regionL d.now g.start g.many).drop i)=runL rdC g.first (i+1) ⟨P.map (·.l),opn ++ [c],u⟩ ((regionL d.now g.start g.many).drop (i+1))):=by
                show _=_
                rw [HDR.out]
                simp [runL,stepL,hso,k111,hrd2]
              clear kp hso k99 k111 hrd hrd2
              go_wp2_with fail
              refine Calls.mono KW.out ?_
              rintro en w2 ⟨rfl,hb⟩
              have HB2:Hid (Below W1.heap.size W1 w2):=hb
              clear hb KW
              go_wp2_with fail
              refine Calls.mono (KP.out w2) ?_
              rintro en w3 ⟨rfl,hb⟩
              have HR3:Hid _:=HR1.out.below (HB2.out.trans (hb.mono HB2.out.size))
              have hO:opn.length≤60:=by have:=HR1.out.few;omega
              have HRA:Hid (∀ o o',LogMid w ((w3.alloc o).alloc o') b g p d (regionL d.now g.start g.many) i u base u4 (.slice oa opn.length oc) P opn):=fun o o'=>(HR3.out.below ((Below.refl _ _).alloc (Nat.le_refl _) o)).below ((Below.refl _ _).alloc (Nat.le_refl _) o')
              have HLO:Hid (∀ o o',base≤((w3.alloc o).alloc o').heap.size):=fun o o'=>(HRA.out o o').ds.base.2
              clear hb KP HB2
              go_wp2_with (at_builtin;refine wpList_append_own _ rfl _ _ 64 rfl base 143 j0 _ 3 40 (by kernel_rfl) hjf jz0 jz1 jz2 rfl (by decide) (.slice oa opn.length oc) opn.length (flatC opn) rfl (HRA.out _ _).ds.opn ⟨w3.heap.size+1,0,none⟩ 1 1 [.string c.key,.string c.val,.bool c.gone] rfl rfl (three_at _ _ _ _ (by simp)) (threeC_one _) (by unfold maxLen;omega) (by omega) (HLO.out _ _) ?_;intro v' w4 hown4 hgrow4 hnil4;obtain ⟨xa,xc,rfl⟩:=row_shape hown4;have HA:Hid _:=(HRA.out _ _).more hgrow4 (OwnsC.snoc hown4) HRUN.out;clear hown4 hgrow4 hnil4)
              go_roundg (g.many - (i+1))
              case measure=>omega
              case rel=>exact ⟨i+1,u,base,P,opn ++ [c],by go_num,by omega,Nat.le_refl _,HA⟩
          · have q2:(K1.toList == [111])=false:=by rw [hK,beq_eq_false_iff_ne];intro h;injection h with h;exact k111 h
            clear hK
            have HSTOP:Hid (∀ W,Below W1.heap.size W1 W→DeedsEnd w b g p d (.returned (.tuple #[u4,.nilIface])) W):=fun W hb=>(HR1.out.below hb).stop (by omega) (by rw [HDR.out];simp [runL,stepL,hso,k99,k111])
            clear hso k99 k111
            go_wp2_with fail
            refine Calls.mono KW.out ?_
            rintro en w2 ⟨rfl,hb⟩
            have HB2:Hid (Below W1.heap.size W1 w2):=hb
            clear hb KW
            go_wp2
            go_ret2
            exact HSTOP.out _ HB2.out
    · have e:i=g.many:=by omega
      have HSTOP:Hid (DeedsEnd w b g p d (.returned (.tuple #[u4,.nilIface])) wr):=HR.out.stop hi (by rw [List.drop_eq_nil_of_le (by rw [regionL_length HIN.out];omega)];rfl)
      go_wp2
      go_ret2
      exact HSTOP.out
def OpenEnd (w:World)(p:Dp)(d:Dk)(start many first:Nat)(e:Ending)(w':World):Prop :=
  ∃ b vd vo P base opn,e=.returned (.tuple #[.pointer (some ⟨b,0,none⟩),vd,.nilIface])∧w.heap.size≤b∧LogAt w' b ⟨p.B,start,many,first,(logOf rdC d.now start many first).2⟩∧DS w' w.heap.size base vd vo P opn∧P.map (·.l)=(logOf rdC d.now start many first).1∧DiskAt w' p d∧Below w.heap.size w w'∧P.length≤many
theorem DS.base0 {w:World}{lo lo' base:Nat}{vd vo:Value}{P:List PartC}{opn:List Ch}(h:DS w lo base vd vo P opn)(hl:lo'≤lo):DS w lo' base vd vo P opn:=by
  have hb:∀ {B B':Nat} {T:TypeId} {size n:Nat} {v:Value} {xs:List Value},w.ownsRow B T size v n xs→B'≤B→w.ownsRow B' T size v n xs:=fun h hB=>by
    refine ⟨h.1,?_⟩
    rcases h.2 with h0 | ⟨g,cap,cur,e,hg,rest⟩
    · exact .inl h0
    · exact .inr ⟨g,cap,cur,e,by omega,rest⟩
  exact ⟨hb h.row hl,fun p hp=>hb (h.parts p hp) hl,h.low,h.opn,Nat.le_trans hl h.base.1,h.base.2⟩
set_option maxRecDepth 100000 in
set_option maxHeartbeats 1000000 in
theorem logOpen_good (p:Dp)(d:Dk)(start many first:Nat)(w:World)(hd:DiskAt w p d)(hup:d.down=false)(hm:1≤many)(hf:1≤first)(hf2:first≤4000000)(hin:start+many≤d.now.length) :
    Calls Tryz.prog 89 #[.pointer (some ⟨p.B,0,none⟩),.int .i64 start,.int .i64 many,.int .i64 first] w (OpenEnd w p d start many first):=by
  have h60:=hd.few
  have HD:Hid (DiskAt w p d):=hd
  have KS:Hid _:=sectors_any p d w hd
  have h1:¬ ((start:Int)<0):=by omega
  have h2:¬ ((many:Int)<1):=by omega
  have h3:¬ ((first:Int)<1):=by omega
  have h4:¬ ((d.now.length:Int) - (start:Int)<(many:Int)):=by omega
  clear hd
  go_enter Tryz.func89,Tryz.ntmps89
  go_wp2_with fail
  refine Calls.mono KS.out ?_
  rintro e w1 ⟨rfl,hw⟩
  rw [hw]
  clear hw w1 KS
  go_wp2_with fail
  refine (logNew_any p.B start many first w).mono ?_
  rintro e w2 ⟨rfl,hl,hb⟩
  have HL2:Hid _:=hl
  have HB2:Hid _:=hb
  have HD2:Hid (DiskAt w2 p d):=HD.out.far fun k hk=>hb.block k (by
    rcases hk with rfl | rfl | rfl | hk
    · exact (Array.getElem?_eq_some_iff.1 HD.out.blk).1
    · exact (Array.getElem?_eq_some_iff.1 HD.out.now).1
    · exact (Array.getElem?_eq_some_iff.1 HD.out.kept).1
    · exact (HD.out.wr.lt k hk).2)
  clear hl hb
  go_wp2_with fail
  refine (logDeeds_any w.heap.size ⟨p.B,start,many,first,0⟩ p d w2 HL2.out ⟨by simp only;omega,hf2,Nat.zero_le _⟩ rfl HD2.out rfl hup hin).mono ?_
  rintro e w3 ⟨vd,vo,P,base,opn,rfl,hds,hP,hlog,hdk,hto,hfew⟩
  have HE:Hid (OpenEnd w p d start many first (.returned (.tuple #[.pointer (some ⟨w.heap.size,0,none⟩),vd,.nilIface])) w3) :=
    ⟨w.heap.size,vd,vo,P,base,opn,rfl,Nat.le_refl _,hlog,hds.base0 HB2.out.size,hP,hdk,HB2.out.trans (hto.below (fun k hk=>by rw [hk];exact Nat.le_refl _) HB2.out.size),hfew⟩
  clear hds hP hlog hdk hto hfew
  go_wp2
  go_ret3
  exact HE.out
end Go.Proofs.YtihnghnafpgdfadGreatDoor
namespace Go.Proofs.YtihnghnafpgdfadGreatDoor
theorem baL_list (l:List UInt8):(baL l).data.toList=l:=by simp [baL]
theorem padD_baL (l:List UInt8):padD (baL l)=pad40 l:=by
  unfold padD pad40
  rw [baL_list,baL_size]
def faultL:List Ch→Int
  | []=>0
  | c :: l=>if changeF c=0 then faultL l else changeF c
theorem faultL_all:∀ {l:List Ch},faultL l=0→∀ c ∈ l,changeF c=0
  | [],_,c,hc=>by cases hc
  | x :: l,h,c,hc=>by
    unfold faultL at h
    split at h
    · rename_i hx
      rcases List.mem_cons.1 hc with rfl | h1
      · exact hx
      · exact faultL_all h c h1
    · rename_i hx;exact absurd h hx
theorem faultL_none:∀ {l:List Ch},(∀ c ∈ l,changeF c=0)→faultL l=0
  | [],_=>rfl
  | x :: l,h=>by
    unfold faultL
    rw [if_pos (h x (by simp))]
    exact faultL_none (fun c hc=>h c (List.mem_cons_of_mem _ hc))
theorem faultL_at:∀ {l:List Ch} {i:Nat} (h:i<l.length),(∀ j (hj:j<i),changeF (l[j]'(by omega))=0)→¬ changeF l[i]=0→faultL l=changeF l[i]
  | x :: l,0,h,_,hx=>by
    unfold faultL
    rw [if_neg (by simpa using hx)]
    rfl
  | x :: l,i+1,h,hb,hx=>by
    unfold faultL
    rw [if_pos (by simpa using hb 0 (by omega))]
    simp only [List.length_cons] at h
    simp only [List.getElem_cons_succ] at hx ⊢
    exact faultL_at (by omega) (fun j hj=>by simpa using hb (j+1) (by omega)) hx
def deedT (first:Nat):Nat→List Ch→Nat→List ByteArray
  | i,[],n=>[baL (secL 99 (first+i) (leB 4 n))]
  | i,c :: l,n=>baL (secL 111 (first+i) (bytesC c)) :: deedT first (i+1) l n
def deedO (first i:Nat)(l:List Ch):List ByteArray:=match l with
  | []=>[]
  | c :: l=>baL (secL 111 (first+i) (bytesC c)) :: deedO first (i+1) l
theorem deedT_cut (first:Nat):∀ (l:List Ch) (i n:Nat),deedT first i l n=deedO first i l ++ [baL (secL 99 (first+(i+l.length)) (leB 4 n))]
  | [],i,n=>rfl
  | c :: l,i,n=>by
    simp only [deedT,deedO,deedT_cut first l,List.cons_append,List.length_cons]
    rw [show i+1+l.length=i+(l.length+1) by omega]
theorem deedO_length (first:Nat):∀ (l:List Ch) (i:Nat),(deedO first i l).length=l.length
  | [],i=>rfl
  | c :: l,i=>by simp [deedO,deedO_length first l]
theorem deedO_snoc (first:Nat):∀ (l:List Ch) (i:Nat) (c:Ch),deedO first i (l ++ [c])=deedO first i l ++ [baL (secL 111 (first+(i+l.length)) (bytesC c))]
  | [],i,c=>rfl
  | x :: l,i,c=>by
    simp only [List.cons_append,deedO,deedO_snoc first l,List.length_cons]
    rw [show i+1+l.length=i+(l.length+1) by omega]
theorem deedT_length (first:Nat)(l:List Ch)(i n:Nat):(deedT first i l n).length=l.length+1:=by
  rw [deedT_cut];simp [deedO_length]
theorem deedT_pad (first:Nat):∀ (l:List Ch) (i n:Nat),(deedT first i l n).map padD=deedS bytesC first i l n
  | [],i,n=>by simp [deedT,deedS,padD_baL]
  | c :: l,i,n=>by simp [deedT,deedS,padD_baL,deedT_pad first l]
theorem bytesC_len {c:Ch}(h:changeF c=0):(bytesC c).length≤26:=by
  obtain ⟨h1,h2,h3,h4⟩:=changeF_good h
  have e1:c.key.toList.length=c.key.size:=by rw [ba_toList,ba_len]
  have e2:c.val.toList.length=c.val.size:=by rw [ba_toList,ba_len]
  simp only [bytesC,List.length_cons,List.length_append,e1,e2]
  omega
theorem deedT_small (first:Nat):∀ (l:List Ch) (i n:Nat),(∀ c ∈ l,changeF c=0)→∀ s ∈ deedT first i l n,s.size≤40
  | [],i,n,_,s,hs=>by
    simp [deedT] at hs
    subst hs
    rw [baL_size,secL_length,leB_length]
    omega
  | c :: l,i,n,h,s,hs=>by
    rw [deedT] at hs
    rcases List.mem_cons.1 hs with rfl | h1
    · rw [baL_size,secL_length]
      have:=bytesC_len (h c (by simp))
      omega
    · exact deedT_small first l (i+1) n (fun x hx=>h x (List.mem_cons_of_mem _ hx)) s h1
theorem rdC_bytesC {c:Ch}(h:changeF c=0):rdC (bytesC c)=some c:=by
  obtain ⟨h1,h2,h3,h4⟩:=changeF_good h
  have e1:c.key.toList.length=c.key.size:=by rw [ba_toList,ba_len]
  have e2:c.val.toList.length=c.val.size:=by rw [ba_toList,ba_len]
  have b0:byteAt (baL (bytesC c)) 0=(goneB c).toNat:=by unfold byteAt;rw [baL_list];rfl
  have b1:byteAt (baL (bytesC c)) 1=c.key.size:=by
    unfold byteAt;rw [baL_list]
    show (UInt8.ofNat c.key.size).toNat=_
    simp;omega
  have hz:(baL (bytesC c)).size=2+c.key.size+c.val.size:=by
    rw [baL_size];simp only [bytesC,List.length_cons,List.length_append,e1,e2];omega
  have g0:(goneB c).toNat≤1∧(((goneB c).toNat:Int) == 1)=c.gone:=by
    unfold goneB
    cases c.gone <;> decide
  have hk:(baL (bytesC c)).extract 2 (2+c.key.size)=c.key:=by
    apply ByteArray.ext
    apply Array.toList_inj.1
    rw [extract_list,baL_list]
    show List.take _ (c.key.toList ++ c.val.toList)=_
    rw [show 2+c.key.size - 2=c.key.toList.length by omega,List.take_left,ba_toList]
  have hv:(baL (bytesC c)).extract (2+c.key.size) (2+c.key.size+c.val.size)=c.val:=by
    apply ByteArray.ext
    apply Array.toList_inj.1
    rw [extract_list,baL_list]
    have e:(bytesC c).drop (2+c.key.size)=c.val.toList:=by
      rw [← List.drop_drop]
      show List.drop _ (c.key.toList ++ c.val.toList)=_
      rw [← e1,List.drop_left]
    rw [e,List.take_of_length_le (by omega),ba_toList]
  have hp:partC (baL (bytesC c))=c:=by
    unfold partC
    rw [b0,b1,hz,hk,hv,g0.2]
  have hb:¬ BadC (baL (bytesC c)):=by
    unfold BadC
    rw [b0,b1,hz]
    omega
  unfold rdC
  rw [readC_good hb (by rw [hp];exact h),hp]
def addD (g:Lg)(d:Dk)(c:List Ch):Dk × Int :=
  if 14<c.length then (d,2) else if g.many - g.used<c.length+1 then (d,7) else if faultL c≠0 then (d,faultL c)
  else if (layD d (g.start+g.used) (List.replicate (min (c.length+2) (g.many - g.used)) ⟨#[]⟩)).2≠0 then layD d (g.start+g.used) (List.replicate (min (c.length+2) (g.many - g.used)) ⟨#[]⟩)
  else layD (layD d (g.start+g.used) (List.replicate (min (c.length+2) (g.many - g.used)) ⟨#[]⟩)).1 (g.start+g.used) (deedT g.first g.used c c.length)
def addG (g:Lg)(d:Dk)(c:List Ch):Lg:=if (addD g d c).2=0 then { g with used:=g.used+c.length+1 } else g
theorem layD_free (d:Dk)(a:Nat)(l:List ByteArray)(hup:d.down=false)(hfree:d.left<0)(hl:a+l.length≤d.now.length)(hs:∀ s ∈ l,s.size≤40) :
    (layD d a l).2=0∧(layD d a l).1.now=laidL d.now a (l.map padD)∧(layD d a l).1.down=false∧(layD d a l).1.left=d.left∧(layD d a l).1.wr=[]∧Clean (layD d a l).1:=by
  unfold layD
  rcases writesD_any l d a hup hl hs with ⟨k0,km,kl⟩ | ⟨k8,kf,kd,kk,kw⟩
  · rw [if_pos k0]
    rcases stepN_cases _ km.up with ⟨h8,hl0,hst⟩ | ⟨h0,hl0,hnow,hkept,hwr,hbit,hdn,hleft⟩
    · have:=kl hfree;omega
    · have e:flushD (writesD d a l).1={ stepD (writesD d a l).1 with kept:=(writesD d a l).1.now,wr:=[],bit:=0 }:=by unfold flushD;rw [if_pos h0]
      simp only [e]
      refine ⟨h0,by rw [← km.now];exact hnow,hdn,?_,trivial,⟨hnow.symm,rfl,hdn⟩⟩
      show (stepD (writesD d a l).1).left=d.left
      rw [hleft,kl hfree,if_neg (by omega)]
  · omega
theorem addD_free {g:Lg}{d:Dk}{c:List Ch}{D:List (List Ch)}(hg:LgOk g)(hf:1≤g.first)(hin:g.start+g.many≤d.now.length)(hup:d.down=false)(hfree:d.left<0)(h14:¬ 14<c.length)(hroom:¬ g.many - g.used<c.length+1)(hok:faultL c=0)
    (hlog:logOf rdC d.now g.start g.many g.first=(D,g.used)) :
    (addD g d c).2=0∧(addD g d c).1.down=false∧(addD g d c).1.left=d.left∧(addD g d c).1.wr=[]∧(addD g d c).1.now.length=d.now.length∧logOf rdC (addD g d c).1.now g.start g.many g.first=(D ++ [c],g.used+c.length+1):=by
  have h1:=hg.start
  have h2:=hg.used
  have h3:=hg.first
  unfold addD
  rw [if_neg h14,if_neg hroom,if_neg (by simpa using hok)]
  obtain ⟨m,hm⟩:∃ m,m=min (c.length+2) (g.many - g.used):=⟨_,rfl⟩
  rw [← hm]
  obtain ⟨k1,k2,k3,k4,k5,k6⟩:=layD_free d (g.start+g.used) (List.replicate m ⟨#[]⟩) hup hfree (by simp;omega) (by intro s hs;rw [List.eq_of_mem_replicate hs];decide)
  rw [if_neg (by simpa using k1)]
  have hl1:(layD d (g.start+g.used) (List.replicate m ⟨#[]⟩)).1.now.length=d.now.length:=by rw [k2,laidL_length]
  obtain ⟨q1,q2,q3,q4,q5,q6⟩:=layD_free (layD d (g.start+g.used) (List.replicate m ⟨#[]⟩)).1 (g.start+g.used) (deedT g.first g.used c c.length) k3 (by rw [k4];exact hfree) (by rw [hl1,deedT_length];omega) (deedT_small _ _ _ _ (faultL_all hok))
  refine ⟨q1,q3,by rw [q4,k4],q5,by rw [q2,laidL_length,hl1],?_⟩
  rw [q2,k2,deedT_pad,List.map_replicate]
  have e:padD ⟨#[]⟩=blank:=by decide
  rw [e]
  exact log_laid rdC (firstOk hf (by omega)) (by omega) hin hm (by omega) hlog (fun x hx=>⟨rdC_bytesC (faultL_all hok x hx),by have:=bytesC_len (faultL_all hok x hx);omega⟩)
end Go.Proofs.YtihnghnafpgdfadGreatDoor
namespace Go.Proofs.YtihnghnafpgdfadGreatDoor
open Go.RowKit Go.BigFrame
def dOwn (p:Dp)(k:Nat):Prop:=k=p.B∨k=p.gn∨k=p.gk∨p.wv.ownBlock=some k
theorem Near.touch {p:Dp}{w w':World}(h:Near p w w'):Touch (dOwn p) w w':=⟨h.os,h.tape,h.output,h.size,fun k hk hn=>h.block k hk (fun e=>hn (.inl e)) (fun e=>hn (.inr (.inl e))) (fun e=>hn (.inr (.inr (.inl e)))) (fun e=>hn (.inr (.inr (.inr e))))⟩
theorem Touch.step {p p':Dp}{a b c:World}(h:Touch (dOwn p) a b)(k:Touch (dOwn p') b c)(hB:p'.B=p.B)(hn:p'.gn=p.gn)(hk:p'.gk=p.gk)(hv:NewTo p a p'.wv):Touch (dOwn p) a c :=
  ⟨k.os.trans h.os,k.tape.trans h.tape,k.output.trans h.output,Nat.le_trans h.size k.size,fun i hi hno=>by
    refine (k.block i (Nat.lt_of_lt_of_le hi h.size) (fun ho=>?_)).trans (h.block i hi hno)
    rcases ho with e | e | e | e
    · exact hno (.inl (by rw [e,hB]))
    · exact hno (.inr (.inl (by rw [e,hn])))
    · exact hno (.inr (.inr (.inl (by rw [e,hk]))))
    · rcases hv i e with e | e
      · exact hno (.inr (.inr (.inr e)))
      · omega⟩
theorem DiskAt.kind {w:World}{p:Dp}{d:Dk}(h:DiskAt w p d){k:Nat}(hk:dOwn p k):∃ C T fr,w.heap[k]?=some (.cells C T fr)∧(T=78∨T=84∨T=86):=by
  rcases hk with rfl | rfl | rfl | hk
  · exact ⟨_,_,_,h.blk,.inl rfl⟩
  · exact ⟨_,_,_,h.now,.inr (.inl rfl)⟩
  · exact ⟨_,_,_,h.kept,.inr (.inl rfl)⟩
  · obtain ⟨c,f,e⟩:=Lib.ownsRow_kind h.wr k hk;exact ⟨c,_,f,e,.inr (.inr rfl)⟩
theorem Touch.other {w w':World}{p:Dp}{d:Dk}(h:Touch (dOwn p) w w')(hd:DiskAt w p d){k:Nat}{C:Array Value}{T:TypeId}{fr:Nat × Nat}(hk:w.heap[k]?=some (.cells C T fr))(hT:T≠78∧T≠84∧T≠86):w'.heap[k]?=w.heap[k]? :=
  h.block k (Array.getElem?_eq_some_iff.1 hk).1 (fun ho=>by
    obtain ⟨C',T',fr',e,hT'⟩:=hd.kind ho
    rw [hk] at e
    simp at e
    rcases hT' with e' | e' | e'
    · exact hT.1 (by rw [e.2.1,e'])
    · exact hT.2.1 (by rw [e.2.1,e'])
    · exact hT.2.2 (by rw [e.2.1,e']))
theorem LogAt.touch {w w':World}{p:Dp}{d:Dk}{b:Nat}{g:Lg}(h:LogAt w b g)(hd:DiskAt w p d)(ht:Touch (dOwn p) w w'):LogAt w' b g:=by
  have:=ht.other hd h (by decide)
  unfold LogAt at h ⊢
  rw [this];exact h
theorem OwnsS.touch {w w':World}{p:Dp}{d:Dk}{B:Nat}{v:Value}{l:List ByteArray}(h:OwnsS w B v l)(hd:DiskAt w p d)(ht:Touch (dOwn p) w w'):OwnsS w' B v l :=
  ownsRow_far h (fun g hg=>by obtain ⟨c,f,e⟩:=Lib.ownsRow_kind h g hg;exact ht.other hd e (by decide))
theorem writesD_step {d:Dk}{a:Nat}{l:List ByteArray}{i:Nat}(hi:i<l.length):writesD d (a+i) (l.drop i)=if writeN d ((a+i:Nat):Int) l[i]=0 then writesD (writeD d ((a+i:Nat):Int) l[i]) (a+(i+1)) (l.drop (i+1)) else (writeD d ((a+i:Nat):Int) l[i],writeN d ((a+i:Nat):Int) l[i]):=by
  rw [List.drop_eq_getElem_cons hi,writesD]
  rfl
theorem writeD_len (d:Dk)(k:Int)(s:ByteArray):(writeD d k s).wr.length≤d.wr.length+1:=by
  unfold writeD
  have h:=(stepD_rest d).2.2.1
  split
  · omega
  · split
    · simp
    · rw [h];omega
structure LayAt (w w':World)(b:Nat)(g:Lg)(p:Dp)(u:Value)(D:Dk)(few:Nat):Prop where
  disk:DiskAt w' { p with wv:=u } D
  touch:Touch (dOwn p) w w'
  new:NewTo p w u
  log:LogAt w' b g
  few:D.wr.length≤few
theorem wrap_near {z:Int}(h:0≤z∧z≤1000000):IntKind.i64.wrap z=z:=by rw [IntKind.wrap_i64];omega
theorem wrap_two (a b i:Nat)(h:a+b+i≤1000000):IntKind.i64.wrap (IntKind.i64.wrap ((a:Int)+(b:Int))+(i:Int))=((a+b+i:Nat):Int):=by
  rw [wrap_near (z:=(a:Int)+(b:Int)) (by omega),wrap_near (by omega)]
  omega
theorem few_lt {a n i:Nat}(h:a+n<120)(hi:i<n):a+i<120:=by omega
theorem DiskAt.drew {w:World}{p:Dp}{d:Dk}(h:DiskAt w p d):DiskAt w.drew p d:=h.far fun k _=>rfl
theorem layWrite {w wr:World}{b:Nat}{g:Lg}{p:Dp}{u:Value}{D d:Dk}{few:Nat}(h:LayAt w wr b g p u D few)(hl:LogAt w b g)(hd:DiskAt w p d)(k:Nat)(s:ByteArray)(hs:s.size≤1000)(hfew:few<120) :
    Calls Tryz.prog 28 #[.pointer (some ⟨p.B,0,none⟩),.int .i64 k,.string s] wr.drew fun e w'=>e=.returned (errV (writeN D (k:Int) s))∧∃ v,LayAt w w' b g p v (writeD D (k:Int) s) (few+1):=by
  refine (diskWrite_new { p with wv:=u } D (k:Int) s wr.drew h.disk.drew (by unfold maxLen;omega) (by have:=h.few;omega)).mono ?_
  rintro e w5 ⟨he,u',hd5,hn5,hnew5⟩
  have hT5:Touch (dOwn { p with wv:=u }) wr w5:=⟨hn5.os,hn5.tape,hn5.output,hn5.size,fun k hk hno=>hn5.block k hk (fun e=>hno (.inl e)) (fun e=>hno (.inr (.inl e))) (fun e=>hno (.inr (.inr (.inl e)))) (fun e=>hno (.inr (.inr (.inr e))))⟩
  have hT:Touch (dOwn p) w w5:=h.touch.step hT5 rfl rfl rfl h.new
  refine ⟨he,u',hd5,hT,fun k hk=>?_,hl.touch hd hT,?_⟩
  · rcases hnew5 k hk with e | e
    · exact h.new k e
    · exact .inr (Nat.le_trans h.touch.size e)
  · have:=writeD_len D (k:Int) s
    have:=h.few
    omega
set_option maxRecDepth 100000 in
set_option maxHeartbeats 4000000 in
theorem logLay_any (b:Nat) (g:Lg) (p:Dp) (d:Dk) (B:Nat) (v:Value) (ss:List ByteArray) (w:World) (hl:LogAt w b g) (hg:LgOk g) (hd:DiskAt w p d) (hB:g.dB=p.B) (hs:OwnsS w B v ss) (hfew:ss.length≤60) (hz:∀ s ∈ ss,s.size≤1000) (hwr:d.wr.length+ss.length<120) :
    Calls Tryz.prog 153 #[.pointer (some ⟨b,0,none⟩),v] w fun e w'=>e=.returned (errV (layD d (g.start+g.used) ss).2)∧∃ u,DiskAt w' { p with wv:=u } (layD d (g.start+g.used) ss).1∧Touch (dOwn p) w w'∧NewTo p w u:=by
  have HL:Hid (LogAt w b g):=hl
  have HD:Hid (DiskAt w p d):=hd
  have HBB:Hid (g.dB=p.B):=hB
  have HS:Hid (OwnsS w B v ss):=hs
  have HZ:Hid (∀ s ∈ ss,s.size≤1000):=hz
  have h60:=hg.start
  have hus:=hg.used
  have HWR:Hid (d.wr.length+ss.length<120):=hwr
  obtain ⟨sa,sc,rfl,-,-,-,-,-⟩:=OwnsS.texts hs
  clear hl hg hd hB hs hz hwr
  go_enter Tryz.func153,Tryz.ntmps153
  go_wp2_with fail
  go_loopg [10] (ss.length+1) (fun kx vi wr=>∃ (i:Nat) (u:Value) (D:Dk),vi=.int .i64 i∧i≤ss.length∧ss.length - i≤kx∧Hid (writesD d (g.start+g.used) ss=writesD D (g.start+g.used+i) (ss.drop i))∧Hid (LayAt w wr b g p u D (d.wr.length+i)))
  case atStart=>exact ⟨0,p.wv,d,rfl,by omega,by omega,(rfl:writesD d (g.start+g.used) ss=writesD d (g.start+g.used+0) (ss.drop 0)),⟨HD.out,Touch.refl _ _,(fun k hk=>.inl hk),HL.out,Nat.le_refl _⟩⟩
  case round =>
    obtain ⟨i,u,D,rfl,hi,hix,HW,HA⟩:=hrel
    by_cases hlt:i<ss.length
    · have hltz:(i:Int)<(ss.length:Int):=by omega
      obtain ⟨xa,xc,hxv,hstr,-⟩:=OwnsS.texts (HS.out.touch HD.out HA.out.touch)
      injection hxv with e1 e2 e3
      subst e1 e3
      obtain ⟨sb,so,rfl,sc0⟩:=hstr i hlt
      have hsz:ss[i].size≤1000:=HZ.out _ (List.getElem_mem hlt)
      have HST:Hid _:=writesD_step (d:=D) (a:=g.start+g.used) hlt
      have KWr:Hid _:=layWrite HA.out HL.out HD.out (g.start+g.used+i) ss[i] hsz (few_lt HWR.out hlt)
      have KW:Hid (Calls Tryz.prog 28 #[.pointer (some ⟨p.B,0,none⟩),.int .i64 (IntKind.i64.wrap (IntKind.i64.wrap ((g.start:Int)+(g.used:Int))+(i:Int))),.string ss[i]] wr.drew fun e w'=>e=.returned (errV (writeN D ((g.start+g.used+i:Nat):Int) ss[i]))∧∃ v,LayAt w w' b g p v (writeD D ((g.start+g.used+i:Nat):Int) ss[i]) (d.wr.length+i+1)):=by
        have e9:IntKind.i64.wrap (IntKind.i64.wrap ((g.start:Int)+(g.used:Int))+(i:Int))=((g.start+g.used+i:Nat):Int):=wrap_two g.start g.used i (by omega)
        show Calls _ _ _ _ _
        rw [e9]
        exact KWr.out
      clear KWr
      have keepH:Hid (∀ W,LogAt W b g→W.cell? ⟨b,0,none⟩=some (.pointer (some ⟨p.B,0,none⟩))∧W.cell? ⟨b,1,none⟩=some (.int .i64 g.start)∧W.cell? ⟨b,4,none⟩=some (.int .i64 g.used)):=fun W h=>⟨by have:=h.cells.1;rw [HBB.out] at this;exact this,h.cells.2.1,h.cells.2.2.2.2⟩
      obtain ⟨c0,c1,c4⟩:=keepH.out _ HA.out.log
      have HLD:Hid (LogAt wr.drew b g):=HA.out.log
      generalize writeN D ((g.start+g.used+i:Nat):Int) ss[i]=m at *
      generalize writeD D ((g.start+g.used+i:Nat):Int) ss[i]=D' at *
      go_wp2_with fail
      go_region_held3 (fun W=>W.cell? ⟨b,0,none⟩=some (.pointer (some ⟨p.B,0,none⟩))∧W.cell? ⟨b,1,none⟩=some (.int .i64 g.start)∧W.cell? ⟨b,4,none⟩=some (.int .i64 g.used))
        (first | exact keepH.out _ HLD.out | exact keepH.out _ HA5.out.log)
        (first
          | (go_at_call 28
             refine Calls.mono KW.out ?_
             rintro en w5 ⟨rfl,u',ha5⟩
             have HA5:Hid _:=ha5
             clear ha5))
      all_goals
        by_cases hm:m=0
        · have HW5:Hid (writesD d (g.start+g.used) ss=writesD D' (g.start+g.used+(i+1)) (ss.drop (i+1))):=by
            show _=_
            rw [HW.out,HST.out,if_pos hm]
          rw [hm,errV_zero rfl]
          go_wp2
          go_roundg (ss.length - (i+1))
          case measure=>omega
          case rel=>exact ⟨i+1,u',D',by go_num,by omega,Nat.le_refl _,HW5,HA5⟩
        · have HW5:Hid (layD d (g.start+g.used) ss=(D',m)):=by
            show _=_
            have e:writesD d (g.start+g.used) ss=(D',m):=by rw [HW.out,HST.out,if_neg hm]
            unfold layD
            rw [e,if_neg hm]
          have HEV:Hid (errV m=.iface 90 (.int .i64 m)):=errV_pos hm
          rw [errV_pos hm]
          go_wp2
          go_ret
          rw [HW5.out,HEV.out]
          exact ⟨rfl,u',HA5.out.disk,HA5.out.touch,HA5.out.new⟩
    · have HW5:Hid (writesD d (g.start+g.used) ss=(D,0)):=by
        show _=_
        rw [HW.out,List.drop_eq_nil_of_le (by omega)]
        rfl
      have HLA:Hid (layD d (g.start+g.used) ss=(flushD D,stepN D)):=by
        show _=_
        unfold layD
        rw [HW5.out,if_pos rfl]
      obtain ⟨c0,c1,c2,c3,c4⟩:=HA.out.log.cells
      rw [HBB.out] at c0
      have KF:Hid _:=diskFlush_any { p with wv:=u } D wr HA.out.disk
      clear c1 c2 c3 c4
      go_wp2_with fail
      refine Calls.mono KF.out ?_
      rintro en w5 ⟨rfl,hd5,hn5⟩
      have HT5:Hid (Touch (dOwn p) w w5):=HA.out.touch.step hn5.touch rfl rfl rfl HA.out.new
      have HD5:Hid (∃ u',DiskAt w5 { p with wv:=u' } (flushD D)∧Touch (dOwn p) w w5∧NewTo p w u'):=by
        unfold flushP at hd5
        split at hd5
        · exact ⟨_,hd5,HT5.out,fun k hk=>by cases hk⟩
        · exact ⟨_,hd5,HT5.out,HA.out.new⟩
      clear hd5 hn5
      go_wp2
      go_ret
      rw [HLA.out]
      exact ⟨rfl,HD5.out⟩
structure DeedMid (w wr:World)(g:Lg)(c:List Ch)(i:Nat)(v:Value):Prop where
  own:OwnsS wr w.heap.size v (deedO g.first g.used (c.take i))
  good:∀ j (hj:j<i) (h:j<c.length),changeF c[j]=0
  below:Below w.heap.size w wr
theorem DeedMid.row {w wr:World}{g:Lg}{c:List Ch}{i:Nat}{v:Value}(h:DeedMid w wr g c i v)(hi:i≤c.length):wr.ownsRow w.heap.size 9 1 v i ((deedO g.first g.used (c.take i)).map Value.string):=by
  have:=h.own
  unfold OwnsS at this
  rw [deedO_length,List.length_take,Nat.min_eq_left hi] at this
  exact this
theorem DeedMid.go {w wr wx:World}{g:Lg}{c:List Ch}{i:Nat}{v:Value}(h:DeedMid w wr g c i v)(hb:Below wr.heap.size wr wx):DeedMid w wx g c i v :=
  ⟨ownsRow_far h.own (fun k hk=>hb.block k (h.own.lt k hk).2),h.good,h.below.trans (hb.mono h.below.size)⟩
theorem DeedMid.more {w wr w4:World}{g:Lg}{c:List Ch}{i:Nat}{v v':Value}(h:DeedMid w wr g c i v)(hi:i<c.length)(hf:changeF c[i]=0)(hg:wr.grownBy w4 v.ownBlock)
    (ho:w4.ownsRow w.heap.size 9 1 v' (i+1) ((deedO g.first g.used (c.take i)).map Value.string ++ [.string (baL (secL 111 (g.first+(g.used+i)) (bytesC c[i])))])):DeedMid w w4 g c (i+1) v':=by
  refine ⟨?_,fun j hj hjl=>?_,h.below.grown hg h.below.size (fun k hk=>(h.own.lt k hk).1)⟩
  · unfold OwnsS
    rw [List.take_succ_eq_append_getElem hi,deedO_snoc,List.map_append,List.length_append,deedO_length,List.length_take,Nat.min_eq_left (Nat.le_of_lt hi)]
    exact ho
  · by_cases e:j=i
    · subst e;exact hf
    · exact h.good j (by omega) hjl
theorem wrap_one (a i:Nat)(h:a+i≤1000000):IntKind.i64.wrap ((a:Int)+(i:Int))=((a+i:Nat):Int):=by
  rw [wrap_near (by omega)];omega
theorem deed_all {w wr w4:World}{g:Lg}{c:List Ch}{v v':Value}(h:DeedMid w wr g c c.length v)(hg:wr.grownBy w4 v.ownBlock)
    (ho:w4.ownsRow w.heap.size 9 1 v' (c.length+1) ((deedO g.first g.used (c.take c.length)).map Value.string ++ [.string (baL (secL 99 (g.first+(g.used+c.length)) (leB 4 c.length)))])) :
    OwnsS w4 w.heap.size v' (deedT g.first g.used c c.length)∧Below w.heap.size w w4:=by
  refine ⟨?_,h.below.grown hg h.below.size (fun k hk=>(h.own.lt k hk).1)⟩
  unfold OwnsS
  rw [deedT_cut,List.map_append,List.length_append,deedO_length]
  rw [List.take_length] at ho
  exact ho
set_option maxRecDepth 100000 in
set_option maxHeartbeats 4000000 in
theorem logDeed_any (b:Nat) (g:Lg) (a:Option Addr) (cap:Nat) (c:List Ch) (w:World) (hl:LogAt w b g) (hg:LgOk g) (hc:CC w a c) (hfew:c.length≤14) :
    Calls Tryz.prog 152 #[.pointer (some ⟨b,0,none⟩),.slice a c.length cap] w fun e w'=>Below w.heap.size w w'∧((faultL c≠0∧e=.returned (.tuple #[.slice none 0 0,errV (faultL c)]))∨(faultL c=0∧∃ v,e=.returned (.tuple #[v,.nilIface])∧OwnsS w' w.heap.size v (deedT g.first g.used c c.length))):=by
  have HL:Hid (LogAt w b g):=hl
  have HC:Hid (CC w a c):=hc
  have hst:=hg.start
  have hus:=hg.used
  have hfi:=hg.first
  obtain ⟨i0,hif,hz0,hz1,hz2⟩:=info_parts Tryz.infoString
  clear hl hg hc
  go_enter Tryz.func152,Tryz.ntmps152
  go_wp2_with fail
  go_loopg [13,6] (c.length+1) (fun kx vi v6 wr=>∃ (i:Nat),vi=.int .i64 i∧i≤c.length∧c.length - i≤kx∧Hid (DeedMid w wr g c i v6))
  case atStart=>exact ⟨0,rfl,by omega,by omega,⟨World.ownsRow_nil _ _ _ _,fun j hj=>absurd hj (Nat.not_lt_zero _),Below.refl _ _⟩⟩
  case round =>
    obtain ⟨i,rfl,hi,hix,HM⟩:=hrel
    have HLR:Hid (LogAt wr b g):=HL.out.below HM.out.below
    obtain ⟨va,vc,hv⟩:=row_shape (HM.out.row hi)
    subst hv
    by_cases hlt:i<c.length
    · have hltz:(i:Int)<(c.length:Int):=by omega
      obtain ⟨cb,co,rfl,c0,c1,c2⟩:=(HC.out.below HM.out.below) i hlt
      obtain ⟨x,hx⟩:∃ x,x=c[i]:=⟨_,rfl⟩
      rw [← hx] at c0 c1 c2
      have KB:Hid (∀ W,Calls _ _ _ W _):=fun W=>rowBytes_any x W
      have HX:Hid (x=c[i]):=hx
      clear hx
      have KB2:Hid (∀ W,Calls Tryz.prog 192 #[x.v] W fun e w'=>e=.returned (.tuple #[.string (if changeF x=0 then ⟨(bytesC x).toArray⟩ else ⟨#[]⟩),errV (changeF x)])∧Below W.heap.size W w'):=KB.out
      clear KB
      by_cases hf:changeF x=0
      · have HF:Hid (changeF c[i]=0):=by show _=_;rw [← HX.out];exact hf
        rw [hf,errV_zero rfl,if_pos rfl] at KB2
        have hbl:(bytesC x).length≤26:=bytesC_len hf
        have KS:Hid (∀ W,Below wr.heap.size wr W→Calls Tryz.prog 194 #[.pointer (some ⟨b,0,none⟩),.int .i64 ((g.used:Int)+(i:Int)),.string ⟨#[111]⟩,.string ⟨(bytesC x).toArray⟩] W fun e w'=>e=.returned (.string (baL (secL 111 (g.first+(g.used+i)) (bytesC x))))∧Below W.heap.size W w'):=fun W h=>by
          have:=logSector_any b g (g.used+i) 111 (bytesC x) W (HLR.out.below h) (by omega) (by omega) (by omega)
          rw [show ((g.used+i:Nat):Int)=(g.used:Int)+(i:Int) by omega] at this
          exact this
        have HMO:Hid (∀ W w4 v',Below wr.heap.size wr W→W.grownBy w4 (Value.slice va i vc).ownBlock→w4.ownsRow w.heap.size 9 1 v' (i+1) ((deedO g.first g.used (c.take i)).map Value.string ++ [.string (baL (secL 111 (g.first+(g.used+i)) (bytesC x)))])→DeedMid w w4 g c (i+1) v'):=fun W w4 v' hb hg ho =>
          (HM.out.go hb).more hlt HF.out hg (by rw [← HX.out];exact ho)
        have HRO:Hid (∀ W,Below wr.heap.size wr W→W.ownsRow w.heap.size 9 1 (.slice va i vc) i ((deedO g.first g.used (c.take i)).map Value.string)):=fun W hb=>(HM.out.go hb).row hi
        have HLO:Hid (w.heap.size≤wr.heap.size):=HM.out.below.size
        have hc4:Hid (∀ W,Below wr.heap.size wr W→W.cell? ⟨b,4,none⟩=some (.int .i64 g.used)):=fun W h=>(HLR.out.below h).cells.2.2.2.2
        generalize baL (secL 111 (g.first+(g.used+i)) (bytesC x))=Z at *
        generalize (⟨(bytesC x).toArray⟩:ByteArray)=Y at *
        have k1:∀ o,(wr.alloc o).heap.size=wr.heap.size+1:=fun o=>World.size_alloc _ _
        have KB3:Hid (∀ o,Calls Tryz.prog 192 #[x.v] (wr.alloc o) fun e w'=>e=.returned (.tuple #[.string Y,.nilIface])∧Below wr.heap.size wr w'):=fun o=>(KB2.out _).mono fun e w' ⟨he,hb⟩=>⟨he,((Below.refl wr.heap.size wr).alloc (Nat.le_refl _) o).trans (hb.mono (by rw [k1];omega))⟩
        clear KB2 HF hf k1
        go_wp2_with fail
        refine Calls.mono (KB3.out _) ?_
        rintro e w2 ⟨rfl,hb2⟩
        have h4:=hc4.out w2 hb2
        have HB2:Hid (Below wr.heap.size wr w2):=hb2
        clear hb2
        go_wp2_with fail
        refine Calls.mono (KS.out w2 HB2.out) ?_
        rintro e w3 ⟨rfl,hb3⟩
        have HB3:Hid (Below wr.heap.size wr w3):=HB2.out.trans (hb3.mono HB2.out.size)
        have HBX:Hid (∀ o,Below wr.heap.size wr (w3.alloc o)):=fun o=>HB3.out.alloc HB3.out.size _
        have HLX:Hid (∀ o,w.heap.size≤(w3.alloc o).heap.size):=fun o=>Nat.le_trans HLO.out (HBX.out o).size
        clear hb3 h4
        have h63:i+1≤maxLen:=by unfold maxLen;omega
        go_wp2_with (at_builtin;refine wpList_append_own _ rfl _ _ 34 rfl w.heap.size 9 i0 _ 1 16 (by kernel_rfl) hif hz0 hz1 hz2 rfl (by decide) (.slice va i vc) i ((deedO g.first g.used (c.take i)).map Value.string) rfl (HRO.out _ (HBX.out _)) ⟨w3.heap.size,0,none⟩ 1 1 [.string Z] rfl rfl (cell_one_new _ _ _) (one_one _) h63 (by omega) (HLX.out _) ?_;intro v' w4 hown4 hgrow4 hnil4;obtain ⟨xa,xc,rfl⟩:=row_shape hown4;have HA:Hid _:=HMO.out _ _ _ (HBX.out _) hgrow4 hown4;clear hown4 hgrow4 hnil4)
        go_roundg (c.length - (i+1))
        case measure=>omega
        case rel=>exact ⟨i+1,by go_num,by omega,Nat.le_refl _,HA⟩
      · have HFL:Hid (faultL c=changeF x):=by
          show _=_
          rw [HX.out]
          exact faultL_at hlt (fun j hj=>HM.out.good j hj (by omega)) (by rw [← HX.out];exact hf)
        have HEV:Hid (errV (changeF x)=.iface 90 (.int .i64 (changeF x))):=errV_pos hf
        rw [errV_pos hf,if_neg hf] at KB2
        have HNZ:Hid (¬ changeF x=0):=hf
        have HB0:Hid (Below w.heap.size w wr):=HM.out.below
        clear hf
        generalize changeF x=f at *
        go_wp2_with fail
        refine Calls.mono (KB2.out _) ?_
        rintro e w2 ⟨rfl,hb2⟩
        have HB2:Hid _:=hb2
        clear hb2
        go_wp2
        go_ret2
        refine ⟨HB0.out.trans (((Below.refl wr.heap.size wr).alloc (Nat.le_refl _) _).trans (HB2.out.mono ((Below.refl wr.heap.size wr).alloc (Nat.le_refl _) _).size) |>.mono HB0.out.size),.inl ⟨by rw [HFL.out];exact HNZ.out,by rw [HFL.out];exact congrArg (fun z=>Ending.returned (.tuple #[.slice none 0 0,z])) HEV.out.symm⟩⟩
    · have e : i=c.length:=by omega
      have HGOOD:Hid (faultL c=0):=by
        show _=_
        refine faultL_none (fun y hy=>?_)
        obtain ⟨j,hj,rfl⟩:=List.getElem_of_mem hy
        exact HM.out.good j (by omega) hj
      subst e
      clear hlt
      have KC:Hid (∀ W,Calls Tryz.prog 166 #[.int .i64 c.length] W fun e w'=>e=.returned (.string (baL (leB 4 c.length)))∧Below W.heap.size W w'):=fun W=>logCount_any c.length W (by omega)
      have KS:Hid (∀ W,Below wr.heap.size wr W→Calls Tryz.prog 194 #[.pointer (some ⟨b,0,none⟩),.int .i64 (IntKind.i64.wrap ((g.used:Int)+(c.length:Int))),.string ⟨#[99]⟩,.string (baL (leB 4 c.length))] W fun e w'=>e=.returned (.string (baL (secL 99 (g.first+(g.used+c.length)) (leB 4 c.length))))∧Below W.heap.size W w'):=fun W h=>by
        have:=logSector_any b g (g.used+c.length) 99 (leB 4 c.length) W (HLR.out.below h) (by omega) (by omega) (by rw [leB_length];omega)
        rw [wrap_one g.used c.length (by omega)]
        exact this
      have HAL:Hid (∀ W w4 v',Below wr.heap.size wr W→W.grownBy w4 (Value.slice va c.length vc).ownBlock→w4.ownsRow w.heap.size 9 1 v' (c.length+1) ((deedO g.first g.used (c.take c.length)).map Value.string ++ [.string (baL (secL 99 (g.first+(g.used+c.length)) (leB 4 c.length)))])→OwnsS w4 w.heap.size v' (deedT g.first g.used c c.length)∧Below w.heap.size w w4):=fun W w4 v' hb hg ho =>
        deed_all (HM.out.go hb) hg ho
      have HRO:Hid (∀ W,Below wr.heap.size wr W→W.ownsRow w.heap.size 9 1 (.slice va c.length vc) c.length ((deedO g.first g.used (c.take c.length)).map Value.string)):=fun W hb=>(HM.out.go hb).row hi
      have HLO:Hid (w.heap.size≤wr.heap.size):=HM.out.below.size
      have hc4:Hid (∀ W,Below wr.heap.size wr W→W.cell? ⟨b,4,none⟩=some (.int .i64 g.used)):=fun W h=>(HLR.out.below h).cells.2.2.2.2
      have h4:=hc4.out wr (Below.refl _ _)
      generalize baL (secL 99 (g.first+(g.used+c.length)) (leB 4 c.length))=Z at *
      generalize baL (leB 4 c.length)=Y at *
      have h63:c.length+1≤maxLen:=by unfold maxLen;omega
      have hby:(c.length+1) * 16≤140737488355328:=by omega
      go_wp2_with fail
      go_region_law
        (first
          | (rw [if_pos (by rfl)]
             refine wp_append_new _ _ 34 rfl w.heap.size 9 i0 _ 1 16 Tryz.underlying34 hif hz0 hz1 hz2 rfl Nat.one_pos (.slice va c.length vc) c.length ((deedO g.first g.used (c.take c.length)).map Value.string) rfl (HRO.out _ (hbX.out _)) ⟨wb.heap.size,0,none⟩ 1 1 [.string Z] rfl rfl (cell_one_new _ _ _) (one_one _) h63 hby (hloa.out _) ?_
             intro v' w4 hown4 hgrow4 hnew4
             obtain ⟨xa,xc,rfl⟩:=row_shape hown4
             have HA:Hid _:=HAL.out _ _ _ (hbX.out _) hgrow4 hown4
             clear hown4 hgrow4 hnew4)
          | (go_simp
             go_at_call 166
             refine Calls.mono (KC.out _) ?_
             rintro e wa ⟨rfl,hb⟩
             have hbW:Hid (Below wr.heap.size wr wa):=⟨hb.os,hb.tape,hb.output,hb.size,hb.block⟩
             have h4a:=hc4.out wa hbW.out
             clear hb)
          | (go_simp
             go_at_call 194
             refine Calls.mono (KS.out _ hbW.out) ?_
             rintro e wb ⟨rfl,hb⟩
             have hbV:Hid (Below wr.heap.size wr wb):=hbW.out.trans (hb.mono hbW.out.size)
             have hbX:Hid (∀ o,Below wr.heap.size wr (wb.alloc o)):=fun o=>hbV.out.alloc hbV.out.size _
             have hloa:Hid (∀ o,w.heap.size≤(wb.alloc o).heap.size):=fun o=>Nat.le_trans HLO.out (hbX.out o).size
             clear hb))
      all_goals
        go_wp2
        go_ret2
        exact ⟨HA.out.2,.inr ⟨HGOOD.out,_,rfl,HA.out.1⟩⟩
theorem run_make_texts (n:Nat)(hn:n≤60)(w:World):(Instr.makeSlice 34 (.int .i64 n) (.int .i64 n)).run Tryz.prog w=.ok (.slice (some ⟨w.heap.size,0,none⟩) n n) (w.alloc (.cells (List.replicate n (Value.string ⟨#[]⟩)).toArray 9)):=by
  obtain ⟨i0,hi,hz0,hz1,hz2⟩:=info_parts Tryz.infoString
  have h:=run_make (P:=Tryz.prog) w 34 9 i0 _ (by kernel_rfl) hi hz0 .i64 .i64 n n (by omega) (Int.le_refl _) (by rw [hz2];omega) (by omega)
  rw [hz1,Int.toNat_natCast,Nat.mul_one] at h
  have e:madeCells (Value.string ⟨#[]⟩).cells n=(List.replicate n (Value.string ⟨#[]⟩)).toArray:=by
    apply Array.ext
    · simp [madeCells]
    · intro k h1 h2
      simp only [madeCells,Array.getElem_map,Array.getElem_range,List.getElem_toArray,List.getElem_replicate]
      have:(Value.string ⟨#[]⟩).cells=#[Value.string ⟨#[]⟩]:=rfl
      rw [this]
      simp [Nat.mod_one]
  rw [e] at h
  exact h
theorem owns_made (w:World)(B n:Nat)(hB:B≤w.heap.size)(hn:n≤60):OwnsS (w.alloc (.cells (List.replicate n (Value.string ⟨#[]⟩)).toArray 9)) B (.slice (some ⟨w.heap.size,0,none⟩) n n) (List.replicate n ⟨#[]⟩):=by
  unfold OwnsS
  rw [List.map_replicate,List.length_replicate]
  refine ⟨by simp,.inr ⟨w.heap.size,n,(List.replicate n (Value.string ⟨#[]⟩)).toArray,rfl,hB,heap_alloc_new w _,Nat.le_refl _,by unfold maxLen;omega,by simp,by simp⟩⟩
structure AddAt (w w':World)(b:Nat)(g:Lg)(p:Dp)(u:Value)(D:Dk):Prop where
  disk:DiskAt w' { p with wv:=u } D
  touch:Touch (fun k=>dOwn p k∨k=b) w w'
  new:NewTo p w u
  log:LogAt w' b g
theorem Touch.wide {S S':Nat→Prop}{w w':World}(h:Touch S w w')(hS:∀ k,S k→S' k):Touch S' w w':=⟨h.os,h.tape,h.output,h.size,fun k hk hn=>h.block k hk (fun e=>hn (hS k e))⟩
theorem DiskAt.lts {w:World}{p:Dp}{d:Dk}(h:DiskAt w p d){k:Nat}(hk:k=p.B∨k=p.gn∨k=p.gk∨p.wv.ownBlock=some k):k<w.heap.size:=by
  rcases hk with rfl | rfl | rfl | hk
  · exact (Array.getElem?_eq_some_iff.1 h.blk).1
  · exact (Array.getElem?_eq_some_iff.1 h.now).1
  · exact (Array.getElem?_eq_some_iff.1 h.kept).1
  · exact (h.wr.lt k hk).2
theorem DiskAt.below {w w':World}{p:Dp}{d:Dk}(h:DiskAt w p d)(hb:Below w.heap.size w w'):DiskAt w' p d:=h.far fun k hk=>hb.block k (h.lts hk)
theorem layD_len (d:Dk)(a:Nat)(l:List ByteArray)(h:(layD d a l).2=0):(layD d a l).1.wr=[]:=by
  unfold layD at h ⊢
  split at h
  · rename_i h0
    rw [if_pos h0]
    simp only at h ⊢
    unfold flushD
    rw [if_pos h]
  · rename_i h0;exact absurd h h0
theorem Touch.step2 {p p':Dp}{S:Nat→Prop}{a b c:World}(h:Touch S a b)(k:Touch (dOwn p') b c)(hS:∀ k,dOwn p k→S k)(hB:p'.B=p.B)(hn:p'.gn=p.gn)(hk:p'.gk=p.gk)(hv:NewTo p a p'.wv):Touch S a c :=
  ⟨k.os.trans h.os,k.tape.trans h.tape,k.output.trans h.output,Nat.le_trans h.size k.size,fun i hi hno=>by
    refine (k.block i (Nat.lt_of_lt_of_le hi h.size) (fun ho=>?_)).trans (h.block i hi hno)
    rcases ho with e | e | e | e
    · exact hno (hS _ (.inl (by rw [e,hB])))
    · exact hno (hS _ (.inr (.inl (by rw [e,hn]))))
    · exact hno (hS _ (.inr (.inr (.inl (by rw [e,hk])))))
    · rcases hv i e with e | e
      · exact hno (hS _ (.inr (.inr (.inr e))))
      · omega⟩
theorem layAdd {w W:World}{b:Nat}{g:Lg}{p:Dp}{u:Value}{D:Dk}(h:AddAt w W b g p u D)(hg:LgOk g)(hB:g.dB=p.B)(B:Nat)(v:Value)(ss:List ByteArray)(hs:OwnsS W B v ss)(hfew:ss.length≤40)(hz:∀ s ∈ ss,s.size≤1000)(hwr:D.wr.length≤60) :
    Calls Tryz.prog 153 #[.pointer (some ⟨b,0,none⟩),v] W fun e w'=>e=.returned (errV (layD D (g.start+g.used) ss).2)∧∃ u',AddAt w w' b g p u' (layD D (g.start+g.used) ss).1∧∀ B' v' l,OwnsS W B' v' l→OwnsS w' B' v' l:=by
  refine (logLay_any b g { p with wv:=u } D B v ss W h.log hg h.disk hB hs (by omega) hz (by omega)).mono ?_
  rintro e w' ⟨he,u',hd,ht,hn⟩
  exact ⟨he,u',⟨hd,h.touch.step2 ht (fun k hk=>.inl hk) rfl rfl rfl h.new,fun k hk=>by
    rcases hn k hk with e | e
    · exact h.new k e
    · exact .inr (Nat.le_trans h.touch.size e),h.log.touch h.disk ht⟩,fun B' v' l ho=>OwnsS.touch ho h.disk ht⟩
theorem AddAt.used {w W:World}{b:Nat}{g:Lg}{p:Dp}{u:Value}{D:Dk}(h:AddAt w W b g p u D)(n:Nat):AddAt w (W.setCell ⟨b,4,none⟩ (.int .i64 n)) b { g with used:=n } p u D∧W.cell? ⟨b,4,none⟩=some (.int .i64 g.used)∧W.frozen? ⟨b,4,none⟩=false:=by
  obtain ⟨n1,n2,n3,n4⟩:=h.log.neDisk h.disk
  have hs:∀ k,k≠b→(W.setCell ⟨b,4,none⟩ (.int .i64 n)).heap[k]?=W.heap[k]?:=fun k hk=>Below.heap_setCell W ⟨b,4,none⟩ _ k hk
  refine ⟨⟨h.disk.far fun k hk=>hs k ?_,⟨h.touch.os,h.touch.tape,h.touch.output,?_,fun k hk hno=>?_⟩,h.new,heap_set (w:=W) h.log 4 _⟩,h.log.cells.2.2.2.2,frozen_block h.log 4⟩
  · rcases hk with rfl | rfl | rfl | hk
    · exact Ne.symm n1
    · exact Ne.symm n2
    · exact Ne.symm n3
    · rintro rfl;exact n4 hk
  · have:(W.setCell ⟨b,4,none⟩ (.int .i64 n)).heap.size=W.heap.size:=World.size_setCell _ _ _
    rw [this];exact h.touch.size
  · rw [hs k (fun e=>hno (.inr e))]
    exact h.touch.block k hk hno
set_option maxRecDepth 100000 in
set_option maxHeartbeats 4000000 in
theorem logAdd_any (b:Nat) (g:Lg) (p:Dp) (d:Dk) (a:Option Addr) (cap:Nat) (c:List Ch) (w:World) (hl:LogAt w b g) (hg:LgOk g) (hd:DiskAt w p d) (hB:g.dB=p.B) (hc:CC w a c) (hfew:c.length≤1000) (hwr:d.wr.length≤60) :
    Calls Tryz.prog 112 #[.pointer (some ⟨b,0,none⟩),.slice a c.length cap] w fun e w'=>e=.returned (errV (addD g d c).2)∧∃ u,AddAt w w' b (addG g d c) p u (addD g d c).1:=by
  have HL:Hid (LogAt w b g):=hl
  have HD:Hid (DiskAt w p d):=hd
  have HBB:Hid (g.dB=p.B):=hB
  have HG:Hid (LgOk g):=hg
  have hst:=hg.start
  have hus:=hg.used
  have HSAME:Hid (∀ W,Below w.heap.size w W→∃ u,AddAt w W b g p u d):=fun W h=>⟨p.wv,hd.below h,Touch.of_below h,fun k hk=>.inl hk,hl.below h⟩
  by_cases h14:14<c.length
  · have e1:addD g d c=(d,2):=by unfold addD;rw [if_pos h14]
    have e2:addG g d c=g:=by unfold addG;rw [e1];rfl
    have h14z:(14:Int)<(c.length:Int):=by omega
    have ev:errV (addD g d c).2=.iface 90 (.int .i64 2):=by rw [e1];exact errV_pos (show ¬ (2:Int)=0 by decide)
    rw [ev,e1,e2]
    clear hl hg hd hB hc ev e1 e2
    go_enter Tryz.func112,Tryz.ntmps112
    go_wp2
    go_ret
    exact ⟨rfl,HSAME.out _ (Below.refl _ _)⟩
  · have KR : Hid (∀ W,LogAt W b g→Calls Tryz.prog 110 #[.pointer (some ⟨b,0,none⟩)] W fun e w'=>e=.returned (.int .i64 ((g.many - g.used:Nat):Int))∧∃ n,w'=W.drewN n):=fun W h=>logRoom_any b g W h hg
    obtain ⟨room,hroom⟩:∃ r,r=g.many - g.used:=⟨_,rfl⟩
    have HRM:Hid (room=g.many - g.used):=hroom
    rw [← hroom] at KR
    have h14z:¬ (14:Int)<(c.length:Int):=by omega
    by_cases hfull:room<c.length+1
    · have e1:addD g d c=(d,7):=by unfold addD;rw [if_neg h14,if_pos (by omega)]
      have e2:addG g d c=g:=by unfold addG;rw [e1];rfl
      have hfz:(room:Int)<(c.length:Int)+1:=by omega
      have ev:errV (addD g d c).2=.iface 90 (.int .i64 7):=by rw [e1];exact errV_pos (show ¬ (7:Int)=0 by decide)
      rw [ev,e1,e2]
      clear hl hg hd hB hc hroom ev e1 e2
      go_enter Tryz.func112,Tryz.ntmps112
      go_wp2_with fail
      refine Calls.mono (KR.out w HL.out) ?_
      rintro e w1 ⟨rfl,n,rfl⟩
      go_wp2
      go_ret
      exact ⟨rfl,HSAME.out _ (below_drewN (Below.refl _ _) n)⟩
    · have hfz:¬ (room:Int)<(c.length:Int)+1:=by omega
      have hrm:room≤60:=by omega
      have KDE:Hid (∀ W,Below w.heap.size w W→Calls _ _ _ W _):=fun W hb=>logDeed_any b g a cap c W (hl.below hb) hg (hc.below hb) (by omega)
      by_cases hfl:faultL c=0
      · obtain ⟨m,hm⟩:∃ m,m=min (c.length+2) room:=⟨_,rfl⟩
        have hm60:m≤40:=by omega
        have HR:Hid (addD g d c=if (layD d (g.start+g.used) (List.replicate m ⟨#[]⟩)).2≠0 then layD d (g.start+g.used) (List.replicate m ⟨#[]⟩) else layD (layD d (g.start+g.used) (List.replicate m ⟨#[]⟩)).1 (g.start+g.used) (deedT g.first g.used c c.length)):=by
          show _=_
          unfold addD
          rw [if_neg h14,if_neg (by omega),if_neg (by simpa using hfl),hm,HRM.out]
        have hdl:=deedT_length g.first c g.used c.length
        have hsm:=deedT_small g.first c g.used c.length (faultL_all hfl)
        have KDG:Hid (∀ W,Below w.heap.size w W→Calls Tryz.prog 152 #[.pointer (some ⟨b,0,none⟩),.slice a c.length cap] W fun e w'=>∃ va,∃ cap',e=.returned (.tuple #[.slice va (c.length+1) cap',.nilIface])∧OwnsS w' W.heap.size (.slice va (c.length+1) cap') (deedT g.first g.used c c.length)∧Below w.heap.size w w'):=fun W hb=>(KDE.out W hb).mono fun e w' ⟨hb2,h⟩=>by
          rcases h with ⟨h0,_⟩ | ⟨_,v,he,ho⟩
          · exact absurd hfl h0
          · obtain ⟨va,vc,hv⟩:=row_shape ho
            rw [hdl] at hv
            subst hv
            exact ⟨va,vc,he,ho,hb.trans (hb2.mono hb.size)⟩
        have HAT:Hid (∀ W,Below w.heap.size w W→AddAt w W b g p p.wv d):=fun W h=>⟨hd.below h,Touch.of_below h,fun k hk=>.inl hk,hl.below h⟩
        generalize deedT g.first g.used c c.length=T at *
        have KL1:Hid (∀ W v,Below w.heap.size w W→OwnsS W w.heap.size v (List.replicate m ⟨#[]⟩)→Calls Tryz.prog 153 #[.pointer (some ⟨b,0,none⟩),v] W fun e w'=>e=.returned (errV (layD d (g.start+g.used) (List.replicate m ⟨#[]⟩)).2)∧∃ u',AddAt w w' b g p u' (layD d (g.start+g.used) (List.replicate m ⟨#[]⟩)).1∧∀ B' v' l,OwnsS W B' v' l→OwnsS w' B' v' l):=fun W v hb ho =>
          layAdd (HAT.out W hb) hg hB _ v _ ho (by simpa using hm60) (by intro s hs;rw [List.eq_of_mem_replicate hs];decide) hwr
        have KL2:Hid (∀ W u D B v,AddAt w W b g p u D→D.wr=[]→OwnsS W B v T→Calls Tryz.prog 153 #[.pointer (some ⟨b,0,none⟩),v] W fun e w'=>e=.returned (errV (layD D (g.start+g.used) T).2)∧∃ u',AddAt w w' b g p u' (layD D (g.start+g.used) T).1):=fun W u D B v h hw ho =>
          (layAdd h hg hB _ v _ ho (by rw [hdl];omega) (fun s hs=>by have:=hsm s hs;omega) (by rw [hw];simp)).mono fun e w' ⟨he,u',h,_⟩=>⟨he,u',h⟩
        have HLEN:Hid _:=layD_len d (g.start+g.used) (List.replicate m ⟨#[]⟩)
        generalize layD d (g.start+g.used) (List.replicate m ⟨#[]⟩)=R1 at *
        obtain ⟨D1,n1⟩:=R1
        simp only at HR KL1 HLEN
        have KM:Hid (∀ W,(Instr.makeSlice 34 (.int .i64 m) (.int .i64 m)).run Tryz.prog W=.ok (.slice (some ⟨W.heap.size,0,none⟩) m m) (W.alloc (.cells (List.replicate m (Value.string ⟨#[]⟩)).toArray 9))):=fun W=>run_make_texts m (by omega) W
        clear hl hg hd hB hc hroom hfl KDE hdl hsm
        have hmz:(m:Int)=min ((c.length:Int)+1+1) (room:Int):=by omega
        have HMZ:Hid _:=hmz
        clear hmz hm
        go_enter Tryz.func112,Tryz.ntmps112
        go_wp2_with fail
        refine Calls.mono (KR.out w HL.out) ?_
        rintro e w1 ⟨rfl,n,rfl⟩
        go_wp2_with fail
        refine Calls.mono (KDG.out _ (below_drewN (Below.refl _ _) n)) ?_
        rintro e w2 ⟨va,vc,rfl,ho2,hb2⟩
        have HO2:Hid (OwnsS w2 (w.drewN n).heap.size (.slice va (c.length+1) vc) T):=ho2
        have HB2:Hid _:=hb2
        clear ho2 hb2
        go_wp2_with fail
        refine Calls.mono (KR.out w2 (HL.out.below HB2.out)) ?_
        rintro e w3 ⟨rfl,n3,rfl⟩
        go_wp2_with fail
        rw [← HMZ.out,KM.out]
        have HB3:Hid (∀ o,Below w.heap.size w ((w2.drewN n3).alloc o)):=fun o=>(below_drewN HB2.out n3).alloc (below_drewN HB2.out n3).size o
        have HO3:Hid (∀ o,OwnsS ((w2.drewN n3).alloc o) (w.drewN n).heap.size (.slice va (c.length+1) vc) T):=fun o=>ownsRow_far (w:=w2) HO2.out (fun k hk=>((below_drewN (Below.refl w2.heap.size w2) n3).alloc (Nat.le_refl _) o).block k (HO2.out.lt k hk).2)
        have HO4:Hid (OwnsS ((w2.drewN n3).alloc (.cells (List.replicate m (Value.string ⟨#[]⟩)).toArray 9)) w.heap.size (.slice (some ⟨w2.heap.size,0,none⟩) m m) (List.replicate m ⟨#[]⟩)):=owns_made (w2.drewN n3) w.heap.size m (below_drewN HB2.out n3).size (by omega)
        generalize (List.replicate m (Value.string ⟨#[]⟩)).toArray=Z at *
        clear HMZ KM
        by_cases hn1:n1=0
        · rw [hn1,errV_zero rfl] at KL1
          have HR2:Hid (addD g d c=layD D1 (g.start+g.used) T):=by show _=_;rw [HR.out,if_neg (by simpa using hn1)]
          have HW1:Hid (D1.wr=[]):=HLEN.out hn1
          have HG2:Hid (addG g d c=if (layD D1 (g.start+g.used) T).2=0 then { g with used:=g.used+c.length+1 } else g):=by show _=_;unfold addG;rw [HR2.out]
          clear hn1 HR HLEN
          go_wp2_with fail
          refine Calls.mono (KL1.out _ _ (HB3.out _) HO4.out) ?_
          rintro e w4 ⟨rfl,u4,ha4,hk4⟩
          have HO5:Hid (OwnsS w4 (w.drewN n).heap.size (.slice va (c.length+1) vc) T):=hk4 _ _ _ (HO3.out _)
          have HA4:Hid (AddAt w w4 b g p u4 D1):=ha4
          have KL3:Hid _:=KL2.out w4 u4 D1 _ _ ha4 HW1.out HO5.out
          clear ha4 hk4 KL1 KL2 HO3 HO4
          generalize layD D1 (g.start+g.used) T=R2 at *
          obtain ⟨D2,n2⟩:=R2
          simp only at HR2 HG2 KL3
          by_cases hn2:n2=0
          · rw [hn2,errV_zero rfl] at KL3
            go_wp2_with fail
            refine Calls.mono KL3.out ?_
            rintro e w5 ⟨rfl,u5,ha5⟩
            obtain ⟨ha6,c5,f5⟩:=ha5.used (g.used+c.length+1)
            have HA6:Hid _:=ha6
            have HE6:Hid (((g.used+c.length+1:Nat):Int)=(g.used:Int)+((c.length:Int)+1)):=by show _=_;omega
            rw [HE6.out] at HA6
            clear ha5 ha6
            go_wp2
            go_ret
            rw [HR2.out,HG2.out,hn2,if_pos rfl]
            exact ⟨congrArg Ending.returned (errV_zero rfl).symm,u5,HA6.out⟩
          · have HEV:Hid (errV n2=.iface 90 (.int .i64 n2)):=errV_pos hn2
            rw [errV_pos hn2] at KL3
            go_wp2_with fail
            refine Calls.mono KL3.out ?_
            rintro e w5 ⟨rfl,u5,ha5⟩
            have HA6:Hid _:=ha5
            clear ha5
            go_wp2
            go_ret
            rw [HR2.out,HG2.out,if_neg hn2]
            exact ⟨congrArg Ending.returned HEV.out.symm,u5,HA6.out⟩
        · have HEV:Hid (errV n1=.iface 90 (.int .i64 n1)):=errV_pos hn1
          have HR2:Hid (addD g d c=(D1,n1)):=by show _=_;rw [HR.out,if_pos (by simpa using hn1)]
          have HG2:Hid (addG g d c=g):=by show _=_;unfold addG;rw [HR2.out];simp only;rw [if_neg hn1]
          rw [errV_pos hn1] at KL1
          clear hn1 HR HLEN
          go_wp2_with fail
          refine Calls.mono (KL1.out _ _ (HB3.out _) HO4.out) ?_
          rintro e w4 ⟨rfl,u4,ha4,hk4⟩
          have HA4:Hid (AddAt w w4 b g p u4 D1):=ha4
          clear ha4 hk4 KL1 KL2 HO3 HO4
          go_wp2
          go_ret
          rw [HR2.out,HG2.out]
          exact ⟨congrArg Ending.returned HEV.out.symm,u4,HA4.out⟩
      · have e1:addD g d c=(d,faultL c):=by unfold addD;rw [if_neg h14,if_neg (by omega),if_pos hfl]
        have e2:addG g d c=g:=by unfold addG;rw [e1];simp only;rw [if_neg hfl]
        have HEV:Hid (errV (faultL c)=.iface 90 (.int .i64 (faultL c))):=errV_pos hfl
        rw [e1,e2]
        have KDF:Hid (∀ W,Below w.heap.size w W→Calls Tryz.prog 152 #[.pointer (some ⟨b,0,none⟩),.slice a c.length cap] W fun e w'=>e=.returned (.tuple #[.slice none 0 0,.iface 90 (.int .i64 (faultL c))])∧Below w.heap.size w w'):=fun W hb=>(KDE.out W hb).mono fun e w' ⟨hb2,h⟩=>by
          rcases h with ⟨_,he⟩ | ⟨h0,_⟩
          · exact ⟨by rw [← HEV.out];exact he,hb.trans (hb2.mono hb.size)⟩
          · exact absurd h0 hfl
        clear hl hg hd hB hc hroom e1 e2 hfl KDE
        generalize faultL c=f at *
        go_enter Tryz.func112,Tryz.ntmps112
        go_wp2_with fail
        refine Calls.mono (KR.out w HL.out) ?_
        rintro e w1 ⟨rfl,n,rfl⟩
        go_wp2_with fail
        refine Calls.mono (KDF.out _ (below_drewN (Below.refl _ _) n)) ?_
        rintro e w2 ⟨rfl,hb2⟩
        have HB2:Hid _:=hb2
        clear hb2
        go_wp2
        go_ret
        exact ⟨congrArg Ending.returned HEV.out.symm,HSAME.out _ HB2.out⟩
def Safe (lo:Nat)(w:World)(k:Nat):Prop:=k<lo∨∃ C T fr,w.heap[k]?=some (.cells C T fr)∧T≠78∧T≠84∧T≠86∧T≠208
structure PartS (lo:Nat)(w:World)(q:PartC):Prop where
  cc:CC w q.a q.l
  safe:∀ x,q.a=some x→q.l≠[]→Safe lo w x.block
structure Deeds (lo:Nat)(w:World)(a:Option Addr)(cap:Nat)(P:List PartC):Prop where
  nil:a=none→cap=0
  cell:∀ i (h:i<P.length),∃ b off,a=some ⟨b,off,none⟩∧w.cell? ⟨b,off+i,none⟩=some P[i].v∧Safe lo w b
  parts:∀ q ∈ P,PartS lo w q
  few:∀ q ∈ P,q.l.length≤1000
theorem addr_add (b off i:Nat):(⟨b,off,none⟩:Addr).add i=⟨b,off+i,none⟩:=by
  by_cases h:i=0 <;> simp [Addr.add,h]
end Go.Proofs.YtihnghnafpgdfadGreatDoor
