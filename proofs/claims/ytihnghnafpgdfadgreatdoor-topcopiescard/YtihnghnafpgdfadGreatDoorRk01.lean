/- What the proofs stand on, part 1: RangeBox, Later. -/
import Derived.RangeFuncWrites
import Derived.RangeFuncCalls
import Derived.RangeFuncBox
import Derived.RangeFuncNested
import Derived.RangeFuncBound
import Derived.Shelf.Abstract
import Derived.Shelf.RegionOpen
import Derived.WalkKit
import Derived.OwnWalkIn
import Derived.TacticsInMore
import Derived.LoopNIn
import Derived.LoopIn
import Derived.Below
import Derived.BigQuiet
import Derived.WalkSmall
import Derived.Laws.AppendOwn
import Derived.Test.YtihnghnafpgdfadGreatDoorProg
set_option linter.unusedVariables false
set_option linter.unusedSimpArgs false
namespace Go.Proofs.YtihnghnafpgdfadGreatDoor
open Go Go.RowKit
structure Stays {β:Type}(B:Nat→Prop)(J:β→World→Prop):Prop where
  grow:∀ s W W',J s W→W.grownBy W' none→J s W'
  box:∀ s W b v,B b→J s W→J s (W.setCell ⟨b,0,none⟩ v)
def SeqBox {α:Type} (n:Nat) (P:Program) (gf:Nat) (lb:Array Value) (encs:α→Array Value) (B:Nat→Prop) (G:World→Prop) (S Sp:List α→Prop) (w:World):Prop :=
  ∀ (l:Nat) (J Jx:List α→World→Prop) (W:World),G W→Below w.heap.size w W→Stays B J→Stays B Jx →
    (∀ pre x W1,J pre W1→Sp (pre ++ [x])→YieldAt Fence.wide (n - 1) P l (encs x) W1 fun e W' =>
      (e=.returned (.bool true)∧J (pre ++ [x]) W'∧∀ b,B b→W'.heap[b]?=W1.heap[b]?)∨(e=.returned (.bool false)∧Jx (pre ++ [x]) W')) →
    J [] W →
    CallsIn Fence.wide n P gf (#[.func (.yield l) #[] #[]] ++ lb) W fun e W'=>(∃ v,e=.returned v)∧((∃ xs,S xs∧J xs W')∨(∃ pre,Sp pre∧Jx pre W'))
def boxPost {α:Type}(Z:Nat)(B:Nat→Prop)(I:List α→World→Prop)(Ix:Code→List α→World→Prop)(xs:List α)(W:World):Exit→Act→World→Prop
  | .normal,_,W'=>KeepsFrom Z W W'∧(∀ b,B b→W'.heap[b]?=W.heap[b]?)∧I xs W'
  | .ret,_,W'=>KeepsFrom Z W W'∧Ix .ret xs W'
  | .exit id,_,W'=>KeepsFrom Z W W'∧Ix (.exit id) xs W'
  | .goto t,_,W'=>KeepsFrom Z W W'∧Ix (.goto t) xs W'
  | .panic _,_,_=>False
  | .outgrown,_,_=>False
theorem setBox_other {W:World}{B k:Nat}{v:Value}{o:Obj}(h:W.heap[k]?=some o)(hne:k≠B):(W.setCell ⟨B,0,none⟩ v).heap[k]?=some o :=
  (Below.heap_setCell W ⟨B,0,none⟩ v k hne).trans h
theorem grown_none {W W':World}{k:Nat}{o:Obj}(hg:W.grownBy W' none)(h:W.heap[k]?=some o):W'.heap[k]?=some o :=
  (hg.block k (Array.getElem?_eq_some_iff.1 h).1 (fun e=>by cases e)).trans h
theorem wpIn_rangeBox {α:Type} {n:Nat} {P:Program} {g:Operand} {ps:Array Tmp} {assign body:Code} {Q:Exit→Act→World→Prop} {a:Act} {w:World}
    (h1:1≤n) {gf:Nat} {lb:Array Value} (hg:a.eval g=.func (.func gf) #[] lb) (eg:∀ args w,(callFunc gf args).run P w=.ok (.enter gf args) w)
    {encs:α→Array Value} {B:Nat→Prop} {G:World→Prop} {S Sp:List α→Prop} (hseq:SeqBox (n - 1) P gf lb encs B G S Sp w)
    (hG:∀ W,Below w.heap.size w W→G W) (hB:∀ b,B b→b<w.heap.size) (hps:∀ x,(encs x).size=ps.size)
    (I:List α→World→Prop) (Ix:Code→List α→World→Prop) (hI:OwnFrom w.heap.size I) (hIx:∀ c,OwnFrom w.heap.size (Ix c)) (hIb:∀ s W b v,B b→I s W→I s (W.setCell ⟨b,0,none⟩ v)) (hIxb:∀ c s W b v,B b→Ix c s W→Ix c s (W.setCell ⟨b,0,none⟩ v)) (h0:I [] w) (a₁:α→Act)
    (hassign:∀ (l:Nat) (x:α) (W:World) (K:Act→World→Prop),K (a₁ x) W →
      assign.wpIn (Fence.wide.inRound l) (n - 1 - 1) P (Exit.then K (fun _ _ _=>False)) { tmps:=(ps.zip (encs x)).foldl (fun t (p,v)=>t.setIfInBounds p v) a.tmps,defers:=[] } W)
    (hbody:∀ (l:Nat) (pre:List α) (x:α) (W:World),I pre W→Sp (pre ++ [x])→body.wpIn (Fence.wide.inRound l) (n - 1 - 1) P (boxPost w.heap.size B I Ix (pre ++ [x]) W) (a₁ x) W)
    (hdone:∀ (D:Nat) (xs:List α) (W:World),w.heap.size≤D→S xs→I xs W→W.heap[D]?=some (.deferred (some []))→Q .normal { a with defers:={ target:=.collected D,args:=#[] } :: a.defers } W)
    (hstop:∀ (D:Nat) (c:Code) (pre:List α) (W:World),w.heap.size≤D→Sp pre→Ix c pre W→W.heap[D]?=some (.deferred (some []))→c.wpIn Fence.wide n P Q { a with defers:={ target:=.collected D,args:=#[] } :: a.defers } W) :
    (Code.rangeFunc g ps assign body).wpIn Fence.wide n P Q a w:=by
  refine wpIn_rangeFunc fun fn hfn=>?_
  obtain ⟨rc,hrc⟩:∃ rc:LoopState→Option Code→Loop,rc=fun st pe=>{ state:=st,pending:=pe,fn,tmps:=a.tmps,params:=ps,assign,body,defers:=w.heap.size }:=⟨_,rfl⟩
  have hrs:∀ st pe,(rc st pe).state=st:=fun st pe=>by rw [hrc]
  have hrp:∀ st pe,(rc st pe).pending=pe:=fun st pe=>by rw [hrc]
  have hpar:∀ st pe,(rc st pe).params=ps:=fun st pe=>by rw [hrc]
  obtain ⟨r,hr⟩:∃ r,r=w.heap.size+1:=⟨_,rfl⟩
  obtain ⟨V,hV⟩:∃ V,V=(w.alloc (.deferred (some []))).alloc (.loop (rc .ready none)):=⟨_,rfl⟩
  have hVr:V.heap[r]?=some (.loop (rc .ready none)):=by
    have:=World.alloc_heap_new (w.alloc (.deferred (some []))) (.loop (rc .ready none))
    rw [World.size_alloc] at this
    rw [hV,hr];exact this
  have hVd:V.heap[w.heap.size]?=some (.deferred (some [])):=by rw [hV];exact (Below.heap_alloc _ _ _ (by simp)).trans (World.alloc_heap_new w _)
  have hVI:I [] V:=by rw [hV];exact hI.alloc _ (hI.alloc _ h0)
  have hVb:Below w.heap.size w V:=by rw [hV];exact ((Below.refl _ w).alloc (Nat.le_refl _) _).alloc (by simp) _
  obtain ⟨Bk,hBk⟩:∃ Bk:LoopState→Option Code→World→Prop,Bk=fun st pe W=>W.heap[r]?=some (.loop (rc st pe))∧W.heap[w.heap.size]?=some (.deferred (some [])):=⟨_,rfl⟩
  have bk:∀ {st pe W},Bk st pe W↔(W.heap[r]?=some (.loop (rc st pe))∧W.heap[w.heap.size]?=some (.deferred (some []))):=fun {st pe W}=>by rw [hBk]
  have bgrow:∀ {st pe W W'},Bk st pe W→W.grownBy W' none→Bk st pe W':=fun h hg'=>bk.2 ⟨grown_none hg' (bk.1 h).1,grown_none hg' (bk.1 h).2⟩
  have bbox:∀ {st pe W} b v,B b→Bk st pe W→Bk st pe (W.setCell ⟨b,0,none⟩ v):=fun b v hb h=>bk.2 ⟨setBox_other (bk.1 h).1 (by have:=hB b hb;omega),setBox_other (bk.1 h).2 (by have:=hB b hb;omega)⟩
  have bput:∀ {st pe W} st' pe',Bk st pe W→Bk st' pe' (W.putObj r (.loop (rc st' pe'))):=fun st' pe' h=>bk.2 ⟨World.putObj_heap_same (Array.getElem?_eq_some_iff.1 (bk.1 h).1).1,(World.putObj_heap_other (by omega)).trans (bk.1 h).2⟩
  have iput:∀ {st pe W pre} o,I pre W→Bk st pe W→I pre (W.putObj r o):=fun o hi h=>hI.putObj o hi (by omega) (bk.1 h).1 rfl
  have xput:∀ {st pe W pre c} o,Ix c pre W→Bk st pe W→Ix c pre (W.putObj r o):=fun o hi h=>(hIx _).putObj o hi (by omega) (bk.1 h).1 rfl
  have iown:∀ {J:List α→World→Prop},OwnFrom w.heap.size J→∀ s W W',J s W→W.grownBy W' none→J s W':=fun h s W W' hs hg'=>h s W W' none hs hg' (fun r e=>by cases e)
  have hbeg:∀ {W},Bk .ready none W→(Instr.beginRound r).run P W=.ok () (W.putObj r (.loop (rc .busy none))):=fun {W} h=>by
    have:=run_beginRound (P:=P) (bk.1 h).1 (hrs _ _)
    rw [this,hrc]
  have hend:∀ {W} jump,Bk .busy none W→(Instr.endRound r jump).run P W=.ok (.bool jump.isNone) (W.putObj r (.loop (rc (if jump.isNone then .ready else .done) jump))):=fun {W} jump h=>by
    have:=run_endRound (P:=P) jump (bk.1 h).1
    rw [this,hrc]
  have hfin:∀ {W st pe},st≠.busy→Bk st pe W→(Instr.endLoop r).run P W=.ok pe (W.putObj r (.loop (rc .exhausted pe))):=fun {W st pe} hne h=>by
    have:=run_endLoop (P:=P) (bk.1 h).1 (by rw [hrs];exact hne)
    rw [this,hrp,hrc]
  refine ⟨r,[{ target:=.collected w.heap.size,args:=#[] }],V,{ target:=.fn (.func gf) lb,args:=#[.func (.yield r) #[] #[]] },V,gf,#[.func (.yield r) #[] #[]] ++ lb,V,?_,?_,?_,?_,fun _=>h1,?_⟩
  · have:=run_enterLoop_outer (P:=P) (w:=w) fn a.tmps ps assign body
    rw [hV,hr,hrc];exact this
  · simp only [resolve,hg]
    simp [go_sem]
  · intro f' _;trivial
  · simp [invoke,go_sem,eg]
  · refine (hseq r (fun pre W=>I pre W∧Bk .ready none W) (fun pre W=>∃ c,Ix c pre W∧Bk .done (some c) W) V (hG V hVb) hVb
      ⟨fun s W W' h hg'=>⟨iown hI s W W' h.1 hg',bgrow h.2 hg'⟩,fun s W b v hb h=>⟨hIb s W b v hb h.1,bbox b v hb h.2⟩⟩
      ⟨fun s W W' h hg'=>by obtain ⟨c,h1,h2⟩:=h;exact ⟨c,iown (hIx c) s W W' h1 hg',bgrow h2 hg'⟩,fun s W b v hb h=>by obtain ⟨c,h1,h2⟩:=h;exact ⟨c,hIxb c s W b v hb h1,bbox b v hb h2⟩⟩
      ?_ ⟨hVI,bk.2 ⟨hVr,hVd⟩⟩).mono ?_
    · rintro pre x W ⟨hi,hb⟩ hlen
      have hy:=run_yield (P:=P) (args:=encs x) (bk.1 hb).1 (by rw [hpar];exact hps x)
      refine ⟨fn,(ps.zip (encs x)).foldl (fun t (p,v)=>t.setIfInBounds p v) a.tmps,assign,body,?_,roundIn_of_wpIn hfn (hassign r x W _ ⟨_,hbeg hb,?_⟩)⟩
      · rw [hy,hrc]
      have hb2:=bput .busy none hb
      have hk:∀ b,B b→(W.putObj r (.loop (rc .busy none))).heap[b]?=W.heap[b]?:=fun b hb=>World.putObj_heap_other (by have:=hB b hb;omega)
      refine wpIn_mono (hbody r pre x _ (iput _ hi hb) hlen) ?_
      have keep:∀ {W3},KeepsFrom w.heap.size (W.putObj r (.loop (rc .busy none))) W3→Bk .busy none W3:=fun {W3} hk3=>bk.2 ⟨hk3.same _ _ (by omega) (bk.1 hb2).1 rfl,hk3.same _ _ (Nat.le_refl _) (bk.1 hb2).2 rfl⟩
      rintro e a3 W3 hp
      cases e with
      | normal =>
        obtain ⟨hk3,hkb,hi3⟩:=hp
        have hb3:=keep hk3
        exact ⟨_,_,hend none hb3,.inl ⟨rfl,⟨iput _ hi3 hb3,bput _ _ hb3⟩,fun b hb=>(World.putObj_heap_other (by have:=hB b hb;omega)).trans ((hkb b hb).trans (hk b hb))⟩⟩
      | ret =>
        obtain ⟨hk3,hi3⟩:=hp
        have hb3:=keep hk3
        exact ⟨_,_,hend (some .ret) hb3,.inr ⟨rfl,.ret,xput _ hi3 hb3,bput _ _ hb3⟩⟩
      | exit id =>
        obtain ⟨hk3,hi3⟩:=hp
        have hb3:=keep hk3
        exact ⟨_,_,hend (some (.exit id)) hb3,.inr ⟨rfl,.exit id,xput _ hi3 hb3,bput _ _ hb3⟩⟩
      | goto t =>
        obtain ⟨hk3,hi3⟩:=hp
        have hb3:=keep hk3
        exact ⟨_,_,hend (some (.goto t)) hb3,.inr ⟨rfl,.goto t,xput _ hi3 hb3,bput _ _ hb3⟩⟩
      | panic ch=>exact hp.elim
      | outgrown=>exact hp.elim
    · rintro e W2 ⟨⟨v,rfl⟩,(⟨xs,hS,hi,hb⟩ | ⟨pre,hSp,c,hi,hb⟩)⟩
      · exact ⟨none,_,hfin (by simp) hb,hdone w.heap.size xs _ (Nat.le_refl _) hS (iput _ hi hb) (bk.1 (bput .exhausted none hb)).2⟩
      · exact ⟨some c,_,hfin (by simp) hb,hstop w.heap.size c pre _ (Nat.le_refl _) hSp (xput _ hi hb) (bk.1 (bput .exhausted (some c) hb)).2⟩
theorem keeps_below {Z:Nat}{W W':World}(h:Below W.heap.size W W'):KeepsFrom Z W W' :=
  ⟨h.size,fun k o _ hk _=>(h.block k (Array.getElem?_eq_some_iff.1 hk).1).trans hk⟩
theorem cells_kept {W W':World}{row:Option Nat}{Z k:Nat}{C:Array Value}{T:TypeId}{fr:Nat × Nat}(hg:W.grownBy W' row)(hr:∀ r,row=some r→Z≤r∧∃ o:Obj,W.heap[r]?=some o∧o.isCells=false)(hk:W.heap[k]?=some (.cells C T fr)):W'.heap[k]?=some (.cells C T fr) :=
  (grownBy_keeps_cells hg (fun r e=>(hr r e).2) hk rfl).trans hk
theorem row_kept {W W':World}{row:Option Nat}{Z base:Nat}{e:TypeId}{size:Nat}{v:Value}{k:Nat}{xs:List Value}(h:W.ownsRow base e size v k xs)(hg:W.grownBy W' row)(hr:∀ r,row=some r→Z≤r∧∃ o:Obj,W.heap[r]?=some o∧o.isCells=false):W'.ownsRow base e size v k xs:=by
  refine h.kept hg ?_
  rcases h.2 with ⟨rfl,_⟩ | ⟨g,cap,cur,rfl,_,hgb,_⟩
  · exact .inl rfl
  · refine .inr fun e'=>?_
    obtain ⟨_,o,ho,hc⟩:=hr g (by simpa [Value.ownBlock] using e'.symm)
    rw [hgb] at ho;cases ho;cases hc
theorem below_kept {n Z:Nat}{w W W':World}{row:Option Nat}(h:Below n w W)(hn:n≤w.heap.size)(hZ:n≤Z)(hg:W.grownBy W' row)(hr:∀ r,row=some r→Z≤r∧∃ o:Obj,W.heap[r]?=some o∧o.isCells=false):Below n w W' :=
  h.grown hg (Nat.le_trans hn h.size) (fun k e=>Nat.le_trans hZ (hr k e).1)
end Go.Proofs.YtihnghnafpgdfadGreatDoor
namespace Go.Proofs.YtihnghnafpgdfadGreatDoor
open Go.RowKit
structure Later (w:World) where
  W:World
  h:Below w.heap.size w W
theorem Later.ne (w:World):Nonempty (Later w):=⟨⟨w,Below.refl _ _⟩⟩
theorem wp_region_later {P:Program}{id:Nat}{Q:Exit→Act→World→Prop}{a:Act}{w:World}{l:List Oper}(hm:P.follows .mixedOrders=true)(hB:Region.lexB .any l.toArray=true)
    (h:wpQuiet P l.toArray (fun w'=>∃ p:Later w,w'=p.W) (fun a'=>∀ w',(∃ p:Later w,w'=p.W)→Q .normal a' w') l a):(Code.region id l.toArray true).wp P Q a w :=
  wp_region_quiet (C:=fun w'=>∃ p:Later w,w'=p.W) hm hB ⟨⟨w.drew,(Below.refl _ _).drew⟩,rfl⟩ (by simpa using h)
theorem Later.cell {w:World}{a:Addr}{v:Value}(h:w.cell? a=some v):∀ p:Later w,p.W.cell? a=some v:=fun p=>by
  rw [p.h.cell (World.block_lt_of_cell? _ _ h)];exact h
theorem later_of {P:Program}{f:FuncId}{args:Array Value}{w:World}{v:Value}(p:Later w)
    (h:Calls P f args p.W fun e w'=>e=.returned v∧Below p.W.heap.size p.W w'):Calls P f args p.W fun e w''=>e=.returned v∧∃ q:Later w,w''=q.W :=
  h.mono fun _ w' ⟨he,hb⟩=>⟨he,⟨w',p.h.trans (hb.mono p.h.size)⟩,rfl⟩
theorem later_same {P:Program}{f:FuncId}{args:Array Value}{w:World}{v:Value}(p:Later w)
    (h:Calls P f args p.W fun e w'=>e=.returned v∧w'=p.W):Calls P f args p.W fun e w''=>e=.returned v∧∃ q:Later w,w''=q.W :=
  h.mono fun _ w' ⟨he,hb⟩=>⟨he,p,hb⟩
theorem later_drew {P:Program}{f:FuncId}{args:Array Value}{w:World}{v:Value}(p:Later w)
    (h:Calls P f args p.W fun e w'=>e=.returned v∧∃ n,w'=p.W.drewN n):Calls P f args p.W fun e w''=>e=.returned v∧∃ q:Later w,w''=q.W :=
  h.mono fun _ w' ⟨he,n,hb⟩=>⟨he,⟨w',by rw [hb];exact below_drewN p.h n⟩,rfl⟩
end Go.Proofs.YtihnghnafpgdfadGreatDoor
namespace Go.Proofs.YtihnghnafpgdfadGreatDoor
open Go
section
variable {P:Program} {w:World}
theorem run_append_new (base:Nat)(t ty e:TypeId)(i:TypeInfo)(z:Value)(size bytes:Nat)(ht:P.underlying t=some (.slice e))(hi:P.info? e=some i)(hz:i.zero=some z)
    (hsize:i.size=size) (hby:i.bytes=bytes) (hzs:z.cells.size=size) (hsz:0<size)
    (v:Value) (n:Nat) (xs:List Value) (hown:w.ownsRow base e size v n xs)
    (a:Addr) (m c:Nat) (news:List Value) (hl:news.length=m * size) (hnews:∀ j u,news[j]?=some u→w.cell? (a.add j)=some u) (h1:∀ u ∈ news,u.oneCell'=true)
    (h63:n+m≤maxLen) (hbytes:(n+m) * bytes≤140737488355328) (hbase:base≤w.heap.size) :
    ∃ v' w',(Builtin.append_ #[t,t] ty #[v,.slice (some a) m c]).run P w=.ok v' w'∧w'.ownsRow base e size v' (n+m) (xs ++ news)∧w.grownBy w' v.ownBlock ∧
      (∀ g,v'.ownBlock=some g→v.ownBlock=some g∨w.heap.size≤g):=by
  obtain ⟨v',w',hr,h2,h3,h4⟩:=run_append_own (P:=P) (w:=w) base t ty e i z size bytes ht hi hz hsize hby hzs hsz v n xs hown a m c news hl hnews h1 h63 hbytes hbase
  refine ⟨v',w',hr,h2,h3,fun g hg=>?_⟩
  have hsmall:n+m≤9223372036854775807:=by simp only [maxLen] at h63;omega
  rcases hown.2 with ⟨rfl,rfl⟩ | ⟨g0,cap,cur,rfl,hbg,hgb,hnc,hcm,hcs,htake⟩
  · have hx:xs=[]:=List.eq_nil_of_length_eq_zero (by simpa using hown.1)
    subst hx
    obtain ⟨v2,w2,hr2,k2,k3,k4⟩:=run_append_own (P:=P) (w:=w) w.heap.size t ty e i z size bytes ht hi hz hsize hby hzs hsz (.slice none 0 0) 0 [] (World.ownsRow_nil _ _ _ _) a m c news hl hnews h1 h63 hbytes (Nat.le_refl _)
    rw [hr2] at hr
    injection hr with e1 e2
    subst e1
    exact .inr (k2.lt g hg).1
  · subst hsize
    subst hby
    by_cases hroom:n+m≤cap
    · have hfit:n * i.size+news.length≤cur.size:=by rw [hl,hcs,← Nat.add_mul];exact Nat.mul_le_mul_right _ hroom
      have hr2:=run_append_room (P:=P) w t ty e i ht hi g0 n cap cur hgb a m c news hl hnews h1 hroom hfit
      rw [hr2] at hr
      injection hr with e1 e2
      subst e1
      exact .inl hg
    · have holds:∀ j u,xs[j]?=some u→w.cell? ((⟨g0,0,none⟩:Addr).add j)=some u:=hown.cells (g:=g0) rfl
      have hr2:=run_append_grow (P:=P) w t ty e i z ht hi hz ⟨g0,0,none⟩ n cap xs hown.1 holds a m c news hl hnews (by omega) (by omega) (growslice_fits (by omega) hbytes)
      rw [hr2] at hr
      injection hr with e1 e2
      subst e1
      simp only [Value.ownBlock,Option.some.injEq] at hg
      exact .inr (by omega)
theorem wp_append_new {o:Oper}{a:Act}{K:Act→World→Prop}{Q:Exit→Act→World→Prop}(s x:Operand)(t:TypeId)
    (ho:o.op=.call { callee:=.builtin .append,args:=#[s,x],argTypes:=#[t,t] })
    (base:Nat) (e:TypeId) (i:TypeInfo) (z:Value) (size bytes:Nat) (ht:P.underlying t=some (.slice e)) (hi:P.info? e=some i) (hz:i.zero=some z)
    (hsize:i.size=size) (hby:i.bytes=bytes) (hzs:z.cells.size=size) (hsz:0<size)
    (v:Value) (n:Nat) (xs:List Value) (hs:a.eval s=v) (hown:w.ownsRow base e size v n xs)
    (ad:Addr) (m c:Nat) (news:List Value) (hx:a.eval x=.slice (some ad) m c) (hl:news.length=m * size) (hnews:∀ j u,news[j]?=some u→w.cell? (ad.add j)=some u) (h1:∀ u ∈ news,u.oneCell'=true)
    (h63:n+m≤maxLen) (hbytes:(n+m) * bytes≤140737488355328) (hbase:base≤w.heap.size)
    (h:∀ v' w',w'.ownsRow base e size v' (n+m) (xs ++ news)→w.grownBy w' v.ownBlock→(∀ g,v'.ownBlock=some g→v.ownBlock=some g∨w.heap.size≤g)→K (a.put o.dst v') w'):o.wp P a w K Q:=by
  obtain ⟨v',w',hr,h2,h3,h4⟩:=run_append_new (P:=P) (w:=w) base t o.type e i z size bytes ht hi hz hsize hby hzs hsz v n xs hown ad m c news hl hnews h1 h63 hbytes hbase
  unfold Oper.wp execOp
  simp only [ho,resolve,invoke,builtin,Sem.run_bind,Sem.run_pure,Result.andThen_ok,List.map_toArray,List.map_cons,List.map_nil,hs,hx,hr]
  exact h v' w' h2 h3 h4
end
end Go.Proofs.YtihnghnafpgdfadGreatDoor
