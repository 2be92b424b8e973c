/- What the proofs stand on, part 24: DeedsRef, OpenRows, LogSaysBase, RowApplied, StoreRef, StoreKeeps, OpenDeeds. -/
import Derived.Laws.OwnMore
import Derived.ProofKit
import Derived.Deep.Slices
import Derived.Deep.Strs
import Derived.Test.YtihnghnafpgdfadGreatDoorRk10
import Derived.Test.YtihnghnafpgdfadGreatDoorRk15
import Derived.Test.YtihnghnafpgdfadGreatDoorRk09
import Derived.Test.YtihnghnafpgdfadGreatDoorRk14
import Derived.Test.YtihnghnafpgdfadGreatDoorRk21
import Derived.Test.YtihnghnafpgdfadGreatDoorRk23
set_option linter.unusedVariables false
set_option linter.unusedSimpArgs false
namespace Go.Proofs.YtihnghnafpgdfadGreatDoor
open Go.RowKit Go.BigFrame
end Go.Proofs.YtihnghnafpgdfadGreatDoor
namespace Go.Proofs.YtihnghnafpgdfadGreatDoor
open Go.RowKit Go.Deep Go.ChangeShapes Go.WideShapes
section
variable {H:Type} {enc:TypeId × Value→H} {w:World} {base:Nat} {spare:Nat→Bool} {held:Bool}
theorem list3:∀ {cs:List Value},cs.length=3→∃ a b c,cs=[a,b,c]
  | [a,b,c],_=>⟨a,b,c,rfl⟩
theorem cellsFile:Tryz.prog.cellsOf 98=3:=by kernel_rfl
theorem cellsString:Tryz.prog.cellsOf 9=1:=by kernel_rfl
theorem cellsInt:Tryz.prog.cellsOf 3=1:=by kernel_rfl
theorem open_file {fuel:Nat}{cs:List Value}{x:DataW H × List MemPlace}(h:DataW.trod enc Tryz.prog w base spare held fuel 98 cs=some x) :
    ∃ f:Fi,cs=[.string f.n,.string f.t,.int .i64 f.k]∧f.n.size≤maxLen∧f.t.size≤maxLen:=by
  obtain ⟨y0,y1,y2,n,_,hl,h0,h1,h2⟩:=trod_struct3 Tryz.underlying98 h
  rw [cellsFile] at hl
  obtain ⟨c0,c1,c2,rfl⟩:=list3 hl
  obtain ⟨s,e0,_,ws⟩:=DataW.trod_string Tryz.underlying9 h0
  obtain ⟨t,e1,_,wt⟩:=DataW.trod_string Tryz.underlying9 h1
  obtain ⟨k,e2,_,wk⟩:=DataW.trod_int Tryz.underlying3 h2
  simp [cellsString,cellsInt] at e0 e1 e2
  subst e0 e1 e2
  exact ⟨⟨s,t,k⟩,rfl,ws,wt⟩
theorem open_files {fuel:Nat} {cs:List Value} {x:DataW H × List MemPlace} (h:DataW.trod enc Tryz.prog w base spare held fuel 30 cs=some x) :
    ∃ (a:Option Addr) (cap:Nat) (l:List Fi),cs=[.slice a l.length cap]∧Slice w a cap l∧Sized l:=by
  rcases open_slice Tryz.underlying30 h with ⟨rfl,_⟩ | ⟨a,len,cap,m,n,D,Pl,rfl,hb,hl,hm,hmm,_,hx⟩
  · exact ⟨none,0,[],rfl,⟨Cells.nil _ _,Nat.le_refl _,Nat.zero_le _,fun _=>rfl⟩,fun f hf=>by cases hf⟩
  · have hlm:len≤m:=by rw [hmm];split <;> omega
    have each:∀ i,i<len→∃ f:Fi,(w.cell? (a.add (i * 3))=some (.string f.n)∧w.cell? (a.add (i * 3+1))=some (.string f.t)∧w.cell? (a.add (i * 3+2))=some (.int .i64 f.k))∧f.n.size≤maxLen∧f.t.size≤maxLen:=by
      intro i hi
      obtain ⟨cs',h1,h2⟩:=hx i (by omega)
      rw [cellsFile] at h1
      obtain ⟨f,rfl,wn,wt⟩:=open_file h2
      obtain ⟨_,hlen,hcell⟩:=World.cells?_some h1
      refine ⟨f,⟨?_,?_,?_⟩,wn,wt⟩
      · have:=hcell 0 (by decide);rw [add_add] at this;simpa using this
      · have:=hcell 1 (by decide);rw [add_add] at this;simpa using this
      · have:=hcell 2 (by decide);rw [add_add] at this;simpa using this
    have gather:∀ n,n≤len→∃ l:List Fi,l.length=n∧Sized l∧∀ i (h:i<l.length),w.cell? (a.add (i * 3))=some (.string l[i].n)∧w.cell? (a.add (i * 3+1))=some (.string l[i].t)∧w.cell? (a.add (i * 3+2))=some (.int .i64 l[i].k):=by
      intro n
      induction n with
      | zero=>intro _;exact ⟨[],rfl,(fun f hf=>by cases hf),fun i h=>absurd h (Nat.not_lt_zero _)⟩
      | succ n ih =>
        intro hn
        obtain ⟨l,hll,hsz,hc⟩:=ih (by omega)
        obtain ⟨f,hf,wf⟩:=each n (by omega)
        refine ⟨l ++ [f],by simp [hll],?_,?_⟩
        · intro g hg
          simp at hg
          rcases hg with hg | rfl
          · exact hsz g hg
          · exact wf
        · intro i hi
          simp only [List.length_append,List.length_cons,List.length_nil] at hi
          by_cases hin:i<l.length
          · rw [List.getElem_append_left hin];exact hc i hin
          · have e:i=l.length:=by omega
            subst e
            rw [List.getElem_append_right (Nat.le_refl _)]
            simp only [Nat.sub_self,List.getElem_cons_zero]
            rw [hll]
            exact hf
    obtain ⟨l,hll,hsz,hc⟩:=gather len (Nat.le_refl _)
    refine ⟨some a,cap,l,by rw [hll],⟨?_,by omega,hm,fun h=>by cases h⟩,hsz⟩
    intro i hi
    obtain ⟨b,off,spot⟩:=a
    have hspot:spot=none:=by
      have h0:=(hc 0 (by omega)).1
      have:=World.cell?_spot h0
      simpa [Addr.add] using this
    subst hspot
    obtain ⟨h0,h1,h2⟩:=hc i hi
    have hadd:∀ j,(⟨b,off,none⟩:Addr).add j=⟨b,off+j,none⟩:=by intro j;unfold Addr.add;split <;> simp_all
    rw [hadd] at h0 h1 h2
    exact ⟨b,off,rfl,h0,by rw [Nat.add_assoc];exact h1,by rw [Nat.add_assoc];exact h2⟩
end
section
variable {H:Type} {enc:TypeId × Value→H} {w:World} {base:Nat} {spare:Nat→Bool} {held:Bool}
theorem list6:∀ {cs:List Value},cs.length=6→∃ a b c d e f,cs=[a,b,c,d,e,f]
  | [a,b,c,d,e,f],_=>⟨a,b,c,d,e,f,rfl⟩
theorem cellsChange:Tryz.prog.cellsOf 143=3:=by kernel_rfl
theorem cellsAct:Tryz.prog.cellsOf 66=6:=by kernel_rfl
theorem cellsBool:Tryz.prog.cellsOf 4=1:=by kernel_rfl
theorem cellsU64:Tryz.prog.cellsOf 23=1:=by kernel_rfl
theorem cellsChanges:Tryz.prog.cellsOf 64=1:=by kernel_rfl
theorem open_change {fuel:Nat}{cs:List Value}{x:DataW H × List MemPlace}(h:DataW.trod enc Tryz.prog w base spare held fuel 143 cs=some x) :
    ∃ (c:Ch),cs=[.string c.key,.string c.val,.bool c.gone]∧c.key.size≤maxLen∧c.val.size≤maxLen:=by
  obtain ⟨y0,y1,y2,n,_,hl,h0,h1,h2⟩:=trod_struct3 Tryz.underlying143 h
  rw [cellsChange] at hl
  obtain ⟨c0,c1,c2,rfl⟩:=list3 hl
  obtain ⟨s,e0,_,ws⟩:=DataW.trod_string Tryz.underlying9 h0
  obtain ⟨t,e1,_,wt⟩:=DataW.trod_string Tryz.underlying9 h1
  obtain ⟨g,e2,_⟩:=DataW.trod_bool Tryz.underlying4 h2
  simp [cellsString,cellsBool] at e0 e1 e2
  subst e0 e1 e2
  exact ⟨⟨s,t,g⟩,rfl,ws,wt⟩
theorem open_changes {fuel:Nat} {cs:List Value} {x:DataW H × List MemPlace} (h:DataW.trod enc Tryz.prog w base spare held fuel 64 cs=some x) :
    ∃ (a:Option Addr) (cap:Nat) (l:List Ch),cs=[.slice a l.length cap]∧ChCells w a l∧l.length≤maxLen:=by
  rcases open_slice Tryz.underlying64 h with ⟨rfl,_⟩ | ⟨a,len,cap,m,n,D,Pl,rfl,hb,hl,hm,hmm,_,hx⟩
  · exact ⟨none,0,[],rfl,(fun i h=>absurd h (Nat.not_lt_zero _)),Nat.zero_le _⟩
  · have hlm:len≤m:=by rw [hmm];split <;> omega
    have each:∀ i,i<len→∃ f:Ch,(w.cell? (a.add (i * 3))=some (.string f.key)∧w.cell? (a.add (i * 3+1))=some (.string f.val)∧w.cell? (a.add (i * 3+2))=some (.bool f.gone))∧f.key.size≤maxLen∧f.val.size≤maxLen:=by
      intro i hi
      obtain ⟨cs',h1,h2⟩:=hx i (by omega)
      rw [cellsChange] at h1
      obtain ⟨f,rfl,wn,wt⟩:=open_change h2
      obtain ⟨_,hlen,hcell⟩:=World.cells?_some h1
      refine ⟨f,⟨?_,?_,?_⟩,wn,wt⟩
      · have:=hcell 0 (by decide);rw [add_add] at this;simpa using this
      · have:=hcell 1 (by decide);rw [add_add] at this;simpa using this
      · have:=hcell 2 (by decide);rw [add_add] at this;simpa using this
    have gather:∀ n,n≤len→∃ l:List Ch,l.length=n∧∀ i (h:i<l.length),(w.cell? (a.add (i * 3))=some (.string l[i].key)∧w.cell? (a.add (i * 3+1))=some (.string l[i].val)∧w.cell? (a.add (i * 3+2))=some (.bool l[i].gone))∧l[i].key.size≤maxLen∧l[i].val.size≤maxLen:=by
      intro n
      induction n with
      | zero=>intro _;exact ⟨[],rfl,fun i h=>absurd h (Nat.not_lt_zero _)⟩
      | succ n ih =>
        intro hn
        obtain ⟨l,hll,hc⟩:=ih (by omega)
        obtain ⟨f,hf⟩:=each n (by omega)
        refine ⟨l ++ [f],by simp [hll],?_⟩
        intro i hi
        simp only [List.length_append,List.length_cons,List.length_nil] at hi
        by_cases hin:i<l.length
        · rw [List.getElem_append_left hin];exact hc i hin
        · have e:i=l.length:=by omega
          subst e
          rw [List.getElem_append_right (Nat.le_refl _)]
          simp only [Nat.sub_self,List.getElem_cons_zero]
          rw [hll]
          exact hf
    obtain ⟨l,hll,hc⟩:=gather len (Nat.le_refl _)
    refine ⟨some a,cap,l,by rw [hll],?_,by omega⟩
    intro i hi
    obtain ⟨b,off,spot⟩:=a
    have hspot:spot=none:=by
      have h0:=(hc 0 (by omega)).1.1
      have:=World.cell?_spot h0
      simpa [Addr.add] using this
    subst hspot
    obtain ⟨⟨h0,h1,h2⟩,z0,z1⟩:=hc i hi
    have hadd:∀ j,(⟨b,off,none⟩:Addr).add j=⟨b,off+j,none⟩:=by intro j;unfold Addr.add;split <;> simp_all
    rw [hadd] at h0 h1 h2
    exact ⟨b,off,rfl,h0,by rw [Nat.add_assoc];exact h1,by rw [Nat.add_assoc];exact h2,z0,z1⟩
theorem open_six {t:TypeId}{f0 f1 f2 f3 f4 f5:Field}{fuel:Nat}{cs:List Value}{x:DataW H × List MemPlace}(ht:Tryz.prog.underlying t=some (.struct #[f0,f1,f2,f3,f4,f5]))(h:DataW.trod enc Tryz.prog w base spare held fuel t cs=some x) :
    ∃ y0 y1 y2 y3 y4 y5 n,cs.length=Tryz.prog.cellsOf t∧DataW.trod enc Tryz.prog w base spare held n f0.type ((cs.drop f0.offset).take (Tryz.prog.cellsOf f0.type))=some y0 ∧
      DataW.trod enc Tryz.prog w base spare held n f1.type ((cs.drop f1.offset).take (Tryz.prog.cellsOf f1.type))=some y1 ∧
      DataW.trod enc Tryz.prog w base spare held n f2.type ((cs.drop f2.offset).take (Tryz.prog.cellsOf f2.type))=some y2 ∧
      DataW.trod enc Tryz.prog w base spare held n f3.type ((cs.drop f3.offset).take (Tryz.prog.cellsOf f3.type))=some y3 ∧
      DataW.trod enc Tryz.prog w base spare held n f4.type ((cs.drop f4.offset).take (Tryz.prog.cellsOf f4.type))=some y4 ∧
      DataW.trod enc Tryz.prog w base spare held n f5.type ((cs.drop f5.offset).take (Tryz.prog.cellsOf f5.type))=some y5:=by
  obtain ⟨xs,n,_,_,hl,hlen,hf⟩:=DataW.trod_struct ht h
  match xs,hlen with
  | [y0,y1,y2,y3,y4,y5],_=>exact ⟨y0,y1,y2,y3,y4,y5,n,hl,by simpa using hf 0 f0 rfl,by simpa using hf 1 f1 rfl,by simpa using hf 2 f2 rfl,by simpa using hf 3 f3 rfl,by simpa using hf 4 f4 rfl,by simpa using hf 5 f5 rfl⟩
theorem open_act {fuel:Nat}{cs:List Value}{x:DataW H × List MemPlace}(h:DataW.trod enc Tryz.prog w base spare held fuel 66 cs=some x) :
    ∃ y:Ac,cs=[.string y.kind,.string y.s,.string y.t,.int .i64 y.n,.int .u64 y.k,.slice y.ca y.cl.length y.cc]∧AcOk w y:=by
  obtain ⟨y0,y1,y2,y3,y4,y5,n,hl,h0,h1,h2,h3,h4,h5⟩:=open_six Tryz.underlying66 h
  rw [cellsAct] at hl
  obtain ⟨c0,c1,c2,c3,c4,c5,rfl⟩:=list6 hl
  obtain ⟨s0,e0,_,w0⟩:=DataW.trod_string Tryz.underlying9 h0
  obtain ⟨s1,e1,_,w1⟩:=DataW.trod_string Tryz.underlying9 h1
  obtain ⟨s2,e2,_,w2⟩:=DataW.trod_string Tryz.underlying9 h2
  obtain ⟨k3,e3,_,w3⟩:=DataW.trod_int Tryz.underlying3 h3
  obtain ⟨k4,e4,_,w4⟩:=DataW.trod_int Tryz.underlying23 h4
  obtain ⟨a,cap,l,e5,hc,hm⟩:=open_changes h5
  simp [cellsString,cellsInt,cellsU64,cellsChanges] at e0 e1 e2 e3 e4 e5
  subst e0 e1 e2 e3 e4 e5
  exact ⟨⟨s0,s1,s2,k3,k4,a,cap,l⟩,rfl,⟨w0,w1,w2,hm,hc⟩⟩
def CellsAct (w:World) (a:Addr) (i:Nat) (f:Ac):Prop :=
  (w.cell? (a.add (i * 6))=some (.string f.kind)∧w.cell? (a.add (i * 6+1))=some (.string f.s)∧w.cell? (a.add (i * 6+2))=some (.string f.t) ∧
    w.cell? (a.add (i * 6+3))=some (.int .i64 f.n)∧w.cell? (a.add (i * 6+4))=some (.int .u64 f.k)∧w.cell? (a.add (i * 6+5))=some (.slice f.ca f.cl.length f.cc))∧AcOk w f
theorem open_acts {fuel:Nat} {cs:List Value} {x:DataW H × List MemPlace} (h:DataW.trod enc Tryz.prog w base spare held fuel 22 cs=some x) :
    ∃ (a:Option Addr) (cap:Nat) (l:List Ac),cs=[.slice a l.length cap]∧l.length≤maxLen∧ActCells w a l:=by
  rcases open_slice Tryz.underlying22 h with ⟨rfl,_⟩ | ⟨a,len,cap,m,n,D,Pl,rfl,hb,hl,hm,hmm,_,hx⟩
  · exact ⟨none,0,[],rfl,Nat.zero_le _,(fun i h=>absurd h (Nat.not_lt_zero _))⟩
  · have hlm:len≤m:=by rw [hmm];split <;> omega
    have each:∀ i,i<len→∃ f:Ac,CellsAct w a i f:=by
      intro i hi
      obtain ⟨cs',h1,h2⟩:=hx i (by omega)
      rw [cellsAct] at h1
      obtain ⟨f,rfl,ok⟩:=open_act h2
      obtain ⟨_,hlen,hcell⟩:=World.cells?_some h1
      refine ⟨f,⟨?_,?_,?_,?_,?_,?_⟩,ok⟩
      · have:=hcell 0 (by decide);rw [add_add] at this;simpa using this
      · have:=hcell 1 (by decide);rw [add_add] at this;simpa using this
      · have:=hcell 2 (by decide);rw [add_add] at this;simpa using this
      · have:=hcell 3 (by decide);rw [add_add] at this;simpa using this
      · have:=hcell 4 (by decide);rw [add_add] at this;simpa using this
      · have:=hcell 5 (by decide);rw [add_add] at this;simpa using this
    have gather:∀ n,n≤len→∃ l:List Ac,l.length=n∧∀ i (h:i<l.length),CellsAct w a i l[i]:=by
      intro n
      induction n with
      | zero=>intro _;exact ⟨[],rfl,fun i h=>absurd h (Nat.not_lt_zero _)⟩
      | succ n ih =>
        intro hn
        obtain ⟨l,hll,hc⟩:=ih (by omega)
        obtain ⟨f,hf⟩:=each n (by omega)
        refine ⟨l ++ [f],by simp [hll],?_⟩
        intro i hi
        simp only [List.length_append,List.length_cons,List.length_nil] at hi
        by_cases hin:i<l.length
        · rw [List.getElem_append_left hin];exact hc i hin
        · have e:i=l.length:=by omega
          subst e
          rw [List.getElem_append_right (Nat.le_refl _)]
          simp only [Nat.sub_self,List.getElem_cons_zero]
          rw [hll]
          exact hf
    obtain ⟨l,hll,hc⟩:=gather len (Nat.le_refl _)
    refine ⟨some a,cap,l,by rw [hll],by omega,?_⟩
    intro i hi
    obtain ⟨b,off,spot⟩:=a
    have hspot:spot=none:=by
      have h0:=(hc 0 (by omega)).1.1
      have:=World.cell?_spot h0
      simpa [Addr.add] using this
    subst hspot
    obtain ⟨⟨h0,h1,h2,h3,h4,h5⟩,ok⟩:=hc i hi
    have hadd:∀ j,(⟨b,off,none⟩:Addr).add j=⟨b,off+j,none⟩:=by intro j;unfold Addr.add;split <;> simp_all
    rw [hadd] at h0 h1 h2 h3 h4 h5
    exact ⟨b,off,rfl,⟨h0,by rw [Nat.add_assoc];exact h1,by rw [Nat.add_assoc];exact h2,by rw [Nat.add_assoc];exact h3,by rw [Nat.add_assoc];exact h4,by rw [Nat.add_assoc];exact h5⟩,ok⟩
end
section
variable {H:Type} {enc:TypeId × Value→H} {w:World} {base:Nat} {spare:Nat→Bool} {held:Bool}
theorem changes_nil {fuel:Nat}{a:Option Addr}{n cap:Nat}{x:DataW H × List MemPlace}(h:DataW.trod enc Tryz.prog w base spare held fuel 64 (Value.slice a n cap).cells.toList=some x):a=none→cap=0:=by
  intro e
  subst e
  rcases open_slice Tryz.underlying64 h with ⟨h1,_⟩ | ⟨a,len,cap,m,n,D,Pl,h1,_⟩
  · simp [Value.cells] at h1;exact h1.2
  · simp [Value.cells] at h1
structure ActNum (x:Ac):Prop where
  n:(Lit.int .i64 x.n).wf=true
  k:(Lit.int .u64 x.k).wf=true
  nil:x.ca=none→x.cc=0
set_option maxRecDepth 100000 in
theorem acts_nums {fuel:Nat} {a:Option Addr} {len cap:Nat} {l:List Ac} {x:DataW H × List MemPlace} (h:DataW.trod enc Tryz.prog w base spare held fuel 22 (Value.slice a len cap).cells.toList=some x) (hc:ActCells w a l) (hll:l.length=len):∀ i (h:i<l.length),ActNum l[i]:=by
  intro i hi
  rcases open_slice Tryz.underlying22 h with ⟨h1,_⟩ | ⟨a',len',cap',m,n,D,Pl,h1,hb,hl,hm,hmm,_,hx⟩
  · simp [Value.cells] at h1;omega
  · simp [Value.cells] at h1
    obtain ⟨rfl,rfl,rfl⟩:=h1
    have hlm:len≤m:=by rw [hmm];split <;> omega
    obtain ⟨cs',k1,k2⟩:=hx i (by omega)
    rw [cellsAct] at k1
    obtain ⟨_,hlen,hcell⟩:=World.cells?_some k1
    obtain ⟨y0,y1,y2,y3,y4,y5,n',hl',h0,h1,h2,h3,h4,h5⟩:=open_six Tryz.underlying66 k2
    rw [cellsAct] at hl'
    obtain ⟨c0,c1,c2,c3,c4,c5,rfl⟩:=list6 hl'
    obtain ⟨k3,e3,_,w3⟩:=DataW.trod_int Tryz.underlying3 h3
    obtain ⟨k4,e4,_,w4⟩:=DataW.trod_int Tryz.underlying23 h4
    simp [cellsInt,cellsU64] at e3 e4
    obtain ⟨b,off,e,⟨d0,d1,d2,d3,d4,d5⟩,ok⟩:=hc i hi
    injection e with e
    subst e
    have hadd:∀ j,(⟨b,off,none⟩:Addr).add j=⟨b,off+j,none⟩:=by intro j;unfold Addr.add;split <;> simp_all
    have g3:=hcell 3 (by decide)
    have g4:=hcell 4 (by decide)
    have g5:=hcell 5 (by decide)
    rw [add_add,hadd] at g3 g4 g5
    simp only [List.getElem_cons_succ,List.getElem_cons_zero,← Nat.add_assoc] at g3 g4 g5
    rw [d3] at g3
    rw [d4] at g4
    rw [d5] at g5
    injection g3 with g3
    injection g4 with g4
    injection g5 with g5
    subst e3 e4
    injection g3 with _ g3
    injection g4 with _ g4
    refine ⟨by rw [g3];exact w3,by rw [g4];exact w4,?_⟩
    have h6:DataW.trod enc Tryz.prog w base spare held n' 64 (Value.slice l[i].ca l[i].cl.length l[i].cc).cells.toList=some y5:=by
      have:([c0,c1,c2,Value.int .i64 k3,Value.int .u64 k4,c5].drop 5).take (Tryz.prog.cellsOf 64)=(Value.slice l[i].ca l[i].cl.length l[i].cc).cells.toList:=by
        rw [cellsChanges,← g5];simp [Value.cells]
      rw [← this]
      exact h5
    exact changes_nil h6
end
end Go.Proofs.YtihnghnafpgdfadGreatDoor
namespace Go.Proofs.YtihnghnafpgdfadGreatDoor
open Go.RowKit Go.BigFrame
def kx:Ch:=⟨⟨#[107]⟩,⟨#[120]⟩,false⟩
structure Free (d:Dk)(N k:Nat):Prop where
  up:d.down=false
  left:d.left<0
  wr:d.wr.length≤k
  len:d.now.length=N
theorem write_free {d:Dk}{N k i:Nat}{s:ByteArray}(h:Free d N k)(hi:i<N)(hs:s.size≤40):writeN d (i:Int) s=0∧Free (writeD d (i:Int) s) N (k+1):=by
  have hgood:¬ (¬ (0≤(i:Int)∧(i:Int)<(d.now.length:Int))∨40<s.size):=by rw [h.len];omega
  rcases stepN_cases d h.up with ⟨h8,hl0,hst⟩ | ⟨h0,hl0,hnow,hkept,hwr,hbit,hdn,hleft⟩
  · have:=h.left;omega
  · have e2:writeD d i s={ stepD d with now:=d.now.set i (padD s),wr:=d.wr ++ [⟨i,d.bit,padD s⟩],bit:=(d.bit+1) % 64 }:=by unfold writeD;rw [if_neg hgood,if_pos h0];rfl
    refine ⟨by unfold writeN;rw [if_neg hgood,h0],?_⟩
    rw [e2]
    refine ⟨hdn,?_,by simp;exact h.wr,by simp;exact h.len⟩
    show (stepD d).left<0
    rw [hleft,if_neg (by have:=h.left;omega)]
    exact h.left
theorem free_new (n:Nat):Free (newD n) n 0:=⟨rfl,(by decide:(-1:Int)<0),by simp [newD],by simp [newD,noughts]⟩
end Go.Proofs.YtihnghnafpgdfadGreatDoor
namespace Go.Proofs.YtihnghnafpgdfadGreatDoor
open Go.RowKit
end Go.Proofs.YtihnghnafpgdfadGreatDoor
namespace Go.Proofs.YtihnghnafpgdfadGreatDoor
open Go.RowKit Go.BigFrame
structure Ms where
  ra:Option Addr
  rc:Nat
  rows:List Ch
  used:Nat
  many:Nat
def commitF (m:Ms)(c:List Ch):Int:=if 14<c.length then 2 else if faultL c≠0 then faultL c else if 12<(appliedC m.rows c).length∨m.many<c.length+1 then 7 else 0
def commitU (m:Ms)(c:List Ch):Nat:=(if m.many - m.used<c.length+1 then 0 else m.used)+c.length+1
end Go.Proofs.YtihnghnafpgdfadGreatDoor
namespace Go.Proofs.YtihnghnafpgdfadGreatDoor
theorem byteAt_baL (l:List UInt8)(i:Nat):byteAt (baL l) i=(l.getD i 0).toNat:=by unfold byteAt;rw [baL_list]
theorem appliedC_nil {rows:List Ch}(h:Rowed rows):appliedC [] rows=rows :=
  Rowed.ext (applied_rowed Rowed.nil) h (fun k=>by
    rw [applied_look k Rowed.nil,h.lastK k]
    have e:look ([]:List Ch) k=none:=rfl
    rw [e,Option.or_none,h.alive_look k])
theorem readAll_bytes:∀ {rows:List Ch},(∀ c ∈ rows,changeF c=0)→readAll (rows.map fun c=>baL (bytesC c))=some rows
  | [],_=>rfl
  | c :: r,h=>by
    have e:readC (baL (bytesC c))=some c:=rdC_bytesC (h c (by simp))
    simp only [List.map_cons,readAll,e,readAll_bytes (rows:=r) (fun x hx=>h x (List.mem_cons_of_mem _ hx))]
    rfl
theorem textL_drop {rows:List Ch}(h:∀ c ∈ rows,changeF c=0){i:Nat}(hi:i<rows.length):(textL rows).drop (40 * i)=rowL rows[i] ++ textL (rows.drop (i+1)):=by
  have e:textL rows=textL (rows.take i) ++ (rowL rows[i] ++ textL (rows.drop (i+1))):=by
    have hs:rows.take i ++ rows[i] :: rows.drop (i+1)=rows:=by rw [← List.drop_eq_getElem_cons hi,List.take_append_drop]
    have:=congrArg textL hs
    rw [← this]
    unfold textL
    simp only [List.map_append,List.map_cons,List.flatten_append,List.flatten_cons]
  have hl:(textL (rows.take i)).length=40 * i:=by
    rw [textL_length (fun c hc=>h c (List.mem_of_mem_take hc)),List.length_take];omega
  rw [e,← hl,List.drop_left]
theorem cutL_text {rows:List Ch}(h:∀ c ∈ rows,changeF c=0):cutL (baL (textL rows)) rows.length=rows.map fun c=>baL (bytesC c):=by
  apply List.ext_getElem
  · simp [cutL]
  · intro i h1 h2
    have hi:i<rows.length:=by simpa [cutL] using h1
    simp only [cutL,List.getElem_map,List.getElem_range]
    have hbl:=bytesC_len (h rows[i] (List.getElem_mem hi))
    have hs:(baL (textL rows)).size=40 * rows.length:=by rw [baL_size,textL_length h];omega
    have hl:(restT (baL (textL rows)) i).data.toList=rowL rows[i] ++ textL (rows.drop (i+1)):=by
      unfold restT
      rw [extract_list,baL_list,← textL_drop h hi,List.take_of_length_le]
      rw [List.length_drop,hs,textL_length h]
      omega
    have hb:byteAt (restT (baL (textL rows)) i) 0=(bytesC rows[i]).length:=by
      unfold byteAt
      rw [hl]
      simp [rowL]
      omega
    unfold cutOf
    rw [hb,show (min (1+((bytesC rows[i]).length:Int)) 40).toNat=1+(bytesC rows[i]).length by omega]
    apply ByteArray.ext
    apply Array.ext'
    rw [extract_list,hl,baL_list]
    have e:rowL rows[i] ++ textL (rows.drop (i+1))=UInt8.ofNat (bytesC rows[i]).length :: (bytesC rows[i] ++ (List.replicate (39 - (bytesC rows[i]).length) 0 ++ textL (rows.drop (i+1)))):=by simp [rowL]
    rw [e,List.drop_one,List.tail_cons,show 1+(bytesC rows[i]).length - 1=(bytesC rows[i]).length by omega,List.take_left]
theorem parseT_text {rows:List Ch}(hr:Rowed rows)(h:∀ c ∈ rows,changeF c=0):parseT (baL (textL rows)) rows.length=some rows:=by
  unfold parseT
  rw [cutL_text h,readAll_bytes h]
  simp only
  rw [if_pos]
  exact ⟨by rw [appliedC_nil hr];exact sameCL_self rows,by rw [baL_list];simp⟩
theorem pad40_at {l:List UInt8}{i:Nat}(h:i<l.length):(pad40 l).getD i 0=l.getD i 0:=by
  unfold pad40
  rw [List.getD_eq_getElem?_getD,List.getD_eq_getElem?_getD,List.getElem?_append_left h]
theorem whOf_laid {d:Dk}{i:Nat}{rows:List Ch}(hi:i≤1)(hr:Rowed rows)(h:∀ c ∈ rows,changeF c=0)(h12:rows.length≤12)(hhead:d.now[i]?=some (pad40 (headL i (baL (textL rows)))))
    (hrows:∀ j,j<rows.length→d.now[2+i * 12+j]?=(rows.map rowL)[j]?):whOf d i=some rows:=by
  have hs:(baL (textL rows)).size=40 * rows.length:=by rw [baL_size,textL_length h];omega
  have e1:headS d i=pad40 (headL i (baL (textL rows))):=by unfold headS;rw [List.getD_eq_getElem?_getD,hhead];rfl
  have e2:headC d i=rows.length:=by
    unfold headC
    rw [byteAt_baL,e1,pad40_at (by rw [headL_length];omega)]
    have:(headL i (baL (textL rows))).getD 11 0=UInt8.ofNat ((baL (textL rows)).size / 40):=rfl
    rw [this,hs]
    simp
    omega
  have e3:regionL d.now (2+i * 12) rows.length=rows.map rowL:=by
    apply List.ext_getElem?
    intro j
    rw [regionL_at]
    by_cases hj:j<rows.length
    · rw [if_pos hj,hrows j hj]
    · rw [if_neg hj,List.getElem?_eq_none (by rw [List.length_map];omega)]
  have e4:sideT d i=baL (textL rows):=by unfold sideT;rw [e2,e3];rfl
  unfold whOf
  rw [if_pos,e4,e2,parseT_text hr h]
  refine ⟨by rw [e2];exact h12,?_⟩
  rw [e4,e1]
  exact List.isPrefixOf_iff_prefix.2 ⟨_,rfl⟩
theorem whOf_blank {d:Dk}{i:Nat}(h:d.now[i]?=some blank):whOf d i=none:=by
  have e1:headS d i=blank:=by unfold headS;rw [List.getD_eq_getElem?_getD,h];rfl
  unfold whOf
  rw [if_neg]
  rintro ⟨-,h2⟩
  rw [e1] at h2
  have e:headL i (sideT d i)=112 :: (headL i (sideT d i)).tail:=rfl
  rw [e] at h2
  simp [blank,List.replicate_succ,List.isPrefixOf] at h2
theorem whOf_congr {d d':Dk}{i:Nat}(hi:i≤1)(h:∀ j,j<26→d'.now[j]?=d.now[j]?):whOf d' i=whOf d i:=by
  have e1:headS d' i=headS d i:=by unfold headS;rw [List.getD_eq_getElem?_getD,List.getD_eq_getElem?_getD,h i (by omega)]
  have e2:headC d' i=headC d i:=by unfold headC;rw [e1]
  by_cases h12:headC d i≤12
  · have e3:sideT d' i=sideT d i:=by
      unfold sideT
      rw [e2]
      congr 2
      apply List.ext_getElem?
      intro j
      rw [regionL_at,regionL_at]
      split
      · exact h _ (by have:=Nat.mul_le_mul hi (Nat.le_refl 12);omega)
      · rfl
    have e4:HeadOk d' i↔HeadOk d i:=by unfold HeadOk;rw [e1,e2,e3]
    unfold whOf
    by_cases hh:HeadOk d i
    · rw [if_pos hh,if_pos (e4.2 hh),e3,e2]
    · rw [if_neg hh,if_neg (fun x=>hh (e4.1 x))]
  · unfold whOf
    rw [if_neg (fun x=>h12 (by rw [← e2];exact x.1)),if_neg (fun x=>h12 x.1)]
theorem closedL_other {C:Type}(rd:List UInt8→Option C){first:Nat}{s:List UInt8}{r:List (List UInt8)}(h:secOf first s=none):closedL rd first (s :: r)=([],0):=by
  unfold closedL
  simp [runL,stepL,h]
theorem secOf_other {n m:Nat}{s:List UInt8}(h:¬ secOf n s=none)(hn:n<4294967296)(hm:m<4294967296)(hne:n≠m):secOf m s=none:=by
  unfold secOf at h ⊢
  split at h
  · rename_i hc
    rw [if_neg]
    rintro ⟨h1,-⟩
    rw [hc.1] at h1
    exact hne (leB_inj (by simpa using hn) (by simpa using hm) h1)
  · exact absurd rfl h
theorem closedL_used {C:Type}(rd:List UInt8→Option C){first:Nat}{l:List (List UInt8)}(h:0<(closedL rd first l).2):∃ s r,l=s :: r∧¬ secOf first s=none:=by
  cases l with
  | nil=>simp [closedL,runL] at h
  | cons s r =>
    refine ⟨s,r,rfl,fun hn=>?_⟩
    rw [closedL_other rd hn] at h
    exact absurd h (by simp)
theorem closedL_zero {C:Type}(rd:List UInt8→Option C){first:Nat}{l:List (List UInt8)}(h:(closedL rd first l).2=0):(closedL rd first l).1=[]:=by
  rcases runL_mark rd first l 0 ⟨[],[],0⟩ with ⟨h1,h2,h3⟩ | ⟨j,hj,hjl,h1,h2⟩
  · exact h2
  · have e:(closedL rd first l).2=0+j:=h1
    omega
end Go.Proofs.YtihnghnafpgdfadGreatDoor
namespace Go.Proofs.YtihnghnafpgdfadGreatDoor
open Go Go.RowKit Go.BigFrame
structure Kept (N:Nat)(d:Dk)(side used:Nat)(rows:List Ch):Prop where
  free:Free d N 0
  sd:side≤1
  said:∃ rows0 D,whOf d side=some rows0∧logAtD d side=(D,used)∧foldRows rows0 D=some rows
  blank:d.now[1 - side]?=some blank
theorem lays_free {d:Dk}{N a:Nat}{l:List ByteArray}(h:Free d N 0)(hl:a+l.length≤N)(hs:∀ s ∈ l,s.size≤40) :
    (layD d a l).2=0∧Free (layD d a l).1 N 0∧∀ j,(layD d a l).1.now[j]?=if a≤j∧j<a+l.length then (l.map padD)[j - a]? else d.now[j]?:=by
  obtain ⟨k1,k2,k3,k4,k5,k6⟩:=layD_free d a l h.up h.left (by rw [h.len];exact hl) hs
  refine ⟨k1,⟨k3,by rw [k4];exact h.left,by rw [k5];simp,by rw [k2,laidL_length];exact h.len⟩,fun j=>?_⟩
  rw [k2,laidL_at _ _ _ _ (by rw [List.length_map,h.len];exact hl),List.length_map]
theorem lay_free {d:Dk}{N a:Nat}{s:ByteArray}(h:Free d N 0)(hl:a<N)(hs:s.size≤40) :
    (layD d a [s]).2=0∧Free (layD d a [s]).1 N 0∧∀ j,(layD d a [s]).1.now[j]?=if j=a then some (padD s) else d.now[j]?:=by
  obtain ⟨k1,k2,k3⟩:=lays_free (a:=a) (l:=[s]) h (by simp;omega) (by intro x hx;simp at hx;rw [hx];exact hs)
  refine ⟨k1,k2,fun j=>?_⟩
  rw [k3 j]
  by_cases hj:j=a
  · subst hj
    rw [if_pos ⟨Nat.le_refl _,by simp⟩,if_pos rfl]
    simp
  · rw [if_neg (by simp;omega),if_neg hj]
theorem logAt_none {d:Dk}{side:Nat}{s:List UInt8}(h26:26<d.now.length)(hs:d.now[26]?=some s)(h:secOf (firstOf d side) s=none):logAtD d side=([],0):=by
  unfold logAtD logOf
  have h0:(regionL d.now 26 (d.now.length - 26))[0]?=some s:=by rw [regionL_at,if_pos (by omega)];exact hs
  cases hr:regionL d.now 26 (d.now.length - 26) with
  | nil=>rw [hr] at h0;simp at h0
  | cons x r =>
    rw [hr] at h0
    simp at h0
    subst h0
    exact closedL_other _ h
theorem firstOf_len {d d':Dk}{side:Nat}(h:d'.now.length=d.now.length):firstOf d' side=firstOf d side:=by unfold firstOf;rw [h]
theorem logAt_congr {d d':Dk}{side:Nat}(hl:d'.now.length=d.now.length)(h:∀ j,26≤j→d'.now[j]?=d.now[j]?):logAtD d' side=logAtD d side:=by
  unfold logAtD firstOf logOf
  rw [hl]
  congr 1
  apply List.ext_getElem?
  intro j
  rw [regionL_at,regionL_at]
  split
  · exact h _ (by omega)
  · rfl
theorem foldRows_rowed:∀ {D:List (List Ch)} {r rows:List Ch},Rowed r→(∀ c ∈ r,changeF c=0)→r.length≤12→(∀ l ∈ D,∀ c ∈ l,changeF c=0)→foldRows r D=some rows→Rowed rows∧(∀ c ∈ rows,changeF c=0)∧rows.length≤12
  | [],r,rows,h1,h2,h3,_,h=>by
    simp only [foldRows] at h
    cases h
    exact ⟨h1,h2,h3⟩
  | c :: D,r,rows,h1,h2,h3,h4,h=>by
    simp only [foldRows] at h
    split at h
    · cases h
    · rename_i h12
      exact foldRows_rowed (applied_rowed h1) (applied_ok h2 (h4 c (by simp))) (by omega) (fun l hl=>h4 l (by simp [hl])) h
theorem foldRows_snoc:∀ {D:List (List Ch)} {r rows c:List Ch},foldRows r D=some rows→(appliedC rows c).length≤12→foldRows r (D ++ [c])=some (appliedC rows c)
  | [],r,rows,c,h,h12=>by
    simp only [foldRows] at h
    cases h
    simp only [List.nil_append,foldRows]
    rw [if_neg (by omega)]
  | x :: D,r,rows,c,h,h12=>by
    simp only [List.cons_append,foldRows] at h ⊢
    split at h
    · cases h
    · rename_i hx
      rw [if_neg hx]
      exact foldRows_snoc h h12
theorem Kept.rows {N side used:Nat}{d:Dk}{rows:List Ch}(h:Kept N d side used rows):Rowed rows∧(∀ c ∈ rows,changeF c=0)∧rows.length≤12:=by
  obtain ⟨r0,D,h1,h2,h3⟩:=h.said
  obtain ⟨a,b,c⟩:=whOf_rows h1
  refine foldRows_rowed a b c (fun l hl x hx=>?_) h3
  have e:D=(logAtD d side).1:=by rw [h2]
  rw [e] at hl
  exact (logOf_ok rdC rdC_ok l hl).1 x hx
theorem Kept.used {N side used:Nat}{d:Dk}{rows:List Ch}(h:Kept N d side used rows)(hN:42≤N):used≤N - 26:=by
  obtain ⟨r0,D,h1,h2,h3⟩:=h.said
  have:=logOf_le rdC (now:=d.now) (from':=26) (many:=d.now.length - 26) (first:=firstOf d side) (by rw [h.free.len];omega)
  unfold logAtD at h2
  rw [h2,h.free.len] at this
  exact this
theorem Kept.opens {N side used:Nat}{d:Dk}{rows:List Ch}(h:Kept N d side used rows):openD d=some (side,rows,used):=by
  obtain ⟨r0,D,h1,h2,h3⟩:=h.said
  have hs:=h.sd
  have hx:laidX (whOf d)=some (side,r0):=by
    unfold laidX
    rcases (by omega:side=0∨side=1) with rfl | rfl
    · rw [whOf_blank h.blank,h1]
    · rw [h1]
  unfold openD
  rw [hx]
  simp only
  rw [h2]
  simp only
  rw [h3]
theorem pad40_full {l:List UInt8}(h:l.length=40):pad40 l=l:=by unfold pad40;rw [h];simp
theorem pieces_rows {rows:List Ch}(h:∀ c ∈ rows,changeF c=0):(piecesT (baL (textL rows)) rows.length).map padD=rows.map rowL:=by
  apply List.ext_getElem
  · simp [piecesT]
  · intro i h1 h2
    have hi:i<rows.length:=by simpa [piecesT] using h1
    simp only [piecesT,List.getElem_map,List.getElem_range]
    have hl:=rowL_length (h rows[i] (List.getElem_mem hi))
    have e:pieceL (baL (textL rows)) i=rowL rows[i]:=by
      unfold pieceL
      rw [baL_list,textL_drop h hi,← hl,List.take_left]
    rw [padD_baL,e,pad40_full hl]
theorem layT_free {d:Dk}{N i:Nat}{rows:List Ch}(h:Free d N 0)(hN:42≤N)(hi:i≤1)(hr:Rowed rows)(hc:∀ c ∈ rows,changeF c=0)(h12:rows.length≤12) :
    (layT d i (baL (textL rows)) rows.length).2=0∧Free (layT d i (baL (textL rows)) rows.length).1 N 0∧whOf (layT d i (baL (textL rows)) rows.length).1 i=some rows∧(layT d i (baL (textL rows)) rows.length).1.now[1 - i]?=some Go.Proofs.YtihnghnafpgdfadGreatDoor.blank∧∀ j,26≤j→(layT d i (baL (textL rows)) rows.length).1.now[j]?=d.now[j]?:=by
  obtain ⟨T,hT⟩:∃ T,T=baL (textL rows):=⟨_,rfl⟩
  have hpl:(piecesT T rows.length).length=rows.length:=piecesT_length _ _
  have hsz:∀ s ∈ piecesT T rows.length,s.size≤40:=by
    intro s hs
    unfold piecesT at hs
    obtain ⟨j,hj,rfl⟩:=List.mem_map.1 hs
    rw [baL_size]
    unfold pieceL
    rw [List.length_take]
    omega
  have hi12:i * 12≤12:=by omega
  obtain ⟨a1,a2,a3⟩:=lays_free (a:=2+i * 12) h (by rw [hpl];omega) hsz
  obtain ⟨b1,b2,b3⟩:=lay_free (a:=i) (s:=baL (headL i T)) a2 (by omega) (by rw [baL_size,headL_length];omega)
  obtain ⟨c1,c2,c3⟩:=lay_free (a:=1 - i) (s:=⟨#[]⟩) b2 (by omega) (by decide)
  have pb:padD ⟨#[]⟩=Go.Proofs.YtihnghnafpgdfadGreatDoor.blank:=by decide
  rw [pb] at c3
  rw [← hT]
  have eq:layT d i T rows.length=((layD (layD (layD d (2+i * 12) (piecesT T rows.length)).1 i [baL (headL i T)]).1 (1 - i) [⟨#[]⟩]).1,0):=by
    unfold layT
    rw [if_pos a1]
    simp only [seqD]
    rw [if_pos b1,if_pos c1]
  rw [eq]
  refine ⟨rfl,c2,?_,?_,?_⟩
  · refine whOf_laid hi hr hc h12 ?_ ?_
    · show (layD _ _ _).1.now[i]?=_
      rw [c3,if_neg (by omega),b3,if_pos rfl,padD_baL,hT]
    · intro j hj
      show (layD _ _ _).1.now[_]?=_
      rw [c3,if_neg (by omega),b3,if_neg (by omega),a3,hpl,if_pos (by omega),hT,pieces_rows hc]
      congr 1
      omega
  · show (layD _ _ _).1.now[_]?=_
    rw [c3,if_pos rfl]
  · intro j hj
    show (layD _ _ _).1.now[_]?=_
    rw [c3,if_neg (by omega),b3,if_neg (by omega),a3,hpl,if_neg (by omega)]
theorem kept_save {N:Nat}{d:Dk}{s:St}{g:Lg}(hk:Kept N d s.side g.used s.rows)(hN:42≤N)(hN2:N≤60)(hm:g.many=N - 26) :
    (saveD d s g).2=0∧Kept N (saveD d s g).1 (sideTo d s g) 0 s.rows:=by
  obtain ⟨q1,q2,q3⟩:=hk.rows
  have hs:=hk.sd
  have hlen:=hk.free.len
  have hi:sideTo d s g≤1:=by unfold sideTo;split <;> omega
  obtain ⟨a1,a2,a3,a4,a5⟩:=layT_free hk.free hN hi q1 q2 q3
  refine ⟨a1,a2,hi,⟨s.rows,[],a3,?_,rfl⟩,a4⟩
  obtain ⟨r0,D,h1,h2,h3⟩:=hk.said
  have hcong:logAtD (saveD d s g).1 (sideTo d s g)=logAtD d (sideTo d s g):=logAt_congr (by rw [show (saveD d s g).1.now.length=N from a2.len,hlen]) a5
  rw [hcong]
  have hu:=hk.used hN
  by_cases h0:g.used=0
  · have e:sideTo d s g=s.side:=by unfold sideTo;rw [if_neg (by omega)]
    rw [e,h2,h0]
    have hz:(closedL rdC (firstOf d s.side) (regionL d.now 26 (d.now.length - 26))).2=0:=by
      have:(logAtD d s.side).2=0:=by rw [h2];exact h0
      exact this
    have:=closedL_zero rdC hz
    have hD:D=[]:=by
      have e2:D=(logAtD d s.side).1:=by rw [h2]
      rw [e2];exact this
    rw [hD]
  · have e:sideTo d s g=1 - s.side:=by unfold sideTo;rw [if_pos (by omega)]
    rw [e]
    have hp:0<(closedL rdC (firstOf d s.side) (regionL d.now 26 (d.now.length - 26))).2:=by
      have:(logAtD d s.side).2=g.used:=by rw [h2]
      unfold logAtD logOf at this
      omega
    obtain ⟨x,r,hx,hno⟩:=closedL_used rdC hp
    have h26:d.now[26]?=some x:=by
      have:=regionL_at (now:=d.now) (from':=26) (many:=d.now.length - 26) (j:=0)
      rw [hx,if_pos (by omega)] at this
      simpa using this.symm
    refine logAt_none (by omega) h26 (secOf_other hno ?_ ?_ ?_)
    all_goals
      unfold firstOf
      rw [hlen]
      rcases (by omega:s.side=0∨s.side=1) with e | e <;> rw [e] <;> simp <;> omega
theorem addD_low {g:Lg}{d:Dk}{N:Nat}{c:List Ch}(hf:Free d N 0)(hin:g.start+g.many≤N)(hu:g.used≤g.many)(h14:¬ 14<c.length)(hroom:¬ g.many - g.used<c.length+1)(hok:faultL c=0) :
    ∀ j,j<g.start→(addD g d c).1.now[j]?=d.now[j]?:=by
  intro j hj
  unfold addD
  rw [if_neg h14,if_neg hroom,if_neg (by simpa using hok)]
  obtain ⟨m,hm⟩:∃ m,m=min (c.length+2) (g.many - g.used):=⟨_,rfl⟩
  rw [← hm]
  obtain ⟨a1,a2,a3⟩:=lays_free (a:=g.start+g.used) (l:=List.replicate m ⟨#[]⟩) hf (by simp;omega) (by intro s hs;rw [List.eq_of_mem_replicate hs];decide)
  rw [if_neg (by simpa using a1)]
  obtain ⟨b1,b2,b3⟩:=lays_free (a:=g.start+g.used) (l:=deedT g.first g.used c c.length) a2 (by rw [deedT_length];omega) (deedT_small _ _ _ _ (faultL_all hok))
  rw [b3,if_neg (by omega),a3,if_neg (by omega)]
theorem kept_add {N:Nat}{d:Dk}{side used B:Nat}{rows c:List Ch}(hk:Kept N d side used rows)(hN:42≤N)(hN2:N≤60)(h14:¬ 14<c.length)(hroom:¬ N - 26 - used<c.length+1)(hok:faultL c=0)(h12:(appliedC rows c).length≤12) :
    (addD ⟨B,26,N - 26,firstOf d side,used⟩ d c).2=0∧Kept N (addD ⟨B,26,N - 26,firstOf d side,used⟩ d c).1 side (used+c.length+1) (appliedC rows c):=by
  obtain ⟨r0,D,h1,h2,h3⟩:=hk.said
  have hs:=hk.sd
  have hlen:=hk.free.len
  have hu:=hk.used hN
  have hfirst:1≤firstOf d side∧firstOf d side≤4000000:=by
    unfold firstOf
    rw [hlen]
    rcases (by omega:side=0∨side=1) with e | e <;> rw [e] <;> simp <;> omega
  obtain ⟨a1,a2,a3,a4,a5,a6⟩:=addD_free (g:=⟨B,26,N - 26,firstOf d side,used⟩) (d:=d) (c:=c) (D:=D) ⟨by simp only;omega,hfirst.2,hu⟩ hfirst.1 (by simp only;omega) hk.free.up hk.free.left h14 hroom hok (by
    have:=h2
    unfold logAtD at this
    rw [hlen] at this
    exact this)
  have low:=addD_low (g:=⟨B,26,N - 26,firstOf d side,used⟩) (c:=c) hk.free (by simp only;omega) hu h14 hroom hok
  refine ⟨a1,⟨a2,by rw [a3];exact hk.free.left,by rw [a4];simp,by rw [a5];exact hlen⟩,hs,⟨r0,D ++ [c],?_,?_,foldRows_snoc h3 h12⟩,?_⟩
  · rw [whOf_congr hs low];exact h1
  · unfold logAtD
    rw [firstOf_len a5,a5,hlen]
    exact a6
  · rw [low (1 - side) (show 1 - side<26 by omega)];exact hk.blank
theorem kept_commit {N:Nat}{d:Dk}{s:St}{g:Lg}{c:List Ch}{m:Ms}(hk:Kept N d s.side g.used s.rows)(hN:42≤N)(hN2:N≤60)(hg:g=⟨g.dB,26,N - 26,firstOf d s.side,g.used⟩)(hm1:m.rows=s.rows)(hm2:m.used=g.used)(hm3:m.many=N - 26) :
    (commitC d s g c).e=commitF m c∧∃ side used,Kept N (commitC d s g c).d side used (commitC d s g c).rows∧(commitC d s g c).side=side∧(commitC d s g c).g=⟨g.dB,26,N - 26,firstOf (commitC d s g c).d side,used⟩ ∧
      ((¬ commitF m c=0∧used=g.used∧(commitC d s g c).rows=s.rows)∨(commitF m c=0∧used=commitU m c∧(commitC d s g c).rows=appliedC s.rows c)):=by
  have hlen:=hk.free.len
  have hu:=hk.used hN
  have hgm:g.many=N - 26:=by rw [hg]
  unfold commitF commitC
  rw [hm1,hm3,hlen]
  by_cases h14:14<c.length
  · rw [if_pos h14,if_pos h14]
    exact ⟨rfl,s.side,g.used,hk,rfl,hg,.inl ⟨by omega,rfl,rfl⟩⟩
  rw [if_neg h14,if_neg h14]
  by_cases hf:faultL c=0
  case neg =>
    rw [if_pos hf,if_pos hf]
    exact ⟨rfl,s.side,g.used,hk,rfl,hg,.inl ⟨hf,rfl,rfl⟩⟩
  have hff:¬ ¬ faultL c=0:=fun x=>x hf
  rw [if_neg hff,if_neg hff]
  by_cases hr:12<(appliedC s.rows c).length∨N - 26<c.length+1
  · rw [if_pos hr,if_pos hr]
    exact ⟨rfl,s.side,g.used,hk,rfl,hg,.inl ⟨by omega,rfl,rfl⟩⟩
  rw [if_neg hr,if_neg hr]
  have h12:(appliedC s.rows c).length≤12:=by omega
  unfold commitU
  rw [hm2,hm3,hgm]
  by_cases hroom:N - 26 - g.used<c.length+1
  · rw [if_pos hroom,if_pos hroom]
    obtain ⟨a1,a2⟩:=kept_save hk hN hN2 hgm
    rw [if_pos a1]
    have hlen2:=a2.free.len
    obtain ⟨b1,b2⟩:=kept_add (B:=g.dB) (c:=c) a2 hN hN2 h14 (by omega) hf h12
    have hsg:savedG d s g=⟨g.dB,26,N - 26,firstOf (saveD d s g).1 (sideTo d s g),0⟩:=by
      unfold savedG
      rw [hlen,firstOf_len (d:=d) (d':=(saveD d s g).1) (by rw [hlen2,hlen])]
    rw [hsg]
    unfold addC
    rw [if_pos b1]
    refine ⟨rfl,_,_,b2,rfl,?_,.inr ⟨rfl,rfl,rfl⟩⟩
    have e:firstOf (addD ⟨g.dB,26,N - 26,firstOf (saveD d s g).1 (sideTo d s g),0⟩ (saveD d s g).1 c).1 (sideTo d s g)=firstOf (saveD d s g).1 (sideTo d s g):=firstOf_len (by rw [b2.free.len,hlen2])
    show addG _ _ _=Lg.mk _ _ _ (firstOf (addD ⟨g.dB,26,N - 26,firstOf (saveD d s g).1 (sideTo d s g),0⟩ (saveD d s g).1 c).1 (sideTo d s g)) _
    unfold addG
    rw [if_pos b1,e]
  · rw [if_neg hroom,if_neg hroom]
    obtain ⟨b1,b2⟩:=kept_add (B:=g.dB) (c:=c) hk hN hN2 h14 hroom hf h12
    rw [← hg] at b1 b2
    unfold addC
    rw [if_pos b1]
    refine ⟨rfl,_,_,b2,rfl,?_,.inr ⟨rfl,rfl,rfl⟩⟩
    show addG _ _ _=_
    unfold addG
    rw [if_pos b1]
    have e:firstOf (addD g d c).1 s.side=g.first:=by
      rw [firstOf_len (d:=d) (by rw [b2.free.len,hlen])]
      rw [hg]
    rw [e,hg]
end Go.Proofs.YtihnghnafpgdfadGreatDoor
namespace Go.Proofs.YtihnghnafpgdfadGreatDoor
open Go.RowKit Go.Deep Go.ChangeShapes Go.WideShapes
section
variable {H:Type} {enc:TypeId × Value→H} {w:World} {base:Nat} {spare:Nat→Bool} {held:Bool}
end
end Go.Proofs.YtihnghnafpgdfadGreatDoor
