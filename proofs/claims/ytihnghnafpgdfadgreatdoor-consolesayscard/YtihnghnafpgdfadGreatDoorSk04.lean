/- What the proofs stand on, part 4: QuiltClone. -/
import Derived.Deep.LoopGhost
import Derived.Test.YtihnghnafpgdfadGreatDoorSk02
import Derived.Test.YtihnghnafpgdfadGreatDoorSk03
set_option linter.unusedVariables false
set_option linter.unusedSimpArgs false
set_option maxRecDepth 100000
set_option maxHeartbeats 4000000
namespace Go.Proofs.YtihnghnafpgdfadGreatDoor
open Go.RowKit
variable {W W' w w':World}{a:Option Addr}{B C cap j:Nat}{l:List Fi}{u v:Value}{f:Fi}{name s:ByteArray}{t:Int}{p:Addr}
structure za5 (w:World)(a:Option Addr)(cap:Nat)(l:List Fi):Prop where
 cells:zaF w a l
 room:l.length≤cap
 most:cap≤maxLen
 nil:a=none→cap=0
theorem za5.below (h:za5 w a cap l)(hb:Below w.heap.size w w'):za5 w' a cap l :=
 ⟨h.cells.below hb,h.room,h.most,h.nil⟩
theorem Owns.slice (h:Owns w B v l):∃ a cap,v=.slice a l.length cap∧za5 w a cap l:=by
 obtain ⟨a,cap,e,hc,hn,hm,hr,_⟩:=h.files;exact ⟨a,cap,e,hc,hr,hm,hn⟩
theorem zlG (a:Option Addr) (cap:Nat) (l:List Fi) (f:Fi) (w:World) (hz:f.n.size≤maxLen∧f.t.size≤maxLen) (hg:Good l) (hs:za5 w a cap l) :
 Calls Tryz.prog 114 #[.slice a l.length cap,zjj f.n f.t f.k] w fun e w'=>∃ v,e=.returned (.tuple #[v,errV (putN l f)])∧Owns w' w.heap.size v (putL l f)∧Below w.heap.size w w':=by
 by_cases hf:f.fault=0
 · cases hh:hasF l f.n
   · by_cases h8:8≤l.length
     · have e:putN l f=7:=by simp [putN,hf,hh,h8]
       have e2:putL l f=[]:=by simp [putL,e]
       rw [e,e2];refine (zsL a cap l f w hz hg hs.cells hf hh h8).mono ?_;rintro e w' ⟨rfl,hb⟩;exact ⟨_,rfl,World.ownsRow_nil _ _ _ _,hb⟩
     · have e:putN l f=0:=by simp [putN,hf,h8]
       have e2:putL l f=putF l f:=by simp [putL,e]
       rw [e,e2];exact zuc a cap l f w hz hg hs.cells hs.room hs.most hs.nil hf hh (by omega)
   · have e:putN l f=0:=by simp [putN,hf,hh]
     have e2:putL l f=putF l f:=by simp [putL,e]
     rw [e,e2];exact zsY a cap l f w hz hg hs.cells hs.room hs.most hs.nil hf hh
 · have e:putN l f=f.fault:=by simp [putN,hf]
   have e2:putL l f=[]:=by simp [putL,e,hf]
   rw [e,e2];refine (zt1 a cap l f w hz hf).mono ?_;rintro e w' ⟨rfl,hb⟩;exact ⟨_,rfl,World.ownsRow_nil _ _ _ _,hb⟩
theorem zjU (a:Option Addr) (cap:Nat) (l:List Fi) (f:Fi) (w:World) (hz:f.n.size≤maxLen∧f.t.size≤maxLen) (hg:Good l) (hs:za5 w a cap l) :
 Calls Tryz.prog 102 #[.slice a l.length cap,zjj f.n f.t f.k] w fun e w'=>∃ v,e=.returned (.tuple #[v,.int .i64 (putN l f)])∧Owns w' w.heap.size v (putL l f)∧Below w.heap.size w w':=by
 have h8:=hg.few
 by_cases hf:f.fault=0
 · cases hh:hasF l f.n
   · by_cases h8:8≤l.length
     · have e:putN l f=7:=by simp [putN,hf,hh,h8]
       have e2:putL l f=[]:=by simp [putL,e]
       rw [e,e2];refine (zmw a cap l f w hz hf (by omega) hs.cells (zgm hg hh) h8).mono ?_;rintro e w' ⟨rfl,hb⟩;exact ⟨_,rfl,World.ownsRow_nil _ _ _ _,hb⟩
     · have e:putN l f=0:=by simp [putN,hf,h8]
       have e2:putL l f=putR f false l:=by simp [putL,e,zoT f l hg.pw]
       rw [e,e2];exact zif a cap l f none w hz hf (by omega) hs.cells (zgm hg hh) (fun _=>by omega)
   · have e:putN l f=0:=by simp [putN,hf,hh]
     have e2:putL l f=putR f false l:=by simp [putL,e,zoT f l hg.pw]
     rw [e,e2];obtain ⟨hp,_⟩:=zce hh;exact zif a cap l f _ w hz hf (by omega) hs.cells (zlm hg hh hp) (fun h=>by cases h)
 · have e:putN l f=f.fault:=by simp [putN,hf]
   have e2:putL l f=[]:=by simp [putL,e,hf]
   rw [e,e2];refine (zoe a cap l f w hz hf).mono ?_;rintro e w' ⟨rfl,hb⟩;exact ⟨_,rfl,World.ownsRow_nil _ _ _ _,hb⟩
theorem zpp (a:Option Addr)(cap:Nat)(l:List Fi)(name:ByteArray)(w:World)(hg:Good l)(hs:za5 w a cap l) :
 Calls Tryz.prog 116 #[.slice a l.length cap,.string name] w fun e w'=>∃ v,e=.returned (.tuple #[v,errV (zco l name)])∧Owns w' w.heap.size v (zdJ l name)∧Below w.heap.size w w':=by
 cases hh:hasF l name
 · have e:zco l name=5:=by simp [zco,hh]
   have e2:zdJ l name=[]:=by simp [zdJ,hh]
   rw [e,e2];refine (zsa a cap l name w hg hs.cells hh).mono ?_;rintro e w' ⟨rfl,hb⟩;exact ⟨_,rfl,World.ownsRow_nil _ _ _ _,hb⟩
 · have e:zco l name=0:=by simp [zco,hh]
   have e2:zdJ l name=zbG l name:=by simp [zdJ,hh]
   rw [e,e2];exact zr2 a cap l name w hg hs.cells hs.room hs.most hh
theorem zh9 (a:Option Addr)(cap:Nat)(l:List Fi)(name:ByteArray)(w:World)(hg:Good l)(hs:za5 w a cap l) :
 Calls Tryz.prog 67 #[.slice a l.length cap,.string name] w fun e w'=>∃ v,e=.returned (.tuple #[v,.int .i64 (zco l name)])∧Owns w' w.heap.size v (zdJ l name)∧Below w.heap.size w w':=by
 have h:=zm6 a cap l name w (by have:=hg.few;omega) hs.cells;rw [zd9 hg] at h;cases hh:hasF l name
 · have e:zco l name=5:=by simp [zco,hh]
   have e2:zdJ l name=[]:=by simp [zdJ,hh]
   rw [e,e2]
   simpa [hh] using h
 · have e:zco l name=0:=by simp [zco,hh]
   have e2:zdJ l name=zgr l name:=by simp [zdJ,hh,zpl name l hg.pw hh]
   rw [e,e2]
   simpa [hh] using h
theorem zf8 (l:List Fi)(f:Fi):0≤putN l f∧putN l f≤100:=by
 have:=f.fault_range;unfold putN
 split
 · exact this
 · split <;> omega
theorem zoA (l:List Fi)(name:ByteArray):0≤zco l name∧zco l name≤100:=by
 unfold zco
 split <;> omega
def zdq:Option Fi→Fi
 | some f=>f
 | none=>⟨⟨#[]⟩,⟨#[]⟩,0⟩
theorem zh3 (o:Option Fi):getV o=.tuple #[.agg #[.string (zdq o).n,.string (zdq o).t,.int .i64 (zdq o).k],.bool o.isSome]:=by cases o <;> rfl
structure Res where
 l:List Fi
 t:Int
 n:Int
def zd0 (n:Int):Res:=⟨[],0,n⟩
def zeT (t:Int)(l:List Fi):Res:=if 9999≤t then ⟨[],0,7⟩ else ⟨l,t+1,0⟩
def zcy (t:Int)(l:List Fi)(n:Int):Res:=if n≠0 then ⟨[],0,n⟩ else zeT t l
def zfj (l:List Fi)(name text:ByteArray):Fi:=⟨name,text,(zdq (getF l name)).k+1⟩
def zaG (l:List Fi)(t:Int)(name text:ByteArray):Res:=zcy t (putL l (zfj l name text)) (putN l (zfj l name text))
def zbb (l:List Fi)(t:Int)(name:ByteArray):Res:=zcy t (zdJ l name) (zco l name)
def zax (l:List Fi) (t:Int) (name to:ByteArray):Res :=
 match getF l name with
 | none=>zd0 5
 | some f=>if zbq to.data.toList≠0 then zd0 (zbq to.data.toList) else if (getF l to).isSome=true then zd0 6 else
   zcy t (putL (zbG l name) ⟨to,f.t,f.k⟩) (putN (zbG l name) ⟨to,f.t,f.k⟩)
def zfO (l:List Fi)(a b:ByteArray)(f g:Fi):List Fi:=putF (putF l ⟨a,g.t,f.k+1⟩) ⟨b,f.t,g.k+1⟩
def zbs (l:List Fi)(t:Int)(a b:ByteArray):Res :=
 match getF l a,getF l b with
 | some f,some g=>if 9999≤f.k∨9999≤g.k then zd0 7 else if a=b then zeT t l else zeT t (zfO l a b f g)
 | _,_=>zd0 5
structure zau (l:List Fi)(t:Int):Prop where
 files:Good l
 low:1≤t
 high:t≤9999
theorem zdN (h:f.fault=0):zbq f.n.data.toList=0∧f.t.size≤12∧1≤f.k∧f.k≤9999:=by
 unfold Fi.fault zcB at h
 by_cases h1:zbq f.n.data.toList=0
 · simp only [h1,ne_eq,not_true_eq_false,if_false] at h
   by_cases h2:12<f.t.data.toList.length
   · rw [if_pos h2] at h;exact absurd h (by decide)
   · rw [if_neg h2] at h
     by_cases h3:f.k<1∨9999<f.k
     · rw [if_pos h3] at h;exact absurd h (by decide)
     · have:f.t.data.toList.length=f.t.size:=by simp
       exact ⟨h1,by omega,by omega,by omega⟩
 · rw [if_pos h1] at h;exact absurd h h1
theorem ziR (h1:zbq f.n.data.toList=0)(h2:f.t.size≤12)(h3:1≤f.k)(h4:f.k≤9999):f.fault=0:=by
 unfold Fi.fault zcB;have:f.t.data.toList.length=f.t.size:=by simp
 rw [if_neg (by simp [h1]),if_neg (by omega),if_neg (by omega)]
theorem zjz (h:zbq s.data.toList=0):s.size≤6:=by
 have e:s.data.toList.length=s.size:=by simp
 unfold zbq at h
 split at h
 · exact absurd h (by decide)
 · split at h
   · split at h
     · exact absurd h (by decide)
     · omega
   · exact absurd h (by decide)
theorem Good.times (h:Good l)(hf:f ∈ l):zbq f.n.data.toList=0∧f.t.size≤12∧1≤f.k∧f.k≤9999:=zdN (h.each f hf)
theorem zbh (h:getF l name=some f):f ∈ l∧f.n=name:=by
 unfold getF at h;have h1:=List.mem_of_find?_eq_some h;have h2:=List.find?_some h;exact ⟨h1,toList_inj (by simpa using h2)⟩
theorem zrD (h8:l.length≤8)(he:∀ f ∈ l,f.fault=0)(hp:l.Pairwise (fun a b=>ltB a.n b.n=true)):Good l :=
 ⟨h8,he,fun i h=>List.pairwise_iff_getElem.1 hp i (i+1) (by omega) h (by omega)⟩
theorem zfe (hg:Good l) (hf:f.fault=0) (h8:hasF l f.n=false→l.length<8):Good (putF l f):=by
 have hp:=zgR l f.n;refine zrD ?_ ?_ ?_
 · have h:=hg.few
   unfold putF;simp only [List.length_append,List.length_take,List.length_cons,List.length_drop];cases hh:hasF l f.n
   · have:=h8 hh;simp;omega
   · have:=(zce hh).1;simp;omega
 · intro g hgm
   unfold putF at hgm;simp only [List.mem_append,List.mem_cons] at hgm;rcases hgm with h | rfl | h
   · exact hg.each g (List.mem_of_mem_take h)
   · exact hf
   · exact hg.each g (List.mem_of_mem_drop h)
 · unfold putF
   rw [List.pairwise_append];refine ⟨hg.pw.sublist (List.take_sublist _ _),?_,?_⟩
   · rw [List.pairwise_cons]
     refine ⟨?_,hg.pw.sublist (List.drop_sublist _ _)⟩;intro g hgm;cases hh:hasF l f.n
     · simp only [hh,Bool.false_eq_true,if_false] at hgm
       obtain ⟨i,hi,rfl⟩:=List.getElem_of_mem hgm;simp only [List.length_drop] at hi;rw [List.getElem_drop];have hge:ltB l[posF l f.n+i].n f.n=false:=hg.mono f.n (posF l f.n) (posF l f.n+i) (by omega) (by omega) (by omega) (zo6 l f.n (by omega));cases hx:ltB f.n l[posF l f.n+i].n
       · have e:=zdu hx hge
         by_cases h0:i=0
         · subst h0
           exact absurd e.symm (zlx hh (by omega))
         · exact absurd e.symm (hg.other (by omega) (by omega))
       · rfl
     · obtain ⟨hp',e⟩:=zce hh
       simp only [hh,if_true] at hgm;obtain ⟨i,hi,rfl⟩:=List.getElem_of_mem hgm;simp only [List.length_drop] at hi;rw [List.getElem_drop];have:=hg.lt (i:=posF l f.n) (j:=posF l f.n+1+i) (by omega) (by omega)
       rwa [e] at this
   · intro a ha b hb
     obtain ⟨i,hi,rfl⟩:=List.getElem_of_mem ha;simp only [List.length_take] at hi;rw [List.getElem_take];have hlt:=zhQ l f.n i (by omega) (by omega);simp only [List.mem_cons] at hb;rcases hb with rfl | hb
     · exact hlt
     · obtain ⟨j,hj,rfl⟩:=List.getElem_of_mem hb
       simp only [List.length_drop] at hj;rw [List.getElem_drop];exact hg.lt (by split <;> omega) (by omega)
theorem zdZ (hg:Good l)(name:ByteArray):Good (zbG l name):=by
 have hsub:(zbG l name).Sublist l:=by
  unfold zbG
  have h1:(l.drop (posF l name+1)).Sublist (l.drop (posF l name)):=by
   rw [← List.drop_drop];exact List.drop_sublist _ _
  have:=List.Sublist.append (List.Sublist.refl (l.take (posF l name))) h1
  rwa [List.take_append_drop] at this
 exact zrD (Nat.le_trans hsub.length_le hg.few) (fun f hf=>hg.each f (hsub.subset hf)) (hg.pw.sublist hsub)
theorem zuf (w:World):Calls Tryz.prog 72 #[] w fun e w'=>e=.returned (.agg #[.slice none 0 0,.int .i64 1])∧Below w.heap.size w w':=by
 go_enter Tryz.func72,Tryz.ntmps72
 go_wp2;refine bodyPost_ret (v:=.agg #[.slice none 0 0,.int .i64 1]) (by simp [results,Tryz.results72,go_sem]) rfl ⟨rfl,?_⟩;exact (Below.refl _ _).alloc (Nat.le_refl _) _
theorem zoK (v:Value)(t:Int)(a:Option Addr)(n cap:Nat)(w:World)(ht:9999≤t)(b:Option Addr)(m c:Nat) :
 Calls Tryz.prog 115 #[.agg #[.slice b m c,.int .i64 t],.slice a n cap] w fun e w'=>e=.returned (.tuple #[.agg #[.slice none 0 0,.int .i64 0],.iface 90 (.int .i64 7)])∧Below w.heap.size w w':=by
 go_enter Tryz.func115,Tryz.ntmps115
 go_wp2;refine bodyPost_ret (v:=.tuple #[.agg #[.slice none 0 0,.int .i64 0],.iface 90 (.int .i64 7)]) (by simp [results,Tryz.results115,go_sem]) rfl ⟨rfl,?_⟩;exact ((Below.refl _ _).alloc (Nat.le_refl _) _).alloc (by simp) _
theorem zn9 (t:Int)(a:Option Addr)(n cap:Nat)(w:World)(h0:0≤t)(ht:t<9999)(b:Option Addr)(m c:Nat) :
 Calls Tryz.prog 115 #[.agg #[.slice b m c,.int .i64 t],.slice a n cap] w fun e w'=>e=.returned (.tuple #[.agg #[.slice a n cap,.int .i64 (t+1)],.nilIface])∧Below w.heap.size w w':=by
 go_enter Tryz.func115,Tryz.ntmps115
 go_wp2;refine bodyPost_ret (v:=.tuple #[.agg #[.slice a n cap,.int .i64 (t+1)],.nilIface]) (by simp [results,Tryz.results115,go_sem]) rfl ⟨rfl,?_⟩;exact ((Below.refl _ _).alloc (Nat.le_refl _) _).alloc (by simp) _
def zfz (l:List Fi)(t:Int):Int:=if zcR l≠0 then zcR l else if t<1∨9999<t then 1 else 0
theorem zgw (a:Option Addr)(cap:Nat)(l:List Fi)(t:Int)(w:World)(hl:l.length≤maxLen)(hz:zok l)(hc:zaF w a l) :
 Calls Tryz.prog 94 #[.agg #[.slice a l.length cap,.int .i64 t]] w fun e w'=>e=.returned (errV (zfz l t))∧Below w.heap.size w w':=by
 have HC:Hid (zaF w a l):=hc;clear hc
 by_cases hf:zcR l=0
 · have hfin:zfz l t=if t<1∨9999<t then 1 else 0:=by simp [zfz,hf]
   rw [hfin];have he:errV (zcR l)=.nilIface:=zac hf;clear hfin hf
   go_enter Tryz.func94,Tryz.ntmps94
   go_wp2_with fail
   refine (zgG a cap l _ hl hz (by exact HC.out.alloc _)).mono ?_;rintro e w1 ⟨rfl,hb⟩;rw [he];have hx:w1.cell? ⟨w.heap.size,1,none⟩=some (.int .i64 t):=by rw [hb.cell (p:=⟨w.heap.size,1,none⟩) (by simp)];simp [go_sem]
   have HB:Hid (Below w.heap.size w w1):=((Below.refl _ _).alloc (Nat.le_refl _) _).trans (hb.mono (by simp));clear hb he;go_wp2
   all_goals
    go_ret;exact ⟨zsi (by first | rfl | (rw [if_pos (by omega)];rfl) | (rw [if_neg (by omega)];rfl)),HB.out⟩
 · have hfin:zfz l t=zcR l:=by simp [zfz,hf]
   rw [hfin];have he:errV (zcR l)=.iface 90 (.int .i64 (zcR l)):=zak hf;rw [he];clear hfin hf
   go_enter Tryz.func94,Tryz.ntmps94
   go_wp2_with fail
   refine (zgG a cap l _ hl hz (by exact HC.out.alloc _)).mono ?_;rintro e w1 ⟨rfl,hb⟩;rw [he];have HB:Hid (Below w.heap.size w w1):=((Below.refl _ _).alloc (Nat.le_refl _) _).trans (hb.mono (by simp));clear hb he;go_wp2;go_ret;exact ⟨rfl,HB.out⟩
def zdb (w:World)(r:Res)(e:Ending)(w':World):Prop :=
 ∃ a cap,e=.returned (.tuple #[.agg #[.slice a r.l.length cap,.int .i64 r.t],errV r.n])∧za5 w' a cap r.l∧Below w.heap.size w w'
theorem zc6 (w:World):za5 w none 0 []:=⟨zaF.nil _ _,Nat.le_refl _,Nat.zero_le _,fun _=>rfl⟩
structure QBox (W:World)(B:Nat)(v:Value)(t:Int):Prop where
 c0:W.cell? ⟨B,0,none⟩=some v
 c1:W.cell? ⟨B,1,none⟩=some (.int .i64 t)
 f0:W.frozen? ⟨B,0,none⟩=false
 f1:W.frozen? ⟨B,1,none⟩=false
 lt:B<W.heap.size
 only:∀ o,2≤o→W.cell? ⟨B,o,none⟩=none
theorem QBox.below (h:QBox W B v t)(hb:Below C W W')(hC:B<C):QBox W' B v t :=
 ⟨by rw [hb.cell (p:=⟨B,0,none⟩) hC];exact h.c0,by rw [hb.cell (p:=⟨B,1,none⟩) hC];exact h.c1,by rw [hb.frozen (p:=⟨B,0,none⟩) hC];exact h.f0,by rw [hb.frozen (p:=⟨B,1,none⟩) hC];exact h.f1,Nat.lt_of_lt_of_le h.lt hb.size,fun o ho=>by rw [hb.cell (p:=⟨B,o,none⟩) hC];exact h.only o ho⟩
theorem QBox.alloc (h:QBox W B v t)(o:Obj):QBox (W.alloc o) B v t :=
 h.below ((Below.refl _ _).alloc (Nat.le_refl _) o) h.lt
theorem QBox.new (W:World)(v:Value)(t:Int)(ty:TypeId):QBox (W.alloc (.cells #[v,.int .i64 t] ty)) W.heap.size v t :=
 ⟨by simp [go_sem],by simp [go_sem],by simp [go_sem],by simp [go_sem],by simp,fun o ho=>by simp [go_sem];omega⟩
theorem zaF.store (h:zaF W a l)(q:∀ o,2≤o→W.cell? ⟨B,o,none⟩=none):zaF (W.setCell ⟨B,j,none⟩ u) a l:=by
 intro i hi;obtain ⟨b,off,rfl,c0,c1,c2⟩:=h i hi
 have hne:b≠B:=by
  rintro rfl;rw [q (off+i * 3+2) (by omega)] at c2;exact absurd c2 (by simp)
 have hk:∀ o,(W.setCell ⟨B,j,none⟩ u).cell? ⟨b,o,none⟩=W.cell? ⟨b,o,none⟩:=fun o=>World.cell?_of_block (a:=⟨b,o,none⟩) (Below.heap_setCell W ⟨B,j,none⟩ u b hne)
 exact ⟨b,off,rfl,by rw [hk];exact c0,by rw [hk];exact c1,by rw [hk];exact c2⟩
theorem zlE (q:∀ o,2≤o→W.cell? ⟨B,o,none⟩=none)(hj:j<2):∀ o,2≤o→(W.setCell ⟨B,j,none⟩ u).cell? ⟨B,o,none⟩=none:=by
 intro o ho
 have hne:(⟨B,j,none⟩:Addr)≠⟨B,o,none⟩:=by
  intro e;have:j=o:=congrArg Addr.off e;omega
 have h:(W.setCell ⟨B,j,none⟩ u).cell? ⟨B,o,none⟩=W.cell? ⟨B,o,none⟩:=by
  apply World.cell?_setCell_other
  exact hne
 rw [h];exact q o ho
theorem za5.store2 (h:za5 W a cap l)(q:∀ o,2≤o→W.cell? ⟨B,o,none⟩=none)(u v:Value):za5 ((W.setCell ⟨B,0,none⟩ u).setCell ⟨B,1,none⟩ v) a cap l :=
 ⟨(h.cells.store q).store (zlE q (by decide)),h.room,h.most,h.nil⟩
theorem zeD (t:Int)(a:Option Addr)(cap:Nat)(l:List Fi)(w:World)(h0:0≤t)(b:Option Addr)(m c:Nat)(hs:za5 w a cap l) :
 Calls Tryz.prog 115 #[.agg #[.slice b m c,.int .i64 t],.slice a l.length cap] w (zdb w (zeT t l)):=by
 by_cases ht:9999≤t
 · have e:zeT t l=⟨[],0,7⟩:=by simp [zeT,ht]
   rw [e];refine (zoK (.slice b m c) t a l.length cap w ht b m c).mono ?_;rintro e w' ⟨rfl,hb⟩;exact ⟨none,0,rfl,zc6 _,hb⟩
 · have e:zeT t l=⟨l,t+1,0⟩:=by simp [zeT,ht]
   rw [e];refine (zn9 t a l.length cap w h0 (by omega) b m c).mono ?_;rintro e w' ⟨rfl,hb⟩;exact ⟨a,cap,rfl,hs.below hb,hb⟩
theorem zse (a:Option Addr)(cap:Nat)(l:List Fi)(t:Int)(name text:ByteArray)(w:World)(hq:zau l t)(hs:za5 w a cap l)(hn:name.size≤maxLen)(hx:text.size≤maxLen) :
 Calls Tryz.prog 77 #[.agg #[.slice a l.length cap,.int .i64 t],.string name,.string text] w (zdb w (zaG l t name text)):=by
 have HS:Hid (za5 w a cap l):=hs;have HQ:Hid (zau l t):=hq;have hl:=hq.files.few;have ht0:=hq.low;have ht1:=hq.high
 have hk:0≤(zdq (getF l name)).k∧(zdq (getF l name)).k≤9999:=by
  cases hg:getF l name with
  | none=>exact ⟨by decide,by decide⟩
  | some f=>have:=hq.files.times (zbh hg).1;exact ⟨by simp [zdq];omega,by simp [zdq];omega⟩
 have hwf:zfj l name text=⟨name,text,(zdq (getF l name)).k+1⟩:=rfl;clear hs hq;have HR:Hid (zaG l t name text=zcy t (putL l (zfj l name text)) (putN l (zfj l name text))):=rfl;generalize zaG l t name text=r at *;generalize hg:zdq (getF l name)=g at *;have HG:Hid (zdq (getF l name)=g):=hg;generalize hwf':zfj l name text=f at *;subst hwf;clear hg hwf';obtain ⟨hk0,hk1⟩:=hk
 go_enter Tryz.func77,Tryz.ntmps77
 go_wp2_with fail
 refine (zfv a cap l name _ HQ.out.files (by exact (HS.out.cells.alloc _).alloc _)).mono ?_;rintro e w1 ⟨rfl,hb⟩;rw [zh3,HG.out];have q1:QBox w1 w.heap.size (.slice a l.length cap) t:=((QBox.new w _ t _).alloc _).below hb (by simp;omega)
 have s1:QBox w1 (w.heap.size+1) (.slice none 0 0) 0:=by
  have:=QBox.new (w.alloc (.cells #[.slice a l.length cap,.int .i64 t] 32)) (.slice none 0 0) 0 32;rw [World.size_alloc] at this
  exact this.below hb (by simp)
 have HB1:Hid (Below w.heap.size w w1):=(((Below.refl _ _).alloc (Nat.le_refl _) _).alloc (by simp) _).trans (hb.mono (by simp;omega));have HS1:Hid (za5 w1 a cap l):=HS.out.below HB1.out;have HQ1:Hid (QBox w1 w.heap.size (.slice a l.length cap) t):=q1;have HR1:Hid (QBox w1 (w.heap.size+1) (.slice none 0 0) 0):=s1;obtain ⟨x0,x1,_,_,xl,_⟩:=q1;clear hb s1
 go_wp2_with fail
 refine (zlG a cap l ⟨name,text,g.k+1⟩ _ ⟨hn,hx⟩ HQ.out.files (by exact HS1.out.below ((Below.refl _ _).alloc (Nat.le_refl _) _))).mono ?_;rintro e w2 ⟨v,rfl,hown,hb⟩;obtain ⟨a1,cap1,rfl,hs1⟩:=hown.slice;have q2:QBox w2 w.heap.size (.slice a l.length cap) t:=(HQ1.out.alloc _).below hb (by simp;have:=HQ1.out.lt;omega);have s2:QBox w2 (w.heap.size+1) (.slice none 0 0) 0:=(HR1.out.alloc _).below hb (by simp;have:=HR1.out.lt;omega);have HB2:Hid (Below w.heap.size w w2):=(HB1.out.alloc HB1.out.size _).trans (hb.mono (by simp;have:=HB1.out.size;omega));have HS2:Hid (za5 w2 a1 cap1 (putL l ⟨name,text,g.k+1⟩)):=hs1;have HR2:Hid (QBox w2 (w.heap.size+1) (.slice none 0 0) 0):=s2;clear x0 x1 xl HQ1 HR1 HS1 HB1 hb hown hs1;obtain ⟨x0,x1,_,_,xl,_⟩:=q2;obtain ⟨y0,y1,yf0,yf1,yl,yo⟩:=s2;have hpr:=(zf8 l ⟨name,text,g.k+1⟩).1
 by_cases hp:putN l ⟨name,text,g.k+1⟩=0
 · have he:errV (putN l ⟨name,text,g.k+1⟩)=.nilIface:=zac hp
   rw [he];have HRR:Hid (r=zeT t (putL l ⟨name,text,g.k+1⟩)):=by show _=_;rw [HR.out];simp [zcy,hp]
   clear he hp hpr HR
   go_wp2_with fail
   refine (zeD t a1 cap1 _ _ (by omega) a l.length cap HS2.out).mono ?_;rintro e w3 ⟨a2,cap2,rfl,hs3,hb⟩;rw [← HRR.out];rw [← HRR.out] at hs3;have s3:=HR2.out.below hb HR2.out.lt;have HB3:Hid (Below w.heap.size w w3):=HB2.out.trans (hb.mono HB2.out.size);have HS3:Hid (za5 w3 a2 cap2 r.l):=hs3;clear y0 y1 yf0 yf1 yl yo hb hs3;obtain ⟨y0,y1,yf0,yf1,yl,yo⟩:=s3;have HYO:Hid (∀ o,2≤o→w3.cell? ⟨w.heap.size+1,o,none⟩=none):=yo;clear yo;go_wp2;refine bodyPost_ret (v:=.tuple #[.agg #[.slice a2 r.l.length cap2,.int .i64 r.t],errV r.n]) (by simp [results,Tryz.results77,go_sem,y0,y1,yl]) rfl ⟨a2,cap2,rfl,?_,?_⟩
   · exact HS3.out.store2 HYO.out _ _
   · exact (HB3.out.setCell (by simp) _).setCell (by simp) _
 · have he:errV (putN l ⟨name,text,g.k+1⟩)=.iface 90 (.int .i64 (putN l ⟨name,text,g.k+1⟩)):=zak hp
   have HRR:Hid (r=⟨[],0,putN l ⟨name,text,g.k+1⟩⟩):=by show _=_;rw [HR.out];simp [zcy,hp]
   rw [he];have HE:Hid (errV (putN l ⟨name,text,g.k+1⟩)=.iface 90 (.int .i64 (putN l ⟨name,text,g.k+1⟩))):=he;clear he hp;have HYO:Hid (∀ o,2≤o→w2.cell? ⟨w.heap.size+1,o,none⟩=none):=yo;clear yo;go_wp2;rw [HRR.out];refine bodyPost_ret (v:=.tuple #[.agg #[.slice none 0 0,.int .i64 0],.iface 90 (.int .i64 (putN l ⟨name,text,g.k+1⟩))]) (by simp [results,Tryz.results77,go_sem,y0,y1,yl]) rfl ⟨none,0,(by rw [HE.out];rfl),zc6 _,?_⟩;exact (HB2.out.setCell (by simp) _).setCell (by simp) _
theorem zrZ (a:Option Addr)(cap:Nat)(l:List Fi)(t:Int)(name:ByteArray)(w:World)(hq:zau l t)(hs:za5 w a cap l) :
 Calls Tryz.prog 78 #[.agg #[.slice a l.length cap,.int .i64 t],.string name] w (zdb w (zbb l t name)):=by
 have HS:Hid (za5 w a cap l):=hs;have HQ:Hid (zau l t):=hq;have hl:=hq.files.few;have ht0:=hq.low;have ht1:=hq.high;clear hs hq;have HR:Hid (zbb l t name=zcy t (zdJ l name) (zco l name)):=rfl;generalize zbb l t name=r at *
 go_enter Tryz.func78,Tryz.ntmps78
 go_wp2_with fail
 refine (zpp a cap l name _ HQ.out.files (by exact (HS.out.below ((Below.refl _ _).alloc (Nat.le_refl _) _)).below ((Below.refl _ _).alloc (Nat.le_refl _) _))).mono ?_;rintro e w2 ⟨v,rfl,hown,hb⟩;obtain ⟨a1,cap1,rfl,hs1⟩:=hown.slice;have q2:QBox w2 w.heap.size (.slice a l.length cap) t:=((QBox.new w _ t _).alloc _).below hb (by simp;omega)
 have s2:QBox w2 (w.heap.size+1) (.slice none 0 0) 0:=by
  have:=QBox.new (w.alloc (.cells #[.slice a l.length cap,.int .i64 t] 32)) (.slice none 0 0) 0 32;rw [World.size_alloc] at this
  exact this.below hb (by simp)
 have HB2:Hid (Below w.heap.size w w2):=(((Below.refl _ _).alloc (Nat.le_refl _) _).alloc (by simp) _).trans (hb.mono (by simp;omega));have HS2:Hid (za5 w2 a1 cap1 (zdJ l name)):=hs1;have HR2:Hid (QBox w2 (w.heap.size+1) (.slice none 0 0) 0):=s2;clear hb hown hs1;obtain ⟨x0,x1,_,_,xl,_⟩:=q2;obtain ⟨y0,y1,yf0,yf1,yl,yo⟩:=s2
 by_cases hp:zco l name=0
 · have he:errV (zco l name)=.nilIface:=zac hp
   rw [he];have HRR:Hid (r=zeT t (zdJ l name)):=by show _=_;rw [HR.out];simp [zcy,hp]
   clear he hp HR
   go_wp2_with fail
   refine (zeD t a1 cap1 _ _ (by omega) a l.length cap HS2.out).mono ?_;rintro e w3 ⟨a2,cap2,rfl,hs3,hb⟩;rw [← HRR.out];rw [← HRR.out] at hs3;have s3:=HR2.out.below hb HR2.out.lt;have HB3:Hid (Below w.heap.size w w3):=HB2.out.trans (hb.mono HB2.out.size);have HS3:Hid (za5 w3 a2 cap2 r.l):=hs3;clear y0 y1 yf0 yf1 yl yo hb hs3;obtain ⟨y0,y1,yf0,yf1,yl,yo⟩:=s3;have HYO:Hid (∀ o,2≤o→w3.cell? ⟨w.heap.size+1,o,none⟩=none):=yo;clear yo;go_wp2;refine bodyPost_ret (v:=.tuple #[.agg #[.slice a2 r.l.length cap2,.int .i64 r.t],errV r.n]) (by simp [results,Tryz.results78,go_sem,y0,y1,yl]) rfl ⟨a2,cap2,rfl,?_,?_⟩
   · exact HS3.out.store2 HYO.out _ _
   · exact (HB3.out.setCell (by simp) _).setCell (by simp) _
 · have he:errV (zco l name)=.iface 90 (.int .i64 (zco l name)):=zak hp
   have HRR:Hid (r=⟨[],0,zco l name⟩):=by show _=_;rw [HR.out];simp [zcy,hp]
   rw [he];have HE:Hid (errV (zco l name)=.iface 90 (.int .i64 (zco l name))):=he;clear he hp yo;go_wp2;rw [HRR.out];refine bodyPost_ret (v:=.tuple #[.agg #[.slice none 0 0,.int .i64 0],.iface 90 (.int .i64 (zco l name))]) (by simp [results,Tryz.results78,go_sem,y0,y1,yl]) rfl ⟨none,0,(by rw [HE.out];rfl),zc6 _,?_⟩;exact (HB2.out.setCell (by simp) _).setCell (by simp) _
structure FBox (W:World)(B:Nat)(f:Fi):Prop where
 c0:W.cell? ⟨B,0,none⟩=some (.string f.n)
 c1:W.cell? ⟨B,1,none⟩=some (.string f.t)
 c2:W.cell? ⟨B,2,none⟩=some (.int .i64 f.k)
 f0:W.frozen? ⟨B,0,none⟩=false
 lt:B<W.heap.size
theorem FBox.below (h:FBox W B f)(hb:Below C W W')(hC:B<C):FBox W' B f :=
 ⟨by rw [hb.cell (p:=⟨B,0,none⟩) hC];exact h.c0,by rw [hb.cell (p:=⟨B,1,none⟩) hC];exact h.c1,by rw [hb.cell (p:=⟨B,2,none⟩) hC];exact h.c2,by rw [hb.frozen (p:=⟨B,0,none⟩) hC];exact h.f0,Nat.lt_of_lt_of_le h.lt hb.size⟩
theorem FBox.alloc (h:FBox W B f)(o:Obj):FBox (W.alloc o) B f :=
 h.below ((Below.refl _ _).alloc (Nat.le_refl _) o) h.lt
theorem FBox.new (W:World)(f:Fi)(ty:TypeId):FBox (W.alloc (.cells #[.string f.n,.string f.t,.int .i64 f.k] ty)) W.heap.size f :=
 ⟨by simp [go_sem],by simp [go_sem],by simp [go_sem],by simp [go_sem],by simp⟩
theorem Owns.setOther (h:Owns w B v l)(hp:p.block<B)(u:Value):Owns (w.setCell p u) B v l:=by
 refine ⟨h.1,?_⟩;rcases h.2 with h0 | ⟨g,cap,cur,e,hg,hh,rest⟩
 · exact .inl h0
 · exact .inr ⟨g,cap,cur,e,hg,by rw [Below.heap_setCell _ _ _ _ (by omega)];exact hh,rest⟩
theorem zqf (a:Option Addr) (cap:Nat) (l:List Fi) (t:Int) (name to:ByteArray) (w:World) (hq:zau l t) (hs:za5 w a cap l) (hn:name.size≤maxLen) (hx:to.size≤maxLen) :
 Calls Tryz.prog 79 #[.agg #[.slice a l.length cap,.int .i64 t],.string name,.string to] w (zdb w (zax l t name to)):=by
 have HS:Hid (za5 w a cap l):=hs;have HQ:Hid (zau l t):=hq;have hl:=hq.files.few;have ht0:=hq.low;have ht1:=hq.high;clear hs hq;have HR:Hid (zax l t name to=zax l t name to):=rfl;generalize hr:zax l t name to=r;have HRN:Hid (zax l t name to=r):=hr;clear hr HR
 go_enter Tryz.func79,Tryz.ntmps79
 go_wp2_with fail
 refine (zfv a cap l name _ HQ.out.files (by exact (HS.out.cells.alloc _).alloc _)).mono ?_;rintro e w1 ⟨rfl,hb⟩;have q1:QBox w1 w.heap.size (.slice a l.length cap) t:=((QBox.new w _ t _).alloc _).below hb (by simp;omega)
 have s1:QBox w1 (w.heap.size+1) (.slice none 0 0) 0:=by
  have:=QBox.new (w.alloc (.cells #[.slice a l.length cap,.int .i64 t] 32)) (.slice none 0 0) 0 32;rw [World.size_alloc] at this
  exact this.below hb (by simp)
 have HB1:Hid (Below w.heap.size w w1):=(((Below.refl _ _).alloc (Nat.le_refl _) _).alloc (by simp) _).trans (hb.mono (by simp;omega));have HS1:Hid (za5 w1 a cap l):=HS.out.below HB1.out;have HQ1:Hid (QBox w1 w.heap.size (.slice a l.length cap) t):=q1;have HR1:Hid (QBox w1 (w.heap.size+1) (.slice none 0 0) 0):=s1;clear hb;cases hg:getF l name with
 | none =>
   have HRR:Hid (r=⟨[],0,5⟩):=by show _=_;rw [← HRN.out];simp [zax,hg,zd0]
   rw [zed];obtain ⟨y0,y1,yf0,yf1,yl,yo⟩:=s1;clear q1 yo hg;go_wp2;rw [HRR.out];refine bodyPost_ret (v:=.tuple #[.agg #[.slice none 0 0,.int .i64 0],errV 5]) (by simp [results,Tryz.results79,go_sem,y0,y1,yl,errV]) rfl ⟨none,0,rfl,zc6 _,?_⟩
   repeat (first | exact HB1.out | refine Below.setCell ?_ (Nat.le_succ _) _ | refine Below.alloc ?_ (by simp;have:=HB1.out.size;omega) _)
 | some f =>
   obtain ⟨hfm,hfn⟩:=zbh hg;have hfs:=HQ.out.files.times hfm;rw [zeJ];have HGF:Hid (getF l name=some f):=hg;have HFN:Hid (f.n=name):=hfn;clear hg hfn hfm;obtain ⟨x0,x1,_,_,xl,_⟩:=q1;obtain ⟨y0,y1,yf0,yf1,yl,yo⟩:=s1;clear yo
   go_wp2_with fail
   refine (zlF to _ hx).mono ?_;rintro e w' ⟨rfl,hw⟩;rw [hw];clear hw w'
   by_cases hto:zbq to.data.toList=0
   · have he:errV (zbq to.data.toList)=.nilIface:=zac hto
     rw [he];have HTO:Hid (zbq to.data.toList=0):=hto;clear he hto
     go_wp2_with fail
     refine (zfv a cap l to _ HQ.out.files (by exact HS1.out.cells.alloc _)).mono ?_;rintro e w2 ⟨rfl,hb⟩;have HF2:Hid (FBox w2 w1.heap.size f):=(FBox.new w1 f _).below hb (by simp);have HQ2:Hid (QBox w2 w.heap.size (.slice a l.length cap) t):=(HQ1.out.alloc _).below hb (by simp;have:=HQ1.out.lt;omega);have HR2:Hid (QBox w2 (w.heap.size+1) (.slice none 0 0) 0):=(HR1.out.alloc _).below hb (by simp;have:=HR1.out.lt;omega);have HB2:Hid (Below w.heap.size w w2):=(HB1.out.alloc HB1.out.size _).trans (hb.mono (by simp;have:=HB1.out.size;omega));have HS2:Hid (za5 w2 a cap l):=HS.out.below HB2.out;have yl0:=yl;clear x0 x1 xl y0 y1 yf0 yf1 yl hb HQ1 HR1 HS1 HB1 HS;cases hg2:getF l to with
     | some g =>
       have HRR:Hid (r=⟨[],0,6⟩):=by show _=_;rw [← HRN.out];simp [zax,HGF.out,HTO.out,hg2,zd0]
       rw [zeJ];obtain ⟨y0,y1,yf0,yf1,yl,yo⟩:=HR2.out;clear yo hg2;go_wp2;rw [HRR.out];refine bodyPost_ret (v:=.tuple #[.agg #[.slice none 0 0,.int .i64 0],errV 6]) (by simp [results,Tryz.results79,go_sem,y0,y1,yl,errV]) rfl ⟨none,0,rfl,zc6 _,?_⟩
       repeat (first | exact HB2.out | refine Below.setCell ?_ (Nat.le_succ _) _ | refine Below.alloc ?_ (by simp;have:=HB2.out.size;omega) _)
     | none =>
       have HG2:Hid (getF l to=none):=hg2;clear hg2;rw [zed];obtain ⟨x0,x1,_,_,xl,_⟩:=HQ2.out;have hhas:hasF l name=true:=by rw [← zd9 HQ.out.files,HGF.out];rfl
       have HDN:Hid (zco l name=0):=by show _=_;simp [zco,hhas]
       have HDL:Hid (zdJ l name=zbG l name):=by show _=_;simp [zdJ,hhas]
       clear hhas
       go_wp2_with fail
       refine (zpp a cap l name _ HQ.out.files (by exact HS2.out.below ((Below.refl _ _).alloc (Nat.le_refl _) _))).mono ?_;rintro e w3 ⟨v,rfl,hown,hb⟩;rw [HDN.out,zac rfl];rw [HDL.out] at hown;have hsz2:w1.heap.size<w2.heap.size:=HF2.out.lt;have HF3:Hid (FBox w3 w1.heap.size f):=(HF2.out.alloc _).below hb (by simp;omega);have HQ3:Hid (QBox w3 w.heap.size (.slice a l.length cap) t):=(HQ2.out.alloc _).below hb (by simp;have:=HQ2.out.lt;omega);have HR3:Hid (QBox w3 (w.heap.size+1) (.slice none 0 0) 0):=(HR2.out.alloc _).below hb (by simp;have:=HR2.out.lt;omega);have HB3:Hid (Below w.heap.size w w3):=(HB2.out.alloc HB2.out.size _).trans (hb.mono (by simp;have:=HB2.out.size;omega));obtain ⟨a1,cap1,rfl,_⟩:=hown.slice;have HO3:Hid (Owns w3 (w2.alloc (.cells #[.string ⟨#[]⟩,.string ⟨#[]⟩,.int .i64 0] 98)).heap.size (.slice a1 (zbG l name).length cap1) (zbG l name)):=hown;have hw1:w.heap.size+1<w1.heap.size:=yl0;clear x0 x1 xl hb hown HQ2 HR2 HS2 HF2;obtain ⟨z0,z1,z2,zf,zl⟩:=HF3.out
       go_wp2_with fail
       have hb4:Below w1.heap.size w3 (w3.setCell ⟨w1.heap.size,0,none⟩ (.string to)):=Below.setCell (p:=⟨w1.heap.size,0,none⟩) (Below.refl _ _) (Nat.le_refl _) _;have HO4:Hid (Owns (w3.setCell ⟨w1.heap.size,0,none⟩ (.string to)) (w2.alloc (.cells #[.string ⟨#[]⟩,.string ⟨#[]⟩,.int .i64 0] 98)).heap.size (.slice a1 (zbG l name).length cap1) (zbG l name)):=HO3.out.setOther (by simp;omega) _
       have HSL4:Hid (za5 (w3.setCell ⟨w1.heap.size,0,none⟩ (.string to)) a1 cap1 (zbG l name)):=by
        obtain ⟨a',cap',e,hs'⟩:=HO4.out.slice;cases e;exact hs'
       refine (zlG a1 cap1 (zbG l name) ⟨to,f.t,f.k⟩ _ ⟨hx,by unfold maxLen;have:=hfs.2.1;show f.t.size≤_;omega⟩ (zdZ HQ.out.files name) (by exact HSL4.out)).mono ?_;rintro e w5 ⟨v5,rfl,hown5,hb5⟩;obtain ⟨a5,cap5,rfl,hs5⟩:=hown5.slice;have HQ5:Hid (QBox w5 w.heap.size (.slice a l.length cap) t):=(HQ3.out.below hb4 (by omega)).below hb5 (by have:=HQ3.out.lt;simpa using this);have HR5:Hid (QBox w5 (w.heap.size+1) (.slice none 0 0) 0):=(HR3.out.below hb4 (by omega)).below hb5 (by have:=HR3.out.lt;simpa using this);have HB5:Hid (Below w.heap.size w w5):=(HB3.out.trans (hb4.mono (by omega))).trans (hb5.mono (by have:=HB3.out.size;simpa using this));have HS5:Hid (za5 w5 a5 cap5 (putL (zbG l name) ⟨to,f.t,f.k⟩)):=hs5;have HRR:Hid (r=zcy t (putL (zbG l name) ⟨to,f.t,f.k⟩) (putN (zbG l name) ⟨to,f.t,f.k⟩)):=by show _=_;rw [← HRN.out];simp [zax,HGF.out,HTO.out,HG2.out]
       clear z0 z1 z2 zf zl hb4 hb5 hown5 hs5 HO3 HO4 HSL4 HQ3 HR3 HF3 HB3;generalize putL (zbG l name) ⟨to,f.t,f.k⟩=pl at *;generalize putN (zbG l name) ⟨to,f.t,f.k⟩=pn at *;obtain ⟨x0,x1,_,_,xl,_⟩:=HQ5.out;obtain ⟨y0,y1,yf0,yf1,yl,yo⟩:=HR5.out;clear yo
       by_cases hp:pn=0
       · have he:errV pn=.nilIface:=zac hp
         rw [he];have HRT:Hid (r=zeT t pl):=by show _=_;rw [HRR.out];simp [zcy,hp]
         clear he hp
         go_wp2_with fail
         refine (zeD t a5 cap5 _ _ (by omega) a l.length cap HS5.out).mono ?_;rintro e w6 ⟨a6,cap6,rfl,hs6,hb⟩;rw [← HRT.out];rw [← HRT.out] at hs6;have s6:=HR5.out.below hb HR5.out.lt;have HB6:Hid (Below w.heap.size w w6):=HB5.out.trans (hb.mono HB5.out.size);have HS6:Hid (za5 w6 a6 cap6 r.l):=hs6;clear y0 y1 yf0 yf1 yl hb hs6;obtain ⟨y0,y1,yf0,yf1,yl,yo⟩:=s6;have HYO:Hid (∀ o,2≤o→w6.cell? ⟨w.heap.size+1,o,none⟩=none):=yo;clear yo;go_wp2;refine bodyPost_ret (v:=.tuple #[.agg #[.slice a6 r.l.length cap6,.int .i64 r.t],errV r.n]) (by simp [results,Tryz.results79,go_sem,y0,y1,yl]) rfl ⟨a6,cap6,rfl,?_,?_⟩
         · exact HS6.out.store2 HYO.out _ _
         · exact (HB6.out.setCell (Nat.le_succ _) _).setCell (Nat.le_succ _) _
       · have he:errV pn=.iface 90 (.int .i64 pn):=zak hp
         have HRT:Hid (r=⟨[],0,pn⟩):=by show _=_;rw [HRR.out];simp [zcy,hp]
         rw [he];have HE:Hid (errV pn=.iface 90 (.int .i64 pn)):=he;clear he hp;go_wp2;rw [HRT.out];refine bodyPost_ret (v:=.tuple #[.agg #[.slice none 0 0,.int .i64 0],.iface 90 (.int .i64 pn)]) (by simp [results,Tryz.results79,go_sem,y0,y1,yl]) rfl ⟨none,0,(by rw [HE.out];rfl),zc6 _,?_⟩;exact (HB5.out.setCell (Nat.le_succ _) _).setCell (Nat.le_succ _) _
   · have he:errV (zbq to.data.toList)=.iface 90 (.int .i64 (zbq to.data.toList)):=zak hto
     have HRR:Hid (r=⟨[],0,zbq to.data.toList⟩):=by show _=_;rw [← HRN.out];simp [zax,HGF.out,hto,zd0]
     rw [he];have HE:Hid (errV (zbq to.data.toList)=.iface 90 (.int .i64 (zbq to.data.toList))):=he;clear he hto;go_wp2;rw [HRR.out];refine bodyPost_ret (v:=.tuple #[.agg #[.slice none 0 0,.int .i64 0],.iface 90 (.int .i64 (zbq to.data.toList))]) (by simp [results,Tryz.results79,go_sem,y0,y1,yl]) rfl ⟨none,0,(by rw [HE.out];rfl),zc6 _,?_⟩
     repeat (first | exact HB1.out | refine Below.setCell ?_ (Nat.le_succ _) _ | refine Below.alloc ?_ (by simp;have:=HB1.out.size;omega) _)
theorem zmr (a:Option Addr) (cap:Nat) (l:List Fi) (w:World) (hl:l.length≤100) (hs:za5 w a cap l) :
 Calls Tryz.prog 52 #[.slice a l.length cap] w fun e w'=>∃ v,e=.returned v∧Owns w' w.heap.size v l∧Below w.heap.size w w':=by
 obtain ⟨i0,hi,hz0,hz1,hz2⟩:=info_parts Tryz.infoFile;have HS:Hid (za5 w a cap l):=hs;clear hs;cases a with
 | none =>
   have e:l=[]:=by
    cases l with
    | nil=>rfl
    | cons g r=>obtain ⟨_,_,e,_⟩:=HS.out.cells 0 (by simp);cases e
   subst e;have e:=HS.out.nil rfl;subst e;have hnil:=fun w=>Lib.run_eql_slice_nil (P:=Tryz.prog) w 30 98 none 0 0 0 0 Tryz.underlying30
   go_enter Tryz.func52,Tryz.ntmps52
   go_wp2;go_ret;exact ⟨_,rfl,World.ownsRow_nil _ _ _ _,Below.refl _ _⟩
 | some x =>
   have hcells:∀ (W:World),Below w.heap.size w W→∀ q u,(flat l)[q]?=some u→W.cell? (x.add q)=some u:=by
    intro W hb;have hcl:=HS.out.cells.below hb;rcases hcl.spot x rfl with rfl | hsp
    · intro q u hu;simp [flat] at hu
    · obtain ⟨xb,xo,xs⟩:=x
      simp at hsp;subst hsp;exact hcl.flat
   have HCL:Hid (∀ (W:World),Below w.heap.size w W→∀ q u,(flat l)[q]?=some u→W.cell? (x.add q)=some u):=hcells;clear hcells;have HOWN:Hid (Owns (w.alloc (.cells #[] 98)) w.heap.size (.slice (some ⟨w.heap.size,0,none⟩) 0 0) []):=World.ownsRow_made _ _ _ (Nat.le_refl _) (Nat.zero_le _) rfl;have hnil:=fun w=>Lib.run_eql_slice_nil (P:=Tryz.prog) w 30 98 (some x) l.length cap 0 0 Tryz.underlying30
   go_enter Tryz.func52,Tryz.ntmps52
   go_wp2_with (at_builtin;refine wpList_append_own _ rfl _ _ 30 rfl w.heap.size 98 i0 _ 3 40 Tryz.underlying30 hi hz0 hz1 hz2 rfl (by decide) _ _ _ rfl HOWN.out x l.length cap (flat l) rfl (zdU _) (HCL.out _ ((Below.refl _ _).alloc (Nat.le_refl _) _)) (ziO _) (by unfold maxLen;simp;omega) (by simp;omega) (by simp) ?_;intro v' w3 hown' hgrow3 hnil3)
   go_ret;refine ⟨_,rfl,?_,?_⟩
   · show World.ownsRow _ _ _ _ _ _ _
     simpa [flat] using hown'
   · exact ((Below.refl _ _).alloc (Nat.le_refl _) _).grown hgrow3 (by simp) (fun q hq=>(HOWN.out.lt q hq).1)
theorem zn4 {ops:Array Oper} {rest:List Oper} {o:Oper} {act:Act} {Q:Exit→Act→World→Prop} (hgd:o.guard=none) (s x:Operand)
 (ho:o.op=.call { callee:=.builtin .append,args:=#[s,x],argTypes:=#[30,30] })
 (W:World) (a:Option Addr) (cap:Nat) (l:List Fi) (hl:l.length≤100) (hsl:za5 W a cap l) (hs:act.eval s=.slice none 0 0) (hx:act.eval x=.slice a l.length cap)
 (h:∀ v' w',Owns w' W.heap.size v' l→Below W.heap.size W w'→wpList Tryz.prog ops Q rest (act.put o.dst v') w'):wpList Tryz.prog ops Q (o :: rest) act W:=by
 obtain ⟨i0,hi,hz0,hz1,hz2⟩:=info_parts Tryz.infoFile;have hown:Owns W W.heap.size (.slice none 0 0) []:=World.ownsRow_nil _ _ _ _;cases a with
 | none =>
   have e:l=[]:=by
    cases l with
    | nil=>rfl
    | cons g r=>obtain ⟨_,_,e,_⟩:=hsl.cells 0 (by simp);cases e
   subst e;have e:=hsl.nil rfl;subst e;refine wpList_append_own_none hgd s x 30 ho W.heap.size 98 i0 3 Tryz.underlying30 hi _ _ _ hs hown (by simpa using hx) ?_;exact h _ _ hown (Below.refl _ _)
 | some p =>
   have hcells:∀ q u,(flat l)[q]?=some u→W.cell? (p.add q)=some u:=by
    rcases hsl.cells.spot p rfl with rfl | hsp
    · intro q u hu;simp [flat] at hu
    · obtain ⟨xb,xo,xs⟩:=p
      simp at hsp;subst hsp;exact hsl.cells.flat
   refine wpList_append_own _ hgd s x 30 ho W.heap.size 98 i0 _ 3 40 Tryz.underlying30 hi hz0 hz1 hz2 rfl (by decide) _ _ _ hs hown p l.length cap (flat l) hx (zdU _) hcells (ziO _) (by unfold maxLen;simp;omega) (by simp;omega) (Nat.le_refl _) ?_;intro v' w' hown' hgrow hnil;refine h v' w' ?_ ((Below.refl _ _).grown hgrow (Nat.le_refl _) (fun q hq=>(hown.lt q hq).1));show World.ownsRow _ _ _ _ _ _ _
   simpa [flat] using hown'
end Go.Proofs.YtihnghnafpgdfadGreatDoor
