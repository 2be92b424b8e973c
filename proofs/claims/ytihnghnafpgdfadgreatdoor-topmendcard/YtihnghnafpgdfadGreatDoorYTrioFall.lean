/-
  A FALL DURING AN ACT: what the three disks tell when they are up again. No walk.
-/
import Derived.Test.YtihnghnafpgdfadGreatDoorYTrioNext
namespace Go.Proofs.YtihnghnafpgdfadGreatDoor
open Go Go.RowKit Go.BigFrame
set_option linter.unusedVariables false
set_option linter.unusedSimpArgs false
/-- A disk that is up and tells these rows,its fuse lit or not. -/
def Stood (N:Nat)(d:Dk)(R:List Ch):Prop:=∃ side used,KeptL N d.now side used R∧Clean d
theorem Sound.stood {N:Nat}{d:Dk}{R:List Ch}(h:Sound N d R):Stood N d R:=by
  obtain ⟨sd,us,h1,h2,-⟩:=h
  exact ⟨sd,us,h1,h2⟩
theorem Stood.arm {N:Nat}{d:Dk}{R:List Ch}(h:Stood N d R)(n:Int):Stood N { d with left:=n } R:=by
  obtain ⟨sd,us,h1,h2⟩:=h
  exact ⟨sd,us,h1,⟨h2.kept,h2.wr,h2.up⟩⟩
theorem keptL_sound {N side used K:Nat}{d:Dk}{R:List Ch}(h:KeptL N (keptBy K d.wr d.kept) side used R):Sound N (restartD d K) R :=
  ⟨side,used,h,⟨rfl,rfl,rfl⟩,⟨rfl,by show (-1:Int)<0;omega,Nat.le_refl _,h.len⟩⟩
theorem Stood.restart {N:Nat}{d:Dk}{R:List Ch}(h:Stood N d R)(K:Nat):Sound N (restartD d K) R:=by
  obtain ⟨sd,us,h1,h2⟩:=h
  refine keptL_sound (side:=sd) (used:=us) ?_
  rw [h2.wr,h2.kept]
  exact h1
/-- The trio over a disk of which only the disk's own things changed. -/
theorem Life.disk {lo:Nat}{w w':World}{P:Nat→Dp}{D:Nat→Dk}{tb:Nat}{so:Nat→Option Nat}{a:Option Addr}{cap:Nat}{l:List Fi}{t:Int}{k:Nat}{u:Value}{d':Dk}(h:Life lo 50 w P D tb so a cap l t)(hk:k<3)(hd':DiskAt w' { P k with wv:=u } d')(hn:NewTo (P k) w u)(ht:Touch (dOwn (P k)) w w')(hup:d'.down=false∧d'.wr=[]∧d'.now.length=50) :
    Life lo 50 w' (upd P k { P k with wv:=u }) (upd D k d') tb so a cap l t∧Below lo w w'∧LetT w w'∧∀ i,i<3→(upd P k { P k with wv:=u } i).B=(P i).B:=by
  have hd:=h.three.disk k hk
  have hB:∀ i,i<3→(upd P k { P k with wv:=u } i).B=(P i).B:=fun i hi=>by
    by_cases e:i=k
    · subst e;rw [upd_same]
    · rw [upd_other _ _ e]
  have hb:Below lo w w':=ht.below (fun j hj=>Nat.le_trans (h.three.lo k hk) (own_low hd j hj)) h.low
  refine ⟨⟨h.three.step hk hd' hn ht (fun j hj=>.inl hj),(h.trio.touch hd ht).place hB,fun i hi=>?_,h.good,h.vars.go hb,Nat.le_trans h.low ht.size,h.tbl,fun i hi=>?_⟩,hb,LetT.of_touch hd (h.up k hk).2.1 ht,hB⟩
  · by_cases e:i=k
    · subst e
      rw [upd_same,upd_same]
      exact ((h.mem i hi).touch hd ht).turn rfl (by rw [hup.2.2,(h.up i hi).2.2])
    · rw [upd_other _ _ e,upd_other _ _ e]
      exact (h.mem i hi).touch hd ht
  · by_cases e:i=k
    · subst e
      rw [upd_same]
      exact hup
    · rw [upd_other _ _ e];exact h.up i hi
/-- What an act leaves on three disks,one of which may have fallen. -/
structure Fallen (lo:Nat)(w w':World)(P:Nat→Dp)(l:List Fi)(t:Int)(r:Res)(e:Ending)(P':Nat→Dp)(D':Nat→Dk):Prop where
  three:Three lo w' P' D'
  vars:VarsLo lo w'
  same:∀ i,i<3→(P' i).B=(P i).B
  bel:Below lo w w'
  far:LetT w w'
  few:∀ i,i<3→(D' i).wr.length≤100
  new:∀ i,i<3→∀ b,(P' i).wv.ownBlock=some b→w.heap.size≤b
  said:(¬ r.n=0∧e=.returned (errV r.n)∧∀ i,i<3→∀ K,Sound 50 (restartD (D' i) K) (rowsL l t)) ∨
    (r.n=0∧GoodQ r.l r.t∧e=.returned .nilIface∧∀ i,i<3→∀ K,Sound 50 (restartD (D' i) K) (rowsL r.l r.t)) ∨
    (r.n=0∧GoodQ r.l r.t∧(∃ n:Int,0<n∧n≤100∧e=.returned (errV n))∧∀ i,i<3→∀ K,Sound 50 (restartD (D' i) K) (rowsL l t)∨Sound 50 (restartD (D' i) K) (rowsL r.l r.t))
theorem DoSays.fallen {lo:Nat} {w w':World} {P:Nat→Dp} {D:Nat→Dk} {tb:Nat} {so:Nat→Option Nat} {a:Option Addr} {cap:Nat} {l:List Fi} {t:Int} {r:Res} {e:Ending} (h:DoSays lo 50 w P D tb l t r e w') (hl:Life lo 50 w P D tb so a cap l t) (hs:∀ i,i<3→Stood 50 (D i) (rowsL l t)) :
    ∃ P' D',Fallen lo w w' P l t r e P' D':=by
  have none:∀ {W:World} {p:Dp} {d:Dk},DiskAt W p d→d.wr=[]→∀ b,¬ p.wv.ownBlock=some b:=fun hd hw b hb=>by
    rw [hd.idle hw] at hb;cases hb
  rcases h with ⟨h1,h2,h3⟩ | ⟨h1,h2,h3,S,G,hS,hor⟩
  · have hl':=hl.below h3
    exact ⟨P,D,hl'.three,hl'.vars,fun i hi=>rfl,h3.mono hl.low,LetT.of_below h3,fun i hi=>by rw [(hl.up i hi).2.1];simp,fun i hi b hb=>absurd hb (none (hl.three.disk i hi) (hl.up i hi).2.1 b),.inl ⟨h1,h2,fun i hi K=>(hs i hi).restart K⟩⟩
  · have cs:∀ i,i<3→((commitC (D i) (S i) (G i) (deedOf l t r)).d.wr.length≤100 ∧
        (((commitC (D i) (S i) (G i) (deedOf l t r)).e=0∧∀ K,Sound 50 (restartD (commitC (D i) (S i) (G i) (deedOf l t r)).d K) (rowsL r.l r.t)) ∨
         (¬ (commitC (D i) (S i) (G i) (deedOf l t r)).e=0∧(0≤(commitC (D i) (S i) (G i) (deedOf l t r)).e∧(commitC (D i) (S i) (G i) (deedOf l t r)).e≤100)∧∀ K,Sound 50 (restartD (commitC (D i) (S i) (G i) (deedOf l t r)).d K) (rowsL l t)∨Sound 50 (restartD (commitC (D i) (S i) (G i) (deedOf l t r)).d K) (rowsL r.l r.t)))):=fun i hi=>by
      obtain ⟨k1,k2,k3,k4,k5⟩:=hS i hi
      obtain ⟨sd,us,s1,s2⟩:=hs i hi
      obtain ⟨e1,e2⟩:=k5 sd us s1.g.opens
      have hap:=chg_applied hl.good.rowed h2.rowed
      have s1':KeptL 50 (D i).now (S i).side (G i).used (S i).rows:=by rw [e1,e2,k1];exact s1
      rcases commit_cases (c:=deedOf l t r) s1' s2 (hl.three.disk i hi).snow (by omega) (by omega) (by rw [k4]) with ⟨a1,a2,a3,a4,a5⟩ | ⟨a1,a2,a3,a4,-⟩ | ⟨a1,a2,a3⟩
      · have ed:(commitC (D i) (S i) (G i) (deedOf l t r)).d=D i:=by rw [a5];rfl
        refine ⟨by rw [ed,s2.wr];simp,.inr ⟨a1,⟨a3,a4⟩,fun K=>.inl ?_⟩⟩
        rw [ed]
        exact Stood.restart ⟨sd,us,s1,s2⟩ K
      · refine ⟨by rw [a2.wr];simp,.inl ⟨a1,fun K=>?_⟩⟩
        have e9:appliedC (S i).rows (deedOf l t r)=rowsL r.l r.t:=by rw [k1];exact hap
        rw [e9] at a4
        exact Stood.restart ⟨_,_,a4,a2⟩ K
      · refine ⟨a2,.inr ⟨by rw [a1];decide,by rw [a1];decide,fun K=>?_⟩⟩
        have e9:appliedC (S i).rows (deedOf l t r)=rowsL r.l r.t:=by rw [k1];exact hap
        obtain ⟨sd2,us2,m⟩:=a3.may K
        rcases m with m | m
        · exact .inl (keptL_sound (by rw [← k1];exact m))
        · exact .inr (keptL_sound (by rw [← e9];exact m))
    rcases hor with ⟨rfl,h4,P',D',so',a',cap',h5,h6,h7⟩ | ⟨k,hk,h4,h5,rfl,P',D',h6,h7,h8,hnw,h9⟩
    · refine ⟨P',D',h5.three,h5.vars,h6,h3.1,h3.2,fun i hi=>by rw [h7 i hi];exact (cs i hi).1,fun i hi b hb=>absurd hb (none (h5.three.disk i hi) (h5.up i hi).2.1 b),.inr (.inl ⟨h1,h2,rfl,fun i hi K=>?_⟩)⟩
      rw [h7 i hi]
      rcases (cs i hi).2 with ⟨-,m⟩ | ⟨m,-⟩
      · exact m K
      · exact absurd (h4 i hi) m
    · refine ⟨P',D',h6,h8,h7,h3.1,h3.2,fun i hi=>?_,fun i hi b hb=>(hnw i hi b hb).elim (fun e=>absurd e (none (hl.three.disk i hi) (hl.up i hi).2.1 b)) id,.inr (.inr ⟨h1,h2,⟨_,?_,?_,rfl⟩,fun i hi K=>?_⟩)⟩
      · rw [h9 i hi]
        split
        · exact (cs i hi).1
        · rw [(hl.up i hi).2.1];simp
      · rcases (cs k hk).2 with ⟨m,-⟩ | ⟨-,m,-⟩
        · exact absurd m h5
        · have:=m.1;omega
      · rcases (cs k hk).2 with ⟨m,-⟩ | ⟨-,m,-⟩
        · exact absurd m h5
        · exact m.2
      · rw [h9 i hi]
        split
        · rcases (cs i hi).2 with ⟨-,m⟩ | ⟨-,-,m⟩
          · exact .inr (m K)
          · exact m K
        · exact .inl ((hs i hi).restart K)
/-- Of three that are each one of two,two are the same. -/
theorem two_of {p q:Nat→Prop}(h:∀ i,i<3→p i∨q i):∃ i j,i<3∧j<3∧i≠j∧((p i∧p j)∨(q i∧q j)):=by
  rcases h 0 (by omega) with a | a <;> rcases h 1 (by omega) with b | b <;> rcases h 2 (by omega) with c | c
  · exact ⟨0,1,by omega,by omega,by omega,.inl ⟨a,b⟩⟩
  · exact ⟨0,1,by omega,by omega,by omega,.inl ⟨a,b⟩⟩
  · exact ⟨0,2,by omega,by omega,by omega,.inl ⟨a,c⟩⟩
  · exact ⟨1,2,by omega,by omega,by omega,.inr ⟨b,c⟩⟩
  · exact ⟨1,2,by omega,by omega,by omega,.inl ⟨b,c⟩⟩
  · exact ⟨0,2,by omega,by omega,by omega,.inr ⟨a,c⟩⟩
  · exact ⟨0,1,by omega,by omega,by omega,.inr ⟨a,b⟩⟩
  · exact ⟨0,1,by omega,by omega,by omega,.inr ⟨a,b⟩⟩
/-- What is a disk's has no text,its row of Writes aside. -/
theorem DiskAt.noStr2 {w:World}{p:Dp}{d:Dk}(h:DiskAt w p d){k:Nat}{C:Array Value}{T:TypeId}{fr:Nat × Nat}(hk:dOwn p k)(hne:¬ p.wv.ownBlock=some k)(e:w.heap[k]?=some (.cells C T fr)):¬ LetOf C T:=by
  intro hT
  rcases hT with hT | ⟨o,s,ho⟩
  · obtain ⟨C',T',fr',e',hT'⟩:=h.kind hk
    rw [e] at e'
    simp at e'
    rcases hT' with x | x | x
    · exact hT.1 (by rw [e'.2.1,x])
    · exact hT.2.1 (by rw [e'.2.1,x])
    · exact hT.2.2.1 (by rw [e'.2.1,x])
  · obtain ⟨va,vn,vc,wv⟩:∃ a n c,p.wv=.slice a n c:=by
      rcases h.wr.2 with ⟨e1,_⟩ | ⟨g,cap,cur,e1,_⟩
      · exact ⟨_,_,_,e1⟩
      · exact ⟨_,_,_,e1⟩
    rcases hk with rfl | rfl | rfl | hk
    · have e2:=h.blk
      rw [e] at e2
      simp at e2
      rw [e2.1,wv] at ho
      rcases o with _ | _ | _ | _ | _ | _ | o <;> simp at ho
    · have e2:=h.now
      rw [e] at e2
      simp at e2
      rw [e2.1] at ho
      exact flatS_noStr (List.mem_of_getElem? (by simpa using ho)) s rfl
    · have e2:=h.kept
      rw [e] at e2
      simp at e2
      rw [e2.1] at ho
      exact flatS_noStr (List.mem_of_getElem? (by simpa using ho)) s rfl
    · exact hne hk
/-- Disks behind an act,those ahead of k up again. -/
structure Up3 (lo:Nat)(w wr:World)(P P':Nat→Dp)(D0 D':Nat→Dk)(k:Nat):Prop where
  three:Three lo wr P' D'
  vars:VarsLo lo wr
  same:∀ i,i<3→(P' i).B=(P i).B
  bel:Below lo w wr
  far:LetT w wr
  new:∀ i,i<3→∀ b,(P' i).wv.ownBlock=some b→w.heap.size≤b
  done:∀ i,i<3→i<k→∃ K,D' i=restartD (D0 i) K
  rest:∀ i,i<3→k≤i→D' i=D0 i
theorem Fallen.up3 {lo:Nat}{w w':World}{P:Nat→Dp}{l:List Fi}{t:Int}{r:Res}{e:Ending}{P':Nat→Dp}{D':Nat→Dk}(h:Fallen lo w w' P l t r e P' D'):Up3 lo w w' P P' D' D' 0 :=
  ⟨h.three,h.vars,h.same,h.bel,h.far,h.new,fun i _ hi=>absurd hi (Nat.not_lt_zero _),fun _ _ _=>rfl⟩
theorem Up3.step {lo:Nat}{w wr w1:World}{P P':Nat→Dp}{D0 D':Nat→Dk}{k:Nat}(h:Up3 lo w wr P P' D0 D' k)(hk:k<3)(hlo:lo≤w.heap.size)(K:Nat)(hd:DiskAt w1 { P' k with wv:=.slice none 0 0 } (restartD (D' k) K))(hn:Near (P' k) wr w1) :
    Up3 lo w w1 P (upd P' k { P' k with wv:=.slice none 0 0 }) D0 (upd D' k (restartD (D' k) K)) (k+1):=by
  have hdk:=h.three.disk k hk
  have hb:Below lo wr w1:=hn.touch.below (fun j hj=>Nat.le_trans (h.three.lo k hk) (own_low hdk j hj)) (Nat.le_trans hlo h.bel.size)
  refine ⟨h.three.step hk hd (fun j hj=>by cases hj) hn.touch (fun j hj=>.inl hj),h.vars.go hb,fun i hi=>?_,h.bel.trans hb,fun b C T fr e hT=>?_,fun i hi b hb=>?_,fun i hi hik=>?_,fun i hi hik=>?_⟩
  · by_cases ei:i=k
    · subst ei;rw [upd_same];exact h.same i hi
    · rw [upd_other _ _ ei];exact h.same i hi
  · have e1:=h.far b C T fr e hT
    refine (hn.touch.block b (Array.getElem?_eq_some_iff.1 e1).1 (fun ho=>?_)).trans e1
    refine hdk.noStr2 ho (fun hw=>?_) e1 hT
    have h1:=h.new k hk b hw
    have h2:=(Array.getElem?_eq_some_iff.1 e).1
    omega
  · by_cases ei:i=k
    · subst ei;rw [upd_same] at hb;cases hb
    · rw [upd_other _ _ ei] at hb;exact h.new i hi b hb
  · by_cases ei:i=k
    · subst ei;rw [upd_same];exact ⟨K,by rw [h.rest i hi (Nat.le_refl _)]⟩
    · rw [upd_other _ _ ei];exact h.done i hi (by omega)
  · rw [upd_other _ _ (by omega)];exact h.rest i hi (by omega)
/-- What an act over a fall comes to,all three disks up again. -/
structure Risen (lo:Nat)(w wr:World)(P:Nat→Dp)(l:List Fi)(t:Int)(r:Res)(m:Int)(P':Nat→Dp)(D':Nat→Dk):Prop where
  three:Three lo wr P' D'
  vars:VarsLo lo wr
  same:∀ i,i<3→(P' i).B=(P i).B
  bel:Below lo w wr
  far:LetT w wr
  said:(¬ r.n=0∧m=r.n∧∀ i,i<3→Sound 50 (D' i) (rowsL l t)) ∨
    (r.n=0∧GoodQ r.l r.t∧m=0∧∀ i,i<3→Sound 50 (D' i) (rowsL r.l r.t)) ∨
    (r.n=0∧GoodQ r.l r.t∧(0<m∧m≤100)∧∀ i,i<3→Sound 50 (D' i) (rowsL l t)∨Sound 50 (D' i) (rowsL r.l r.t))
theorem Risen.free {lo:Nat}{w wr:World}{P:Nat→Dp}{l:List Fi}{t:Int}{r:Res}{m:Int}{P':Nat→Dp}{D':Nat→Dk}(h:Risen lo w wr P l t r m P' D'):∀ i,i<3→Free (D' i) 50 0:=fun i hi=>by
  rcases h.said with ⟨-,-,h⟩ | ⟨-,-,-,h⟩ | ⟨-,-,-,h⟩
  · exact (h i hi).free
  · exact (h i hi).free
  · rcases h i hi with h | h
    · exact h.free
    · exact h.free
/-- Two of the disks tell the same quilt: that of before,or that of behind. -/
theorem Risen.two {lo:Nat}{w wr:World}{P:Nat→Dp}{l:List Fi}{t:Int}{r:Res}{m:Int}{P':Nat→Dp}{D':Nat→Dk}(h:Risen lo w wr P l t r m P' D')(hg:GoodQ l t) :
    ∃ (l2:List Fi) (t2:Int) (i j:Nat),GoodQ l2 t2∧i<3∧j<3∧i≠j∧Tells (D' i) (rowsL l2 t2)∧Tells (D' j) (rowsL l2 t2) ∧
      ((¬ r.n=0∧m=r.n∧l2=l∧t2=t)∨(r.n=0∧m=0∧l2=r.l∧t2=r.t)∨(r.n=0∧(0<m∧m≤100)∧((l2=l∧t2=t)∨(l2=r.l∧t2=r.t)))):=by
  rcases h.said with ⟨h1,h2,h3⟩ | ⟨h1,h2,h3,h4⟩ | ⟨h1,h2,h3,h4⟩
  · exact ⟨l,t,0,1,hg,by omega,by omega,by omega,(h3 0 (by omega)).tells,(h3 1 (by omega)).tells,.inl ⟨h1,h2,rfl,rfl⟩⟩
  · exact ⟨r.l,r.t,0,1,h2,by omega,by omega,by omega,(h4 0 (by omega)).tells,(h4 1 (by omega)).tells,.inr (.inl ⟨h1,h3,rfl,rfl⟩)⟩
  · obtain ⟨i,j,hi,hj,hij,hp⟩:=two_of h4
    rcases hp with ⟨a,b⟩ | ⟨a,b⟩
    · exact ⟨l,t,i,j,hg,hi,hj,hij,a.tells,b.tells,.inr (.inr ⟨h1,h3,.inl ⟨rfl,rfl⟩⟩)⟩
    · exact ⟨r.l,r.t,i,j,h2,hi,hj,hij,a.tells,b.tells,.inr (.inr ⟨h1,h3,.inr ⟨rfl,rfl⟩⟩)⟩
theorem Fallen.m {lo:Nat}{w w':World}{P:Nat→Dp}{l:List Fi}{t:Int}{r:Res}{e:Ending}{P':Nat→Dp}{D':Nat→Dk}(h:Fallen lo w w' P l t r e P' D'):∃ m:Int,e=.returned (errV m) ∧
    ∀ (wr:World) (P2:Nat→Dp) (D2:Nat→Dk),Up3 lo w wr P P2 D' D2 3→Risen lo w wr P l t r m P2 D2:=by
  rcases h.said with ⟨h1,h2,h3⟩ | ⟨h1,h2,h3,h4⟩ | ⟨h1,h2,⟨n,h3,h3',h4⟩,h5⟩
  · refine ⟨r.n,h2,fun wr P2 D2 u=>⟨u.three,u.vars,u.same,u.bel,u.far,.inl ⟨h1,rfl,fun i hi=>?_⟩⟩⟩
    obtain ⟨K,e⟩:=u.done i hi hi
    rw [e];exact h3 i hi K
  · refine ⟨0,by rw [h3,errV_zero rfl],fun wr P2 D2 u=>⟨u.three,u.vars,u.same,u.bel,u.far,.inr (.inl ⟨h1,h2,rfl,fun i hi=>?_⟩)⟩⟩
    obtain ⟨K,e⟩:=u.done i hi hi
    rw [e];exact h4 i hi K
  · refine ⟨n,h4,fun wr P2 D2 u=>⟨u.three,u.vars,u.same,u.bel,u.far,.inr (.inr ⟨h1,h2,⟨h3,h3'⟩,fun i hi=>?_⟩)⟩⟩
    obtain ⟨K,e⟩:=u.done i hi hi
    rw [e];exact h5 i hi K
theorem restart_any (p:Dp)(d:Dk)(x:Int)(w:World)(hx:0≤x∧x<18446744073709551616)(h:DiskAt w p d)(hl:d.wr.length≤100) :
    Calls Tryz.prog 13 #[.pointer (some ⟨p.B,0,none⟩),.int .u64 x] w fun e w'=>e=.returned (.tuple #[])∧∃ K,DiskAt w' { p with wv:=.slice none 0 0 } (restartD d K)∧Near p w w':=by
  obtain ⟨n,rfl⟩:=Int.eq_ofNat_of_zero_le hx.1
  refine (diskRestart_any p d n w h (by omega) (by omega)).mono ?_
  rintro e w' ⟨h1,h2,h3⟩
  exact ⟨h1,n,h2,h3⟩
theorem shr_in {n:Nat}(hn:n<18446744073709551616)(k:Nat):0≤(n:Int) / 2 ^ k∧(n:Int) / 2 ^ k<18446744073709551616:=by
  have h2:(0:Int)<2 ^ k:=Int.pow_pos (by decide)
  refine ⟨Int.ediv_nonneg (by omega) (by omega),?_⟩
  have:=Int.ediv_le_self (a:=(n:Int)) (2 ^ k) (by omega)
  omega
theorem Tells.inj {d:Dk}{R R':List Ch}(h:Tells d R)(h':Tells d R'):R=R':=by
  obtain ⟨sd,us,e⟩:=h
  obtain ⟨sd',us',e'⟩:=h'
  rw [e] at e'
  simp at e'
  exact e'.2.1
/-- Opened again,all three are sound. -/
theorem Risen.well {lo:Nat}{w wr w8:World}{P:Nat→Dp}{l:List Fi}{t:Int}{r:Res}{m:Int}{P' P8:Nat→Dp}{D' D8:Nat→Dk}{tb:Nat}{S:Nat→Option Nat}{a:Option Addr}{cap:Nat}{l2:List Fi}{t2:Int}{n:Nat}(h:Risen lo w wr P l t r m P' D')(hm:Mended lo wr w8 P' P8 D' D8 tb S a cap l2 t2 n):Well lo w8 P8 D8 tb S a cap l2 t2:=by
  refine ⟨hm.life,fun i hi=>?_⟩
  have hs:∃ R,Sound 50 (D' i) R:=by
    rcases h.said with ⟨-,-,h⟩ | ⟨-,-,-,h⟩ | ⟨-,-,-,h⟩
    · exact ⟨_,h i hi⟩
    · exact ⟨_,h i hi⟩
    · rcases h i hi with h | h
      · exact ⟨_,h⟩
      · exact ⟨_,h⟩
  obtain ⟨R,hs⟩:=hs
  by_cases e:Tells (D' i) (rowsL l2 t2)
  · have e2:=hs.tells.inj e
    subst e2
    rw [hm.right i hi e]
    exact hs
  · exact hm.wrong i hi e
theorem mask_32 (n:Int):bits .and .i64 n 31=n % 32:=by
  have h127:(BitVec.ofInt 64 31).toNat=2 ^ 5 - 1:=by decide
  have key:(BitVec.ofInt 64 n &&& BitVec.ofInt 64 31).toNat=(n % ((2 ^ 64:Nat):Int)).toNat % 2 ^ 5:=by
    rw [BitVec.toNat_and,h127,Nat.and_two_pow_sub_one_eq_mod];rfl
  show IntKind.i64.wrap ((BitVec.ofInt 64 n &&& BitVec.ofInt 64 31).toNat:Nat)=n % 32
  rw [key,IntKind.wrap_i64]
  omega
end Go.Proofs.YtihnghnafpgdfadGreatDoor
