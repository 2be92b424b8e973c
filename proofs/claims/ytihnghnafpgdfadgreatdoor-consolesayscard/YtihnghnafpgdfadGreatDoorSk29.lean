/- What the proofs stand on, part 29: ImageFn, Grown, TopBase, TopGoodWalk, QuiltSame, VoteBase, VoteWrong, VoteWrongOf, VoteFind. -/
import Derived.Deep.RegionWith
import Derived.Deep.LoopGhost
import Derived.Deep.RegionHeld3
import Derived.Test.YtihnghnafpgdfadGreatDoorSk28
import Derived.Test.YtihnghnafpgdfadGreatDoorSk09
import Derived.Test.YtihnghnafpgdfadGreatDoorSk04
set_option linter.unusedVariables false
set_option linter.unusedSimpArgs false
set_option maxRecDepth 100000
set_option maxHeartbeats 4000000
namespace Go.Proofs.YtihnghnafpgdfadGreatDoor
open Go Go.RowKit Go.BigFrame
variable {rows:List Ch}{l:List Fi}{k t:Int}{B B' C b n off size:Nat}{W W' w w' w0:World}{f:Fi}{e:TypeId}
open Classical in
noncomputable def imgR (rows:List Ch):List Fi × Int × Int:=if h:∃ p:List Fi × Int,Img rows p.1 p.2 then (h.choose.1,h.choose.2,0) else ([],0,4)
theorem zgl (h:Img rows l t):imgR rows=(l,t,0):=by
 have hx:∃ p:List Fi × Int,Img rows p.1 p.2:=⟨(l,t),h⟩
 unfold imgR;rw [dif_pos hx];obtain ⟨e1,e2⟩:=hx.choose_spec.inj h;rw [e1,e2]
theorem zlu (h:zqU rows):imgR rows=([],0,4):=by
 unfold imgR;rw [dif_neg (fun ⟨p,hp⟩=>h p.1 p.2 hp)]
theorem zqR (rows:List Ch)(h1:rows.length≤50):(imgR rows).1.length≤50∧0≤(imgR rows).2.2∧(imgR rows).2.2≤100:=by
 by_cases hx:∃ p:List Fi × Int,Img rows p.1 p.2
 · obtain ⟨p,hp⟩:=hx
   have:=hp.length;rw [zgl hp];exact ⟨by simp only;omega,by simp,by simp⟩
 · rw [zlu (fun l t h=>hx ⟨(l,t),h⟩)]
   exact ⟨by simp,by decide,by decide⟩
theorem zsX (pa:Option Addr)(ca:Nat)(rows:List Ch)(w:World)(h1:rows.length≤50)(hz:∀ c ∈ rows,c.key.size≤100∧c.val.size≤100)(hc:CC w pa rows)(hv:Vars w) :
 Calls Tryz.prog 62 #[.slice pa rows.length ca] w fun e w'=>∃ va vc,e=.returned (.tuple #[.agg #[.slice va (imgR rows).1.length vc,.int .i64 (imgR rows).2.1],errV (imgR rows).2.2])∧zad w' va vc (imgR rows).1∧Below w.heap.size w w':=by
 refine (zq3 pa ca rows w h1 hz hc hv).mono ?_;rintro e w' (⟨fs,t,va,vc,him,rfl,hcl,hb⟩ | ⟨hno,rfl,hb⟩)
 · rw [zgl him]
   exact ⟨va,vc,by rw [zac rfl],hcl,hb⟩
 · rw [zlu hno]
   exact ⟨none,0,rfl,zad.nil _,hb⟩
end Go.Proofs.YtihnghnafpgdfadGreatDoor
namespace Go.Proofs.YtihnghnafpgdfadGreatDoor
open Go.RowKit
variable {rows:List Ch}{l:List Fi}{k t:Int}{B B' C b n off size:Nat}{W W' w w' w0:World}{f:Fi}{e:TypeId}
theorem Below.undrew (h:Below B W.drew w'):Below B W w':=⟨h.os,h.tape,h.output,h.size,h.block⟩
structure BoxF (W:World)(B:Nat)(f:Fi):Prop where
 c0:W.cell? ⟨B,0,none⟩=some (.string f.n)
 c1:W.cell? ⟨B,1,none⟩=some (.string f.t)
 c2:W.cell? ⟨B,2,none⟩=some (.int .i64 f.k)
 lt:B<W.heap.size
theorem BoxF.below (h:BoxF W B f)(hb:Below C W W')(hC:B<C):BoxF W' B f :=
 ⟨by rw [hb.cell (p:=⟨B,0,none⟩) hC];exact h.c0,by rw [hb.cell (p:=⟨B,1,none⟩) hC];exact h.c1,by rw [hb.cell (p:=⟨B,2,none⟩) hC];exact h.c2,Nat.lt_of_lt_of_le h.lt hb.size⟩
theorem BoxF.new (W:World)(f:Fi)(ty:TypeId):BoxF (W.alloc (.cells #[.string f.n,.string f.t,.int .i64 f.k] ty)) W.heap.size f :=
 ⟨by simp [go_sem],by simp [go_sem],by simp [go_sem],by simp⟩
theorem Below.on (o:Obj)(h:Below B w W)(hw:B≤W.heap.size)(hb:Below (W.alloc o).heap.size (W.alloc o) w'):Below B w w' :=
 (h.alloc hw o).trans (hb.mono (by simp;omega))
theorem zqn (h:Good l):zok l:=by
 intro f hf;have:=h.times hf;have h6:=zjz this.1
 unfold maxLen;exact ⟨by omega,by omega⟩
theorem zkq (a a':Option Addr) (cap cap':Nat) (l m:List Fi) (w:World) (hl:l.length≤1000) (hm:m.length≤1000) (hc:zaF w a l) (hc':zaF w a' m) :
 Calls Tryz.prog 119 #[.slice a l.length cap,.slice a' m.length cap'] w fun e w'=>e=.returned (.bool (zlv l m))∧∃ n,w'=w.drewN n:=by
 have HC:Hid (zaF w a l):=hc;have HC':Hid (zaF w a' m):=hc';clear hc hc'
 by_cases hlen:l.length=m.length
 · have hne:((l.length:Int) != (m.length:Int))=false:=by simp [hlen]
   have HL:Hid (l.length=m.length):=hlen;clear hlen
   go_enter Tryz.func119,Tryz.ntmps119
   go_wp2_with fail
   go_loopw [13] (fun i wr=>∃ k n:Nat,k≤l.length∧i=.int .i64 k∧wr=w.drewN n∧∀ i (h1:i<l.length) (h2:i<m.length),i<k→eqFi l[i] m[i]=true) (fun i _=>l.length - (intOf i).toNat)
   case atStart=>exact ⟨0,0,Nat.zero_le _,rfl,rfl,fun i h1 h2 h=>absurd h (Nat.not_lt_zero _)⟩
   case round =>
    obtain ⟨k,n,hk,rfl,rfl,hall⟩:=hrel;have Hall:Hid (∀ i (h1:i<l.length) (h2:i<m.length),i<k→eqFi l[i] m[i]=true):=hall;clear hall
    by_cases hlt:k<l.length
    · have hlt2:k<m.length:=by have:=HL.out;omega
      obtain ⟨b,off,rfl,c0,c1,c2⟩:=HC.out k hlt;obtain ⟨b',off',rfl,d0,d1,d2⟩:=HC'.out k hlt2;have hq:=fun w=>ziA l[k] m[k] w
      cases he:eqFi l[k] m[k]
      · go_wp2
        go_quiet (fail)
        go_wp2;go_ret;exact ⟨zbS (zsK hlt hlt2 he).symm,n+nq,by simp⟩
      · go_wp2
        go_quiet (fail)
        go_wp2;refine ⟨⟨k+1,_,by omega,by go_num,rfl,fun i h1 h2 h=>?_⟩,by simp [intOf];omega⟩;rcases Nat.lt_or_ge i k with h3 | h3
        · exact Hall.out i h1 h2 h3
        · have e:i=k:=by omega
          subst e;exact he
    · go_wp2
      go_ret;exact ⟨zbS (zrO HL.out (fun i h1 h2=>Hall.out i h1 h2 (by omega))).symm,n,rfl⟩
 · have hne:((l.length:Int) != (m.length:Int))=true:=by rw [bne_iff_ne];omega
   go_enter Tryz.func119,Tryz.ntmps119
   go_wp2;go_ret;exact ⟨zbS (zr3 hlen).symm,0,rfl⟩
theorem zlo (a a':Option Addr)(cap cap':Nat)(l m:List Fi)(t s:Int)(w:World)(hl:l.length≤1000)(hm:m.length≤1000)(hc:zaF w a l)(hc':zaF w a' m) :
 Calls Tryz.prog 84 #[.agg #[.slice a l.length cap,.int .i64 t],.agg #[.slice a' m.length cap',.int .i64 s]] w fun e w'=>e=.returned (.bool (zlv l m && (t == s)))∧Below w.heap.size w w':=by
 have HC:Hid (zaF w a l):=hc;have HC':Hid (zaF w a' m):=hc';clear hc hc';cases hts:(t == s)
 · go_enter Tryz.func84,Tryz.ntmps84
   go_wp2;go_ret;refine ⟨by simp,?_⟩
   repeat (first | exact Below.refl _ _ | refine below_drewN ?_ _ | refine Below.drew ?_ | refine Below.alloc ?_ (by simp;try omega) _)
 · go_enter Tryz.func84,Tryz.ntmps84
   go_wp2_with fail
   refine (zkq a a' cap cap' l m _ hl hm (by exact (HC.out.alloc _).alloc _) (by exact (HC'.out.alloc _).alloc _)).mono ?_;rintro e w1 ⟨rfl,n1,hw⟩;rw [hw];clear hw w1;go_wp2;go_ret;refine ⟨by simp,?_⟩
   repeat (first | exact Below.refl _ _ | refine below_drewN ?_ _ | refine Below.drew ?_ | refine Below.alloc ?_ (by simp;try omega) _)
structure Co where
 is:Bool
 a:Option Addr
 cap:Nat
 l:List Fi
 t:Int
abbrev Co.v (c:Co):Value:=.agg #[.bool c.is,.slice c.a c.l.length c.cap,.int .i64 c.t]
abbrev Co.q (c:Co):Value:=.agg #[.slice c.a c.l.length c.cap,.int .i64 c.t]
structure CoOk (w:World)(c:Co):Prop where
 slice:za5 w c.a c.cap c.l
 few:c.l.length≤100
theorem CoOk.below {c:Co}(h:CoOk w c)(hb:Below w.heap.size w w'):CoOk w' c:=⟨h.slice.below hb,h.few⟩
def zqP (x y:Co):Bool:=zlv x.l y.l && (x.t == y.t)
def zaC (x y:Co):Bool:=if x.is=true∧y.is=true then zqP x y else x.is == y.is
theorem zeu (x y:Co)(w:World)(hx:CoOk w x)(hy:CoOk w y) :
 Calls Tryz.prog 58 #[x.v,y.v] w fun e w'=>e=.returned (.bool (zaC x y))∧Below w.heap.size w w':=by
 have HX:Hid (CoOk w x):=hx;have HY:Hid (CoOk w y):=hy;clear hx hy;cases h1:x.is
 · cases h2:y.is
   all_goals
    have HS:Hid (zaC x y=(x.is == y.is)):=by show _=_;simp [zaC,h1]
    rw [HS.out,h1,h2]
    go_enter Tryz.func58,Tryz.ntmps58
    go_wp2;go_ret;exact ⟨rfl,by repeat (first | exact Below.refl _ _ | refine below_drewN ?_ _ | refine Below.drew ?_ | refine Below.alloc ?_ (by simp;try omega) _)⟩
 · cases h2:y.is
   · have HS:Hid (zaC x y=(x.is == y.is)):=by show _=_;simp [zaC,h2]
     rw [HS.out,h1,h2]
     go_enter Tryz.func58,Tryz.ntmps58
     go_wp2;go_ret;exact ⟨rfl,by repeat (first | exact Below.refl _ _ | refine below_drewN ?_ _ | refine Below.drew ?_ | refine Below.alloc ?_ (by simp;try omega) _)⟩
   · have HS:Hid (zaC x y=zqP x y):=by show _=_;simp [zaC,h1,h2]
     rw [HS.out];have f1:=HX.out.few;have f2:=HY.out.few
     go_enter Tryz.func58,Tryz.ntmps58
     go_wp2_with fail
     refine (zlo x.a y.a x.cap y.cap x.l y.l x.t y.t _ (by omega) (by omega) (by exact ((HX.out.slice.cells.alloc _).alloc _)) (by exact ((HY.out.slice.cells.alloc _).alloc _))).mono ?_;rintro e w1 ⟨rfl,hb⟩;have HB:Hid (Below w.heap.size w w1):=(((Below.refl _ _).alloc (Nat.le_refl _) _).alloc (by simp) _).trans (hb.mono (by simp;omega));clear hb;go_wp2;go_ret;exact ⟨rfl,HB.out⟩
theorem zsf {v:Value}{xs:List Value}(h:w.ownsRow B e size v n xs)(hk:∀ g,v.ownBlock=some g→w'.heap[g]?=w.heap[g]?):w'.ownsRow B e size v n xs:=by
 refine ⟨h.1,?_⟩;rcases h.2 with h0 | ⟨g,cap,cur,e,hg,hh,rest⟩
 · exact .inl h0
 · exact .inr ⟨g,cap,cur,e,hg,by rw [hk g (by rw [e];rfl)];exact hh,rest⟩
theorem Owns.over {v:Value}(h:Owns w (b+1) v l)(y:Value):Owns ((w.setCell ⟨b,0,none⟩ v).setCell ⟨b,1,none⟩ y) (b+1) v l :=
 zsf h fun g hg=>by
  have hge:=(h.lt g hg).1;rw [Below.heap_setCell _ _ _ _ (by show g≠b;omega),Below.heap_setCell _ _ _ _ (by show g≠b;omega)]
theorem zcA (x:Co)(w:World)(hx:CoOk w x) :
 Calls Tryz.prog 27 #[x.q] w fun e w'=>∃ a cap,e=.returned (.agg #[.slice a x.l.length cap,.int .i64 x.t])∧Owns w' w.heap.size (.slice a x.l.length cap) x.l∧Below w.heap.size w w':=by
 have HX:Hid (CoOk w x):=hx;clear hx
 go_enter Tryz.func27,Tryz.ntmps27
 have hfew:=HX.out.few
 go_wp2_with fail
 go_region_with (go_at_call 52
                 refine (zmr x.a x.cap x.l _ (by omega) (by refine HX.out.slice.below ?_;repeat (first | exact Below.refl _ _ | refine Below.drew ?_ | refine below_drewN ?_ _ | refine Below.alloc ?_ (by simp;try omega) _))).mono ?_;rintro e w3 ⟨v,rfl,hown,hb⟩;have hb4:=Below.undrew hb;obtain ⟨cc,cf⟩:=zgB hb4;have z1:=cc w.heap.size 1 (by simp;omega);have y0:=cc (w.heap.size+1) 0 (by simp);have y1:=cc (w.heap.size+1) 1 (by simp);have g0:=cf (w.heap.size+1) 0 (by simp);have g1:=cf (w.heap.size+1) 1 (by simp);simp at z1 y0 y1 g0 g1;have HB3:Hid (Below w.heap.size w w3):=(((Below.refl _ _).alloc (Nat.le_refl _) _).alloc (by simp) _).trans (hb4.mono (by simp;omega));obtain ⟨p3,cap3,e3,_⟩:=hown.slice;subst e3;have HO3:Hid (Owns w3 (w.heap.size+1+1) (.slice p3 x.l.length cap3) x.l):=by have h:=hown;simp only [World.size_drew,World.size_alloc] at h;exact h
                 have hz3:=hb4.size;simp only [World.size_alloc] at hz3;have hz4:w.heap.size+1<w3.heap.size:=by omega
                 clear hb hb4 cc cf hown hz3)
 all_goals
  go_wp2;refine bodyPost_ret (v:=.agg #[.slice p3 x.l.length cap3,.int .i64 x.t]) (by simp [results,Tryz.results27,go_sem,y0,y1,g0,g1,hz4]) rfl ⟨p3,cap3,rfl,(Owns.over HO3.out (.int .i64 x.t)).base (by omega),?_⟩;exact (HB3.out.setCell (by simp) _).setCell (by simp) _
abbrev zbB (w:World)(base:Nat)(v:Value)(l:List Int):Prop:=w.ownsRow base 3 1 v l.length (l.map (Value.int .i64))
def Nums (w:World)(a:Option Addr)(l:List Int):Prop :=
 ∀ i (h:i<l.length),∃ b off,a=some ⟨b,off,none⟩∧w.cell? ⟨b,off+i,none⟩=some (.int .i64 l[i])
theorem zbB.nums {base:Nat}{v:Value}{l:List Int}(h:zbB w base v l):∃ a cap,v=.slice a l.length cap∧Nums w a l:=by
 rcases h.2 with ⟨rfl,h0⟩ | ⟨g,cap,cur,rfl,hb,hg,hn,hm,hs,ht⟩
 · have e:l=[]:=List.eq_nil_of_length_eq_zero h0
   subst e;exact ⟨none,0,rfl,fun i h=>absurd h (Nat.not_lt_zero _)⟩
 · refine ⟨some ⟨g,0,none⟩,cap,rfl,?_⟩
   intro i hi;refine ⟨g,0,rfl,?_⟩;rw [h.cellAt (0+i) (by omega),Nat.zero_add];simp [hi]
abbrev zeS (x y z:Co):Value:=.agg #[.bool x.is,.slice x.a x.l.length x.cap,.int .i64 x.t,.bool y.is,.slice y.a y.l.length y.cap,.int .i64 y.t,.bool z.is,.slice z.a z.l.length z.cap,.int .i64 z.t]
def zas (a:Option Addr)(cap:Nat)(l:List Fi)(t:Int):Co:=⟨true,a,cap,l,t⟩
def za9 (x y z q:Co):List Int:=(if zaC x q=true then [] else [0]) ++ ((if zaC y q=true then [] else [1]) ++ (if zaC z q=true then [] else [2]))
def zbd (x y z q:Co):Nat→List Int
 | 0=>[]
 | 1=>if zaC x q=true then [] else [0]
 | 2=>(if zaC x q=true then [] else [0]) ++ (if zaC y q=true then [] else [1])
 | _=>za9 x y z q
theorem zcc (x y z q:Co)(k:Nat):(zbd x y z q k).length≤3:=by
 unfold zbd
 split
 · simp
 · split <;> simp
 · split <;> split <;> simp
 · unfold za9
   split <;> split <;> split <;> simp
theorem zbB.below {v:Value}{l:List Int}(h:zbB w B v l)(hb:Below w.heap.size w w'):zbB w' B v l :=
 zsf h fun g hg=>hb.block g (h.lt g hg).2
theorem zbB.snoc {v:Value}{l:List Int}(h:w.ownsRow B 3 1 v (l.length+1) (l.map (Value.int .i64) ++ [.int .i64 k])):zbB w B v (l ++ [k]):=by
 show World.ownsRow _ _ _ _ _ _ _;rw [List.map_append,List.length_append];exact h
theorem zbB.base {v:Value}{l:List Int}(h:zbB w B v l)(hb:B'≤B):zbB w B' v l:=by
 refine ⟨h.1,?_⟩;rcases h.2 with h0 | ⟨g,cap,cur,e,hg,rest⟩
 · exact .inl h0
 · exact .inr ⟨g,cap,cur,e,by omega,rest⟩
theorem ze7 (w:World)(a:Value)(t:TypeId):∀ j u,[a][j]?=some u→(w.alloc (.cells #[a] t)).cell? ((⟨w.heap.size,0,none⟩:Addr).add j)=some u:=by
 intro j u hj
 match j,hj with
 | 0,hj=>simp at hj;subst hj;simp [Addr.add]
 | j+1,hj=>simp at hj
structure ziI (w0:World)(b:Nat)(q:Co):Prop where
 c0:w0.cell? ⟨b,0,none⟩=some (.bool q.is)
 c1:w0.cell? ⟨b,1,none⟩=some (.slice q.a q.l.length q.cap)
 c2:w0.cell? ⟨b,2,none⟩=some (.int .i64 q.t)
theorem zm4 (W:World)(q:Co)(hq:q.is=true)(b:Nat)(T:TypeId)(hb:b=W.heap.size):ziI (W.alloc (Obj.cells #[.bool true,.slice q.a q.l.length q.cap,.int .i64 q.t] T)) b q:=by
 subst hb;exact ⟨by rw [hq];simp,by simp,by simp⟩
theorem zps (x y z:Co)(w:World):(Instr.index 48 (zeS x y z) (.int .i64 0)).run Tryz.prog w=.ok x.v w:=by kernel_rfl
theorem zpA (x y z:Co)(w:World):(Instr.index 48 (zeS x y z) (.int .i64 1)).run Tryz.prog w=.ok y.v w:=by kernel_rfl
theorem zpe (x y z:Co)(w:World):(Instr.index 48 (zeS x y z) (.int .i64 2)).run Tryz.prog w=.ok z.v w:=by kernel_rfl
theorem ziI.cells {q:Co}(h:ziI w0 b q)(w:World)(hb:Below (b+1) w0 w):w.cell? ⟨b,0,none⟩=some (.bool q.is)∧w.cell? ⟨b,1,none⟩=some (.slice q.a q.l.length q.cap)∧w.cell? ⟨b,2,none⟩=some (.int .i64 q.t) :=
 ⟨by rw [hb.cell (by simp)];exact h.c0,by rw [hb.cell (by simp)];exact h.c1,by rw [hb.cell (by simp)];exact h.c2⟩
theorem Tryz.infoInt:(Tryz.prog.info? 3).map (fun i=>(i.zero,i.size,i.bytes))=some (some (.int .i64 0),1,8):=by kernel_rfl
theorem zsl (x y z:Co) (a:Option Addr) (cap:Nat) (l:List Fi) (t:Int) (w:World) (hx:CoOk w x) (hy:CoOk w y) (hz:CoOk w z) (hq:CoOk w (zas a cap l t)) :
 Calls Tryz.prog 85 #[zeS x y z,.agg #[.slice a l.length cap,.int .i64 t]] w fun e w'=>∃ v,e=.returned v∧zbB w' w.heap.size v (za9 x y z (zas a cap l t))∧Below w.heap.size w w':=by
 obtain ⟨i0,hi,hz0,hz1,hz2'⟩:=info_parts Tryz.infoInt;have HX:Hid (CoOk w x):=hx;have HY:Hid (CoOk w y):=hy;have HZ:Hid (CoOk w z):=hz;have HQ:Hid (CoOk w (zas a cap l t)):=hq;clear hx hy hz hq
 go_enter Tryz.func85,Tryz.ntmps85
 go_wp2_with fail
 obtain ⟨w0,hw0⟩:∃ u,u=(((w.alloc (Obj.cells #[Value.bool x.is,Value.slice x.a x.l.length x.cap,Value.int IntKind.i64 x.t,Value.bool y.is,Value.slice y.a y.l.length y.cap,Value.int IntKind.i64 y.t,Value.bool z.is,Value.slice z.a z.l.length z.cap,Value.int IntKind.i64 z.t] 48)).alloc
  (Obj.cells #[Value.slice a l.length cap,Value.int IntKind.i64 t] 32)).alloc (Obj.cells #[Value.bool true,Value.slice a l.length cap,Value.int IntKind.i64 t] 47)):=⟨_,rfl⟩
 have HB0:Hid (Below w.heap.size w w0):=by rw [hw0];exact (((Below.refl _ _).alloc (Nat.le_refl _) _).alloc (by simp) _).alloc (by simp;omega) _
 have HZ0:Hid (w0.heap.size=w.heap.size+3):=by rw [hw0];show _=_;simp
 have HR:Hid (ziI w0 (w.heap.size+1+1) (zas a cap l t)):=by rw [hw0];exact zm4 _ (zas a cap l t) rfl _ _ (by simp)
 rw [← hw0];clear hw0
 go_loopg [6,12] 4 (fun kx vp vi wr=>∃ k:Nat,vi=.int .i64 k∧k≤3∧3 - k≤kx∧Hid (zbB wr (w.heap.size+3) vp (zbd x y z (zas a cap l t) k))∧Hid (Below (w.heap.size+3) w0 wr))
 case atStart=>exact ⟨0,rfl,by omega,by omega,World.ownsRow_nil _ _ _ _,Below.refl _ _⟩
 case round =>
  obtain ⟨k,rfl,hk,hkx,HO,HB⟩:=hrel;have HBW:Hid (Below w.heap.size w wr):=HB0.out.trans (HB.out.mono (by omega));have hzw:=HZ0.out
  by_cases h0:k=0
  · subst h0
    have hidx:=zps x y z;have hcon:=zeu x (zas a cap l t) (wr.alloc (Obj.cells #[.bool x.is,.slice x.a x.l.length x.cap,.int .i64 x.t] 47)) (HX.out.below (HBW.out.alloc HBW.out.size _)) (HQ.out.below (HBW.out.alloc HBW.out.size _));have HCON:Hid _:=hcon;clear hcon;obtain ⟨r0,r1,r2⟩:=HR.out.cells wr HB.out;simp only [zas] at r0 r1 r2;have hzr:=HB.out.size;have hzr2:w.heap.size+1+1<wr.heap.size:=by omega
    cases hs:zaC x (zas a cap l t)
    · go_wp2_with fail
      refine Calls.mono HCON.out ?_;rintro _ w2 ⟨rfl,hb2⟩;rw [hs];have HB2:Hid (Below (w.heap.size+3) w0 w2):=(HB.out.alloc (by omega) _).trans (hb2.mono (by simp;omega));have HO2:Hid (zbB w2 (w.heap.size+3) u6 (zbd x y z (zas a cap l t) 0)):=zbB.below (HO.out.alloc _) hb2;have hz2:=HB2.out.size;clear hb2 HCON
      go_wp2_with (at_builtin;refine wpList_append_own _ rfl _ _ 120 rfl (w.heap.size+3) 3 i0 _ 1 8 Tryz.underlying120 hi hz0 hz1 hz2' rfl (by decide) _ _ _ rfl (HO2.out.alloc _) ⟨w2.heap.size,0,none⟩ 1 1 [.int .i64 0] rfl rfl (ze7 _ _ _) (by intro u hu;simp at hu;subst hu;rfl) (by unfold maxLen;have:=zcc x y z (zas a cap l t) 0;omega) (by have:=zcc x y z (zas a cap l t) 0;omega) (by simp;omega) ?_;intro v3 w3 hown3 hgrow3 hnil3)
      go_wp2
      go_roundg (3 - (0+1))
      case measure=>omega
      case rel =>
       refine ⟨0+1,by go_num,by omega,Nat.le_refl _,?_,(HB2.out.alloc (by omega) _).grown hgrow3 (by simp;omega) (fun q hq=>(HO2.out.lt q hq).1)⟩;show zbB _ _ _ _;have e:zbd x y z (zas a cap l t) (0+1)=zbd x y z (zas a cap l t) 0 ++ [0]:=by simp [zbd,za9,hs]
       rw [e];exact zbB.snoc hown3
    · go_wp2_with fail
      refine Calls.mono HCON.out ?_;rintro _ w2 ⟨rfl,hb2⟩;rw [hs];have HB2:Hid (Below (w.heap.size+3) w0 w2):=(HB.out.alloc (by omega) _).trans (hb2.mono (by simp;omega));have HO2:Hid (zbB w2 (w.heap.size+3) u6 (zbd x y z (zas a cap l t) 0)):=zbB.below (HO.out.alloc _) hb2;clear hb2 HCON;go_wp2
      go_roundg (3 - (0+1))
      case measure=>omega
      case rel =>
       refine ⟨0+1,by go_num,by omega,Nat.le_refl _,?_,HB2⟩;have e:zbd x y z (zas a cap l t) (0+1)=zbd x y z (zas a cap l t) 0:=by simp [zbd,za9,hs]
       rw [e];exact HO2
  · by_cases h1:k=1
    · subst h1
      have hidx:=zpA x y z;have hcon:=zeu y (zas a cap l t) (wr.alloc (Obj.cells #[.bool y.is,.slice y.a y.l.length y.cap,.int .i64 y.t] 47)) (HY.out.below (HBW.out.alloc HBW.out.size _)) (HQ.out.below (HBW.out.alloc HBW.out.size _));have HCON:Hid _:=hcon;clear hcon;obtain ⟨r0,r1,r2⟩:=HR.out.cells wr HB.out;simp only [zas] at r0 r1 r2;have hzr:=HB.out.size;have hzr2:w.heap.size+1+1<wr.heap.size:=by omega
      cases hs:zaC y (zas a cap l t)
      · go_wp2_with fail
        refine Calls.mono HCON.out ?_;rintro _ w2 ⟨rfl,hb2⟩;rw [hs];have HB2:Hid (Below (w.heap.size+3) w0 w2):=(HB.out.alloc (by omega) _).trans (hb2.mono (by simp;omega));have HO2:Hid (zbB w2 (w.heap.size+3) u6 (zbd x y z (zas a cap l t) 1)):=zbB.below (HO.out.alloc _) hb2;have hz2:=HB2.out.size;clear hb2 HCON
        go_wp2_with (at_builtin;refine wpList_append_own _ rfl _ _ 120 rfl (w.heap.size+3) 3 i0 _ 1 8 Tryz.underlying120 hi hz0 hz1 hz2' rfl (by decide) _ _ _ rfl (HO2.out.alloc _) ⟨w2.heap.size,0,none⟩ 1 1 [.int .i64 1] rfl rfl (ze7 _ _ _) (by intro u hu;simp at hu;subst hu;rfl) (by unfold maxLen;have:=zcc x y z (zas a cap l t) 1;omega) (by have:=zcc x y z (zas a cap l t) 1;omega) (by simp;omega) ?_;intro v3 w3 hown3 hgrow3 hnil3)
        go_wp2
        go_roundg (3 - (1+1))
        case measure=>omega
        case rel =>
         refine ⟨1+1,by go_num,by omega,Nat.le_refl _,?_,(HB2.out.alloc (by omega) _).grown hgrow3 (by simp;omega) (fun q hq=>(HO2.out.lt q hq).1)⟩;show zbB _ _ _ _;have e:zbd x y z (zas a cap l t) (1+1)=zbd x y z (zas a cap l t) 1 ++ [1]:=by simp [zbd,za9,hs]
         rw [e];exact zbB.snoc hown3
      · go_wp2_with fail
        refine Calls.mono HCON.out ?_;rintro _ w2 ⟨rfl,hb2⟩;rw [hs];have HB2:Hid (Below (w.heap.size+3) w0 w2):=(HB.out.alloc (by omega) _).trans (hb2.mono (by simp;omega));have HO2:Hid (zbB w2 (w.heap.size+3) u6 (zbd x y z (zas a cap l t) 1)):=zbB.below (HO.out.alloc _) hb2;clear hb2 HCON;go_wp2
        go_roundg (3 - (1+1))
        case measure=>omega
        case rel =>
         refine ⟨1+1,by go_num,by omega,Nat.le_refl _,?_,HB2⟩;have e:zbd x y z (zas a cap l t) (1+1)=zbd x y z (zas a cap l t) 1:=by simp [zbd,za9,hs]
         rw [e];exact HO2
    · by_cases h2:k=2
      · subst h2
        have hidx:=zpe x y z;have hcon:=zeu z (zas a cap l t) (wr.alloc (Obj.cells #[.bool z.is,.slice z.a z.l.length z.cap,.int .i64 z.t] 47)) (HZ.out.below (HBW.out.alloc HBW.out.size _)) (HQ.out.below (HBW.out.alloc HBW.out.size _));have HCON:Hid _:=hcon;clear hcon;obtain ⟨r0,r1,r2⟩:=HR.out.cells wr HB.out;simp only [zas] at r0 r1 r2;have hzr:=HB.out.size;have hzr2:w.heap.size+1+1<wr.heap.size:=by omega
        cases hs:zaC z (zas a cap l t)
        · go_wp2_with fail
          refine Calls.mono HCON.out ?_;rintro _ w2 ⟨rfl,hb2⟩;rw [hs];have HB2:Hid (Below (w.heap.size+3) w0 w2):=(HB.out.alloc (by omega) _).trans (hb2.mono (by simp;omega));have HO2:Hid (zbB w2 (w.heap.size+3) u6 (zbd x y z (zas a cap l t) 2)):=zbB.below (HO.out.alloc _) hb2;have hz2:=HB2.out.size;clear hb2 HCON
          go_wp2_with (at_builtin;refine wpList_append_own _ rfl _ _ 120 rfl (w.heap.size+3) 3 i0 _ 1 8 Tryz.underlying120 hi hz0 hz1 hz2' rfl (by decide) _ _ _ rfl (HO2.out.alloc _) ⟨w2.heap.size,0,none⟩ 1 1 [.int .i64 2] rfl rfl (ze7 _ _ _) (by intro u hu;simp at hu;subst hu;rfl) (by unfold maxLen;have:=zcc x y z (zas a cap l t) 2;omega) (by have:=zcc x y z (zas a cap l t) 2;omega) (by simp;omega) ?_;intro v3 w3 hown3 hgrow3 hnil3)
          go_wp2
          go_roundg (3 - (2+1))
          case measure=>omega
          case rel =>
           refine ⟨2+1,by go_num,by omega,Nat.le_refl _,?_,(HB2.out.alloc (by omega) _).grown hgrow3 (by simp;omega) (fun q hq=>(HO2.out.lt q hq).1)⟩;show zbB _ _ _ _;have e:zbd x y z (zas a cap l t) (2+1)=zbd x y z (zas a cap l t) 2 ++ [2]:=by simp [zbd,za9,hs]
           rw [e];exact zbB.snoc hown3
        · go_wp2_with fail
          refine Calls.mono HCON.out ?_;rintro _ w2 ⟨rfl,hb2⟩;rw [hs];have HB2:Hid (Below (w.heap.size+3) w0 w2):=(HB.out.alloc (by omega) _).trans (hb2.mono (by simp;omega));have HO2:Hid (zbB w2 (w.heap.size+3) u6 (zbd x y z (zas a cap l t) 2)):=zbB.below (HO.out.alloc _) hb2;clear hb2 HCON;go_wp2
          go_roundg (3 - (2+1))
          case measure=>omega
          case rel =>
           refine ⟨2+1,by go_num,by omega,Nat.le_refl _,?_,HB2⟩;have e:zbd x y z (zas a cap l t) (2+1)=zbd x y z (zas a cap l t) 2:=by simp [zbd,za9,hs]
           rw [e];exact HO2
      · have h3:k=3:=by omega
        subst h3;go_wp2;go_ret;exact ⟨_,rfl,HO.out.base (by omega),HBW.out⟩
structure ze1 (w:World)(b:Nat)(x y z:Co):Prop where
 x0:w.cell? ⟨b,0,none⟩=some (.bool x.is)
 x1:w.cell? ⟨b,1,none⟩=some (.slice x.a x.l.length x.cap)
 x2:w.cell? ⟨b,2,none⟩=some (.int .i64 x.t)
 y0:w.cell? ⟨b,3,none⟩=some (.bool y.is)
 y1:w.cell? ⟨b,4,none⟩=some (.slice y.a y.l.length y.cap)
 y2:w.cell? ⟨b,5,none⟩=some (.int .i64 y.t)
 z0:w.cell? ⟨b,6,none⟩=some (.bool z.is)
 z1:w.cell? ⟨b,7,none⟩=some (.slice z.a z.l.length z.cap)
 z2:w.cell? ⟨b,8,none⟩=some (.int .i64 z.t)
theorem ze1.below {x y z:Co}(h:ze1 w b x y z)(hb:Below B w w')(hB:b<B):ze1 w' b x y z :=
 ⟨by rw [hb.cell hB];exact h.x0,by rw [hb.cell hB];exact h.x1,by rw [hb.cell hB];exact h.x2,by rw [hb.cell hB];exact h.y0,by rw [hb.cell hB];exact h.y1,by rw [hb.cell hB];exact h.y2,by rw [hb.cell hB];exact h.z0,by rw [hb.cell hB];exact h.z1,by rw [hb.cell hB];exact h.z2⟩
theorem ze1.new (w:World)(x y z:Co)(T:TypeId):ze1 (w.alloc (Obj.cells #[.bool x.is,.slice x.a x.l.length x.cap,.int .i64 x.t,.bool y.is,.slice y.a y.l.length y.cap,.int .i64 y.t,.bool z.is,.slice z.a z.l.length z.cap,.int .i64 z.t] T)) w.heap.size x y z :=
 ⟨by simp,by simp,by simp,by simp,by simp,by simp,by simp,by simp,by simp⟩
structure zeZ (w:World)(b:Nat)(x:Co):Prop where
 c0:w.cell? ⟨b,0,none⟩=some (.bool x.is)
 c1:w.cell? ⟨b,1,none⟩=some (.slice x.a x.l.length x.cap)
 c2:w.cell? ⟨b,2,none⟩=some (.int .i64 x.t)
theorem zeZ.lt {x:Co}(h:zeZ w b x):b<w.heap.size:=World.block_lt_of_cell? _ _ h.c0
theorem zeZ.below {x:Co}(h:zeZ w b x)(hb:Below w.heap.size w w'):zeZ w' b x :=
 ⟨by rw [hb.cell h.lt];exact h.c0,by rw [hb.cell h.lt];exact h.c1,by rw [hb.cell h.lt];exact h.c2⟩
def zfH (w:World)(b off:Nat)(cs:List Co):Prop :=
 ∀ i (h:i<cs.length),(w.cell? ⟨b,off+i * 3,none⟩=some (.bool cs[i].is)∧w.cell? ⟨b,off+i * 3+1,none⟩=some (.slice cs[i].a cs[i].l.length cs[i].cap)∧w.cell? ⟨b,off+i * 3+2,none⟩=some (.int .i64 cs[i].t))∧CoOk w cs[i]
theorem zfH.below {cs:List Co}(h:zfH w b off cs)(hb:Below w.heap.size w w'):zfH w' b off cs:=by
 intro i hi;obtain ⟨⟨c0,c1,c2⟩,ok⟩:=h i hi;exact ⟨⟨by rw [hb.cell (World.block_lt_of_cell? _ _ c0)];exact c0,by rw [hb.cell (World.block_lt_of_cell? _ _ c1)];exact c1,by rw [hb.cell (World.block_lt_of_cell? _ _ c2)];exact c2⟩,ok.below hb⟩
theorem zqk (x o:Co)(b:Nat)(w:World)(hb:zeZ w b x)(hx:CoOk w x)(ho:CoOk w o) :
 Calls Tryz.prog 57 #[o.v,.pointer (some ⟨b,0,none⟩)] w fun e w'=>e=.returned (.bool (zaC x o))∧Below w.heap.size w w':=by
 obtain ⟨c0,c1,c2⟩:=hb;have hlt:=World.block_lt_of_cell? _ _ c0;have hbw:Below w.heap.size w (w.alloc (Obj.cells #[.bool o.is,.slice o.a o.l.length o.cap,.int .i64 o.t] 47)):=(Below.refl _ _).alloc (Nat.le_refl _) _;have hcon:=zeu x o _ (hx.below hbw) (ho.below hbw);have HCON:Hid _:=hcon;have HBW:Hid _:=hbw;clear hcon hbw hx ho
 go_enter Tryz.func57,Tryz.ntmps57
 go_wp2_with fail
 refine Calls.mono HCON.out ?_;rintro _ w1 ⟨rfl,hb1⟩;have HB1:Hid (Below w.heap.size w w1):=Below.trans HBW.out (hb1.mono (by simp));clear hb1 HCON;go_wp2;go_ret;exact ⟨rfl,HB1.out⟩
theorem zlp (x:Co) (cs:List Co) (b B off cap:Nat) (w:World) (hl:cs.length≤100) (hb:zeZ w b x) (hx:CoOk w x) (hc:zfH w B off cs) :
 Calls Tryz.prog 83 #[.slice (some ⟨B,off,none⟩) cs.length cap,.func (.func 57) #[] #[.pointer (some ⟨b,0,none⟩)]] w fun e w'=>(∃ k:Int,e=.returned (.int .i64 k) ∧ -1≤k∧k≤1000∧decide (0≤k)=cs.any (zaC x))∧Below w.heap.size w w':=by
 have HBX:Hid (zeZ w b x):=hb;have HX:Hid (CoOk w x):=hx;have HC:Hid (zfH w B off cs):=hc;clear hb hx hc
 go_enter Tryz.func83,Tryz.ntmps83
 go_wp2_with fail
 go_loopg [8] (cs.length+1) (fun kx vi wr=>∃ k:Nat,vi=.int .i64 k∧k≤cs.length∧cs.length - k≤kx∧Hid (Below w.heap.size w wr)∧Hid (∀ j (h:j<cs.length),j<k→zaC x cs[j]=false))
 case atStart=>exact ⟨0,rfl,Nat.zero_le _,by omega,Below.refl _ _,fun j h h2=>absurd h2 (Nat.not_lt_zero _)⟩
 case round =>
  obtain ⟨k,rfl,hk,hkx,HB,HN⟩:=hrel
  by_cases hlt:k<cs.length
  · have hltz:(k:Int)<(cs.length:Int):=by omega
    obtain ⟨⟨c0,c1,c2⟩,ok⟩:=HC.out.below HB.out k hlt;have kc:=fun W (h:Below wr.heap.size wr W)=>zqk x cs[k] b W ((HBX.out.below HB.out).below h) ((HX.out.below HB.out).below h) (ok.below h)
    have kcH:Hid (∀ W,Below wr.heap.size wr W→Calls Tryz.prog 57 _ W _):=kc;clear kc ok;cases hs:zaC x cs[k]
    · have HS:Hid (zaC x cs[k]=false):=hs
      go_wp2_with fail
      refine Calls.mono (kcH.out _ (Below.refl _ _)) ?_;rintro _ w2 ⟨rfl,hb2⟩;rw [hs];have HB2:Hid (Below w.heap.size w w2):=HB.out.trans (hb2.mono HB.out.size);clear hb2 kcH c0 c1 c2 hs;go_wp2
      go_roundg (cs.length - (k+1))
      case measure=>omega
      case rel =>
       refine ⟨k+1,by go_num,by omega,Nat.le_refl _,HB2,(show Hid _ from fun j h h2=>?_)⟩;rcases Nat.lt_or_ge j k with h3 | h3
       · exact HN.out j h h3
       · have e:j=k:=by omega
         subst e;exact HS.out
    · have HS:Hid (cs.any (zaC x)=true):=by
       show _=_;rw [List.any_eq_true];exact ⟨cs[k],List.getElem_mem hlt,hs⟩
      go_wp2_with fail
      refine Calls.mono (kcH.out _ (Below.refl _ _)) ?_;rintro _ w2 ⟨rfl,hb2⟩;rw [hs];have HB2:Hid (Below w.heap.size w w2):=HB.out.trans (hb2.mono HB.out.size);clear hb2 kcH c0 c1 c2 hs;go_wp2;go_ret;exact ⟨⟨k,rfl,by omega,by omega,by rw [HS.out];exact decide_eq_true (by omega)⟩,HB2.out⟩
  · go_wp2
    go_ret;refine ⟨⟨-1,rfl,by omega,by omega,?_⟩,HB.out⟩
    have e:cs.any (zaC x)=false:=by
     rw [List.any_eq_false];intro o ho;obtain ⟨j,hj,rfl⟩:=List.getElem_of_mem ho;rw [HN.out j hj (by omega)];simp
    rw [e]
    rfl
theorem zdv (x:Co)(cs:List Co)(b B off cap:Nat)(w:World)(hl:cs.length≤100)(hb:zeZ w b x)(hx:CoOk w x)(hc:zfH w B off cs) :
 Calls Tryz.prog 56 #[.slice (some ⟨B,off,none⟩) cs.length cap,.func (.func 57) #[] #[.pointer (some ⟨b,0,none⟩)]] w fun e w'=>e=.returned (.bool (cs.any (zaC x)))∧Below w.heap.size w w':=by
 have HCON:Hid _:=zlp x cs b B off cap w hl hb hx hc;clear hb hx hc
 go_enter Tryz.func56,Tryz.ntmps56
 go_wp2_with fail
 refine Calls.mono HCON.out ?_;rintro _ w2 ⟨⟨k,rfl,h1,h2,h3⟩,hb2⟩;have HB2:Hid (Below w.heap.size w w2):=hb2;have H3:Hid (decide (0≤k)=cs.any (zaC x)):=h3;clear hb2 h3 HCON;go_wp2;go_ret;exact ⟨zbS H3.out,HB2.out⟩
end Go.Proofs.YtihnghnafpgdfadGreatDoor
