/- What the proofs stand on, part 20: StoreParse. -/
import Derived.Test.YtihnghnafpgdfadGreatDoorSk15
import Derived.Test.YtihnghnafpgdfadGreatDoorSk19
set_option linter.unusedVariables false
set_option linter.unusedSimpArgs false
set_option maxRecDepth 100000
set_option maxHeartbeats 4000000
namespace Go.Proofs.YtihnghnafpgdfadGreatDoor
open Go Go.RowKit Go.BigFrame
variable {pre xs:List ByteArray}{T x:ByteArray}{B D b k n:Nat}{W W' w w1:World}{t:TypeId}{u u0 u1 v v0 v1:Value}{Q:Exit→Act→World→Prop}
def zbC:List ByteArray→Option (List Ch)
 | []=>some []
 | s :: r=>match zdw s with
   | none=>none
   | some c=>(zbC r).map (c :: ·)
theorem zfw (x:ByteArray):∀ l,zbC (l ++ [x])=(zbC l).bind fun a=>(zdw x).map fun c=>a ++ [c]
 | []=>by
   simp only [List.nil_append,zbC];cases zdw x <;> rfl
 | s :: r=>by
   simp only [List.cons_append,zbC,zfw x r];cases zdw s with
   | none=>rfl
   | some c=>cases zbC r <;> cases zdw x <;> rfl
theorem zeP:∀ {l:List ByteArray} {rows:List Ch},zbC l=some rows→(∀ c ∈ rows,zae c=0)∧rows.length=l.length
 | [],rows,h=>by simp only [zbC] at h;cases h;exact ⟨by simp,rfl⟩
 | s :: r, rows,h=>by
   simp only [zbC] at h;cases hc:zdw s with
   | none=>rw [hc] at h;cases h
   | some c =>
     rw [hc] at h;cases hr:zbC r with
     | none=>rw [hr] at h;cases h
     | some l =>
       rw [hr] at h;cases h;obtain ⟨h1,h2⟩:=zeP hr;refine ⟨fun x hx=>?_,by simp [h2]⟩;rcases List.mem_cons.1 hx with rfl | hx
       · unfold zdw at hc
         split at hc
         · cases hc
         · split at hc
           · rename_i h3;cases hc;exact h3
           · cases hc
       · exact h1 x hx
theorem znf (h:pre <+: xs)(hn:zbC pre=none):zbC xs=none:=by
 obtain ⟨m,rfl⟩:=h
 induction pre with
 | nil=>cases hn
 | cons s r ih =>
   simp only [List.cons_append,zbC] at hn ⊢;cases hc:zdw s with
   | none=>rfl
   | some c =>
     rw [hc] at hn;cases hr:zbC r with
     | none=>rw [ih hr];rfl
     | some l=>rw [hr] at hn;cases hn
def zep (T:ByteArray)(k:Nat):Option (List Ch):=match zbC (cutL T k) with
 | none=>none
 | some l=>if zdR (zah [] l) l=true∧(zbc l == T.data.toList)=true then some l else none
theorem zrm (h:pre ++ [x] <+: cutL T k):x.size≤39:=by
 have hm:x ∈ cutL T k:=h.subset (by simp);obtain ⟨i,_,rfl⟩:=List.mem_map.1 hm;unfold zte;rw [ByteArray.size_extract];omega
structure zhE (w:World)(pre:List ByteArray)(W:World):Prop where
 rows:∃ a n c acc,Boxed W (w.heap.size+1+1) 64 (.slice a n c)∧n=acc.length∧zan W w.heap.size (.slice a n c) acc∧zbC pre=some acc
 res:Boxed W w.heap.size 64 (.slice none 0 0)
 err:Boxed W (w.heap.size+1) 38 .nilIface
 txt:∃ s,Boxed W (w.heap.size+1+1+1) 9 s
 below:Below w.heap.size w W
structure ziL (w:World)(c:Code)(pre:List ByteArray)(W:World):Prop where
 code:c=.ret
 bad:zbC pre=none
 res:Boxed W w.heap.size 64 (.slice none 0 0)
 err:Boxed W (w.heap.size+1) 38 (.iface 90 (.int .i64 4))
 below:Below w.heap.size w W
theorem zm9 (w:World)(Z:Nat)(hZ:w.heap.size≤Z):OwnFrom Z (zhE w):=fun s W W' row h hg hr=>by
 obtain ⟨⟨a,n,c,acc,h1,h2,h3,h4⟩,h5,h6,⟨s0,h8⟩,h7⟩:=h;exact ⟨⟨a,n,c,acc,za7 hg hr h1,h2,ztg h3 hg hr,h4⟩,za7 hg hr h5,za7 hg hr h6,⟨s0,za7 hg hr h8⟩,zk4 h7 (Nat.le_refl _) hZ hg hr⟩
theorem znd (w:World)(Z:Nat)(hZ:w.heap.size≤Z)(c:Code):OwnFrom Z (ziL w c):=fun s W W' row h hg hr=>by
 obtain ⟨h1,h2,h5,h6,h7⟩:=h;exact ⟨h1,h2,za7 hg hr h5,za7 hg hr h6,zk4 h7 (Nat.le_refl _) hZ hg hr⟩
theorem zaA (h:Boxed W B t v)(hb:Below W.heap.size W W'):Boxed W' B t v:=(hb.block _ h.lt).trans h
theorem zcx (v:Value)(h:Boxed W b t u)(hne:b≠B):Boxed (W.setCell ⟨B,0,none⟩ v) b t u:=zaz h hne
theorem zmV (w:World)(s:List ByteArray)(W:World)(v:Value)(h:zhE w s W):zhE w s (W.setCell ⟨w.heap.size+1+1+1,0,none⟩ v):=by
 obtain ⟨⟨a,n,c,acc,h1,h2,h3,h4⟩,h5,h6,⟨s0,h8⟩,h7⟩:=h;exact ⟨⟨a,n,c,acc,zcx v h1 (by omega),h2,zaj h3 (fun g hg=>Below.heap_setCell _ _ _ _ (fun e=>h8.not_row (by decide) h3 (by rw [hg,e]))),h4⟩,zcx v h5 (by omega),zcx v h6 (by omega),⟨_,h8.set v⟩,h7.setCell (p:=⟨w.heap.size+1+1+1,0,none⟩) (by show _≤_+1+1+1;omega) v⟩
theorem znH (w:World)(c:Code)(s:List ByteArray)(W:World)(v:Value)(h:ziL w c s W):ziL w c s (W.setCell ⟨w.heap.size+1+1+1,0,none⟩ v):=by
 obtain ⟨h1,h2,h5,h6,h7⟩:=h;exact ⟨h1,h2,zcx v h5 (by omega),zcx v h6 (by omega),h7.setCell (p:=⟨w.heap.size+1+1+1,0,none⟩) (by show _≤_+1+1+1;omega) v⟩
theorem znb (a:Option Addr)(c:Nat)(acc:List Ch)(n:Nat)(W:World)(hn:n=acc.length)(hl:n≤100)(hc:CC W a acc)(hnil:a=none→c=0) :
 Calls Tryz.prog 92 #[.slice none 0 0,.slice a n c] W fun e w'=>∃ va vc,e=.returned (.slice va (zah [] acc).length vc)∧CC w' va (zah [] acc)∧Below W.heap.size W w':=by
 subst hn;refine (zis none a 0 c [] acc W (by simp) hl ⟨CC.nil _ _,fun _=>rfl⟩ ⟨hc,hnil⟩).mono ?_;rintro e w' ⟨v,S,rfl,hst,ho,hb⟩;rw [zfm zaY.nil hst] at ho;obtain ⟨va,vc,hv,hcc,-⟩:=zan.files ho;subst hv;exact ⟨va,vc,rfl,hcc,hb⟩
theorem zpH (c:Ch):∀ (b:Bool) (l:List Ch),(layC c b l).length≤l.length+1
 | true,l=>by rw [zdi];have:=List.length_filter_le (fun o=>!zbk c.key o) l;omega
 | false,[]=>by simp [layC]
 | false,x :: l=>by
   have h1:(layC c true l).length≤l.length:=by rw [zdi];exact List.length_filter_le _ _
   have h2:=zpH c false l;rw [layC];cases hb:ltB x.key c.key
   · simp only [Bool.false_or,Bool.not_false,and_self,if_true,List.length_append,List.length_cons,List.length_nil]
     split
     · simp;omega
     · simp;omega
   · simp only [Bool.false_or,Bool.not_true,Bool.true_eq_false,and_false,if_false,List.length_append,List.length_nil,List.length_cons]
     split
     · simp;omega
     · simp;omega
theorem zin:∀ (l o:List Ch),(zah o l).length≤o.length+l.length
 | [],o=>Nat.le_refl _
 | c :: l,o=>by
   have h1:=zin l (layC c c.gone o);have h2:=zpH c c.gone o;simp only [zah,List.foldl_cons,List.length_cons] at h1 ⊢;omega
theorem zoj (acc:List Ch)(h:acc.length≤100):(zah [] acc).length≤1000:=by
 have:=zin acc [];simp at this
 omega
theorem zjt (h0:Boxed W w.heap.size 64 v0)(h1:Boxed W (w.heap.size+1) 38 v1)(hK:W.heap[D]?=some (.deferred (some [])))(hD:w.heap.size+1+1+1+1≤D)(hB:Below w.heap.size w W):
 (W.putObj D (.deferred none)).cell? ⟨w.heap.size,0,none⟩=some v0∧(W.putObj D (.deferred none)).cell? ⟨w.heap.size+1,0,none⟩=some v1∧Below w.heap.size w (W.putObj D (.deferred none))∧∀ base v (l:List Ch),zan W base v l→zan (W.putObj D (.deferred none)) base v l:=by
 have k0:Boxed (W.putObj D (.deferred none)) w.heap.size 64 v0:=(World.putObj_heap_other (by omega)).trans h0;have k1:Boxed (W.putObj D (.deferred none)) (w.heap.size+1) 38 v1:=(World.putObj_heap_other (by omega)).trans h1;exact ⟨k0.cell,k1.cell,hB.grown (grownBy_putObj' W D _) (by have:=(Array.getElem?_eq_some_iff.1 hK).1;omega) (fun k e=>by cases e;omega),fun base v l ho=>ownsRow_putObj ho _ hK rfl⟩
theorem zjp (h0:Boxed W w.heap.size 64 u0)(h1:Boxed W (w.heap.size+1) 38 u1)(hK:W.heap[D]?=some (.deferred (some [])))(hD:w.heap.size+1+1+1+1≤D)(hB:Below w.heap.size w W)(v0 v1:Value):
 ((W.setCell ⟨w.heap.size,0,none⟩ v0).setCell ⟨w.heap.size+1,0,none⟩ v1).heap[D]?=some (.deferred (some [])) ∧
 (((W.setCell ⟨w.heap.size,0,none⟩ v0).setCell ⟨w.heap.size+1,0,none⟩ v1).putObj D (.deferred none)).cell? ⟨w.heap.size,0,none⟩=some v0 ∧
 (((W.setCell ⟨w.heap.size,0,none⟩ v0).setCell ⟨w.heap.size+1,0,none⟩ v1).putObj D (.deferred none)).cell? ⟨w.heap.size+1,0,none⟩=some v1 ∧
 Below w.heap.size w (((W.setCell ⟨w.heap.size,0,none⟩ v0).setCell ⟨w.heap.size+1,0,none⟩ v1).putObj D (.deferred none)) ∧
 ∀ base v (l:List Ch),zan W base v l→zan (((W.setCell ⟨w.heap.size,0,none⟩ v0).setCell ⟨w.heap.size+1,0,none⟩ v1).putObj D (.deferred none)) base v l:=by
 have k0:=zcx (B:=w.heap.size+1) v1 (h0.set v0) (by omega);have k1:=(zcx (B:=w.heap.size) v0 h1 (by omega)).set v1;have hk:=((KeepsOthers.setCell W ⟨w.heap.size,0,none⟩ v0).trans (KeepsOthers.setCell _ ⟨w.heap.size+1,0,none⟩ v1)).same D _ hK rfl;obtain ⟨e0,e1,e2,e3⟩:=zjt k0 k1 hk hD ((hB.setCell (p:=⟨w.heap.size,0,none⟩) (Nat.le_refl _) v0).setCell (p:=⟨w.heap.size+1,0,none⟩) (Nat.le_succ _) v1);refine ⟨hk,e0,e1,e2,fun base v l ho=>e3 _ _ _ (zaj (zaj ho (fun g hg=>Below.heap_setCell _ _ _ _ (fun e=>h0.not_row (by decide) ho (by rw [hg,e])))) (fun g hg=>Below.heap_setCell _ _ _ _ (fun e=>h1.not_row (by decide) ho (by rw [hg,e]))))⟩
def zc4 (K:Act→World→Prop):Exit→Act→World→Prop
 | .normal,a,w=>K a w
 | _,_,_=>False
theorem zj0 {P:Program}{c:Code}{K:Act→World→Prop}{a:Act}(h:c.wp P (zc4 K) a w):c.wp P (Exit.then K Q) a w :=
 wp_mono h (fun e a w h=>by cases e <;> first | exact h | exact h.elim)
theorem zmH {C:Obj}{a b c:Value}{T:TypeId}(h:w1.heap.size+1=n):∀ j u,[a,b,c][j]?=some u→((w1.alloc C).alloc (.cells #[a,b,c] T (0,0))).cell? ((⟨n,0,none⟩:Addr).add j)=some u:=by
 have:=zaq (w1.alloc C) a b c T;rw [World.size_alloc,h] at this
 exact this
attribute [local go_sem] Oper.semAt_some
theorem zkv (T:ByteArray) (k:Nat) (hT:T.size=40 * k) (hk:k≤12) (w:World) :
 Calls Tryz.prog 164 #[.string T] w fun e w'=>zfD w (zep T k) w e w':=by
 have HT:Hid (T.size=40 * k):=hT;clear hT;have KC:Hid (∀ W,Calls Tryz.prog 199 #[.string T] W fun e w'=>e=.returned (.func (.func 223) #[] #[.pointer (some ⟨W.heap.size,0,none⟩)])∧w'=W.alloc (.cells #[.string T] 9 (0,0))):=fun W=>zmX T W
 obtain ⟨i0,hi,hz0,hz1,hz2⟩:=info_parts Tryz.infoChange;refine (callsIn_wide (n:=9)).1 ?_;refine callsIn_of_wp_marks Tryz.func164 rfl trivial ?_ rfl;simp only [Tryz.ntmps164,List.size_toArray,List.length_cons,List.length_nil,Nat.reduceAdd,Nat.reduceSub,Array.replicate_succ,Array.replicate_zero,List.push_toArray,List.append_toArray,List.nil_append,List.cons_append];refine wpIn_wide.2 ?_
 go_wp2_with fail
 refine Calls.mono (KC.out _) ?_;rintro e w1 ⟨rfl,hw⟩;rw [hw];clear hw w1 KC
 go_wp2_with fail
 have b0:=(((Boxed.new w 64 (.slice none 0 0)).alloc (.cells #[.nilIface] 38 (0,0))).alloc (.cells #[.slice none 0 0] 64 (0,0))).alloc (.cells #[.string T] 9 (0,0));have b1:=((Boxed.new (w.alloc (.cells #[.slice none 0 0] 64 (0,0))) 38 .nilIface).alloc (.cells #[.slice none 0 0] 64 (0,0))).alloc (.cells #[.string T] 9 (0,0));have b2:=(Boxed.new ((w.alloc (.cells #[.slice none 0 0] 64 (0,0))).alloc (.cells #[.nilIface] 38 (0,0))) 64 (.slice none 0 0)).alloc (.cells #[.string T] 9 (0,0));have b3:=Boxed.new (((w.alloc (.cells #[.slice none 0 0] 64 (0,0))).alloc (.cells #[.nilIface] 38 (0,0))).alloc (.cells #[.slice none 0 0] 64 (0,0))) 9 (.string T);have hb:=((((Below.refl w.heap.size w).alloc (Nat.le_refl _) (.cells #[.slice none 0 0] 64 (0,0))).alloc (by simp) (.cells #[.nilIface] 38 (0,0))).alloc (by simp;omega) (.cells #[.slice none 0 0] 64 (0,0))).alloc (by simp;omega) (.cells #[.string T] 9 (0,0));simp only [World.size_alloc] at b1 b2 b3;obtain ⟨W0,hW0⟩:∃ W0,W0=(((w.alloc (.cells #[.slice none 0 0] 64 (0,0))).alloc (.cells #[.nilIface] 38 (0,0))).alloc (.cells #[.slice none 0 0] 64 (0,0))).alloc (.cells #[.string T] 9 (0,0)):=⟨_,rfl⟩
 have hsz:W0.heap.size=w.heap.size+1+1+1+1:=by rw [hW0];simp only [World.size_alloc]
 rw [← hW0] at b0 b1 b2 b3 hb ⊢;clear hW0;have HM0:Hid (zhE w [] W0):=⟨⟨none,0,0,[],b2,rfl,World.ownsRow_nil _ _ _ _,rfl⟩,b0,b1,⟨_,b3⟩,hb⟩;have HB3:Hid (W0.heap[w.heap.size+1+1+1]?=some (.cells #[.string T] 9 (0,0))):=b3;have HSZ:Hid (W0.heap.size=w.heap.size+1+1+1+1):=hsz;clear b0 b1 b2 b3 hb hsz;refine (wpIn_wide (n:=9)).1 ?_
 refine zhB (by omega) (gf:=223) (lb:=#[.pointer (some ⟨w.heap.size+1+1+1,0,none⟩)]) rfl (enters_of Tryz.func223 (by kernel_rfl) rfl) (zpX 8 (w.heap.size+1+1+1) (by omega) T k HT.out (by omega) W0)
  (fun W hW=>(hW.block _ (by rw [HSZ.out];omega)).trans HB3.out) (fun b hb=>by rw [HSZ.out,hb];omega) (fun _=>rfl) (zhE w) (ziL w) (zm9 w _ (by rw [HSZ.out];omega)) (fun c=>znd w _ (by rw [HSZ.out];omega) c) (fun s W b v hb h=>by subst hb;exact zmV w s W v h) (fun c s W b v hb h=>by subst hb;exact znH w c s W v h) HM0.out
  (fun x=>{ tmps:=#[Value.string T,undef,Value.pointer (some { block:=w.heap.size,off:=0 }),Value.pointer (some { block:=w.heap.size+1,off:=0 }),Value.pointer (some { block:=w.heap.size+1+1,off:=0 }),.string x,undef,undef,Value.string T,
    Value.func (Fn.func 223) #[] #[Value.pointer (some { block:=w.heap.size+1+1+1,off:=0 })],.string x,
    undef,undef,undef,undef,undef,undef,undef,undef,undef,undef,undef,undef,undef,undef,undef,undef,undef,undef,undef,undef,undef,undef,undef,undef,undef],defers:=[] }) ?assign ?body ?done ?stop
 case assign =>
  intro l x W K hK
  gi_wp2
  exact hK
 case body =>
  rintro l pre x W hm hpre;have hx39:=zrm hpre;obtain ⟨⟨a,n,c,acc,h1,h2,h3,h4⟩,h5,h6,⟨s0,h8⟩,h7⟩:=hm;have kp:=zix x W (by omega);cases hr:zdw x with
  | none =>
    rw [hr,zdd hr] at kp;have KP:Hid (Calls Tryz.prog 167 #[.string x] W fun e w'=>e=.returned (.tuple #[.agg #[.string ⟨#[]⟩,.string ⟨#[]⟩,.bool false],.iface 90 (.int .i64 4)])∧Below W.heap.size W w'):=kp;have HBAD:Hid (zbC (pre ++ [x])=none):=by show _=_;rw [zfw,h4,hr];rfl
    clear kp h1 h2 h3 h4 hr
    gi_wp2_with fail
    refine ⟨trivial,?_⟩;refine (CallsIn.inRound l (callsIn_wide.2 KP.out)).mono ?_;rintro e w1 ⟨rfl,hb1⟩;have b5:Boxed w1 _ _ _:=(hb1.block _ h5.lt).trans h5;have b6:Boxed w1 _ _ _:=(hb1.block _ h6.lt).trans h6;have HB5:Hid (Boxed w1 w.heap.size 64 (.slice none 0 0)):=b5;have HB6:Hid (Boxed w1 (w.heap.size+1) 38 .nilIface):=b6;have HBL:Hid (Below w.heap.size w w1):=h7.trans (hb1.mono h7.size);have HKF:Hid (KeepsFrom W0.heap.size W w1):=zj3 hb1;have c5:=b5.cell;have c6:=b6.cell;have f5:=b5.frozen;have f6:=b6.frozen;have l5:=b5.lt;have l6:=b6.lt;clear b5 b6 h5 h6 h7 hb1 KP
    gi_wp2
    have r0:=((zcx (B:=w.heap.size+1) (.iface 90 (.int .i64 4)) (HB5.out.set (.slice none 0 0)) (by omega)).alloc (Obj.cells #[Value.string { data:=#[] },Value.string { data:=#[] },Value.bool false] 143));have r1:=(((zcx (B:=w.heap.size) (.slice none 0 0) HB6.out (by omega)).set (.iface 90 (.int .i64 4))).alloc (Obj.cells #[Value.string { data:=#[] },Value.string { data:=#[] },Value.bool false] 143));have hbl:=(((HBL.out.setCell (p:=⟨w.heap.size,0,none⟩) (Nat.le_refl _) (.slice none 0 0)).setCell (p:=⟨w.heap.size+1,0,none⟩) (Nat.le_succ _) (.iface 90 (.int .i64 4))));exact ⟨((HKF.out.trans ((KeepsOthers.setCell _ _ _).from _)).trans ((KeepsOthers.setCell _ _ _).from _)).trans ((KeepsOthers.alloc _ _).from _),⟨rfl,HBAD.out,r0,r1,hbl.alloc hbl.size _⟩⟩
  | some ch =>
    rw [hr,zgY hr,zac rfl] at kp;have KP:Hid (Calls Tryz.prog 167 #[.string x] W fun e w'=>e=.returned (.tuple #[.agg #[.string ch.key,.string ch.val,.bool ch.gone],.nilIface])∧Below W.heap.size W w'):=kp;have HNX:Hid (zbC (pre ++ [x])=some (acc ++ [ch])):=by show _=_;rw [zfw,h4,hr];rfl
    have HN:Hid (n=acc.length):=h2
    have hn12:n<12:=by
     have:=(zeP h4).2;have h8:=hpre.length_le;rw [zgV] at h8;simp at h8;omega
    have hown:W.ownsRow w.heap.size 143 3 (.slice a n c) acc.length (flatC acc):=h3;rw [← h2] at hown;have HOWN:Hid (W.ownsRow w.heap.size 143 3 (.slice a n c) n (flatC acc)):=hown;clear kp hown h2 h3 h4 hr
    gi_wp2_with fail
    refine ⟨trivial,?_⟩;refine (CallsIn.inRound l (callsIn_wide.2 KP.out)).mono ?_;rintro e w1 ⟨rfl,hb1⟩;have b4:Boxed w1 _ _ _:=(hb1.block _ h1.lt).trans h1;have b5:Boxed w1 _ _ _:=(hb1.block _ h5.lt).trans h5;have b6:Boxed w1 _ _ _:=(hb1.block _ h6.lt).trans h6;have b8:Boxed w1 _ _ _:=(hb1.block _ h8.lt).trans h8;have HB4:Hid (Boxed (w1.alloc (.cells #[.string ch.key,.string ch.val,.bool ch.gone] 143 (0,0))) (w.heap.size+1+1) 64 (.slice a n c)):=b4.alloc _;have HB5:Hid (Boxed (w1.alloc (.cells #[.string ch.key,.string ch.val,.bool ch.gone] 143 (0,0))) w.heap.size 64 (.slice none 0 0)):=b5.alloc _;have HB6:Hid (Boxed (w1.alloc (.cells #[.string ch.key,.string ch.val,.bool ch.gone] 143 (0,0))) (w.heap.size+1) 38 .nilIface):=b6.alloc _;have HB8:Hid (Boxed (w1.alloc (.cells #[.string ch.key,.string ch.val,.bool ch.gone] 143 (0,0))) (w.heap.size+1+1+1) 9 s0):=b8.alloc _;have HK8:Hid ((w1.alloc (.cells #[.string ch.key,.string ch.val,.bool ch.gone] 143 (0,0))).heap[w.heap.size+1+1+1]?=W.heap[w.heap.size+1+1+1]?):=(b8.alloc _).trans h8.symm;have HOWN1:Hid ((w1.alloc (.cells #[.string ch.key,.string ch.val,.bool ch.gone] 143 (0,0))).ownsRow w.heap.size 143 3 (.slice a n c) n (flatC acc)):=(zaj HOWN.out (fun k hk=>hb1.block k (HOWN.out.lt k hk).2)).alloc _;have hbl:=h7.trans (hb1.mono h7.size);have HBL:Hid (Below w.heap.size w (w1.alloc (.cells #[.string ch.key,.string ch.val,.bool ch.gone] 143 (0,0)))):=hbl.alloc hbl.size _;have HKF:Hid (KeepsFrom W0.heap.size W (w1.alloc (.cells #[.string ch.key,.string ch.val,.bool ch.gone] 143 (0,0)))):=(zj3 hb1).trans ((KeepsOthers.alloc _ _).from _);have c4:=b4.cell;have l4:=b4.lt;have hle:=hbl.size;clear b4 b5 b6 b8 h1 h5 h6 h7 h8 hb1 KP hbl HOWN
    gi_wp2_with (gi_at_builtin;refine wpListIn_append_own _ rfl _ _ 64 rfl w.heap.size 143 i0 _ 3 40 Tryz.underlying64 hi hz0 hz1 hz2 rfl (by decide) _ _ _ rfl (HOWN1.out.alloc _) ⟨w1.heap.size+1,0,none⟩ 1 1 [.string ch.key,.string ch.val,.bool ch.gone] rfl rfl (zmH rfl) (by intro u hu;simp at hu;rcases hu with rfl | rfl | rfl <;> rfl) (by unfold maxLen;omega) (by omega) (by simp;omega) ?_;intro v' w3 hown' hgrow3 hnil3;obtain ⟨g',cap',rfl⟩:=ownsRow_succ hown';obtain ⟨hv1,hv2,hr2,hk2,hb2⟩:=HB4.out.appended (by decide) HOWN1.out HBL.out.size (by omega) hown' hgrow3;have hc1:=hv1.cell;have hf1:=hv1.frozen)
    have hr2':(w3.setCell ⟨w.heap.size+1+1,0,none⟩ (Value.slice (some ⟨g',0,none⟩) (n+1) cap')).ownsRow w.heap.size 143 3 (Value.slice (some ⟨g',0,none⟩) (n+1) cap') (acc ++ [ch]).length (flatC (acc ++ [ch])):=by
     have e1:(acc ++ [ch]).length=n+1:=by rw [List.length_append,← HN.out];rfl
     rw [e1,zet];exact hr2
    have far:∀ {b t u},Boxed (w1.alloc (.cells #[.string ch.key,.string ch.val,.bool ch.gone] 143 (0,0))) b t u→t≠143→b≠w.heap.size+1+1→Boxed (w3.setCell ⟨w.heap.size+1+1,0,none⟩ (Value.slice (some ⟨g',0,none⟩) (n+1) cap')) b t u:=fun hb ht hne =>
     zcx _ ((hb.alloc _).kept hgrow3 (hb.not_row ht HOWN1.out)) hne
    have e8:=far HB8.out (by decide) (by omega);exact ⟨HKF.out.trans (hk2.from _),fun b hb=>by subst hb;exact (e8:_=_).trans (HB8.out.symm.trans HK8.out),⟨⟨_,_,_,acc ++ [ch],hv2,by rw [List.length_append,← HN.out];rfl,hr2',HNX.out⟩,far HB5.out (by decide) (by omega),far HB6.out (by decide) (by omega),⟨_,e8⟩,HBL.out.trans hb2⟩⟩
 case done =>
  rintro D ys W hD rfl ⟨⟨a,n,c,acc,h1,h2,h3,h4⟩,h5,h6,-,h7⟩ hK
  have hn12:n≤12:=by
   have:=(zeP h4).2;rw [zgV] at this
   omega
  have HACC:Hid (zbC (cutL T k)=some acc):=h4;have HB4:Hid (Boxed W (w.heap.size+1+1) 64 (.slice a n c)):=h1;have HB5:Hid (Boxed W w.heap.size 64 (.slice none 0 0)):=h5;have HB6:Hid (Boxed W (w.heap.size+1) 38 .nilIface):=h6;have HB7:Hid (Below w.heap.size w W):=h7;have HK:Hid (W.heap[D]?=some (.deferred (some []))):=hK;have HOWN:Hid (zan W w.heap.size (.slice a n c) acc):=h3;have HN:Hid (n=acc.length):=h2
  have hcc:CC W a acc:=by
   obtain ⟨a',c',e,hcc,-⟩:=zan.files h3
   injection e with e1
   rw [e1];exact hcc
  have hnil:a=none→c=0:=by
   obtain ⟨a',c',e,-,hnil,-⟩:=zan.files h3
   injection e with e1 e2 e3
   rw [e1,e3];exact hnil
  have KA:Hid _:=znb a c acc n W.drew h2 (by omega) hcc hnil
  have KE:Hid (∀ (va:Option Addr) (vc:Nat) (W2:World),CC W2 va (zah [] acc)→Below W.heap.size W W2→Calls Tryz.prog 95 #[.slice va (zah [] acc).length vc,.slice a n c] W2 fun e w'=>e=.returned (.bool (zdR (zah [] acc) acc))∧Below W2.heap.size W2 w'):=fun va vc W2 h1 h2'=>by
   rw [h2];exact zk2 va a vc c (zah [] acc) acc W2 (zoj acc (by omega)) (by omega) h1 (hcc.below h2')
  have KT:Hid (∀ W2,Below W.heap.size W W2→Calls Tryz.prog 151 #[.slice a n c] W2 fun e w'=>e=.returned (.string (baL (zbc acc)))∧Below W2.heap.size W2 w'):=fun W2 h2'=>by
   rw [h2];exact zf3 a c acc W2 (by omega) (hcc.below h2') (zeP h4).1
  have c4:=h1.cell;clear h1 h2 h3 h4 h5 h6 h7 hK hcc hnil;cases hq:zdR (zah [] acc) acc
  · have HPT:Hid (zep T k=none):=by
     show _=_;unfold zep;rw [HACC.out];simp only;rw [if_neg (by rw [hq];simp)]
    rw [hq] at KE;clear hq;generalize (zah [] acc).length=R at *;simp only [Exit.inBlock,Exit.then]
    go_wp2_with fail
    refine zj0 ?_;refine wp_region_any (by kernel_rfl) ?_;change wpAny _ _ _ _ _ _ _ (World.drew _);refine wpAny_ready (rs:=[0,2]) (by kernel_rfl) (by simp) ?_;refine AllReady.cons rfl (fun K hK=>?ga1) (AllReady.cons rfl (fun K hK=>?gb1) AllReady.nil)
    case' ga1 =>
     go_simp
     refine hK _ _ ?_;clear hK K;refine wpAny_ready (rs:=[1,2]) (by kernel_rfl) (by simp) ?_;refine AllReady.cons rfl (fun K hK=>?gc1) (AllReady.cons rfl (fun K hK=>?gd1) AllReady.nil)
     case' gc1 =>
      go_simp
      go_at_call 92
      refine Calls.mono KA.out ?_;rintro e wa ⟨va,vc,rfl,hca,hba⟩;have HWA:Hid (Below W.heap.size W wa):=((Below.refl _ W).drew).trans hba;have HCA:Hid _:=hca;have c4a:=(zaA HB4.out HWA.out).cell;refine hK _ _ ?_;clear hK K hba hca;refine wpAny_ready (rs:=[2]) (by kernel_rfl) (by simp) ?_;refine AllReady.cons rfl (fun K hK=>?_) AllReady.nil
      go_simp
      refine hK _ _ ?_;clear hK K
     case' gd1 =>
      go_simp
      refine hK _ _ ?_;clear hK K;refine wpAny_ready (rs:=[1]) (by kernel_rfl) (by simp) ?_;refine AllReady.cons rfl (fun K hK=>?_) AllReady.nil
      go_simp
      go_at_call 92
      refine Calls.mono KA.out ?_;rintro e wa ⟨va,vc,rfl,hca,hba⟩;have HWA:Hid (Below W.heap.size W wa):=((Below.refl _ W).drew).trans hba;have HCA:Hid _:=hca;have c4a:=(zaA HB4.out HWA.out).cell;refine hK _ _ ?_;clear hK K hba hca
    case' gb1 =>
     go_simp
     refine hK _ _ ?_;clear hK K;refine wpAny_ready (rs:=[0]) (by kernel_rfl) (by simp) ?_;refine AllReady.cons rfl (fun K hK=>?_) AllReady.nil
     go_simp
     refine hK _ _ ?_;clear hK K;refine wpAny_ready (rs:=[1]) (by kernel_rfl) (by simp) ?_;refine AllReady.cons rfl (fun K hK=>?_) AllReady.nil
     go_simp
     go_at_call 92
     refine Calls.mono KA.out ?_;rintro e wa ⟨va,vc,rfl,hca,hba⟩;have HWA:Hid (Below W.heap.size W wa):=((Below.refl _ W).drew).trans hba;have HCA:Hid _:=hca;have c4a:=(zaA HB4.out HWA.out).cell;refine hK _ _ ?_;clear hK K hba hca
    all_goals
     change wpAny _ _ _ _ _ _ { tmps:=#[Value.string T,undef,Value.pointer (some ⟨w.heap.size,0,none⟩),Value.pointer (some ⟨w.heap.size+1,0,none⟩),Value.pointer (some ⟨w.heap.size+1+1,0,none⟩),undef,undef,undef,Value.string T,Value.func (Fn.func 223) #[] #[Value.pointer (some ⟨w.heap.size+1+1+1,0,none⟩)],undef,undef,undef,undef,undef,undef,undef,undef,undef,undef,undef,undef,undef,Value.slice a n c,Value.slice va R vc,Value.slice a n c,undef,undef,undef,undef,undef,undef,undef,undef,undef,undef],defers:=[{ target:=Target.collected D,args:=#[] }] } wa;refine wpAny_ready (rs:=[3]) (by kernel_rfl) (by simp) ?_;refine AllReady.cons rfl (fun K hK=>?_) AllReady.nil
     go_simp
     go_at_call 95
     refine Calls.mono (KE.out _ _ _ HCA.out HWA.out) ?_;rintro e wb ⟨rfl,hbb⟩;have HWB:Hid (Below W.heap.size W wb):=HWA.out.trans (hbb.mono HWA.out.size);refine hK _ _ ?_;clear hK K hbb;refine wpAny_take (i:=4) (v:=.bool true) rfl (by kernel_rfl) (by kernel_rfl) (by kernel_rfl) (fun _ _ _ h=>h) (Or.inl ⟨by rfl,by intro w;go_simp⟩) ?_;refine wpAny_take (i:=5) (v:=.bool true) rfl (by kernel_rfl) (by kernel_rfl) (by kernel_rfl) (fun _ _ _ h=>h) (Or.inl ⟨by rfl,by intro w;go_simp⟩) ?_;refine wpAny_take (i:=6) (v:=undef) rfl (by kernel_rfl) (by kernel_rfl) (by kernel_rfl) (fun _ _ _ h=>h) (Or.inr ⟨by rfl,rfl⟩) ?_;refine wpAny_take (i:=8) (v:=undef) rfl (by kernel_rfl) (by kernel_rfl) (by kernel_rfl) (fun _ _ _ h=>h) (Or.inr ⟨by rfl,rfl⟩) ?_;refine wpAny_take (i:=7) (v:=undef) rfl (by kernel_rfl) (by kernel_rfl) (by kernel_rfl) (fun _ _ _ h=>h) (Or.inr ⟨by rfl,rfl⟩) ?_;refine wpAny_take (i:=9) (v:=undef) rfl (by kernel_rfl) (by kernel_rfl) (by kernel_rfl) (fun _ _ _ h=>h) (Or.inr ⟨by rfl,rfl⟩) ?_;refine wpAny_take (i:=10) (v:=.bool true) rfl (by kernel_rfl) (by kernel_rfl) (by kernel_rfl) (fun _ _ _ h=>h) (Or.inl ⟨by rfl,by intro w;go_simp⟩) ?_;refine wpAny_done (by kernel_rfl) ?_ _;change zc4 _ .normal { tmps:=#[Value.string T,undef,Value.pointer (some ⟨w.heap.size,0,none⟩),Value.pointer (some ⟨w.heap.size+1,0,none⟩),Value.pointer (some ⟨w.heap.size+1+1,0,none⟩),undef,undef,undef,Value.string T,Value.func (Fn.func 223) #[] #[Value.pointer (some ⟨w.heap.size+1+1+1,0,none⟩)],undef,undef,undef,undef,undef,undef,undef,undef,undef,undef,undef,undef,undef,Value.slice a n c,Value.slice va R vc,Value.slice a n c,Value.bool false,Value.bool true,Value.bool true,undef,undef,undef,undef,Value.bool true,undef,undef],defers:=[{ target:=Target.collected D,args:=#[] }] } wb;simp only [zc4];have b5:=zaA HB5.out HWB.out;have b6:=zaA HB6.out HWB.out;have c5:=b5.cell;have c6:=b6.cell;have f5:=b5.frozen;have f6:=b6.frozen;clear b5 b6;go_wp2;have hkb:wb.heap[D]?=some (.deferred (some [])):=(HWB.out.block D (Array.getElem?_eq_some_iff.1 HK.out).1).trans HK.out;obtain ⟨k1,k2,k3,k4,k5⟩:=zjp (zaA HB5.out HWB.out) (zaA HB6.out HWB.out) hkb (by have:=HSZ.out;omega) (HB7.out.trans (HWB.out.mono HB7.out.size)) (.slice none 0 0) (.iface 90 (.int .i64 4));refine ⟨by simp,.inl ⟨_,_,rfl,run_takeDeferred k1,?_⟩⟩;refine ⟨.tuple #[.slice none 0 0,.iface 90 (.int .i64 4)],by simp [results,Tryz.results164,go_sem,k2,k3],k4,.inl ⟨HPT.out,rfl⟩⟩
  · have HQ:Hid (zdR (zah [] acc) acc=true):=hq
    rw [hq] at KE;clear hq;generalize (zah [] acc).length=R at *;simp only [Exit.inBlock,Exit.then]
    go_wp2_with fail
    cases hq2:(baL (zbc acc)).toList == T.toList
    · have HPT:Hid (zep T k=none):=by
       show _=_;unfold zep;rw [HACC.out];simp only;rw [if_neg];rintro ⟨-,h2⟩;rw [zbD,zbD,zbT] at hq2;rw [hq2] at h2;cases h2
      have hne2:¬ (baL (zbc acc)).toList=T.toList:=by rw [beq_eq_false_iff_ne] at hq2;exact hq2
      have hne:((baL (zbc acc)).toList != T.toList)=true:=by simp [bne,hq2]
      clear hq2;refine zj0 ?_;refine wp_region_any (by kernel_rfl) ?_;change wpAny _ _ _ _ _ _ _ (World.drew _);refine wpAny_ready (rs:=[0,2]) (by kernel_rfl) (by simp) ?_;refine AllReady.cons rfl (fun K hK=>?ga2) (AllReady.cons rfl (fun K hK=>?gb2) AllReady.nil)
      case' ga2 =>
       go_simp
       refine hK _ _ ?_;clear hK K;refine wpAny_ready (rs:=[1,2]) (by kernel_rfl) (by simp) ?_;refine AllReady.cons rfl (fun K hK=>?gc2) (AllReady.cons rfl (fun K hK=>?gd2) AllReady.nil)
       case' gc2 =>
        go_simp
        go_at_call 92
        refine Calls.mono KA.out ?_;rintro e wa ⟨va,vc,rfl,hca,hba⟩;have HWA:Hid (Below W.heap.size W wa):=((Below.refl _ W).drew).trans hba;have HCA:Hid _:=hca;have c4a:=(zaA HB4.out HWA.out).cell;refine hK _ _ ?_;clear hK K hba hca;refine wpAny_ready (rs:=[2]) (by kernel_rfl) (by simp) ?_;refine AllReady.cons rfl (fun K hK=>?_) AllReady.nil
        go_simp
        refine hK _ _ ?_;clear hK K
       case' gd2 =>
        go_simp
        refine hK _ _ ?_;clear hK K;refine wpAny_ready (rs:=[1]) (by kernel_rfl) (by simp) ?_;refine AllReady.cons rfl (fun K hK=>?_) AllReady.nil
        go_simp
        go_at_call 92
        refine Calls.mono KA.out ?_;rintro e wa ⟨va,vc,rfl,hca,hba⟩;have HWA:Hid (Below W.heap.size W wa):=((Below.refl _ W).drew).trans hba;have HCA:Hid _:=hca;have c4a:=(zaA HB4.out HWA.out).cell;refine hK _ _ ?_;clear hK K hba hca
      case' gb2 =>
       go_simp
       refine hK _ _ ?_;clear hK K;refine wpAny_ready (rs:=[0]) (by kernel_rfl) (by simp) ?_;refine AllReady.cons rfl (fun K hK=>?_) AllReady.nil
       go_simp
       refine hK _ _ ?_;clear hK K;refine wpAny_ready (rs:=[1]) (by kernel_rfl) (by simp) ?_;refine AllReady.cons rfl (fun K hK=>?_) AllReady.nil
       go_simp
       go_at_call 92
       refine Calls.mono KA.out ?_;rintro e wa ⟨va,vc,rfl,hca,hba⟩;have HWA:Hid (Below W.heap.size W wa):=((Below.refl _ W).drew).trans hba;have HCA:Hid _:=hca;have c4a:=(zaA HB4.out HWA.out).cell;refine hK _ _ ?_;clear hK K hba hca
      all_goals
       change wpAny _ _ _ _ _ _ { tmps:=#[Value.string T,undef,Value.pointer (some ⟨w.heap.size,0,none⟩),Value.pointer (some ⟨w.heap.size+1,0,none⟩),Value.pointer (some ⟨w.heap.size+1+1,0,none⟩),undef,undef,undef,Value.string T,Value.func (Fn.func 223) #[] #[Value.pointer (some ⟨w.heap.size+1+1+1,0,none⟩)],undef,undef,undef,undef,undef,undef,undef,undef,undef,undef,undef,undef,undef,Value.slice a n c,Value.slice va R vc,Value.slice a n c,undef,undef,undef,undef,undef,undef,undef,undef,undef,undef],defers:=[{ target:=Target.collected D,args:=#[] }] } wa;refine wpAny_ready (rs:=[3]) (by kernel_rfl) (by simp) ?_;refine AllReady.cons rfl (fun K hK=>?_) AllReady.nil
       go_simp
       go_at_call 95
       refine Calls.mono (KE.out _ _ _ HCA.out HWA.out) ?_;rintro e wb ⟨rfl,hbb⟩;have HWB:Hid (Below W.heap.size W wb):=HWA.out.trans (hbb.mono HWA.out.size);refine hK _ _ ?_;clear hK K hbb;have c4b:=(zaA HB4.out HWB.out).cell;refine wpAny_take (i:=4) (v:=.bool false) rfl (by kernel_rfl) (by kernel_rfl) (by kernel_rfl) (fun _ _ _ h=>h) (Or.inl ⟨by rfl,by intro w;go_simp⟩) ?_;refine wpAny_take (i:=5) (v:=.bool false) rfl (by kernel_rfl) (by kernel_rfl) (by kernel_rfl) (fun _ _ _ h=>h) (Or.inl ⟨by rfl,by intro w;go_simp⟩) ?_;refine wpAny_take (i:=8) (v:=.string T) rfl (by kernel_rfl) (by kernel_rfl) (by kernel_rfl) (fun _ _ _ h=>h) (Or.inl ⟨by rfl,by intro w;go_simp⟩) ?_;change wpAny _ _ _ _ _ _ { tmps:=#[Value.string T,undef,Value.pointer (some ⟨w.heap.size,0,none⟩),Value.pointer (some ⟨w.heap.size+1,0,none⟩),Value.pointer (some ⟨w.heap.size+1+1,0,none⟩),undef,undef,undef,Value.string T,Value.func (Fn.func 223) #[] #[Value.pointer (some ⟨w.heap.size+1+1+1,0,none⟩)],undef,undef,undef,undef,undef,undef,undef,undef,undef,undef,undef,undef,undef,Value.slice a n c,Value.slice va R vc,Value.slice a n c,Value.bool true,Value.bool false,Value.bool false,undef,undef,Value.string T,undef,undef,undef,undef],defers:=[{ target:=Target.collected D,args:=#[] }] } wb;refine wpAny_ready (rs:=[6]) (by kernel_rfl) (by simp) ?_;refine AllReady.cons rfl (fun K hK=>?_) AllReady.nil
       go_simp
       refine hK _ _ ?_;clear hK K;refine wpAny_ready (rs:=[7]) (by kernel_rfl) (by simp) ?_;refine AllReady.cons rfl (fun K hK=>?_) AllReady.nil
       go_simp
       go_at_call 151
       refine Calls.mono (KT.out _ HWB.out) ?_;rintro e wc ⟨rfl,hbc⟩;have HWC:Hid (Below W.heap.size W wc):=HWB.out.trans (hbc.mono HWB.out.size);refine hK _ _ ?_;clear hK K hbc;change wpAny _ _ _ _ _ _ { tmps:=#[Value.string T,undef,Value.pointer (some ⟨w.heap.size,0,none⟩),Value.pointer (some ⟨w.heap.size+1,0,none⟩),Value.pointer (some ⟨w.heap.size+1+1,0,none⟩),undef,undef,undef,Value.string T,Value.func (Fn.func 223) #[] #[Value.pointer (some ⟨w.heap.size+1+1+1,0,none⟩)],undef,undef,undef,undef,undef,undef,undef,undef,undef,undef,undef,undef,undef,Value.slice a n c,Value.slice va R vc,Value.slice a n c,Value.bool true,Value.bool false,Value.bool false,Value.slice a n c,Value.string (baL (zbc acc)),Value.string T,undef,undef,undef,undef],defers:=[{ target:=Target.collected D,args:=#[] }] } wc;refine wpAny_take (i:=9) (v:=.bool true) rfl (by kernel_rfl) (by kernel_rfl) (by kernel_rfl) (fun _ _ _ h=>h) (Or.inl ⟨by rfl,by intro w;go_simp⟩) ?_;refine wpAny_take (i:=10) (v:=.bool true) rfl (by kernel_rfl) (by kernel_rfl) (by kernel_rfl) (fun _ _ _ h=>h) (Or.inl ⟨by rfl,by intro w;go_simp⟩) ?_;refine wpAny_done (by kernel_rfl) ?_ _;change zc4 _ .normal { tmps:=#[Value.string T,undef,Value.pointer (some ⟨w.heap.size,0,none⟩),Value.pointer (some ⟨w.heap.size+1,0,none⟩),Value.pointer (some ⟨w.heap.size+1+1,0,none⟩),undef,undef,undef,Value.string T,Value.func (Fn.func 223) #[] #[Value.pointer (some ⟨w.heap.size+1+1+1,0,none⟩)],undef,undef,undef,undef,undef,undef,undef,undef,undef,undef,undef,undef,undef,Value.slice a n c,Value.slice va R vc,Value.slice a n c,Value.bool true,Value.bool false,Value.bool false,Value.slice a n c,Value.string (baL (zbc acc)),Value.string T,Value.bool true,Value.bool true,undef,undef],defers:=[{ target:=Target.collected D,args:=#[] }] } wc;simp only [zc4];have b4:=zaA HB4.out HWC.out;have b5:=zaA HB5.out HWC.out;have b6:=zaA HB6.out HWC.out;have c4:=b4.cell;have c5:=b5.cell;have c6:=b6.cell;have f5:=b5.frozen;have f6:=b6.frozen;clear b4 b5 b6;go_wp2;have hkb:wc.heap[D]?=some (.deferred (some [])):=(HWC.out.block D (Array.getElem?_eq_some_iff.1 HK.out).1).trans HK.out;obtain ⟨k1,k2,k3,k4,k5⟩:=zjp (zaA HB5.out HWC.out) (zaA HB6.out HWC.out) hkb (by have:=HSZ.out;omega) (HB7.out.trans (HWC.out.mono HB7.out.size)) (.slice none 0 0) (.iface 90 (.int .i64 4));refine ⟨by simp,.inl ⟨_,_,rfl,run_takeDeferred k1,?_⟩⟩;refine ⟨.tuple #[.slice none 0 0,.iface 90 (.int .i64 4)],by simp [results,Tryz.results164,go_sem,k2,k3],k4,.inl ⟨HPT.out,rfl⟩⟩
    · have HPT:Hid (zep T k=some acc):=by
       show _=_;unfold zep;rw [HACC.out];simp only;rw [if_pos];rw [zbD,zbD,zbT] at hq2;exact ⟨HQ.out,hq2⟩
      have hne2:(baL (zbc acc)).toList=T.toList:=by rw [beq_iff_eq] at hq2;exact hq2
      have hne:((baL (zbc acc)).toList != T.toList)=false:=by simp [bne,hq2]
      clear hq2;refine zj0 ?_;refine wp_region_any (by kernel_rfl) ?_;change wpAny _ _ _ _ _ _ _ (World.drew _);refine wpAny_ready (rs:=[0,2]) (by kernel_rfl) (by simp) ?_;refine AllReady.cons rfl (fun K hK=>?ga3) (AllReady.cons rfl (fun K hK=>?gb3) AllReady.nil)
      case' ga3 =>
       go_simp
       refine hK _ _ ?_;clear hK K;refine wpAny_ready (rs:=[1,2]) (by kernel_rfl) (by simp) ?_;refine AllReady.cons rfl (fun K hK=>?gc3) (AllReady.cons rfl (fun K hK=>?gd3) AllReady.nil)
       case' gc3 =>
        go_simp
        go_at_call 92
        refine Calls.mono KA.out ?_;rintro e wa ⟨va,vc,rfl,hca,hba⟩;have HWA:Hid (Below W.heap.size W wa):=((Below.refl _ W).drew).trans hba;have HCA:Hid _:=hca;have c4a:=(zaA HB4.out HWA.out).cell;refine hK _ _ ?_;clear hK K hba hca;refine wpAny_ready (rs:=[2]) (by kernel_rfl) (by simp) ?_;refine AllReady.cons rfl (fun K hK=>?_) AllReady.nil
        go_simp
        refine hK _ _ ?_;clear hK K
       case' gd3 =>
        go_simp
        refine hK _ _ ?_;clear hK K;refine wpAny_ready (rs:=[1]) (by kernel_rfl) (by simp) ?_;refine AllReady.cons rfl (fun K hK=>?_) AllReady.nil
        go_simp
        go_at_call 92
        refine Calls.mono KA.out ?_;rintro e wa ⟨va,vc,rfl,hca,hba⟩;have HWA:Hid (Below W.heap.size W wa):=((Below.refl _ W).drew).trans hba;have HCA:Hid _:=hca;have c4a:=(zaA HB4.out HWA.out).cell;refine hK _ _ ?_;clear hK K hba hca
      case' gb3 =>
       go_simp
       refine hK _ _ ?_;clear hK K;refine wpAny_ready (rs:=[0]) (by kernel_rfl) (by simp) ?_;refine AllReady.cons rfl (fun K hK=>?_) AllReady.nil
       go_simp
       refine hK _ _ ?_;clear hK K;refine wpAny_ready (rs:=[1]) (by kernel_rfl) (by simp) ?_;refine AllReady.cons rfl (fun K hK=>?_) AllReady.nil
       go_simp
       go_at_call 92
       refine Calls.mono KA.out ?_;rintro e wa ⟨va,vc,rfl,hca,hba⟩;have HWA:Hid (Below W.heap.size W wa):=((Below.refl _ W).drew).trans hba;have HCA:Hid _:=hca;have c4a:=(zaA HB4.out HWA.out).cell;refine hK _ _ ?_;clear hK K hba hca
      all_goals
       change wpAny _ _ _ _ _ _ { tmps:=#[Value.string T,undef,Value.pointer (some ⟨w.heap.size,0,none⟩),Value.pointer (some ⟨w.heap.size+1,0,none⟩),Value.pointer (some ⟨w.heap.size+1+1,0,none⟩),undef,undef,undef,Value.string T,Value.func (Fn.func 223) #[] #[Value.pointer (some ⟨w.heap.size+1+1+1,0,none⟩)],undef,undef,undef,undef,undef,undef,undef,undef,undef,undef,undef,undef,undef,Value.slice a n c,Value.slice va R vc,Value.slice a n c,undef,undef,undef,undef,undef,undef,undef,undef,undef,undef],defers:=[{ target:=Target.collected D,args:=#[] }] } wa;refine wpAny_ready (rs:=[3]) (by kernel_rfl) (by simp) ?_;refine AllReady.cons rfl (fun K hK=>?_) AllReady.nil
       go_simp
       go_at_call 95
       refine Calls.mono (KE.out _ _ _ HCA.out HWA.out) ?_;rintro e wb ⟨rfl,hbb⟩;have HWB:Hid (Below W.heap.size W wb):=HWA.out.trans (hbb.mono HWA.out.size);refine hK _ _ ?_;clear hK K hbb;have c4b:=(zaA HB4.out HWB.out).cell;refine wpAny_take (i:=4) (v:=.bool false) rfl (by kernel_rfl) (by kernel_rfl) (by kernel_rfl) (fun _ _ _ h=>h) (Or.inl ⟨by rfl,by intro w;go_simp⟩) ?_;refine wpAny_take (i:=5) (v:=.bool false) rfl (by kernel_rfl) (by kernel_rfl) (by kernel_rfl) (fun _ _ _ h=>h) (Or.inl ⟨by rfl,by intro w;go_simp⟩) ?_;refine wpAny_take (i:=8) (v:=.string T) rfl (by kernel_rfl) (by kernel_rfl) (by kernel_rfl) (fun _ _ _ h=>h) (Or.inl ⟨by rfl,by intro w;go_simp⟩) ?_;change wpAny _ _ _ _ _ _ { tmps:=#[Value.string T,undef,Value.pointer (some ⟨w.heap.size,0,none⟩),Value.pointer (some ⟨w.heap.size+1,0,none⟩),Value.pointer (some ⟨w.heap.size+1+1,0,none⟩),undef,undef,undef,Value.string T,Value.func (Fn.func 223) #[] #[Value.pointer (some ⟨w.heap.size+1+1+1,0,none⟩)],undef,undef,undef,undef,undef,undef,undef,undef,undef,undef,undef,undef,undef,Value.slice a n c,Value.slice va R vc,Value.slice a n c,Value.bool true,Value.bool false,Value.bool false,undef,undef,Value.string T,undef,undef,undef,undef],defers:=[{ target:=Target.collected D,args:=#[] }] } wb;refine wpAny_ready (rs:=[6]) (by kernel_rfl) (by simp) ?_;refine AllReady.cons rfl (fun K hK=>?_) AllReady.nil
       go_simp
       refine hK _ _ ?_;clear hK K;refine wpAny_ready (rs:=[7]) (by kernel_rfl) (by simp) ?_;refine AllReady.cons rfl (fun K hK=>?_) AllReady.nil
       go_simp
       go_at_call 151
       refine Calls.mono (KT.out _ HWB.out) ?_;rintro e wc ⟨rfl,hbc⟩;have HWC:Hid (Below W.heap.size W wc):=HWB.out.trans (hbc.mono HWB.out.size);refine hK _ _ ?_;clear hK K hbc;change wpAny _ _ _ _ _ _ { tmps:=#[Value.string T,undef,Value.pointer (some ⟨w.heap.size,0,none⟩),Value.pointer (some ⟨w.heap.size+1,0,none⟩),Value.pointer (some ⟨w.heap.size+1+1,0,none⟩),undef,undef,undef,Value.string T,Value.func (Fn.func 223) #[] #[Value.pointer (some ⟨w.heap.size+1+1+1,0,none⟩)],undef,undef,undef,undef,undef,undef,undef,undef,undef,undef,undef,undef,undef,Value.slice a n c,Value.slice va R vc,Value.slice a n c,Value.bool true,Value.bool false,Value.bool false,Value.slice a n c,Value.string (baL (zbc acc)),Value.string T,undef,undef,undef,undef],defers:=[{ target:=Target.collected D,args:=#[] }] } wc;refine wpAny_take (i:=9) (v:=.bool false) rfl (by kernel_rfl) (by kernel_rfl) (by kernel_rfl) (fun _ _ _ h=>h) (Or.inl ⟨by rfl,by intro w;go_simp⟩) ?_;refine wpAny_take (i:=10) (v:=.bool false) rfl (by kernel_rfl) (by kernel_rfl) (by kernel_rfl) (fun _ _ _ h=>h) (Or.inl ⟨by rfl,by intro w;go_simp⟩) ?_;refine wpAny_done (by kernel_rfl) ?_ _;change zc4 _ .normal { tmps:=#[Value.string T,undef,Value.pointer (some ⟨w.heap.size,0,none⟩),Value.pointer (some ⟨w.heap.size+1,0,none⟩),Value.pointer (some ⟨w.heap.size+1+1,0,none⟩),undef,undef,undef,Value.string T,Value.func (Fn.func 223) #[] #[Value.pointer (some ⟨w.heap.size+1+1+1,0,none⟩)],undef,undef,undef,undef,undef,undef,undef,undef,undef,undef,undef,undef,undef,Value.slice a n c,Value.slice va R vc,Value.slice a n c,Value.bool true,Value.bool false,Value.bool false,Value.slice a n c,Value.string (baL (zbc acc)),Value.string T,Value.bool false,Value.bool false,undef,undef],defers:=[{ target:=Target.collected D,args:=#[] }] } wc;simp only [zc4];have b4:=zaA HB4.out HWC.out;have b5:=zaA HB5.out HWC.out;have b6:=zaA HB6.out HWC.out;have c4:=b4.cell;have c5:=b5.cell;have c6:=b6.cell;have f5:=b5.frozen;have f6:=b6.frozen;clear b4 b5 b6;go_wp2;have hkb:wc.heap[D]?=some (.deferred (some [])):=(HWC.out.block D (Array.getElem?_eq_some_iff.1 HK.out).1).trans HK.out;obtain ⟨k1,k2,k3,k4,k5⟩:=zjp (zaA HB5.out HWC.out) (zaA HB6.out HWC.out) hkb (by have:=HSZ.out;omega) (HB7.out.trans (HWC.out.mono HB7.out.size)) (.slice a n c) .nilIface;refine ⟨by simp,.inl ⟨_,_,rfl,run_takeDeferred k1,?_⟩⟩;have ho:zan wc w.heap.size (.slice a n c) acc:=zaj HOWN.out (fun k hk=>HWC.out.block k (HOWN.out.lt k hk).2);have hk6:=k5 _ _ _ ho;refine ⟨.tuple #[.slice a n c,.nilIface],by simp [results,Tryz.results164,go_sem,k2,k3],k4,.inr ⟨acc,a,c,HPT.out,by rw [HN.out],by rw [← HN.out];exact hk6⟩⟩
 case stop =>
  rintro D c pre W hD hpre ⟨rfl,hbad,h5,h6,h7⟩ hK;obtain ⟨k2,k3,k4,k5⟩:=zjt h5 h6 hK (by have:=HSZ.out;omega) h7
  gi_wp2
  refine ⟨by simp,.inl ⟨_,_,rfl,run_takeDeferred hK,?_⟩⟩;refine ⟨.tuple #[.slice none 0 0,.iface 90 (.int .i64 4)],by simp [results,Tryz.results164,go_sem,k2,k3],k4,.inl ⟨?_,rfl⟩⟩;unfold zep;rw [znf hpre hbad]
end Go.Proofs.YtihnghnafpgdfadGreatDoor
