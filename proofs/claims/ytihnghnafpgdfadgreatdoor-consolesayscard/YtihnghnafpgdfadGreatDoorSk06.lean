/- What the proofs stand on, part 6: RowPure. -/
import Derived.Sort.LotA
import Derived.Sort.Statements
import Derived.Test.YtihnghnafpgdfadGreatDoorSk05
set_option linter.unusedVariables false
set_option linter.unusedSimpArgs false
namespace Go.Proofs.YtihnghnafpgdfadGreatDoor
open Go.Sort
variable {a a' b b' e i j m mid n p q r0 s s0 x x' y z:Nat}{k:ByteArray}{c:Ch}{S l rows:List Ch}
section
variable {α:Type} [Inhabited α]
def seg (d:Array α)(x y:Nat):List α:=(List.range (y - x)).map fun t=>d[x+t]!
theorem zbm (d:Array α)(x y:Nat):(seg d x y).length=y - x:=by simp [seg]
theorem zcV (d:Array α)(x y i:Nat)(h:i<y - x):(seg d x y)[i]?=some d[x+i]! := by
 simp [seg,h]
theorem zm1 (d:Array α)(x:Nat):seg d x x=[]:=by simp [seg]
theorem zma (d:Array α)(x:Nat):seg d x (x+1)=[d[x]!]:=by simp [seg]
theorem ziU (d:Array α)(h:x<y):seg d x y=d[x]! :: seg d (x+1) y:=by
 refine List.ext_getElem? fun i=>?_
 rcases i with _ | i
 · rw [zcV d x y 0 (by omega)];rfl
 · rw [List.getElem?_cons_succ]
   by_cases hi:i+1<y - x
   · rw [zcV d x y _ hi,zcV d (x+1) y i (by omega),show x+1+i=x+(i+1) by omega]
   · rw [List.getElem?_eq_none (by rw [zbm];omega),List.getElem?_eq_none (by rw [zbm];omega)]
theorem zbH (d:Array α)(h1:x≤y)(h2:y≤z):seg d x y ++ seg d y z=seg d x z:=by
 refine List.ext_getElem? fun i=>?_
 by_cases hi:i<y - x
 · rw [List.getElem?_append_left (by rw [zbm];exact hi),zcV _ _ _ _ hi,zcV _ _ _ _ (by omega)]
 · rw [List.getElem?_append_right (by rw [zbm];omega),zbm]
   by_cases hi2:i<z - x
   · rw [zcV _ _ _ _ (by omega),zcV _ _ _ _ hi2,show y+(i - (y - x))=x+i by omega]
   · rw [List.getElem?_eq_none (by rw [zbm];omega),List.getElem?_eq_none (by rw [zbm];omega)]
theorem zhb {d d':Array α}(h:∀ t,x≤t→t<y→d'[x'+(t - x)]! = d[t]!):seg d' x' (x'+(y - x))=seg d x y:=by
 refine List.ext_getElem? fun i=>?_
 by_cases hi:i<y - x
 · rw [zcV _ _ _ _ (by omega),zcV _ _ _ _ hi]
   have:=h (x+i) (by omega) (by omega);rw [show x+i - x=i by omega] at this
   rw [this]
 · rw [List.getElem?_eq_none (by rw [zbm];omega),List.getElem?_eq_none (by rw [zbm];omega)]
theorem zbL {d d':Array α}(h:∀ t,x≤t→t<y→d'[t]! = d[t]!):seg d' x y=seg d x y:=by
 refine List.ext_getElem? fun i=>?_
 by_cases hi:i<y - x
 · rw [zcV _ _ _ _ hi,zcV _ _ _ _ hi,h (x+i) (by omega) (by omega)]
 · rw [List.getElem?_eq_none (by rw [zbm];omega),List.getElem?_eq_none (by rw [zbm];omega)]
theorem zq6 (d:Array α):seg d 0 d.size=d.toList:=by
 refine List.ext_getElem? fun i=>?_
 by_cases hi:i<d.size
 · rw [zcV _ _ _ _ (by omega),Nat.zero_add,getElem!_pos d i hi]
   simp [hi]
 · rw [List.getElem?_eq_none (by rw [zbm];omega),List.getElem?_eq_none (by simp;omega)]
theorem zfT {d:Array α}{v:α}(h:v ∈ seg d x y):∃ t,x≤t∧t<y∧d[t]! = v:=by
 simp only [seg,List.mem_map,List.mem_range] at h;obtain ⟨t,ht,rfl⟩:=h;exact ⟨x+t,by omega,by omega,rfl⟩
structure zcI (d d':Array α)(a b n:Nat):Prop where
 size:d'.size=d.size
 fst:∀ t,t<n→d'[a+t]! = d[b+t]!
 snd:∀ t,t<n→d'[b+t]! = d[a+t]!
 out:∀ t,¬ (a≤t∧t<a+n)→¬ (b≤t∧t<b+n)→d'[t]! = d[t]!
theorem zcI.zero (d:Array α)(a b:Nat):zcI d d a b 0:=⟨rfl,fun t h=>absurd h (Nat.not_lt_zero _),fun t h=>absurd h (Nat.not_lt_zero _),fun _ _ _=>rfl⟩
theorem zcI.next {d d':Array α}(h:zcI d d' a b n)(hab:a+n<b)(hb:b+n<d.size):zcI d (swp d' (a+n) (b+n)) a b (n+1):=by
 have hg:=swp_get d' (i:=a+n) (j:=b+n) (by rw [h.size];omega) (by rw [h.size];omega);refine ⟨by rw [size_swp];exact h.size,fun t ht=>?_,fun t ht=>?_,fun t h1 h2=>?_⟩
 · rw [hg]
   by_cases e:t=n
   · subst e
     rw [if_neg (by omega),if_pos rfl];exact h.out _ (by omega) (by omega)
   · rw [if_neg (by omega),if_neg (by omega)]
     exact h.fst t (by omega)
 · rw [hg]
   by_cases e:t=n
   · subst e
     rw [if_pos rfl];exact h.out _ (by omega) (by omega)
   · rw [if_neg (by omega),if_neg (by omega)]
     exact h.snd t (by omega)
 · rw [hg,if_neg (by omega),if_neg (by omega)]
   exact h.out t (by omega) (by omega)
structure zar (d d':Array α)(a m b:Nat):Prop where
 size:d'.size=d.size
 fst:∀ t,t<b - m→d'[a+t]! = d[m+t]!
 snd:∀ t,t<m - a→d'[a+(b - m)+t]! = d[a+t]!
 out:∀ t,t<a∨b≤t→d'[t]! = d[t]!
theorem zar.same {d d':Array α}(h:zcI d d' a m (m - a))(he:b - m=m - a)(h1:a≤m)(h2:m≤b):zar d d' a m b:=by
 refine ⟨h.size,fun t ht=>h.fst t (by omega),fun t ht=>?_,fun t ht=>h.out t (by omega) (by omega)⟩;rw [show a+(b - m)+t=m+t by omega];exact h.snd t ht
theorem zar.left {d d' e:Array α} (hi:i≤m) (hij:j<i) (h:zcI d d' (m - i) m j) (r:zar d' e (m - i+j) m (m+j)):zar d e (m - i) m (m+j):=by
 refine ⟨by rw [r.size,h.size],fun t ht=>?_,fun t ht=>?_,fun t ht=>?_⟩
 · rw [r.out (m - i+t) (by omega),h.fst t (by omega)]
 · by_cases hc:t<j
   · have:=r.snd (i - j - j+t)
     by_cases h2:i - j<j
     · -- the piece that is rotated last: u2 is shorter
       have e1:=r.fst t (by omega);rw [show m - i+(m+j - m)+t=m - i+j+t by omega,e1,h.snd t hc]
     · have e1:=r.fst t (by omega)
       rw [show m - i+(m+j - m)+t=m - i+j+t by omega,e1,h.snd t hc]
   · have e1:=r.snd (t - j) (by omega)
     rw [show m - i+(m+j - m)+t=m - i+j+(m+j - m)+(t - j) by omega,e1,h.out (m - i+j+(t - j)) (by omega) (by omega),show m - i+j+(t - j)=m - i+t by omega]
 · rw [r.out t (by omega),h.out t (by omega) (by omega)]
theorem zar.right {d d' e:Array α}(hi:i≤m)(hij:i<j)(h:zcI d d' (m - i) (m+j - i) i)(r:zar d' e (m - i) m (m+(j - i))):zar d e (m - i) m (m+j):=by
 refine ⟨by rw [r.size,h.size],fun t ht=>?_,fun t ht=>?_,fun t ht=>?_⟩
 · by_cases hc:t<j - i
   · have e1:=r.fst t (by omega)
     rw [e1];exact h.out _ (by omega) (by omega)
   · have e1:=r.snd (t - (j - i)) (by omega)
     rw [show m - i+(m+(j - i) - m)+(t - (j - i))=m - i+t by omega] at e1;rw [e1,h.fst _ (by omega),show m+j - i+(t - (j - i))=m+t by omega]
 · rw [r.out _ (by omega),show m - i+(m+j - m)+t=m+j - i+t by omega,h.snd t (by omega)]
 · rw [r.out t (by omega),h.out t (by omega) (by omega)]
theorem zar.segs {d d':Array α}(h:zar d d' a m b)(h1:a≤m)(h2:m≤b):seg d' a (a+(b - m))=seg d m b∧seg d' (a+(b - m)) b=seg d a m:=by
 refine ⟨zhb fun t h3 h4=>?_,?_⟩
 · rw [h.fst (t - m) (by omega),show m+(t - m)=t by omega]
 · have:=zhb (d:=d) (d':=d') (x:=a) (y:=m) (x':=a+(b - m)) fun t h3 h4=>?_
   · rw [show a+(b - m)+(m - a)=b by omega] at this
     exact this
   · rw [h.snd (t - a) (by omega),show a+(t - a)=t by omega]
end
section
variable {α:Type} (lt:α→α→Bool)
def mg (l r:List α):List α:=l.merge r (fun x y=>!lt y x)
theorem zbO (r:List α):mg lt [] r=r:=by simp [mg]
theorem zbJ (l:List α):mg lt l []=l:=by simp [mg]
theorem zhT (x y:α)(l r:List α):mg lt (x :: l) (y :: r)=if lt y x=true then y :: mg lt (x :: l) r else x :: mg lt l (y :: r):=by
 unfold mg;rw [List.cons_merge_cons];cases lt y x <;> simp
theorem zdH:∀ (L1 R1 L2 R2:List α),(∀ x ∈ L2,∀ y ∈ R1,lt y x=true)→(∀ x ∈ L1,∀ y ∈ R2,lt y x=false)→mg lt (L1 ++ L2) (R1 ++ R2)=mg lt L1 R1 ++ mg lt L2 R2
 | [],[],L2,R2,_,_=>by simp [zbO]
 | [],y :: R1,L2,R2,h1,h2=>by
   have ih:=zdH [] R1 L2 R2 (fun x hx y' hy=>h1 x hx y' (List.mem_cons_of_mem _ hy)) h2;rw [zbO] at ih ⊢;rw [List.nil_append] at ih ⊢;cases L2 with
   | nil=>rw [zbO,zbO]
   | cons x L2 =>
     rw [List.cons_append,zhT,if_pos (h1 x (by simp) y (by simp)),ih]
     rfl
 | x :: L1,[],L2,R2,h1,h2=>by
   have ih:=zdH L1 [] L2 R2 h1 (fun x' hx y hy=>h2 x' (List.mem_cons_of_mem _ hx) y hy);rw [zbJ] at ih ⊢;rw [List.nil_append] at ih ⊢;cases R2 with
   | nil=>rw [zbJ,zbJ]
   | cons y R2 =>
     rw [List.cons_append,zhT,if_neg (by rw [h2 x (by simp) y (by simp)];simp),ih]
     rfl
 | x :: L1,y :: R1,L2,R2,h1,h2=>by
   simp only [List.cons_append];rw [zhT,zhT]
   by_cases h:lt y x=true
   · rw [if_pos h,if_pos h]
     have ih:=zdH (x :: L1) R1 L2 R2 (fun x' hx y' hy=>h1 x' hx y' (List.mem_cons_of_mem _ hy)) h2;rw [List.cons_append] at ih;rw [ih,List.cons_append]
   · rw [if_neg h,if_neg h]
     have ih:=zdH L1 (y :: R1) L2 R2 h1 (fun x' hx y hy=>h2 x' (List.mem_cons_of_mem _ hx) y hy);rw [List.cons_append] at ih;rw [ih,List.cons_append]
termination_by L1 R1=>L1.length+R1.length
def zfK (l:List α):Prop:=l.Pairwise fun x y=>lt y x=false
end
section
variable {α:Type} [Inhabited α] (lt:α→α→Bool)
def zaJ (d:Array α)(a b:Nat):Prop:=∀ i j,a≤i→i≤j→j<b→lt d[j]! d[i]! = false
theorem zaJ.sub {d:Array α}(h:zaJ lt d a b)(h1:a≤a')(h2:b'≤b):zaJ lt d a' b':=fun i j h3 h4 h5=>h i j (by omega) h4 (by omega)
theorem zaJ.shift {d d':Array α}(h:zaJ lt d a b)(he:∀ t,a≤t→t<b→d'[x+(t - a)]! = d[t]!):zaJ lt d' x (x+(b - a)):=fun i j h3 h4 h5=>by
 have e1:=he (a+(i - x)) (by omega) (by omega);have e2:=he (a+(j - x)) (by omega) (by omega);rw [show x+(a+(i - x) - a)=i by omega] at e1;rw [show x+(a+(j - x) - a)=j by omega] at e2;rw [e1,e2];exact h _ _ (by omega) (by omega) (by omega)
theorem zaJ.list {d:Array α}(h:zaJ lt d a b):zfK lt (seg d a b):=by
 unfold zfK seg;rw [List.pairwise_map];refine List.Pairwise.imp_of_mem (R:=fun i j=>i<j) (fun {i j} hi hj hij=>?_) List.pairwise_lt_range;simp only [List.mem_range] at hi hj;exact h _ _ (by omega) (by omega) (by omega)
theorem zaJ.of_list (hO:SWO lt){d:Array α}(h:zfK lt (seg d a b)):zaJ lt d a b:=fun i j h1 h2 h3=>by
 rcases Nat.lt_or_ge i j with hij | hij
 · unfold zfK at h
   rw [List.pairwise_iff_getElem] at h;have h4:=h (i - a) (j - a) (by rw [zbm];omega) (by rw [zbm];omega) (by omega);have e1:=zcV d a b (i - a) (by omega);have e2:=zcV d a b (j - a) (by omega);rw [List.getElem?_eq_getElem (by rw [zbm];omega)] at e1 e2;simp only [Option.some.injEq] at e1 e2;rw [e1,e2,show a+(i - a)=i by omega,show a+(j - a)=j by omega] at h4;exact h4
 · have:i=j:=by omega
   subst this
   exact hO.irrefl _
structure zam (d d':Array α)(a m b:Nat):Prop where
 size:d'.size=d.size
 out:∀ t,t<a∨b≤t→d'[t]! = d[t]!
 mid:seg d' a b=mg lt (seg d a m) (seg d m b)
theorem zam.one_left {d d':Array α}(hi:a+1≤i)(hb:i≤b)(hlo:∀ t,a+1≤t→t<i→lt d[t]! d[a]! = true)(hhi:∀ t,i≤t→t<b→lt d[t]! d[a]! = false)
 (hs:d'.size=d.size) (h1:∀ t,a≤t→t<i - 1→d'[t]! = d[t+1]!) (h2:d'[i - 1]! = d[a]!) (h3:∀ t,t<a∨i≤t→d'[t]! = d[t]!):zam lt d d' a (a+1) b:=by
 refine ⟨hs,fun t ht=>h3 t (by omega),?_⟩
 have e1:seg d' a b=seg d' a (i - 1) ++ (seg d' (i - 1) i ++ seg d' i b):=by
  rw [zbH d' (by omega) hb,zbH d' (by omega) (by omega)]
 have e2:seg d' a (i - 1)=seg d (a+1) i:=by
  have:=zhb (d:=d) (d':=d') (x:=a+1) (y:=i) (x':=a) fun t h4 h5=>by
   rw [h1 _ (by omega) (by omega),show a+(t - (a+1))+1=t by omega]
  rw [show a+(i - (a+1))=i - 1 by omega] at this
  exact this
 have e3:seg d' (i - 1) i=[d[a]!]:=by
  have:=zma d' (i - 1);rw [show i - 1+1=i by omega] at this
  rw [this,h2]
 have e4:seg d' i b=seg d i b:=zbL fun t h4 h5=>h3 t (by omega)
 rw [e1,e2,e3,e4,zma,← zbH d hi hb]
 have s1:=zdH lt [] (seg d (a+1) i) [d[a]!] (seg d i b) (fun x hx y hy=>by
  obtain ⟨t,h4,h5,rfl⟩:=zfT hy;rw [List.mem_singleton.1 hx];exact hlo t h4 h5) (fun x hx=>absurd hx (by simp))
 rw [List.nil_append,zbO] at s1;rw [s1]
 have s2:=zdH lt [d[a]!] [] [] (seg d i b) (fun x hx=>absurd hx (by simp)) (fun x hx y hy=>by
  obtain ⟨t,h4,h5,rfl⟩:=zfT hy;rw [List.mem_singleton.1 hx];exact hhi t h4 h5)
 rw [List.append_nil,List.nil_append,zbO,zbJ] at s2;rw [s2]
theorem zam.one_right {d d':Array α}(hi:a≤i)(hm:i≤m)(hlo:∀ t,a≤t→t<i→lt d[m]! d[t]! = false)(hhi:∀ t,i≤t→t<m→lt d[m]! d[t]! = true)
 (hs:d'.size=d.size) (h1:∀ t,i≤t→t<m→d'[t+1]! = d[t]!) (h2:d'[i]! = d[m]!) (h3:∀ t,t<i∨m+1≤t→d'[t]! = d[t]!):zam lt d d' a m (m+1):=by
 refine ⟨hs,fun t ht=>h3 t (by omega),?_⟩
 have e1:seg d' a (m+1)=seg d' a i ++ (seg d' i (i+1) ++ seg d' (i+1) (m+1)):=by
  rw [zbH d' (by omega) (by omega),zbH d' hi (by omega)]
 have e2:seg d' a i=seg d a i:=zbL fun t h4 h5=>h3 t (by omega)
 have e4:seg d' (i+1) (m+1)=seg d i m:=by
  have:=zhb (d:=d) (d':=d') (x:=i) (y:=m) (x':=i+1) fun t h4 h5=>by
   rw [show i+1+(t - i)=t+1 by omega,h1 t h4 h5]
  rw [show i+1+(m - i)=m+1 by omega] at this
  exact this
 rw [e1,e2,zma,h2,e4,zma,← zbH d hi hm]
 have s1:=zdH lt (seg d a i) [] (seg d i m) [d[m]!] (fun x hx y hy=>absurd hy (by simp)) (fun x hx y hy=>by
  obtain ⟨t,h4,h5,rfl⟩:=zfT hx;rw [List.mem_singleton.1 hy];exact hlo t h4 h5)
 rw [List.nil_append,zbJ] at s1;rw [s1]
 have s2:=zdH lt [] [d[m]!] (seg d i m) [] (fun x hx y hy=>by
  obtain ⟨t,h4,h5,rfl⟩:=zfT hx;rw [List.mem_singleton.1 hy];exact hhi t h4 h5) (fun x hx=>absurd hx (by simp))
 rw [List.append_nil,List.nil_append,zbO,zbJ] at s2;rw [s2]
theorem zam.skip_left {d:Array α}:zam lt d d a a b:=⟨rfl,fun _ _=>rfl,by rw [zm1,zbO]⟩
theorem zam.skip_right {d:Array α}:zam lt d d a b b:=⟨rfl,fun _ _=>rfl,by rw [zm1,zbJ]⟩
theorem zar.skip_left {d:Array α}:zar d d a a b:=⟨rfl,fun _ _=>rfl,fun t h=>by omega,fun _ _=>rfl⟩
theorem zar.skip_right {d:Array α}:zar d d a b b:=⟨rfl,fun t h=>by omega,fun t h=>by rw [Nat.sub_self,Nat.add_zero],fun _ _=>rfl⟩
theorem zam.join {d d1 d2 d3:Array α}(h1:a≤s)(h2:s≤m)(h3:m≤e)(h4:e≤b)(hmid:mid=s+(e - m))
 (hlo:∀ x y,a≤x→x<s→e≤y→y<b→lt d[y]! d[x]! = false) (hhi:∀ x y,s≤x→x<m→m≤y→y<e→lt d[y]! d[x]! = true)
 (hr:zar d d1 s m e) (hl:zam lt d1 d2 a s mid) (hh:zam lt d2 d3 mid e b):zam lt d d3 a m b:=by
 refine ⟨by rw [hh.size,hl.size,hr.size],fun t ht=>by rw [hh.out t (by omega),hl.out t (by omega),hr.out t (by omega)],?_⟩;obtain ⟨r1,r2⟩:=hr.segs h2 h3;rw [← hmid] at r1 r2;have e1:seg d3 a mid=seg d2 a mid:=zbL fun t h5 h6=>hh.out t (by omega)
 have e2:seg d2 mid e=seg d1 mid e:=zbL fun t h5 h6=>hl.out t (by omega)
 have e3:seg d2 e b=seg d1 e b:=zbL fun t h5 h6=>hl.out t (by omega)
 have e4:seg d1 a s=seg d a s:=zbL fun t h5 h6=>hr.out t (by omega)
 have e5:seg d1 e b=seg d e b:=zbL fun t h5 h6=>hr.out t (by omega)
 rw [← zbH d3 (show a≤mid by omega) (show mid≤b by omega),e1,hl.mid,hh.mid,e2,e3,e4,e5,r1,r2,← zbH d h1 h2,← zbH d h3 h4];refine (zdH lt _ _ _ _ (fun x hx y hy=>?_) (fun x hx y hy=>?_)).symm
 · obtain ⟨i,h5,h6,rfl⟩:=zfT hx
   obtain ⟨j,h7,h8,rfl⟩:=zfT hy;exact hhi i j h5 h6 h7 h8
 · obtain ⟨i,h5,h6,rfl⟩:=zfT hx
   obtain ⟨j,h7,h8,rfl⟩:=zfT hy;exact hlo i j h5 h6 h7 h8
end
section
variable {α:Type} (lt:α→α→Bool)
def eqv (z x:α):Bool:=!lt x z && !lt z x
structure Stb (l l':List α):Prop where
 rises:zfK lt l'
 same:∀ z,l'.filter (eqv lt z)=l.filter (eqv lt z)
theorem zfK.mg (hO:SWO lt):∀ {l r:List α},zfK lt l→zfK lt r→zfK lt (mg lt l r)
 | [],r,_,hr=>by rw [zbO];exact hr
 | x :: l,[],hl,_=>by rw [zbJ];exact hl
 | x :: l,y :: r,hl,hr=>by
   have hl':=List.pairwise_cons.1 hl;have hr':=List.pairwise_cons.1 hr
   have hmem:∀ {l r:List α} {z:α},z ∈ Go.Proofs.YtihnghnafpgdfadGreatDoor.mg lt l r→z ∈ l∨z ∈ r:=fun {l r z} h=>by
    unfold Go.Proofs.YtihnghnafpgdfadGreatDoor.mg at h;exact List.mem_merge.1 h
   rw [zhT]
   by_cases h:lt y x=true
   · rw [if_pos h]
     refine List.pairwise_cons.2 ⟨fun z hz=>?_,zfK.mg hO hl hr'.2⟩;rcases hmem hz with h1 | h1
     · have h2:lt z x=false:=by
        rcases List.mem_cons.1 h1 with rfl | h3
        · exact hO.irrefl _
        · exact hl'.1 z h3
       cases h3:lt z y
       · rfl
       · have:=hO.trans _ _ _ h3 h
         rw [h2] at this
         cases this
     · exact hr'.1 z h1
   · rw [if_neg h]
     refine List.pairwise_cons.2 ⟨fun z hz=>?_,zfK.mg hO hl'.2 hr⟩;rcases hmem hz with h1 | h1
     · exact hl'.1 z h1
     · have h2:lt y x=false:=by simpa using h
       rcases List.mem_cons.1 h1 with rfl | h3
       · exact h2
       · exact hO.ntrans _ _ _ (hr'.1 z h3) h2
termination_by l r=>l.length+r.length
theorem zpO (hO:SWO lt){z y x:α}(hy:eqv lt z y=true)(hx:lt y x=true):eqv lt z x=false:=by
 simp only [eqv,Bool.and_eq_true,Bool.not_eq_true'] at hy;cases h:eqv lt z x
 · rfl
 · simp only [eqv,Bool.and_eq_true,Bool.not_eq_true'] at h
   have:=hO.ntrans _ _ _ hy.1 h.2;rw [hx] at this
   cases this
theorem zjA (hO:SWO lt) (z:α):∀ {l r:List α},zfK lt l→(mg lt l r).filter (eqv lt z)=l.filter (eqv lt z) ++ r.filter (eqv lt z)
 | [],r,_=>by rw [zbO];rfl
 | x :: l,[],_=>by rw [zbJ];simp
 | x :: l, y :: r,hl=>by
   have hl':=List.pairwise_cons.1 hl;rw [zhT]
   by_cases h:lt y x=true
   · rw [if_pos h]
     have ih:=zjA hO z (l:=x :: l) (r:=r) hl;rw [List.filter_cons,ih]
     by_cases hy:eqv lt z y=true
     · have hn : (x :: l).filter (eqv lt z)=[]:=by
        rw [List.filter_eq_nil_iff];intro v hv
        have h1:lt y v=true:=by
         rcases List.mem_cons.1 hv with rfl | h3
         · exact h
         · cases h4:lt y v
           · have:=hO.ntrans _ _ _ h4 (hl'.1 v h3)
             rw [h] at this
             cases this
           · rfl
        rw [zpO lt hO hy h1];simp
       rw [if_pos hy,hn,List.nil_append,List.nil_append,List.filter_cons,if_pos hy]
     · rw [if_neg hy,List.filter_cons (x:=y),if_neg hy]
   · rw [if_neg h,List.filter_cons,zjA hO z hl'.2,List.filter_cons (x:=x) (xs:=l)]
     split <;> rfl
termination_by l r=>l.length+r.length
theorem Stb.mg (hO:SWO lt){l l' r r':List α}(h1:Stb lt l l')(h2:Stb lt r r'):Stb lt (l ++ r) (mg lt l' r') :=
 ⟨zfK.mg lt hO h1.rises h2.rises,fun z=>by rw [zjA lt hO z h1.rises,h1.same z,h2.same z,List.filter_append]⟩
end
section
variable {α:Type} [Inhabited α] (lt:α→α→Bool)
theorem zaJ.below (hO:SWO lt){d:Array α}(h:zaJ lt d a b){x:α}(hi:i<b)(hx:lt d[i]! x=true):∀ t,a≤t→t≤i→lt d[t]! x=true:=fun t h1 h2=>by
 cases h3:lt d[t]! x
 · have:=hO.ntrans _ _ _ (h t i h1 h2 hi) h3
   rw [hx] at this
   cases this
 · rfl
theorem zaJ.above (hO:SWO lt){d:Array α}(h:zaJ lt d a b){x:α}(hi:a≤i)(hx:lt d[i]! x=false):∀ t,i≤t→t<b→lt d[t]! x=false:=fun t h1 h2 =>
 hO.ntrans _ _ _ (h i t hi h1 h2) hx
theorem zaJ.below' (hO:SWO lt){d:Array α}(h:zaJ lt d a b){x:α}(hi:i<b)(hx:lt x d[i]! = false):∀ t,a≤t→t≤i→lt x d[t]! = false:=fun t h1 h2 =>
 hO.ntrans _ _ _ hx (h t i h1 h2 hi)
theorem zaJ.above' (hO:SWO lt){d:Array α}(h:zaJ lt d a b){x:α}(hi:a≤i)(hx:lt x d[i]! = true):∀ t,i≤t→t<b→lt x d[t]! = true:=fun t h1 h2=>by
 cases h3:lt x d[t]!
 · have:=hO.ntrans _ _ _ h3 (h i t hi h1 h2)
   rw [hx] at this
   cases this
 · rfl
theorem zam.found (hO:SWO lt){d d1 d2 d3:Array α}(hL:zaJ lt d a m)(hR:zaJ lt d m b)(ham:a≤m)(hmb:m≤b)(hmid:mid=(a+b) / 2)(hn:n=mid+m)
 (h0:(m > mid∧s0=n - b∧r0=mid)∨(m≤mid∧s0=a∧r0=m)) (hs0:s0≤s) (hr0:s≤r0) (he:e=n - s)
 (hlo:s=s0∨lt d[n - 1 - (s - 1)]! d[s - 1]! = false) (hhi:s=r0∨lt d[n - 1 - s]! d[s]! = true)
 (hr:zar d d1 s m e) (hl:zam lt d1 d2 a s mid) (hh:zam lt d2 d3 mid e b):zam lt d d3 a m b:=by
 refine zam.join lt (by omega) (by omega) (by omega) (by omega) (by omega) (fun x y h1 h2 h3 h4=>?_) (fun x y h1 h2 h3 h4=>?_) hr hl hh
 · rcases hlo with h | h
   · omega
   · rw [show n - 1 - (s - 1)=e by omega] at h
     have k1:=hR.above lt hO (i:=e) (x:=d[s - 1]!) (by omega) h y h3 h4;exact hL.below' lt hO (i:=s - 1) (x:=d[y]!) (by omega) k1 x h1 (by omega)
 · rcases hhi with h | h
   · omega
   · rw [show n - 1 - s=e - 1 by omega] at h
     have k1:=hR.below lt hO (i:=e - 1) (x:=d[s]!) (by omega) h y h3 (by omega);exact hL.above' lt hO (i:=s) (x:=d[y]!) (by omega) k1 x h1 h2
theorem ztU {d:Array α}(h1:a≤j)(h2:j+1<b)(h3:b≤d.size):seg (swp d (j+1) j) a b=seg d a j ++ (d[j+1]! :: d[j]! :: seg d (j+2) b)∧seg d a b=seg d a j ++ (d[j]! :: d[j+1]! :: seg d (j+2) b):=by
 have hg:=swp_get d (i:=j+1) (j:=j) (by omega) (by omega);refine ⟨?_,?_⟩
 · rw [← zbH _ h1 (show j≤b by omega),ziU _ (show j<b by omega),ziU _ (show j+1<b by omega)]
   rw [hg,if_pos rfl,hg,if_neg (by omega),if_pos rfl];rw [zbL (d:=d) (d':=swp d (j+1) j) (x:=a) (y:=j) (fun t h4 h5=>by rw [hg,if_neg (by omega),if_neg (by omega)]),zbL (d:=d) (d':=swp d (j+1) j) (x:=j+1+1) (y:=b) (fun t h4 h5=>by rw [hg,if_neg (by omega),if_neg (by omega)])]
 · rw [← zbH _ h1 (show j≤b by omega),ziU _ (show j<b by omega),ziU _ (show j+1<b by omega)]
theorem zpW (hO:SWO lt){d:Array α}(h1:a≤j)(h2:j+1<b)(h3:b≤d.size)(h:lt d[j+1]! d[j]! = true)(z:α):(seg (swp d (j+1) j) a b).filter (eqv lt z)=(seg d a b).filter (eqv lt z):=by
 obtain ⟨e1,e2⟩:=ztU (d:=d) h1 h2 h3;rw [e1,e2,List.filter_append,List.filter_append]
 congr 1
 rw [List.filter_cons,List.filter_cons (x:=d[j]!),List.filter_cons (x:=d[j]!),List.filter_cons (x:=d[j+1]!)];cases h5:eqv lt z d[j+1]!
 · simp
 · rw [zpO lt hO h5 h]
   simp
theorem zfX (hO:SWO lt){a b:Nat}(z:α):∀ (j:Nat) (d:Array α),j<b→b≤d.size→(seg (insInner lt a j d) a b).filter (eqv lt z)=(seg d a b).filter (eqv lt z)∧(insInner lt a j d).size=d.size
 | 0,d,_,_=>⟨rfl,rfl⟩
 | j + 1,d,h1,h2=>by
   rw [insInner]
   split
   · rename_i hc
     simp only [Bool.and_eq_true,decide_eq_true_eq] at hc;obtain ⟨e1,e2⟩:=zfX hO (a:=a) (b:=b) z j (swp d (j+1) j) (by omega) (by rw [size_swp];exact h2);exact ⟨by rw [e1,zpW lt hO (by omega) h1 h2 hc.2],by rw [e2,size_swp]⟩
   · exact ⟨rfl,rfl⟩
theorem zfJ (hO:SWO lt){a b:Nat}(z:α):∀ (n i:Nat) (d:Array α),b - i≤n→b≤d.size→(seg (insOuter lt a b i d) a b).filter (eqv lt z)=(seg d a b).filter (eqv lt z)
 | 0,i,d,h1,h2=>by rw [insOuter,if_neg (by omega)]
 | n + 1,i,d,h1,h2=>by
   rw [insOuter]
   split
   · rename_i hc
     obtain ⟨e1,e2⟩:=zfX lt hO (a:=a) z i d hc h2;rw [zfJ hO z n (i+1) _ (by omega) (by rw [e2];exact h2),e1]
   · rfl
theorem zhJ (hO:SWO lt)(d:Array α)(hab:a≤b)(hb:b≤d.size):Stb lt (seg d a b) (seg (insertionSort lt d a b) a b)∧(insertionSort lt d a b).size=d.size∧∀ t,t<a∨b≤t→(insertionSort lt d a b)[t]! = d[t]! := by
 obtain ⟨h1,h2⟩:=insertionSort_holds (lt:=lt) hO d a b hab hb;refine ⟨⟨?_,fun z=>zfJ lt hO z _ _ d (Nat.le_refl _) hb⟩,h1.1,h1.2.1⟩;refine zaJ.list lt fun i j h3 h4 h5=>?_
 rcases Nat.lt_or_ge i j with h6 | h6
 · exact h2 i j h3 h6 h5
 · have:i=j:=by omega
   subst this
   exact hO.irrefl _
structure zb6 (d d':Array α)(s:Nat):Prop where
 size:d'.size=d.size
 blocks:∀ q,q * s<d.size→Stb lt (seg d (q * s) (min (q * s+s) d.size)) (seg d' (q * s) (min (q * s+s) d.size))
structure zch (d d':Array α)(s q:Nat):Prop where
 size:d'.size=d.size
 blocks:∀ p,p<q→p * s<d.size→Stb lt (seg d (p * s) (min (p * s+s) d.size)) (seg d' (p * s) (min (p * s+s) d.size))
 rest:∀ t,q * s≤t→d'[t]! = d[t]!
theorem zch.zero (d:Array α)(s:Nat):zch lt d d s 0:=⟨rfl,fun p h=>absurd h (Nat.not_lt_zero _),fun _ _=>rfl⟩
theorem zfZ (h:p<q):p * s+s≤q * s:=by
 have:=Nat.mul_le_mul_right s (show p+1≤q from h)
 rwa [Nat.add_mul,Nat.one_mul] at this
theorem zch.next {d d1 d2:Array α}(h:zch lt d d1 s q)(hs:d2.size=d1.size)(hout:∀ t,t<q * s∨min (q * s+s) d.size≤t→d2[t]! = d1[t]!)
 (hmid:q * s<d.size→Stb lt (seg d1 (q * s) (min (q * s+s) d.size)) (seg d2 (q * s) (min (q * s+s) d.size))):zch lt d d2 s (q+1):=by
 refine ⟨by rw [hs,h.size],fun p hp hps=>?_,fun t ht=>?_⟩
 · rcases Nat.lt_or_ge p q with h1 | h1
   · have h2:=zfZ (s:=s) h1
     rw [zbL (d:=d1) (d':=d2) (fun t h3 h4=>hout t (by omega))];exact h.blocks p h1 hps
   · have:p=q:=by omega
     subst this
     have e:=zbL (d:=d) (d':=d1) (x:=p * s) (y:=min (p * s+s) d.size) (fun t h3 h4=>h.rest t h3);rw [← e];exact hmid hps
 · rw [Nat.add_mul,Nat.one_mul] at ht
   rw [hout t (by omega),h.rest t (by omega)]
theorem zch.done {d d':Array α}(h:zch lt d d' s q)(hq:d.size≤q * s):zb6 lt d d' s :=
 ⟨h.size,fun p hp=>h.blocks p (by
  rcases Nat.lt_or_ge p q with h1 | h1
  · exact h1
  · have:=Nat.mul_le_mul_right s h1
    omega) hp⟩
theorem zb6.whole {d d':Array α}(h:zb6 lt d d' s)(hs:d.size≤s):Stb lt d.toList d'.toList∧d'.size=d.size:=by
 refine ⟨?_,h.size⟩
 by_cases h0:0<d.size
 · have:=h.blocks 0 (by omega)
   rw [Nat.zero_mul,Nat.zero_add,Nat.min_eq_right hs,zq6,← h.size,zq6] at this
   exact this
 · have e1:d=#[]:=Array.eq_empty_of_size_eq_zero (by omega)
   have e2:d'=#[]:=Array.eq_empty_of_size_eq_zero (by rw [h.size];omega);rw [e1,e2];exact ⟨List.Pairwise.nil,fun z=>rfl⟩
structure zcf (d d1 d2:Array α)(s q:Nat):Prop where
 size:d2.size=d.size
 blocks:∀ p,p<q→p * (2 * s)<d.size→Stb lt (seg d (p * (2 * s)) (min (p * (2 * s)+2 * s) d.size)) (seg d2 (p * (2 * s)) (min (p * (2 * s)+2 * s) d.size))
 rest:∀ t,q * (2 * s)≤t→d2[t]! = d1[t]!
theorem zcf.zero {d d1:Array α}(h:zb6 lt d d1 s):zcf lt d d1 d1 s 0:=⟨h.size,fun p h=>absurd h (Nat.not_lt_zero _),fun _ _=>rfl⟩
theorem zb6.at {d d1:Array α}(h:zb6 lt d d1 s)(q:Nat)(hq:q * (2 * s)<d.size):Stb lt (seg d (q * (2 * s)) (min (q * (2 * s)+s) d.size)) (seg d1 (q * (2 * s)) (min (q * (2 * s)+s) d.size)):=by
 have:=h.blocks (2 * q) (by rw [show 2 * q * s=q * (2 * s) by rw [Nat.mul_comm 2 q,Nat.mul_assoc]];exact hq);rw [show 2 * q * s=q * (2 * s) by rw [Nat.mul_comm 2 q,Nat.mul_assoc]] at this
 exact this
theorem zb6.at2 {d d1:Array α}(h:zb6 lt d d1 s)(q:Nat)(hq:q * (2 * s)+s<d.size):Stb lt (seg d (q * (2 * s)+s) (min (q * (2 * s)+2 * s) d.size)) (seg d1 (q * (2 * s)+s) (min (q * (2 * s)+2 * s) d.size)):=by
 have e:(2 * q+1) * s=q * (2 * s)+s:=by rw [Nat.add_mul,Nat.one_mul,Nat.mul_comm 2 q,Nat.mul_assoc]
 have:=h.blocks (2 * q+1) (by rw [e];exact hq);rw [e,show q * (2 * s)+s+s=q * (2 * s)+2 * s by omega] at this
 exact this
theorem zcf.rises {d d1 d2:Array α}(hO:SWO lt)(h:zcf lt d d1 d2 s q)(hb:zb6 lt d d1 s)(hq:q * (2 * s)+s<d.size):
 zaJ lt d2 (q * (2 * s)) (q * (2 * s)+s)∧zaJ lt d2 (q * (2 * s)+s) (min (q * (2 * s)+2 * s) d.size):=by
 have h1:=(hb.at lt q (by omega)).rises;have h2:=(hb.at2 lt q hq).rises;rw [Nat.min_eq_left (by omega)] at h1;rw [← zbL (d:=d1) (d':=d2) (fun t h3 h4=>h.rest t h3)] at h1;rw [← zbL (d:=d1) (d':=d2) (fun t h3 h4=>h.rest t (by omega))] at h2;exact ⟨zaJ.of_list lt hO h1,zaJ.of_list lt hO h2⟩
theorem zcf.next {d d1 d2 d3:Array α}(hO:SWO lt)(h:zcf lt d d1 d2 s q)(hb:zb6 lt d d1 s)(hq:q * (2 * s)+s<d.size)(hm:zam lt d2 d3 (q * (2 * s)) (q * (2 * s)+s) (min (q * (2 * s)+2 * s) d.size)):zcf lt d d1 d3 s (q+1):=by
 refine ⟨by rw [hm.size,h.size],fun p hp hps=>?_,fun t ht=>?_⟩
 · rcases Nat.lt_or_ge p q with h1 | h1
   · have h2:=zfZ (s:=2 * s) h1
     rw [zbL (d:=d2) (d':=d3) (fun t h3 h4=>hm.out t (by omega))];exact h.blocks p h1 hps
   · have:p=q:=by omega
     subst this
     have a1:=hb.at lt p hps;have a2:=hb.at2 lt p hq;rw [Nat.min_eq_left (by omega)] at a1;rw [hm.mid,zbL (d:=d1) (d':=d2) (x:=p * (2 * s)) (fun t h3 h4=>h.rest t h3),zbL (d:=d1) (d':=d2) (x:=p * (2 * s)+s) (fun t h3 h4=>h.rest t (by omega)),← zbH d (show p * (2 * s)≤p * (2 * s)+s by omega) (show p * (2 * s)+s≤min (p * (2 * s)+2 * s) d.size by omega)];exact a1.mg lt hO a2
 · rw [Nat.add_mul,Nat.one_mul] at ht
   rw [hm.out t (by omega),h.rest t (by omega)]
theorem zcf.alone {d d1 d2:Array α} (h:zcf lt d d1 d2 s q) (hb:zb6 lt d d1 s) (hq:d.size≤q * (2 * s)+s):zb6 lt d d2 (2 * s):=by
 refine ⟨h.size,fun p hp=>?_⟩;rcases Nat.lt_or_ge p q with h1 | h1
 · exact h.blocks p h1 hp
 · have h2:=Nat.mul_le_mul_right (2 * s) h1
   have:p=q:=by
    rcases Nat.lt_or_ge q p with h3 | h3
    · have:=zfZ (s:=2 * s) h3
      omega
    · omega
   subst this
   have a1:=hb.at lt p hp;rw [Nat.min_eq_right (by omega)] at a1 ⊢;rw [zbL (d:=d1) (d':=d2) (fun t h3 h4=>h.rest t h3)];exact a1
theorem zcf.done {d d1 d2:Array α}(h:zcf lt d d1 d2 s q)(hq:d.size≤q * (2 * s)):zb6 lt d d2 (2 * s) :=
 ⟨h.size,fun p hp=>h.blocks p (by
  rcases Nat.lt_or_ge p q with h1 | h1
  · exact h1
  · have:=Nat.mul_le_mul_right (2 * s) h1
    omega) hp⟩
end
end Go.Proofs.YtihnghnafpgdfadGreatDoor
namespace Go.Proofs.YtihnghnafpgdfadGreatDoor
open Go.RowKit Go.Sort
variable {a a' b b' e i j m mid n p q r0 s s0 x x' y z:Nat}{k:ByteArray}{c:Ch}{S l rows:List Ch}
def ltC (x y:Ch):Bool:=ltB x.key y.key
theorem swoC:SWO ltC where
 irrefl x:=zaB _
 trans x y z h1 h2:=zcZ h1 h2
 ntrans x y z h1 h2:=zit h2 h1
def zbk (k:ByteArray)(c:Ch):Bool:=c.key.toList == k.toList
theorem zav:zbk k c=true↔c.key=k:=by
 unfold zbk;exact ⟨fun h=>toList_inj (by simpa using h),fun h=>by rw [h];simp⟩
theorem zbN:zbk k c=false↔¬ c.key=k:=by
 rw [← zav];simp
theorem eqvC (z x:Ch):eqv ltC z x=zbk z.key x:=by
 unfold eqv ltC;cases h:zbk z.key x
 · rw [zbN] at h
   cases h1:ltB x.key z.key
   · cases h2:ltB z.key x.key
     · exact absurd (zdu h1 h2) h
     · rfl
   · rfl
 · rw [zav] at h
   rw [h,zaB]
   rfl
structure zaY (l:List Ch):Prop where
 rise:l.Pairwise fun x y=>ltB x.key y.key=true
 here:∀ c ∈ l,c.gone=false
def look (l:List Ch)(k:ByteArray):Option Ch:=l.find? (zbk k)
theorem zaY.nil:zaY []:=⟨List.Pairwise.nil,fun c h=>absurd h (by simp)⟩
theorem zaY.tail (h:zaY (c :: l)):zaY l:=⟨(List.pairwise_cons.1 h.rise).2,fun x hx=>h.here x (List.mem_cons_of_mem _ hx)⟩
theorem zaY.head (h:zaY (c :: l)):∀ x ∈ l,ltB c.key x.key=true:=(List.pairwise_cons.1 h.rise).1
theorem zaY.look_head (h:zaY (c :: l)):look (c :: l) c.key=some c:=by
 unfold look;rw [List.find?_cons,zav.2 rfl]
theorem zaY.look_lt (h:zaY (c :: l))(hk:ltB k c.key=true):look (c :: l) k=none:=by
 unfold look;rw [List.find?_eq_none];intro x hx e;rw [zav] at e;rcases List.mem_cons.1 hx with rfl | h1
 · rw [e,zaB] at hk;cases hk
 · have h2:=zcZ hk (h.head x h1)
   rw [e,zaB] at h2;cases h2
theorem zaY.ext:∀ {l m:List Ch},zaY l→zaY m→(∀ k,look l k=look m k)→l=m
 | [],[],_,_,_=>rfl
 | [],c :: m,_,hm,h=>by have:=h c.key;rw [hm.look_head] at this;cases this
 | c :: l,[],hl,_,h=>by have:=h c.key;rw [hl.look_head] at this;cases this
 | c :: l,e :: m,hl,hm,h=>by
   have hke:c.key=e.key:=by
    refine zdu ?_ ?_
    · cases hlt:ltB c.key e.key
      · rfl
      · have:=h c.key
        rw [hl.look_head,hm.look_lt hlt] at this
        cases this
    · cases hlt:ltB e.key c.key
      · rfl
      · have:=h e.key
        rw [hm.look_head,hl.look_lt hlt] at this
        cases this
   have hce:c=e:=by
    have:=h c.key;rw [hl.look_head,hke,hm.look_head] at this
    exact Option.some.inj this
   subst hce
   congr 1
   refine zaY.ext hl.tail hm.tail fun k=>?_
   by_cases hk:c.key=k
   · subst hk
     have n1:look l c.key=none:=by
      unfold look;rw [List.find?_eq_none];intro x hx e;rw [zav] at e
      have:=hl.head x hx;rw [e,zaB] at this;cases this
     have n2:look m c.key=none:=by
      unfold look;rw [List.find?_eq_none];intro x hx e;rw [zav] at e
      have:=hm.head x hx;rw [e,zaB] at this;cases this
     rw [n1,n2]
   · have:=h k
     unfold look at this ⊢
     rw [List.find?_cons,List.find?_cons,zbN.2 hk] at this
     exact this
def lastK (l:List Ch)(k:ByteArray):Option Ch:=(l.filter (zbk k)).getLast?
def zfG (o:Option Ch):Option Ch:=o.filter fun c=>!c.gone
theorem zdn (l m:List Ch)(k:ByteArray):lastK (l ++ m) k=(lastK m k).or (lastK l k):=by
 unfold lastK;rw [List.filter_append,List.getLast?_append]
theorem zaY.lastK (h:zaY l) (k:ByteArray):lastK l k=look l k:=by
 induction l with
 | nil=>rfl
 | cons c l ih =>
   have:=ih h.tail;unfold Go.Proofs.YtihnghnafpgdfadGreatDoor.lastK look at this ⊢
   rw [List.filter_cons,List.find?_cons];cases hk:zbk k c
   · exact this
   · have hn:l.filter (zbk k)=[]:=by
      rw [List.filter_eq_nil_iff];intro x hx e;rw [zav] at e hk;have:=h.head x hx;rw [e,hk,zaB] at this
      cases this
     simp [hn]
theorem zaY.alive_look (h:zaY l)(k:ByteArray):zfG (look l k)=look l k:=by
 unfold zfG;cases hl:look l k with
 | none=>rfl
 | some c =>
   have:=h.here c (List.mem_of_find?_eq_some hl);simp [Option.filter,this]
def ze3 (c:Ch):List Ch→Bool
 | []=>true
 | e :: _=>!zbk c.key e
def za2:List Ch→List Ch
 | []=>[]
 | c :: l=>(if (ze3 c l && !c.gone)=true then [c] else []) ++ za2 l
theorem zim:∀ {l:List Ch} {c:Ch},c ∈ za2 l→c ∈ l∧c.gone=false
 | c :: l,x,h=>by
   rw [za2,List.mem_append] at h;rcases h with h | h
   · split at h
     · rename_i hc
       simp only [List.mem_singleton] at h;subst h;simp only [Bool.and_eq_true,Bool.not_eq_true'] at hc;exact ⟨by simp,hc.2⟩
     · cases h
   · obtain ⟨h1,h2⟩:=zim h
     exact ⟨List.mem_cons_of_mem _ h1,h2⟩
theorem zmo {c e x:Ch}(h:zfK ltC (c :: e :: l))(hx:x ∈ e :: l)(hk:x.key=c.key):e.key=c.key:=by
 have h1:=List.pairwise_cons.1 h;have h2:ltB e.key c.key=false:=h1.1 e (by simp);rcases List.mem_cons.1 hx with rfl | h3
 · exact hk
 · have h4:ltB x.key e.key=false:=(List.pairwise_cons.1 h1.2).1 x h3
   rw [hk] at h4;exact zdu h2 h4
theorem zgI:∀ {l:List Ch},zfK ltC l→zaY (za2 l)
 | [],_=>zaY.nil
 | c :: l, h=>by
   have ih:=zgI (List.pairwise_cons.1 h).2;rw [za2]
   split
   · rename_i hc
     simp only [Bool.and_eq_true,Bool.not_eq_true'] at hc;refine ⟨?_,fun x hx=>?_⟩
     · rw [List.singleton_append]
       refine List.pairwise_cons.2 ⟨fun x hx=>?_,ih.rise⟩;have hx':=(zim hx).1;have h1:ltB x.key c.key=false:=(List.pairwise_cons.1 h).1 x hx';cases h2:ltB c.key x.key
       · have e:=zdu h1 h2
         cases l with
         | nil=>cases hx'
         | cons e' l =>
           have:=zmo h hx' e;have h3:(!zbk c.key e')=true:=hc.1;simp only [Bool.not_eq_true',zbN] at h3;exact absurd this h3
       · rfl
     · rw [List.singleton_append] at hx
       rcases List.mem_cons.1 hx with rfl | h1
       · exact hc.2
       · exact ih.here x h1
   · exact ih
theorem zhn:∀ {l:List Ch},zfK ltC l→∀ k,look (za2 l) k=zfG (lastK l k)
 | [],_,_=>rfl
 | c :: l, h,k=>by
   have ih:=zhn (List.pairwise_cons.1 h).2 k;rw [za2]
   have hl:lastK (c :: l) k=(lastK l k).or (if zbk k c=true then some c else none):=by
    rw [show c :: l=[c] ++ l from rfl,zdn]
    congr 1
    unfold lastK;rw [List.filter_cons]
    split <;> rfl
   by_cases hk:c.key=k
   · subst hk
     rw [hl,zav.2 rfl,if_pos rfl];cases l with
     | nil =>
       simp only [ze3,Bool.true_and];cases hg:c.gone
       · simp [look,za2,lastK,zav.2 rfl,zfG,hg,Option.filter]
       · simp [look,za2,lastK,zfG,hg,Option.filter]
     | cons e l =>
       cases hs:zbk c.key e
       · -- the last one of this key
         have hn:lastK (e :: l) c.key=none:=by
          unfold lastK
          have:(e :: l).filter (zbk c.key)=[]:=by
           rw [List.filter_eq_nil_iff];intro x hx e2;rw [zav] at e2;rw [zbN] at hs;exact hs (zmo h hx e2)
          rw [this];rfl
         rw [hn] at ih ⊢;simp only [ze3,hs,Bool.not_false,Bool.true_and,Option.none_or];cases hg:c.gone
         · simp [look,zav.2 rfl,zfG,hg,Option.filter]
         · simp only [Bool.not_true,Bool.false_eq_true,if_false,List.nil_append]
           rw [ih];simp [zfG,hg,Option.filter]
       · have hsm:lastK (e :: l) c.key≠none:=by
          unfold lastK;rw [List.filter_cons,if_pos hs];simp [List.getLast?_cons]
         simp only [ze3,hs,Bool.not_true,Bool.false_and,Bool.false_eq_true,if_false,List.nil_append];rw [ih];cases hh:lastK (e :: l) c.key with
         | none=>exact absurd hh hsm
         | some x=>rfl
   · rw [hl,zbN.2 hk]
     simp only [Bool.false_eq_true,if_false,Option.or_none];rw [← ih]
     split
     · unfold look
       rw [List.singleton_append,List.find?_cons,zbN.2 hk]
     · rfl
def layC (c:Ch):Bool→List Ch→List Ch
 | laid,[]=>if laid=true then [] else [c]
 | laid,o :: l =>
   (if laid=false∧ltB o.key c.key=false then [c] else []) ++ ((if zbk c.key o=true then [] else [o]) ++ layC c (laid || !ltB o.key c.key) l)
def zah (rows:List Ch)(l:List Ch):List Ch:=l.foldl (fun o c=>layC c c.gone o) rows
theorem zdi (c:Ch):∀ l,layC c true l=l.filter fun o=>!zbk c.key o
 | []=>rfl
 | o :: l=>by
   rw [layC,List.filter_cons,Bool.true_or,zdi c l];cases h:zbk c.key o <;> simp
theorem zmb (c:Ch):∀ {b:Bool} {l:List Ch} {x:Ch},x ∈ layC c b l→x=c∧b=false∨x ∈ l
 | b,[],x,h=>by
   rw [layC] at h;cases b
   · simp at h;exact .inl ⟨h,rfl⟩
   · simp at h
 | b,o :: l,x,h=>by
   rw [layC,List.mem_append,List.mem_append] at h;rcases h with h | h | h
   · split at h
     · rename_i hc
       simp at h;exact .inl ⟨h,hc.1⟩
     · cases h
   · split at h
     · cases h
     · simp at h;exact .inr (by simp [h])
   · rcases zmb c h with ⟨h1,h2⟩ | h1
     · cases b
       · exact .inl ⟨h1,rfl⟩
       · simp at h2
     · exact .inr (List.mem_cons_of_mem _ h1)
theorem zfR (c:Ch)(hl:zaY l):zaY (layC c true l):=by
 rw [zdi];exact ⟨hl.rise.filter _,fun x hx=>hl.here x (List.mem_filter.1 hx).1⟩
theorem zhU (c:Ch):∀ {b:Bool} {l:List Ch},zaY l→(b=false→c.gone=false)→zaY (layC c b l)
 | true,l,hl,hb=>zfR c hl
 | false,[],_,hb=>by
   rw [layC];exact ⟨by simp,fun x hx=>by simp at hx;subst hx;exact hb rfl⟩
 | false,o :: l,hl,hb=>by
   rw [layC];cases ho:ltB o.key c.key
   · -- it is laid here
     simp only [true_and,if_true,Bool.false_or,Bool.not_false];rw [zdi,List.singleton_append]
     have hr:zaY ((if zbk c.key o=true then [] else [o]) ++ l.filter fun o=>!zbk c.key o):=by
      have:=zfR c hl;rw [zdi,List.filter_cons] at this
      cases hs:zbk c.key o
      · rw [hs] at this;simpa using this
      · rw [hs] at this;simpa using this
     refine ⟨List.pairwise_cons.2 ⟨fun x hx=>?_,hr.rise⟩,fun x hx=>?_⟩
     · have hne:zbk c.key x=false∧(x=o∨x ∈ l):=by
        rw [List.mem_append] at hx;rcases hx with h | h
        · split at h
          · cases h
          · rename_i hs
            simp at h;subst h;exact ⟨by simpa using hs,.inl rfl⟩
        · have:=List.mem_filter.1 h
          exact ⟨by simpa using this.2,.inr this.1⟩
       have hle:ltB x.key c.key=false:=by
        rcases hne.2 with rfl | h
        · exact ho
        · cases h2:ltB x.key c.key
          · rfl
          · have:=zcZ (hl.head x h) h2
            rw [ho] at this;cases this
       cases h2:ltB c.key x.key
       · exact absurd (zdu hle h2) (zbN.1 hne.1)
       · rfl
     · rcases List.mem_cons.1 hx with rfl | h
       · exact hb rfl
       · exact hr.here x h
   · have hs:zbk c.key o=false:=by
      rw [zbN];intro e;rw [e,zaB] at ho;cases ho
     have ih:=zhU c (b:=false) hl.tail hb;simp only [hs,Bool.true_eq_false,and_false,if_false,Bool.false_eq_true,List.nil_append,Bool.false_or,Bool.not_true];rw [List.singleton_append];refine ⟨List.pairwise_cons.2 ⟨fun x hx=>?_,ih.rise⟩,fun x hx=>?_⟩
     · rcases zmb c hx with ⟨rfl,_⟩ | h
       · exact ho
       · exact hl.head x h
     · rcases List.mem_cons.1 hx with rfl | h
       · exact hl.here _ (by simp)
       · exact ih.here x h
theorem zgS (c:Ch) (k:ByteArray):∀ l:List Ch,look (l.filter fun o=>!zbk c.key o) k=if c.key=k then none else look l k
 | []=>by simp [look]
 | o :: l=>by
   have ih:=zgS c k l;unfold look at ih ⊢;rw [List.filter_cons];cases hs:zbk c.key o
   · simp only [Bool.not_false,if_true,List.find?_cons]
     rw [zbN] at hs;cases hk:zbk k o
     · rw [ih]
     · rw [zav] at hk
       rw [if_neg (fun e=>hs (hk.trans e.symm))]
   · simp only [Bool.not_true,Bool.false_eq_true,if_false,List.find?_cons]
     rw [zav] at hs;rw [ih];cases hk:zbk k o
     · rfl
     · rw [zav] at hk
       rw [if_pos (hs.symm.trans hk),if_pos (hs.symm.trans hk)]
theorem znM (c:Ch) (k:ByteArray):∀ {b:Bool} {l:List Ch},look (layC c b l) k=if c.key=k then (if b=true then none else some c) else look l k
 | b,[]=>by
   rw [layC];cases b
   · by_cases h:c.key=k
     · simp [look,h,zav.2 h]
     · simp [look,h,zbN.2 h]
   · simp [look]
 | true,l=>by rw [zdi,zgS];rfl
 | false,o :: l=>by
   rw [layC];cases ho:ltB o.key c.key
   · simp only [true_and,if_true,Bool.false_or,Bool.not_false,Bool.false_eq_true,if_false]
     have hf:=zgS c k (o :: l);rw [List.filter_cons] at hf;rw [zdi,List.singleton_append]
     have e:((if zbk c.key o=true then [] else [o]) ++ l.filter fun o=>!zbk c.key o)=(if (!zbk c.key o)=true then o :: l.filter (fun o=>!zbk c.key o) else l.filter fun o=>!zbk c.key o):=by
      cases zbk c.key o <;> rfl
     rw [e];show (c :: _).find? (zbk k)=_;rw [List.find?_cons]
     by_cases h:c.key=k
     · rw [zav.2 h,if_pos h]
     · rw [zbN.2 h,if_neg h]
       rw [if_neg h] at hf;exact hf
   · have hs:zbk c.key o=false:=by
      rw [zbN];intro e;rw [e,zaB] at ho;cases ho
     have ih:=znM c k (b:=false) (l:=l);simp only [hs,Bool.true_eq_false,and_false,if_false,Bool.false_eq_true,List.nil_append,Bool.false_or,Bool.not_true];rw [List.singleton_append];unfold look at ih ⊢;rw [List.find?_cons,List.find?_cons,ih];cases hk:zbk k o
     · simp
     · rw [zav] at hk
       rw [zbN] at hs;simp only;rw [if_neg (fun e=>hs (hk.trans e.symm))]
theorem zbI:∀ {l rows:List Ch},zaY rows→zaY (zah rows l)
 | [],rows,h=>h
 | c :: l,rows,h=>by
   show zaY (zah (layC c c.gone rows) l);exact zbI (zhU c h (fun e=>e))
theorem zdp (k:ByteArray):∀ {l rows:List Ch},zaY rows→look (zah rows l) k=zfG ((lastK l k).or (look rows k))
 | [],rows,h=>by
   show look rows k=zfG (look rows k);exact (h.alive_look k).symm
 | c :: l,rows,h=>by
   show look (zah (layC c c.gone rows) l) k=_;rw [zdp k (zhU c h (fun e=>e)),znM]
   have hl:lastK (c :: l) k=(lastK l k).or (if zbk k c=true then some c else none):=by
    rw [show c :: l=[c] ++ l from rfl,zdn]
    congr 1
    unfold lastK;rw [List.filter_cons]
    split <;> rfl
   rw [hl];cases lastK l k with
   | some x=>rfl
   | none =>
     simp only [Option.none_or]
     by_cases hk:c.key=k
     · rw [if_pos hk,zav.2 hk,if_pos rfl]
       cases hg:c.gone <;> simp [zfG,Option.filter,hg]
     · rw [if_neg hk,zbN.2 hk]
       simp
theorem zfm (h:zaY rows)(hS:Stb ltC (rows ++ l) S):za2 S=zah rows l:=by
 refine (zgI hS.rises).ext (zbI h) fun k=>?_
 rw [zhn hS.rises,zdp k h];have e:=hS.same ⟨k,k,false⟩;have hf:∀ m:List Ch,m.filter (eqv ltC ⟨k,k,false⟩)=m.filter (zbk k):=fun m=>List.filter_congr fun x _=>eqvC _ _
 rw [hf,hf] at e;show zfG (lastK S k)=_;rw [show lastK S k=lastK (rows ++ l) k by unfold lastK;rw [e],zdn,h.lastK]
end Go.Proofs.YtihnghnafpgdfadGreatDoor
