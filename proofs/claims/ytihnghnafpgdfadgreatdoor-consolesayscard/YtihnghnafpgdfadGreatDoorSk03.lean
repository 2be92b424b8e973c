/- What the proofs stand on, part 3: ShelfPut. -/
import Derived.Deep.RegionWith
import Derived.Test.YtihnghnafpgdfadGreatDoorSk02
set_option linter.unusedVariables false
set_option linter.unusedSimpArgs false
set_option maxRecDepth 100000
set_option maxHeartbeats 2000000
namespace Go.Proofs.YtihnghnafpgdfadGreatDoor
open Go.RowKit
variable {w1:World}{x:Addr}{cap p:Nat}{l:List Fi}
def putN (l:List Fi)(f:Fi):Int:=if f.fault≠0 then f.fault else if hasF l f.n=false∧8≤l.length then 7 else 0
def putL (l:List Fi)(f:Fi):List Fi:=if putN l f=0 then putF l f else []
theorem zt1 (a:Option Addr)(cap:Nat)(l:List Fi)(f:Fi)(w:World)(hz:f.n.size≤maxLen∧f.t.size≤maxLen)(hf:f.fault≠0) :
 Calls Tryz.prog 114 #[.slice a l.length cap,zjj f.n f.t f.k] w fun e w'=>e=.returned (.tuple #[.slice none 0 0,errV f.fault])∧Below w.heap.size w w':=by
 have he:errV (zcB f.n.data.toList f.t.data.toList f.k)=.iface 90 (.int .i64 (zcB f.n.data.toList f.t.data.toList f.k)):=zak hf;have HF:Hid (f.fault≠0):=hf;clear hf
 go_enter Tryz.func114,Tryz.ntmps114
 go_wp2_with (go_at_call 155;refine (zdm _ _ _ _ hz.1 hz.2).mono ?_;rintro e w' ⟨rfl,rfl⟩)
 go_ret2;refine ⟨by unfold Fi.fault;rw [he];rfl,?_⟩
 repeat (first | exact Below.refl _ _ | refine below_drewN ?_ _ | refine Below.drew ?_ | refine Below.alloc ?_ (by simp;try omega) _)
theorem zsL (a:Option Addr)(cap:Nat)(l:List Fi)(f:Fi)(w:World)(hz:f.n.size≤maxLen∧f.t.size≤maxLen)(hg:Good l)(hc:zaF w a l)(hf:f.fault=0)(hh:hasF l f.n=false)(h8:8≤l.length) :
 Calls Tryz.prog 114 #[.slice a l.length cap,zjj f.n f.t f.k] w fun e w'=>e=.returned (.tuple #[.slice none 0 0,errV 7])∧Below w.heap.size w w':=by
 have he:errV (zcB f.n.data.toList f.t.data.toList f.k)=.nilIface:=zac hf;have HC:Hid (zaF w a l):=hc;have HG:Hid (Good l):=hg;have HH:Hid (hasF l f.n=false):=hh;have hl:=hg.few;clear hf hc hg hh
 go_enter Tryz.func114,Tryz.ntmps114
 go_wp2_with (go_at_call 155;refine (zdm _ _ _ _ hz.1 hz.2).mono ?_;rintro e w' ⟨rfl,rfl⟩)
 refine (zdX a cap l f.n _ (by omega) (by exact (HC.out.alloc _).alloc _) (HG.out.mono f.n)).mono ?_;rintro e w1 ⟨rfl,hb⟩;rw [HH.out];have hb':Below w.heap.size w w1:=(((Below.refl _ _).alloc (Nat.le_refl _) _).alloc (by simp) _).trans (hb.mono (by simp;omega));have HB:Hid (Below w.heap.size w w1):=hb';clear hb hb';go_wp2;go_ret2;exact ⟨rfl,HB.out⟩
theorem zhs (f:Fi)(r:Part)(hc:zaF w1 (some x) l)(hy:zaF w1 r.a r.l)(hr:r.a=none→r.cap=0)(hp:p≤l.length):
 zfF (((w1.alloc (.cells #[.string f.n,.string f.t,.int .i64 f.k] 98)).alloc (.cells #[.slice (some x) p cap,.slice (some ⟨w1.heap.size,0,none⟩) 1 1,.slice r.a r.l.length r.cap] 30)).drew) (w1.heap.size+1)
  [⟨some x,cap,l.take p⟩,⟨some ⟨w1.heap.size,0,none⟩,1,[f]⟩,r]:=by
 have hb1:Below w1.heap.size w1 (((w1.alloc (.cells #[.string f.n,.string f.t,.int .i64 f.k] 98)).alloc (.cells #[.slice (some x) p cap,.slice (some ⟨w1.heap.size,0,none⟩) 1 1,.slice r.a r.l.length r.cap] 30)).drew) :=
  (((Below.refl _ _).alloc (Nat.le_refl _) _).alloc (by simp) _).drew
 have hcf:=((zaF.one w1 f 98).alloc (.cells #[.slice (some x) p cap,.slice (some ⟨w1.heap.size,0,none⟩) 1 1,.slice r.a r.l.length r.cap] 30)).drewN 1;refine ztN ?_ ?_ ?_ ⟨(hc.take p).below hb1,(fun h=>by cases h),((hc.take p).below hb1).spot⟩ ⟨hcf,(fun h=>by cases h),hcf.spot⟩ ⟨hy.below hb1,hr,(hy.below hb1).spot⟩
 · simp [go_sem,Part.v,Nat.min_eq_left hp]
 · simp [go_sem,Part.v]
 · simp [go_sem,Part.v]
theorem zlC (w1:World)(f:Fi) :
 zfF (((w1.alloc (.cells #[.string f.n,.string f.t,.int .i64 f.k] 98)).alloc (.cells #[.slice none 0 0,.slice (some ⟨w1.heap.size,0,none⟩) 1 1,.slice none 0 0] 30)).drew) (w1.heap.size+1)
  [⟨none,0,[]⟩,⟨some ⟨w1.heap.size,0,none⟩,1,[f]⟩,⟨none,0,[]⟩]:=by
 have hcf:=((zaF.one w1 f 98).alloc (.cells #[.slice none 0 0,.slice (some ⟨w1.heap.size,0,none⟩) 1 1,.slice none 0 0] 30)).drewN 1;refine ztN ?_ ?_ ?_ ⟨zaF.nil _ _,(fun h=>rfl),(fun x hx=>.inl rfl)⟩ ⟨hcf,(fun h=>by cases h),hcf.spot⟩ ⟨zaF.nil _ _,(fun h=>rfl),(fun x hx=>.inl rfl)⟩
 · simp [go_sem,Part.v]
 · simp [go_sem,Part.v]
 · simp [go_sem,Part.v]
theorem zuc (a:Option Addr) (cap:Nat) (l:List Fi) (f:Fi) (w:World) (hz:f.n.size≤maxLen∧f.t.size≤maxLen) (hg:Good l) (hc:zaF w a l) (hcap:l.length≤cap) (hcm:cap≤maxLen) (hn0:a=none→cap=0) (hf:f.fault=0) (hh:hasF l f.n=false) (h8:l.length<8) :
 Calls Tryz.prog 114 #[.slice a l.length cap,zjj f.n f.t f.k] w fun e w'=>∃ v,e=.returned (.tuple #[v,.nilIface])∧Owns w' w.heap.size v (putF l f)∧Below w.heap.size w w':=by
 unfold maxLen at hcm;have he:errV (zcB f.n.data.toList f.t.data.toList f.k)=.nilIface:=zac hf;have HC:Hid (zaF w a l):=hc;have HG:Hid (Good l):=hg;have HH:Hid (hasF l f.n=false):=hh;have hl:=hg.few;have hp:=zgR l f.n;have hpc:posF l f.n≤cap:=by omega
 have HPUT:Hid (putF l f=l.take (posF l f.n) ++ (f :: l.drop (posF l f.n))):=by show _=_;unfold putF;rw [hh];rfl
 clear hf hc hg hh
 go_enter Tryz.func114,Tryz.ntmps114
 go_wp2_with (go_at_call 155;refine (zdm _ _ _ _ hz.1 hz.2).mono ?_;rintro e w' ⟨rfl,rfl⟩)
 refine (zdX a cap l f.n _ (by omega) (by exact (HC.out.alloc _).alloc _) (HG.out.mono f.n)).mono ?_;rintro e w1 ⟨rfl,hb⟩;rw [HH.out];obtain ⟨hcc,hff⟩:=zgB hb;have hz1:w.heap.size+1<w1.heap.size:=by have:=hb.size;simp at this;omega
 have hb':Below w.heap.size w w1:=(((Below.refl _ _).alloc (Nat.le_refl _) _).alloc (by simp) _).trans (hb.mono (by simp;omega));have HB:Hid (Below w.heap.size w w1):=hb';clear hb hb';cases a with
 | none =>
   have e:l=[]:=by
    cases l with
    | nil=>rfl
    | cons g r=>obtain ⟨_,_,e,_⟩:=HC.out 0 (by simp);cases e
   subst e;have e:=hn0 rfl;subst e;have hp0:posF [] f.n=0:=rfl;have HPA:Hid (zfF _ _ _):=zlC w1 f;clear hn0;go_wp2
   go_region_with (go_at_call 156;refine (zc7 _ 3 _ _ rfl (by simp) (by simp [lens]) HPA.out).mono ?_;rintro e w3 ⟨v,rfl,hown,hb3⟩)
   all_goals
    go_wp2;go_ret2;have hb0:Below w.heap.size w w3:=((((HB.out.alloc HB.out.size _).alloc (by simp;have:=HB.out.size;omega) _).drew).trans (hb3.mono (by simp;have:=HB.out.size;omega)));refine ⟨v,rfl,?_,hb0⟩;have h2:=hown.base (B':=w.heap.size) (by simp;have:=HB.out.size;omega);rw [HPUT.out]
    simpa [zcX,hp0] using h2
 | some x =>
   have HC1:=HC.out.below HB.out
   by_cases hcp:cap=posF l f.n
   · have hd:l.drop (posF l f.n)=[]:=List.drop_eq_nil_of_le (by omega)
     have hparts:=zhs (cap:=cap) (p:=posF l f.n) f ⟨some x,0,[]⟩ HC1 (zaF.nil _ _) (fun h=>by cases h) hp;subst hcp;simp only [List.length_nil] at hparts;have HPA:Hid (zfF _ _ _):=hparts;have HD:Hid (l.drop (posF l f.n)=[]):=hd;clear hparts HC1 hd;go_wp2
     go_region_with (go_at_call 156;refine (zc7 _ 3 _ _ rfl (by simp) (by simp [lens];omega) HPA.out).mono ?_;rintro e w3 ⟨v,rfl,hown,hb3⟩)
     all_goals
      go_wp2;go_ret2;have hb0:Below w.heap.size w w3:=((((HB.out.alloc HB.out.size _).alloc (by simp;have:=HB.out.size;omega) _).drew).trans (hb3.mono (by simp;have:=HB.out.size;omega)));refine ⟨v,rfl,?_,hb0⟩;have h2:=hown.base (B':=w.heap.size) (by simp;have:=HB.out.size;omega);rw [HPUT.out]
      simpa [zcX,HD.out] using h2
   · have hparts:=zhs (cap:=cap) (p:=posF l f.n) f ⟨some (x.add ((posF l f.n) * 3)),cap - (posF l f.n),l.drop (posF l f.n)⟩ HC1 (HC1.drop (posF l f.n)) (fun h=>by cases h) hp
     simp only [List.length_drop] at hparts;have HPA:Hid (zfF _ _ _):=hparts;clear hparts HC1;go_wp2
     go_region_with (go_at_call 156;refine (zc7 _ 3 _ _ rfl (by simp) (by simp [lens];omega) HPA.out).mono ?_;rintro e w3 ⟨v,rfl,hown,hb3⟩)
     all_goals
      go_wp2;go_ret2;have hb0:Below w.heap.size w w3:=((((HB.out.alloc HB.out.size _).alloc (by simp;have:=HB.out.size;omega) _).drew).trans (hb3.mono (by simp;have:=HB.out.size;omega)));refine ⟨v,rfl,?_,hb0⟩;have h2:=hown.base (B':=w.heap.size) (by simp;have:=HB.out.size;omega);rw [HPUT.out]
      simpa [zcX] using h2
theorem zsY (a:Option Addr) (cap:Nat) (l:List Fi) (f:Fi) (w:World) (hz:f.n.size≤maxLen∧f.t.size≤maxLen) (hg:Good l) (hc:zaF w a l) (hcap:l.length≤cap) (hcm:cap≤maxLen) (hn0:a=none→cap=0) (hf:f.fault=0) (hh:hasF l f.n=true) :
 Calls Tryz.prog 114 #[.slice a l.length cap,zjj f.n f.t f.k] w fun e w'=>∃ v,e=.returned (.tuple #[v,.nilIface])∧Owns w' w.heap.size v (putF l f)∧Below w.heap.size w w':=by
 unfold maxLen at hcm;have he:errV (zcB f.n.data.toList f.t.data.toList f.k)=.nilIface:=zac hf;have HC:Hid (zaF w a l):=hc;have HG:Hid (Good l):=hg;have HH:Hid (hasF l f.n=true):=hh;have hl:=hg.few;have hp:=zgR l f.n;have hpc:posF l f.n≤cap:=by omega
 have hpl:posF l f.n<l.length:=(zce hh).1;have hpl':posF l f.n+1≤l.length:=hpl;have hpc':posF l f.n+1≤cap:=by omega
 have HPUT:Hid (putF l f=l.take (posF l f.n) ++ (f :: l.drop (posF l f.n+1))):=by show _=_;unfold putF;rw [hh];rfl
 clear hf hc hg hh
 go_enter Tryz.func114,Tryz.ntmps114
 go_wp2_with (go_at_call 155;refine (zdm _ _ _ _ hz.1 hz.2).mono ?_;rintro e w' ⟨rfl,rfl⟩)
 refine (zdX a cap l f.n _ (by omega) (by exact (HC.out.alloc _).alloc _) (HG.out.mono f.n)).mono ?_;rintro e w1 ⟨rfl,hb⟩;rw [HH.out];obtain ⟨hcc,hff⟩:=zgB hb;have hz1:w.heap.size+1<w1.heap.size:=by have:=hb.size;simp at this;omega
 have hb':Below w.heap.size w w1:=(((Below.refl _ _).alloc (Nat.le_refl _) _).alloc (by simp) _).trans (hb.mono (by simp;omega));have HB:Hid (Below w.heap.size w w1):=hb';clear hb hb';cases a with
 | none =>
   have e:l=[]:=by
    cases l with
    | nil=>rfl
    | cons g r=>obtain ⟨_,_,e,_⟩:=HC.out 0 (by simp);cases e
   subst e;simp at hpl
 | some x =>
   have HC1:=HC.out.below HB.out
   by_cases hcp:cap=posF l f.n+1
   · have hd:l.drop (posF l f.n+1)=[]:=List.drop_eq_nil_of_le (by omega)
     have hparts:=zhs (cap:=cap) (p:=posF l f.n) f ⟨some x,0,[]⟩ HC1 (zaF.nil _ _) (fun h=>by cases h) hp;subst hcp;simp only [List.length_nil] at hparts;have HPA:Hid (zfF _ _ _):=hparts;have HD:Hid (l.drop (posF l f.n+1)=[]):=hd;clear hparts HC1 hd;go_wp2
     go_region_with (go_at_call 156;refine (zc7 _ 3 _ _ rfl (by simp) (by simp [lens];omega) HPA.out).mono ?_;rintro e w3 ⟨v,rfl,hown,hb3⟩)
     all_goals
      go_wp2;go_ret2;have hb0:Below w.heap.size w w3:=((((HB.out.alloc HB.out.size _).alloc (by simp;have:=HB.out.size;omega) _).drew).trans (hb3.mono (by simp;have:=HB.out.size;omega)));refine ⟨v,rfl,?_,hb0⟩;have h2:=hown.base (B':=w.heap.size) (by simp;have:=HB.out.size;omega);rw [HPUT.out]
      simpa [zcX,HD.out] using h2
   · have hparts:=zhs (cap:=cap) (p:=posF l f.n) f ⟨some (x.add ((posF l f.n+1) * 3)),cap - (posF l f.n+1),l.drop (posF l f.n+1)⟩ HC1 (HC1.drop (posF l f.n+1)) (fun h=>by cases h) hp
     simp only [List.length_drop] at hparts;have HPA:Hid (zfF _ _ _):=hparts;clear hparts HC1;go_wp2
     go_region_with (go_at_call 156;refine (zc7 _ 3 _ _ rfl (by simp) (by simp [lens];omega) HPA.out).mono ?_;rintro e w3 ⟨v,rfl,hown,hb3⟩)
     all_goals
      go_wp2;go_ret2;have hb0:Below w.heap.size w w3:=((((HB.out.alloc HB.out.size _).alloc (by simp;have:=HB.out.size;omega) _).drew).trans (hb3.mono (by simp;have:=HB.out.size;omega)));refine ⟨v,rfl,?_,hb0⟩;have h2:=hown.base (B':=w.heap.size) (by simp;have:=HB.out.size;omega);rw [HPUT.out]
      simpa [zcX] using h2
end Go.Proofs.YtihnghnafpgdfadGreatDoor
