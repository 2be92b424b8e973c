/- What the proofs stand on, part 21: StoreAt, StoreOpens. -/
import Derived.Test.YtihnghnafpgdfadGreatDoorRk11
import Derived.Test.YtihnghnafpgdfadGreatDoorRk20
set_option linter.unusedVariables false
set_option linter.unusedSimpArgs false
namespace Go.Proofs.YtihnghnafpgdfadGreatDoor
open Go.RowKit Go.BigFrame
structure St where
  dB:Nat
  side:Nat
  ra:Option Addr
  rc:Nat
  rows:List Ch
  lb:Nat
structure StoreAt (w:World)(b:Nat)(s:St):Prop where
  blk:w.heap[b]?=some (.cells #[.pointer (some ⟨s.dB,0,none⟩),.int .i64 s.side,.slice s.ra s.rows.length s.rc,.pointer (some ⟨s.lb,0,none⟩)] 163 (0,0))
  rows:SliceC w s.ra s.rc s.rows
theorem StoreAt.cells {w:World}{b:Nat}{s:St}(h:StoreAt w b s):w.cell? ⟨b,0,none⟩=some (.pointer (some ⟨s.dB,0,none⟩))∧w.cell? ⟨b,1,none⟩=some (.int .i64 s.side)∧w.cell? ⟨b,2,none⟩=some (.slice s.ra s.rows.length s.rc)∧w.cell? ⟨b,3,none⟩=some (.pointer (some ⟨s.lb,0,none⟩)) :=
  ⟨by rw [cell_block h.blk];rfl,by rw [cell_block h.blk];rfl,by rw [cell_block h.blk];rfl,by rw [cell_block h.blk];rfl⟩
theorem StoreAt.below {w w':World}{b:Nat}{s:St}(h:StoreAt w b s)(hb:Below w.heap.size w w'):StoreAt w' b s :=
  ⟨by rw [hb.block b (Array.getElem?_eq_some_iff.1 h.blk).1];exact h.blk,h.rows.below hb⟩
set_option maxRecDepth 100000 in
theorem storeRows_any (b:Nat)(s:St)(w:World)(h:StoreAt w b s)(hl:s.rows.length≤100) :
    Calls Tryz.prog 63 #[.pointer (some ⟨b,0,none⟩)] w fun e w'=>∃ v,e=.returned v∧OwnsC w' w.heap.size v s.rows∧Below w.heap.size w w':=by
  obtain ⟨c0,c1,c2,c3⟩:=h.cells
  have KR:Hid _:=cloneC_any s.ra s.rc s.rows w hl h.rows
  clear h c0 c1 c3
  go_enter Tryz.func63,Tryz.ntmps63
  go_wp2_with fail
  refine Calls.mono KR.out ?_
  rintro e w1 ⟨v,rfl,ho,hb⟩
  have HA:Hid (OwnsC w1 w.heap.size v s.rows∧Below w.heap.size w w1):=⟨ho,hb⟩
  obtain ⟨va,vc,hv,-⟩:=OwnsC.files ho
  subst hv
  clear ho hb
  go_wp2
  go_ret
  exact ⟨_,rfl,HA.out⟩
end Go.Proofs.YtihnghnafpgdfadGreatDoor
namespace Go.Proofs.YtihnghnafpgdfadGreatDoor
open Go Go.RowKit Go.BigFrame
instance (d:Dk) (i:Nat):Decidable (HeadOk d i):=by unfold HeadOk;infer_instance
def whOf (d:Dk)(i:Nat):Option (List Ch):=if HeadOk d i then parseT (sideT d i) (headC d i) else none
theorem parseT_rows {T:ByteArray}{k:Nat}{rows:List Ch}(h:parseT T k=some rows):Rowed rows∧(∀ c ∈ rows,changeF c=0)∧rows.length=k∧textL rows=T.data.toList:=by
  unfold parseT at h
  cases hr:readAll (cutL T k) with
  | none=>rw [hr] at h;cases h
  | some l =>
    rw [hr] at h
    simp only at h
    split at h
    · rename_i hc
      cases h
      obtain ⟨h1,h2⟩:=readAll_ok hr
      have e:=(sameCL_iff _ _).1 hc.1
      refine ⟨by rw [← e];exact applied_rowed Rowed.nil,h1,by rw [h2,cutL_length],by simpa using hc.2⟩
    · cases h
theorem whOf_rows {d:Dk}{i:Nat}{rows:List Ch}(h:whOf d i=some rows):Rowed rows∧(∀ c ∈ rows,changeF c=0)∧rows.length≤12:=by
  unfold whOf at h
  split at h
  · rename_i hh
    obtain ⟨h1,h2,h3,-⟩:=parseT_rows h
    exact ⟨h1,h2,by rw [h3];exact hh.1⟩
  · cases h
theorem sideT_40 {d:Dk}{i:Nat}(hF:Forty d.now)(h42:42≤d.now.length)(hi:i≤1)(hc:headC d i≤12):(sideT d i).size=40 * headC d i:=by
  unfold sideT
  rw [baL_size,flat_len (R:=regionL d.now (2+i * 12) (headC d i)) (fun x hx=>hF x (List.mem_of_mem_drop (List.mem_of_mem_take hx))),regionL_length (by omega)]
  omega
theorem whole_says (p:Dp)(d:Dk)(i:Nat)(w W:World)(h:DiskAt w p d)(hup:d.down=false)(h42:42≤d.now.length)(hi:i≤1)(hb:Below w.heap.size w W) :
    Calls Tryz.prog 126 #[.pointer (some ⟨p.B,0,none⟩),.int .i64 i] W (WholeSays w (whOf d i) W):=by
  refine (storeWhole_any p d i W (fun e w'=>WholeSays w (whOf d i) W e w') (h.below hb) hup h42 hi ?_ ?_).mono (fun e w' h=>h)
  · intro W' hb' hno
    exact ⟨hb',.inl ⟨by unfold whOf;rw [if_neg hno],rfl⟩⟩
  · intro hok W' hb'
    refine (storeParse_any (sideT d i) (headC d i) (sideT_40 h.snow h42 hi hok.1) hok.1 W').mono ?_
    rintro e w' ⟨hbl,hor⟩
    have ew:whOf d i=parseT (sideT d i) (headC d i):=by unfold whOf;rw [if_pos hok]
    rcases hor with ⟨hno,rfl⟩ | ⟨rows,va,vc,hyes,rfl,ho⟩
    · exact ⟨_,_,_,_,rfl,hb'.trans (hbl.mono hb'.size),.inl ⟨by rw [ew,hno],rfl⟩⟩
    · exact ⟨_,_,_,_,rfl,hb'.trans (hbl.mono hb'.size),.inr ⟨rows,va,vc,by rw [ew,hyes],rfl,OwnsC.base ho hb'.size⟩⟩
theorem laid_says (p:Dp)(d:Dk)(w:World)(h:DiskAt w p d)(hup:d.down=false)(h42:42≤d.now.length) :
    Calls Tryz.prog 88 #[.pointer (some ⟨p.B,0,none⟩)] w fun e w'=>LaidSays w (whOf d) e w' :=
  storeLaid_any p d w (whOf d) h hup h42 (fun i hi W hb=>whole_says p d i w W h hup h42 hi hb)
theorem laidX_some {wh:Nat→Option (List Ch)}{side:Nat}{rows:List Ch}(h:laidX wh=some (side,rows)):side≤1∧wh side=some rows:=by
  unfold laidX at h
  split at h
  · rename_i r hr;cases h;exact ⟨Nat.le_refl _,hr⟩
  · split at h
    · rename_i r hr;cases h;exact ⟨by omega,hr⟩
    · cases h
def foldRows:List Ch→List (List Ch)→Option (List Ch)
  | r,[]=>some r
  | r,c :: l=>if 12<(appliedC r c).length then none else foldRows (appliedC r c) l
def firstOf (d:Dk)(side:Nat):Nat:=1+(1 - side) * (d.now.length - 26)
def logAtD (d:Dk)(side:Nat):List (List Ch) × Nat:=logOf rdC d.now 26 (d.now.length - 26) (firstOf d side)
def openD (d:Dk):Option (Nat × List Ch × Nat):=match laidX (whOf d) with
  | none=>none
  | some (side,rows)=>match foldRows rows (logAtD d side).1 with
    | none=>none
    | some r=>some (side,r,(logAtD d side).2)
structure StoreOwn (w:World)(lo b:Nat)(s:St)(g:Lg):Prop where
  at':StoreAt w b s
  own:OwnsC w lo (.slice s.ra s.rows.length s.rc) s.rows
  log:LogAt w s.lb g
  low:lo≤b∧lo≤s.lb
section
variable {C:Type} (rd:List UInt8→Option C)
theorem runL_ok {Q:C→Prop} (hq:∀ t c,rd t=some c→Q c) (first:Nat):∀ (l:List (List UInt8)) (i:Nat) (st:Pl C),(∀ D ∈ st.deeds,(∀ c ∈ D,Q c)∧D.length≤i)→((∀ c ∈ st.opn,Q c)∧st.opn.length≤i)→∀ D ∈ (runL rd first i st l).deeds,(∀ c ∈ D,Q c)∧D.length≤i+l.length
  | [],i,st,h1,h2,D,hD=>by simpa using h1 D (by simpa [runL] using hD)
  | s :: r, i,st,h1,h2,D,hD=>by
    cases hs:stepL rd first i st s with
    | none =>
      rw [runL,hs] at hD
      obtain ⟨a,b⟩:=h1 D hD
      exact ⟨a,by simp;omega⟩
    | some st' =>
      rw [runL,hs] at hD
      have key:(∀ D ∈ st'.deeds,(∀ c ∈ D,Q c)∧D.length≤i+1)∧((∀ c ∈ st'.opn,Q c)∧st'.opn.length≤i+1):=by
        unfold stepL at hs
        split at hs
        · cases hs
        · split at hs
          · injection hs with hs
            subst hs
            refine ⟨fun D hD=>?_,by simp,by simp⟩
            rcases List.mem_append.1 hD with h | h
            · obtain ⟨a,b⟩:=h1 D h;exact ⟨a,by omega⟩
            · simp at h;subst h;exact ⟨h2.1,by omega⟩
          · split at hs
            · split at hs
              · rename_i c hc
                injection hs with hs
                subst hs
                refine ⟨fun D hD=>by obtain ⟨a,b⟩:=h1 D hD;exact ⟨a,by omega⟩,fun x hx=>?_,by simp;omega⟩
                rcases List.mem_append.1 hx with h | h
                · exact h2.1 x h
                · simp at h;subst h;exact hq _ _ hc
              · cases hs
            · cases hs
      obtain ⟨a,b⟩:=runL_ok hq first r (i+1) st' key.1 key.2 D hD
      exact ⟨a,by simp;omega⟩
theorem logOf_ok {Q:C→Prop}(hq:∀ t c,rd t=some c→Q c){now:List (List UInt8)}{from' many first:Nat}:∀ D ∈ (logOf rd now from' many first).1,(∀ c ∈ D,Q c)∧D.length≤many:=fun D hD=>by
  obtain ⟨a,b⟩:=runL_ok rd hq first (regionL now from' many) 0 ⟨[],[],0⟩ (by simp) (by simp) D hD
  have h2:(regionL now from' many).length≤many:=by simp [regionL];omega
  exact ⟨a,by omega⟩
end
theorem rdC_ok:∀ t c,rdC t=some c→changeF c=0:=fun t c h=>by
  unfold rdC readC at h
  split at h
  · cases h
  · split at h
    · rename_i h3;cases h;exact h3
    · cases h
theorem ds_below {w w':World}{lo base:Nat}{vd vo:Value}{P:List PartC}{opn:List Ch}(h:DS w lo base vd vo P opn)(hb:Below w.heap.size w w'):DS w' lo base vd vo P opn :=
  h.far hb.size (fun k C T fr _ hk _=>hb.block k (Array.getElem?_eq_some_iff.1 hk).1)
theorem row_slice {w:World}{base:Nat}{T:TypeId}{size n:Nat}{v:Value}{xs:List Value}(h:w.ownsRow base T size v n xs):∃ a cap,v=.slice a n cap:=by
  rcases h.2 with ⟨rfl,h0⟩ | ⟨g,cap,cur,rfl,_⟩
  · subst h0;exact ⟨_,_,rfl⟩
  · exact ⟨_,_,rfl⟩
theorem ds_at {w:World}{lo base:Nat}{a:Option Addr}{cap:Nat}{vo:Value}{P:List PartC}{opn:List Ch}(h:DS w lo base (.slice a P.length cap) vo P opn){i:Nat}(hi:i<P.length) :
    ∃ b off,a=some ⟨b,off,none⟩∧w.cell? ⟨b,off+i,none⟩=some (.slice P[i].a P[i].l.length P[i].cap)∧SliceC w P[i].a P[i].cap P[i].l:=by
  have hp:=h.parts P[i] (List.getElem_mem hi)
  obtain ⟨a',c',e,hcc,hnil,-⟩:=OwnsC.files (l:=P[i].l) hp
  unfold PartC.v at e
  injection e with e1 e2 e3
  have hs:SliceC w P[i].a P[i].cap P[i].l:=⟨by rw [e1];exact hcc,by rw [e1,e3];exact hnil⟩
  rcases h.row.2 with ⟨e,h0⟩ | ⟨g,cap',cur,e,hB,hg,hn,hm,hcs,ht⟩
  · omega
  · injection e with e1' e2' e3'
    subst e1'
    refine ⟨g,0,rfl,?_,hs⟩
    have:=h.row.cellAt (0+i) (by omega)
    rw [Nat.zero_add] at this ⊢
    rw [this]
    rw [List.getElem?_map,List.getElem?_eq_getElem hi]
    rfl
def OpenSays (w:World) (p:Dp) (d:Dk) (e:Ending) (w':World):Prop :=
  Below w.heap.size w w'∧((openD d=none∧e=.returned (.tuple #[.pointer none,.iface 90 (.int .i64 4)])) ∨
    ∃ b side rows used ra rc lb,openD d=some (side,rows,used)∧side≤1∧Rowed rows∧rows.length≤12∧(∀ c ∈ rows,changeF c=0)∧e=.returned (.tuple #[.pointer (some ⟨b,0,none⟩),.nilIface])∧StoreOwn w' w.heap.size b ⟨p.B,side,ra,rc,rows,lb⟩ ⟨p.B,26,d.now.length - 26,firstOf d side,used⟩)
theorem foldRows_step {r:List Ch}{P:List PartC}{i:Nat}(hi:i<P.length):foldRows r ((P.map (·.l)).drop i)=if 12<(appliedC r P[i].l).length then none else foldRows (appliedC r P[i].l) ((P.map (·.l)).drop (i+1)):=by
  rw [List.drop_eq_getElem_cons (by simpa using hi)]
  simp only [foldRows,List.getElem_map]
theorem applied_ok {rows l:List Ch}(h1:∀ c ∈ rows,changeF c=0)(h2:∀ c ∈ l,changeF c=0):∀ c ∈ appliedC rows l,changeF c=0:=by
  induction l generalizing rows with
  | nil=>exact h1
  | cons x r ih =>
    intro c hc
    refine ih (rows:=layC x x.gone rows) (fun y hy=>?_) (fun y hy=>h2 y (List.mem_cons_of_mem _ hy)) c hc
    rcases layC_mem x hy with ⟨rfl,_⟩ | hy
    · exact h2 _ (by simp)
    · exact h1 y hy
theorem applyOwn_any (a a':Option Addr)(c c':Nat)(R l:List Ch)(W:World)(h1:R.length≤100)(h2:l.length≤100)(hr:Rowed R)(hs:SliceC W a c R)(hs':SliceC W a' c' l) :
    Calls Tryz.prog 92 #[.slice a R.length c,.slice a' l.length c'] W fun e w'=>∃ va vc,e=.returned (.slice va (appliedC R l).length vc)∧OwnsC w' W.heap.size (.slice va (appliedC R l).length vc) (appliedC R l)∧Below W.heap.size W w':=by
  refine (rowApply_any a a' c c' R l W h1 h2 hs hs').mono ?_
  rintro e w' ⟨v,S,rfl,hst,ho,hb⟩
  rw [keepLast_applied hr hst] at ho
  obtain ⟨va,vc,hv,-⟩:=OwnsC.files ho
  subst hv
  exact ⟨va,vc,rfl,ho,hb⟩
set_option maxRecDepth 100000 in
set_option maxHeartbeats 4000000 in
theorem storeOpen_any (p:Dp) (d:Dk) (w:World) (h:DiskAt w p d) (hup:d.down=false) (h42:42≤d.now.length) :
    Calls Tryz.prog 61 #[.pointer (some ⟨p.B,0,none⟩)] w fun e w'=>OpenSays w p d e w':=by
  have HD:Hid (DiskAt w p d):=h
  have h60:=h.few
  have KL:Hid _:=laid_says p d w h hup h42
  clear h
  go_enter Tryz.func61,Tryz.ntmps61
  go_wp2_with fail
  refine Calls.mono KL.out ?_
  rintro e w1 ⟨hb1,hor⟩
  have HB1:Hid (Below w.heap.size w w1):=hb1
  have HD1:Hid (DiskAt w1 p d):=HD.out.below hb1
  clear hb1 KL
  rcases hor with ⟨hno,rfl⟩ | ⟨side,rows,va,vc,hyes,rfl,ho⟩
  · have HO:Hid (openD d=none):=by show _=_;unfold openD;rw [hno]
    clear hno
    go_wp2
    go_ret2
    exact ⟨HB1.out,.inl ⟨HO.out,rfl⟩⟩
  · obtain ⟨hs1,hwh⟩:=laidX_some hyes
    obtain ⟨hr1,hr2,hr3⟩:=whOf_rows hwh
    have HROW:Hid (Rowed rows∧∀ c ∈ rows,changeF c=0):=⟨hr1,hr2⟩
    have HLX:Hid (laidX (whOf d)=some (side,rows)):=hyes
    have HOWN:Hid (OwnsC w1 w.heap.size (.slice va rows.length vc) rows):=ho
    have KS:Hid _:=storeLogSectors_any p d w1 HD1.out
    have kf:=storeFirst_any p d side w1 HD1.out hs1 (by omega)
    obtain ⟨fs,hfs⟩:∃ fs,fs=firstOf d side:=⟨_,rfl⟩
    have HFS:Hid (fs=firstOf d side):=hfs
    have KF:Hid (Calls Tryz.prog 91 #[.pointer (some ⟨p.B,0,none⟩),.int .i64 side] w1 fun e w'=>e=.returned (.int .i64 fs)∧w'=w1):=by rw [hfs];exact kf
    have hf1:1≤fs∧fs≤1000:=by
      rw [hfs]
      unfold firstOf
      have:(1 - side) * (d.now.length - 26)≤1 * 34:=Nat.mul_le_mul (by omega) (by omega)
      omega
    obtain ⟨many,hmany⟩:∃ many,many=d.now.length - 26:=⟨_,rfl⟩
    have HMANY:Hid (many=d.now.length - 26):=hmany
    have hmz:(d.now.length:Int) - 26=(many:Int):=by omega
    rw [hmz] at KS
    have KO:Hid _:=logOpen_good p d 26 many fs w1 HD1.out hup (by omega) hf1.1 (by omega) (by omega)
    clear hs1 hwh hr1 hr2 hyes ho kf hfs hmany hmz hf1
    go_wp2_with fail
    refine Calls.mono KS.out ?_
    rintro e w2 ⟨rfl,hw⟩
    rw [hw]
    clear hw w2 KS
    go_wp2_with fail
    refine Calls.mono KF.out ?_
    rintro e w2 ⟨rfl,hw⟩
    rw [hw]
    clear hw w2 KF
    go_wp2_with fail
    refine Calls.mono KO.out ?_
    rintro e w2 ⟨b,vd,vo,P,base,opn,rfl,hlb,hlog,hds,hdl,hd2,hb2,hPl⟩
    obtain ⟨da,dc,hvd⟩:=row_slice hds.row
    subst hvd
    obtain ⟨used,hused⟩:∃ used,used=(logOf rdC d.now 26 many fs).2:=⟨_,rfl⟩
    have HUSED:Hid (used=(logAtD d side).2):=by show _=_;rw [hused];unfold logAtD;rw [HMANY.out,HFS.out]
    have HLOG:Hid (LogAt w2 b ⟨p.B,26,many,fs,used⟩):=by rw [hused];exact hlog
    have HDS:Hid (DS w2 w1.heap.size base (.slice da P.length dc) vo P opn):=hds
    have HDL:Hid (P.map (·.l)=(logAtD d side).1):=by show _=_;rw [hdl];unfold logAtD;rw [HMANY.out,HFS.out]
    have HPOK:Hid (∀ i (h:i<P.length),(∀ c ∈ P[i].l,changeF c=0)∧P[i].l.length≤34):=fun i h=>by
      have hm:P[i].l ∈ (logOf rdC d.now 26 many fs).1:=by rw [← hdl];exact List.mem_map.2 ⟨P[i],List.getElem_mem h,rfl⟩
      obtain ⟨q1,q2⟩:=logOf_ok rdC rdC_ok _ hm
      exact ⟨q1,by have:=HMANY.out;omega⟩
    have HB2:Hid (Below w.heap.size w w2):=HB1.out.trans (hb2.mono HB1.out.size)
    have HOWN2:Hid (OwnsC w2 w.heap.size (.slice va rows.length vc) rows):=ownsRow_far HOWN.out (fun k hk=>hb2.block k (HOWN.out.lt k hk).2)
    have HLB:Hid (w.heap.size≤b):=Nat.le_trans HB1.out.size hlb
    have hP60:P.length≤60:=by have:=HMANY.out;omega
    clear hlog hds hdl hd2 hb2 hPl hlb hused KO
    go_wp2_with fail
    go_loopg [5,36] (P.length+1) (fun kx v5 vi wr=>∃ (i:Nat) (a:Option Addr) (n c:Nat) (R:List Ch),vi=.int .i64 i∧v5=.slice a n c∧n=R.length∧n≤12∧i≤P.length∧P.length - i≤kx∧Hid (Below w2.heap.size w2 wr)∧Hid (OwnsC wr w.heap.size (.slice a n c) R)∧Hid (foldRows rows (P.map (·.l))=foldRows R ((P.map (·.l)).drop i))∧Hid (Rowed R∧∀ c ∈ R,changeF c=0))
    case atStart=>exact ⟨0,va,rows.length,vc,rows,rfl,rfl,rfl,hr3,by omega,by omega,Below.refl _ _,HOWN2,rfl,HROW⟩
    case round =>
      obtain ⟨i,a,n,c,R,rfl,rfl,hn,hn12,hi,hix,HBR,HOR,HFR,HRR⟩:=hrel
      have HN:Hid (n=R.length):=hn
      clear hn
      by_cases hlt:i<P.length
      · have hltz:(i:Int)<(P.length:Int):=by omega
        obtain ⟨cb,co,rfl,ci,hsl⟩:=ds_at (ds_below HDS.out HBR.out) hlt
        obtain ⟨q1,q2⟩:=HPOK.out i hlt
        have KA:Hid (Calls Tryz.prog 92 #[.slice a n c,.slice P[i].a P[i].l.length P[i].cap] wr fun e w'=>∃ va vc,e=.returned (.slice va (appliedC R P[i].l).length vc)∧OwnsC w' wr.heap.size (.slice va (appliedC R P[i].l).length vc) (appliedC R P[i].l)∧Below wr.heap.size wr w'):=by
          have hsr:SliceC wr a c R:=by
            obtain ⟨a',c',e,hcc,hnil,-⟩:=OwnsC.files HOR.out
            injection e with e1 e2 e3
            exact ⟨by rw [e1];exact hcc,by rw [e1,e3];exact hnil⟩
          rw [HN.out]
          exact applyOwn_any a P[i].a c P[i].cap R P[i].l wr (by have:=HN.out;omega) (by omega) HRR.out.1 hsr hsl
        have HST:Hid (foldRows R ((P.map (·.l)).drop i)=if 12<(appliedC R P[i].l).length then none else foldRows (appliedC R P[i].l) ((P.map (·.l)).drop (i+1))):=foldRows_step hlt
        have HRN:Hid (Rowed (appliedC R P[i].l)∧∀ c ∈ appliedC R P[i].l,changeF c=0):=⟨applied_rowed HRR.out.1,applied_ok HRR.out.2 q1⟩
        obtain ⟨R',hR'⟩:∃ R',R'=appliedC R P[i].l:=⟨_,rfl⟩
        obtain ⟨m,hm⟩:∃ m,m=R'.length:=⟨_,rfl⟩
        rw [← hR',← hm] at KA HST
        rw [← hR'] at HRN
        have HM:Hid (m=R'.length):=hm
        clear hR' hm hsl q1 q2
        go_wp2_with fail
        refine Calls.mono KA.out ?_
        rintro e w5 ⟨va5,vc5,rfl,ho5,hb5⟩
        have HB5:Hid (Below w2.heap.size w2 w5):=HBR.out.trans (hb5.mono HBR.out.size)
        have HO5:Hid (OwnsC w5 w.heap.size (.slice va5 m vc5) R'):=OwnsC.base ho5 (Nat.le_trans HB2.out.size HBR.out.size)
        clear ho5 hb5 KA
        by_cases h12:12<m
        · have h12z:(12:Int)<(m:Int):=by omega
          have HO:Hid (openD d=none):=by
            show _=_
            unfold openD
            rw [HLX.out]
            simp only
            rw [← HDL.out,HFR.out,HST.out,if_pos h12]
          go_wp2
          go_ret2
          exact ⟨HB2.out.trans (HB5.out.mono HB2.out.size),.inl ⟨HO.out,rfl⟩⟩
        · have h12z:¬ (12:Int)<(m:Int):=by omega
          have HFR2:Hid (foldRows rows (P.map (·.l))=foldRows R' ((P.map (·.l)).drop (i+1))):=by show _=_;rw [HFR.out,HST.out,if_neg h12]
          go_wp2
          go_roundg (P.length - (i+1))
          case measure=>omega
          case rel=>exact ⟨i+1,va5,m,vc5,R',by go_num,rfl,HM.out,by omega,by omega,Nat.le_refl _,HB5,HO5,HFR2,HRN⟩
      · have hge:¬ (i:Int)<(P.length:Int):=by omega
        have HO:Hid (openD d=some (side,R,used)):=by
          show _=_
          unfold openD
          rw [HLX.out]
          simp only
          rw [← HDL.out,HFR.out,List.drop_eq_nil_of_le (by rw [List.length_map];omega)]
          simp only [foldRows]
          rw [HUSED.out]
        go_wp2
        go_ret2
        have hb:=HB2.out.trans (HBR.out.mono HB2.out.size)
        have hl:LogAt wr b ⟨p.B,26,many,fs,used⟩:=(HLOG.out).below HBR.out
        refine ⟨hb.alloc hb.size _,.inr ⟨wr.heap.size,side,R,used,a,c,b,HO.out,(laidX_some HLX.out).1,HRR.out.1,by rw [← HN.out];exact hn12,HRR.out.2,rfl,⟨⟨?_,?_⟩,?_,?_,hb.size,HLB.out⟩⟩⟩
        · rw [← HN.out]
          exact heap_alloc_new wr _
        · obtain ⟨a',c',e,hcc,hnil,-⟩:=OwnsC.files HOR.out
          injection e with e1 e2 e3
          exact SliceC.below ⟨by rw [e1];exact hcc,by rw [e1,e3];exact hnil⟩ ((Below.refl _ _).alloc (Nat.le_refl _) _)
        · rw [← HN.out]
          exact (HOR.out).alloc _
        · rw [HMANY.out,HFS.out] at hl
          exact hl.below ((Below.refl _ _).alloc (Nat.le_refl _) _)
end Go.Proofs.YtihnghnafpgdfadGreatDoor
