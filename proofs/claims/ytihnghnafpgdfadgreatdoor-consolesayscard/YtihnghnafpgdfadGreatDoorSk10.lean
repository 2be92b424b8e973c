/- What the proofs stand on, part 10: DiskFlush. -/
import Derived.Laws.IdiomStrings
import Derived.Deep.MidRow
import Derived.Below
import Derived.Laws.CopyOwn
import Derived.Laws.AppendOwn
import Derived.Laws.MakeOwn
import Derived.Test.YtihnghnafpgdfadGreatDoorSk01
set_option linter.unusedVariables false
set_option linter.unusedSimpArgs false
set_option maxRecDepth 100000
set_option maxHeartbeats 1000000
namespace Go.Proofs.YtihnghnafpgdfadGreatDoor
open Go.RowKit
variable {w w':World}{B b i n size:Nat}{C:Array Value}{e t:TypeId}{v:Value}{Q:Exit→Act→World→Prop}
def zaI (s:List UInt8):List Value:=s.map (fun b=>Value.int .u8 (b.toNat:Int))
theorem zaR (s:List UInt8):(zaI s).length=s.length:=by simp [zaI]
def zbr:List (List UInt8)→List Value
 | []=>[]
 | s :: l=>zaI s ++ zbr l
def zgu (l:List (List UInt8)):Prop:=∀ s ∈ l,s.length=40
theorem zbX:∀ {l:List (List UInt8)},zgu l→(zbr l).length=l.length * 40
 | [],_=>rfl
 | s :: l,h=>by
   have:=zbX (l:=l) (fun x hx=>h x (List.mem_cons_of_mem _ hx));have h2:=h s (by simp);simp only [zbr,List.length_append,zaR,List.length_cons];omega
theorem zpn:∀ {l:List (List UInt8)},zgu l→∀ (i:Nat) (hi:i<l.length) (j:Nat),j<40→(zbr l)[i * 40+j]?=(zaI l[i])[j]?
 | s :: l,h,0,hi,j,hj=>by
   have h2:=h s (by simp);simp only [zbr,Nat.zero_mul,Nat.zero_add,List.getElem_cons_zero];rw [List.getElem?_append_left (by rw [zaR];omega)]
 | s :: l,h,i+1,hi,j,hj=>by
   have h2:=h s (by simp);have:=zpn (l:=l) (fun x hx=>h x (List.mem_cons_of_mem _ hx)) i (by simpa using hi) j hj;simp only [zbr,List.getElem_cons_succ];rw [List.getElem?_append_right (by rw [zaR];omega),zaR,h2,← this]
   congr 1
   omega
structure Wr where
 spot:Nat
 bit:Nat
 data:List UInt8
def wrV (x:Wr):List Value:=.int .i64 x.spot :: .int .i64 x.bit :: zaI x.data
def zgL:List Wr→List Value
 | []=>[]
 | x :: l=>wrV x ++ zgL l
structure Dk where
 now:List (List UInt8)
 kept:List (List UInt8)
 wr:List Wr
 bit:Nat
 left:Int
 down:Bool
structure Dp where
 lo:Nat
 B:Nat
 gn:Nat
 gk:Nat
 wv:Value
structure zab (w:World)(p:Dp)(d:Dk):Prop where
 blk:w.heap[p.B]?=some (.cells #[.slice (some ⟨p.gn,0,none⟩) d.now.length d.now.length,.slice (some ⟨p.gk,0,none⟩) d.now.length d.now.length,p.wv,.int .i64 d.bit,.int .i64 d.left,.bool d.down] 78 (0,0))
 now:w.heap[p.gn]?=some (.cells (zbr d.now).toArray 84 (0,0))
 kept:w.heap[p.gk]?=some (.cells (zbr d.kept).toArray 84 (0,0))
 snow:zgu d.now
 skept:zgu d.kept
 lens:d.kept.length=d.now.length
 few:d.now.length≤60
 wr:w.ownsRow p.lo 86 42 p.wv d.wr.length (zgL d.wr)
 swr:∀ x ∈ d.wr,x.data.length=40∧x.spot<d.now.length∧x.bit<64
 bits:d.bit<64
 low : -9223372036854775808≤d.left∧d.left≤9223372036854775807
 ne1:p.B≠p.gn
 ne2:p.B≠p.gk
 ne3:p.gn≠p.gk
 ne4:p.wv.ownBlock≠some p.B
 ne5:p.wv.ownBlock≠some p.gn
 ne6:p.wv.ownBlock≠some p.gk
 lo1:p.lo≤p.B
 lo2:p.lo≤p.gn
 lo3:p.lo≤p.gk
 idle:d.wr=[]→p.wv=.slice none 0 0
theorem zaa {fr:Nat × Nat}(h:w.heap[b]?=some (.cells C t fr))(i:Nat):w.cell? ⟨b,i,none⟩=C[i]?:=by
 simp [World.cell?,h]
theorem zaE (h:w.heap[b]?=some (.cells C t (0,0)))(i:Nat):w.frozen? ⟨b,i,none⟩=false:=by
 simp [World.frozen?,h]
theorem zab.cells {p:Dp}{d:Dk}(h:zab w p d):w.cell? ⟨p.B,0,none⟩=some (.slice (some ⟨p.gn,0,none⟩) d.now.length d.now.length)∧w.cell? ⟨p.B,1,none⟩=some (.slice (some ⟨p.gk,0,none⟩) d.now.length d.now.length)∧w.cell? ⟨p.B,2,none⟩=some p.wv∧w.cell? ⟨p.B,3,none⟩=some (.int .i64 d.bit)∧w.cell? ⟨p.B,4,none⟩=some (.int .i64 d.left)∧w.cell? ⟨p.B,5,none⟩=some (.bool d.down) :=
 ⟨by rw [zaa h.blk];rfl,by rw [zaa h.blk];rfl,by rw [zaa h.blk];rfl,by rw [zaa h.blk];rfl,by rw [zaa h.blk];rfl,by rw [zaa h.blk];rfl⟩
theorem zab.fr {p:Dp}{d:Dk}(h:zab w p d):∀ i,w.frozen? ⟨p.B,i,none⟩=false:=fun i=>zaE h.blk i
theorem zab.sector {p:Dp}{d:Dk}(h:zab w p d)(hi:i<d.now.length):∀ j (hj:j<d.now[i].length),w.cell? ((⟨p.gn,i * 40,none⟩:Addr).add j)=some (.int .u8 (d.now[i][j].toNat:Int)):=by
 intro j hj;have h40:=h.snow _ (List.getElem_mem hi);rw [Addr.add_mid,zaa h.now,List.getElem?_toArray,zpn h.snow i hi j (by omega)];simp [zaI,hj]
theorem zh4 (p:Dp)(d:Dk)(k:Int)(w:World)(h:zab w p d) :
 Calls Tryz.prog 53 #[.pointer (some ⟨p.B,0,none⟩),.int .i64 k] w fun e w'=>e=.returned (.bool (decide (0≤k) && decide (k<(d.now.length:Int))))∧w'=w:=by
 have HD:Hid (zab w p d):=h;obtain ⟨c0,c1,c2,c3,c4,c5⟩:=h.cells;clear h
 by_cases h0:0≤k
 · go_enter Tryz.func53,Tryz.ntmps53
   go_wp2;go_ret;exact ⟨zbS (by simp [h0]),rfl⟩
 · go_enter Tryz.func53,Tryz.ntmps53
   go_wp2;go_ret;exact ⟨zbS (by rw [decide_eq_false (by omega)];rfl),rfl⟩
theorem zff (p:Dp)(d:Dk)(w:World)(h:zab w p d) :
 Calls Tryz.prog 121 #[.pointer (some ⟨p.B,0,none⟩)] w fun e w'=>e=.returned (.int .i64 d.now.length)∧w'=w:=by
 have HD:Hid (zab w p d):=h;obtain ⟨c0,c1,c2,c3,c4,c5⟩:=h.cells;clear h
 go_enter Tryz.func121,Tryz.ntmps121
 go_wp2;go_ret;exact ⟨rfl,rfl⟩
theorem zsQ (p:Dp)(d:Dk)(w:World)(h:zab w p d) :
 Calls Tryz.prog 125 #[.pointer (some ⟨p.B,0,none⟩)] w fun e w'=>e=.returned (.bool d.down)∧w'=w:=by
 have HD:Hid (zab w p d):=h;obtain ⟨c0,c1,c2,c3,c4,c5⟩:=h.cells;clear h
 go_enter Tryz.func125,Tryz.ntmps125
 go_wp2;go_ret;exact ⟨rfl,rfl⟩
def zgK (d:Dk)(k:Int):List UInt8 × Int:=if d.down=true then ([],8) else if 0≤k∧k<(d.now.length:Int) then (d.now.getD k.toNat [],0) else ([],1)
theorem zfP (p:Dp) (d:Dk) (k:Int) (w:World) (h:zab w p d) :
 Calls Tryz.prog 160 #[.pointer (some ⟨p.B,0,none⟩),.int .i64 k] w fun e w'=>e=.returned (.tuple #[.string ⟨(zgK d k).1.toArray⟩,errV (zgK d k).2])∧w'=w:=by
 have HD:Hid (zab w p d):=h;obtain ⟨c0,c1,c2,c3,c4,c5⟩:=h.cells;clear h;cases hdn:d.down
 · rw [hdn] at c5
   by_cases hk:0≤k∧k<(d.now.length:Int)
   · obtain ⟨i,rfl⟩:∃ i:Nat,k=i:=⟨k.toNat,by omega⟩
     have hi:i<d.now.length:=by omega
     have h40:=HD.out.snow _ (List.getElem_mem hi);have hcv:=run_convert_bytes_back (P:=Tryz.prog) w 115 9 5 ⟨p.gn,i * 40,none⟩ 40 d.now[i] (by kernel_rfl) (by kernel_rfl) (by kernel_rfl) (HD.out.sector hi);rw [h40] at hcv
     have hrd:zgK d i=(d.now[i],0):=by
      simp [zgK,hdn,hi]
     have HRD:Hid (zgK d i=(d.now[i],0)):=hrd;have hb:(decide ((0:Int)≤(i:Int)) && decide ((i:Int)<(d.now.length:Int)))=true:=by simp;omega
     have h60:=HD.out.few;clear hrd hdn h40
     go_enter Tryz.func160,Tryz.ntmps160
     go_wp2_with (go_at_call 53;refine (zh4 p d i w HD.out).mono ?_;rintro e w' ⟨rfl,rfl⟩;rw [hb])
     go_ret2;rw [HRD.out];exact ⟨rfl,rfl⟩
   · have HRD:Hid (zgK d k=([],1)):=by
      show _=_;simp only [zgK,hdn,Bool.false_eq_true,if_false];rw [if_neg hk]
     have hb:(decide ((0:Int)≤k) && decide (k<(d.now.length:Int)))=false:=by
      rw [Bool.eq_false_iff];intro e;simp at e;exact hk e
     clear hk hdn
     go_enter Tryz.func160,Tryz.ntmps160
     go_wp2_with (go_at_call 53;refine (zh4 p d k w HD.out).mono ?_;rintro e w' ⟨rfl,rfl⟩;rw [hb])
     go_ret2;rw [HRD.out];exact ⟨rfl,rfl⟩
 · rw [hdn] at c5
   have HRD:Hid (zgK d k=([],8)):=by
    show _=_;simp [zgK,hdn]
   clear hdn
   go_enter Tryz.func160,Tryz.ntmps160
   go_wp2_with (go_at_call 53;fail)
   go_ret2;rw [HRD.out];exact ⟨rfl,rfl⟩
structure Near (p:Dp)(w w':World):Prop where
 os:w'.os=w.os
 tape:w'.tape=w.tape
 output:w'.output=w.output
 size:w.heap.size≤w'.heap.size
 block:∀ k,k<w.heap.size→k≠p.B→k≠p.gn→k≠p.gk→p.wv.ownBlock≠some k→w'.heap[k]?=w.heap[k]?
theorem Near.refl (p:Dp)(w:World):Near p w w:=⟨rfl,rfl,rfl,Nat.le_refl _,fun _ _ _ _ _ _=>rfl⟩
theorem Near.trans {p:Dp}{a b c:World}(h:Near p a b)(k:Near p b c):Near p a c :=
 ⟨k.os.trans h.os,k.tape.trans h.tape,k.output.trans h.output,Nat.le_trans h.size k.size,fun i hi h1 h2 h3 h4=>(k.block i (Nat.lt_of_lt_of_le hi h.size) h1 h2 h3 h4).trans (h.block i hi h1 h2 h3 h4)⟩
theorem zaZ {fr:Nat × Nat}(h:w.heap[b]?=some (.cells C t fr))(i:Nat)(v:Value):(w.setCell ⟨b,i,none⟩ v).heap[b]?=some (.cells (C.setIfInBounds i v) t fr):=by
 simp [World.setCell,Array.getElem?_modify,h]
theorem zab.put {p:Dp}{d:Dk}(h:zab w p d){d':Dk}(hw:d'.now=d.now∧d'.kept=d.kept∧d'.wr=d.wr)
 (hb:(#[.slice (some ⟨p.gn,0,none⟩) d.now.length d.now.length,.slice (some ⟨p.gk,0,none⟩) d.now.length d.now.length,p.wv,.int .i64 d.bit,.int .i64 d.left,.bool d.down]:Array Value).setIfInBounds i v=#[.slice (some ⟨p.gn,0,none⟩) d.now.length d.now.length,.slice (some ⟨p.gk,0,none⟩) d.now.length d.now.length,p.wv,.int .i64 d'.bit,.int .i64 d'.left,.bool d'.down])
 (hbit:d'.bit<64) (hlow : -9223372036854775808≤d'.left∧d'.left≤9223372036854775807) :
 zab (w.setCell ⟨p.B,i,none⟩ v) p d'∧Near p w (w.setCell ⟨p.B,i,none⟩ v):=by
 obtain ⟨e1,e2,e3⟩:=hw;have hk:∀ k,k≠p.B→(w.setCell ⟨p.B,i,none⟩ v).heap[k]?=w.heap[k]?:=fun k hk=>Below.heap_setCell w ⟨p.B,i,none⟩ v k hk
 refine ⟨⟨?_,?_,?_,?_,?_,?_,?_,?_,?_,hbit,hlow,h.ne1,h.ne2,h.ne3,h.ne4,h.ne5,h.ne6,h.lo1,h.lo2,h.lo3,fun e=>h.idle (by rw [← e3];exact e)⟩,⟨rfl,rfl,rfl,?_,fun k _ h1 _ _ _=>hk k h1⟩⟩
 · rw [zaZ h.blk,hb,e1]
 · rw [hk _ (Ne.symm h.ne1),e1];exact h.now
 · rw [hk _ (Ne.symm h.ne2),e2];exact h.kept
 · rw [e1];exact h.snow
 · rw [e2];exact h.skept
 · rw [e1,e2];exact h.lens
 · rw [e1];exact h.few
 · rw [e3]
   refine ⟨h.wr.1,?_⟩;rcases h.wr.2 with h0 | ⟨g,cap,cur,e,hg,hh,rest⟩
   · exact .inl h0
   · refine .inr ⟨g,cap,cur,e,hg,?_,rest⟩
     rw [hk g (fun e0=>h.ne4 (by rw [e];simp [Value.ownBlock,e0]))];exact hh
 · rw [e1,e3];exact h.swr
 · simp
def zaK (d:Dk):Dk:=if d.down=true∨d.left=0 then { d with down:=true } else if 0<d.left then { d with left:=d.left - 1 } else d
def zb1 (d:Dk):Int:=if d.down=true∨d.left=0 then 8 else 0
theorem ziQ (p : Dp) (d : Dk) (w:World) (h:zab w p d) :
 Calls Tryz.prog 54 #[.pointer (some ⟨p.B,0,none⟩)] w fun e w'=>e=.returned (errV (zb1 d))∧zab w' p (zaK d)∧Near p w w':=by
 have HD:Hid (zab w p d):=h;obtain ⟨c0,c1,c2,c3,c4,c5⟩:=h.cells;have f4:=h.fr 4;have f5:=h.fr 5;have hlow:=h.low;clear h
 by_cases h8:d.down=true∨d.left=0
 · have e1:zb1 d=8:=by simp [zb1,h8]
   have e2:zaK d={ d with down:=true }:=by simp [zaK,h8]
   rw [e1,e2];clear e1 e2;have hput:=HD.out.put (i:=5) (v:=.bool true) (d':={ d with down:=true }) ⟨rfl,rfl,rfl⟩ rfl HD.out.bits HD.out.low;have HP:Hid _:=hput;clear hput;cases hdn:d.down
   · have hl0 : d.left = 0 := by rcases h8 with h | h;· rw [hdn] at h;cases h
                                 · exact h
     rw [hdn] at c5;rw [hl0] at c4;clear hdn hl0 h8 hlow
     go_enter Tryz.func54,Tryz.ntmps54
     go_wp2;go_ret;exact ⟨rfl,HP.out.1,HP.out.2⟩
   · rw [hdn] at c5
     clear hdn h8 hlow
     go_enter Tryz.func54,Tryz.ntmps54
     go_wp2;go_ret;exact ⟨rfl,HP.out.1,HP.out.2⟩
 · have e1:zb1 d=0:=by simp [zb1,h8]
   have hdn : d.down = false := by cases hx:d.down;· rfl
                                   · exact absurd (.inl hx) h8
   have hl0:¬ d.left=0:=fun e=>h8 (.inr e)
   have hl1:(d.left == 0)=false:=by simp [hl0]
   have hput:=HD.out.put (i:=5) (v:=.bool false) (d':=d) ⟨rfl,rfl,rfl⟩ (by rw [hdn];rfl) HD.out.bits HD.out.low
   by_cases hpos:0<d.left
   · have e2:zaK d={ d with left:=d.left - 1 }:=by simp [zaK,h8,hpos]
     rw [e1,e2];have hput2:=hput.1.put (i:=4) (v:=.int .i64 (d.left - 1)) (d':={ d with left:=d.left - 1 }) ⟨rfl,rfl,rfl⟩ rfl HD.out.bits (by simp;omega);have HP:Hid _:=hput2;have HN:Hid _:=hput.2.trans hput2.2;rw [hdn] at c5;clear hput hput2 e1 e2 h8 hdn
     go_enter Tryz.func54,Tryz.ntmps54
     go_wp2;go_ret;exact ⟨rfl,HP.out.1,HN.out⟩
   · have e2:zaK d=d:=by simp [zaK,h8,hpos]
     rw [e1,e2];have HP:Hid _:=hput;rw [hdn] at c5;clear hput e1 e2 h8 hdn
     go_enter Tryz.func54,Tryz.ntmps54
     go_wp2;go_ret;exact ⟨rfl,HP.out.1,HP.out.2⟩
theorem zab.settle {p:Dp}{d:Dk}(h:zab w p d):
 zab ((w.setCell ⟨p.B,2,none⟩ (.slice none 0 0)).setCell ⟨p.B,3,none⟩ (.int .i64 0)) { p with wv:=.slice none 0 0 } { d with wr:=[],bit:=0 }∧Near p w ((w.setCell ⟨p.B,2,none⟩ (.slice none 0 0)).setCell ⟨p.B,3,none⟩ (.int .i64 0)):=by
 have hk:∀ k,k≠p.B→((w.setCell ⟨p.B,2,none⟩ (.slice none 0 0)).setCell ⟨p.B,3,none⟩ (.int .i64 0)).heap[k]?=w.heap[k]?:=fun k hk=>by
  rw [Below.heap_setCell _ ⟨p.B,3,none⟩ _ k hk,Below.heap_setCell w ⟨p.B,2,none⟩ _ k hk]
 refine ⟨⟨?_,?_,?_,h.snow,h.skept,h.lens,h.few,World.ownsRow_nil _ _ _ _,fun x hx=>by simp at hx,Nat.zero_lt_succ _,h.low,h.ne1,h.ne2,h.ne3,by simp [Value.ownBlock],by simp [Value.ownBlock],by simp [Value.ownBlock],h.lo1,h.lo2,h.lo3,fun _=>rfl⟩,⟨rfl,rfl,rfl,by simp,fun k _ h1 _ _ _=>hk k h1⟩⟩
 · exact zaZ (zaZ h.blk 2 _) 3 _
 · rw [hk _ (Ne.symm h.ne1)];exact h.now
 · rw [hk _ (Ne.symm h.ne2)];exact h.kept
theorem zj9 (p:Dp)(d:Dk)(w:World)(h:zab w p d) :
 Calls Tryz.prog 32 #[.pointer (some ⟨p.B,0,none⟩)] w fun e w'=>e=.returned (.tuple #[])∧zab w' { p with wv:=.slice none 0 0 } { d with wr:=[],bit:=0 }∧Near p w w':=by
 have HD:Hid (zab w p d):=h;obtain ⟨c0,c1,c2,c3,c4,c5⟩:=h.cells;have f2:=h.fr 2;have f3:=h.fr 3;clear h
 go_enter Tryz.func32,Tryz.ntmps32
 go_wp2;refine bodyPost_end (results_none rfl _ _ _) rfl ?_;exact ⟨rfl,HD.out.settle.1,HD.out.settle.2⟩
theorem Tryz.sizeSector:(Tryz.prog.info? 84).map (·.size)=some 40:=by kernel_rfl
theorem zri (l:List (List UInt8)):∀ v ∈ zbr l,v.oneCell'=true:=by
 induction l with
 | nil=>intro v hv;simp [zbr] at hv
 | cons s l ih =>
   intro v hv;simp only [zbr,List.mem_append] at hv;rcases hv with hv | hv
   · simp only [zaI,List.mem_map] at hv
     obtain ⟨b,_,rfl⟩:=hv
     rfl
   · exact ih v hv
theorem zfn (w:World)(g h n:Nat)(cur:Array Value)(l:List (List UInt8))(hl:zgu l)(hn:l.length=n)(hg:w.heap[g]?=some (.cells cur 84 (0,0)))(hs:cur.size=n * 40)(hh:w.heap[h]?=some (.cells (zbr l).toArray 84 (0,0)))(ty:TypeId) :
 (Builtin.copy_ #[75,75] ty #[.slice (some ⟨g,0,none⟩) n n,.slice (some ⟨h,0,none⟩) n n]).run Tryz.prog w=.ok (goInt n) (w.setRow g (zbr l).toArray):=by
 have hfl:=zbX hl
 have hld:=run_loadCells_list (P:=Tryz.prog) w ⟨h,0,none⟩ (zbr l) (fun j v hv=>by
  rw [Addr.add_mid,Nat.zero_add,zaa hh,List.getElem?_toArray];exact hv)
 have hst:=run_storeCells_at Tryz.prog g 0 84 (zbr l) 0 cur w hg (by simp;omega) (zri l);cases hq:Tryz.prog.info? 84 with
 | none=>have:=Tryz.sizeSector;simp [hq] at this
 | some i =>
   have hi:i.size=40:=by have:=Tryz.sizeSector;simpa [hq] using this
   rw [hfl,hn] at hld;have hu:Tryz.prog.underlying 75=some (.slice 84):=by kernel_rfl
   have e:(cur.toList.take 0 ++ zbr l ++ cur.toList.drop (0+(zbr l).length)).toArray=(zbr l).toArray:=by
    rw [List.take_zero,List.nil_append,List.drop_eq_nil_of_le (by simp;omega),List.append_nil]
   simp [Builtin.copy_,run_underlying hu,Builtin.lenOf,Builtin.firstCells,sizeOf,typeInfo,hq,hi,hld,hst];rw [List.drop_eq_nil_of_le (by simp;omega),List.append_nil]
theorem zcK (w:World)(g k:Nat)(cs:Array Value)(h:k≠g):(w.setRow g cs).heap[k]?=w.heap[k]?:=by
 simp [World.setRow,Array.getElem?_modify,Ne.symm h]
theorem zaj {xs:List Value}(h:w.ownsRow B e size v n xs)(hk:∀ g,v.ownBlock=some g→w'.heap[g]?=w.heap[g]?):w'.ownsRow B e size v n xs:=by
 refine ⟨h.1,?_⟩;rcases h.2 with h0 | ⟨g,cap,cur,e,hg,hh,rest⟩
 · exact .inl h0
 · exact .inr ⟨g,cap,cur,e,hg,by rw [hk g (by rw [e];rfl)];exact hh,rest⟩
theorem zab.keepAll {p:Dp}{d:Dk}(h:zab w p d):zab (w.setRow p.gk (zbr d.now).toArray) p { d with kept:=d.now }∧Near p w (w.setRow p.gk (zbr d.now).toArray):=by
 refine ⟨⟨?_,?_,?_,h.snow,h.snow,rfl,h.few,?_,h.swr,h.bits,h.low,h.ne1,h.ne2,h.ne3,h.ne4,h.ne5,h.ne6,h.lo1,h.lo2,h.lo3,h.idle⟩,⟨rfl,rfl,rfl,by simp [World.setRow],fun k _ _ _ h3 _=>zcK w p.gk k _ h3⟩⟩
 · rw [zcK w p.gk p.B _ h.ne2];exact h.blk
 · rw [zcK w p.gk p.gn _ h.ne3];exact h.now
 · exact setRow_heap w p.gk _ _ _ _ h.kept
 · exact zaj h.wr (fun g hg=>zcK w p.gk g _ (fun e=>h.ne6 (by rw [hg,e])))
theorem zab.backAll {p:Dp}{d:Dk}(h:zab w p d):zab (w.setRow p.gn (zbr d.kept).toArray) p { d with now:=d.kept }∧Near p w (w.setRow p.gn (zbr d.kept).toArray):=by
 refine ⟨⟨?_,?_,?_,h.skept,h.skept,rfl,by rw [h.lens];exact h.few,?_,fun x hx=>by rw [h.lens];exact h.swr x hx,h.bits,h.low,h.ne1,h.ne2,h.ne3,h.ne4,h.ne5,h.ne6,h.lo1,h.lo2,h.lo3,h.idle⟩,⟨rfl,rfl,rfl,by simp [World.setRow],fun k _ _ h2 _ _=>zcK w p.gn k _ h2⟩⟩
 · rw [zcK w p.gn p.B _ h.ne1]
   have:=h.blk;rw [← h.lens] at this
   exact this
 · exact setRow_heap w p.gn _ _ _ _ h.now
 · rw [zcK w p.gn p.gk _ (Ne.symm h.ne3)];exact h.kept
 · exact zaj h.wr (fun g hg=>zcK w p.gn g _ (fun e=>h.ne5 (by rw [hg,e])))
theorem Near.same {p:Dp}(h:Near { p with wv:=v } w w')(hv:∀ k,v.ownBlock=some k→p.wv.ownBlock=some k∨w.heap.size≤k):Near p w w':=by
 refine ⟨h.os,h.tape,h.output,h.size,fun k hk h1 h2 h3 h4=>h.block k hk h1 h2 h3 (fun e=>?_)⟩;rcases hv k e with h5 | h5
 · exact h4 h5
 · omega
theorem zab.heap {p:Dp}{d:Dk}(h:zab w p d)(e:w'.heap=w.heap):zab w' p d :=
 ⟨by rw [e];exact h.blk,by rw [e];exact h.now,by rw [e];exact h.kept,h.snow,h.skept,h.lens,h.few,zaj h.wr (fun g _=>by rw [e]),h.swr,h.bits,h.low,h.ne1,h.ne2,h.ne3,h.ne4,h.ne5,h.ne6,h.lo1,h.lo2,h.lo3,h.idle⟩
theorem Near.drew (p:Dp)(w:World):Near p w w.drew:=⟨rfl,rfl,rfl,Nat.le_refl _,fun _ _ _ _ _ _=>rfl⟩
theorem zbU (d:Dk):(zaK d).now=d.now∧(zaK d).kept=d.kept∧(zaK d).wr=d.wr∧(zaK d).bit=d.bit:=by
 unfold zaK
 split
 · exact ⟨rfl,rfl,rfl,rfl⟩
 · split <;> exact ⟨rfl,rfl,rfl,rfl⟩
theorem zjs (d:Dk):zb1 d=0∨zb1 d=8:=by unfold zb1;split <;> simp
def zaO (d:Dk):Dk:=if zb1 d=0 then { zaK d with kept:=d.now,wr:=[],bit:=0 } else zaK d
def zgA (p:Dp)(d:Dk):Dp:=if zb1 d=0 then { p with wv:=.slice none 0 0 } else p
theorem zdB (p:Dp)(d:Dk)(w:World)(h:zab w p d) :
 Calls Tryz.prog 29 #[.pointer (some ⟨p.B,0,none⟩)] w fun e w'=>e=.returned (errV (zb1 d))∧zab w' (zgA p d) (zaO d)∧Near p w w':=by
 have HD:Hid (zab w p d):=h;clear h;rcases zjs d with h0 | h0
 · have e1:zgA p d={ p with wv:=.slice none 0 0 }:=by simp [zgA,h0]
   have e2:zaO d={ zaK d with kept:=(zaK d).now,wr:=[],bit:=0 }:=by simp [zaO,h0,(zbU d).1]
   rw [h0,e1,e2];have HS:=ziQ p d w HD.out;rw [h0] at HS;have HS':Hid (Calls Tryz.prog 54 _ w _):=HS;clear HS h0 e1 e2
   go_enter Tryz.func29,Tryz.ntmps29
   go_wp2_with fail
   refine HS'.out.mono ?_;rintro e w1 ⟨rfl,hd1,hn1⟩;rw [zac rfl];have HD1:Hid (zab w1 p (zaK d)):=hd1;have HN1:Hid (Near p w w1):=hn1;clear hd1 hn1 HS';obtain ⟨c0,c1,c2,c3,c4,c5⟩:=HD1.out.cells;have hlen:=HD1.out.lens
   have hcp:∀ (W:World) (ty:TypeId),W.heap=w1.heap→(Builtin.copy_ #[75,75] ty #[.slice (some ⟨p.gk,0,none⟩) (zaK d).now.length (zaK d).now.length,.slice (some ⟨p.gn,0,none⟩) (zaK d).now.length (zaK d).now.length]).run Tryz.prog W=.ok (goInt (zaK d).now.length) (W.setRow p.gk (zbr (zaK d).now).toArray):=fun W ty hW =>
    zfn W p.gk p.gn (zaK d).now.length _ (zaK d).now HD1.out.snow rfl (by rw [hW];exact HD1.out.kept) (by rw [List.size_toArray,zbX HD1.out.skept,hlen]) (by rw [hW];exact HD1.out.now) ty
   have hdr:∀ W:World,W.drew.heap=W.heap:=fun _=>rfl
   go_wp2_with fail
   go_region_with (fail)
   all_goals
    have hk:=(HD1.out.heap (w':=w1.drew) rfl).keepAll;have HK:Hid _:=hk;clear hk hcp hdr c0 c1 c2 c3 c4 c5
    go_wp2_with fail
    refine (zj9 p _ _ HK.out.1).mono ?_;rintro e w2 ⟨rfl,hd2,hn2⟩;have HD2:Hid (zab w2 _ _):=hd2;have HN2:Hid (Near p w w2):=HN1.out.trans ((Near.drew p w1).trans (HK.out.2.trans hn2));clear hd2 hn2;go_wp2;go_ret;exact ⟨rfl,HD2.out,HN2.out⟩
 · have e1:zgA p d=p:=by simp [zgA,h0]
   have e2:zaO d=zaK d:=by simp [zaO,h0]
   rw [h0,e1,e2];have HS:=ziQ p d w HD.out;rw [h0] at HS;have HS':Hid (Calls Tryz.prog 54 _ w _):=HS;clear HS h0 e1 e2
   go_enter Tryz.func29,Tryz.ntmps29
   go_wp2_with fail
   refine HS'.out.mono ?_;rintro e w1 ⟨rfl,hd1,hn1⟩;rw [zak (by decide)];have HD1:Hid (zab w1 p (zaK d)):=hd1;have HN1:Hid (Near p w w1):=hn1;clear hd1 hn1;go_wp2;go_ret;exact ⟨rfl,HD1.out,HN1.out⟩
def zc1 (i b:Int):Array Value:=(.int .i64 i :: .int .i64 b :: List.replicate 40 (.int .u8 0)).toArray
theorem zb3 (i b:Int):(zc1 i b).size=42:=by simp [zc1]
theorem zro (i b:Int):(zc1 i b).all (·.oneCell')=true:=by simp [zc1,Value.oneCell']
theorem Tryz.sizeWrite:(Tryz.prog.info? 86).map (·.size)=some 42:=by kernel_rfl
theorem Tryz.zeroWrite:(Tryz.prog.info? 86).map (·.zero)=some (some (.agg (zc1 0 0))):=by kernel_rfl
theorem zi8 (i b:Int)(w:World):(Instr.build 86 #[(0,.int .i64 i),(1,.int .i64 b)]).run Tryz.prog w=.ok (.agg (zc1 i b)) w:=by
 have h0:(Instr.build 86 #[(0,.int .i64 i),(1,.int .i64 b)]).run Tryz.prog w=.ok (.agg #[.int .i64 i,.int .i64 b,.int .u8 0,.int .u8 0,.int .u8 0,.int .u8 0,.int .u8 0,.int .u8 0,.int .u8 0,.int .u8 0,.int .u8 0,.int .u8 0,.int .u8 0,.int .u8 0,.int .u8 0,.int .u8 0,.int .u8 0,.int .u8 0,.int .u8 0,.int .u8 0,.int .u8 0,.int .u8 0,.int .u8 0,.int .u8 0,.int .u8 0,.int .u8 0,.int .u8 0,.int .u8 0,.int .u8 0,.int .u8 0,.int .u8 0,.int .u8 0,.int .u8 0,.int .u8 0,.int .u8 0,.int .u8 0,.int .u8 0,.int .u8 0,.int .u8 0,.int .u8 0,.int .u8 0,.int .u8 0]) w:=by
  kernel_rfl
 rw [h0]
 rfl
theorem zhh {ops:Array Oper}{rest:List Oper}{o:Oper}{a:Act}(hgd:o.guard=none)(x y:Operand)(ho:o.op=.build 86 #[(0,x),(1,y)])(i b:Int)(hx:a.eval x=.int .i64 i)(hy:a.eval y=.int .i64 b)
 (h:wpList Tryz.prog ops Q rest (a.put o.dst (.agg (zc1 i b))) w):wpList Tryz.prog ops Q (o :: rest) a w:=by
 refine wpList_plain hgd fun K hK=>?_
 have hrun:=zi8 i b w;unfold Oper.wp execOp;simp [ho,hx,hy,Sem.run_bind,hrun,Result.andThen];exact hK _ _ h
theorem zjx (w:World):(Instr.alloc 86 true (.tuple #[])).run Tryz.prog w=.ok (.pointer (some ⟨w.heap.size,0,none⟩)) (w.alloc (.cells (zc1 0 0) 86)):=by
 have hz:=Tryz.zeroWrite;cases hq:Tryz.prog.info? 86 with
 | none=>simp [hq] at hz
 | some i =>
   have hz':i.zero=some (.agg (zc1 0 0)):=by simpa [hq] using hz
   simp [Instr.alloc,zeroValue,typeInfo,hq,hz',newVar,newRow,Value.cells,Sem.run_bind,go_sem]
theorem zem {ops:Array Oper}{rest:List Oper}{o:Oper}{a:Act}(hgd:o.guard=none)(ho:o.op=.alloc 86)
 (h:wpList Tryz.prog ops Q rest (a.put o.dst (.pointer (some ⟨w.heap.size,0,none⟩))) (w.alloc (.cells (zc1 0 0) 86))):wpList Tryz.prog ops Q (o :: rest) a w:=by
 refine wpList_plain hgd fun K hK=>?_
 have hrun:=zjx w;unfold Oper.wp execOp;simp [ho,Sem.run_bind,hrun,Result.andThen];exact hK _ _ h
theorem zfb (b:Nat)(t:TypeId)(fr:Nat × Nat):∀ (L pre mid suf:List Value) (w:World),mid.length=L.length→w.heap[b]?=some (.cells (pre ++ mid ++ suf).toArray t fr)→(w.setCells b pre.length L).heap[b]?=some (.cells (pre ++ L ++ suf).toArray t fr)
 | [],pre,mid,suf,w,hl,h=>by
   have e:mid=[]:=List.eq_nil_of_length_eq_zero hl;subst e
   simpa [World.setCells] using h
 | v :: L,pre,[],suf,w,hl,h=>by simp at hl
 | v :: L,pre,m :: mid,suf,w,hl,h=>by
   have h1:=zaZ h pre.length v
   have e1:((pre ++ m :: mid ++ suf).toArray).setIfInBounds pre.length v=((pre ++ [v]) ++ mid ++ suf).toArray:=by
    simp
   rw [e1] at h1;have h2:=zfb b t fr L (pre ++ [v]) mid suf (w.setCell ⟨b,pre.length,none⟩ v) (by simpa using hl) h1;rw [List.length_append,List.length_singleton] at h2;rw [World.setCells,h2];simp
theorem zcq (b:Nat):∀ (L:List Value) (o:Nat) (w:World) (k:Nat),k≠b→(w.setCells b o L).heap[k]?=w.heap[k]?
 | [],o,w,k,h=>rfl
 | v :: L,o,w,k,h=>by
   rw [World.setCells,zcq b L (o+1) _ k h,Below.heap_setCell w ⟨b,o,none⟩ v k h]
theorem zdF (b:Nat):∀ (L:List Value) (o:Nat) (w:World),(w.setCells b o L).heap.size=w.heap.size
 | [],o,w=>rfl
 | v :: L,o,w=>by rw [World.setCells,zdF b L];simp
theorem zfa (b:Nat):∀ (L:List Value) (o:Nat) (w:World),(w.setCells b o L).os=w.os∧(w.setCells b o L).tape=w.tape∧(w.setCells b o L).output=w.output
 | [],o,w=>⟨rfl,rfl,rfl⟩
 | v :: L,o,w=>by rw [World.setCells];exact zfa b L (o+1) _
theorem zie (w:World)(t:TypeId):∀ (L pre suf:List Value),suf.length=L.length→(w.alloc (.cells (pre ++ suf).toArray t)).setCells w.heap.size pre.length L=w.alloc (.cells (pre ++ L).toArray t)
 | [],pre,suf,h=>by
   have e:suf=[]:=List.eq_nil_of_length_eq_zero h;subst e
   rfl
 | v :: L,pre,[],h=>by simp at h
 | v :: L,pre,s :: suf,h=>by
   have h2:=zie w t L (pre ++ [v]) suf (by simpa using h);rw [List.length_append,List.length_singleton] at h2;rw [World.setCells,World.setCell_alloc_new];have e1:((pre ++ s :: suf).toArray).setIfInBounds pre.length v=((pre ++ [v]) ++ suf).toArray:=by simp
   rw [e1,h2];simp
theorem zqT (w:World)(t:TypeId)(C C':Array Value):(w.alloc (.cells C t)).setRow w.heap.size C'=w.alloc (.cells C' t):=by
 unfold World.setRow World.alloc
 congr 1
 apply Array.ext_getElem?
 intro k;rw [Array.getElem?_modify,Array.getElem?_push,Array.getElem?_push]
 by_cases h:w.heap.size=k
 · subst h;simp
 · simp [h,Ne.symm h]
def padD (s:ByteArray):List UInt8:=s.data.toList ++ List.replicate (40 - s.size) 0
theorem zop (s:ByteArray)(h:s.size≤40):(padD s).length=40:=by
 have e:s.data.toList.length=s.size:=by simp
 simp [padD];omega
theorem zqw (s:ByteArray):zaI (padD s)=(s.data.map fun b=>Value.int .u8 (b.toNat:Int)).toList ++ List.replicate (40 - s.size) (.int .u8 0):=by
 simp [padD,zaI]
theorem zlR (i b:Int)(s:ByteArray)(hs:s.size≤40)(w:World)(ty:TypeId) :
 (Builtin.copy_ #[115,9] ty #[.slice (some ⟨w.heap.size,2,none⟩) 40 40,.string s]).run Tryz.prog (w.alloc (.cells (zc1 i b) 86))=.ok (goInt s.size) (w.alloc (.cells (.int .i64 i :: .int .i64 b :: zaI (padD s)).toArray 86)):=by
 have hu:Tryz.prog.underlying 115=some (.slice 5):=by kernel_rfl
 have hsz:(Tryz.prog.info? 5).map (·.size)=some 1:=by kernel_rfl
 have hg:(w.alloc (.cells (zc1 i b) 86)).heap[w.heap.size]?=some (.cells (zc1 i b) 86 (0,0)):=by
  show (w.heap.push _)[w.heap.size]?=_;simp
 have hex:s.extract 0 s.size=s:=by simp
 have hst:=run_storeCells_at Tryz.prog w.heap.size 2 86 (s.data.map fun b=>Value.int .u8 (b.toNat:Int)).toList 0 (zc1 i b) _ hg (by rw [zb3];simp;omega) (by
  intro v hv;simp at hv;obtain ⟨c,_,rfl⟩:=hv
  rfl)
 have hmin:Nat.min s.size 40=s.size:=Nat.min_eq_left hs
 have erow:((zc1 i b).toList.take (2+0) ++ (s.data.map fun b=>Value.int .u8 (b.toNat:Int)).toList ++ (zc1 i b).toList.drop (2+0+(s.data.map fun b=>Value.int .u8 (b.toNat:Int)).toList.length)).toArray=(.int .i64 i :: .int .i64 b :: zaI (padD s)).toArray:=by
  rw [zqw];have hz:(zc1 i b).toList=.int .i64 i :: .int .i64 b :: List.replicate 40 (.int .u8 0):=by unfold zc1;rw [List.toList_toArray]
  have hlen:(s.data.map fun b=>Value.int .u8 (b.toNat:Int)).toList.length=s.size:=by simp
  rw [hz,hlen];generalize hR:List.replicate 40 (Value.int .u8 0)=R
  have hd:List.drop (2+0+s.size) (.int .i64 i :: .int .i64 b :: R)=List.drop s.size R:=by
   rw [Nat.add_zero,Nat.add_comm];rfl
  rw [hd,← hR,List.drop_replicate];generalize List.replicate 40 (Value.int .u8 0)=R'
  rfl
 cases hq:Tryz.prog.info? 5 with
 | none=>simp [hq] at hsz
 | some k =>
   have hk:k.size=1:=by simpa [hq] using hsz
   rw [erow,zqT] at hst;simp [Builtin.copy_,run_underlying hu,Builtin.lenOf,Builtin.firstCells,sizeOf,typeInfo,hq,hk,hmin,hex]
   have e2:List.take s.size (List.map (fun b=>Value.int .u8 (b.toNat:Int)) s.data.toList)=(s.data.map fun b=>Value.int .u8 (b.toNat:Int)).toList:=by
    rw [List.take_of_length_le (by simp),Array.toList_map]
   rw [e2,hst]
   rfl
theorem zms (w:World)(C:Array Value)(t:TypeId)(n:Nat)(h:C.size=n):(w.alloc (.cells C t)).there w.heap.size 0 n:=by
 intro j hj
 have hb:(w.alloc (.cells C t)).heap[w.heap.size]?=some (.cells C t (0,0)):=by
  show (w.heap.push _)[w.heap.size]?=_;simp
 rw [zaa hb,zaE hb];simp;omega
theorem zgD (w:World)(t:TypeId)(C:Array Value)(L:List Value)(h:C.size=L.length):(w.alloc (.cells C t)).setCells w.heap.size 0 L=w.alloc (.cells L.toArray t):=by
 have:=zie w t L [] C.toList (by simpa using h)
 simpa using this
theorem zhe {ops:Array Oper}{rest:List Oper}{o:Oper}{a:Act}(hgd:o.guard=none)(x y:Operand)(ho:o.op=.store 86 x y)(i b:Int)
 (hx:a.eval x=.pointer (some ⟨w.heap.size,0,none⟩)) (hy:a.eval y=.agg (zc1 i b))
 (h:wpList Tryz.prog ops Q rest (a.put o.dst undef) (w.alloc (.cells (zc1 i b) 86))):wpList Tryz.prog ops Q (o :: rest) a (w.alloc (.cells (zc1 0 0) 86)):=by
 refine wpList_store_mid hgd 86 x y ho w.heap.size 0 (zc1 i b) hx hy (by rw [zb3];exact zms w _ _ 42 (zb3 0 0)) (by rw [zb3];exact Tryz.sizeWrite) (zro i b) ?_;rw [zgD w _ _ _ (by rw [zb3,Array.length_toList,zb3])];exact h
theorem zpt:∀ (L pre suf:List Value),suf.length=L.length→(L.zipIdx pre.length).foldl (fun cs (p:Value × Nat)=>cs.setIfInBounds (0+p.2) p.1) (pre ++ suf).toArray=(pre ++ L).toArray
 | [],pre,suf,h=>by
   have e:suf=[]:=List.eq_nil_of_length_eq_zero h;subst e
   rfl
 | v :: L,pre,[],h=>by simp at h
 | v :: L,pre,s :: suf,h=>by
   have h2:=zpt L (pre ++ [v]) suf (by simpa using h);rw [List.length_append,List.length_singleton] at h2;rw [List.zipIdx_cons,List.foldl_cons];have e1:((pre ++ s :: suf).toArray).setIfInBounds (0+pre.length) v=((pre ++ [v]) ++ suf).toArray:=by simp
   rw [e1,h2];simp
theorem zsP (Z C:Array Value)(h:Z.size=C.size):C.zipIdx.foldl (fun cs (x:Value × Nat)=>match x with | (c,j)=>cs.setIfInBounds (0+j) c) Z=C:=by
 rw [← Array.foldl_toList,Array.toList_zipIdx];have:=zpt C.toList [] Z.toList (by simpa using h)
 simpa using this
theorem zgq (C:Array Value)(hC:C.size=42)(w:World):(Instr.buildSlice 76 1 #[(0,.agg C)]).run Tryz.prog w=.ok (.slice (some ⟨w.heap.size,0,none⟩) 1 1) (w.alloc (.cells C 86)):=by
 have hu:Tryz.prog.underlying 76=some (.slice 86):=by kernel_rfl
 have hz:=Tryz.zeroWrite;have hsz:=Tryz.sizeWrite;cases hq:Tryz.prog.info? 86 with
 | none=>simp [hq] at hz
 | some k =>
   have hz':k.zero=some (.agg (zc1 0 0)):=by simpa [hq] using hz
   have hk:k.size=42:=by simpa [hq] using hsz
   generalize hZ:(Array.range 42).map (fun x=>(zc1 0 0)[x % (zc1 0 0).size]!)=Z;have hZs:Z.size=42:=by rw [← hZ];simp
   have hfill:Instr.fill (fun i=>some (i * 42,42)) Z [(0,.agg C)]=some C:=by
    unfold Instr.fill;have hc:(Value.agg C).cells=C:=rfl;simp only [hc,Nat.zero_mul,Nat.zero_add];rw [if_neg (by simp [hC,hZs])];unfold Instr.fill;have:=zsP Z C (by omega);simp only [Nat.zero_add] at this
    rw [this]
   simp [Instr.buildSlice,run_underlying hu,sizeOf,typeInfo,hq,hk,zeroValue,hz',Value.cells,Sem.run_bind];rw [hZ,hfill];simp [newRow,go_sem]
theorem zdY {o:Oper}{a:Act}{K:Act→World→Prop}(x:Operand)(ho:o.op=.buildSlice 76 1 #[(0,x)])(C:Array Value)(hC:C.size=42)(hx:a.eval x=.agg C)
 (h:K (a.put o.dst (.slice (some ⟨w.heap.size,0,none⟩) 1 1)) (w.alloc (.cells C 86))):o.wp Tryz.prog a w K Q:=by
 have hrun:=zgq C hC w;unfold Oper.wp execOp;simp [ho,hx,Sem.run_bind,hrun,Result.andThen];exact h
def zcY (n:Nat):List (List UInt8):=List.replicate n (List.replicate 40 0)
def newD (n:Nat):Dk:=⟨zcY n,zcY n,[],0,-1,false⟩
theorem zhc (n:Nat):zgu (zcY n):=by
 intro s hs;rw [zcY] at hs;rw [(List.mem_replicate.1 hs).2,List.length_replicate]
theorem zkr:zaI (List.replicate 40 0)=List.replicate 40 (.int .u8 0):=by
 unfold zaI;rw [List.map_replicate]
 rfl
theorem zg9:∀ n,zbr (zcY n)=List.replicate (n * 40) (.int .u8 0)
 | 0=>rfl
 | n+1=>by
   have h:=zg9 n;unfold zcY at *;rw [List.replicate_succ,zbr,h,zkr,List.replicate_append_replicate]
   congr 1
   omega
theorem Tryz.infoSector:(Tryz.prog.info? 84).map (fun i=>(i.zero,i.size,i.bytes))=some (some (.agg (List.replicate 40 (.int .u8 0)).toArray),40,40):=by kernel_rfl
theorem zm5 (n:Nat):madeCells ((Value.agg (List.replicate 40 (.int .u8 0)).toArray).cells) (n * 40)=(zbr (zcY n)).toArray:=by
 have hc:(Value.agg (List.replicate 40 (.int .u8 0)).toArray).cells=(List.replicate 40 (.int .u8 0)).toArray:=rfl;rw [hc,zg9];generalize hz:(List.replicate 40 (Value.int .u8 0)).toArray=z;have hzs:z.size=40:=by rw [← hz,List.size_toArray,List.length_replicate]
 have hze:∀ k,k<40→z[k]! = .int .u8 0:=by
  intro k hk;rw [← hz,getElem!_pos _ k (by rw [List.size_toArray,List.length_replicate];exact hk),List.getElem_toArray,List.getElem_replicate]
 apply Array.ext
 · simp [madeCells]
 · intro k h1 h2
   simp only [madeCells,Array.getElem_map,Array.getElem_range,List.getElem_toArray,List.getElem_replicate];exact hze _ (by rw [hzs];exact Nat.mod_lt _ (by decide))
theorem ziF (n:Nat)(hn:n≤60)(w:World):(Instr.makeSlice 75 (.int .i64 n) (.int .i64 n)).run Tryz.prog w=.ok (.slice (some ⟨w.heap.size,0,none⟩) n n) (w.alloc (.cells (zbr (zcY n)).toArray 84)):=by
 obtain ⟨i0,hi,hz0,hz1,hz2⟩:=info_parts Tryz.infoSector;have h:=run_make (P:=Tryz.prog) w 75 84 i0 _ (by kernel_rfl) hi hz0 .i64 .i64 n n (by omega) (Int.le_refl _) (by rw [hz2];omega) (by omega);rw [hz1,Int.toNat_natCast,zm5] at h;exact h
theorem ztR (w:World)(n:Nat)(h60:n≤60)(W:World)(B gn gk:Nat)(hB:W.heap[B]?=some (.cells #[.slice (some ⟨gn,0,none⟩) n n,.slice (some ⟨gk,0,none⟩) n n,.slice none 0 0,.int .i64 0,.int .i64 (-1),.bool false] 78 (0,0)))
 (hn:W.heap[gn]?=some (.cells (zbr (zcY n)).toArray 84 (0,0))) (hk:W.heap[gk]?=some (.cells (zbr (zcY n)).toArray 84 (0,0))) (h1:B≠gn) (h2:B≠gk) (h3:gn≠gk) (l1:w.heap.size≤B) (l2:w.heap.size≤gn) (l3:w.heap.size≤gk) :
 zab W ⟨w.heap.size,B,gn,gk,.slice none 0 0⟩ (newD n):=by
 have e:(newD n).now.length=n:=by simp [newD,zcY]
 refine ⟨?_,hn,hk,zhc n,zhc n,rfl,by rw [e];exact h60,World.ownsRow_nil _ _ _ _,fun x hx=>by simp [newD] at hx,by simp [newD],by simp [newD],h1,h2,h3,by simp [Value.ownBlock],by simp [Value.ownBlock],by simp [Value.ownBlock],l1,l2,l3,fun _=>rfl⟩;rw [e];exact hB
theorem zqy (h:Array Obj)(a b c:Obj):(((h.push a).push b).push c)[h.size]?=some a∧(((h.push a).push b).push c)[h.size+1]?=some b∧(((h.push a).push b).push c)[h.size+1+1]?=some c:=by
 refine ⟨?_,?_,?_⟩
 · rw [Array.getElem?_push,if_neg (by rw [Array.size_push,Array.size_push];omega),Array.getElem?_push,if_neg (by rw [Array.size_push];omega),Array.getElem?_push,if_pos rfl]
 · rw [Array.getElem?_push,if_neg (by rw [Array.size_push,Array.size_push];omega),Array.getElem?_push,if_pos (by rw [Array.size_push])]
 · rw [Array.getElem?_push,if_pos (by rw [Array.size_push,Array.size_push])]
theorem zme (n:Nat) (w:World) (h1:1≤n) (h60:n≤60) :
 Calls Tryz.prog 46 #[.int .i64 n] w fun e w'=>∃ B gn gk,e=.returned (.tuple #[.pointer (some ⟨B,0,none⟩),.nilIface])∧zab w' ⟨w.heap.size,B,gn,gk,.slice none 0 0⟩ (newD n)∧Below w.heap.size w w':=by
 have hmk:=fun W=>ziF n h60 W
 generalize hZ:(zbr (zcY n)).toArray=Z at hmk;have HZ:Hid ((zbr (zcY n)).toArray=Z):=hZ;clear hZ
 go_enter Tryz.func46,Tryz.ntmps46
 go_wp2
 go_region_with (fail)
 all_goals go_wp2
 all_goals
  refine bodyPost_ret (results_tmp2 rfl _ _ _) rfl ?_
  first
   | refine ⟨w.heap.size+1+1,w.heap.size,w.heap.size+1,rfl,ztR w n h60 _ _ _ _ (zqy w.heap _ _ _).2.2 ?_ ?_ (by omega) (by omega) (by omega) (by omega) (by omega) (by omega),?_⟩
   | refine ⟨w.heap.size+1+1,w.heap.size+1,w.heap.size,rfl,ztR w n h60 _ _ _ _ (zqy w.heap _ _ _).2.2 ?_ ?_ (by omega) (by omega) (by omega) (by omega) (by omega) (by omega),?_⟩
  · rw [HZ.out]
    first
     | exact (zqy w.heap _ _ _).1
     | exact (zqy w.heap _ _ _).2.1
  · rw [HZ.out]
    first
     | exact (zqy w.heap _ _ _).1
     | exact (zqy w.heap _ _ _).2.1
  · exact Below.drew ((((Below.refl _ _).alloc (Nat.le_refl _) _).alloc (by simp) _).alloc (by simp;omega) _)
end Go.Proofs.YtihnghnafpgdfadGreatDoor
