/- What the proofs stand on, part 7: Texts, Numbers. -/
import Derived.Lib.OwnKind
import Derived.OneCell
import Derived.Laws.IdiomStrings
import Derived.Laws.MakeOwn
import Derived.Deep.OwnRows
import Derived.Deep.DeepCutAuto
import Derived.Test.YtihnghnafpgdfadGreatDoorRk06
import Derived.Test.YtihnghnafpgdfadGreatDoorRk05
set_option linter.unusedVariables false
set_option linter.unusedSimpArgs false
namespace Go.Proofs.YtihnghnafpgdfadGreatDoor
open Go.RowKit
def Strs (w:World)(a:Option Addr)(l:List ByteArray):Prop :=
  ∀ i (h:i<l.length),∃ b off,a=some ⟨b,off,none⟩∧w.cell? ⟨b,off+i,none⟩=some (.string l[i])
theorem Strs.below {w w':World}{a:Option Addr}{l:List ByteArray}(h:Strs w a l)(hb:Below w.heap.size w w'):Strs w' a l:=by
  intro i hi
  obtain ⟨b,off,rfl,c0⟩:=h i hi
  exact ⟨b,off,rfl,by rw [hb.cell (World.block_lt_of_cell? _ _ c0)];exact c0⟩
theorem Strs.nil (w:World)(a:Option Addr):Strs w a []:=fun i h=>absurd h (Nat.not_lt_zero _)
theorem Tryz.infoString:(Tryz.prog.info? 9).map (fun i=>(i.zero,i.size,i.bytes))=some (some (.string ⟨#[]⟩),1,16):=by kernel_rfl
abbrev OwnsS (w:World)(base:Nat)(v:Value)(l:List ByteArray):Prop:=w.ownsRow base 9 1 v l.length (l.map Value.string)
theorem OwnsS.texts {w:World}{base:Nat}{v:Value}{l:List ByteArray}(h:OwnsS w base v l):∃ a cap,v=.slice a l.length cap∧Strs w a l∧(a=none→cap=0)∧cap≤maxLen∧l.length≤cap∧(∀ x,a=some x→base≤x.block∧x.off=0∧x.spot=none):=by
  rcases h.2 with ⟨rfl,h0⟩ | ⟨g,cap,cur,rfl,hb,hg,hn,hm,hs,ht⟩
  · have e:l=[]:=List.eq_nil_of_length_eq_zero h0
    subst e
    exact ⟨none,0,rfl,Strs.nil _ _,fun _=>rfl,Nat.zero_le _,Nat.le_refl _,fun x hx=>by cases hx⟩
  · refine ⟨some ⟨g,0,none⟩,cap,rfl,?_,(fun h=>by cases h),hm,hn,(fun x hx=>by cases hx;exact ⟨hb,rfl,rfl⟩)⟩
    intro i hi
    refine ⟨g,0,rfl,?_⟩
    rw [h.cellAt (0+i) (by omega),Nat.zero_add]
    simp [hi]
theorem OwnsS.snoc {w:World}{B:Nat}{v:Value}{l:List ByteArray}{s:ByteArray}(h:w.ownsRow B 9 1 v (l.length+1) (l.map Value.string ++ [.string s])):OwnsS w B v (l ++ [s]):=by
  show World.ownsRow _ _ _ _ _ _ _
  rw [List.map_append,List.length_append]
  exact h
theorem cell_one_new (w:World)(a:Value)(t:TypeId):∀ j u,[a][j]?=some u→(w.alloc (.cells #[a] t)).cell? ((⟨w.heap.size,0,none⟩:Addr).add j)=some u:=by
  intro j u hj
  match j,hj with
  | 0,hj=>simp at hj;subst hj;simp [Addr.add]
  | j+1,hj=>simp at hj
theorem one_one (s:ByteArray):∀ u ∈ [Value.string s],u.oneCell'=true:=by
  intro u hu
  simp at hu
  subst hu;rfl
def baL (s:List UInt8):ByteArray:=⟨s.toArray⟩
theorem baL_size (s:List UInt8):(baL s).size=s.length:=by simp [baL,ByteArray.size]
theorem DiskAt.far {w w':World}{p:Dp}{d:Dk}(h:DiskAt w p d)(hk:∀ k,(k=p.B∨k=p.gn∨k=p.gk∨p.wv.ownBlock=some k)→w'.heap[k]?=w.heap[k]?):DiskAt w' p d :=
  ⟨by rw [hk _ (.inl rfl)];exact h.blk,by rw [hk _ (.inr (.inl rfl))];exact h.now,by rw [hk _ (.inr (.inr (.inl rfl)))];exact h.kept,h.snow,h.skept,h.lens,h.few,ownsRow_far h.wr (fun g hg=>hk g (.inr (.inr (.inr hg)))),h.swr,h.bits,h.low,h.ne1,h.ne2,h.ne3,h.ne4,h.ne5,h.ne6,h.lo1,h.lo2,h.lo3,h.idle⟩
theorem Tryz.infoByte:(Tryz.prog.info? 5).map (fun i=>(i.zero,i.size,i.bytes))=some (some (.int .u8 0),1,1):=by kernel_rfl
theorem made_bytes (n:Nat):madeCells #[.int .u8 0] n=(List.replicate n (Value.int .u8 0)).toArray:=by
  apply Array.ext
  · simp [madeCells]
  · intro k h1 h2
    simp [madeCells,Nat.mod_one]
theorem row_shape {w:World}{base:Nat}{e:TypeId}{size:Nat}{v:Value}{n:Nat}{xs:List Value}(h:w.ownsRow base e size v n xs):∃ a c,v=.slice a n c:=by
  rcases h.2 with ⟨e1,h0⟩ | ⟨g,cap,cur,e1,_⟩
  · exact ⟨none,0,by rw [e1,h0]⟩
  · exact ⟨_,_,e1⟩
theorem leB_at:∀ (m n k:Nat),k<m→(leB m n)[k]?=some (UInt8.ofNat (n / 256 ^ k % 256))
  | m+1,n,0,_=>by simp [leB]
  | m+1,n,k+1,h=>by
    have:=leB_at m (n / 256) k (by omega)
    simp only [leB,List.getElem?_cons_succ,this]
    rw [Nat.div_div_eq_div_mul,Nat.pow_succ,Nat.mul_comm 256]
def leTo (m n k:Nat):List UInt8:=(leB m n).take k ++ List.replicate (m - k) 0
theorem leTo_zero (m n:Nat):leTo m n 0=List.replicate m 0:=by simp [leTo]
theorem leTo_all (m n:Nat):leTo m n m=leB m n:=by
  have:=leB_length m n
  simp [leTo,List.take_of_length_le (Nat.le_of_eq this)]
theorem leTo_length (m n k:Nat)(h:k≤m):(leTo m n k).length=m:=by
  have:=leB_length m n
  simp [leTo];omega
theorem leTo_set (m n k:Nat)(h:k<m):(leTo m n k).set k (UInt8.ofNat (n / 256 ^ k % 256))=leTo m n (k+1):=by
  have hl:=leB_length m n
  have hk:k<(leB m n).length:=by omega
  have e:(leB m n)[k]=UInt8.ofNat (n / 256 ^ k % 256):=by
    have:=leB_at m n k h
    rw [List.getElem?_eq_getElem hk] at this
    exact Option.some.inj this
  unfold leTo
  rw [List.set_append,if_neg (by simp;omega),List.take_succ_eq_append_getElem hk,e,List.append_assoc]
  congr 1
  rw [show k - ((leB m n).take k).length=0 by simp;omega,show m - k=(m - (k+1))+1 by omega,List.replicate_succ]
  simp
theorem bytesV_set (l:List UInt8)(k:Nat)(b:UInt8):(bytesV l).set k (.int .u8 (b.toNat:Int))=bytesV (l.set k b):=by
  simp [bytesV,List.map_set]
set_option maxRecDepth 100000 in
set_option maxHeartbeats 1000000 in
theorem numBytes_any (n many:Nat) (w:World) (hn:n<18446744073709551616) (hm:many≤8) :
    Calls Tryz.prog 158 #[.int .u64 n,.int .i64 many] w fun e w'=>e=.returned (.string (baL (leB many n)))∧Below w.heap.size w w':=by
  have hmk:=fun W=>run_make_row' (P:=Tryz.prog) 115 5 (.int .u8 0) 1 (by kernel_rfl) Tryz.infoByte rfl .i64 .i64 many (by omega) (by omega) W
  go_enter Tryz.func158,Tryz.ntmps158
  go_wp2_with fail
  go_loopg [0,6,11] (many+1) (fun kx vn v6 vi wr=>∃ k x:Nat,vn=.int .u64 x∧vi=.int .i64 k∧k≤many∧many - k≤kx∧Hid (x=n / 256 ^ k)∧x<18446744073709551616∧Hid (wr.heap[w.heap.size]?=some (.cells (bytesV (leTo many n k)).toArray 5 (0,0)))∧Hid (Below w.heap.size w wr))
  case atStart =>
    refine ⟨0,n,rfl,rfl,by omega,by omega,(by simp:n=n / 256 ^ 0),hn,?_,(Below.refl _ _).alloc (Nat.le_refl _) _⟩
    have e:(bytesV (leTo many n 0)).toArray=madeCells #[.int .u8 0] many:=by rw [leTo_zero,made_bytes];simp [bytesV]
    rw [e]
    exact heap_alloc_new w (.cells (madeCells #[.int .u8 0] many) 5)
  case round =>
    obtain ⟨k,x,rfl,rfl,hk,hkx,HX,hx,HW,HB⟩:=hrel
    have hl:=leTo_length many n k hk
    by_cases hlt:k<many
    · have hltz:(k:Int)<(many:Int):=by omega
      have hc:∃ v,wr.cell? ⟨w.heap.size,k,none⟩=some v:=by
        rw [cell_block HW.out]
        exact ⟨(bytesV (leTo many n k))[k]'(by rw [bytesV_length];omega),by simp [bytesV_length,hl,hlt]⟩
      obtain ⟨v0,hc⟩:=hc
      have hf:wr.frozen? ⟨w.heap.size,k,none⟩=false:=frozen_block HW.out k
      go_wp2_with fail
      have hs:=heap_set HW.out k (.int .u8 ((x:Int) % 256))
      have HB2:Hid (Below w.heap.size w (wr.setCell ⟨w.heap.size,k,none⟩ (.int .u8 ((x:Int) % 256)))):=HB.out.setCell (Nat.le_refl _) _
      have HW2:Hid ((wr.setCell ⟨w.heap.size,k,none⟩ (.int .u8 ((x:Int) % 256))).heap[w.heap.size]?=some (.cells (bytesV (leTo many n (k+1))).toArray 5 (0,0))):=by
        show _=_
        rw [← leTo_set many n k hlt,← bytesV_set,← HX.out]
        have e:(((UInt8.ofNat (x % 256)).toNat:Nat):Int)=(x:Int) % 256:=by simp
        rw [e]
        simpa using hs
      have HX2:Hid (x / 256=n / 256 ^ (k+1)):=by show _=_;rw [HX.out,Nat.div_div_eq_div_mul,Nat.pow_succ]
      go_roundg (many - (k+1))
      case measure=>omega
      case rel=>exact ⟨k+1,x / 256,congrArg (Value.int .u64) (by omega),by go_num,by omega,Nat.le_refl _,HX2,by omega,HW2,HB2⟩
    · have e:k=many:=by omega
      have hcv:=run_convert_bytes_back (P:=Tryz.prog) wr 115 9 5 ⟨w.heap.size,0,none⟩ many (leB many n) (by kernel_rfl) (by kernel_rfl) (by kernel_rfl) (by
        intro j hj
        have hW:=HW.out
        rw [e,leTo_all] at hW
        rw [Addr.add_mid,Nat.zero_add,cell_block hW]
        simp [bytesV,hj])
      rw [leB_length] at hcv
      go_wp2
      go_ret
      exact ⟨rfl,HB.out⟩
theorem or_bytes (x y:Nat)(hx:x<65536)(hy:y<256):bits .or .u64 ((x:Int) * 256) (IntKind.u64.wrap (y:Int))=((y+256 * x:Nat):Int):=by
  have e1:IntKind.u64.wrap (y:Int)=(y:Int):=by rw [IntKind.wrap_u64];omega
  have k1:(BitVec.ofInt 64 ((x:Int) * 256)).toNat=2 ^ 8 * x:=by rw [BitVec.toNat_ofInt];omega
  have k2:(BitVec.ofInt 64 (y:Int)).toNat=y:=by rw [BitVec.toNat_ofInt];omega
  have key:(BitVec.ofInt 64 ((x:Int) * 256) ||| BitVec.ofInt 64 (y:Int)).toNat=2 ^ 8 * x+y:=by
    rw [BitVec.toNat_or,k1,k2,Nat.two_pow_add_eq_or_of_lt (by omega)]
  rw [e1]
  show IntKind.u64.wrap ((BitVec.ofInt 64 ((x:Int) * 256) ||| BitVec.ofInt 64 (y:Int)).toNat:Nat)=_
  rw [key,IntKind.wrap_u64]
  omega
set_option maxRecDepth 100000 in
set_option maxHeartbeats 1000000 in
theorem numOf_any (s:ByteArray) (w:World) (hs:s.size=2) :
    Calls Tryz.prog 200 #[.string s] w fun e w'=>e=.returned (.int .u64 (ofLE s.data.toList))∧w'=w:=by
  obtain ⟨a,b,rfl⟩:∃ a b:UInt8,s=⟨#[a,b]⟩:=by
    obtain ⟨⟨l⟩⟩:=s
    match l,hs with
    | [a,b],_=>exact ⟨a,b,rfl⟩
  have ha:=a.toNat_lt
  have hb:=b.toNat_lt
  go_enter Tryz.func200,Tryz.ntmps200
  go_wp2_with fail
  go_loopg [3,4] 4 (fun kx vn vi wr=>wr=w∧((vn=.int .u64 0∧vi=.int .i64 1∧3≤kx)∨(vn=.int .u64 (b.toNat:Int)∧vi=.int .i64 0∧2≤kx)∨(vn=.int .u64 ((ofLE [a,b]:Nat):Int)∧vi=.int .i64 (-1)∧1≤kx)))
  case atStart=>exact ⟨rfl,.inl ⟨rfl,rfl,by omega⟩⟩
  case round =>
    obtain ⟨rfl,⟨rfl,rfl,hx⟩ | ⟨rfl,rfl,hx⟩ | ⟨rfl,rfl,hx⟩⟩:=hrel
    · have h1:=or_bytes 0 b.toNat (by omega) (by omega)
      have HO:Hid (bits .or .u64 0 (IntKind.u64.wrap ((⟨#[a,b]⟩:ByteArray)[1].toNat:Int))=(b.toNat:Int)):=by
        have h2:bits .or .u64 0 (IntKind.u64.wrap (b.toNat:Int))=(b.toNat:Int):=by simpa using h1
        exact h2
      clear h1
      go_wp2
      rw [HO.out]
      go_roundg 2
      case measure=>omega
      case rel=>exact ⟨rfl,.inr (.inl ⟨rfl,rfl,Nat.le_refl _⟩)⟩
    · have h1:=or_bytes b.toNat a.toNat (by omega) (by omega)
      have HO:Hid (bits .or .u64 ((b.toNat:Int) * 256) (IntKind.u64.wrap ((⟨#[a,b]⟩:ByteArray)[0].toNat:Int))=((ofLE [a,b]:Nat):Int)):=by
        show _=_
        have e:ofLE [a,b]=a.toNat+256 * b.toNat:=by simp [ofLE]
        rw [e]
        exact h1
      clear h1
      go_wp2
      rw [HO.out]
      go_roundg 1
      case measure=>omega
      case rel=>exact ⟨rfl,.inr (.inr ⟨rfl,rfl,Nat.le_refl _⟩)⟩
    · go_wp2
      go_ret
      exact ⟨rfl,rfl⟩
end Go.Proofs.YtihnghnafpgdfadGreatDoor
