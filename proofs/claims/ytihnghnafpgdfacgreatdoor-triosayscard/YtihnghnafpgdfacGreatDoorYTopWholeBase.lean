/-
  AN ACT's BOX, TYPED; A QUILT's BOX, ITS FILES OF ANY KIND.
-/
import Derived.Test.YtihnghnafpgdfacGreatDoorYTrioNext
import Derived.Test.YtihnghnafpgdfacGreatDoorRk24
namespace Go.Proofs.YtihnghnafpgdfacGreatDoor
open Go Go.RowKit Go.BigFrame
set_option linter.unusedVariables false
set_option linter.unusedSimpArgs false
/-- An act's box,typed. -/
structure AHere (W:World)(B:Nat)(y:Ac):Prop where
  blk:W.heap[B]?=some (.cells #[.string y.kind,.string y.s,.string y.t,.int .i64 y.n,.int .u64 y.k,.slice y.ca y.cl.length y.cc] 36 (0,0))
theorem AHere.lt {W:World}{B:Nat}{y:Ac}(h:AHere W B y):B<W.heap.size:=(Array.getElem?_eq_some_iff.1 h.blk).1
theorem AHere.cells {W:World}{B:Nat}{y:Ac}(h:AHere W B y):W.cell? ⟨B,0,none⟩=some (.string y.kind)∧W.cell? ⟨B,1,none⟩=some (.string y.s)∧W.cell? ⟨B,2,none⟩=some (.string y.t)∧W.cell? ⟨B,3,none⟩=some (.int .i64 y.n)∧W.cell? ⟨B,4,none⟩=some (.int .u64 y.k)∧W.cell? ⟨B,5,none⟩=some (.slice y.ca y.cl.length y.cc) :=
  ⟨by rw [cell_block h.blk];rfl,by rw [cell_block h.blk];rfl,by rw [cell_block h.blk];rfl,by rw [cell_block h.blk];rfl,by rw [cell_block h.blk];rfl,by rw [cell_block h.blk];rfl⟩
theorem AHere.far {W W':World}{B:Nat}{y:Ac}(h:AHere W B y)(hf:LetT W W'):AHere W' B y:=⟨hf _ _ _ _ h.blk (.inl ⟨by decide,by decide,by decide,by decide,by decide,by decide⟩)⟩
theorem AHere.below {W W':World}{B:Nat}{y:Ac}(h:AHere W B y)(hb:Below W.heap.size W W'):AHere W' B y:=h.far (LetT.of_below hb)
theorem AHere.new (w:World)(y:Ac):AHere (w.alloc (.cells #[.string y.kind,.string y.s,.string y.t,.int .i64 y.n,.int .u64 y.k,.slice y.ca y.cl.length y.cc] 36)) w.heap.size y:=⟨World.alloc_heap_new w _⟩
theorem AcOk.laterT {w w':World}{y:Ac}(h:AcOk w y)(hb:Below w.heap.size w w'):AcOk w' y:=⟨h.kind,h.s,h.t,h.few,h.cells.below hb⟩
theorem ActCells.oneT {W:World}{B:Nat}{y:Ac}(h:AHere W B y)(ok:AcOk W y):ActCells W (some ⟨B,0,none⟩) [y]:=by
  intro i hi
  have e:i=0:=by simp at hi;omega
  subst e
  obtain ⟨c0,c1,c2,c3,c4,c5⟩:=h.cells
  exact ⟨B,0,rfl,⟨c0,c1,c2,c3,c4,c5⟩,ok⟩
/-- A quilt's box,its files of any kind. -/
structure QSome (W:World)(B:Nat)(a:Option Addr)(cap:Nat)(l:List Fi)(t:Int):Prop where
  blk:W.heap[B]?=some (.cells #[.slice a l.length cap,.int .i64 t] 32 (0,0))
  files:Slice W a cap l
theorem QSome.cells {W:World}{B:Nat}{a:Option Addr}{cap:Nat}{l:List Fi}{t:Int}(h:QSome W B a cap l t):W.cell? ⟨B,0,none⟩=some (.slice a l.length cap)∧W.cell? ⟨B,1,none⟩=some (.int .i64 t):=⟨by rw [cell_block h.blk];rfl,by rw [cell_block h.blk];rfl⟩
theorem QSome.below {W W':World}{B:Nat}{a:Option Addr}{cap:Nat}{l:List Fi}{t:Int}(h:QSome W B a cap l t)(hb:Below W.heap.size W W'):QSome W' B a cap l t :=
  ⟨(hb.block B (Array.getElem?_eq_some_iff.1 h.blk).1).trans h.blk,h.files.below hb⟩
theorem sameSome_any {V:World}{a a':Option Addr}{cap cap':Nat}{l:List Fi}{t:Int}(h8:l.length≤8)(hf:FilesIn V a cap l)(hf':Slice V a' cap' l) :
    Calls Tryz.prog 21 #[.agg #[.slice a l.length cap,.int .i64 t],.agg #[.slice a' l.length cap',.int .i64 t]] V fun e w'=>e=.returned (.bool true)∧Below V.heap.size V w':=by
  refine (sameQuilt_any a a' cap cap' l l t t V (by omega) (by omega) hf.cells hf'.cells).mono ?_
  rintro e w' ⟨rfl,hb⟩
  exact ⟨by rw [sameL_true rfl];simp,hb⟩
/-- A box of two cells,laid over. -/
theorem box_over {W:World}{B:Nat}{x y u v:Value}{T:TypeId}(h:W.heap[B]?=some (.cells #[x,y] T (0,0))) :
    ((W.setCell ⟨B,0,none⟩ u).setCell ⟨B,1,none⟩ v).heap[B]?=some (.cells #[u,v] T (0,0))∧(∀ k,k≠B→((W.setCell ⟨B,0,none⟩ u).setCell ⟨B,1,none⟩ v).heap[k]?=W.heap[k]?)∧((W.setCell ⟨B,0,none⟩ u).setCell ⟨B,1,none⟩ v).heap.size=W.heap.size:=by
  have h1:=heap_set h 0 u
  have h2:=heap_set h1 1 v
  refine ⟨h2.trans (by simp),fun k hk=>?_,?_⟩
  · rw [Below.heap_setCell _ ⟨B,1,none⟩ _ k hk,Below.heap_setCell W ⟨B,0,none⟩ _ k hk]
  · simp [World.setCell]
end Go.Proofs.YtihnghnafpgdfacGreatDoor
