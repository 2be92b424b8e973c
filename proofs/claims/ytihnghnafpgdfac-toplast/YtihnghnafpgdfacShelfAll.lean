/-
  CHAPTER 2, CALL BY CALL: each of the program's answers beside the document's.
-/
import Derived.Test.YtihnghnafpgdfacShelfFault
import Derived.Test.YtihnghnafpgdfacShelfGet2
import Derived.Test.YtihnghnafpgdfacShelfPut
import Derived.Test.YtihnghnafpgdfacShelfDrop
import Derived.Test.YtihnghnafpgdfacRefPut
namespace Go.Proofs.Ytihnghnafpgdfac
open Go.RowKit
set_option linter.unusedVariables false
set_option linter.unusedSimpArgs false

/-- A slice of files, as it is handed about. -/
structure Slice (w : World) (a : Option Addr) (cap : Nat) (l : List Fi) : Prop where
  cells : Cells w a l
  room : l.length ≤ cap
  most : cap ≤ maxLen
  nil : a = none → cap = 0

theorem Slice.below {w w' : World} {a : Option Addr} {cap : Nat} {l : List Fi} (h : Slice w a cap l) (hb : Below w.heap.size w w') : Slice w' a cap l :=
  ⟨h.cells.below hb, h.room, h.most, h.nil⟩

theorem Owns.slice {w : World} {B : Nat} {v : Value} {l : List Fi} (h : Owns w B v l) : ∃ a cap, v = .slice a l.length cap ∧ Slice w a cap l := by
  obtain ⟨a, cap, e, hc, hn, hm, hr, _⟩ := h.files
  exact ⟨a, cap, e, hc, hr, hm, hn⟩

theorem putN_range (l : List Fi) (f : Fi) : 0 ≤ putN l f ∧ putN l f ≤ 100 := by
  have := f.fault_range
  unfold putN
  split
  · exact this
  · split <;> omega
theorem dropN_range (l : List Fi) (name : ByteArray) : 0 ≤ dropN l name ∧ dropN l name ≤ 100 := by
  unfold dropN
  split <;> omega

theorem good_nil : Good [] := ⟨by simp, by simp, by intro i h; simp at h⟩
theorem good_one {f : Fi} (h : f.fault = 0) : Good [f] := ⟨by simp, by simp [h], by intro i h; simp at h⟩

def fa : Fi := ⟨⟨#[97]⟩, ⟨#[120]⟩, 1⟩

end Go.Proofs.Ytihnghnafpgdfac
