/-
  CHAPTER 2, CALL BY CALL: each of the program's answers beside the document's.
-/
import Derived.Test.YtihnghnafpgdfabShelfFault
import Derived.Test.YtihnghnafpgdfabShelfGet2
import Derived.Test.YtihnghnafpgdfabShelfPut
import Derived.Test.YtihnghnafpgdfabShelfDrop
import Derived.Test.YtihnghnafpgdfabRefPut
namespace Go.Proofs.Ytihnghnafpgdfab
open Go.RowKit
set_option linter.unusedVariables false
set_option linter.unusedSimpArgs false

/-- A slice of files, as it is handed about. -/
structure Slice (w : World) (a : Option Addr) (cap : Nat) (l : List Fi) : Prop where
  cells : Cells w a l
  room : l.length ≤ cap
  most : cap ≤ maxLen
  nil : a = none → cap = 0

theorem Slice.below {w w' : World} {a : Option Addr} {cap : Nat} {l : List Fi} (h : Slice w a cap l) (hb : Below w.heap.size w w') : Slice w' a cap l :=
  ⟨h.cells.below hb, h.room, h.most, h.nil⟩

theorem Owns.slice {w : World} {B : Nat} {v : Value} {l : List Fi} (h : Owns w B v l) : ∃ a cap, v = .slice a l.length cap ∧ Slice w a cap l := by
  obtain ⟨a, cap, e, hc, hn, hm, hr, _⟩ := h.files
  exact ⟨a, cap, e, hc, hr, hm, hn⟩

theorem put_any (a : Option Addr) (cap : Nat) (l : List Fi) (f : Fi) (w : World) (hz : f.n.size ≤ maxLen ∧ f.t.size ≤ maxLen) (hg : Good l) (hs : Slice w a cap l) :
    Calls Try.prog 76 #[.slice a l.length cap, fileV f.n f.t f.k] w fun e w' => ∃ v, e = .returned (.tuple #[v, errV (putN l f)]) ∧ Owns w' w.heap.size v (putL l f) ∧ Below w.heap.size w w' := by
  by_cases hf : f.fault = 0
  · cases hh : hasF l f.n
    · by_cases h8 : 8 ≤ l.length
      · have e : putN l f = 7 := by simp [putN, hf, hh, h8]
        have e2 : putL l f = [] := by simp [putL, e]
        rw [e, e2]
        refine (put_full a cap l f w hz hg hs.cells hf hh h8).mono ?_
        rintro e w' ⟨rfl, hb⟩
        exact ⟨_, rfl, World.ownsRow_nil _ _ _ _, hb⟩
      · have e : putN l f = 0 := by simp [putN, hf, h8]
        have e2 : putL l f = putF l f := by simp [putL, e]
        rw [e, e2]
        exact put_new a cap l f w hz hg hs.cells hs.room hs.most hs.nil hf hh (by omega)
    · have e : putN l f = 0 := by simp [putN, hf, hh]
      have e2 : putL l f = putF l f := by simp [putL, e]
      rw [e, e2]
      exact put_over a cap l f w hz hg hs.cells hs.room hs.most hs.nil hf hh
  · have e : putN l f = f.fault := by simp [putN, hf]
    have e2 : putL l f = [] := by simp [putL, e, hf]
    rw [e, e2]
    refine (put_bad a cap l f w hz hf).mono ?_
    rintro e w' ⟨rfl, hb⟩
    exact ⟨_, rfl, World.ownsRow_nil _ _ _ _, hb⟩

theorem drop_any (a : Option Addr) (cap : Nat) (l : List Fi) (name : ByteArray) (w : World) (hg : Good l) (hs : Slice w a cap l) :
    Calls Try.prog 103 #[.slice a l.length cap, .string name] w fun e w' => ∃ v, e = .returned (.tuple #[v, errV (dropN l name)]) ∧ Owns w' w.heap.size v (dropL l name) ∧ Below w.heap.size w w' := by
  cases hh : hasF l name
  · have e : dropN l name = 5 := by simp [dropN, hh]
    have e2 : dropL l name = [] := by simp [dropL, hh]
    rw [e, e2]
    refine (drop_none a cap l name w hg hs.cells hh).mono ?_
    rintro e w' ⟨rfl, hb⟩
    exact ⟨_, rfl, World.ownsRow_nil _ _ _ _, hb⟩
  · have e : dropN l name = 0 := by simp [dropN, hh]
    have e2 : dropL l name = dropF l name := by simp [dropL, hh]
    rw [e, e2]
    exact drop_good a cap l name w hg hs.cells hs.room hs.most hh

theorem putN_range (l : List Fi) (f : Fi) : 0 ≤ putN l f ∧ putN l f ≤ 100 := by
  have := f.fault_range
  unfold putN
  split
  · exact this
  · split <;> omega
theorem dropN_range (l : List Fi) (name : ByteArray) : 0 ≤ dropN l name ∧ dropN l name ≤ 100 := by
  unfold dropN
  split <;> omega

theorem good_nil : Good [] := ⟨by simp, by simp, by intro i h; simp at h⟩
theorem good_one {f : Fi} (h : f.fault = 0) : Good [f] := ⟨by simp, by simp [h], by intro i h; simp at h⟩

def fa : Fi := ⟨⟨#[97]⟩, ⟨#[120]⟩, 1⟩

end Go.Proofs.Ytihnghnafpgdfab
