/-
  PLAIN FUNCTIONS ON LISTS: what chapter 1 of the document asks of names and files, by numbers of errors. No program is named here.
-/
import Derived.WalkKit
namespace Go.Proofs.Ytihnghnafpgdfab
open Go.RowKit
set_option linter.unusedVariables false
set_option linter.unusedSimpArgs false

/-- Is the byte a small letter, or a digit? -/
def plainI (n : Int) : Bool := (decide (97 ≤ n) && decide (n ≤ 122)) || (decide (48 ≤ n) && decide (n ≤ 57))
def pl (c : UInt8) : Bool := plainI c.toNat
/-- A1, by its error's number. -/
def nameF (l : List UInt8) : Int := if l.isEmpty then 3 else if l.all pl then (if 6 < l.length then 2 else 0) else 3
/-- A2, by its error's number. -/
def fileF (n t : List UInt8) (k : Int) : Int :=
  if nameF n ≠ 0 then nameF n else if 12 < t.length then 2 else if k < 1 ∨ 9999 < k then 1 else 0

theorem nameF_cases (l : List UInt8) : nameF l = 0 ∨ nameF l = 2 ∨ nameF l = 3 := by
  unfold nameF; split <;> (try split) <;> (try split) <;> simp

theorem take_snoc (s : ByteArray) (k : Nat) (h : k < s.size) : s.data.toList.take (k + 1) = s.data.toList.take k ++ [s[k]] := by
  rw [List.take_succ_eq_append_getElem (by simpa using h)]; rfl

theorem all_snoc (s : ByteArray) (k : Nat) (h : k < s.size) : (s.data.toList.take (k + 1)).all pl = ((s.data.toList.take k).all pl && pl s[k]) := by
  rw [take_snoc s k h]; simp

theorem take_all (s : ByteArray) (k : Nat) (h : s.size ≤ k) : s.data.toList.take k = s.data.toList :=
  List.take_of_length_le (by simp; omega)

theorem nameF_bad (s : ByteArray) (k : Nat) (h : k < s.size) (hp : pl s[k] = false) : nameF s.data.toList = 3 := by
  have : s.data.toList.all pl = false := by
    rw [List.all_eq_false]
    exact ⟨s[k], by simp [ByteArray.getElem_eq_getElem_data], by simp [hp]⟩
  unfold nameF
  simp [this]

theorem nameF_good (l : List UInt8) (h : l.all pl = true) (hn : l ≠ []) : nameF l = if 6 < l.length then 2 else 0 := by
  unfold nameF; simp [h, hn]

theorem nameF_nil : nameF [] = 3 := rfl

theorem pl_true (c : UInt8) (h : (97 ≤ (c.toNat : Int) ∧ (c.toNat : Int) ≤ 122) ∨ (48 ≤ (c.toNat : Int) ∧ (c.toNat : Int) ≤ 57)) : pl c = true := by
  unfold pl plainI; simp only [Bool.or_eq_true, Bool.and_eq_true, decide_eq_true_eq]; exact h

theorem pl_false (c : UInt8) (h : ((c.toNat : Int) < 97 ∨ 122 < (c.toNat : Int)) ∧ ((c.toNat : Int) < 48 ∨ 57 < (c.toNat : Int))) : pl c = false := by
  rw [Bool.eq_false_iff]; unfold pl plainI; simp only [ne_eq, Bool.or_eq_true, Bool.and_eq_true, decide_eq_true_eq]; omega

theorem toList_ne (s : ByteArray) (h : ¬ s.size = 0) : s.data.toList ≠ [] := by
  intro e
  apply h
  have : s.data.toList.length = 0 := by rw [e]; rfl
  simpa using this

theorem isEmpty_false (s : ByteArray) (h : ¬ s.size = 0) : s.toList.isEmpty = false := by
  have : s.toList = s.data.toList := ByteArray.toList_eq s
  rw [this]
  simpa using toList_ne s h

end Go.Proofs.Ytihnghnafpgdfab
