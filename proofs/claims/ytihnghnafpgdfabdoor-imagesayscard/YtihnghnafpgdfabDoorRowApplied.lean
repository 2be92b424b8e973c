/-
  THE WALK OF THE DOCUMENT's ANSWER TO G3.
-/
import Derived.Test.YtihnghnafpgdfabDoorRowParse
import Derived.Test.YtihnghnafpgdfabDoorRowPure
namespace Go.Proofs.YtihnghnafpgdfabDoor
open Go.RowKit
set_option linter.unusedVariables false
set_option linter.unusedSimpArgs false

theorem le_of_eq_len {nx m : List Ch} {k : Nat} (h : nx.length ≤ 2 * k) (h2 : m.length ≤ nx.length + 2) : m.length ≤ 2 * (k + 1) := by omega
theorem CC.off {w : World} {b off : Nat} {l : List Ch} (h : CC w (some ⟨b, off, none⟩) l) (i : Nat) (hi : i < l.length) : w.cell? ⟨b, off + i * 3, none⟩ = some (.string l[i].key) ∧ w.cell? ⟨b, off + i * 3 + 1, none⟩ = some (.string l[i].val) ∧ w.cell? ⟨b, off + i * 3 + 2, none⟩ = some (.bool l[i].gone) := by
  obtain ⟨b', off', e, c0, c1, c2⟩ := h i hi
  cases e
  exact ⟨c0, c1, c2⟩
theorem layC_step (c : Ch) (b : Bool) (l : List Ch) (k : Nat) (h : k < l.length) : layC c b (l.drop k) = (if b = false ∧ ltB l[k].key c.key = false then [c] else []) ++ ((if sameK c.key l[k] = true then [] else [l[k]]) ++ layC c (b || !ltB l[k].key c.key) (l.drop (k + 1))) := by
  rw [List.drop_eq_getElem_cons h, layC]
theorem layC_length (c : Ch) : ∀ (b : Bool) (l : List Ch), (layC c b l).length ≤ l.length + 1
  | b, [] => by rw [layC]; split <;> simp
  | true, o :: l => by
    have := layC_length c true l
    rw [layC]
    simp only [Bool.true_or, Bool.true_eq_false, false_and, if_false, List.nil_append, List.length_append]
    split <;> simp <;> omega
  | false, o :: l => by
    rw [layC]
    cases h : ltB o.key c.key
    · have := List.length_filter_le (fun o => !sameK c.key o) l
      simp only [true_and, if_true, Bool.false_or, Bool.not_false, List.length_append]
      rw [layC_true]
      split <;> simp <;> omega
    · have := layC_length c false l
      simp only [Bool.true_eq_false, and_false, if_false, Bool.false_or, Bool.not_true, List.nil_append, List.length_append]
      split <;> simp <;> omega
theorem appliedC_take (rows l : List Ch) (k : Nat) (h : k < l.length) : appliedC rows (l.take (k + 1)) = layC l[k] l[k].gone (appliedC rows (l.take k)) := by
  unfold appliedC
  rw [takeSucc l k h, List.foldl_append]
  rfl

end Go.Proofs.YtihnghnafpgdfabDoor
