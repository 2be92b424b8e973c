/-
  THE WALKS OF shelf.Check AND OF THE DOCUMENT's ANSWER TO B3.
-/
import Derived.Test.YtihnghnafpgdfacShelfBase
namespace Go.Proofs.Ytihnghnafpgdfac
open Go.RowKit
set_option linter.unusedVariables false
set_option linter.unusedSimpArgs false

theorem bcell {W w1 : World} (hb : Below W.heap.size W w1) : (∀ b o, b < W.heap.size → w1.cell? ⟨b, o, none⟩ = W.cell? ⟨b, o, none⟩) ∧ (∀ b o, b < W.heap.size → w1.frozen? ⟨b, o, none⟩ = W.frozen? ⟨b, o, none⟩) :=
  ⟨fun b o h => hb.cell (p := ⟨b, o, none⟩) h, fun b o h => hb.frozen (p := ⟨b, o, none⟩) h⟩

theorem fault_next {l : List Fi} {k : Nat} (h : ∀ i, i < k → faultAt l i = 0) (hk : faultAt l k = 0) : ∀ i, i < k + 1 → faultAt l i = 0 := by
  intro i hi
  rcases Nat.lt_or_ge i k with h1 | h1
  · exact h i h1
  · have e : i = k := by omega
    subst e
    exact hk

theorem faultAt_prev {l : List Fi} {k j : Nat} (hk : k < l.length) (hj : j < l.length) (e : k = j + 1) (hf : l[k].fault = 0) : faultAt l k = if ltB l[j].n l[k].n = true then 0 else 3 := by
  subst e
  exact faultAt_succ hk hf

end Go.Proofs.Ytihnghnafpgdfac
