/-
  ROWS OF ONE's OWN, LATER: what is wanted of them in the images' walks.
-/
import Derived.Test.YtihnghnafpgdfabDoorImageNought
import Derived.Test.YtihnghnafpgdfabDoorImageImg
import Derived.Test.YtihnghnafpgdfabDoorLater
import Derived.Deep.RegionHeld3
import Derived.Lib.SmallJoins
import Derived.Laws.OwnMore
namespace Go.Proofs.YtihnghnafpgdfabDoor
open Go Go.RowKit Go.BigFrame
set_option linter.unusedVariables false
set_option linter.unusedSimpArgs false

theorem rowI_shape {w : World} {base : Nat} {e : TypeId} {size : Nat} {v : Value} {n : Nat} {xs : List Value} (h : w.ownsRow base e size v n xs) : ∃ a c, v = .slice a n c := by
  rcases h.2 with ⟨e1, h0⟩ | ⟨g, cap, cur, e1, _⟩
  · exact ⟨none, 0, by rw [e1, h0]⟩
  · exact ⟨_, _, e1⟩
theorem rowI_far {w w' : World} {B : Nat} {e : TypeId} {size : Nat} {v : Value} {n : Nat} {xs : List Value} (h : w.ownsRow B e size v n xs) (hb : Below w.heap.size w w') : w'.ownsRow B e size v n xs := by
  refine ⟨h.1, ?_⟩
  rcases h.2 with h0 | ⟨g, cap, cur, e1, hg, h1, h2⟩
  · exact .inl h0
  · exact .inr ⟨g, cap, cur, e1, hg, by rw [hb.block g (Array.getElem?_eq_some_iff.1 h1).1]; exact h1, h2⟩
theorem OwnsC.far {w w' : World} {B : Nat} {v : Value} {l : List Ch} (h : OwnsC w B v l) (hb : Below w.heap.size w w') : OwnsC w' B v l := rowI_far h hb
theorem var_later {P : Program} {W W' : World} {n : String} {cs : Array Value} (h : W.var? P n = some cs) (hb : Below W.heap.size W W') : W'.var? P n = some cs := by
  cases hg : P.globalNamed n with
  | none => unfold World.var? at h; rw [hg] at h; cases h
  | some g => exact Go.Joins.var_stays hg h hb (Nat.le_refl _)
/-- What the listed variables hold. -/
def Vars (w : World) : Prop := Lib.TabIs Tryd.prog w "internal/strconv.uint64pow10" .u64 Lib.pow10Tab ∧ ∃ tp p, w.var? Tryd.prog "strconv.ErrSyntax" = some #[.iface tp p]
theorem Vars.below {w w' : World} (h : Vars w) (hb : Below w.heap.size w w') : Vars w' := by
  obtain ⟨h1, tp, p, h2⟩ := h
  exact ⟨var_later h1 hb, tp, p, var_later h2 hb⟩
/-- A literal of one row. -/
theorem OwnsC.lit (w : World) (B : Nat) (c : Ch) (hb : B ≤ w.heap.size) : OwnsC (w.alloc (.cells #[.string c.key, .string c.val, .bool c.gone] 41)) B (.slice (some ⟨w.heap.size, 0, none⟩) 1 1) [c] :=
  World.ownsRow_lit w #[.string c.key, .string c.val, .bool c.gone] 1 hb (by unfold maxLen; omega) rfl
end Go.Proofs.YtihnghnafpgdfabDoor
