/-
  append(nil, files...): a copy that is the call's own.
-/
import Derived.Test.YtihnghnafpgdfabQuiltClone
namespace Go.Proofs.Ytihnghnafpgdfab
open Go.RowKit
set_option linter.unusedVariables false
set_option linter.unusedSimpArgs false

theorem wpList_copy {ops : Array Oper} {rest : List Oper} {o : Oper} {act : Act} {Q : Exit → Act → World → Prop} (hgd : o.guard = none) (s x : Operand)
    (ho : o.op = .call { callee := .builtin .append, args := #[s, x], argTypes := #[28, 28] })
    (W : World) (a : Option Addr) (cap : Nat) (l : List Fi) (hl : l.length ≤ 100) (hsl : Slice W a cap l) (hs : act.eval s = .slice none 0 0) (hx : act.eval x = .slice a l.length cap)
    (h : ∀ v' w', Owns w' W.heap.size v' l → Below W.heap.size W w' → wpList Try.prog ops Q rest (act.put o.dst v') w') : wpList Try.prog ops Q (o :: rest) act W := by
  obtain ⟨i0, hi, hz0, hz1, hz2⟩ := info_parts Try.infoFile
  have hown : Owns W W.heap.size (.slice none 0 0) [] := World.ownsRow_nil _ _ _ _
  cases a with
  | none =>
    have e : l = [] := by
      cases l with
      | nil => rfl
      | cons g r => obtain ⟨_, _, e, _⟩ := hsl.cells 0 (by simp); cases e
    subst e
    have e := hsl.nil rfl
    subst e
    refine wpList_append_own_none hgd s x 28 ho W.heap.size 41 i0 3 Try.underlying28 hi _ _ _ hs hown (by simpa using hx) ?_
    exact h _ _ hown (Below.refl _ _)
  | some p =>
    have hcells : ∀ q u, (flat l)[q]? = some u → W.cell? (p.add q) = some u := by
      rcases hsl.cells.spot p rfl with rfl | hsp
      · intro q u hu; simp [flat] at hu
      · obtain ⟨xb, xo, xs⟩ := p
        simp at hsp
        subst hsp
        exact hsl.cells.flat
    refine wpList_append_own _ hgd s x 28 ho W.heap.size 41 i0 _ 3 40 Try.underlying28 hi hz0 hz1 hz2 rfl (by decide) _ _ _ hs hown p l.length cap (flat l) hx (flat_length _) hcells (flat_one _) (by unfold maxLen; simp; omega) (by simp; omega) (Nat.le_refl _) ?_
    intro v' w' hown' hgrow hnil
    refine h v' w' ?_ ((Below.refl _ _).grown hgrow (Nat.le_refl _) (fun q hq => (hown.lt q hq).1))
    show World.ownsRow _ _ _ _ _ _ _
    simpa [flat] using hown'

end Go.Proofs.Ytihnghnafpgdfab
