/-
  THE WALKS OF THE DOCUMENT's ANSWER TO B2.
-/
import Derived.Test.YtihnghnafpgdfabShelfGet
import Derived.Test.YtihnghnafpgdfabShelfCat
namespace Go.Proofs.Ytihnghnafpgdfab
open Go.RowKit
set_option linter.unusedVariables false
set_option linter.unusedSimpArgs false

theorem getV_none : getV none = .tuple #[.agg #[.string ⟨#[]⟩, .string ⟨#[]⟩, .int .i64 0], .bool false] := rfl
theorem getV_some (f : Fi) : getV (some f) = .tuple #[.agg #[.string f.n, .string f.t, .int .i64 f.k], .bool true] := rfl

theorem cell_three_new (w : World) (a b c : Value) (t : TypeId) : ∀ j u, [a, b, c][j]? = some u → (w.alloc (.cells #[a, b, c] t)).cell? ((⟨w.heap.size, 0, none⟩ : Addr).add j) = some u := by
  intro j u hj
  match j, hj with
  | 0, hj => simp at hj; subst hj; simp [Addr.add]
  | 1, hj => simp at hj; subst hj; simp [Addr.add]
  | 2, hj => simp at hj; subst hj; simp [Addr.add]
  | j + 3, hj => simp at hj

theorem three_one (f : Fi) : ∀ u ∈ [Value.string f.n, .string f.t, .int .i64 f.k], u.oneCell' = true := by
  intro u hu
  simp at hu
  rcases hu with rfl | rfl | rfl <;> rfl

theorem Owns.snoc {w : World} {B : Nat} {v : Value} {l : List Fi} {f : Fi} (h : w.ownsRow B 41 3 v (l.length + 1) (flat l ++ [.string f.n, .string f.t, .int .i64 f.k])) : Owns w B v (l ++ [f]) := by
  show World.ownsRow _ _ _ _ _ _ _
  rw [flat_append, List.length_append]
  exact h

theorem Owns.drewN {w : World} {B : Nat} {v : Value} {l : List Fi} (h : Owns w B v l) (n : Nat) : Owns (w.drewN n) B v l := h

theorem dropR_snoc (l : List Fi) (name : ByteArray) (k : Nat) (h : k < l.length) : dropR (l.take (k + 1)) name = dropR (l.take k) name ++ (if (l[k].n.toList == name.toList) = true then [] else [l[k]]) := by
  unfold dropR
  rw [takeSucc l k h, List.filter_append]
  cases he : l[k].n.toList == name.toList <;> simp [he]

/-- What the loop of PutFile makes of the rest, with a list made so far, and whether the file is laid. -/
def putS (f : Fi) : List Fi → Bool → List Fi → List Fi
  | out, laid, [] => if laid = true then out else out ++ [f]
  | out, laid, g :: r => putS f ((if laid = false ∧ ltB g.n f.n = false then out ++ [f] else out) ++ (if g.n = f.n then [] else [g])) (laid || !ltB g.n f.n) r

theorem putS_eq (f : Fi) : ∀ (l out : List Fi) (laid : Bool), putS f out laid l = out ++ putR f laid l
  | [], out, laid => by cases laid <;> simp [putS, putR]
  | g :: r, out, laid => by
    simp only [putS, putR]
    rw [putS_eq f r]
    cases laid <;> cases ltB g.n f.n <;> by_cases hn : g.n = f.n <;> simp [hn]

theorem putS_step (f : Fi) (l out : List Fi) (laid : Bool) (k : Nat) (h : k < l.length) : putS f out laid (l.drop k) = putS f ((if laid = false ∧ ltB l[k].n f.n = false then out ++ [f] else out) ++ (if l[k].n = f.n then [] else [l[k]])) (laid || !ltB l[k].n f.n) (l.drop (k + 1)) := by
  rw [List.drop_eq_getElem_cons h]; rfl

end Go.Proofs.Ytihnghnafpgdfab
