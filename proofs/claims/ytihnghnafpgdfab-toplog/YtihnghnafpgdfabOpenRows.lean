/-
  CHANGES THAT CAME IN: a nil slice has no room.
-/
import Derived.Test.YtihnghnafpgdfabOpenActs
namespace Go.Proofs.Ytihnghnafpgdfab
open Go.RowKit Go.Deep Go.ChangeShapes Go.WideShapes
set_option linter.unusedVariables false
set_option linter.unusedSimpArgs false

section
variable {H : Type} {enc : TypeId × Value → H} {w : World} {base : Nat} {spare : Nat → Bool} {held : Bool}
theorem changes_nil {fuel : Nat} {a : Option Addr} {n cap : Nat} {x : DataW H × List MemPlace} (h : DataW.trod enc Try.prog w base spare held fuel 24 (Value.slice a n cap).cells.toList = some x) : a = none → cap = 0 := by
  intro e
  subst e
  rcases open_slice Try.underlying24 h with ⟨h1, _⟩ | ⟨a, len, cap, m, n, D, Pl, h1, _⟩
  · simp [Value.cells] at h1; exact h1.2
  · simp [Value.cells] at h1
/-- What an act's numbers are, and its changes' room. -/
structure ActNum (x : Ac) : Prop where
  n : (Lit.int .i64 x.n).wf = true
  k : (Lit.int .u64 x.k).wf = true
  nil : x.ca = none → x.cc = 0
set_option maxRecDepth 100000 in
theorem acts_nums {fuel : Nat} {a : Option Addr} {len cap : Nat} {l : List Ac} {x : DataW H × List MemPlace} (h : DataW.trod enc Try.prog w base spare held fuel 22 (Value.slice a len cap).cells.toList = some x) (hc : ActCells w a l) (hll : l.length = len) : ∀ i (h : i < l.length), ActNum l[i] := by
  intro i hi
  rcases open_slice Try.underlying22 h with ⟨h1, _⟩ | ⟨a', len', cap', m, n, D, Pl, h1, hb, hl, hm, hmm, _, hx⟩
  · simp [Value.cells] at h1; omega
  · simp [Value.cells] at h1
    obtain ⟨rfl, rfl, rfl⟩ := h1
    have hlm : len ≤ m := by rw [hmm]; split <;> omega
    obtain ⟨cs', k1, k2⟩ := hx i (by omega)
    rw [cellsAct] at k1
    obtain ⟨_, hlen, hcell⟩ := World.cells?_some k1
    obtain ⟨y0, y1, y2, y3, y4, y5, n', hl', h0, h1, h2, h3, h4, h5⟩ := open_six Try.underlying26 k2
    rw [cellsAct] at hl'
    obtain ⟨c0, c1, c2, c3, c4, c5, rfl⟩ := list6 hl'
    obtain ⟨k3, e3, _, w3⟩ := DataW.trod_int Try.underlying3 h3
    obtain ⟨k4, e4, _, w4⟩ := DataW.trod_int Try.underlying23 h4
    simp [cellsInt, cellsU64] at e3 e4
    obtain ⟨b, off, e, ⟨d0, d1, d2, d3, d4, d5⟩, ok⟩ := hc i hi
    injection e with e
    subst e
    have hadd : ∀ j, (⟨b, off, none⟩ : Addr).add j = ⟨b, off + j, none⟩ := by intro j; unfold Addr.add; split <;> simp_all
    have g3 := hcell 3 (by decide)
    have g4 := hcell 4 (by decide)
    have g5 := hcell 5 (by decide)
    rw [add_add, hadd] at g3 g4 g5
    simp only [List.getElem_cons_succ, List.getElem_cons_zero, ← Nat.add_assoc] at g3 g4 g5
    rw [d3] at g3
    rw [d4] at g4
    rw [d5] at g5
    injection g3 with g3
    injection g4 with g4
    injection g5 with g5
    subst e3 e4
    injection g3 with _ g3
    injection g4 with _ g4
    refine ⟨by rw [g3]; exact w3, by rw [g4]; exact w4, ?_⟩
    have h6 : DataW.trod enc Try.prog w base spare held n' 24 (Value.slice l[i].ca l[i].cl.length l[i].cc).cells.toList = some y5 := by
      have : ([c0, c1, c2, Value.int .i64 k3, Value.int .u64 k4, c5].drop 5).take (Try.prog.cellsOf 24) = (Value.slice l[i].ca l[i].cl.length l[i].cc).cells.toList := by
        rw [cellsChanges, ← g5]; simp [Value.cells]
      rw [← this]
      exact h5
    exact changes_nil h6
end
end Go.Proofs.Ytihnghnafpgdfab
