/-
  FILES THAT CAME IN, OPENED: a slice of files that reads as data leads to a list of files.
-/
import Derived.Test.YtihnghnafpgdfabShelfAll
import Derived.ProofKit
import Derived.Deep.Slices
import Derived.Deep.Strs
namespace Go.Proofs.Ytihnghnafpgdfab
open Go.RowKit Go.Deep Go.ChangeShapes Go.WideShapes
set_option linter.unusedVariables false
set_option linter.unusedSimpArgs false

section
variable {H : Type} {enc : TypeId × Value → H} {w : World} {base : Nat} {spare : Nat → Bool} {held : Bool}

theorem list3 : ∀ {cs : List Value}, cs.length = 3 → ∃ a b c, cs = [a, b, c]
  | [a, b, c], _ => ⟨a, b, c, rfl⟩

theorem cellsFile : Try.prog.cellsOf 41 = 3 := by kernel_rfl
theorem cellsString : Try.prog.cellsOf 9 = 1 := by kernel_rfl
theorem cellsInt : Try.prog.cellsOf 3 = 1 := by kernel_rfl

/-- One file's cells. -/
theorem open_file {fuel : Nat} {cs : List Value} {x : DataW H × List MemPlace} (h : DataW.trod enc Try.prog w base spare held fuel 41 cs = some x) :
    ∃ f : Fi, cs = [.string f.n, .string f.t, .int .i64 f.k] ∧ f.n.size ≤ maxLen ∧ f.t.size ≤ maxLen := by
  obtain ⟨y0, y1, y2, n, _, hl, h0, h1, h2⟩ := trod_struct3 Try.underlying41 h
  rw [cellsFile] at hl
  obtain ⟨c0, c1, c2, rfl⟩ := list3 hl
  obtain ⟨s, e0, _, ws⟩ := DataW.trod_string Try.underlying9 h0
  obtain ⟨t, e1, _, wt⟩ := DataW.trod_string Try.underlying9 h1
  obtain ⟨k, e2, _, wk⟩ := DataW.trod_int Try.underlying3 h2
  simp [cellsString, cellsInt] at e0 e1 e2
  subst e0 e1 e2
  exact ⟨⟨s, t, k⟩, rfl, ws, wt⟩

theorem open_files {fuel : Nat} {cs : List Value} {x : DataW H × List MemPlace} (h : DataW.trod enc Try.prog w base spare held fuel 28 cs = some x) :
    ∃ (a : Option Addr) (cap : Nat) (l : List Fi), cs = [.slice a l.length cap] ∧ Slice w a cap l ∧ Sized l := by
  rcases open_slice Try.underlying28 h with ⟨rfl, _⟩ | ⟨a, len, cap, m, n, D, Pl, rfl, hb, hl, hm, hmm, _, hx⟩
  · exact ⟨none, 0, [], rfl, ⟨Cells.nil _ _, Nat.le_refl _, Nat.zero_le _, fun _ => rfl⟩, fun f hf => by cases hf⟩
  · have hlm : len ≤ m := by rw [hmm]; split <;> omega
    have each : ∀ i, i < len → ∃ f : Fi, (w.cell? (a.add (i * 3)) = some (.string f.n) ∧ w.cell? (a.add (i * 3 + 1)) = some (.string f.t) ∧ w.cell? (a.add (i * 3 + 2)) = some (.int .i64 f.k)) ∧ f.n.size ≤ maxLen ∧ f.t.size ≤ maxLen := by
      intro i hi
      obtain ⟨cs', h1, h2⟩ := hx i (by omega)
      rw [cellsFile] at h1
      obtain ⟨f, rfl, wn, wt⟩ := open_file h2
      obtain ⟨_, hlen, hcell⟩ := World.cells?_some h1
      refine ⟨f, ⟨?_, ?_, ?_⟩, wn, wt⟩
      · have := hcell 0 (by decide); rw [add_add] at this; simpa using this
      · have := hcell 1 (by decide); rw [add_add] at this; simpa using this
      · have := hcell 2 (by decide); rw [add_add] at this; simpa using this
    have gather : ∀ n, n ≤ len → ∃ l : List Fi, l.length = n ∧ Sized l ∧ ∀ i (h : i < l.length), w.cell? (a.add (i * 3)) = some (.string l[i].n) ∧ w.cell? (a.add (i * 3 + 1)) = some (.string l[i].t) ∧ w.cell? (a.add (i * 3 + 2)) = some (.int .i64 l[i].k) := by
      intro n
      induction n with
      | zero => intro _; exact ⟨[], rfl, (fun f hf => by cases hf), fun i h => absurd h (Nat.not_lt_zero _)⟩
      | succ n ih =>
        intro hn
        obtain ⟨l, hll, hsz, hc⟩ := ih (by omega)
        obtain ⟨f, hf, wf⟩ := each n (by omega)
        refine ⟨l ++ [f], by simp [hll], ?_, ?_⟩
        · intro g hg
          simp at hg
          rcases hg with hg | rfl
          · exact hsz g hg
          · exact wf
        · intro i hi
          simp only [List.length_append, List.length_cons, List.length_nil] at hi
          by_cases hin : i < l.length
          · rw [List.getElem_append_left hin]; exact hc i hin
          · have e : i = l.length := by omega
            subst e
            rw [List.getElem_append_right (Nat.le_refl _)]
            simp only [Nat.sub_self, List.getElem_cons_zero]
            rw [hll]
            exact hf
    obtain ⟨l, hll, hsz, hc⟩ := gather len (Nat.le_refl _)
    refine ⟨some a, cap, l, by rw [hll], ⟨?_, by omega, hm, fun h => by cases h⟩, hsz⟩
    intro i hi
    obtain ⟨b, off, spot⟩ := a
    have hspot : spot = none := by
      have h0 := (hc 0 (by omega)).1
      have := World.cell?_spot h0
      simpa [Addr.add] using this
    subst hspot
    obtain ⟨h0, h1, h2⟩ := hc i hi
    have hadd : ∀ j, (⟨b, off, none⟩ : Addr).add j = ⟨b, off + j, none⟩ := by intro j; unfold Addr.add; split <;> simp_all
    rw [hadd] at h0 h1 h2
    exact ⟨b, off, rfl, h0, by rw [Nat.add_assoc]; exact h1, by rw [Nat.add_assoc]; exact h2⟩

end
end Go.Proofs.Ytihnghnafpgdfab
