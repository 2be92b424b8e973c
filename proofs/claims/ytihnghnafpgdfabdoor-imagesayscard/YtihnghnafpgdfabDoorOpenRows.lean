/-
  FILES THAT CAME IN, OPENED: a slice of files that reads as data leads to a list of files.
  ACTS THAT CAME IN, OPENED.
  CHANGES THAT CAME IN: a nil slice has no room.
-/
import Derived.Test.YtihnghnafpgdfabDoorQuiltClone
import Derived.ProofKit
import Derived.Deep.Slices
import Derived.Deep.Strs
import Derived.Test.YtihnghnafpgdfabDoorActsBase
namespace Go.Proofs.YtihnghnafpgdfabDoor
open Go.RowKit Go.Deep Go.ChangeShapes Go.WideShapes
set_option linter.unusedVariables false
set_option linter.unusedSimpArgs false

section
variable {H : Type} {enc : TypeId × Value → H} {w : World} {base : Nat} {spare : Nat → Bool} {held : Bool}

theorem list3 : ∀ {cs : List Value}, cs.length = 3 → ∃ a b c, cs = [a, b, c]
  | [a, b, c], _ => ⟨a, b, c, rfl⟩

theorem cellsFile : Tryd.prog.cellsOf 53 = 3 := by kernel_rfl
theorem cellsString : Tryd.prog.cellsOf 9 = 1 := by kernel_rfl
theorem cellsInt : Tryd.prog.cellsOf 3 = 1 := by kernel_rfl

/-- One file's cells. -/
theorem open_file {fuel : Nat} {cs : List Value} {x : DataW H × List MemPlace} (h : DataW.trod enc Tryd.prog w base spare held fuel 53 cs = some x) :
    ∃ f : Fi, cs = [.string f.n, .string f.t, .int .i64 f.k] ∧ f.n.size ≤ maxLen ∧ f.t.size ≤ maxLen := by
  obtain ⟨y0, y1, y2, n, _, hl, h0, h1, h2⟩ := trod_struct3 Tryd.underlying53 h
  rw [cellsFile] at hl
  obtain ⟨c0, c1, c2, rfl⟩ := list3 hl
  obtain ⟨s, e0, _, ws⟩ := DataW.trod_string Tryd.underlying9 h0
  obtain ⟨t, e1, _, wt⟩ := DataW.trod_string Tryd.underlying9 h1
  obtain ⟨k, e2, _, wk⟩ := DataW.trod_int Tryd.underlying3 h2
  simp [cellsString, cellsInt] at e0 e1 e2
  subst e0 e1 e2
  exact ⟨⟨s, t, k⟩, rfl, ws, wt⟩

theorem open_files {fuel : Nat} {cs : List Value} {x : DataW H × List MemPlace} (h : DataW.trod enc Tryd.prog w base spare held fuel 22 cs = some x) :
    ∃ (a : Option Addr) (cap : Nat) (l : List Fi), cs = [.slice a l.length cap] ∧ Slice w a cap l ∧ Sized l := by
  rcases open_slice Tryd.underlying22 h with ⟨rfl, _⟩ | ⟨a, len, cap, m, n, D, Pl, rfl, hb, hl, hm, hmm, _, hx⟩
  · exact ⟨none, 0, [], rfl, ⟨Cells.nil _ _, Nat.le_refl _, Nat.zero_le _, fun _ => rfl⟩, fun f hf => by cases hf⟩
  · have hlm : len ≤ m := by rw [hmm]; split <;> omega
    have each : ∀ i, i < len → ∃ f : Fi, (w.cell? (a.add (i * 3)) = some (.string f.n) ∧ w.cell? (a.add (i * 3 + 1)) = some (.string f.t) ∧ w.cell? (a.add (i * 3 + 2)) = some (.int .i64 f.k)) ∧ f.n.size ≤ maxLen ∧ f.t.size ≤ maxLen := by
      intro i hi
      obtain ⟨cs', h1, h2⟩ := hx i (by omega)
      rw [cellsFile] at h1
      obtain ⟨f, rfl, wn, wt⟩ := open_file h2
      obtain ⟨_, hlen, hcell⟩ := World.cells?_some h1
      refine ⟨f, ⟨?_, ?_, ?_⟩, wn, wt⟩
      · have := hcell 0 (by decide); rw [add_add] at this; simpa using this
      · have := hcell 1 (by decide); rw [add_add] at this; simpa using this
      · have := hcell 2 (by decide); rw [add_add] at this; simpa using this
    have gather : ∀ n, n ≤ len → ∃ l : List Fi, l.length = n ∧ Sized l ∧ ∀ i (h : i < l.length), w.cell? (a.add (i * 3)) = some (.string l[i].n) ∧ w.cell? (a.add (i * 3 + 1)) = some (.string l[i].t) ∧ w.cell? (a.add (i * 3 + 2)) = some (.int .i64 l[i].k) := by
      intro n
      induction n with
      | zero => intro _; exact ⟨[], rfl, (fun f hf => by cases hf), fun i h => absurd h (Nat.not_lt_zero _)⟩
      | succ n ih =>
        intro hn
        obtain ⟨l, hll, hsz, hc⟩ := ih (by omega)
        obtain ⟨f, hf, wf⟩ := each n (by omega)
        refine ⟨l ++ [f], by simp [hll], ?_, ?_⟩
        · intro g hg
          simp at hg
          rcases hg with hg | rfl
          · exact hsz g hg
          · exact wf
        · intro i hi
          simp only [List.length_append, List.length_cons, List.length_nil] at hi
          by_cases hin : i < l.length
          · rw [List.getElem_append_left hin]; exact hc i hin
          · have e : i = l.length := by omega
            subst e
            rw [List.getElem_append_right (Nat.le_refl _)]
            simp only [Nat.sub_self, List.getElem_cons_zero]
            rw [hll]
            exact hf
    obtain ⟨l, hll, hsz, hc⟩ := gather len (Nat.le_refl _)
    refine ⟨some a, cap, l, by rw [hll], ⟨?_, by omega, hm, fun h => by cases h⟩, hsz⟩
    intro i hi
    obtain ⟨b, off, spot⟩ := a
    have hspot : spot = none := by
      have h0 := (hc 0 (by omega)).1
      have := World.cell?_spot h0
      simpa [Addr.add] using this
    subst hspot
    obtain ⟨h0, h1, h2⟩ := hc i hi
    have hadd : ∀ j, (⟨b, off, none⟩ : Addr).add j = ⟨b, off + j, none⟩ := by intro j; unfold Addr.add; split <;> simp_all
    rw [hadd] at h0 h1 h2
    exact ⟨b, off, rfl, h0, by rw [Nat.add_assoc]; exact h1, by rw [Nat.add_assoc]; exact h2⟩

end
end Go.Proofs.YtihnghnafpgdfabDoor
namespace Go.Proofs.YtihnghnafpgdfabDoor
open Go.RowKit Go.Deep Go.ChangeShapes Go.WideShapes
set_option linter.unusedVariables false
set_option linter.unusedSimpArgs false

section
variable {H : Type} {enc : TypeId × Value → H} {w : World} {base : Nat} {spare : Nat → Bool} {held : Bool}

theorem list6 : ∀ {cs : List Value}, cs.length = 6 → ∃ a b c d e f, cs = [a, b, c, d, e, f]
  | [a, b, c, d, e, f], _ => ⟨a, b, c, d, e, f, rfl⟩

theorem cellsChange : Tryd.prog.cellsOf 41 = 3 := by kernel_rfl
theorem cellsBool : Tryd.prog.cellsOf 4 = 1 := by kernel_rfl
theorem cellsU64 : Tryd.prog.cellsOf 92 = 1 := by kernel_rfl
theorem cellsChanges : Tryd.prog.cellsOf 25 = 1 := by kernel_rfl

theorem open_change {fuel : Nat} {cs : List Value} {x : DataW H × List MemPlace} (h : DataW.trod enc Tryd.prog w base spare held fuel 41 cs = some x) :
    ∃ (c : Ch), cs = [.string c.key, .string c.val, .bool c.gone] ∧ c.key.size ≤ maxLen ∧ c.val.size ≤ maxLen := by
  obtain ⟨y0, y1, y2, n, _, hl, h0, h1, h2⟩ := trod_struct3 Tryd.underlying41 h
  rw [cellsChange] at hl
  obtain ⟨c0, c1, c2, rfl⟩ := list3 hl
  obtain ⟨s, e0, _, ws⟩ := DataW.trod_string Tryd.underlying9 h0
  obtain ⟨t, e1, _, wt⟩ := DataW.trod_string Tryd.underlying9 h1
  obtain ⟨g, e2, _⟩ := DataW.trod_bool Tryd.underlying4 h2
  simp [cellsString, cellsBool] at e0 e1 e2
  subst e0 e1 e2
  exact ⟨⟨s, t, g⟩, rfl, ws, wt⟩

theorem open_changes {fuel : Nat} {cs : List Value} {x : DataW H × List MemPlace} (h : DataW.trod enc Tryd.prog w base spare held fuel 25 cs = some x) :
    ∃ (a : Option Addr) (cap : Nat) (l : List Ch), cs = [.slice a l.length cap] ∧ ChCells w a l ∧ l.length ≤ maxLen := by
  rcases open_slice Tryd.underlying25 h with ⟨rfl, _⟩ | ⟨a, len, cap, m, n, D, Pl, rfl, hb, hl, hm, hmm, _, hx⟩
  · exact ⟨none, 0, [], rfl, (fun i h => absurd h (Nat.not_lt_zero _)), Nat.zero_le _⟩
  · have hlm : len ≤ m := by rw [hmm]; split <;> omega
    have each : ∀ i, i < len → ∃ f : Ch, (w.cell? (a.add (i * 3)) = some (.string f.key) ∧ w.cell? (a.add (i * 3 + 1)) = some (.string f.val) ∧ w.cell? (a.add (i * 3 + 2)) = some (.bool f.gone)) ∧ f.key.size ≤ maxLen ∧ f.val.size ≤ maxLen := by
      intro i hi
      obtain ⟨cs', h1, h2⟩ := hx i (by omega)
      rw [cellsChange] at h1
      obtain ⟨f, rfl, wn, wt⟩ := open_change h2
      obtain ⟨_, hlen, hcell⟩ := World.cells?_some h1
      refine ⟨f, ⟨?_, ?_, ?_⟩, wn, wt⟩
      · have := hcell 0 (by decide); rw [add_add] at this; simpa using this
      · have := hcell 1 (by decide); rw [add_add] at this; simpa using this
      · have := hcell 2 (by decide); rw [add_add] at this; simpa using this
    have gather : ∀ n, n ≤ len → ∃ l : List Ch, l.length = n ∧ ∀ i (h : i < l.length), (w.cell? (a.add (i * 3)) = some (.string l[i].key) ∧ w.cell? (a.add (i * 3 + 1)) = some (.string l[i].val) ∧ w.cell? (a.add (i * 3 + 2)) = some (.bool l[i].gone)) ∧ l[i].key.size ≤ maxLen ∧ l[i].val.size ≤ maxLen := by
      intro n
      induction n with
      | zero => intro _; exact ⟨[], rfl, fun i h => absurd h (Nat.not_lt_zero _)⟩
      | succ n ih =>
        intro hn
        obtain ⟨l, hll, hc⟩ := ih (by omega)
        obtain ⟨f, hf⟩ := each n (by omega)
        refine ⟨l ++ [f], by simp [hll], ?_⟩
        intro i hi
        simp only [List.length_append, List.length_cons, List.length_nil] at hi
        by_cases hin : i < l.length
        · rw [List.getElem_append_left hin]; exact hc i hin
        · have e : i = l.length := by omega
          subst e
          rw [List.getElem_append_right (Nat.le_refl _)]
          simp only [Nat.sub_self, List.getElem_cons_zero]
          rw [hll]
          exact hf
    obtain ⟨l, hll, hc⟩ := gather len (Nat.le_refl _)
    refine ⟨some a, cap, l, by rw [hll], ?_, by omega⟩
    intro i hi
    obtain ⟨b, off, spot⟩ := a
    have hspot : spot = none := by
      have h0 := (hc 0 (by omega)).1.1
      have := World.cell?_spot h0
      simpa [Addr.add] using this
    subst hspot
    obtain ⟨⟨h0, h1, h2⟩, z0, z1⟩ := hc i hi
    have hadd : ∀ j, (⟨b, off, none⟩ : Addr).add j = ⟨b, off + j, none⟩ := by intro j; unfold Addr.add; split <;> simp_all
    rw [hadd] at h0 h1 h2
    exact ⟨b, off, rfl, h0, by rw [Nat.add_assoc]; exact h1, by rw [Nat.add_assoc]; exact h2, z0, z1⟩

theorem open_six {t : TypeId} {f0 f1 f2 f3 f4 f5 : Field} {fuel : Nat} {cs : List Value} {x : DataW H × List MemPlace} (ht : Tryd.prog.underlying t = some (.struct #[f0, f1, f2, f3, f4, f5])) (h : DataW.trod enc Tryd.prog w base spare held fuel t cs = some x) :
    ∃ y0 y1 y2 y3 y4 y5 n, cs.length = Tryd.prog.cellsOf t ∧ DataW.trod enc Tryd.prog w base spare held n f0.type ((cs.drop f0.offset).take (Tryd.prog.cellsOf f0.type)) = some y0 ∧
      DataW.trod enc Tryd.prog w base spare held n f1.type ((cs.drop f1.offset).take (Tryd.prog.cellsOf f1.type)) = some y1 ∧
      DataW.trod enc Tryd.prog w base spare held n f2.type ((cs.drop f2.offset).take (Tryd.prog.cellsOf f2.type)) = some y2 ∧
      DataW.trod enc Tryd.prog w base spare held n f3.type ((cs.drop f3.offset).take (Tryd.prog.cellsOf f3.type)) = some y3 ∧
      DataW.trod enc Tryd.prog w base spare held n f4.type ((cs.drop f4.offset).take (Tryd.prog.cellsOf f4.type)) = some y4 ∧
      DataW.trod enc Tryd.prog w base spare held n f5.type ((cs.drop f5.offset).take (Tryd.prog.cellsOf f5.type)) = some y5 := by
  obtain ⟨xs, n, _, _, hl, hlen, hf⟩ := DataW.trod_struct ht h
  match xs, hlen with
  | [y0, y1, y2, y3, y4, y5], _ => exact ⟨y0, y1, y2, y3, y4, y5, n, hl, by simpa using hf 0 f0 rfl, by simpa using hf 1 f1 rfl, by simpa using hf 2 f2 rfl, by simpa using hf 3 f3 rfl, by simpa using hf 4 f4 rfl, by simpa using hf 5 f5 rfl⟩

def CellsAct (w : World) (a : Addr) (i : Nat) (f : Ac) : Prop :=
  (w.cell? (a.add (i * 6)) = some (.string f.kind) ∧ w.cell? (a.add (i * 6 + 1)) = some (.string f.s) ∧ w.cell? (a.add (i * 6 + 2)) = some (.string f.t) ∧
    w.cell? (a.add (i * 6 + 3)) = some (.int .i64 f.n) ∧ w.cell? (a.add (i * 6 + 4)) = some (.int .u64 f.k) ∧ w.cell? (a.add (i * 6 + 5)) = some (.slice f.ca f.cl.length f.cc)) ∧ AcOk w f

end
end Go.Proofs.YtihnghnafpgdfabDoor
namespace Go.Proofs.YtihnghnafpgdfabDoor
open Go.RowKit Go.Deep Go.ChangeShapes Go.WideShapes
set_option linter.unusedVariables false
set_option linter.unusedSimpArgs false

section
variable {H : Type} {enc : TypeId × Value → H} {w : World} {base : Nat} {spare : Nat → Bool} {held : Bool}
theorem changes_nil {fuel : Nat} {a : Option Addr} {n cap : Nat} {x : DataW H × List MemPlace} (h : DataW.trod enc Tryd.prog w base spare held fuel 25 (Value.slice a n cap).cells.toList = some x) : a = none → cap = 0 := by
  intro e
  subst e
  rcases open_slice Tryd.underlying25 h with ⟨h1, _⟩ | ⟨a, len, cap, m, n, D, Pl, h1, _⟩
  · simp [Value.cells] at h1; exact h1.2
  · simp [Value.cells] at h1
/-- What an act's numbers are, and its changes' room. -/
structure ActNum (x : Ac) : Prop where
  n : (Lit.int .i64 x.n).wf = true
  k : (Lit.int .u64 x.k).wf = true
  nil : x.ca = none → x.cc = 0
end
end Go.Proofs.YtihnghnafpgdfabDoor
