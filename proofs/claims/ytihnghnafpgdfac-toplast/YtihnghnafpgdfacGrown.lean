/-
  THE WALKS OF began AND grown.
-/
import Derived.Test.YtihnghnafpgdfacDoLow
import Derived.Deep.RegionWith
namespace Go.Proofs.Ytihnghnafpgdfac
open Go.RowKit
set_option linter.unusedVariables false
set_option linter.unusedSimpArgs false

theorem Below.undrew {B : Nat} {W w' : World} (h : Below B W.drew w') : Below B W w' := ⟨h.os, h.tape, h.output, h.size, h.block⟩

theorem QBox.other {W : World} {B C j : Nat} {v u : Value} {t : Int} (h : QBox W B v t) (hne : B ≠ C) : QBox (W.setCell ⟨C, j, none⟩ u) B v t := by
  have hh : (W.setCell ⟨C, j, none⟩ u).heap[B]? = W.heap[B]? := Below.heap_setCell W ⟨C, j, none⟩ u B hne
  exact ⟨by rw [World.cell?_of_block (a := ⟨B, 0, none⟩) hh]; exact h.c0, by rw [World.cell?_of_block (a := ⟨B, 1, none⟩) hh]; exact h.c1, by rw [World.frozen?_of_block (a := ⟨B, 0, none⟩) hh]; exact h.f0, by rw [World.frozen?_of_block (a := ⟨B, 1, none⟩) hh]; exact h.f1, by simpa using h.lt, fun o ho => by rw [World.cell?_of_block (a := ⟨B, o, none⟩) hh]; exact h.only o ho⟩
theorem QBox.stored {W : World} {B : Nat} {v v' : Value} {t t' : Int} (h : QBox W B v t) : QBox ((W.setCell ⟨B, 0, none⟩ v').setCell ⟨B, 1, none⟩ (.int .i64 t')) B v' t' := by
  have ho := only_set (u := .int .i64 t') (j := 1) (only_set (u := v') (j := 0) h.only (by decide)) (by decide)
  refine ⟨?_, ?_, ?_, ?_, ?_, ho⟩
  · simp [go_sem, h.c0, h.c1]
  · simp [go_sem, h.c0, h.c1]
  · simp [go_sem, h.f0, h.f1]
  · simp [go_sem, h.f0, h.f1]
  · simpa using h.lt
theorem QBox.other2 {W : World} {B C : Nat} {v u u' : Value} {t : Int} (h : QBox W B v t) (hne : B ≠ C) : QBox ((W.setCell ⟨C, 0, none⟩ u).setCell ⟨C, 1, none⟩ u') B v t := (h.other hne).other hne

/-- What grown answers. -/
def GrownEnd (w : World) (l : List Ac) (e : Ending) (w' : World) : Prop :=
  ∃ ok a cap lq tq, e = .returned (.tuple #[.agg #[.slice a lq.length cap, .int .i64 tq], .bool ok]) ∧ Slice w' a cap lq ∧ Below w.heap.size w w' ∧ (ok = true → GoodQ lq tq ∧ Low lq tq 60)

end Go.Proofs.Ytihnghnafpgdfac
