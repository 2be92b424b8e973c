/-
  THE WALKS OF quilt.Write, Drop, Rename.
-/
import Derived.Test.YtihnghnafpgdfacQuiltBase
import Derived.Test.YtihnghnafpgdfacQuiltPure
namespace Go.Proofs.Ytihnghnafpgdfac
open Go.RowKit
set_option linter.unusedVariables false
set_option linter.unusedSimpArgs false

/-- What a call that does something to a quilt answers. -/
def Answers (w : World) (r : Res) (e : Ending) (w' : World) : Prop :=
  ∃ a cap, e = .returned (.tuple #[.agg #[.slice a r.l.length cap, .int .i64 r.t], errV r.n]) ∧ Slice w' a cap r.l ∧ Below w.heap.size w w'

theorem noSlice (w : World) : Slice w none 0 [] := ⟨Cells.nil _ _, Nat.le_refl _, Nat.zero_le _, fun _ => rfl⟩

/-- A quilt's box: two cells that are there, and may be written. -/
structure QBox (W : World) (B : Nat) (v : Value) (t : Int) : Prop where
  c0 : W.cell? ⟨B, 0, none⟩ = some v
  c1 : W.cell? ⟨B, 1, none⟩ = some (.int .i64 t)
  f0 : W.frozen? ⟨B, 0, none⟩ = false
  f1 : W.frozen? ⟨B, 1, none⟩ = false
  lt : B < W.heap.size
  only : ∀ o, 2 ≤ o → W.cell? ⟨B, o, none⟩ = none

theorem QBox.below {W W' : World} {B C : Nat} {v : Value} {t : Int} (h : QBox W B v t) (hb : Below C W W') (hC : B < C) : QBox W' B v t :=
  ⟨by rw [hb.cell (p := ⟨B, 0, none⟩) hC]; exact h.c0, by rw [hb.cell (p := ⟨B, 1, none⟩) hC]; exact h.c1, by rw [hb.frozen (p := ⟨B, 0, none⟩) hC]; exact h.f0, by rw [hb.frozen (p := ⟨B, 1, none⟩) hC]; exact h.f1, Nat.lt_of_lt_of_le h.lt hb.size, fun o ho => by rw [hb.cell (p := ⟨B, o, none⟩) hC]; exact h.only o ho⟩
theorem QBox.alloc {W : World} {B : Nat} {v : Value} {t : Int} (h : QBox W B v t) (o : Obj) : QBox (W.alloc o) B v t :=
  h.below ((Below.refl _ _).alloc (Nat.le_refl _) o) h.lt
theorem QBox.new (W : World) (v : Value) (t : Int) (ty : TypeId) : QBox (W.alloc (.cells #[v, .int .i64 t] ty)) W.heap.size v t :=
  ⟨by simp [go_sem], by simp [go_sem], by simp [go_sem], by simp [go_sem], by simp, fun o ho => by simp [go_sem]; omega⟩

/-- A store into a quilt's box touches no file of any slice. -/
theorem Cells.store {W : World} {B j : Nat} {u : Value} {a : Option Addr} {l : List Fi} (h : Cells W a l) (q : ∀ o, 2 ≤ o → W.cell? ⟨B, o, none⟩ = none) : Cells (W.setCell ⟨B, j, none⟩ u) a l := by
  intro i hi
  obtain ⟨b, off, rfl, c0, c1, c2⟩ := h i hi
  have hne : b ≠ B := by
    rintro rfl
    rw [q (off + i * 3 + 2) (by omega)] at c2
    exact absurd c2 (by simp)
  have hk : ∀ o, (W.setCell ⟨B, j, none⟩ u).cell? ⟨b, o, none⟩ = W.cell? ⟨b, o, none⟩ := fun o => World.cell?_of_block (a := ⟨b, o, none⟩) (Below.heap_setCell W ⟨B, j, none⟩ u b hne)
  exact ⟨b, off, rfl, by rw [hk]; exact c0, by rw [hk]; exact c1, by rw [hk]; exact c2⟩
theorem only_set {W : World} {B j : Nat} {u : Value} (q : ∀ o, 2 ≤ o → W.cell? ⟨B, o, none⟩ = none) (hj : j < 2) : ∀ o, 2 ≤ o → (W.setCell ⟨B, j, none⟩ u).cell? ⟨B, o, none⟩ = none := by
  intro o ho
  have hne : (⟨B, j, none⟩ : Addr) ≠ ⟨B, o, none⟩ := by
    intro e
    have : j = o := congrArg Addr.off e
    omega
  have h : (W.setCell ⟨B, j, none⟩ u).cell? ⟨B, o, none⟩ = W.cell? ⟨B, o, none⟩ := by
    apply World.cell?_setCell_other
    exact hne
  rw [h]
  exact q o ho
theorem Slice.store2 {W : World} {B : Nat} {a : Option Addr} {cap : Nat} {l : List Fi} (h : Slice W a cap l) (q : ∀ o, 2 ≤ o → W.cell? ⟨B, o, none⟩ = none) (u v : Value) : Slice ((W.setCell ⟨B, 0, none⟩ u).setCell ⟨B, 1, none⟩ v) a cap l :=
  ⟨(h.cells.store q).store (only_set q (by decide)), h.room, h.most, h.nil⟩

end Go.Proofs.Ytihnghnafpgdfac
