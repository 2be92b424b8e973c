/-
  THE WALK OF quilt.Rename.
-/
import Derived.Test.YtihnghnafpgdfacQuiltWalks
namespace Go.Proofs.Ytihnghnafpgdfac
open Go.RowKit
set_option linter.unusedVariables false
set_option linter.unusedSimpArgs false

/-- A file's box. -/
structure FBox (W : World) (B : Nat) (f : Fi) : Prop where
  c0 : W.cell? ⟨B, 0, none⟩ = some (.string f.n)
  c1 : W.cell? ⟨B, 1, none⟩ = some (.string f.t)
  c2 : W.cell? ⟨B, 2, none⟩ = some (.int .i64 f.k)
  f0 : W.frozen? ⟨B, 0, none⟩ = false
  lt : B < W.heap.size
theorem FBox.below {W W' : World} {B C : Nat} {f : Fi} (h : FBox W B f) (hb : Below C W W') (hC : B < C) : FBox W' B f :=
  ⟨by rw [hb.cell (p := ⟨B, 0, none⟩) hC]; exact h.c0, by rw [hb.cell (p := ⟨B, 1, none⟩) hC]; exact h.c1, by rw [hb.cell (p := ⟨B, 2, none⟩) hC]; exact h.c2, by rw [hb.frozen (p := ⟨B, 0, none⟩) hC]; exact h.f0, Nat.lt_of_lt_of_le h.lt hb.size⟩
theorem FBox.alloc {W : World} {B : Nat} {f : Fi} (h : FBox W B f) (o : Obj) : FBox (W.alloc o) B f :=
  h.below ((Below.refl _ _).alloc (Nat.le_refl _) o) h.lt
theorem FBox.new (W : World) (f : Fi) (ty : TypeId) : FBox (W.alloc (.cells #[.string f.n, .string f.t, .int .i64 f.k] ty)) W.heap.size f :=
  ⟨by simp [go_sem], by simp [go_sem], by simp [go_sem], by simp [go_sem], by simp⟩

theorem Owns.setOther {w : World} {B : Nat} {v : Value} {l : List Fi} (h : Owns w B v l) {p : Addr} (hp : p.block < B) (u : Value) : Owns (w.setCell p u) B v l := by
  refine ⟨h.1, ?_⟩
  rcases h.2 with h0 | ⟨g, cap, cur, e, hg, hh, rest⟩
  · exact .inl h0
  · exact .inr ⟨g, cap, cur, e, hg, by rw [Below.heap_setCell _ _ _ _ (by omega)]; exact hh, rest⟩

end Go.Proofs.Ytihnghnafpgdfac
