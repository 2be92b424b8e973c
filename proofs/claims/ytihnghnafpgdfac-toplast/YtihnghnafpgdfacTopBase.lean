/-
  WHAT THE LAWS OVER ACTS SHARE: the number of an error; files that may be, by their sizes.
-/
import Derived.Test.YtihnghnafpgdfacGrown
import Derived.Test.YtihnghnafpgdfacTopPure
namespace Go.Proofs.Ytihnghnafpgdfac
open Go.RowKit
set_option linter.unusedVariables false
set_option linter.unusedSimpArgs false

set_option maxRecDepth 100000 in
theorem number_any (n : Int) (w : World) (h0 : ¬ n = 0) (h1 : 0 ≤ n ∧ n ≤ 100) :
    Calls Try.prog 11 #[.iface 75 (.int .i64 n)] w fun e w' => e = .returned (.int .i64 n) ∧ w' = w := by
  have ha := assert_yes (.int .i64 n)
  go_enter Try.func11, Try.ntmps11
  go_wp2
  all_goals
    go_ret
    exact ⟨rfl, rfl⟩

theorem few_good {l : List Fi} (h : Good l) : l.length ≤ 1000 := Nat.le_trans h.few (by decide)

/-- A file's box, to be read. -/
structure BoxF (W : World) (B : Nat) (f : Fi) : Prop where
  c0 : W.cell? ⟨B, 0, none⟩ = some (.string f.n)
  c1 : W.cell? ⟨B, 1, none⟩ = some (.string f.t)
  c2 : W.cell? ⟨B, 2, none⟩ = some (.int .i64 f.k)
  lt : B < W.heap.size
theorem BoxF.below {W W' : World} {B C : Nat} {f : Fi} (h : BoxF W B f) (hb : Below C W W') (hC : B < C) : BoxF W' B f :=
  ⟨by rw [hb.cell (p := ⟨B, 0, none⟩) hC]; exact h.c0, by rw [hb.cell (p := ⟨B, 1, none⟩) hC]; exact h.c1, by rw [hb.cell (p := ⟨B, 2, none⟩) hC]; exact h.c2, Nat.lt_of_lt_of_le h.lt hb.size⟩
theorem BoxF.alloc {W : World} {B : Nat} {f : Fi} (h : BoxF W B f) (o : Obj) : BoxF (W.alloc o) B f :=
  h.below ((Below.refl _ _).alloc (Nat.le_refl _) o) h.lt
theorem BoxF.new (W : World) (f : Fi) (ty : TypeId) : BoxF (W.alloc (.cells #[.string f.n, .string f.t, .int .i64 f.k] ty)) W.heap.size f :=
  ⟨by simp [go_sem], by simp [go_sem], by simp [go_sem], by simp⟩

/-- The world of a call behind an allocation. -/
theorem Slice.alloc {w : World} {a : Option Addr} {cap : Nat} {l : List Fi} (h : Slice w a cap l) (o : Obj) : Slice (w.alloc o) a cap l := h.below ((Below.refl _ _).alloc (Nat.le_refl _) o)
theorem Below.on {B : Nat} {w W w' : World} (o : Obj) (h : Below B w W) (hw : B ≤ W.heap.size) (hb : Below (W.alloc o).heap.size (W.alloc o) w') : Below B w w' :=
  (h.alloc hw o).trans (hb.mono (by simp; omega))

end Go.Proofs.Ytihnghnafpgdfac
