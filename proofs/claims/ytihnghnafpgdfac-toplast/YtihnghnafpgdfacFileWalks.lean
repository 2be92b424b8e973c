/-
  THE WALKS OF PACKAGE file, AND OF THE DOCUMENT's ANSWER TO CHAPTER 1: what each call returns, in whatever world.
-/
import Derived.Test.YtihnghnafpgdfacRows
import Derived.Test.YtihnghnafpgdfacPlain
import Derived.WalkKit
import Derived.WalkSpells
import Derived.WalkLawsBesides
namespace Go.Proofs.Ytihnghnafpgdfac
open Go.RowKit
set_option linter.unusedVariables false
set_option linter.unusedSimpArgs false

/-- An error by its number (0: none). -/
def errV (n : Int) : Value := if n = 0 then .nilIface else .iface 75 (.int .i64 n)

theorem errV_zero {n : Int} (h : n = 0) : errV n = .nilIface := by unfold errV; rw [if_pos h]
theorem errV_pos {n : Int} (h : n ≠ 0) : errV n = .iface 75 (.int .i64 n) := by unfold errV; rw [if_neg h]

theorem ret_bool {a b : Bool} (h : a = b) : Ending.returned (.bool a) = .returned (.bool b) := by rw [h]
theorem ret_int {k : IntKind} {a b : Int} (h : a = b) : Ending.returned (.int k a) = .returned (.int k b) := by rw [h]

theorem ret_err {v : Value} {n : Int} (h : v = errV n) : Ending.returned v = .returned (errV n) := by rw [h]

/-- 'same': is an error of that number? -/
def sameB (n f : Int) : Bool := if n = 0 then f == 0 else decide (0 < f) && n == f

theorem assert_yes (v : Value) (w : World) : (Instr.typeAssert (.iface 75 v) 34 75 true).run Try.prog w = .ok (.tuple #[v, .bool true]) w := by kernel_rfl

set_option maxRecDepth 100000 in
theorem same_any (n f : Int) (w : World) (h0 : 0 ≤ n) (h1 : n ≤ 100) :
    Calls Try.prog 23 #[errV n, .int .i64 f] w fun e w' => e = .returned (.bool (sameB n f)) ∧ w' = w := by
  by_cases h : n = 0
  · subst h
    show Calls Try.prog 23 #[.nilIface, .int .i64 f] w _
    go_enter Try.func23, Try.ntmps23
    go_wp2
    go_ret
    exact ⟨ret_bool (by simp [sameB]), rfl⟩
  · have e : errV n = .iface 75 (.int .i64 n) := by simp [errV, h]
    rw [e]
    have ha := assert_yes (.int .i64 n)
    go_enter Try.func23, Try.ntmps23
    go_wp2
    all_goals
      go_ret
      exact ⟨ret_bool (by simp [sameB, *] <;> omega), rfl⟩

theorem same_yes (n : Int) (w : World) (h0 : 0 ≤ n) (h1 : n ≤ 100) :
    Calls Try.prog 23 #[errV n, .int .i64 n] w fun e w' => e = .returned (.bool true) ∧ w' = w := by
  have hb : sameB n n = true := by
    unfold sameB
    by_cases h : n = 0
    · simp [h]
    · simp [h]; omega
  have h := same_any n n w h0 h1
  rw [hb] at h
  exact h

/-- A file as a value. -/
abbrev fileV (n t : ByteArray) (k : Int) : Value := .agg #[.string n, .string t, .int .i64 k]

end Go.Proofs.Ytihnghnafpgdfac
