/-
  THE WALKS OF PACKAGE file, AND OF THE DOCUMENT's ANSWER TO CHAPTER 1: what each call returns, in whatever world.
-/
import Derived.Test.YtihnghnafpgdfabRows
import Derived.Test.YtihnghnafpgdfabPlain
import Derived.WalkKit
import Derived.WalkSpells
import Derived.WalkLawsBesides
namespace Go.Proofs.Ytihnghnafpgdfab
open Go.RowKit
set_option linter.unusedVariables false
set_option linter.unusedSimpArgs false

/-- An error by its number (0: none). -/
def errV (n : Int) : Value := if n = 0 then .nilIface else .iface 118 (.int .i64 n)

theorem errV_zero {n : Int} (h : n = 0) : errV n = .nilIface := by unfold errV; rw [if_pos h]
theorem errV_pos {n : Int} (h : n ≠ 0) : errV n = .iface 118 (.int .i64 n) := by unfold errV; rw [if_neg h]

theorem ret_bool {a b : Bool} (h : a = b) : Ending.returned (.bool a) = .returned (.bool b) := by rw [h]
theorem ret_int {k : IntKind} {a b : Int} (h : a = b) : Ending.returned (.int k a) = .returned (.int k b) := by rw [h]

theorem ret_err {v : Value} {n : Int} (h : v = errV n) : Ending.returned v = .returned (errV n) := by rw [h]

set_option maxHeartbeats 400000 in
theorem plain_any (n : Int) (w : World) :
    Calls Try.prog 131 #[.int .u8 n] w fun e w' => e = .returned (.bool (plainI n)) ∧ w' = w := by
  go_enter Try.func131, Try.ntmps131
  go_wp2
  all_goals
    go_ret
    exact ⟨ret_bool (by unfold plainI; grind), rfl⟩

set_option maxHeartbeats 400000 in
theorem name_any (s : ByteArray) (w : World) (hs : s.size ≤ maxLen) :
    Calls Try.prog 104 #[.string s] w fun e w' => e = .returned (errV (nameF s.data.toList)) ∧ w' = w := by
  unfold maxLen at hs
  by_cases h0 : s.size = 0
  · have e0 : s = ⟨#[]⟩ := by
      have : s.data = #[] := Array.eq_empty_of_size_eq_zero h0
      cases s; simp_all
    subst e0
    go_enter Try.func104, Try.ntmps104
    go_wp2
    go_ret
    exact ⟨rfl, rfl⟩
  · have hne : s.toList.isEmpty = false := isEmpty_false s h0
    go_enter Try.func104, Try.ntmps104
    go_wp2_with fail
    go_loop [9] (fun i => ∃ k : Nat, k ≤ s.size ∧ i = .int .i64 k ∧ (s.data.toList.take k).all pl = true) (fun i => s.size - (intOf i).toNat)
    case atStart => exact ⟨0, Nat.zero_le _, rfl, rfl⟩
    case round =>
      obtain ⟨k, hk, rfl, hall⟩ := hrel
      have Hall : Hid ((s.data.toList.take k).all pl = true) := hall
      clear hall
      by_cases hlt : k < s.size
      · by_cases hp : pl s[k] = true
        · have hp' : plainI s[k].toNat = true := hp
          go_wp2_with (go_at_call 131; refine (plain_any _ _).mono ?_; rintro e w' ⟨rfl, rfl⟩)
          go_round
          case rel => exact ⟨k + 1, by omega, by go_num, by rw [all_snoc s k hlt, Hall.out, hp]; rfl⟩
          case measure => simp [intOf]; omega
        · have hp' : plainI s[k].toNat = false := by simpa [pl] using hp
          go_wp2_with (go_at_call 131; refine (plain_any _ _).mono ?_; rintro e w' ⟨rfl, rfl⟩)
          go_ret
          exact ⟨by rw [nameF_bad s k hlt hp']; rfl, rfl⟩
      · have hfin : nameF s.data.toList = if 6 < s.size then 2 else 0 := by
          have h := Hall.out
          rw [take_all s k (by omega)] at h
          rw [nameF_good _ h (toList_ne s h0)]
          simp
        have Hfin : Hid (nameF s.data.toList = if 6 < s.size then 2 else 0) := hfin
        clear hfin
        by_cases h6 : 6 < s.size
        all_goals
          go_wp2
          go_ret
          exact ⟨by rw [Hfin.out]; simp [h6, errV], rfl⟩

/-- 'same': is an error of that number? -/
def sameB (n f : Int) : Bool := if n = 0 then f == 0 else decide (0 < f) && n == f

theorem assert_yes (v : Value) (w : World) : (Instr.typeAssert (.iface 118 v) 35 118 true).run Try.prog w = .ok (.tuple #[v, .bool true]) w := by kernel_rfl

set_option maxRecDepth 100000 in
theorem same_any (n f : Int) (w : World) (h0 : 0 ≤ n) (h1 : n ≤ 100) :
    Calls Try.prog 27 #[errV n, .int .i64 f] w fun e w' => e = .returned (.bool (sameB n f)) ∧ w' = w := by
  by_cases h : n = 0
  · subst h
    show Calls Try.prog 27 #[.nilIface, .int .i64 f] w _
    go_enter Try.func27, Try.ntmps27
    go_wp2
    go_ret
    exact ⟨ret_bool (by simp [sameB]), rfl⟩
  · have e : errV n = .iface 118 (.int .i64 n) := by simp [errV, h]
    rw [e]
    have ha := assert_yes (.int .i64 n)
    go_enter Try.func27, Try.ntmps27
    go_wp2
    all_goals
      go_ret
      exact ⟨ret_bool (by simp [sameB, *] <;> omega), rfl⟩

theorem same_yes (n : Int) (w : World) (h0 : 0 ≤ n) (h1 : n ≤ 100) :
    Calls Try.prog 27 #[errV n, .int .i64 n] w fun e w' => e = .returned (.bool true) ∧ w' = w := by
  have hb : sameB n n = true := by
    unfold sameB
    by_cases h : n = 0
    · simp [h]
    · simp [h]; omega
  have h := same_any n n w h0 h1
  rw [hb] at h
  exact h

/-- A file as a value. -/
abbrev fileV (n t : ByteArray) (k : Int) : Value := .agg #[.string n, .string t, .int .i64 k]

set_option maxHeartbeats 400000 in
theorem check_any (n t : ByteArray) (k : Int) (w : World) (hn : n.size ≤ maxLen) (ht : t.size ≤ maxLen) :
    Calls Try.prog 112 #[fileV n t k] w fun e w' => e = .returned (errV (fileF n.data.toList t.data.toList k)) ∧ w' = w.alloc (.cells #[.string n, .string t, .int .i64 k] 41) := by
  have hn' := hn
  unfold maxLen at ht hn
  by_cases hz : nameF n.data.toList = 0
  · have hfin : fileF n.data.toList t.data.toList k = if 12 < t.size then 2 else if k < 1 ∨ 9999 < k then 1 else 0 := by simp [fileF, hz]
    have Hfin : Hid (fileF n.data.toList t.data.toList k = if 12 < t.size then 2 else if k < 1 ∨ 9999 < k then 1 else 0) := hfin
    clear hfin
    have he : errV (nameF n.data.toList) = .nilIface := by rw [hz]; rfl
    clear hz
    go_enter Try.func112, Try.ntmps112
    go_wp2_with (go_at_call 104; refine (name_any _ _ hn').mono ?_; rintro e w' ⟨rfl, rfl⟩)
    all_goals
      go_ret
      exact ⟨by rw [Hfin.out]; exact ret_err (by first | (rw [if_pos (by omega)]; rfl) | (rw [if_neg (by omega), if_pos (by omega)]; rfl) | (rw [if_neg (by omega), if_neg (by omega)]; rfl)), rfl⟩
  · have hfin : fileF n.data.toList t.data.toList k = nameF n.data.toList := by simp [fileF, hz]
    rw [hfin]
    have he : errV (nameF n.data.toList) = .iface 118 (.int .i64 (nameF n.data.toList)) := by simp [errV, hz]
    rw [he]
    clear hfin hz
    go_enter Try.func112, Try.ntmps112
    go_wp2_with (go_at_call 104; refine (name_any _ _ hn').mono ?_; rintro e w' ⟨rfl, rfl⟩)
    go_ret
    exact ⟨rfl, rfl⟩

end Go.Proofs.Ytihnghnafpgdfab
