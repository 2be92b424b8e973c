/-
  THE WALKS OF Names: what each call returns, in whatever world.
-/
import Derived.Test.YtihnghnafpgdfaaDoorRows
import Derived.WalkKit
import Derived.WalkSpells
import Derived.WalkLawsBesides
import Derived.Deep.QuietTactic
import Derived.BigQuiet
namespace Go.Proofs.YtihnghnafpgdfaaDoor
open Go.RowKit
set_option linter.unusedVariables false
set_option linter.unusedSimpArgs false

theorem assert_yes (v : Value) (w : World) : (Instr.typeAssert (.iface 23 v) 27 23 true).run Tryd.prog w = .ok (.tuple #[v, .bool true]) w := by kernel_rfl

set_option maxRecDepth 100000 in
theorem same_yes (n : Int) (w : World) (h0 : 1 ≤ n) (h1 : n ≤ 100) :
    Calls Tryd.prog 4 #[.iface 23 (.int .i64 n), .int .i64 n] w fun e w' => e = .returned (.bool true) ∧ w' = w := by
  have ha := assert_yes (.int .i64 n)
  go_enter Tryd.func4, Tryd.ntmps4
  go_wp2
  go_ret
  exact ⟨rfl, rfl⟩

theorem text_any (w : World) :
    Calls Tryd.prog 6 #[.int .i64 8] w fun e w' => e = .returned (.string ⟨#[112, 97, 116, 99, 104, 113, 117, 105, 108, 116, 58, 32, 101, 114, 114, 111, 114, 32, 56]⟩) ∧ w' = w := by
  go_enter Tryd.func6, Tryd.ntmps6
  go_wp2
  go_ret
  exact ⟨by kernel_rfl, rfl⟩

set_option maxHeartbeats 400000 in
theorem sameNumbers_any (b c m : Nat) (zs : List Int) (w : World) (hm : m ≤ 100) (hz : zs.length = m)
    (hb : ∀ i, i < m → w.cell? ⟨b, i, none⟩ = some (.int .i64 (zs.getD i 0))) (hc : ∀ i, i < m → w.cell? ⟨c, i, none⟩ = some (.int .i64 (zs.getD i 0))) :
    Calls Tryd.prog 5 #[.slice (some ⟨b, 0, none⟩) m m, .slice (some ⟨c, 0, none⟩) m m] w fun e w' => e = .returned (.bool true) ∧ ∃ n, w' = w.drewN n := by
  have HB : Hid (∀ i, i < m → w.cell? ⟨b, i, none⟩ = some (.int .i64 (zs.getD i 0))) := hb
  have HC : Hid (∀ i, i < m → w.cell? ⟨c, i, none⟩ = some (.int .i64 (zs.getD i 0))) := hc
  clear hb hc hz
  go_enter Tryd.func5, Tryd.ntmps5
  go_wp2_with fail
  go_loopw [5] (fun i wr => ∃ k n : Nat, k ≤ m ∧ i = .int .i64 k ∧ wr = w.drewN n) (fun i _ => m - (intOf i).toNat)
  case atStart => exact ⟨0, 0, Nat.zero_le _, rfl, rfl⟩
  case round =>
    obtain ⟨k, n, hk, rfl, rfl⟩ := hrel
    by_cases hlt : k < m
    · have hb := HB.out k hlt
      have hc := HC.out k hlt
      generalize zs.getD k 0 = z at hb hc
      go_wp2
      go_quiet (fail)
      go_wp2
      exact ⟨⟨k + 1, _, by omega, by go_num, rfl⟩, by simp [intOf]; omega⟩
    · go_wp2
      go_ret
      exact ⟨rfl, n, rfl⟩

set_option maxHeartbeats 1000000 in
theorem names_any (w : World) :
    Calls Tryd.prog 3 #[] w fun e w' => e = .returned (.bool true) ∧ Below w.heap.size w w' := by
  go_enter Tryd.func3, Tryd.ntmps3
  go_wp2_with fail
  go_loop [4] (fun i => ∃ k : Nat, k ≤ 8 ∧ i = .int .i64 k) (fun i => 8 - (intOf i).toNat)
  case atStart => exact ⟨0, by omega, rfl⟩
  case round =>
    obtain ⟨k, hk, rfl⟩ := hrel
    have hk' : k = 0 ∨ k = 1 ∨ k = 2 ∨ k = 3 ∨ k = 4 ∨ k = 5 ∨ k = 6 ∨ k = 7 ∨ k = 8 := by omega
    clear hk
    rcases hk' with rfl | rfl | rfl | rfl | rfl | rfl | rfl | rfl | rfl
    all_goals
      go_wp2_with (first
        | (go_at_call 4; refine (same_yes _ _ (by decide) (by decide)).mono ?_; rintro e w' ⟨rfl, rfl⟩)
        | (go_at_call 5; refine (sameNumbers_any _ _ 13 [6, 12, 8, 9999, 3, 8, 16, 14, 12, 40, 60, 80, 50] _ (by decide) rfl ?_ ?_).mono ?_; rotate_left 2; rintro e w' ⟨rfl, nn, rfl⟩)
        | (go_at_call 6; refine (text_any _).mono ?_; rintro e w' ⟨rfl, rfl⟩))
    all_goals first
      | exact ⟨⟨1, by decide, rfl⟩, by decide⟩
      | exact ⟨⟨2, by decide, rfl⟩, by decide⟩
      | exact ⟨⟨3, by decide, rfl⟩, by decide⟩
      | exact ⟨⟨4, by decide, rfl⟩, by decide⟩
      | exact ⟨⟨5, by decide, rfl⟩, by decide⟩
      | exact ⟨⟨6, by decide, rfl⟩, by decide⟩
      | exact ⟨⟨7, by decide, rfl⟩, by decide⟩
      | exact ⟨⟨8, by decide, rfl⟩, by decide⟩
      | (go_ret; refine ⟨rfl, ?_⟩; exact below_drewN ((((Below.refl _ _).alloc (Nat.le_refl _) _).alloc (by simp) _).alloc (by simp; omega) _) _)
      | (intro i hi; have hi' : i = 0 ∨ i = 1 ∨ i = 2 ∨ i = 3 ∨ i = 4 ∨ i = 5 ∨ i = 6 ∨ i = 7 ∨ i = 8 ∨ i = 9 ∨ i = 10 ∨ i = 11 ∨ i = 12 := by omega
         rcases hi' with rfl | rfl | rfl | rfl | rfl | rfl | rfl | rfl | rfl | rfl | rfl | rfl | rfl <;> rfl)

end Go.Proofs.YtihnghnafpgdfaaDoor
