/-
  THE WALK OF FileSays: it returns true, and writes nothing that was there.
-/
import Derived.Test.YtihnghnafpgdfaaFileWalks
import Derived.Deep.RegionWith
namespace Go.Proofs.Ytihnghnafpgdfaa
open Go.RowKit
set_option linter.unusedVariables false
set_option linter.unusedSimpArgs false

theorem fileF_range (n t : List UInt8) (k : Int) : 0 ≤ fileF n t k ∧ fileF n t k ≤ 100 := by
  have := nameF_cases n
  unfold fileF
  split <;> (try split) <;> (try split) <;> omega

theorem nameF_range (n : List UInt8) : 0 ≤ nameF n ∧ nameF n ≤ 100 := by
  have := nameF_cases n
  omega

theorem name_abc (w : World) : Calls Try.prog 14 #[.string ⟨#[97, 98, 99]⟩] w fun e w' => e = .returned .nilIface ∧ w' = w :=
  name_any ⟨#[97, 98, 99]⟩ w (by decide)

theorem name_A (w : World) : Calls Try.prog 14 #[.string ⟨#[65]⟩] w fun e w' => e = .returned (.iface 80 (.int .i64 3)) ∧ w' = w :=
  name_any ⟨#[65]⟩ w (by decide)

set_option maxHeartbeats 1000000 in
theorem fileSays_any (n t s : ByteArray) (k : Int) (w : World) (hn : n.size ≤ maxLen) (ht : t.size ≤ maxLen) (hs : s.size ≤ maxLen) :
    Calls Try.prog 3 #[fileV n t k, .string s] w fun e w' => e = .returned (.bool true) ∧ Below w.heap.size w w' := by
  have hn' := hn
  have ht' := ht
  have hs' := hs
  unfold maxLen at hn ht hs
  have r1 := nameF_range s.data.toList
  have r2 := fileF_range n.data.toList t.data.toList k
  by_cases c1 : 40 < n.size
  · go_enter Try.func3, Try.ntmps3
    go_wp2_with (first
      | (go_at_call_of 14 (Value.string ⟨#[97, 98, 99]⟩); refine (name_abc _).mono ?_; rintro e w' ⟨rfl, rfl⟩)
      | (go_at_call_of 14 (Value.string ⟨#[65]⟩); refine (name_A _).mono ?_; rintro e w' ⟨rfl, rfl⟩))
    go_ret
    exact ⟨rfl, (Below.refl _ _).alloc (Nat.le_refl _) _⟩
  · by_cases c2 : 60 < t.size
    · go_enter Try.func3, Try.ntmps3
      go_wp2_with (first
        | (go_at_call_of 14 (Value.string ⟨#[97, 98, 99]⟩); refine (name_abc _).mono ?_; rintro e w' ⟨rfl, rfl⟩)
        | (go_at_call_of 14 (Value.string ⟨#[65]⟩); refine (name_A _).mono ?_; rintro e w' ⟨rfl, rfl⟩))
      go_ret
      exact ⟨rfl, (Below.refl _ _).alloc (Nat.le_refl _) _⟩
    · by_cases c3 : 40 < s.size
      · go_enter Try.func3, Try.ntmps3
        go_wp2_with (first
          | (go_at_call_of 14 (Value.string ⟨#[97, 98, 99]⟩); refine (name_abc _).mono ?_; rintro e w' ⟨rfl, rfl⟩)
          | (go_at_call_of 14 (Value.string ⟨#[65]⟩); refine (name_A _).mono ?_; rintro e w' ⟨rfl, rfl⟩))
        go_ret
        exact ⟨rfl, (Below.refl _ _).alloc (Nat.le_refl _) _⟩
      · go_enter Try.func3, Try.ntmps3
        go_wp2_with (first
          | (go_at_call_of 14 (Value.string ⟨#[97, 98, 99]⟩); refine (name_abc _).mono ?_; rintro e w' ⟨rfl, rfl⟩)
          | (go_at_call_of 14 (Value.string ⟨#[65]⟩); refine (name_A _).mono ?_; rintro e w' ⟨rfl, rfl⟩))
        go_region_with (first
          | (go_at_call 14; refine (name_any _ _ hs').mono ?_; rintro e w' ⟨rfl, rfl⟩)
          | (go_at_call 16; refine (nameFault_any _ _ hs').mono ?_; rintro e w' ⟨rfl, rfl⟩)
          | (go_at_call_of 15 (nameF s.data.toList); refine (same_yes _ _ r1.1 r1.2).mono ?_; rintro e w' ⟨rfl, rfl⟩)
          | (go_at_call_of 15 (fileF n.data.toList t.data.toList k); refine (same_yes _ _ r2.1 r2.2).mono ?_; rintro e w' ⟨rfl, rfl⟩)
          | (go_at_call 17; refine (check_any _ _ _ _ hn' ht').mono ?_; rintro e w' ⟨rfl, rfl⟩)
          | (go_at_call 18; refine (fileFault_any _ _ _ _ hn' ht').mono ?_; rintro e w' ⟨rfl, rfl⟩))
        all_goals
          go_wp2
          go_ret
          refine ⟨rfl, ?_⟩
          repeat (first | exact Below.refl _ _ | refine Below.drew ?_ | refine Below.alloc ?_ (by simp; try omega) _)

end Go.Proofs.Ytihnghnafpgdfaa
