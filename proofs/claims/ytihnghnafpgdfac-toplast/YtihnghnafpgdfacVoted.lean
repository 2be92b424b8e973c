/-
  THE WALK OF THE DOCUMENT's ANSWER TO J1, AND OF votes.
-/
import Derived.Test.YtihnghnafpgdfacVoteOf
import Derived.BigQuiet
namespace Go.Proofs.Ytihnghnafpgdfac
open Go.RowKit
set_option linter.unusedVariables false
set_option linter.unusedSimpArgs false

def co3 : Co := ⟨true, none, 0, [], 3⟩
def co9 : Co := ⟨true, none, 0, [], 9⟩
theorem voted_closed : votedC co3 co9 co3 = some co3 := by kernel_rfl
theorem ok_none (w : World) (i : Bool) (t : Int) : CoOk w ⟨i, none, 0, [], t⟩ := ⟨⟨Cells.nil _ _, Nat.zero_le _, Nat.zero_le _, fun _ => rfl⟩, Nat.zero_le _⟩

set_option maxRecDepth 100000 in
set_option maxHeartbeats 1000000 in
theorem votes_any (w : World) : Calls Try.prog 19 #[] w fun e w' => e = .returned (.bool true) ∧ Below w.heap.size w w' := by
  go_enter Try.func19, Try.ntmps19
  go_wp2_with fail
  refine Calls.mono (voteOf_any co3 co9 co3 _ (ok_none _ _ _) (ok_none _ _ _) (ok_none _ _ _)) ?_
  rintro e w1 ⟨he, hb⟩
  rw [voted_closed] at he
  obtain ⟨a, cap, rfl, hs⟩ := he
  have HB1 : Hid (Below w.heap.size w w1) := by
    refine Below.trans ?_ (hb.mono ?_)
    · repeat (first | exact Below.refl _ _ | refine Below.setCell ?_ (by simp) _ | refine Below.alloc ?_ (by simp; try omega) _)
    · simp
  clear hb hs
  go_wp2_with fail
  refine Calls.mono (same_any 0 0 _ (by omega) (by omega)) ?_
  rintro e w2 ⟨rfl, rfl⟩
  go_wp2
  go_ret
  exact ⟨rfl, HB1.out.alloc HB1.out.size _⟩
end Go.Proofs.Ytihnghnafpgdfac
