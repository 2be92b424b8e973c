/-
  THE WALKS OF PACKAGE quilt THAT DO NOTHING WITH FILES: New, turned, Check; Clone; and of the document's answer: next, QuiltFault, SameQuilt.
-/
import Derived.Test.YtihnghnafpgdfacShelfFault
import Derived.Test.YtihnghnafpgdfacShelfGet2
import Derived.Test.YtihnghnafpgdfacShelfCat
namespace Go.Proofs.Ytihnghnafpgdfac
open Go.RowKit
set_option linter.unusedVariables false
set_option linter.unusedSimpArgs false

/-- A quilt as a value. -/
abbrev quiltV (v : Value) (t : Int) : Value := .agg #[v, .int .i64 t]
abbrev noQuilt : Value := .agg #[.slice none 0 0, .int .i64 0]

/-- C1, by its error's number. -/
def quiltF (l : List Fi) (t : Int) : Int := if filesF l ≠ 0 then filesF l else if t < 1 ∨ 9999 < t then 1 else 0

set_option maxRecDepth 100000 in
set_option maxHeartbeats 1000000 in
theorem sameQuilt_any (a a' : Option Addr) (cap cap' : Nat) (l m : List Fi) (t s : Int) (w : World) (hl : l.length ≤ 1000) (hm : m.length ≤ 1000) (hc : Cells w a l) (hc' : Cells w a' m) :
    Calls Try.prog 24 #[.agg #[.slice a l.length cap, .int .i64 t], .agg #[.slice a' m.length cap', .int .i64 s]] w fun e w' => e = .returned (.bool (sameL l m && (t == s))) ∧ Below w.heap.size w w' := by
  have HC : Hid (Cells w a l) := hc
  have HC' : Hid (Cells w a' m) := hc'
  clear hc hc'
  cases hs : sameL l m
  all_goals
    go_enter Try.func24, Try.ntmps24
    go_wp2_with fail
    refine (sameFiles_any a a' cap cap' l m _ hl hm (by exact (HC.out.alloc _).alloc _) (by exact (HC'.out.alloc _).alloc _)).mono ?_
    rintro e w1 ⟨rfl, n1, hw⟩
    rw [hw, hs]
    clear hw w1
    go_wp2
    go_ret
    refine ⟨by simp, ?_⟩
    repeat (first | exact Below.refl _ _ | refine below_drewN ?_ _ | refine Below.drew ?_ | refine Below.alloc ?_ (by simp; try omega) _)

end Go.Proofs.Ytihnghnafpgdfac
