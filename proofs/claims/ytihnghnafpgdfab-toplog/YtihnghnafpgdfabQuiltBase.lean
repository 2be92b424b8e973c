/-
  THE WALKS OF PACKAGE quilt THAT DO NOTHING WITH FILES: New, turned, Check; Clone; and of the document's answer: next, QuiltFault, SameQuilt.
-/
import Derived.Test.YtihnghnafpgdfabShelfFault
import Derived.Test.YtihnghnafpgdfabShelfGet2
import Derived.Test.YtihnghnafpgdfabShelfCat
namespace Go.Proofs.Ytihnghnafpgdfab
open Go.RowKit
set_option linter.unusedVariables false
set_option linter.unusedSimpArgs false

/-- A quilt as a value. -/
abbrev quiltV (v : Value) (t : Int) : Value := .agg #[v, .int .i64 t]
abbrev noQuilt : Value := .agg #[.slice none 0 0, .int .i64 0]

set_option maxRecDepth 100000 in
theorem new_any (w : World) : Calls Try.prog 18 #[] w fun e w' => e = .returned (.agg #[.slice none 0 0, .int .i64 1]) ∧ Below w.heap.size w w' := by
  go_enter Try.func18, Try.ntmps18
  go_wp2
  refine bodyPost_ret (v := .agg #[.slice none 0 0, .int .i64 1]) (by simp [results, Try.results18, go_sem]) rfl ⟨rfl, ?_⟩
  exact (Below.refl _ _).alloc (Nat.le_refl _) _

set_option maxRecDepth 100000 in
theorem turned_full (v : Value) (t : Int) (a : Option Addr) (n cap : Nat) (w : World) (ht : 9999 ≤ t) (b : Option Addr) (m c : Nat) :
    Calls Try.prog 102 #[.agg #[.slice b m c, .int .i64 t], .slice a n cap] w fun e w' => e = .returned (.tuple #[.agg #[.slice none 0 0, .int .i64 0], .iface 118 (.int .i64 7)]) ∧ Below w.heap.size w w' := by
  go_enter Try.func102, Try.ntmps102
  go_wp2
  refine bodyPost_ret (v := .tuple #[.agg #[.slice none 0 0, .int .i64 0], .iface 118 (.int .i64 7)]) (by simp [results, Try.results102, go_sem]) rfl ⟨rfl, ?_⟩
  exact ((Below.refl _ _).alloc (Nat.le_refl _) _).alloc (by simp) _

set_option maxRecDepth 100000 in
theorem turned_more (t : Int) (a : Option Addr) (n cap : Nat) (w : World) (h0 : 0 ≤ t) (ht : t < 9999) (b : Option Addr) (m c : Nat) :
    Calls Try.prog 102 #[.agg #[.slice b m c, .int .i64 t], .slice a n cap] w fun e w' => e = .returned (.tuple #[.agg #[.slice a n cap, .int .i64 (t + 1)], .nilIface]) ∧ Below w.heap.size w w' := by
  go_enter Try.func102, Try.ntmps102
  go_wp2
  refine bodyPost_ret (v := .tuple #[.agg #[.slice a n cap, .int .i64 (t + 1)], .nilIface]) (by simp [results, Try.results102, go_sem]) rfl ⟨rfl, ?_⟩
  exact ((Below.refl _ _).alloc (Nat.le_refl _) _).alloc (by simp) _

/-- C1, by its error's number. -/
def quiltF (l : List Fi) (t : Int) : Int := if filesF l ≠ 0 then filesF l else if t < 1 ∨ 9999 < t then 1 else 0

set_option maxRecDepth 100000 in
set_option maxHeartbeats 1000000 in
theorem quiltCheck_any (a : Option Addr) (cap : Nat) (l : List Fi) (t : Int) (w : World) (hl : l.length ≤ maxLen) (hz : Sized l) (hc : Cells w a l) :
    Calls Try.prog 74 #[.agg #[.slice a l.length cap, .int .i64 t]] w fun e w' => e = .returned (errV (quiltF l t)) ∧ Below w.heap.size w w' := by
  have HC : Hid (Cells w a l) := hc
  clear hc
  by_cases hf : filesF l = 0
  · have hfin : quiltF l t = if t < 1 ∨ 9999 < t then 1 else 0 := by simp [quiltF, hf]
    rw [hfin]
    have he : errV (filesF l) = .nilIface := errV_zero hf
    clear hfin hf
    go_enter Try.func74, Try.ntmps74
    go_wp2_with fail
    refine (shelfCheck_any a cap l _ hl hz (by exact HC.out.alloc _)).mono ?_
    rintro e w1 ⟨rfl, hb⟩
    rw [he]
    have hx : w1.cell? ⟨w.heap.size, 1, none⟩ = some (.int .i64 t) := by rw [hb.cell (p := ⟨w.heap.size, 1, none⟩) (by simp)]; simp [go_sem]
    have HB : Hid (Below w.heap.size w w1) := ((Below.refl _ _).alloc (Nat.le_refl _) _).trans (hb.mono (by simp))
    clear hb he
    go_wp2
    all_goals
      go_ret
      exact ⟨ret_err (by first | rfl | (rw [if_pos (by omega)]; rfl) | (rw [if_neg (by omega)]; rfl)), HB.out⟩
  · have hfin : quiltF l t = filesF l := by simp [quiltF, hf]
    rw [hfin]
    have he : errV (filesF l) = .iface 118 (.int .i64 (filesF l)) := errV_pos hf
    rw [he]
    clear hfin hf
    go_enter Try.func74, Try.ntmps74
    go_wp2_with fail
    refine (shelfCheck_any a cap l _ hl hz (by exact HC.out.alloc _)).mono ?_
    rintro e w1 ⟨rfl, hb⟩
    rw [he]
    have HB : Hid (Below w.heap.size w w1) := ((Below.refl _ _).alloc (Nat.le_refl _) _).trans (hb.mono (by simp))
    clear hb he
    go_wp2
    go_ret
    exact ⟨rfl, HB.out⟩

set_option maxRecDepth 100000 in
set_option maxHeartbeats 1000000 in
theorem sameQuilt_any (a a' : Option Addr) (cap cap' : Nat) (l m : List Fi) (t s : Int) (w : World) (hl : l.length ≤ 1000) (hm : m.length ≤ 1000) (hc : Cells w a l) (hc' : Cells w a' m) :
    Calls Try.prog 22 #[.agg #[.slice a l.length cap, .int .i64 t], .agg #[.slice a' m.length cap', .int .i64 s]] w fun e w' => e = .returned (.bool (sameL l m && (t == s))) ∧ Below w.heap.size w w' := by
  have HC : Hid (Cells w a l) := hc
  have HC' : Hid (Cells w a' m) := hc'
  clear hc hc'
  cases hs : sameL l m
  all_goals
    go_enter Try.func22, Try.ntmps22
    go_wp2_with fail
    refine (sameFiles_any a a' cap cap' l m _ hl hm (by exact (HC.out.alloc _).alloc _) (by exact (HC'.out.alloc _).alloc _)).mono ?_
    rintro e w1 ⟨rfl, n1, hw⟩
    rw [hw, hs]
    clear hw w1
    go_wp2
    go_ret
    refine ⟨by simp, ?_⟩
    repeat (first | exact Below.refl _ _ | refine below_drewN ?_ _ | refine Below.drew ?_ | refine Below.alloc ?_ (by simp; try omega) _)

end Go.Proofs.Ytihnghnafpgdfab
