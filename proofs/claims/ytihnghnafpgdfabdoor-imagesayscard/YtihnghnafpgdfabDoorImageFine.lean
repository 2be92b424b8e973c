/-
  NUMBERS OF ERRORS; MAY A QUILT BE, AND IS IT NOT TOO MUCH: fineQuilt.
-/
import Derived.Test.YtihnghnafpgdfabDoorImageParse
namespace Go.Proofs.YtihnghnafpgdfabDoor
open Go Go.RowKit Go.BigFrame
set_option linter.unusedVariables false
set_option linter.unusedSimpArgs false

set_option maxRecDepth 100000 in
set_option maxHeartbeats 1000000 in
theorem lightQuilt_any (a : Option Addr) (cap : Nat) (l : List Fi) (t : Int) (w : World) (hl : l.length ≤ maxLen) (hz : Sized l) (hc : Cells w a l) :
    Calls Tryd.prog 7 #[.agg #[.slice a l.length cap, .int .i64 t]] w fun e w' => e = .returned (.bool (lightF l)) ∧ Below w.heap.size w w' := by
  have HC : Hid (Cells w a l) := hc
  clear hc
  have hl' := hl
  unfold maxLen at hl'
  by_cases h12 : l.length ≤ 12
  · go_enter Tryd.func7, Tryd.ntmps7
    go_wp2_with fail
    refine (light_any a cap l _ hl hz (by exact HC.out.alloc _)).mono ?_
    rintro e w' ⟨rfl, hw⟩
    rw [hw]
    clear hw w'
    go_wp2
    go_ret
    exact ⟨rfl, (Below.refl _ _).alloc (Nat.le_refl _) _⟩
  · have e : lightF l = false := by
      cases h : lightF l
      · rfl
      · have := (lightF_spec h).1; omega
    rw [e]
    clear e
    go_enter Tryd.func7, Tryd.ntmps7
    go_wp2
    go_ret
    exact ⟨rfl, (Below.refl _ _).alloc (Nat.le_refl _) _⟩

set_option maxRecDepth 100000 in
theorem number_any (n : Int) (w : World) (h0 : ¬ n = 0) (h1 : 0 ≤ n ∧ n ≤ 100) :
    Calls Tryd.prog 22 #[.iface 59 (.int .i64 n)] w fun e w' => e = .returned (.int .i64 n) ∧ w' = w := by
  have ha := assert_yes (.int .i64 n)
  go_enter Tryd.func22, Tryd.ntmps22
  go_wp2
  all_goals
    go_ret
    exact ⟨rfl, rfl⟩

set_option maxRecDepth 100000 in
theorem number_nil (w : World) : Calls Tryd.prog 22 #[.nilIface] w fun e w' => e = .returned (.int .i64 0) ∧ w' = w := by
  go_enter Tryd.func22, Tryd.ntmps22
  go_wp2
  go_ret
  exact ⟨rfl, rfl⟩
set_option maxRecDepth 100000 in
set_option maxHeartbeats 1000000 in
theorem fineQuilt_any (a : Option Addr) (cap : Nat) (l : List Fi) (t : Int) (w : World) (hl : l.length ≤ maxLen) (hz : Sized l) (hc : Cells w a l) :
    Calls Tryd.prog 20 #[.agg #[.slice a l.length cap, .int .i64 t]] w fun e w' => e = .returned (.bool (lightF l && (quiltF l t == 0))) ∧ Below w.heap.size w w' := by
  have HC : Hid (Cells w a l) := hc
  clear hc
  have hqr := quiltF_low l t
  go_enter Tryd.func20, Tryd.ntmps20
  go_wp2_with fail
  refine (lightQuilt_any a cap l t _ hl hz (by exact HC.out.alloc _)).mono ?_
  rintro e w1 ⟨rfl, hb⟩
  have HB1 : Hid (Below w.heap.size w w1) := ((Below.refl _ _).alloc (Nat.le_refl _) _).trans (hb.mono (by simp))
  have HQ1 : Hid (QBox w1 w.heap.size (.slice a l.length cap) t) := (QBox.new w _ t _).below hb (by simp)
  clear hb
  obtain ⟨x0, x1, xf0, xf1, xl, _⟩ := HQ1.out
  cases hla : lightF l
  · have HL : Hid (lightF l = false) := hla
    clear hla
    go_wp2
    go_ret
    exact ⟨ret_bool (by rw [HL.out]; rfl), HB1.out⟩
  · have HL : Hid (lightF l = true) := hla
    clear hla
    go_wp2_with fail
    refine (quiltCheck_any a cap l t _ hl hz (HC.out.below HB1.out)).mono ?_
    rintro e w2 ⟨rfl, hb⟩
    have HB2 : Hid (Below w.heap.size w w2) := HB1.out.trans (hb.mono HB1.out.size)
    clear hb
    by_cases h0 : quiltF l t = 0
    · have H0 : Hid (quiltF l t = 0) := h0
      rw [h0, errV_zero rfl]
      clear h0 hqr
      go_wp2
      go_ret
      exact ⟨ret_bool (by rw [HL.out, H0.out]; rfl), HB2.out⟩
    · rw [errV_pos h0]
      have h1 : (quiltF l t == 0) = false := by simp [h0]
      have H1 : Hid ((quiltF l t == 0) = false) := h1
      clear h1 h0
      go_wp2
      go_ret
      exact ⟨ret_bool (by rw [HL.out, H1.out]; rfl), HB2.out⟩

end Go.Proofs.YtihnghnafpgdfabDoor
