/-
  MAY A QUILT BE, AND IS IT NOT TOO MUCH: fineQuilt.
-/
import Derived.Test.YtihnghnafpgdfabTopBase
import Derived.Test.YtihnghnafpgdfabQuiltSame
import Derived.Test.YtihnghnafpgdfabQuiltFs
namespace Go.Proofs.Ytihnghnafpgdfab
open Go.RowKit
set_option linter.unusedVariables false
set_option linter.unusedSimpArgs false

set_option maxRecDepth 100000 in
set_option maxHeartbeats 1000000 in
theorem fineQuilt_any (a : Option Addr) (cap : Nat) (l : List Fi) (t : Int) (w : World) (hl : l.length ≤ maxLen) (hz : Sized l) (hc : Cells w a l) :
    Calls Try.prog 19 #[.agg #[.slice a l.length cap, .int .i64 t]] w fun e w' => e = .returned (.bool (lightF l && (quiltF l t == 0))) ∧ Below w.heap.size w w' := by
  have HC : Hid (Cells w a l) := hc
  clear hc
  have hqr := quiltF_range l t
  go_enter Try.func19, Try.ntmps19
  go_wp2_with fail
  refine (lightQuilt_any a cap l t _ hl hz (by exact HC.out.alloc _)).mono ?_
  rintro e w1 ⟨rfl, hb⟩
  have HB1 : Hid (Below w.heap.size w w1) := Below.on _ (Below.refl _ _) (Nat.le_refl _) hb
  have HQ1 : Hid (QBox w1 w.heap.size (.slice a l.length cap) t) := (QBox.new w _ t _).below hb (by simp)
  clear hb
  obtain ⟨x0, x1, xf0, xf1, xl, _⟩ := HQ1.out
  cases hla : lightF l
  · have HL : Hid (lightF l = false) := hla
    clear hla
    go_wp2
    go_ret
    exact ⟨ret_bool (by rw [HL.out]; rfl), HB1.out⟩
  · have HL : Hid (lightF l = true) := hla
    clear hla
    go_wp2_with fail
    refine (quiltCheck_any a cap l t _ hl hz (HC.out.below HB1.out)).mono ?_
    rintro e w2 ⟨rfl, hb⟩
    have HB2 : Hid (Below w.heap.size w w2) := HB1.out.trans (hb.mono HB1.out.size)
    clear hb
    by_cases h0 : quiltF l t = 0
    · have H0 : Hid (quiltF l t = 0) := h0
      rw [h0, errV_zero rfl]
      clear h0 hqr
      go_wp2
      go_ret
      exact ⟨ret_bool (by rw [HL.out, H0.out]; rfl), HB2.out⟩
    · rw [errV_pos h0]
      have h1 : (quiltF l t == 0) = false := by simp [h0]
      have H1 : Hid ((quiltF l t == 0) = false) := h1
      clear h1 h0
      go_wp2
      go_ret
      exact ⟨ret_bool (by rw [HL.out, H1.out]; rfl), HB2.out⟩

theorem fine_good {l : List Fi} {t : Int} (h : (lightF l && (quiltF l t == 0)) = true) : GoodQ l t := by
  simp only [Bool.and_eq_true, beq_iff_eq] at h
  exact good_of_quiltF h.2

end Go.Proofs.Ytihnghnafpgdfab
