/-
  STORES THAT ARE NONE: a disk that was never formatted, or is too small.
-/
import Derived.Test.YtihnghnafpgdfabStoreKept
namespace Go.Proofs.Ytihnghnafpgdfab
open Go Go.RowKit Go.BigFrame
set_option linter.unusedVariables false
set_option linter.unusedSimpArgs false

theorem openD_new {N : Nat} (hN : 2 ≤ N) : openD (newD N) = none := by
  have h1 : whOf (newD N) 1 = none := whOf_blank (newD_at (by omega))
  have h0 : whOf (newD N) 0 = none := whOf_blank (newD_at (by omega))
  have hx : laidX (whOf (newD N)) = none := by unfold laidX; rw [h1]; simp only; rw [h0]
  unfold openD
  rw [hx]
set_option maxRecDepth 100000 in
theorem laid_short (p : Dp) (d : Dk) (w : World) (h : DiskAt w p d) (hup : d.down = false) (h42 : d.now.length < 42) :
    Calls Try.prog 93 #[.pointer (some ⟨p.B, 0, none⟩)] w fun e w' => e = .returned (.tuple #[.int .i64 0, .slice none 0 0, .iface 118 (.int .i64 4)]) ∧ w' = w := by
  have kd := down_any p d w h
  rw [hup] at kd
  have KD : Hid _ := kd
  have KS : Hid _ := sectors_any p d w h
  have h42z : (d.now.length : Int) < 42 := by omega
  clear h kd
  go_enter Try.func93, Try.ntmps93
  go_wp2_with fail
  refine Calls.mono KD.out ?_
  rintro e w1 ⟨rfl, hw⟩
  rw [hw]
  clear hw w1 KD
  go_wp2_with fail
  refine Calls.mono KS.out ?_
  rintro e w1 ⟨rfl, hw⟩
  rw [hw]
  clear hw w1 KS
  go_wp2
  go_ret3
  exact ⟨rfl, rfl⟩
set_option maxRecDepth 100000 in
theorem open_short (p : Dp) (d : Dk) (w : World) (h : DiskAt w p d) (hup : d.down = false) (h42 : d.now.length < 42) :
    Calls Try.prog 59 #[.pointer (some ⟨p.B, 0, none⟩)] w fun e w' => e = .returned (.tuple #[.pointer none, .iface 118 (.int .i64 4)]) ∧ w' = w := by
  have KL : Hid _ := laid_short p d w h hup h42
  clear h
  go_enter Try.func59, Try.ntmps59
  go_wp2_with fail
  refine Calls.mono KL.out ?_
  rintro e w1 ⟨rfl, hw⟩
  rw [hw]
  clear hw w1 KL
  go_wp2
  go_ret2
  exact ⟨rfl, rfl⟩
/-- A disk that was never formatted has no store. -/
theorem open_fresh (p : Dp) (N : Nat) (w : World) (h : DiskAt w p (newD N)) (hN : 1 ≤ N) :
    Calls Try.prog 59 #[.pointer (some ⟨p.B, 0, none⟩)] w fun e w' => e = .returned (.tuple #[.pointer none, .iface 118 (.int .i64 4)]) ∧ Below w.heap.size w w' := by
  have hl : (newD N).now.length = N := (free_new N).len
  by_cases h42 : N < 42
  · refine (open_short p (newD N) w h rfl (by omega)).mono ?_
    rintro e w' ⟨rfl, rfl⟩
    exact ⟨rfl, Below.refl _ _⟩
  · refine (storeOpen_any p (newD N) w h rfl (by omega)).mono ?_
    rintro e w' ⟨hb, hor⟩
    rcases hor with ⟨-, rfl⟩ | ⟨b, side, rows, used, ra, rc, lb, ho, -⟩
    · exact ⟨rfl, hb⟩
    · rw [openD_new (by omega)] at ho
      cases ho
/-- A store that is kept is opened. -/
theorem open_kept (p : Dp) (d : Dk) (N side used : Nat) (rows : List Ch) (w : World) (h : DiskAt w p d) (hk : Kept N d side used rows) (hN : 42 ≤ N) :
    Calls Try.prog 59 #[.pointer (some ⟨p.B, 0, none⟩)] w fun e w' => ∃ b ra rc lb, e = .returned (.tuple #[.pointer (some ⟨b, 0, none⟩), .nilIface]) ∧ Below w.heap.size w w' ∧ StoreOwn w' w.heap.size b ⟨p.B, side, ra, rc, rows, lb⟩ ⟨p.B, 26, N - 26, firstOf d side, used⟩ := by
  refine (storeOpen_any p d w h hk.free.up (by rw [hk.free.len]; exact hN)).mono ?_
  rintro e w' ⟨hb, hor⟩
  rcases hor with ⟨ho, -⟩ | ⟨b, side', rows', used', ra, rc, lb, ho, h1, h2, h3, h4, rfl, hs⟩
  · rw [hk.opens] at ho
    cases ho
  · rw [hk.opens] at ho
    cases ho
    rw [hk.free.len] at hs
    exact ⟨b, ra, rc, lb, rfl, hb, hs⟩
end Go.Proofs.Ytihnghnafpgdfab
