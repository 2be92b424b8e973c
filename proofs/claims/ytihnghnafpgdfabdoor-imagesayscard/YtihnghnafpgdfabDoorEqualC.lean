/-
  slices.Equal OF CHANGES.
-/
import Derived.Test.YtihnghnafpgdfabDoorRowSame
namespace Go.Proofs.YtihnghnafpgdfabDoor
open Go.RowKit Go.BigFrame
set_option linter.unusedVariables false
set_option linter.unusedSimpArgs false

set_option maxRecDepth 100000 in
set_option maxHeartbeats 1000000 in
theorem equalC_any (a a' : Option Addr) (cap cap' : Nat) (l m : List Ch) (w : World) (hl : l.length ≤ 1000) (hm : m.length ≤ 1000) (hc : CC w a l) (hc' : CC w a' m) :
    Calls Tryd.prog 32 #[.slice a l.length cap, .slice a' m.length cap'] w fun e w' => e = .returned (.bool (sameCL l m)) ∧ Below w.heap.size w w' := by
  have HC : Hid (CC w a l) := hc
  have HC' : Hid (CC w a' m) := hc'
  clear hc hc'
  by_cases hlen : l.length = m.length
  · have hne : ((l.length : Int) != (m.length : Int)) = false := by simp [hlen]
    have HL : Hid (l.length = m.length) := hlen
    clear hlen
    go_enter Tryd.func32, Tryd.ntmps32
    go_wp2_with fail
    go_loopg [13] (l.length + 1) (fun kx vi wr => ∃ k : Nat, vi = .int .i64 k ∧ k ≤ l.length ∧ l.length - k ≤ kx ∧ Hid (Below w.heap.size w wr) ∧ Hid (∀ i (h1 : i < l.length) (h2 : i < m.length), i < k → eqCh l[i] m[i] = true))
    case atStart => exact ⟨0, rfl, by omega, by omega, Below.refl _ _, fun i h1 h2 h => absurd h (Nat.not_lt_zero _)⟩
    case round =>
      obtain ⟨k, rfl, hk, hkx, HB, Hall⟩ := hrel
      by_cases hlt : k < l.length
      · have hltz : (k : Int) < (l.length : Int) := by omega
        have hlt2 : k < m.length := by have := HL.out; omega
        obtain ⟨b, off, rfl, c0, c1, c2⟩ := (HC.out.below HB.out) k hlt
        obtain ⟨b', off', rfl, d0, d1, d2⟩ := (HC'.out.below HB.out) k hlt2
        have hq := fun w => run_neq_change l[k] m[k] w
        cases he : eqCh l[k] m[k]
        · have HF : Hid (sameCL l m = false) := sameCL_at hlt hlt2 he
          go_wp2_with fail
          go_quiet (fail)
          go_wp2
          go_ret
          exact ⟨ret_bool HF.out.symm, below_drewN HB.out nq⟩
        · have HN : Hid (∀ i (h1 : i < l.length) (h2 : i < m.length), i < k + 1 → eqCh l[i] m[i] = true) := fun i h1 h2 h => by
            rcases Nat.lt_or_ge i k with h3 | h3
            · exact Hall.out i h1 h2 h3
            · have e : i = k := by omega
              subst e
              exact he
          go_wp2_with fail
          go_quiet (fail)
          go_wp2
          go_roundg (l.length - (k + 1))
          case measure => omega
          case rel => exact ⟨k + 1, by go_num, by omega, Nat.le_refl _, below_drewN HB.out nq, HN⟩
      · have HT : Hid (sameCL l m = true) := sameCL_all HL.out (fun i h1 h2 => Hall.out i h1 h2 (by omega))
        go_wp2
        go_ret
        exact ⟨ret_bool HT.out.symm, HB.out⟩
  · have hne : ((l.length : Int) != (m.length : Int)) = true := by rw [bne_iff_ne]; omega
    go_enter Tryd.func32, Tryd.ntmps32
    go_wp2
    go_ret
    exact ⟨ret_bool (sameCL_len hlen).symm, Below.refl _ _⟩
end Go.Proofs.YtihnghnafpgdfabDoor
