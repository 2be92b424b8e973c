/-
  THE WALKS OF slices.Equal AT FILES, quilt.Same, LightQuilt, quilts.
-/
import Derived.Test.YtihnghnafpgdfacTopGoodWalk
import Derived.Test.YtihnghnafpgdfacShelfLaw
namespace Go.Proofs.Ytihnghnafpgdfac
open Go.RowKit
set_option linter.unusedVariables false
set_option linter.unusedSimpArgs false

set_option maxRecDepth 100000 in
set_option maxHeartbeats 1000000 in
theorem equalFiles_any (a a' : Option Addr) (cap cap' : Nat) (l m : List Fi) (w : World) (hl : l.length ≤ 1000) (hm : m.length ≤ 1000) (hc : Cells w a l) (hc' : Cells w a' m) :
    Calls Try.prog 77 #[.slice a l.length cap, .slice a' m.length cap'] w fun e w' => e = .returned (.bool (sameL l m)) ∧ ∃ n, w' = w.drewN n := by
  have HC : Hid (Cells w a l) := hc
  have HC' : Hid (Cells w a' m) := hc'
  clear hc hc'
  by_cases hlen : l.length = m.length
  · have hne : ((l.length : Int) != (m.length : Int)) = false := by simp [hlen]
    have HL : Hid (l.length = m.length) := hlen
    clear hlen
    go_enter Try.func77, Try.ntmps77
    go_wp2_with fail
    go_loopw [13] (fun i wr => ∃ k n : Nat, k ≤ l.length ∧ i = .int .i64 k ∧ wr = w.drewN n ∧ ∀ i (h1 : i < l.length) (h2 : i < m.length), i < k → eqFi l[i] m[i] = true) (fun i _ => l.length - (intOf i).toNat)
    case atStart => exact ⟨0, 0, Nat.zero_le _, rfl, rfl, fun i h1 h2 h => absurd h (Nat.not_lt_zero _)⟩
    case round =>
      obtain ⟨k, n, hk, rfl, rfl, hall⟩ := hrel
      have Hall : Hid (∀ i (h1 : i < l.length) (h2 : i < m.length), i < k → eqFi l[i] m[i] = true) := hall
      clear hall
      by_cases hlt : k < l.length
      · have hlt2 : k < m.length := by have := HL.out; omega
        obtain ⟨b, off, rfl, c0, c1, c2⟩ := HC.out k hlt
        obtain ⟨b', off', rfl, d0, d1, d2⟩ := HC'.out k hlt2
        have hq := fun w => run_neq_file l[k] m[k] w
        cases he : eqFi l[k] m[k]
        · go_wp2
          go_quiet (fail)
          go_wp2
          go_ret
          exact ⟨ret_bool (sameL_at hlt hlt2 he).symm, n + nq, by simp⟩
        · go_wp2
          go_quiet (fail)
          go_wp2
          refine ⟨⟨k + 1, _, by omega, by go_num, rfl, fun i h1 h2 h => ?_⟩, by simp [intOf]; omega⟩
          rcases Nat.lt_or_ge i k with h3 | h3
          · exact Hall.out i h1 h2 h3
          · have e : i = k := by omega
            subst e
            exact he
      · go_wp2
        go_ret
        exact ⟨ret_bool (sameL_all HL.out (fun i h1 h2 => Hall.out i h1 h2 (by omega))).symm, n, rfl⟩
  · have hne : ((l.length : Int) != (m.length : Int)) = true := by rw [bne_iff_ne]; omega
    go_enter Try.func77, Try.ntmps77
    go_wp2
    go_ret
    exact ⟨ret_bool (sameL_len hlen).symm, 0, rfl⟩

set_option maxRecDepth 100000 in
set_option maxHeartbeats 1000000 in
theorem quiltSame_any (a a' : Option Addr) (cap cap' : Nat) (l m : List Fi) (t s : Int) (w : World) (hl : l.length ≤ 1000) (hm : m.length ≤ 1000) (hc : Cells w a l) (hc' : Cells w a' m) :
    Calls Try.prog 53 #[.agg #[.slice a l.length cap, .int .i64 t], .agg #[.slice a' m.length cap', .int .i64 s]] w fun e w' => e = .returned (.bool (sameL l m && (t == s))) ∧ Below w.heap.size w w' := by
  have HC : Hid (Cells w a l) := hc
  have HC' : Hid (Cells w a' m) := hc'
  clear hc hc'
  cases hts : (t == s)
  · go_enter Try.func53, Try.ntmps53
    go_wp2
    go_ret
    refine ⟨by simp, ?_⟩
    repeat (first | exact Below.refl _ _ | refine below_drewN ?_ _ | refine Below.drew ?_ | refine Below.alloc ?_ (by simp; try omega) _)
  · go_enter Try.func53, Try.ntmps53
    go_wp2_with fail
    refine (equalFiles_any a a' cap cap' l m _ hl hm (by exact (HC.out.alloc _).alloc _) (by exact (HC'.out.alloc _).alloc _)).mono ?_
    rintro e w1 ⟨rfl, n1, hw⟩
    rw [hw]
    clear hw w1
    go_wp2
    go_ret
    refine ⟨by simp, ?_⟩
    repeat (first | exact Below.refl _ _ | refine below_drewN ?_ _ | refine Below.drew ?_ | refine Below.alloc ?_ (by simp; try omega) _)

set_option maxRecDepth 100000 in
set_option maxHeartbeats 1000000 in
theorem lightQuilt_any (a : Option Addr) (cap : Nat) (l : List Fi) (t : Int) (w : World) (hl : l.length ≤ maxLen) (hz : Sized l) (hc : Cells w a l) :
    Calls Try.prog 20 #[.agg #[.slice a l.length cap, .int .i64 t]] w fun e w' => e = .returned (.bool (lightF l)) ∧ Below w.heap.size w w' := by
  have HC : Hid (Cells w a l) := hc
  clear hc
  have hl' := hl
  unfold maxLen at hl'
  by_cases h12 : l.length ≤ 12
  · go_enter Try.func20, Try.ntmps20
    go_wp2_with fail
    refine (light_any a cap l _ hl hz (by exact HC.out.alloc _)).mono ?_
    rintro e w' ⟨rfl, hw⟩
    rw [hw]
    clear hw w'
    go_wp2
    go_ret
    exact ⟨rfl, (Below.refl _ _).alloc (Nat.le_refl _) _⟩
  · have e : lightF l = false := by
      cases h : lightF l
      · rfl
      · have := (lightF_spec h).1; omega
    rw [e]
    clear e
    go_enter Try.func20, Try.ntmps20
    go_wp2
    go_ret
    exact ⟨rfl, (Below.refl _ _).alloc (Nat.le_refl _) _⟩

end Go.Proofs.Ytihnghnafpgdfac
