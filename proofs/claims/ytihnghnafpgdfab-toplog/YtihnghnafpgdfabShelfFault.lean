/-
  THE WALKS OF shelf.Check AND OF THE DOCUMENT's ANSWER TO B3.
-/
import Derived.Test.YtihnghnafpgdfabShelfBase
namespace Go.Proofs.Ytihnghnafpgdfab
open Go.RowKit
set_option linter.unusedVariables false
set_option linter.unusedSimpArgs false

theorem bcell {W w1 : World} (hb : Below W.heap.size W w1) : (∀ b o, b < W.heap.size → w1.cell? ⟨b, o, none⟩ = W.cell? ⟨b, o, none⟩) ∧ (∀ b o, b < W.heap.size → w1.frozen? ⟨b, o, none⟩ = W.frozen? ⟨b, o, none⟩) :=
  ⟨fun b o h => hb.cell (p := ⟨b, o, none⟩) h, fun b o h => hb.frozen (p := ⟨b, o, none⟩) h⟩

theorem fault_next {l : List Fi} {k : Nat} (h : ∀ i, i < k → faultAt l i = 0) (hk : faultAt l k = 0) : ∀ i, i < k + 1 → faultAt l i = 0 := by
  intro i hi
  rcases Nat.lt_or_ge i k with h1 | h1
  · exact h i h1
  · have e : i = k := by omega
    subst e
    exact hk

theorem faultAt_prev {l : List Fi} {k j : Nat} (hk : k < l.length) (hj : j < l.length) (e : k = j + 1) (hf : l[k].fault = 0) : faultAt l k = if ltB l[j].n l[k].n = true then 0 else 3 := by
  subst e
  exact faultAt_succ hk hf

set_option maxHeartbeats 1000000 in
theorem shelfCheck_any (a : Option Addr) (cap : Nat) (l : List Fi) (w : World) (hl : l.length ≤ maxLen) (hz : Sized l) (hc : Cells w a l) :
    Calls Try.prog 110 #[.slice a l.length cap] w fun e w' => e = .returned (errV (filesF l)) ∧ Below w.heap.size w w' := by
  unfold maxLen at hl
  have HC : Hid (Cells w a l) := hc
  have HZ : Hid (Sized l) := hz
  clear hc hz
  by_cases h8 : 8 < l.length
  · have e : filesF l = 2 := filesF_many h8
    rw [e]
    clear e
    go_enter Try.func110, Try.ntmps110
    go_wp2
    go_ret
    exact ⟨rfl, Below.refl _ _⟩
  · go_enter Try.func110, Try.ntmps110
    go_wp2_with fail
    go_loopw [12] (fun i wr => ∃ k : Nat, k ≤ l.length ∧ i = .int .i64 k ∧ Below w.heap.size w wr ∧ ∀ i, i < k → faultAt l i = 0) (fun i _ => l.length - (intOf i).toNat)
    case atStart => exact ⟨0, Nat.zero_le _, rfl, Below.refl _ _, fun i hi => absurd hi (Nat.not_lt_zero _)⟩
    case round =>
      obtain ⟨k, hk, rfl, hb, hall⟩ := hrel
      have HB : Hid (Below w.heap.size w wr) := hb
      have Hall : Hid (∀ i, i < k → faultAt l i = 0) := hall
      clear hall hb
      by_cases hlt : k < l.length
      · obtain ⟨b, off, rfl, c0, c1, c2⟩ := HC.out.below HB.out k hlt
        obtain ⟨z1, z2⟩ := HZ.out.at hlt
        have hbl : b < wr.heap.size := World.block_lt_of_cell? _ _ c0
        have hr : 0 ≤ fileF l[k].n.data.toList l[k].t.data.toList l[k].k := l[k].fault_range.1
        by_cases hf : 0 < fileF l[k].n.data.toList l[k].t.data.toList l[k].k
        · have he : errV (fileF l[k].n.data.toList l[k].t.data.toList l[k].k) = .iface 118 (.int .i64 (fileF l[k].n.data.toList l[k].t.data.toList l[k].k)) := by unfold errV; rw [if_neg (by omega)]
          go_wp2_with (go_at_call 112; refine (check_any _ _ _ _ z1 z2).mono ?_; rintro e w' ⟨rfl, rfl⟩)
          go_ret
          have hne : l[k].fault ≠ 0 := by unfold Fi.fault; omega
          have e : filesF l = fileF l[k].n.data.toList l[k].t.data.toList l[k].k := by
            rw [filesF_some (by omega) hlt Hall.out (by rw [faultAt_own hlt hne]; exact hne), faultAt_own hlt hne]; rfl
          exact ⟨by rw [e, he]; rfl, (HB.out.alloc HB.out.size _).alloc (by simp; have := HB.out.size; omega) _⟩
        · have hzero : l[k].fault = 0 := by unfold Fi.fault; omega
          have HF : Hid (l[k].fault = 0) := hzero
          have he : errV (fileF l[k].n.data.toList l[k].t.data.toList l[k].k) = .nilIface := by unfold errV; rw [if_pos (by omega)]
          clear hzero
          by_cases hk0 : k = 0
          · have hd : decide ((0 : Int) < (k : Int)) = false := by simp [hk0]
            have hd' : decide (0 < k) = false := by simp [hk0]
            have hfa : faultAt l k = 0 := by subst hk0; exact faultAt_zero hlt HF.out
            have HFA : Hid (faultAt l k = 0) := hfa
            clear hk0 hfa
            go_wp2_with (go_at_call 112; refine (check_any _ _ _ _ z1 z2).mono ?_; rintro e w' ⟨rfl, rfl⟩)
            go_quiet (fail)
            go_wp2
            exact ⟨⟨k + 1, by omega, by go_num, below_drewN ((HB.out.alloc HB.out.size _).alloc (by simp; have := HB.out.size; omega) _) _, fault_next Hall.out HFA.out⟩, by simp [intOf]; omega⟩
          · have hd : decide ((0 : Int) < (k : Int)) = true := by simp; omega
            have hd' : decide (0 < k) = true := by simp; omega
            obtain ⟨j, HJ⟩ : ∃ j, Hid (k = j + 1) := ⟨k - 1, show k = k - 1 + 1 by omega⟩
            have hj1 : ((k : Int) - 1) = (j : Int) := by have := HJ.out; omega
            have hj2 : j < l.length := by have := HJ.out; omega
            clear hk0
            obtain ⟨_, _, e, d0, d1, d2⟩ := HC.out.below HB.out j hj2
            cases e
            have hfa := faultAt_prev hlt hj2 HJ.out HF.out
            cases hlb : ltB l[j].n l[k].n
            · have hle : (Op.bytesLess l[k].n.toList l[j].n.toList || l[k].n.toList == l[j].n.toList) = true := by rw [leqB, hlb]; rfl
              rw [hlb] at hfa
              have HFA : Hid (faultAt l k = 3) := hfa
              clear hfa hlb
              go_wp2_with (go_at_call 112; refine (check_any _ _ _ _ z1 z2).mono ?_; rintro e w' ⟨rfl, rfl⟩)
              go_quiet (fail)
              go_wp2
              go_ret
              exact ⟨by rw [filesF_some (by omega) hlt Hall.out (by rw [HFA.out]; decide), HFA.out]; rfl, below_drewN ((HB.out.alloc HB.out.size _).alloc (by simp; have := HB.out.size; omega) _) _⟩
            · have hle : (Op.bytesLess l[k].n.toList l[j].n.toList || l[k].n.toList == l[j].n.toList) = false := by rw [leqB, hlb]; rfl
              rw [hlb] at hfa
              have HFA : Hid (faultAt l k = 0) := hfa
              clear hfa hlb
              go_wp2_with (go_at_call 112; refine (check_any _ _ _ _ z1 z2).mono ?_; rintro e w' ⟨rfl, rfl⟩)
              go_quiet (fail)
              go_wp2
              exact ⟨⟨k + 1, by omega, by go_num, below_drewN ((HB.out.alloc HB.out.size _).alloc (by simp; have := HB.out.size; omega) _) _, fault_next Hall.out HFA.out⟩, by simp [intOf]; omega⟩
      · go_wp2
        go_ret
        exact ⟨by rw [filesF_none (by omega) (fun i hi => Hall.out i (by omega))]; rfl, HB.out⟩

end Go.Proofs.Ytihnghnafpgdfab
