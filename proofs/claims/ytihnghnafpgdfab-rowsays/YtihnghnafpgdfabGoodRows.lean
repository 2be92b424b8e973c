/-
  goodRows: rows rise, each may be, none is gone.
-/
import Derived.Test.YtihnghnafpgdfabRowSame
import Derived.Test.YtihnghnafpgdfabLater
namespace Go.Proofs.Ytihnghnafpgdfab
open Go.RowKit Go.BigFrame
set_option linter.unusedVariables false
set_option linter.unusedSimpArgs false

/-- Of the first k rows each may be, none is gone, and they rise. -/
def GoodTo (l : List Ch) (k : Nat) : Prop := ∀ j (h : j < l.length), j < k → changeF l[j] = 0 ∧ l[j].gone = false ∧ ∀ h2 : 0 < j, ltB l[j - 1].key l[j].key = true
theorem GoodTo.next {l : List Ch} {k : Nat} (h : GoodTo l k) (hk : k < l.length) (h0 : changeF l[k] = 0) (h1 : l[k].gone = false) (h2 : ∀ h2 : 0 < k, ltB l[k - 1].key l[k].key = true) : GoodTo l (k + 1) := fun j hj hjk => by
  rcases Nat.lt_or_ge j k with h4 | h4
  · exact h j hj h4
  · have e : j = k := by omega
    subst e
    exact ⟨h0, h1, h2⟩
theorem GoodTo.all {l : List Ch} {k : Nat} (h : GoodTo l k) (hk : l.length ≤ k) : GoodR l := by
  refine ⟨⟨rises_pairwise (fun j hj => (h (j + 1) hj (by omega)).2.2 (by omega)), fun c hc => ?_⟩, fun c hc => ?_⟩
  · obtain ⟨j, hj, rfl⟩ := List.getElem_of_mem hc
    exact (h j hj (by omega)).2.1
  · obtain ⟨j, hj, rfl⟩ := List.getElem_of_mem hc
    exact (h j hj (by omega)).1

set_option maxRecDepth 100000 in
set_option maxHeartbeats 4000000 in
theorem goodRows_any (a : Option Addr) (cap : Nat) (l : List Ch) (w : World) (hl : l.length ≤ 1000) (hc : CC w a l) :
    Calls Try.prog 47 #[.slice a l.length cap] w fun e w' => (∃ b, e = .returned (.bool b) ∧ (b = true → GoodR l)) ∧ Below w.heap.size w w' := by
  have HC : Hid (CC w a l) := hc
  clear hc
  go_enter Try.func47, Try.ntmps47
  go_wp2_with fail
  go_loopg [3] (l.length + 1) (fun kx vi wr => ∃ k : Nat, vi = .int .i64 k ∧ k ≤ l.length ∧ l.length - k ≤ kx ∧ Hid (Below w.heap.size w wr) ∧ Hid (GoodTo l k))
  case atStart => exact ⟨0, rfl, Nat.zero_le _, by omega, Below.refl _ _, fun j h h2 => absurd h2 (Nat.not_lt_zero _)⟩
  case round =>
    obtain ⟨k, rfl, hk, hkx, HB, HG⟩ := hrel
    by_cases hlt : k < l.length
    · have bk : (k : Int) < (l.length : Int) := by omega
      obtain ⟨b, off, rfl, c0, c1, c2⟩ := HC.out.below HB.out k hlt
      have some' := Later.ne wr
      have p0 := Later.cell c0
      have p1 := Later.cell c1
      have p2 := Later.cell c2
      have HKC : Hid (∀ p : Later wr, Calls Try.prog 46 #[.agg #[.string l[k].key, .string l[k].val, .bool l[k].gone]] p.W fun e w' => e = .returned (.int .i64 (changeF l[k])) ∧ Below p.W.heap.size p.W w') := fun p => changeFault_any l[k] p.W
      have hrg := changeF_rng l[k]
      have HG0 : Hid (changeF l[k] = 0 → l[k].gone = false → (∀ h2 : 0 < k, ltB l[k - 1].key l[k].key = true) → GoodTo l (k + 1)) := HG.out.next hlt
      generalize changeF l[k] = fv at *
      clear c0 c1 c2 HG
      by_cases hf : 0 < fv
      · have hd : decide ((0 : Int) < fv) = true := decide_eq_true hf
        go_wp2_with fail
        refine wp_region_later (by kernel_rfl) (by kernel_rfl) ?_
        repeat (go_big_quiet_step ((go_at_call 46; exact later_of _ (HKC.out _))))
        refine wpQuiet_nil ?_
        rintro _ ⟨p, rfl⟩
        go_wp2
        go_ret
        exact ⟨⟨false, rfl, fun h => by cases h⟩, HB.out.trans (p.h.mono HB.out.size)⟩
      · have hd : decide ((0 : Int) < fv) = false := decide_eq_false hf
        have HF0 : Hid (fv = 0) := by show fv = 0; omega
        clear hf
        rcases Bool.eq_false_or_eq_true l[k].gone with hg | hg
        · rw [hg] at p2 HKC
          clear hg HG0
          go_wp2_with fail
          refine wp_region_later (by kernel_rfl) (by kernel_rfl) ?_
          repeat (go_big_quiet_step ((go_at_call 46; exact later_of _ (HKC.out _))))
          refine wpQuiet_nil ?_
          rintro _ ⟨p, rfl⟩
          go_wp2
          go_ret
          exact ⟨⟨false, rfl, fun h => by cases h⟩, HB.out.trans (p.h.mono HB.out.size)⟩
        · have HG1 : Hid ((∀ h2 : 0 < k, ltB l[k - 1].key l[k].key = true) → GoodTo l (k + 1)) := HG0.out HF0.out hg
          rw [hg] at p2 HKC
          clear hg HG0
          by_cases hk0 : k = 0
          · have hz : decide ((0 : Int) < (k : Int)) = false := decide_eq_false (by omega)
            have hz2 : decide (0 < k) = false := decide_eq_false (by omega)
            have HN : Hid (GoodTo l (k + 1)) := HG1.out (fun h => absurd h (by omega))
            have HK0 : Hid (k = 0) := hk0
            clear hk0
            go_wp2_with fail
            refine wp_region_later (by kernel_rfl) (by kernel_rfl) ?_
            repeat (go_big_quiet_step ((go_at_call 46; exact later_of _ (HKC.out _))))
            refine wpQuiet_nil ?_
            rintro _ ⟨p, rfl⟩
            go_wp2
            go_roundg (l.length - (k + 1))
            case measure => omega
            case rel => exact ⟨k + 1, by go_num, by omega, Nat.le_refl _, HB.out.trans (p.h.mono HB.out.size), HN⟩
          · obtain ⟨kp, rfl⟩ : ∃ q, k = q + 1 := ⟨k - 1, by omega⟩
            have hlt0 : kp < l.length := by omega
            obtain ⟨b', off', e, d0, d1, d2⟩ := HC.out.below HB.out kp hlt0
            cases e
            have q0 := Later.cell d0
            clear d0 d1 d2 hk0
            have hz : decide ((0 : Int) < (kp : Int) + 1) = true := decide_eq_true (by omega)
            have b2 : (kp : Int) < (l.length : Int) := by omega
            have hle := leqB l[kp + 1].key l[kp].key
            have HG2 : Hid (ltB l[kp].key l[kp + 1].key = true → GoodTo l (kp + 1 + 1)) := fun h => HG1.out (fun _ => h)
            clear HG1
            cases hlo : ltB l[kp].key l[kp + 1].key
            · rw [hlo] at hle
              simp only [Bool.not_false] at hle
              clear hlo
              go_wp2_with fail
              refine wp_region_later (by kernel_rfl) (by kernel_rfl) ?_
              repeat (go_big_quiet_step ((go_at_call 46; exact later_of _ (HKC.out _))))
              refine wpQuiet_nil ?_
              rintro _ ⟨p, rfl⟩
              go_wp2
              go_ret
              exact ⟨⟨false, rfl, fun h => by cases h⟩, HB.out.trans (p.h.mono HB.out.size)⟩
            · have HN : Hid _ := HG2.out hlo
              rw [hlo] at hle
              simp only [Bool.not_true] at hle
              clear hlo HG2
              go_wp2_with fail
              refine wp_region_later (by kernel_rfl) (by kernel_rfl) ?_
              repeat (go_big_quiet_step ((go_at_call 46; exact later_of _ (HKC.out _))))
              refine wpQuiet_nil ?_
              rintro _ ⟨p, rfl⟩
              go_wp2
              go_roundg (l.length - (kp + 1 + 1))
              case measure => omega
              case rel => exact ⟨kp + 1 + 1, by go_num, by omega, Nat.le_refl _, HB.out.trans (p.h.mono HB.out.size), HN⟩
    · have HGR : Hid (GoodR l) := HG.out.all (by omega)
      go_wp2
      go_ret
      exact ⟨⟨true, rfl, fun _ => HGR.out⟩, HB.out⟩
end Go.Proofs.Ytihnghnafpgdfab
