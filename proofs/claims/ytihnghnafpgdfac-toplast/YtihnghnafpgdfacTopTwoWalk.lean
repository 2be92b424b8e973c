/-
  THE WALK OF TopTwo: it returns true, and writes nothing that was there.
-/
import Derived.Test.YtihnghnafpgdfacVoteSaysWalk
import Derived.Laws.ResultCell
namespace Go.Proofs.Ytihnghnafpgdfac
open Go.RowKit
set_option linter.unusedVariables false
set_option linter.unusedSimpArgs false

def mix3 (x y : Co) (k i : Nat) : Co := if i = k then y else x
abbrev mixV (x y : Co) (k : Nat) : Value := threeV (mix3 x y k 0) (mix3 x y k 1) (mix3 x y k 2)
theorem sameCo_spec {x y : Co} (hx : x.is = true) : sameCo x y = true ↔ y.is = true ∧ x.l = y.l ∧ x.t = y.t := by
  unfold sameCo sameQ
  cases hy : y.is
  · simp [hx]
  · simp [hx, sameL_iff]
theorem mix_voted {x y : Co} {k : Nat} (hk : k < 3) (hx : x.is = true) : ∃ c : Co, votedC (mix3 x y k 0) (mix3 x y k 1) (mix3 x y k 2) = some c ∧ c.l = x.l ∧ c.t = x.t := by
  have hxx : sameCo x x = true := (sameCo_spec hx).2 ⟨hx, rfl, rfl⟩
  match k, hk with
  | 0, _ =>
    by_cases h : y.is = true ∧ [x, x].any (sameCo y) = true
    · refine ⟨y, votedC_x h, ?_⟩
      have h2 : sameCo y x = true := by
        have := h.2
        simpa using this
      obtain ⟨_, h3, h4⟩ := (sameCo_spec h.1).1 h2
      exact ⟨h3, h4⟩
    · exact ⟨x, votedC_y h ⟨hx, by simp [mix3, hxx]⟩, rfl, rfl⟩
  | 1, _ => exact ⟨x, votedC_x ⟨hx, by simp [mix3, hxx]⟩, rfl, rfl⟩
  | 2, _ => exact ⟨x, votedC_x ⟨hx, by simp [mix3, hxx]⟩, rfl, rfl⟩
theorem right_x {x : Co} (hx : x.is = true) (a : Option Addr) (cap : Nat) : sameCo x (rightC a cap x.l x.t) = true := (sameCo_spec hx).2 ⟨rfl, rfl, rfl⟩
theorem right_y {x y : Co} (hx : x.is = true) (a : Option Addr) (cap : Nat) : sameCo y (rightC a cap x.l x.t) = sameCo x y := by
  cases hy : y.is
  · simp [sameCo, hx, hy, rightC]
  · rw [Bool.eq_iff_iff, sameCo_spec hy, sameCo_spec hx]
    constructor
    · rintro ⟨_, h1, h2⟩; exact ⟨hy, h1.symm, h2.symm⟩
    · rintro ⟨_, h1, h2⟩; exact ⟨rfl, h1.symm, h2.symm⟩
theorem mix_wrong {x y : Co} {k : Nat} (hk : k < 3) (hx : x.is = true) (a : Option Addr) (cap : Nat) : wrongL (mix3 x y k 0) (mix3 x y k 1) (mix3 x y k 2) (rightC a cap x.l x.t) = if sameCo x y = true then [] else [(k : Int)] := by
  have h1 := right_x hx a cap
  have h2 := right_y (y := y) hx a cap
  match k, hk with
  | 0, _ => simp only [wrongL, mix3]; simp [h1, h2]
  | 1, _ => simp only [wrongL, mix3]; simp [h1, h2]
  | 2, _ => simp only [wrongL, mix3]; simp [h1, h2]

set_option maxRecDepth 100000 in
set_option maxHeartbeats 1000000 in
theorem mixed_any (x y : Co) (k : Nat) (hk : k < 3) (w : World) :
    Calls Try.prog 30 #[x.v, y.v, .int .i64 k] w fun e w' => e = .returned (mixV x y k) ∧ Below w.heap.size w w' := by
  have h3 : k = 0 ∨ k = 1 ∨ k = 2 := by omega
  rcases h3 with rfl | rfl | rfl
  · go_enter Try.func30, Try.ntmps30
    go_wp2
    refine bodyPost_ret (v := threeV y x x) (by simp [results, Try.results30, go_sem]) rfl ⟨rfl, ?_⟩
    repeat (first | exact Below.refl _ _ | refine Below.setCell ?_ (by simp; try omega) _ | refine Below.alloc ?_ (by simp; try omega) _)
  · go_enter Try.func30, Try.ntmps30
    go_wp2
    refine bodyPost_ret (v := threeV x y x) (by simp [results, Try.results30, go_sem]) rfl ⟨rfl, ?_⟩
    repeat (first | exact Below.refl _ _ | refine Below.setCell ?_ (by simp; try omega) _ | refine Below.alloc ?_ (by simp; try omega) _)
  · go_enter Try.func30, Try.ntmps30
    go_wp2
    refine bodyPost_ret (v := threeV x x y) (by simp [results, Try.results30, go_sem]) rfl ⟨rfl, ?_⟩
    repeat (first | exact Below.refl _ _ | refine Below.setCell ?_ (by simp; try omega) _ | refine Below.alloc ?_ (by simp; try omega) _)
end Go.Proofs.Ytihnghnafpgdfac
