/-
  THE WALK OF TopLast: it returns true, and writes nothing that was there.
-/
import Derived.Test.YtihnghnafpgdfacTopTwoWalk
import Derived.Test.YtihnghnafpgdfacLater
namespace Go.Proofs.Ytihnghnafpgdfac
open Go.RowKit Go.BigFrame
set_option linter.unusedVariables false
set_option linter.unusedSimpArgs false

theorem sameCo_comm (x y : Co) : sameCo x y = sameCo y x := by
  cases hx : x.is
  · cases hy : y.is <;> simp [sameCo, hx, hy]
  · cases hy : y.is
    · simp [sameCo, hx, hy]
    · rw [Bool.eq_iff_iff, sameCo_spec hx, sameCo_spec hy]
      constructor
      · rintro ⟨_, h1, h2⟩; exact ⟨hx, h1.symm, h2.symm⟩
      · rintro ⟨_, h1, h2⟩; exact ⟨hy, h1.symm, h2.symm⟩
/-- No two of the first are the same. -/
def LoneUp (c : Nat → Co) (k j : Nat) : Prop := (∀ i, i < k → ∀ m, m < i → ¬ ((c i).is = true ∧ sameCo (c i) (c m) = true)) ∧ ∀ m, m < j → ¬ ((c k).is = true ∧ sameCo (c k) (c m) = true)
theorem loneUp_next {c : Nat → Co} {k j : Nat} (h : LoneUp c k j) (hn : ¬ ((c k).is = true ∧ sameCo (c k) (c j) = true)) : LoneUp c k (j + 1) :=
  ⟨h.1, fun m h2 => by
    rcases Nat.lt_or_ge m j with h3 | h3
    · exact h.2 m h3
    · have e : m = j := by omega
      subst e; exact hn⟩
theorem loneUp_row {c : Nat → Co} {k : Nat} (h : LoneUp c k k) : LoneUp c (k + 1) 0 :=
  ⟨fun i hi m hm => by
    rcases Nat.lt_or_ge i k with h3 | h3
    · exact h.1 i h3 m hm
    · have e : i = k := by omega
      subst e; exact h.2 m hm, fun m h2 => absurd h2 (Nat.not_lt_zero _)⟩
theorem wrong_two {x y z g : Co} (a : Option Addr) (cap : Nat) (hg : g.is = true) (hxy : ¬ (x.is = true ∧ sameCo x y = true)) (hxz : ¬ (x.is = true ∧ sameCo x z = true)) (hyz : ¬ (y.is = true ∧ sameCo y z = true)) (h : g = x ∨ g = y ∨ g = z) :
    (wrongL x y z (rightC a cap g.l g.t)).length = 2 := by
  have key : ∀ c : Co, sameCo c (rightC a cap g.l g.t) = sameCo g c := fun c => right_y hg a cap
  have self : sameCo g g = true := (sameCo_spec hg).2 ⟨hg, rfl, rfl⟩
  simp only [wrongL, key]
  rcases h with rfl | rfl | rfl
  · have h1 : sameCo g y = false := by rw [Bool.eq_false_iff]; exact fun e => hxy ⟨hg, e⟩
    have h2 : sameCo g z = false := by rw [Bool.eq_false_iff]; exact fun e => hxz ⟨hg, e⟩
    simp [self, h1, h2]
  · have h1 : sameCo g x = false := by
      rw [Bool.eq_false_iff]; intro e
      have := (sameCo_spec hg).1 e
      exact hxy ⟨this.1, by rw [sameCo_comm]; exact e⟩
    have h2 : sameCo g z = false := by rw [Bool.eq_false_iff]; exact fun e => hyz ⟨hg, e⟩
    simp [self, h1, h2]
  · have h1 : sameCo g x = false := by
      rw [Bool.eq_false_iff]; intro e
      have := (sameCo_spec hg).1 e
      exact hxz ⟨this.1, by rw [sameCo_comm]; exact e⟩
    have h2 : sameCo g y = false := by
      rw [Bool.eq_false_iff]; intro e
      have := (sameCo_spec hg).1 e
      exact hyz ⟨this.1, by rw [sameCo_comm]; exact e⟩
    simp [self, h1, h2]
theorem better_spec (g c : Co) : (better g c = g ∨ better g c = c) ∧ ((better g c).is = (g.is || c.is)) ∧ (g.is = true → g.t ≤ (better g c).t) ∧ (c.is = true → c.t ≤ (better g c).t) := by
  unfold better
  split
  · rename_i h
    refine ⟨.inr rfl, by simp [h.1], fun hg => ?_, fun _ => Int.le_refl _⟩
    rcases h.2 with e | e
    · rw [hg] at e; cases e
    · omega
  · rename_i h
    refine ⟨.inl rfl, ?_, fun _ => Int.le_refl _, fun hc => ?_⟩
    · cases hc : c.is
      · simp
      · cases hg : g.is
        · exact absurd ⟨hc, .inl hg⟩ h
        · rfl
    · rcases Int.lt_or_le g.t c.t with e | e
      · exact absurd ⟨hc, .inr e⟩ h
      · exact e
/-- What is voted where no two are the same. -/
theorem last_votes {x y z : Co} (hxy : ¬ (x.is = true ∧ sameCo x y = true)) (hxz : ¬ (x.is = true ∧ sameCo x z = true)) (hyz : ¬ (y.is = true ∧ sameCo y z = true)) :
    (votedC x y z = none ∧ x.is = false ∧ y.is = false ∧ z.is = false) ∨ ∃ g : Co, votedC x y z = some g ∧ g.is = true ∧ (g = x ∨ g = y ∨ g = z) ∧ (x.is = true → x.t ≤ g.t) ∧ (y.is = true → y.t ≤ g.t) ∧ (z.is = true → z.t ≤ g.t) := by
  have l1 : ¬ (x.is = true ∧ [y, z].any (sameCo x) = true) := by
    rintro ⟨h1, h2⟩
    simp at h2
    rcases h2 with h2 | h2
    · exact hxy ⟨h1, h2⟩
    · exact hxz ⟨h1, h2⟩
  have l2 : ¬ (y.is = true ∧ [z].any (sameCo y) = true) := by
    rintro ⟨h1, h2⟩
    exact hyz ⟨h1, by simpa using h2⟩
  obtain ⟨a1, a2, a3, a4⟩ := better_spec noCo x
  obtain ⟨b1, b2, b3, b4⟩ := better_spec (better noCo x) y
  obtain ⟨c1, c2, c3, c4⟩ := better_spec (better (better noCo x) y) z
  have his : (better (better (better noCo x) y) z).is = (x.is || y.is || z.is) := by rw [c2, b2, a2]; rfl
  cases hg : (better (better (better noCo x) y) z).is
  · left
    rw [hg] at his
    have h := his.symm
    simp at h
    exact ⟨votedC_none l1 l2 rfl hg, h.1.1, h.1.2, h.2⟩
  · right
    refine ⟨_, votedC_best l1 l2 rfl hg, hg, ?_, fun hx => ?_, fun hy => ?_, c4⟩
    · rcases c1 with e | e
      · rw [e] at hg ⊢
        rcases b1 with e | e
        · rw [e] at hg ⊢
          rcases a1 with e | e
          · rw [e] at hg; cases hg
          · exact .inl e
        · exact .inr (.inl e)
      · exact .inr (.inr e)
    · have h1 := a4 hx
      have h2 := b3 (by rw [a2, hx]; simp)
      have h3 := c3 (by rw [b2, a2, hx]; simp)
      omega
    · have h2 := b4 hy
      have h3 := c3 (by rw [b2, hy]; simp)
      omega
/-- Was it found among the first? -/
def foundTo (c : Nat → Co) (g : Co) (k : Nat) : Bool := (List.range k).any fun j => (c j).is && sameQ (c j) g
theorem foundTo_succ (c : Nat → Co) (g : Co) (k : Nat) : foundTo c g (k + 1) = (foundTo c g k || ((c k).is && sameQ (c k) g)) := by
  simp [foundTo, List.range_succ, List.any_append]
theorem found_all {x y z g : Co} (hg : g.is = true) (h : g = x ∨ g = y ∨ g = z) {a : Option Addr} {cap : Nat} : foundTo (at3 x y z) ⟨true, a, cap, g.l, g.t⟩ 3 = true := by
  have self : sameQ g ⟨true, a, cap, g.l, g.t⟩ = true := by simp [sameQ, sameL_iff]
  simp only [foundTo, List.any_eq_true, List.mem_range]
  rcases h with rfl | rfl | rfl
  · exact ⟨0, by omega, by simp [at3, hg, self]⟩
  · exact ⟨1, by omega, by simp [at3, hg, self]⟩
  · exact ⟨2, by omega, by simp [at3, hg, self]⟩
end Go.Proofs.Ytihnghnafpgdfac
