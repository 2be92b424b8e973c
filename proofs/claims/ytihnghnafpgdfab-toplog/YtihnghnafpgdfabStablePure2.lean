/-
  THE STABLE SORT, WITHOUT A PROGRAM, 2: the search of symMerge; insertion sort is stable; blocks that are.
-/
import Derived.Test.YtihnghnafpgdfabStablePure
namespace Go.Proofs.Ytihnghnafpgdfab
open Go.Sort
set_option linter.unusedVariables false
set_option linter.unusedSimpArgs false

section
variable {α : Type} [Inhabited α] (lt : α → α → Bool)

/-! ### The searches -/
theorem RisesIn.below (hO : SWO lt) {d : Array α} {a b : Nat} (h : RisesIn lt d a b) {i : Nat} {x : α} (hi : i < b) (hx : lt d[i]! x = true) : ∀ t, a ≤ t → t ≤ i → lt d[t]! x = true := fun t h1 h2 => by
  cases h3 : lt d[t]! x
  · have := hO.ntrans _ _ _ (h t i h1 h2 hi) h3
    rw [hx] at this
    cases this
  · rfl
theorem RisesIn.above (hO : SWO lt) {d : Array α} {a b : Nat} (h : RisesIn lt d a b) {i : Nat} {x : α} (hi : a ≤ i) (hx : lt d[i]! x = false) : ∀ t, i ≤ t → t < b → lt d[t]! x = false := fun t h1 h2 =>
  hO.ntrans _ _ _ (h i t hi h1 h2) hx
theorem RisesIn.below' (hO : SWO lt) {d : Array α} {a b : Nat} (h : RisesIn lt d a b) {i : Nat} {x : α} (hi : i < b) (hx : lt x d[i]! = false) : ∀ t, a ≤ t → t ≤ i → lt x d[t]! = false := fun t h1 h2 =>
  hO.ntrans _ _ _ hx (h t i h1 h2 hi)
theorem RisesIn.above' (hO : SWO lt) {d : Array α} {a b : Nat} (h : RisesIn lt d a b) {i : Nat} {x : α} (hi : a ≤ i) (hx : lt x d[i]! = true) : ∀ t, i ≤ t → t < b → lt x d[t]! = true := fun t h1 h2 => by
  cases h3 : lt x d[t]!
  · have := hO.ntrans _ _ _ h3 (h i t hi h1 h2)
    rw [hx] at this
    cases this
  · rfl
/-- Where the search of symMerge ended: all on the left, and up to the end, is no greater than all else. -/
theorem Merged.found (hO : SWO lt) {d d1 d2 d3 : Array α} {a s m e b mid n s0 r0 : Nat} (hL : RisesIn lt d a m) (hR : RisesIn lt d m b) (ham : a ≤ m) (hmb : m ≤ b) (hmid : mid = (a + b) / 2) (hn : n = mid + m)
    (h0 : (m > mid ∧ s0 = n - b ∧ r0 = mid) ∨ (m ≤ mid ∧ s0 = a ∧ r0 = m)) (hs0 : s0 ≤ s) (hr0 : s ≤ r0) (he : e = n - s)
    (hlo : s = s0 ∨ lt d[n - 1 - (s - 1)]! d[s - 1]! = false) (hhi : s = r0 ∨ lt d[n - 1 - s]! d[s]! = true)
    (hr : Rotated d d1 s m e) (hl : Merged lt d1 d2 a s mid) (hh : Merged lt d2 d3 mid e b) : Merged lt d d3 a m b := by
  refine Merged.join lt (by omega) (by omega) (by omega) (by omega) (by omega) (fun x y h1 h2 h3 h4 => ?_) (fun x y h1 h2 h3 h4 => ?_) hr hl hh
  · rcases hlo with h | h
    · omega
    · rw [show n - 1 - (s - 1) = e by omega] at h
      have k1 := hR.above lt hO (i := e) (x := d[s - 1]!) (by omega) h y h3 h4
      exact hL.below' lt hO (i := s - 1) (x := d[y]!) (by omega) k1 x h1 (by omega)
  · rcases hhi with h | h
    · omega
    · rw [show n - 1 - s = e - 1 by omega] at h
      have k1 := hR.below lt hO (i := e - 1) (x := d[s]!) (by omega) h y h3 (by omega)
      exact hL.above' lt hO (i := s) (x := d[y]!) (by omega) k1 x h1 h2

/-! ### The insertion sort -/
theorem seg_swp {d : Array α} {a b j : Nat} (h1 : a ≤ j) (h2 : j + 1 < b) (h3 : b ≤ d.size) : seg (swp d (j + 1) j) a b = seg d a j ++ (d[j + 1]! :: d[j]! :: seg d (j + 2) b) ∧ seg d a b = seg d a j ++ (d[j]! :: d[j + 1]! :: seg d (j + 2) b) := by
  have hg := swp_get d (i := j + 1) (j := j) (by omega) (by omega)
  refine ⟨?_, ?_⟩
  · rw [← seg_append _ h1 (show j ≤ b by omega), seg_cons _ (show j < b by omega), seg_cons _ (show j + 1 < b by omega)]
    rw [hg, if_pos rfl, hg, if_neg (by omega), if_pos rfl]
    rw [seg_same (d := d) (d' := swp d (j + 1) j) (x := a) (y := j) (fun t h4 h5 => by rw [hg, if_neg (by omega), if_neg (by omega)]), seg_same (d := d) (d' := swp d (j + 1) j) (x := j + 1 + 1) (y := b) (fun t h4 h5 => by rw [hg, if_neg (by omega), if_neg (by omega)])]
  · rw [← seg_append _ h1 (show j ≤ b by omega), seg_cons _ (show j < b by omega), seg_cons _ (show j + 1 < b by omega)]
theorem swp_filter (hO : SWO lt) {d : Array α} {a b j : Nat} (h1 : a ≤ j) (h2 : j + 1 < b) (h3 : b ≤ d.size) (h : lt d[j + 1]! d[j]! = true) (z : α) : (seg (swp d (j + 1) j) a b).filter (eqv lt z) = (seg d a b).filter (eqv lt z) := by
  obtain ⟨e1, e2⟩ := seg_swp (d := d) h1 h2 h3
  rw [e1, e2, List.filter_append, List.filter_append]
  congr 1
  rw [List.filter_cons, List.filter_cons (x := d[j]!), List.filter_cons (x := d[j]!), List.filter_cons (x := d[j + 1]!)]
  cases h5 : eqv lt z d[j + 1]!
  · simp
  · rw [eqv_none lt hO h5 h]
    simp
theorem insInner_filter (hO : SWO lt) {a b : Nat} (z : α) : ∀ (j : Nat) (d : Array α), j < b → b ≤ d.size → (seg (insInner lt a j d) a b).filter (eqv lt z) = (seg d a b).filter (eqv lt z) ∧ (insInner lt a j d).size = d.size
  | 0, d, _, _ => ⟨rfl, rfl⟩
  | j + 1, d, h1, h2 => by
    rw [insInner]
    split
    · rename_i hc
      simp only [Bool.and_eq_true, decide_eq_true_eq] at hc
      obtain ⟨e1, e2⟩ := insInner_filter hO (a := a) (b := b) z j (swp d (j + 1) j) (by omega) (by rw [size_swp]; exact h2)
      exact ⟨by rw [e1, swp_filter lt hO (by omega) h1 h2 hc.2], by rw [e2, size_swp]⟩
    · exact ⟨rfl, rfl⟩
theorem insOuter_filter (hO : SWO lt) {a b : Nat} (z : α) : ∀ (n i : Nat) (d : Array α), b - i ≤ n → b ≤ d.size → (seg (insOuter lt a b i d) a b).filter (eqv lt z) = (seg d a b).filter (eqv lt z)
  | 0, i, d, h1, h2 => by rw [insOuter, if_neg (by omega)]
  | n + 1, i, d, h1, h2 => by
    rw [insOuter]
    split
    · rename_i hc
      obtain ⟨e1, e2⟩ := insInner_filter lt hO (a := a) z i d hc h2
      rw [insOuter_filter hO z n (i + 1) _ (by omega) (by rw [e2]; exact h2), e1]
    · rfl
theorem insertion_stb (hO : SWO lt) (d : Array α) {a b : Nat} (hab : a ≤ b) (hb : b ≤ d.size) : Stb lt (seg d a b) (seg (insertionSort lt d a b) a b) ∧ (insertionSort lt d a b).size = d.size ∧ ∀ t, t < a ∨ b ≤ t → (insertionSort lt d a b)[t]! = d[t]! := by
  obtain ⟨h1, h2⟩ := insertionSort_holds (lt := lt) hO d a b hab hb
  refine ⟨⟨?_, fun z => insOuter_filter lt hO z _ _ d (Nat.le_refl _) hb⟩, h1.1, h1.2.1⟩
  refine RisesIn.list lt fun i j h3 h4 h5 => ?_
  rcases Nat.lt_or_ge i j with h6 | h6
  · exact h2 i j h3 h6 h5
  · have : i = j := by omega
    subst this
    exact hO.irrefl _

/-! ### Blocks -/
/-- d' is d, each block of so many, from a multiple of it on, in its stable order. -/
structure Blocked (d d' : Array α) (s : Nat) : Prop where
  size : d'.size = d.size
  blocks : ∀ q, q * s < d.size → Stb lt (seg d (q * s) (min (q * s + s) d.size)) (seg d' (q * s) (min (q * s + s) d.size))
/-- The blocks ahead of a are so; what is behind is as it was. -/
structure BlockedTo (d d' : Array α) (s q : Nat) : Prop where
  size : d'.size = d.size
  blocks : ∀ p, p < q → p * s < d.size → Stb lt (seg d (p * s) (min (p * s + s) d.size)) (seg d' (p * s) (min (p * s + s) d.size))
  rest : ∀ t, q * s ≤ t → d'[t]! = d[t]!
theorem BlockedTo.zero (d : Array α) (s : Nat) : BlockedTo lt d d s 0 := ⟨rfl, fun p h => absurd h (Nat.not_lt_zero _), fun _ _ => rfl⟩
theorem mul_le_of_lt {p q s : Nat} (h : p < q) : p * s + s ≤ q * s := by
  have := Nat.mul_le_mul_right s (show p + 1 ≤ q from h)
  rwa [Nat.add_mul, Nat.one_mul] at this
/-- One more block: what is laid there is in its stable order. -/
theorem BlockedTo.next {d d1 d2 : Array α} {s q : Nat} (h : BlockedTo lt d d1 s q) (hs : d2.size = d1.size) (hout : ∀ t, t < q * s ∨ min (q * s + s) d.size ≤ t → d2[t]! = d1[t]!)
    (hmid : q * s < d.size → Stb lt (seg d1 (q * s) (min (q * s + s) d.size)) (seg d2 (q * s) (min (q * s + s) d.size))) : BlockedTo lt d d2 s (q + 1) := by
  refine ⟨by rw [hs, h.size], fun p hp hps => ?_, fun t ht => ?_⟩
  · rcases Nat.lt_or_ge p q with h1 | h1
    · have h2 := mul_le_of_lt (s := s) h1
      rw [seg_same (d := d1) (d' := d2) (fun t h3 h4 => hout t (by omega))]
      exact h.blocks p h1 hps
    · have : p = q := by omega
      subst this
      have e := seg_same (d := d) (d' := d1) (x := p * s) (y := min (p * s + s) d.size) (fun t h3 h4 => h.rest t h3)
      rw [← e]
      exact hmid hps
  · rw [Nat.add_mul, Nat.one_mul] at ht
    rw [hout t (by omega), h.rest t (by omega)]
theorem BlockedTo.done {d d' : Array α} {s q : Nat} (h : BlockedTo lt d d' s q) (hq : d.size ≤ q * s) : Blocked lt d d' s :=
  ⟨h.size, fun p hp => h.blocks p (by
    rcases Nat.lt_or_ge p q with h1 | h1
    · exact h1
    · have := Nat.mul_le_mul_right s h1
      omega) hp⟩
theorem Blocked.whole {d d' : Array α} {s : Nat} (h : Blocked lt d d' s) (hs : d.size ≤ s) : Stb lt d.toList d'.toList ∧ d'.size = d.size := by
  refine ⟨?_, h.size⟩
  by_cases h0 : 0 < d.size
  · have := h.blocks 0 (by omega)
    rw [Nat.zero_mul, Nat.zero_add, Nat.min_eq_right hs, seg_all, ← h.size, seg_all] at this
    exact this
  · have e1 : d = #[] := Array.eq_empty_of_size_eq_zero (by omega)
    have e2 : d' = #[] := Array.eq_empty_of_size_eq_zero (by rw [h.size]; omega)
    rw [e1, e2]
    exact ⟨List.Pairwise.nil, fun z => rfl⟩
/-- Blocks of twice as many: those ahead of a are merged of two, or are one alone. -/
structure Doubled (d d1 d2 : Array α) (s q : Nat) : Prop where
  size : d2.size = d.size
  blocks : ∀ p, p < q → p * (2 * s) < d.size → Stb lt (seg d (p * (2 * s)) (min (p * (2 * s) + 2 * s) d.size)) (seg d2 (p * (2 * s)) (min (p * (2 * s) + 2 * s) d.size))
  rest : ∀ t, q * (2 * s) ≤ t → d2[t]! = d1[t]!
theorem Doubled.zero {d d1 : Array α} {s : Nat} (h : Blocked lt d d1 s) : Doubled lt d d1 d1 s 0 := ⟨h.size, fun p h => absurd h (Nat.not_lt_zero _), fun _ _ => rfl⟩
theorem Blocked.at {d d1 : Array α} {s : Nat} (h : Blocked lt d d1 s) (q : Nat) (hq : q * (2 * s) < d.size) : Stb lt (seg d (q * (2 * s)) (min (q * (2 * s) + s) d.size)) (seg d1 (q * (2 * s)) (min (q * (2 * s) + s) d.size)) := by
  have := h.blocks (2 * q) (by rw [show 2 * q * s = q * (2 * s) by rw [Nat.mul_comm 2 q, Nat.mul_assoc]]; exact hq)
  rw [show 2 * q * s = q * (2 * s) by rw [Nat.mul_comm 2 q, Nat.mul_assoc]] at this
  exact this
theorem Blocked.at2 {d d1 : Array α} {s : Nat} (h : Blocked lt d d1 s) (q : Nat) (hq : q * (2 * s) + s < d.size) : Stb lt (seg d (q * (2 * s) + s) (min (q * (2 * s) + 2 * s) d.size)) (seg d1 (q * (2 * s) + s) (min (q * (2 * s) + 2 * s) d.size)) := by
  have e : (2 * q + 1) * s = q * (2 * s) + s := by rw [Nat.add_mul, Nat.one_mul, Nat.mul_comm 2 q, Nat.mul_assoc]
  have := h.blocks (2 * q + 1) (by rw [e]; exact hq)
  rw [e, show q * (2 * s) + s + s = q * (2 * s) + 2 * s by omega] at this
  exact this
theorem Doubled.rises {d d1 d2 : Array α} (hO : SWO lt) {s q : Nat} (h : Doubled lt d d1 d2 s q) (hb : Blocked lt d d1 s) (hq : q * (2 * s) + s < d.size) :
    RisesIn lt d2 (q * (2 * s)) (q * (2 * s) + s) ∧ RisesIn lt d2 (q * (2 * s) + s) (min (q * (2 * s) + 2 * s) d.size) := by
  have h1 := (hb.at lt q (by omega)).rises
  have h2 := (hb.at2 lt q hq).rises
  rw [Nat.min_eq_left (by omega)] at h1
  rw [← seg_same (d := d1) (d' := d2) (fun t h3 h4 => h.rest t h3)] at h1
  rw [← seg_same (d := d1) (d' := d2) (fun t h3 h4 => h.rest t (by omega))] at h2
  exact ⟨RisesIn.of_list lt hO h1, RisesIn.of_list lt hO h2⟩
theorem Doubled.next {d d1 d2 d3 : Array α} (hO : SWO lt) {s q : Nat} (h : Doubled lt d d1 d2 s q) (hb : Blocked lt d d1 s) (hq : q * (2 * s) + s < d.size) (hm : Merged lt d2 d3 (q * (2 * s)) (q * (2 * s) + s) (min (q * (2 * s) + 2 * s) d.size)) : Doubled lt d d1 d3 s (q + 1) := by
  refine ⟨by rw [hm.size, h.size], fun p hp hps => ?_, fun t ht => ?_⟩
  · rcases Nat.lt_or_ge p q with h1 | h1
    · have h2 := mul_le_of_lt (s := 2 * s) h1
      rw [seg_same (d := d2) (d' := d3) (fun t h3 h4 => hm.out t (by omega))]
      exact h.blocks p h1 hps
    · have : p = q := by omega
      subst this
      have a1 := hb.at lt p hps
      have a2 := hb.at2 lt p hq
      rw [Nat.min_eq_left (by omega)] at a1
      rw [hm.mid, seg_same (d := d1) (d' := d2) (x := p * (2 * s)) (fun t h3 h4 => h.rest t h3), seg_same (d := d1) (d' := d2) (x := p * (2 * s) + s) (fun t h3 h4 => h.rest t (by omega)), ← seg_append d (show p * (2 * s) ≤ p * (2 * s) + s by omega) (show p * (2 * s) + s ≤ min (p * (2 * s) + 2 * s) d.size by omega)]
      exact a1.mg lt hO a2
  · rw [Nat.add_mul, Nat.one_mul] at ht
    rw [hm.out t (by omega), h.rest t (by omega)]
/-- The last block stands alone. -/
theorem Doubled.alone {d d1 d2 : Array α} {s q : Nat} (h : Doubled lt d d1 d2 s q) (hb : Blocked lt d d1 s) (hq : d.size ≤ q * (2 * s) + s) : Blocked lt d d2 (2 * s) := by
  refine ⟨h.size, fun p hp => ?_⟩
  rcases Nat.lt_or_ge p q with h1 | h1
  · exact h.blocks p h1 hp
  · have h2 := Nat.mul_le_mul_right (2 * s) h1
    have : p = q := by
      rcases Nat.lt_or_ge q p with h3 | h3
      · have := mul_le_of_lt (s := 2 * s) h3
        omega
      · omega
    subst this
    have a1 := hb.at lt p hp
    rw [Nat.min_eq_right (by omega)] at a1 ⊢
    rw [seg_same (d := d1) (d' := d2) (fun t h3 h4 => h.rest t h3)]
    exact a1
theorem Doubled.done {d d1 d2 : Array α} {s q : Nat} (h : Doubled lt d d1 d2 s q) (hq : d.size ≤ q * (2 * s)) : Blocked lt d d2 (2 * s) :=
  ⟨h.size, fun p hp => h.blocks p (by
    rcases Nat.lt_or_ge p q with h1 | h1
    · exact h1
    · have := Nat.mul_le_mul_right (2 * s) h1
      omega) hp⟩
end
end Go.Proofs.Ytihnghnafpgdfab
