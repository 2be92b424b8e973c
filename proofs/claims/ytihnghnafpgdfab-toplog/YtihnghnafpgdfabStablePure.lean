/-
  THE STABLE SORT, WITHOUT A PROGRAM: what swapRange, rotate and symMerge make of a row; that this is the merge of two sorted pieces; what a stable order is.
-/
import Derived.Sort.LotA
import Derived.Sort.Statements
namespace Go.Proofs.Ytihnghnafpgdfab
open Go.Sort
set_option linter.unusedVariables false
set_option linter.unusedSimpArgs false

section
variable {α : Type} [Inhabited α]

theorem rowExt {a b : Array α} (hs : a.size = b.size) (h : ∀ t, t < a.size → a[t]! = b[t]!) : a = b :=
  Array.ext hs fun t h1 h2 => by have := h t h1; rwa [getElem!_pos a t h1, getElem!_pos b t h2] at this

/-- The piece from x on, up to y. -/
def seg (d : Array α) (x y : Nat) : List α := (List.range (y - x)).map fun t => d[x + t]!
theorem seg_length (d : Array α) (x y : Nat) : (seg d x y).length = y - x := by simp [seg]
theorem seg_get (d : Array α) (x y i : Nat) (h : i < y - x) : (seg d x y)[i]? = some d[x + i]! := by
  simp [seg, h]
theorem seg_empty (d : Array α) (x : Nat) : seg d x x = [] := by simp [seg]
theorem seg_one (d : Array α) (x : Nat) : seg d x (x + 1) = [d[x]!] := by simp [seg]
theorem seg_cons (d : Array α) {x y : Nat} (h : x < y) : seg d x y = d[x]! :: seg d (x + 1) y := by
  refine List.ext_getElem? fun i => ?_
  rcases i with _ | i
  · rw [seg_get d x y 0 (by omega)]; rfl
  · rw [List.getElem?_cons_succ]
    by_cases hi : i + 1 < y - x
    · rw [seg_get d x y _ hi, seg_get d (x + 1) y i (by omega), show x + 1 + i = x + (i + 1) by omega]
    · rw [List.getElem?_eq_none (by rw [seg_length]; omega), List.getElem?_eq_none (by rw [seg_length]; omega)]
theorem seg_append (d : Array α) {x y z : Nat} (h1 : x ≤ y) (h2 : y ≤ z) : seg d x y ++ seg d y z = seg d x z := by
  refine List.ext_getElem? fun i => ?_
  by_cases hi : i < y - x
  · rw [List.getElem?_append_left (by rw [seg_length]; exact hi), seg_get _ _ _ _ hi, seg_get _ _ _ _ (by omega)]
  · rw [List.getElem?_append_right (by rw [seg_length]; omega), seg_length]
    by_cases hi2 : i < z - x
    · rw [seg_get _ _ _ _ (by omega), seg_get _ _ _ _ hi2, show y + (i - (y - x)) = x + i by omega]
    · rw [List.getElem?_eq_none (by rw [seg_length]; omega), List.getElem?_eq_none (by rw [seg_length]; omega)]
/-- A piece elsewhere, of another row, that has the same. -/
theorem seg_shift {d d' : Array α} {x y x' : Nat} (h : ∀ t, x ≤ t → t < y → d'[x' + (t - x)]! = d[t]!) : seg d' x' (x' + (y - x)) = seg d x y := by
  refine List.ext_getElem? fun i => ?_
  by_cases hi : i < y - x
  · rw [seg_get _ _ _ _ (by omega), seg_get _ _ _ _ hi]
    have := h (x + i) (by omega) (by omega)
    rw [show x + i - x = i by omega] at this
    rw [this]
  · rw [List.getElem?_eq_none (by rw [seg_length]; omega), List.getElem?_eq_none (by rw [seg_length]; omega)]
theorem seg_same {d d' : Array α} {x y : Nat} (h : ∀ t, x ≤ t → t < y → d'[t]! = d[t]!) : seg d' x y = seg d x y := by
  refine List.ext_getElem? fun i => ?_
  by_cases hi : i < y - x
  · rw [seg_get _ _ _ _ hi, seg_get _ _ _ _ hi, h (x + i) (by omega) (by omega)]
  · rw [List.getElem?_eq_none (by rw [seg_length]; omega), List.getElem?_eq_none (by rw [seg_length]; omega)]
theorem seg_all (d : Array α) : seg d 0 d.size = d.toList := by
  refine List.ext_getElem? fun i => ?_
  by_cases hi : i < d.size
  · rw [seg_get _ _ _ _ (by omega), Nat.zero_add, getElem!_pos d i hi]
    simp [hi]
  · rw [List.getElem?_eq_none (by rw [seg_length]; omega), List.getElem?_eq_none (by simp; omega)]
theorem seg_mem {d : Array α} {x y : Nat} {v : α} (h : v ∈ seg d x y) : ∃ t, x ≤ t ∧ t < y ∧ d[t]! = v := by
  simp only [seg, List.mem_map, List.mem_range] at h
  obtain ⟨t, ht, rfl⟩ := h
  exact ⟨x + t, by omega, by omega, rfl⟩

/-! ### The exchange of two pieces, and the rotation -/
/-- d' is d with the n places from a on and those from b on exchanged. -/
structure Swapped (d d' : Array α) (a b n : Nat) : Prop where
  size : d'.size = d.size
  fst : ∀ t, t < n → d'[a + t]! = d[b + t]!
  snd : ∀ t, t < n → d'[b + t]! = d[a + t]!
  out : ∀ t, ¬ (a ≤ t ∧ t < a + n) → ¬ (b ≤ t ∧ t < b + n) → d'[t]! = d[t]!
theorem Swapped.zero (d : Array α) (a b : Nat) : Swapped d d a b 0 := ⟨rfl, fun t h => absurd h (Nat.not_lt_zero _), fun t h => absurd h (Nat.not_lt_zero _), fun _ _ _ => rfl⟩
theorem Swapped.next {d d' : Array α} {a b n : Nat} (h : Swapped d d' a b n) (hab : a + n < b) (hb : b + n < d.size) : Swapped d (swp d' (a + n) (b + n)) a b (n + 1) := by
  have hg := swp_get d' (i := a + n) (j := b + n) (by rw [h.size]; omega) (by rw [h.size]; omega)
  refine ⟨by rw [size_swp]; exact h.size, fun t ht => ?_, fun t ht => ?_, fun t h1 h2 => ?_⟩
  · rw [hg]
    by_cases e : t = n
    · subst e
      rw [if_neg (by omega), if_pos rfl]
      exact h.out _ (by omega) (by omega)
    · rw [if_neg (by omega), if_neg (by omega)]
      exact h.fst t (by omega)
  · rw [hg]
    by_cases e : t = n
    · subst e
      rw [if_pos rfl]
      exact h.out _ (by omega) (by omega)
    · rw [if_neg (by omega), if_neg (by omega)]
      exact h.snd t (by omega)
  · rw [hg, if_neg (by omega), if_neg (by omega)]
    exact h.out t (by omega) (by omega)
/-- d' is d with the pieces a..m and m..b in the other order. -/
structure Rotated (d d' : Array α) (a m b : Nat) : Prop where
  size : d'.size = d.size
  fst : ∀ t, t < b - m → d'[a + t]! = d[m + t]!
  snd : ∀ t, t < m - a → d'[a + (b - m) + t]! = d[a + t]!
  out : ∀ t, t < a ∨ b ≤ t → d'[t]! = d[t]!
theorem Rotated.same {d d' : Array α} {a m b : Nat} (h : Swapped d d' a m (m - a)) (he : b - m = m - a) (h1 : a ≤ m) (h2 : m ≤ b) : Rotated d d' a m b := by
  refine ⟨h.size, fun t ht => h.fst t (by omega), fun t ht => ?_, fun t ht => h.out t (by omega) (by omega)⟩
  rw [show a + (b - m) + t = m + t by omega]
  exact h.snd t ht
/-- The left one is the longer one: j from its beginning are exchanged with the right one; what is left is rotated. -/
theorem Rotated.left {d d' e : Array α} {m i j : Nat} (hi : i ≤ m) (hij : j < i) (h : Swapped d d' (m - i) m j) (r : Rotated d' e (m - i + j) m (m + j)) : Rotated d e (m - i) m (m + j) := by
  refine ⟨by rw [r.size, h.size], fun t ht => ?_, fun t ht => ?_, fun t ht => ?_⟩
  · rw [r.out (m - i + t) (by omega), h.fst t (by omega)]
  · by_cases hc : t < j
    · have := r.snd (i - j - j + t)
      by_cases h2 : i - j < j
      · -- the piece that is rotated last: u2 is shorter
        have e1 := r.fst t (by omega)
        rw [show m - i + (m + j - m) + t = m - i + j + t by omega, e1, h.snd t hc]
      · have e1 := r.fst t (by omega)
        rw [show m - i + (m + j - m) + t = m - i + j + t by omega, e1, h.snd t hc]
    · have e1 := r.snd (t - j) (by omega)
      rw [show m - i + (m + j - m) + t = m - i + j + (m + j - m) + (t - j) by omega, e1, h.out (m - i + j + (t - j)) (by omega) (by omega), show m - i + j + (t - j) = m - i + t by omega]
  · rw [r.out t (by omega), h.out t (by omega) (by omega)]
/-- The right one is the longer one. -/
theorem Rotated.right {d d' e : Array α} {m i j : Nat} (hi : i ≤ m) (hij : i < j) (h : Swapped d d' (m - i) (m + j - i) i) (r : Rotated d' e (m - i) m (m + (j - i))) : Rotated d e (m - i) m (m + j) := by
  refine ⟨by rw [r.size, h.size], fun t ht => ?_, fun t ht => ?_, fun t ht => ?_⟩
  · by_cases hc : t < j - i
    · have e1 := r.fst t (by omega)
      rw [e1]
      exact h.out _ (by omega) (by omega)
    · have e1 := r.snd (t - (j - i)) (by omega)
      rw [show m - i + (m + (j - i) - m) + (t - (j - i)) = m - i + t by omega] at e1
      rw [e1, h.fst _ (by omega), show m + j - i + (t - (j - i)) = m + t by omega]
  · rw [r.out _ (by omega), show m - i + (m + j - m) + t = m + j - i + t by omega, h.snd t (by omega)]
  · rw [r.out t (by omega), h.out t (by omega) (by omega)]
theorem Rotated.segs {d d' : Array α} {a m b : Nat} (h : Rotated d d' a m b) (h1 : a ≤ m) (h2 : m ≤ b) : seg d' a (a + (b - m)) = seg d m b ∧ seg d' (a + (b - m)) b = seg d a m := by
  refine ⟨seg_shift fun t h3 h4 => ?_, ?_⟩
  · rw [h.fst (t - m) (by omega), show m + (t - m) = t by omega]
  · have := seg_shift (d := d) (d' := d') (x := a) (y := m) (x' := a + (b - m)) fun t h3 h4 => ?_
    · rw [show a + (b - m) + (m - a) = b by omega] at this
      exact this
    · rw [h.snd (t - a) (by omega), show a + (t - a) = t by omega]

end

/-! ### Merging -/
section
variable {α : Type} (lt : α → α → Bool)
/-- Where neither is less the left one comes first. -/
def mg (l r : List α) : List α := l.merge r (fun x y => !lt y x)
theorem mg_nil_left (r : List α) : mg lt [] r = r := by simp [mg]
theorem mg_nil_right (l : List α) : mg lt l [] = l := by simp [mg]
theorem mg_cons (x y : α) (l r : List α) : mg lt (x :: l) (y :: r) = if lt y x = true then y :: mg lt (x :: l) r else x :: mg lt l (y :: r) := by
  unfold mg
  rw [List.cons_merge_cons]
  cases lt y x <;> simp
theorem mg_split : ∀ (L1 R1 L2 R2 : List α), (∀ x ∈ L2, ∀ y ∈ R1, lt y x = true) → (∀ x ∈ L1, ∀ y ∈ R2, lt y x = false) → mg lt (L1 ++ L2) (R1 ++ R2) = mg lt L1 R1 ++ mg lt L2 R2
  | [], [], L2, R2, _, _ => by simp [mg_nil_left]
  | [], y :: R1, L2, R2, h1, h2 => by
    have ih := mg_split [] R1 L2 R2 (fun x hx y' hy => h1 x hx y' (List.mem_cons_of_mem _ hy)) h2
    rw [mg_nil_left] at ih ⊢
    rw [List.nil_append] at ih ⊢
    cases L2 with
    | nil => rw [mg_nil_left, mg_nil_left]
    | cons x L2 =>
      rw [List.cons_append, mg_cons, if_pos (h1 x (by simp) y (by simp)), ih]
      rfl
  | x :: L1, [], L2, R2, h1, h2 => by
    have ih := mg_split L1 [] L2 R2 h1 (fun x' hx y hy => h2 x' (List.mem_cons_of_mem _ hx) y hy)
    rw [mg_nil_right] at ih ⊢
    rw [List.nil_append] at ih ⊢
    cases R2 with
    | nil => rw [mg_nil_right, mg_nil_right]
    | cons y R2 =>
      rw [List.cons_append, mg_cons, if_neg (by rw [h2 x (by simp) y (by simp)]; simp), ih]
      rfl
  | x :: L1, y :: R1, L2, R2, h1, h2 => by
    simp only [List.cons_append]
    rw [mg_cons, mg_cons]
    by_cases h : lt y x = true
    · rw [if_pos h, if_pos h]
      have ih := mg_split (x :: L1) R1 L2 R2 (fun x' hx y' hy => h1 x' hx y' (List.mem_cons_of_mem _ hy)) h2
      rw [List.cons_append] at ih
      rw [ih, List.cons_append]
    · rw [if_neg h, if_neg h]
      have ih := mg_split L1 (y :: R1) L2 R2 h1 (fun x' hx y hy => h2 x' (List.mem_cons_of_mem _ hx) y hy)
      rw [List.cons_append] at ih
      rw [ih, List.cons_append]
termination_by L1 R1 => L1.length + R1.length

/-- No later one is less. -/
def Rises (l : List α) : Prop := l.Pairwise fun x y => lt y x = false
end

section
variable {α : Type} [Inhabited α] (lt : α → α → Bool)
/-- In a piece of a row. -/
def RisesIn (d : Array α) (a b : Nat) : Prop := ∀ i j, a ≤ i → i ≤ j → j < b → lt d[j]! d[i]! = false
theorem RisesIn.sub {d : Array α} {a b a' b' : Nat} (h : RisesIn lt d a b) (h1 : a ≤ a') (h2 : b' ≤ b) : RisesIn lt d a' b' := fun i j h3 h4 h5 => h i j (by omega) h4 (by omega)
theorem RisesIn.shift {d d' : Array α} {a b x : Nat} (h : RisesIn lt d a b) (he : ∀ t, a ≤ t → t < b → d'[x + (t - a)]! = d[t]!) : RisesIn lt d' x (x + (b - a)) := fun i j h3 h4 h5 => by
  have e1 := he (a + (i - x)) (by omega) (by omega)
  have e2 := he (a + (j - x)) (by omega) (by omega)
  rw [show x + (a + (i - x) - a) = i by omega] at e1
  rw [show x + (a + (j - x) - a) = j by omega] at e2
  rw [e1, e2]
  exact h _ _ (by omega) (by omega) (by omega)
theorem RisesIn.list {d : Array α} {a b : Nat} (h : RisesIn lt d a b) : Rises lt (seg d a b) := by
  unfold Rises seg
  rw [List.pairwise_map]
  refine List.Pairwise.imp_of_mem (R := fun i j => i < j) (fun {i j} hi hj hij => ?_) List.pairwise_lt_range
  simp only [List.mem_range] at hi hj
  exact h _ _ (by omega) (by omega) (by omega)
theorem RisesIn.of_list (hO : SWO lt) {d : Array α} {a b : Nat} (h : Rises lt (seg d a b)) : RisesIn lt d a b := fun i j h1 h2 h3 => by
  rcases Nat.lt_or_ge i j with hij | hij
  · unfold Rises at h
    rw [List.pairwise_iff_getElem] at h
    have h4 := h (i - a) (j - a) (by rw [seg_length]; omega) (by rw [seg_length]; omega) (by omega)
    have e1 := seg_get d a b (i - a) (by omega)
    have e2 := seg_get d a b (j - a) (by omega)
    rw [List.getElem?_eq_getElem (by rw [seg_length]; omega)] at e1 e2
    simp only [Option.some.injEq] at e1 e2
    rw [e1, e2, show a + (i - a) = i by omega, show a + (j - a) = j by omega] at h4
    exact h4
  · have : i = j := by omega
    subst this
    exact hO.irrefl _

/-- d' is d, the pieces a..m and m..b merged. -/
structure Merged (d d' : Array α) (a m b : Nat) : Prop where
  size : d'.size = d.size
  out : ∀ t, t < a ∨ b ≤ t → d'[t]! = d[t]!
  mid : seg d' a b = mg lt (seg d a m) (seg d m b)

/-- One on the left: it comes ahead of the first that isn't less. -/
theorem Merged.one_left {d d' : Array α} {a b i : Nat} (hi : a + 1 ≤ i) (hb : i ≤ b) (hlo : ∀ t, a + 1 ≤ t → t < i → lt d[t]! d[a]! = true) (hhi : ∀ t, i ≤ t → t < b → lt d[t]! d[a]! = false)
    (hs : d'.size = d.size) (h1 : ∀ t, a ≤ t → t < i - 1 → d'[t]! = d[t + 1]!) (h2 : d'[i - 1]! = d[a]!) (h3 : ∀ t, t < a ∨ i ≤ t → d'[t]! = d[t]!) : Merged lt d d' a (a + 1) b := by
  refine ⟨hs, fun t ht => h3 t (by omega), ?_⟩
  have e1 : seg d' a b = seg d' a (i - 1) ++ (seg d' (i - 1) i ++ seg d' i b) := by
    rw [seg_append d' (by omega) hb, seg_append d' (by omega) (by omega)]
  have e2 : seg d' a (i - 1) = seg d (a + 1) i := by
    have := seg_shift (d := d) (d' := d') (x := a + 1) (y := i) (x' := a) fun t h4 h5 => by
      rw [h1 _ (by omega) (by omega), show a + (t - (a + 1)) + 1 = t by omega]
    rw [show a + (i - (a + 1)) = i - 1 by omega] at this
    exact this
  have e3 : seg d' (i - 1) i = [d[a]!] := by
    have := seg_one d' (i - 1)
    rw [show i - 1 + 1 = i by omega] at this
    rw [this, h2]
  have e4 : seg d' i b = seg d i b := seg_same fun t h4 h5 => h3 t (by omega)
  rw [e1, e2, e3, e4, seg_one, ← seg_append d hi hb]
  have s1 := mg_split lt [] (seg d (a + 1) i) [d[a]!] (seg d i b) (fun x hx y hy => by
    obtain ⟨t, h4, h5, rfl⟩ := seg_mem hy
    rw [List.mem_singleton.1 hx]
    exact hlo t h4 h5) (fun x hx => absurd hx (by simp))
  rw [List.nil_append, mg_nil_left] at s1
  rw [s1]
  have s2 := mg_split lt [d[a]!] [] [] (seg d i b) (fun x hx => absurd hx (by simp)) (fun x hx y hy => by
    obtain ⟨t, h4, h5, rfl⟩ := seg_mem hy
    rw [List.mem_singleton.1 hx]
    exact hhi t h4 h5)
  rw [List.append_nil, List.nil_append, mg_nil_left, mg_nil_right] at s2
  rw [s2]
/-- One on the right: it comes ahead of the first that it is less than. -/
theorem Merged.one_right {d d' : Array α} {a m i : Nat} (hi : a ≤ i) (hm : i ≤ m) (hlo : ∀ t, a ≤ t → t < i → lt d[m]! d[t]! = false) (hhi : ∀ t, i ≤ t → t < m → lt d[m]! d[t]! = true)
    (hs : d'.size = d.size) (h1 : ∀ t, i ≤ t → t < m → d'[t + 1]! = d[t]!) (h2 : d'[i]! = d[m]!) (h3 : ∀ t, t < i ∨ m + 1 ≤ t → d'[t]! = d[t]!) : Merged lt d d' a m (m + 1) := by
  refine ⟨hs, fun t ht => h3 t (by omega), ?_⟩
  have e1 : seg d' a (m + 1) = seg d' a i ++ (seg d' i (i + 1) ++ seg d' (i + 1) (m + 1)) := by
    rw [seg_append d' (by omega) (by omega), seg_append d' hi (by omega)]
  have e2 : seg d' a i = seg d a i := seg_same fun t h4 h5 => h3 t (by omega)
  have e4 : seg d' (i + 1) (m + 1) = seg d i m := by
    have := seg_shift (d := d) (d' := d') (x := i) (y := m) (x' := i + 1) fun t h4 h5 => by
      rw [show i + 1 + (t - i) = t + 1 by omega, h1 t h4 h5]
    rw [show i + 1 + (m - i) = m + 1 by omega] at this
    exact this
  rw [e1, e2, seg_one, h2, e4, seg_one, ← seg_append d hi hm]
  have s1 := mg_split lt (seg d a i) [] (seg d i m) [d[m]!] (fun x hx y hy => absurd hy (by simp)) (fun x hx y hy => by
    obtain ⟨t, h4, h5, rfl⟩ := seg_mem hx
    rw [List.mem_singleton.1 hy]
    exact hlo t h4 h5)
  rw [List.nil_append, mg_nil_right] at s1
  rw [s1]
  have s2 := mg_split lt [] [d[m]!] (seg d i m) [] (fun x hx y hy => by
    obtain ⟨t, h4, h5, rfl⟩ := seg_mem hx
    rw [List.mem_singleton.1 hy]
    exact hhi t h4 h5) (fun x hx => absurd hx (by simp))
  rw [List.append_nil, List.nil_append, mg_nil_left, mg_nil_right] at s2
  rw [s2]
theorem Merged.skip_left {d : Array α} {a b : Nat} : Merged lt d d a a b := ⟨rfl, fun _ _ => rfl, by rw [seg_empty, mg_nil_left]⟩
theorem Merged.skip_right {d : Array α} {a b : Nat} : Merged lt d d a b b := ⟨rfl, fun _ _ => rfl, by rw [seg_empty, mg_nil_right]⟩
theorem Rotated.skip_left {d : Array α} {a b : Nat} : Rotated d d a a b := ⟨rfl, fun _ _ => rfl, fun t h => by omega, fun _ _ => rfl⟩
theorem Rotated.skip_right {d : Array α} {a b : Nat} : Rotated d d a b b := ⟨rfl, fun t h => by omega, fun t h => by rw [Nat.sub_self, Nat.add_zero], fun _ _ => rfl⟩

/-- What is left of the merge behind the rotation is merged on both sides of its middle. -/
theorem Merged.join {d d1 d2 d3 : Array α} {a s m e b mid : Nat} (h1 : a ≤ s) (h2 : s ≤ m) (h3 : m ≤ e) (h4 : e ≤ b) (hmid : mid = s + (e - m))
    (hlo : ∀ x y, a ≤ x → x < s → e ≤ y → y < b → lt d[y]! d[x]! = false) (hhi : ∀ x y, s ≤ x → x < m → m ≤ y → y < e → lt d[y]! d[x]! = true)
    (hr : Rotated d d1 s m e) (hl : Merged lt d1 d2 a s mid) (hh : Merged lt d2 d3 mid e b) : Merged lt d d3 a m b := by
  refine ⟨by rw [hh.size, hl.size, hr.size], fun t ht => by rw [hh.out t (by omega), hl.out t (by omega), hr.out t (by omega)], ?_⟩
  obtain ⟨r1, r2⟩ := hr.segs h2 h3
  rw [← hmid] at r1 r2
  have e1 : seg d3 a mid = seg d2 a mid := seg_same fun t h5 h6 => hh.out t (by omega)
  have e2 : seg d2 mid e = seg d1 mid e := seg_same fun t h5 h6 => hl.out t (by omega)
  have e3 : seg d2 e b = seg d1 e b := seg_same fun t h5 h6 => hl.out t (by omega)
  have e4 : seg d1 a s = seg d a s := seg_same fun t h5 h6 => hr.out t (by omega)
  have e5 : seg d1 e b = seg d e b := seg_same fun t h5 h6 => hr.out t (by omega)
  rw [← seg_append d3 (show a ≤ mid by omega) (show mid ≤ b by omega), e1, hl.mid, hh.mid, e2, e3, e4, e5, r1, r2, ← seg_append d h1 h2, ← seg_append d h3 h4]
  refine (mg_split lt _ _ _ _ (fun x hx y hy => ?_) (fun x hx y hy => ?_)).symm
  · obtain ⟨i, h5, h6, rfl⟩ := seg_mem hx
    obtain ⟨j, h7, h8, rfl⟩ := seg_mem hy
    exact hhi i j h5 h6 h7 h8
  · obtain ⟨i, h5, h6, rfl⟩ := seg_mem hx
    obtain ⟨j, h7, h8, rfl⟩ := seg_mem hy
    exact hlo i j h5 h6 h7 h8

end

/-! ### What is stable -/
section
variable {α : Type} (lt : α → α → Bool)
/-- Neither is less. -/
def eqv (z x : α) : Bool := !lt x z && !lt z x
/-- l' is l, risen, and those that are neither less nor greater than each other are in the order in which they were. -/
structure Stb (l l' : List α) : Prop where
  rises : Rises lt l'
  same : ∀ z, l'.filter (eqv lt z) = l.filter (eqv lt z)
theorem Rises.mg (hO : SWO lt) : ∀ {l r : List α}, Rises lt l → Rises lt r → Rises lt (mg lt l r)
  | [], r, _, hr => by rw [mg_nil_left]; exact hr
  | x :: l, [], hl, _ => by rw [mg_nil_right]; exact hl
  | x :: l, y :: r, hl, hr => by
    have hl' := List.pairwise_cons.1 hl
    have hr' := List.pairwise_cons.1 hr
    have hmem : ∀ {l r : List α} {z : α}, z ∈ Go.Proofs.Ytihnghnafpgdfab.mg lt l r → z ∈ l ∨ z ∈ r := fun {l r z} h => by
      unfold Go.Proofs.Ytihnghnafpgdfab.mg at h
      exact List.mem_merge.1 h
    rw [mg_cons]
    by_cases h : lt y x = true
    · rw [if_pos h]
      refine List.pairwise_cons.2 ⟨fun z hz => ?_, Rises.mg hO hl hr'.2⟩
      rcases hmem hz with h1 | h1
      · have h2 : lt z x = false := by
          rcases List.mem_cons.1 h1 with rfl | h3
          · exact hO.irrefl _
          · exact hl'.1 z h3
        cases h3 : lt z y
        · rfl
        · have := hO.trans _ _ _ h3 h
          rw [h2] at this
          cases this
      · exact hr'.1 z h1
    · rw [if_neg h]
      refine List.pairwise_cons.2 ⟨fun z hz => ?_, Rises.mg hO hl'.2 hr⟩
      rcases hmem hz with h1 | h1
      · exact hl'.1 z h1
      · have h2 : lt y x = false := by simpa using h
        rcases List.mem_cons.1 h1 with rfl | h3
        · exact h2
        · exact hO.ntrans _ _ _ (hr'.1 z h3) h2
termination_by l r => l.length + r.length
theorem eqv_none (hO : SWO lt) {z y x : α} (hy : eqv lt z y = true) (hx : lt y x = true) : eqv lt z x = false := by
  simp only [eqv, Bool.and_eq_true, Bool.not_eq_true'] at hy
  cases h : eqv lt z x
  · rfl
  · simp only [eqv, Bool.and_eq_true, Bool.not_eq_true'] at h
    have := hO.ntrans _ _ _ hy.1 h.2
    rw [hx] at this
    cases this
theorem mg_filter (hO : SWO lt) (z : α) : ∀ {l r : List α}, Rises lt l → (mg lt l r).filter (eqv lt z) = l.filter (eqv lt z) ++ r.filter (eqv lt z)
  | [], r, _ => by rw [mg_nil_left]; rfl
  | x :: l, [], _ => by rw [mg_nil_right]; simp
  | x :: l, y :: r, hl => by
    have hl' := List.pairwise_cons.1 hl
    rw [mg_cons]
    by_cases h : lt y x = true
    · rw [if_pos h]
      have ih := mg_filter hO z (l := x :: l) (r := r) hl
      rw [List.filter_cons, ih]
      by_cases hy : eqv lt z y = true
      · have hn : (x :: l).filter (eqv lt z) = [] := by
          rw [List.filter_eq_nil_iff]
          intro v hv
          have h1 : lt y v = true := by
            rcases List.mem_cons.1 hv with rfl | h3
            · exact h
            · cases h4 : lt y v
              · have := hO.ntrans _ _ _ h4 (hl'.1 v h3)
                rw [h] at this
                cases this
              · rfl
          rw [eqv_none lt hO hy h1]
          simp
        rw [if_pos hy, hn, List.nil_append, List.nil_append, List.filter_cons, if_pos hy]
      · rw [if_neg hy, List.filter_cons (x := y), if_neg hy]
    · rw [if_neg h, List.filter_cons, mg_filter hO z hl'.2, List.filter_cons (x := x) (xs := l)]
      split <;> rfl
termination_by l r => l.length + r.length
theorem Stb.mg (hO : SWO lt) {l l' r r' : List α} (h1 : Stb lt l l') (h2 : Stb lt r r') : Stb lt (l ++ r) (mg lt l' r') :=
  ⟨Rises.mg lt hO h1.rises h2.rises, fun z => by rw [mg_filter lt hO z h1.rises, h1.same z, h2.same z, List.filter_append]⟩
end
end Go.Proofs.Ytihnghnafpgdfab
