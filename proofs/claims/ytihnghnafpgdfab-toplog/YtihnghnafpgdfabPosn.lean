/-
  WHERE A NAME'S FILE IS, OR WOULD BE PUT; what is put and dropped: plain lists. No program is named here.
-/
import Derived.Test.YtihnghnafpgdfabOrder
namespace Go.Proofs.Ytihnghnafpgdfab
open Go.RowKit
set_option linter.unusedVariables false
set_option linter.unusedSimpArgs false

/-- Where a name's file is, or would be put. -/
def posF : List Fi → ByteArray → Nat
  | [], _ => 0
  | f :: r, name => if ltB f.n name = true then posF r name + 1 else 0
def hasF (l : List Fi) (name : ByteArray) : Bool := match l[posF l name]? with
  | some f => f.n.toList == name.toList
  | none => false

theorem posF_le (l : List Fi) (name : ByteArray) : posF l name ≤ l.length := by
  induction l with
  | nil => simp [posF]
  | cons f r ih => simp only [posF, List.length_cons]; split <;> omega
theorem posF_below (l : List Fi) (name : ByteArray) : ∀ i (hi : i < l.length), i < posF l name → ltB l[i].n name = true := by
  induction l with
  | nil => intro i hi; simp at hi
  | cons f r ih =>
    intro i hi h
    simp only [posF] at h
    by_cases hf : ltB f.n name = true
    · rw [if_pos hf] at h
      cases i with
      | zero => simpa using hf
      | succ i => simpa using ih i (by simpa using hi) (by omega)
    · rw [if_neg hf] at h; omega
theorem posF_at (l : List Fi) (name : ByteArray) : ∀ (h : posF l name < l.length), ltB l[posF l name].n name = false := by
  induction l with
  | nil => intro h; simp at h
  | cons f r ih =>
    intro h
    by_cases hf : ltB f.n name = true
    · have e : posF (f :: r) name = posF r name + 1 := by simp only [posF]; rw [if_pos hf]
      simp only [e, List.getElem_cons_succ]
      exact ih (by rw [e] at h; simpa using h)
    · have e : posF (f :: r) name = 0 := by simp only [posF]; rw [if_neg hf]
      simp only [e, List.getElem_cons_zero]
      simpa using hf
theorem posF_eq {l : List Fi} {name : ByteArray} {r : Nat} (hr : r ≤ l.length) (h1 : ∀ k (h : k < l.length), k < r → ltB l[k].n name = true) (h2 : ∀ k (h : k < l.length), r ≤ k → ltB l[k].n name = false) : posF l name = r := by
  have hp := posF_le l name
  rcases Nat.lt_trichotomy (posF l name) r with h | h | h
  · have := posF_at l name (by omega)
    rw [h1 _ (by omega) h] at this
    exact absurd this (by simp)
  · exact h
  · have := posF_below l name r (by omega) h
    rw [h2 r (by omega) (Nat.le_refl _)] at this
    exact absurd this (by simp)

/-- Names are told apart rightly by halving. -/
def Mono (l : List Fi) (name : ByteArray) : Prop := ∀ i j (hi : i < l.length) (hj : j < l.length), i ≤ j → ltB l[i].n name = false → ltB l[j].n name = false

theorem Good.mono {l : List Fi} (h : Good l) (name : ByteArray) : Mono l name := by
  intro i j hi hj hij hf
  rcases Nat.lt_or_ge i j with h1 | h1
  · exact ltB_le_trans hf (ltB_asymm (h.lt h1 hj))
  · have e : i = j := by omega
    subst e
    exact hf

/-- What B1 answers. -/
def getF (l : List Fi) (name : ByteArray) : Option Fi := l.find? (fun f => f.n.toList == name.toList)

theorem getF_some {l : List Fi} {name : ByteArray} {k : Nat} (hk : k < l.length) (h : ∀ i (hi : i < l.length), i < k → (l[i].n.toList == name.toList) = false) (he : (l[k].n.toList == name.toList) = true) : getF l name = some l[k] := by
  unfold getF
  rw [List.find?_eq_some_iff_getElem]
  exact ⟨he, k, hk, rfl, fun j hj => by simpa using h j (by omega) hj⟩
theorem getF_none {l : List Fi} {name : ByteArray} (h : ∀ i (hi : i < l.length), (l[i].n.toList == name.toList) = false) : getF l name = none := by
  unfold getF
  rw [List.find?_eq_none]
  intro f hf
  obtain ⟨i, hi, rfl⟩ := List.getElem_of_mem hf
  simpa using h i hi


theorem hasF_name {l : List Fi} {name : ByteArray} (h : hasF l name = true) : ∃ hp : posF l name < l.length, l[posF l name].n = name := by
  unfold hasF at h
  rcases Nat.lt_or_ge (posF l name) l.length with hp | hp
  · rw [List.getElem?_eq_getElem hp] at h
    exact ⟨hp, toList_inj (by simpa using h)⟩
  · rw [List.getElem?_eq_none hp] at h
    exact absurd h (by simp)
theorem hasF_not {l : List Fi} {name : ByteArray} (h : hasF l name = false) (hp : posF l name < l.length) : ¬ l[posF l name].n = name := by
  unfold hasF at h
  rw [List.getElem?_eq_getElem hp] at h
  intro e
  simp [e] at h

/-- Elsewhere than at its place no file has the name. -/
theorem Good.other {l : List Fi} (hg : Good l) {name : ByteArray} {i : Nat} (hi : i < l.length) (hne : i ≠ posF l name) : ¬ l[i].n = name := by
  intro e
  rcases Nat.lt_or_ge i (posF l name) with h | h
  · have := posF_below l name i hi h
    rw [e, ltB_irrefl] at this
    exact absurd this (by simp)
  · have h1 := hg.lt (i := posF l name) (j := i) (by omega) hi
    rw [e, posF_at l name (by omega)] at h1
    exact absurd h1 (by simp)

/-- B1 by halving: the same where files may be. -/
theorem getF_has {l : List Fi} (hg : Good l) {name : ByteArray} (h : hasF l name = true) (hp : posF l name < l.length) : getF l name = some l[posF l name] := by
  obtain ⟨_, e⟩ := hasF_name h
  refine getF_some hp (fun i hi hlt => beqB_false (hg.other hi (by omega))) (beqB_true e)
theorem getF_hasnt {l : List Fi} (hg : Good l) {name : ByteArray} (h : hasF l name = false) : getF l name = none := by
  refine getF_none (fun i hi => beqB_false ?_)
  by_cases e : i = posF l name
  · subst e; exact hasF_not h hi
  · exact hg.other hi e
theorem getF_isSome {l : List Fi} (hg : Good l) (name : ByteArray) : (getF l name).isSome = hasF l name := by
  cases h : hasF l name
  · rw [getF_hasnt hg h]; rfl
  · obtain ⟨hp, _⟩ := hasF_name h
    rw [getF_has hg h hp]; rfl

/-- B2 as the program does it: a file put at its place. -/
def putF (l : List Fi) (f : Fi) : List Fi := l.take (posF l f.n) ++ (f :: l.drop (if hasF l f.n = true then posF l f.n + 1 else posF l f.n))
/-- B2 as the document's answer does it. -/
def putR (f : Fi) : Bool → List Fi → List Fi
  | laid, [] => if laid = true then [] else [f]
  | laid, g :: r =>
    (if laid = false ∧ ltB g.n f.n = false then [f] else []) ++ ((if g.n = f.n then [] else [g]) ++ putR f (laid || !ltB g.n f.n) r)
/-- B2: one that is dropped. -/
def dropF (l : List Fi) (name : ByteArray) : List Fi := l.take (posF l name) ++ l.drop (posF l name + 1)
def dropR (l : List Fi) (name : ByteArray) : List Fi := l.filter (fun g => !(g.n.toList == name.toList))

theorem Good.pw {l : List Fi} (h : Good l) : l.Pairwise (fun a b => ltB a.n b.n = true) :=
  List.pairwise_iff_getElem.2 (fun i j hi hj hij => h.lt hij hj)

theorem putR_laid (f : Fi) : ∀ l : List Fi, (∀ g ∈ l, ¬ g.n = f.n) → putR f true l = l
  | [], _ => rfl
  | g :: r, h => by
    simp only [putR, Bool.true_or, Bool.true_eq_false, false_and, if_false, List.nil_append]
    rw [if_neg (h g (by simp)), putR_laid f r (fun x hx => h x (by simp [hx]))]
    rfl

theorem putR_eq (f : Fi) : ∀ l : List Fi, l.Pairwise (fun a b => ltB a.n b.n = true) → putR f false l = putF l f
  | [], _ => rfl
  | g :: r, h => by
    rw [List.pairwise_cons] at h
    obtain ⟨h1, h2⟩ := h
    by_cases hlt : ltB g.n f.n = true
    · have hne : ¬ g.n = f.n := by intro e; rw [e, ltB_irrefl] at hlt; exact absurd hlt (by simp)
      have ih := putR_eq f r h2
      have e : posF (g :: r) f.n = posF r f.n + 1 := by simp only [posF]; rw [if_pos hlt]
      have e2 : hasF (g :: r) f.n = hasF r f.n := by unfold hasF; rw [e]; simp
      simp only [putR, hlt, Bool.not_true, Bool.false_or, Bool.true_eq_false, and_false, if_false, List.nil_append]
      rw [if_neg hne, ih]
      unfold putF
      rw [e, e2]
      cases hasF r f.n <;> simp
    · have hlt' : ltB g.n f.n = false := by simpa using hlt
      have e : posF (g :: r) f.n = 0 := by simp only [posF]; rw [if_neg hlt]
      have hr : ∀ x ∈ r, ¬ x.n = f.n := by
        intro x hx ex
        have := h1 x hx
        rw [ex, hlt'] at this
        exact absurd this (by simp)
      simp only [putR, hlt', and_self, if_true, Bool.not_false, Bool.or_true]
      rw [putR_laid f r hr]
      unfold putF hasF
      rw [e]
      by_cases hn : g.n = f.n
      · rw [if_pos hn]; simp [hn]
      · rw [if_neg hn]
        have : (g.n.toList == f.n.toList) = false := beqB_false hn
        simp [this]

theorem dropR_eq (name : ByteArray) : ∀ l : List Fi, l.Pairwise (fun a b => ltB a.n b.n = true) → hasF l name = true → dropR l name = dropF l name
  | [], _, h => by simp [hasF, posF] at h
  | g :: r, h, hh => by
    rw [List.pairwise_cons] at h
    obtain ⟨h1, h2⟩ := h
    by_cases hlt : ltB g.n name = true
    · have hne : ¬ g.n = name := by intro e; rw [e, ltB_irrefl] at hlt; exact absurd hlt (by simp)
      have e : posF (g :: r) name = posF r name + 1 := by simp only [posF]; rw [if_pos hlt]
      have e2 : hasF (g :: r) name = hasF r name := by unfold hasF; rw [e]; simp
      rw [e2] at hh
      have ih := dropR_eq name r h2 hh
      unfold dropF dropR at *
      rw [e]
      simp [beqB_false hne, ih]
    · have hlt' : ltB g.n name = false := by simpa using hlt
      have e : posF (g :: r) name = 0 := by simp only [posF]; rw [if_neg hlt]
      have hn : g.n = name := by
        unfold hasF at hh
        rw [e] at hh
        exact toList_inj (by simpa using hh)
      unfold dropF dropR
      rw [e]
      have hr : r.filter (fun g => !(g.n.toList == name.toList)) = r := by
        rw [List.filter_eq_self]
        intro x hx
        have hx1 : ¬ x.n = name := by
          intro ex
          have := h1 x hx
          rw [ex, hn, ltB_irrefl] at this
          exact absurd this (by simp)
        simp [beqB_false hx1]
      simp [beqB_true hn, hr]

end Go.Proofs.Ytihnghnafpgdfab
