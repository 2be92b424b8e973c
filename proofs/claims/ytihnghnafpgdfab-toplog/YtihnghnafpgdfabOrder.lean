/-
  TEXTS IN THEIR ORDER; FILES AS PLAIN DATA; what chapter 2 of the document asks, by numbers. No program is named here.
-/
import Derived.Test.YtihnghnafpgdfabPlain
import Derived.WalkKit
namespace Go.Proofs.Ytihnghnafpgdfab
open Go.RowKit
set_option linter.unusedVariables false
set_option linter.unusedSimpArgs false

/-- The model's order of texts is the lexical order of the bytes. -/
theorem bytesLess_lt : ∀ (x y : List UInt8), Op.bytesLess x y = decide (x < y)
  | [], [] => by simp [Op.bytesLess]
  | _ :: _, [] => by simp [Op.bytesLess]
  | [], _ :: _ => by simp [Op.bytesLess]
  | a :: x, b :: y => by
    rw [Op.bytesLess, bytesLess_lt x y]
    simp only [List.cons_lt_cons_iff]
    by_cases h1 : a < b <;> by_cases h2 : a = b <;> by_cases h3 : x < y <;> simp [h1, h2, h3]

abbrev ltB (a b : ByteArray) : Bool := Op.bytesLess a.toList b.toList

theorem toList_inj {a b : ByteArray} (h : a.toList = b.toList) : a = b := by
  rw [ByteArray.toList_eq, ByteArray.toList_eq] at h
  obtain ⟨⟨x⟩⟩ := a
  obtain ⟨⟨y⟩⟩ := b
  simp at h
  rw [h]

theorem ltB_irrefl (a : ByteArray) : ltB a a = false := by
  unfold ltB; rw [bytesLess_lt]; simp
theorem ltB_trans {a b c : ByteArray} (h1 : ltB a b = true) (h2 : ltB b c = true) : ltB a c = true := by
  unfold ltB at *; rw [bytesLess_lt] at *; simp at *; exact List.lt_trans h1 h2
theorem ltB_asymm {a b : ByteArray} (h1 : ltB a b = true) : ltB b a = false := by
  cases h : ltB b a
  · rfl
  · have := ltB_trans h1 h; rw [ltB_irrefl] at this; exact absurd this (by simp)
theorem ltB_tri {a b : ByteArray} (h1 : ltB a b = false) (h2 : ltB b a = false) : a = b := by
  unfold ltB at *; rw [bytesLess_lt] at *; simp at *
  exact toList_inj (List.le_antisymm h2 h1)
theorem ltB_le_trans {a b c : ByteArray} (h1 : ltB b a = false) (h2 : ltB c b = false) : ltB c a = false := by
  cases h : ltB c a
  · rfl
  · cases h3 : ltB a b
    · have e := ltB_tri h3 h1; subst e; rw [h2] at h; exact absurd h (by simp)
    · have := ltB_trans h h3; rw [h2] at this; exact absurd this (by simp)
theorem leqB (a b : ByteArray) : (Op.bytesLess a.toList b.toList || a.toList == b.toList) = !ltB b a := by
  cases h : ltB b a
  · simp only [Bool.not_false]
    cases h2 : ltB a b
    · have e := ltB_tri h2 h; subst e; simp
    · unfold ltB at h2; rw [h2]; rfl
  · have h2 := ltB_asymm h
    have h3 : (a.toList == b.toList) = false := by
      cases h4 : a.toList == b.toList
      · rfl
      · have e := toList_inj (by simpa using h4 : a.toList = b.toList); subst e; rw [ltB_irrefl] at h; exact absurd h (by simp)
    unfold ltB at h2; rw [h2, h3]; rfl
theorem beqB_true {a b : ByteArray} (h : a = b) : (a.toList == b.toList) = true := by subst h; simp
theorem beqB_false {a b : ByteArray} (h : ¬ a = b) : (a.toList == b.toList) = false := by
  cases h4 : a.toList == b.toList
  · rfl
  · exact absurd (toList_inj (by simpa using h4 : a.toList = b.toList)) h

/-- A file: its name, its text, how many times it was written. -/
structure Fi where
  n : ByteArray
  t : ByteArray
  k : Int

def Fi.fault (f : Fi) : Int := fileF f.n.data.toList f.t.data.toList f.k
theorem Fi.ext' {f g : Fi} (h1 : f.n = g.n) (h2 : f.t = g.t) (h3 : f.k = g.k) : f = g := by
  cases f; cases g; simp at h1 h2 h3; subst h1 h2 h3; rfl

def lightB (f : Fi) : Bool := decide (f.n.size ≤ 20) && decide (f.t.size ≤ 30)
def lightF (l : List Fi) : Bool := decide (l.length ≤ 12) && l.all lightB

theorem lightB_true {f : Fi} (h : f.n.size ≤ 20 ∧ f.t.size ≤ 30) : lightB f = true := by simp [lightB, h]
theorem lightB_false {f : Fi} (h : 20 < f.n.size ∨ 30 < f.t.size) : lightB f = false := by
  rw [Bool.eq_false_iff]; intro h'; simp [lightB] at h'; omega
theorem lightF_bad {l : List Fi} {k : Nat} (h : k < l.length) (hb : lightB l[k] = false) : lightF l = false := by
  have : l.all lightB = false := by rw [List.all_eq_false]; exact ⟨l[k], List.getElem_mem h, by simp [hb]⟩
  unfold lightF; rw [this]; simp
theorem takeSucc {α : Type} (l : List α) (k : Nat) (h : k < l.length) : l.take (k + 1) = l.take k ++ [l[k]] := List.take_succ_eq_append_getElem h
theorem takeAll {α : Type} (l : List α) (k : Nat) (h : l.length ≤ k) : l.take k = l := List.take_of_length_le h
theorem lightF_spec {l : List Fi} (h : lightF l = true) : l.length ≤ 12 ∧ ∀ f ∈ l, f.n.size ≤ 20 ∧ f.t.size ≤ 30 := by
  simp only [lightF, Bool.and_eq_true, decide_eq_true_eq, List.all_eq_true] at h
  exact ⟨h.1, fun f hf => by have := h.2 f hf; simpa [lightB] using this⟩

theorem fileF_cases (n t : List UInt8) (k : Int) : fileF n t k = 0 ∨ fileF n t k = 1 ∨ fileF n t k = 2 ∨ fileF n t k = 3 := by
  have := nameF_cases n
  unfold fileF
  split <;> (try split) <;> (try split) <;> omega
theorem Fi.fault_range (f : Fi) : 0 ≤ f.fault ∧ f.fault ≤ 100 := by
  have := fileF_cases f.n.data.toList f.t.data.toList f.k
  unfold Fi.fault; omega

/-- B3 at one place. -/
def faultAt (l : List Fi) (i : Nat) : Int :=
  match l[i]? with
  | none => 0
  | some f => if f.fault ≠ 0 then f.fault else match i with
    | 0 => 0
    | j + 1 => match l[j]? with
      | none => 0
      | some g => if ltB g.n f.n = true then 0 else 3
theorem faultAt_own {l : List Fi} {i : Nat} (h : i < l.length) (hf : l[i].fault ≠ 0) : faultAt l i = l[i].fault := by
  unfold faultAt; rw [List.getElem?_eq_getElem h]; simp [hf]
theorem faultAt_zero {l : List Fi} (h : 0 < l.length) (hf : l[0].fault = 0) : faultAt l 0 = 0 := by
  unfold faultAt; rw [List.getElem?_eq_getElem h]; simp [hf]
theorem faultAt_succ {l : List Fi} {i : Nat} (h : i + 1 < l.length) (hf : l[i + 1].fault = 0) : faultAt l (i + 1) = if ltB l[i].n l[i + 1].n = true then 0 else 3 := by
  unfold faultAt; rw [List.getElem?_eq_getElem h]; simp only [hf]; rw [List.getElem?_eq_getElem (show i < l.length by omega)]; simp

/-- B3. -/
def filesF (l : List Fi) : Int := if 8 < l.length then 2 else match (List.range l.length).find? (fun i => faultAt l i != 0) with
  | none => 0
  | some i => faultAt l i
theorem filesF_many {l : List Fi} (h : 8 < l.length) : filesF l = 2 := by simp [filesF, h]
theorem filesF_none {l : List Fi} (h : l.length ≤ 8) (hz : ∀ i, i < l.length → faultAt l i = 0) : filesF l = 0 := by
  have : (List.range l.length).find? (fun i => faultAt l i != 0) = none := by
    rw [List.find?_eq_none]; intro i hi; simp [hz i (by simpa using hi)]
  simp [filesF, this, show ¬ 8 < l.length by omega]
theorem filesF_some {l : List Fi} {k : Nat} (h : l.length ≤ 8) (hk : k < l.length) (hz : ∀ i, i < k → faultAt l i = 0) (hf : faultAt l k ≠ 0) : filesF l = faultAt l k := by
  have : (List.range l.length).find? (fun i => faultAt l i != 0) = some k := by
    rw [List.find?_range_eq_some]
    exact ⟨by simpa using hf, by simpa using hk, fun j hj => by simp [hz j hj]⟩
  simp [filesF, this, show ¬ 8 < l.length by omega]
theorem faultAt_range (l : List Fi) (i : Nat) : 0 ≤ faultAt l i ∧ faultAt l i ≤ 100 := by
  unfold faultAt
  split
  · omega
  · rename_i f hf
    have := f.fault_range
    split
    · omega
    · split
      · omega
      · split
        · omega
        · split <;> omega
theorem filesF_range (l : List Fi) : 0 ≤ filesF l ∧ filesF l ≤ 100 := by
  unfold filesF
  split
  · omega
  · split
    · omega
    · exact faultAt_range _ _

/-- Files that may be: what B3 lets by. -/
structure Good (l : List Fi) : Prop where
  few : l.length ≤ 8
  each : ∀ f ∈ l, f.fault = 0
  rise : ∀ i (h : i + 1 < l.length), ltB l[i].n l[i + 1].n = true

theorem good_of_zero {l : List Fi} (h : filesF l = 0) : Good l := by
  have h8 : l.length ≤ 8 := by
    rcases Nat.lt_or_ge 8 l.length with h8 | h8
    · rw [filesF_many h8] at h; exact absurd h (by decide)
    · exact h8
  have hz : ∀ k i, i < k → k ≤ l.length → faultAt l i = 0 := by
    intro k
    induction k with
    | zero => intro i hi; omega
    | succ k ih =>
      intro i hi hk
      rcases Nat.lt_or_ge i k with h1 | h1
      · exact ih i h1 (by omega)
      · obtain rfl : i = k := by omega
        by_cases hf : faultAt l i = 0
        · exact hf
        · rw [filesF_some h8 (by omega) (fun j hj => ih j hj (by omega)) hf] at h; exact absurd h hf
  have hz' : ∀ i, i < l.length → faultAt l i = 0 := fun i hi => hz l.length i hi (Nat.le_refl _)
  have hf : ∀ i (h : i < l.length), l[i].fault = 0 := by
    intro i hi
    by_cases e : l[i].fault = 0
    · exact e
    · have := faultAt_own hi e; rw [hz' i hi] at this; exact this.symm
  refine ⟨h8, ?_, ?_⟩
  · intro f hm
    obtain ⟨i, hi, rfl⟩ := List.getElem_of_mem hm
    exact hf i hi
  · intro i hi
    have := faultAt_succ hi (hf _ hi)
    rw [hz' _ hi] at this
    by_cases e : ltB l[i].n l[i + 1].n = true
    · exact e
    · rw [if_neg e] at this; exact absurd this (by decide)

theorem zero_of_good {l : List Fi} (h : Good l) : filesF l = 0 := by
  apply filesF_none h.few
  intro i hi
  cases i with
  | zero => exact faultAt_zero hi (h.each _ (List.getElem_mem hi))
  | succ i => rw [faultAt_succ hi (h.each _ (List.getElem_mem hi)), if_pos (h.rise i hi)]

theorem Good.lt {l : List Fi} (h : Good l) {i j : Nat} (hij : i < j) (hj : j < l.length) : ltB l[i].n l[j].n = true := by
  induction j with
  | zero => omega
  | succ j ih =>
    rcases Nat.lt_or_ge i j with h1 | h1
    · exact ltB_trans (ih h1 (by omega)) (h.rise j hj)
    · obtain rfl : i = j := by omega
      exact h.rise i hj

end Go.Proofs.Ytihnghnafpgdfab
