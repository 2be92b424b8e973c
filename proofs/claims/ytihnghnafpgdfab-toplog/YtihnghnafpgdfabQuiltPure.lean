/-
  CHAPTER 3 AS PLAIN FUNCTIONS: what becomes of files and of the turn, and the error's number. No program is named here.
-/
import Derived.Test.YtihnghnafpgdfabShelfLaw
namespace Go.Proofs.Ytihnghnafpgdfab
open Go.RowKit
set_option linter.unusedVariables false
set_option linter.unusedSimpArgs false

/-- What is done: files, turn, the error's number (0: none). -/
structure Res where
  l : List Fi
  t : Int
  n : Int

def failR (n : Int) : Res := ⟨[], 0, n⟩
def turnR (t : Int) (l : List Fi) : Res := if 9999 ≤ t then ⟨[], 0, 7⟩ else ⟨l, t + 1, 0⟩
def nextR (t : Int) (l : List Fi) (n : Int) : Res := if n ≠ 0 then ⟨[], 0, n⟩ else turnR t l

def writeF (l : List Fi) (name text : ByteArray) : Fi := ⟨name, text, (getD' (getF l name)).k + 1⟩
def writeR (l : List Fi) (t : Int) (name text : ByteArray) : Res := nextR t (putL l (writeF l name text)) (putN l (writeF l name text))
def dropR' (l : List Fi) (t : Int) (name : ByteArray) : Res := nextR t (dropL l name) (dropN l name)
def renameR (l : List Fi) (t : Int) (name to : ByteArray) : Res :=
  match getF l name with
  | none => failR 5
  | some f => if nameF to.data.toList ≠ 0 then failR (nameF to.data.toList) else if (getF l to).isSome = true then failR 6 else
    nextR t (putL (dropF l name) ⟨to, f.t, f.k⟩) (putN (dropF l name) ⟨to, f.t, f.k⟩)
def swapL (l : List Fi) (a b : ByteArray) (f g : Fi) : List Fi := putF (putF l ⟨a, g.t, f.k + 1⟩) ⟨b, f.t, g.k + 1⟩
def swapR (l : List Fi) (t : Int) (a b : ByteArray) : Res :=
  match getF l a, getF l b with
  | some f, some g => if 9999 ≤ f.k ∨ 9999 ≤ g.k then failR 7 else if a = b then turnR t l else turnR t (swapL l a b f g)
  | _, _ => failR 5

/-- A quilt that may be. -/
structure GoodQ (l : List Fi) (t : Int) : Prop where
  files : Good l
  low : 1 ≤ t
  high : t ≤ 9999

theorem fault_zero {f : Fi} (h : f.fault = 0) : nameF f.n.data.toList = 0 ∧ f.t.size ≤ 12 ∧ 1 ≤ f.k ∧ f.k ≤ 9999 := by
  unfold Fi.fault fileF at h
  by_cases h1 : nameF f.n.data.toList = 0
  · simp only [h1, ne_eq, not_true_eq_false, if_false] at h
    by_cases h2 : 12 < f.t.data.toList.length
    · rw [if_pos h2] at h; exact absurd h (by decide)
    · rw [if_neg h2] at h
      by_cases h3 : f.k < 1 ∨ 9999 < f.k
      · rw [if_pos h3] at h; exact absurd h (by decide)
      · have : f.t.data.toList.length = f.t.size := by simp
        exact ⟨h1, by omega, by omega, by omega⟩
  · rw [if_pos h1] at h; exact absurd h h1
theorem fault_of {f : Fi} (h1 : nameF f.n.data.toList = 0) (h2 : f.t.size ≤ 12) (h3 : 1 ≤ f.k) (h4 : f.k ≤ 9999) : f.fault = 0 := by
  unfold Fi.fault fileF
  have : f.t.data.toList.length = f.t.size := by simp
  rw [if_neg (by simp [h1]), if_neg (by omega), if_neg (by omega)]
theorem name_size {s : ByteArray} (h : nameF s.data.toList = 0) : s.size ≤ 6 := by
  have e : s.data.toList.length = s.size := by simp
  unfold nameF at h
  split at h
  · exact absurd h (by decide)
  · split at h
    · split at h
      · exact absurd h (by decide)
      · omega
    · exact absurd h (by decide)
theorem Good.times {l : List Fi} (h : Good l) {f : Fi} (hf : f ∈ l) : nameF f.n.data.toList = 0 ∧ f.t.size ≤ 12 ∧ 1 ≤ f.k ∧ f.k ≤ 9999 := fault_zero (h.each f hf)
theorem getF_mem {l : List Fi} {name : ByteArray} {f : Fi} (h : getF l name = some f) : f ∈ l ∧ f.n = name := by
  unfold getF at h
  have h1 := List.mem_of_find?_eq_some h
  have h2 := List.find?_some h
  exact ⟨h1, toList_inj (by simpa using h2)⟩

theorem pw_good {l : List Fi} (h8 : l.length ≤ 8) (he : ∀ f ∈ l, f.fault = 0) (hp : l.Pairwise (fun a b => ltB a.n b.n = true)) : Good l :=
  ⟨h8, he, fun i h => List.pairwise_iff_getElem.1 hp i (i + 1) (by omega) h (by omega)⟩

/-- What is put leaves files that may be. -/
theorem good_put {l : List Fi} (hg : Good l) {f : Fi} (hf : f.fault = 0) (h8 : hasF l f.n = false → l.length < 8) : Good (putF l f) := by
  have hp := posF_le l f.n
  refine pw_good ?_ ?_ ?_
  · have h := hg.few
    unfold putF
    simp only [List.length_append, List.length_take, List.length_cons, List.length_drop]
    cases hh : hasF l f.n
    · have := h8 hh; simp; omega
    · have := (hasF_name hh).1; simp; omega
  · intro g hgm
    unfold putF at hgm
    simp only [List.mem_append, List.mem_cons] at hgm
    rcases hgm with h | rfl | h
    · exact hg.each g (List.mem_of_mem_take h)
    · exact hf
    · exact hg.each g (List.mem_of_mem_drop h)
  · unfold putF
    rw [List.pairwise_append]
    refine ⟨hg.pw.sublist (List.take_sublist _ _), ?_, ?_⟩
    · rw [List.pairwise_cons]
      refine ⟨?_, hg.pw.sublist (List.drop_sublist _ _)⟩
      intro g hgm
      cases hh : hasF l f.n
      · simp only [hh, Bool.false_eq_true, if_false] at hgm
        obtain ⟨i, hi, rfl⟩ := List.getElem_of_mem hgm
        simp only [List.length_drop] at hi
        rw [List.getElem_drop]
        have hge : ltB l[posF l f.n + i].n f.n = false := hg.mono f.n (posF l f.n) (posF l f.n + i) (by omega) (by omega) (by omega) (posF_at l f.n (by omega))
        cases hx : ltB f.n l[posF l f.n + i].n
        · have e := ltB_tri hx hge
          by_cases h0 : i = 0
          · subst h0
            exact absurd e.symm (hasF_not hh (by omega))
          · exact absurd e.symm (hg.other (by omega) (by omega))
        · rfl
      · obtain ⟨hp', e⟩ := hasF_name hh
        simp only [hh, if_true] at hgm
        obtain ⟨i, hi, rfl⟩ := List.getElem_of_mem hgm
        simp only [List.length_drop] at hi
        rw [List.getElem_drop]
        have := hg.lt (i := posF l f.n) (j := posF l f.n + 1 + i) (by omega) (by omega)
        rwa [e] at this
    · intro a ha b hb
      obtain ⟨i, hi, rfl⟩ := List.getElem_of_mem ha
      simp only [List.length_take] at hi
      rw [List.getElem_take]
      have hlt := posF_below l f.n i (by omega) (by omega)
      simp only [List.mem_cons] at hb
      rcases hb with rfl | hb
      · exact hlt
      · obtain ⟨j, hj, rfl⟩ := List.getElem_of_mem hb
        simp only [List.length_drop] at hj
        rw [List.getElem_drop]
        exact hg.lt (by split <;> omega) (by omega)

theorem good_drop {l : List Fi} (hg : Good l) (name : ByteArray) : Good (dropF l name) := by
  have hsub : (dropF l name).Sublist l := by
    unfold dropF
    have h1 : (l.drop (posF l name + 1)).Sublist (l.drop (posF l name)) := by
      rw [← List.drop_drop]
      exact List.drop_sublist _ _
    have := List.Sublist.append (List.Sublist.refl (l.take (posF l name))) h1
    rwa [List.take_append_drop] at this
  exact pw_good (Nat.le_trans hsub.length_le hg.few) (fun f hf => hg.each f (hsub.subset hf)) (hg.pw.sublist hsub)

end Go.Proofs.Ytihnghnafpgdfab
