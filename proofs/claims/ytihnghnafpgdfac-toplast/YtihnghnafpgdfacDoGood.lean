/-
  WHATEVER IS DONE, A QUILT MAY BE: each act, by its plain function. No program is named here.
-/
import Derived.Test.YtihnghnafpgdfacActsDo
namespace Go.Proofs.Ytihnghnafpgdfac
open Go.RowKit
set_option linter.unusedVariables false
set_option linter.unusedSimpArgs false

/-- What a result is: a quilt that may be, one turn on; or nothing. -/
def Fine (t : Int) (r : Res) : Prop := (r.n = 0 ∧ GoodQ r.l r.t ∧ r.t = t + 1) ∨ (0 < r.n ∧ r.n ≤ 100 ∧ r.l = [] ∧ r.t = 0)

theorem turn_fine {t : Int} {l : List Fi} (hg : Good l) (h1 : 1 ≤ t) : Fine t (turnR t l) := by
  unfold turnR
  split
  · exact .inr ⟨by decide, by decide, rfl, rfl⟩
  · exact .inl ⟨rfl, ⟨hg, by show 1 ≤ t + 1; omega, by show t + 1 ≤ 9999; omega⟩, rfl⟩
theorem fail_fine {t n : Int} (h : 0 < n) (h' : n ≤ 100) : Fine t (failR n) := .inr ⟨h, h', rfl, rfl⟩

theorem putN_zero {l : List Fi} {f : Fi} (h : putN l f = 0) : f.fault = 0 ∧ (hasF l f.n = false → l.length < 8) := by
  unfold putN at h
  by_cases hf : f.fault = 0
  · rw [if_neg (by simp [hf])] at h
    refine ⟨hf, fun hh => ?_⟩
    by_cases h8 : 8 ≤ l.length
    · rw [if_pos ⟨hh, h8⟩] at h; exact absurd h (by decide)
    · omega
  · rw [if_pos hf] at h; exact absurd h hf
theorem put_fine {t : Int} {l : List Fi} {f : Fi} (hg : Good l) (h1 : 1 ≤ t) : Fine t (nextR t (putL l f) (putN l f)) := by
  unfold nextR
  have hr := putN_range l f
  by_cases h : putN l f = 0
  · rw [if_neg (by simp [h])]
    obtain ⟨hf, h8⟩ := putN_zero h
    have e : putL l f = putF l f := by simp [putL, h]
    rw [e]
    exact turn_fine (good_put hg hf h8) h1
  · rw [if_pos h]
    exact .inr ⟨by show 0 < putN l f; omega, hr.2, rfl, rfl⟩

theorem write_fine {l : List Fi} {t : Int} (hq : GoodQ l t) (name text : ByteArray) : Fine t (writeR l t name text) := put_fine hq.files hq.low
theorem drop_fine {l : List Fi} {t : Int} (hq : GoodQ l t) (name : ByteArray) : Fine t (dropR' l t name) := by
  unfold dropR' nextR
  cases hh : hasF l name
  · have e : dropN l name = 5 := by simp [dropN, hh]
    rw [e, if_pos (by decide)]
    exact .inr ⟨by decide, by decide, rfl, rfl⟩
  · have e : dropN l name = 0 := by simp [dropN, hh]
    have e2 : dropL l name = dropF l name := by simp [dropL, hh]
    rw [e, e2, if_neg (by decide)]
    exact turn_fine (good_drop hq.files name) hq.low
theorem rename_fine {l : List Fi} {t : Int} (hq : GoodQ l t) (name to : ByteArray) : Fine t (renameR l t name to) := by
  unfold renameR
  cases hg : getF l name with
  | none => exact fail_fine (by decide) (by decide)
  | some f =>
    simp only
    split
    · have := nameF_cases to.data.toList
      exact fail_fine (by omega) (by omega)
    · split
      · exact fail_fine (by decide) (by decide)
      · exact put_fine (good_drop hq.files name) hq.low
theorem swap_fine {l : List Fi} {t : Int} (hq : GoodQ l t) (a b : ByteArray) : Fine t (swapR l t a b) := by
  unfold swapR
  cases ha : getF l a with
  | none => exact fail_fine (by decide) (by decide)
  | some f =>
    cases hb : getF l b with
    | none => exact fail_fine (by decide) (by decide)
    | some g =>
      simp only
      split
      · exact fail_fine (by decide) (by decide)
      · split
        · exact turn_fine hq.files hq.low
        · exact turn_fine (swap_ok hq.files ha hb (by omega) (by omega) ‹_›).2.2.2 hq.low

/-- Is an act's kind one of the four? -/
def knownB (x : Ac) : Bool := decide (x.kind = ⟨#[119, 114, 105, 116, 101]⟩) || (decide (x.kind = ⟨#[100, 114, 111, 112]⟩) || (decide (x.kind = ⟨#[110, 97, 109, 101]⟩) || decide (x.kind = ⟨#[115, 119, 97, 112]⟩)))

theorem do_fine {l : List Fi} {t : Int} (hq : GoodQ l t) (x : Ac) : Fine t (doR l t x) ∨ (knownB x = false ∧ doR l t x = ⟨l, t, 0⟩) := by
  unfold doR
  split
  · exact .inl (write_fine hq _ _)
  · split
    · exact .inl (drop_fine hq _)
    · split
      · exact .inl (rename_fine hq _ _)
      · split
        · exact .inl (swap_fine hq _ _)
        · rename_i h1 h2 h3 h4
          exact .inr ⟨by simp [knownB, h1, h2, h3, h4], rfl⟩

theorem do_good {l : List Fi} {t : Int} (hq : GoodQ l t) (x : Ac) : ((doR l t x).n = 0 ∧ GoodQ (doR l t x).l (doR l t x).t) ∨ (0 < (doR l t x).n ∧ (doR l t x).n ≤ 100 ∧ (doR l t x).l = [] ∧ (doR l t x).t = 0) := by
  rcases do_fine hq x with (⟨h1, h2, _⟩ | h) | ⟨_, h⟩
  · exact .inl ⟨h1, h2⟩
  · exact .inr h
  · rw [h]; exact .inl ⟨rfl, hq⟩

theorem new_good : GoodQ [] 1 := ⟨good_nil, by decide, by decide⟩

end Go.Proofs.Ytihnghnafpgdfac
