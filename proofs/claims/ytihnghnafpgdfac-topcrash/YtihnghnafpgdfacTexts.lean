/-
  LISTS OF TEXTS IN MEMORY; slices.Index and slices.Contains of texts, SameTexts.
-/
import Derived.Test.YtihnghnafpgdfacShelfCat
namespace Go.Proofs.Ytihnghnafpgdfac
open Go.RowKit
set_option linter.unusedVariables false
set_option linter.unusedSimpArgs false

/-- The cells of a slice's elements hold these texts. -/
def Strs (w : World) (a : Option Addr) (l : List ByteArray) : Prop :=
  ∀ i (h : i < l.length), ∃ b off, a = some ⟨b, off, none⟩ ∧ w.cell? ⟨b, off + i, none⟩ = some (.string l[i])
theorem Strs.below {w w' : World} {a : Option Addr} {l : List ByteArray} (h : Strs w a l) (hb : Below w.heap.size w w') : Strs w' a l := by
  intro i hi
  obtain ⟨b, off, rfl, c0⟩ := h i hi
  exact ⟨b, off, rfl, by rw [hb.cell (World.block_lt_of_cell? _ _ c0)]; exact c0⟩
theorem Strs.drewN {w : World} {a : Option Addr} {l : List ByteArray} (h : Strs w a l) (q : Nat) : Strs (w.drewN q) a l := by
  intro i hi
  simpa using h i hi
theorem Strs.alloc {w : World} {a : Option Addr} {l : List ByteArray} (h : Strs w a l) (o : Obj) : Strs (w.alloc o) a l :=
  h.below ((Below.refl _ _).alloc (Nat.le_refl _) o)
theorem Strs.nil (w : World) (a : Option Addr) : Strs w a [] := fun i h => absurd h (Nat.not_lt_zero _)
theorem Strs.take {w : World} {a : Option Addr} {l : List ByteArray} (h : Strs w a l) (k : Nat) : Strs w a (l.take k) := by
  intro i hi
  have h2 : i < l.length := by simp at hi; omega
  obtain ⟨b, off, rfl, c⟩ := h i h2
  exact ⟨b, off, rfl, by rw [List.getElem_take]; exact c⟩

theorem Try.infoString : (Try.prog.info? 9).map (fun i => (i.zero, i.size, i.bytes)) = some (some (.string ⟨#[]⟩), 1, 16) := by kernel_rfl

/-- Texts in memory of one's own. -/
abbrev OwnsS (w : World) (base : Nat) (v : Value) (l : List ByteArray) : Prop := w.ownsRow base 9 1 v l.length (l.map Value.string)
theorem OwnsS.texts {w : World} {base : Nat} {v : Value} {l : List ByteArray} (h : OwnsS w base v l) : ∃ a cap, v = .slice a l.length cap ∧ Strs w a l ∧ (a = none → cap = 0) ∧ cap ≤ maxLen ∧ l.length ≤ cap ∧ (∀ x, a = some x → base ≤ x.block ∧ x.off = 0 ∧ x.spot = none) := by
  rcases h.2 with ⟨rfl, h0⟩ | ⟨g, cap, cur, rfl, hb, hg, hn, hm, hs, ht⟩
  · have e : l = [] := List.eq_nil_of_length_eq_zero h0
    subst e
    exact ⟨none, 0, rfl, Strs.nil _ _, fun _ => rfl, Nat.zero_le _, Nat.le_refl _, fun x hx => by cases hx⟩
  · refine ⟨some ⟨g, 0, none⟩, cap, rfl, ?_, (fun h => by cases h), hm, hn, (fun x hx => by cases hx; exact ⟨hb, rfl, rfl⟩)⟩
    intro i hi
    refine ⟨g, 0, rfl, ?_⟩
    rw [h.cellAt (0 + i) (by omega), Nat.zero_add]
    simp [hi]
theorem OwnsS.snoc {w : World} {B : Nat} {v : Value} {l : List ByteArray} {s : ByteArray} (h : w.ownsRow B 9 1 v (l.length + 1) (l.map Value.string ++ [.string s])) : OwnsS w B v (l ++ [s]) := by
  show World.ownsRow _ _ _ _ _ _ _
  rw [List.map_append, List.length_append]
  exact h
theorem cell_one_new (w : World) (a : Value) (t : TypeId) : ∀ j u, [a][j]? = some u → (w.alloc (.cells #[a] t)).cell? ((⟨w.heap.size, 0, none⟩ : Addr).add j) = some u := by
  intro j u hj
  match j, hj with
  | 0, hj => simp at hj; subst hj; simp [Addr.add]
  | j + 1, hj => simp at hj
theorem one_one (s : ByteArray) : ∀ u ∈ [Value.string s], u.oneCell' = true := by
  intro u hu
  simp at hu
  subst hu; rfl

def hasT (l : List ByteArray) (s : ByteArray) : Bool := l.any (fun n => n.toList == s.toList)

def sameT (l m : List ByteArray) : Bool := decide (l.length = m.length) && (List.range l.length).all (fun i => match l[i]?, m[i]? with | some f, some g => f.toList == g.toList | _, _ => false)
theorem sameT_iff (l m : List ByteArray) : sameT l m = true ↔ l = m := by
  constructor
  · intro h
    simp only [sameT, Bool.and_eq_true, decide_eq_true_eq, List.all_eq_true, List.mem_range] at h
    apply List.ext_getElem h.1
    intro i h1 h2
    have := h.2 i h1
    rw [List.getElem?_eq_getElem h1, List.getElem?_eq_getElem h2] at this
    exact toList_inj (by simpa using this)
  · rintro rfl
    simp only [sameT, decide_true, Bool.true_and, List.all_eq_true, List.mem_range]
    intro i h1
    rw [List.getElem?_eq_getElem h1]
    simp
theorem sameT_len {l m : List ByteArray} (h : ¬ l.length = m.length) : sameT l m = false := by
  rw [Bool.eq_false_iff]; intro e; exact h (by rw [(sameT_iff l m).1 e])
theorem sameT_at {l m : List ByteArray} {k : Nat} (h1 : k < l.length) (h2 : k < m.length) (h : (l[k].toList == m[k].toList) = false) : sameT l m = false := by
  rw [Bool.eq_false_iff]; intro e
  have := (sameT_iff l m).1 e
  subst this
  simp at h
theorem sameT_all {l m : List ByteArray} (hl : l.length = m.length) (h : ∀ i (h1 : i < l.length) (h2 : i < m.length), i < l.length → (l[i].toList == m[i].toList) = true) : sameT l m = true := by
  rw [sameT_iff]
  apply List.ext_getElem hl
  intro i h1 h2
  exact toList_inj (by simpa using h i h1 h2 h1)

end Go.Proofs.Ytihnghnafpgdfac
