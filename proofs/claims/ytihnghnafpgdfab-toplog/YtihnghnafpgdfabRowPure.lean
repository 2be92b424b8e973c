/-
  ROWS AND THEIR CHANGES, WITHOUT A PROGRAM: what is left of the stable order of all, the last of each key, is what the document's way makes, one change behind the other.
-/
import Derived.Test.YtihnghnafpgdfabStablePure2
import Derived.Test.YtihnghnafpgdfabActsBase
namespace Go.Proofs.Ytihnghnafpgdfab
open Go.RowKit Go.Sort
set_option linter.unusedVariables false
set_option linter.unusedSimpArgs false

def ltC (x y : Ch) : Bool := ltB x.key y.key
theorem swoC : SWO ltC where
  irrefl x := ltB_irrefl _
  trans x y z h1 h2 := ltB_trans h1 h2
  ntrans x y z h1 h2 := ltB_le_trans h2 h1
def sameK (k : ByteArray) (c : Ch) : Bool := c.key.toList == k.toList
theorem sameK_iff {k : ByteArray} {c : Ch} : sameK k c = true ↔ c.key = k := by
  unfold sameK
  exact ⟨fun h => toList_inj (by simpa using h), fun h => by rw [h]; simp⟩
theorem sameK_not {k : ByteArray} {c : Ch} : sameK k c = false ↔ ¬ c.key = k := by
  rw [← sameK_iff]; simp
theorem sameK_sym {x c : Ch} : sameK x.key c = sameK c.key x := by
  cases h : sameK c.key x
  · rw [sameK_not] at h ⊢; exact fun e => h e.symm
  · rw [sameK_iff] at h ⊢; exact h.symm
theorem eqvC (z x : Ch) : eqv ltC z x = sameK z.key x := by
  unfold eqv ltC
  cases h : sameK z.key x
  · rw [sameK_not] at h
    cases h1 : ltB x.key z.key
    · cases h2 : ltB z.key x.key
      · exact absurd (ltB_tri h1 h2) h
      · rfl
    · rfl
  · rw [sameK_iff] at h
    rw [h, ltB_irrefl]
    rfl

/-- Rows: they rise, and none is gone. -/
structure Rowed (l : List Ch) : Prop where
  rise : l.Pairwise fun x y => ltB x.key y.key = true
  here : ∀ c ∈ l, c.gone = false
/-- The one of a key. -/
def look (l : List Ch) (k : ByteArray) : Option Ch := l.find? (sameK k)
theorem Rowed.nil : Rowed [] := ⟨List.Pairwise.nil, fun c h => absurd h (by simp)⟩
theorem Rowed.tail {c : Ch} {l : List Ch} (h : Rowed (c :: l)) : Rowed l := ⟨(List.pairwise_cons.1 h.rise).2, fun x hx => h.here x (List.mem_cons_of_mem _ hx)⟩
theorem Rowed.head {c : Ch} {l : List Ch} (h : Rowed (c :: l)) : ∀ x ∈ l, ltB c.key x.key = true := (List.pairwise_cons.1 h.rise).1
theorem Rowed.look_head {c : Ch} {l : List Ch} (h : Rowed (c :: l)) : look (c :: l) c.key = some c := by
  unfold look
  rw [List.find?_cons, sameK_iff.2 rfl]
theorem Rowed.look_lt {c : Ch} {l : List Ch} (h : Rowed (c :: l)) {k : ByteArray} (hk : ltB k c.key = true) : look (c :: l) k = none := by
  unfold look
  rw [List.find?_eq_none]
  intro x hx e
  rw [sameK_iff] at e
  rcases List.mem_cons.1 hx with rfl | h1
  · rw [e, ltB_irrefl] at hk; cases hk
  · have h2 := ltB_trans hk (h.head x h1)
    rw [e, ltB_irrefl] at h2
    cases h2
/-- Rows with the same of each key are the same. -/
theorem Rowed.ext : ∀ {l m : List Ch}, Rowed l → Rowed m → (∀ k, look l k = look m k) → l = m
  | [], [], _, _, _ => rfl
  | [], c :: m, _, hm, h => by have := h c.key; rw [hm.look_head] at this; cases this
  | c :: l, [], hl, _, h => by have := h c.key; rw [hl.look_head] at this; cases this
  | c :: l, e :: m, hl, hm, h => by
    have hke : c.key = e.key := by
      refine ltB_tri ?_ ?_
      · cases hlt : ltB c.key e.key
        · rfl
        · have := h c.key
          rw [hl.look_head, hm.look_lt hlt] at this
          cases this
      · cases hlt : ltB e.key c.key
        · rfl
        · have := h e.key
          rw [hm.look_head, hl.look_lt hlt] at this
          cases this
    have hce : c = e := by
      have := h c.key
      rw [hl.look_head, hke, hm.look_head] at this
      exact Option.some.inj this
    subst hce
    congr 1
    refine Rowed.ext hl.tail hm.tail fun k => ?_
    by_cases hk : c.key = k
    · subst hk
      have n1 : look l c.key = none := by
        unfold look; rw [List.find?_eq_none]; intro x hx e; rw [sameK_iff] at e
        have := hl.head x hx; rw [e, ltB_irrefl] at this; cases this
      have n2 : look m c.key = none := by
        unfold look; rw [List.find?_eq_none]; intro x hx e; rw [sameK_iff] at e
        have := hm.head x hx; rw [e, ltB_irrefl] at this; cases this
      rw [n1, n2]
    · have := h k
      unfold look at this ⊢
      rw [List.find?_cons, List.find?_cons, sameK_not.2 hk] at this
      exact this
/-- The last one of a key. -/
def lastK (l : List Ch) (k : ByteArray) : Option Ch := (l.filter (sameK k)).getLast?
def alive (o : Option Ch) : Option Ch := o.filter fun c => !c.gone
theorem lastK_append (l m : List Ch) (k : ByteArray) : lastK (l ++ m) k = (lastK m k).or (lastK l k) := by
  unfold lastK
  rw [List.filter_append, List.getLast?_append]
theorem Rowed.lastK {l : List Ch} (h : Rowed l) (k : ByteArray) : lastK l k = look l k := by
  induction l with
  | nil => rfl
  | cons c l ih =>
    have := ih h.tail
    unfold Go.Proofs.Ytihnghnafpgdfab.lastK look at this ⊢
    rw [List.filter_cons, List.find?_cons]
    cases hk : sameK k c
    · exact this
    · have hn : l.filter (sameK k) = [] := by
        rw [List.filter_eq_nil_iff]
        intro x hx e
        rw [sameK_iff] at e hk
        have := h.head x hx
        rw [e, hk, ltB_irrefl] at this
        cases this
      simp [hn]
theorem Rowed.alive_look {l : List Ch} (h : Rowed l) (k : ByteArray) : alive (look l k) = look l k := by
  unfold alive
  cases hl : look l k with
  | none => rfl
  | some c =>
    have := h.here c (List.mem_of_find?_eq_some hl)
    simp [Option.filter, this]

/-- What is left: the last of each run of one key, if it isn't gone. -/
def endsRun (c : Ch) : List Ch → Bool
  | [] => true
  | e :: _ => !sameK c.key e
def keepLast : List Ch → List Ch
  | [] => []
  | c :: l => (if (endsRun c l && !c.gone) = true then [c] else []) ++ keepLast l
theorem keepLast_mem : ∀ {l : List Ch} {c : Ch}, c ∈ keepLast l → c ∈ l ∧ c.gone = false
  | c :: l, x, h => by
    rw [keepLast, List.mem_append] at h
    rcases h with h | h
    · split at h
      · rename_i hc
        simp only [List.mem_singleton] at h
        subst h
        simp only [Bool.and_eq_true, Bool.not_eq_true'] at hc
        exact ⟨by simp, hc.2⟩
      · cases h
    · obtain ⟨h1, h2⟩ := keepLast_mem h
      exact ⟨List.mem_cons_of_mem _ h1, h2⟩
theorem rises_run {c e x : Ch} {l : List Ch} (h : Rises ltC (c :: e :: l)) (hx : x ∈ e :: l) (hk : x.key = c.key) : e.key = c.key := by
  have h1 := List.pairwise_cons.1 h
  have h2 : ltB e.key c.key = false := h1.1 e (by simp)
  rcases List.mem_cons.1 hx with rfl | h3
  · exact hk
  · have h4 : ltB x.key e.key = false := (List.pairwise_cons.1 h1.2).1 x h3
    rw [hk] at h4
    exact ltB_tri h2 h4
theorem keepLast_rowed : ∀ {l : List Ch}, Rises ltC l → Rowed (keepLast l)
  | [], _ => Rowed.nil
  | c :: l, h => by
    have ih := keepLast_rowed (List.pairwise_cons.1 h).2
    rw [keepLast]
    split
    · rename_i hc
      simp only [Bool.and_eq_true, Bool.not_eq_true'] at hc
      refine ⟨?_, fun x hx => ?_⟩
      · rw [List.singleton_append]
        refine List.pairwise_cons.2 ⟨fun x hx => ?_, ih.rise⟩
        have hx' := (keepLast_mem hx).1
        have h1 : ltB x.key c.key = false := (List.pairwise_cons.1 h).1 x hx'
        cases h2 : ltB c.key x.key
        · have e := ltB_tri h1 h2
          cases l with
          | nil => cases hx'
          | cons e' l =>
            have := rises_run h hx' e
            have h3 : (!sameK c.key e') = true := hc.1
            simp only [Bool.not_eq_true', sameK_not] at h3
            exact absurd this h3
        · rfl
      · rw [List.singleton_append] at hx
        rcases List.mem_cons.1 hx with rfl | h1
        · exact hc.2
        · exact ih.here x h1
    · exact ih
theorem keepLast_look : ∀ {l : List Ch}, Rises ltC l → ∀ k, look (keepLast l) k = alive (lastK l k)
  | [], _, _ => rfl
  | c :: l, h, k => by
    have ih := keepLast_look (List.pairwise_cons.1 h).2 k
    rw [keepLast]
    have hl : lastK (c :: l) k = (lastK l k).or (if sameK k c = true then some c else none) := by
      rw [show c :: l = [c] ++ l from rfl, lastK_append]
      congr 1
      unfold lastK
      rw [List.filter_cons]
      split <;> rfl
    by_cases hk : c.key = k
    · subst hk
      rw [hl, sameK_iff.2 rfl, if_pos rfl]
      cases l with
      | nil =>
        simp only [endsRun, Bool.true_and]
        cases hg : c.gone
        · simp [look, keepLast, lastK, sameK_iff.2 rfl, alive, hg, Option.filter]
        · simp [look, keepLast, lastK, alive, hg, Option.filter]
      | cons e l =>
        cases hs : sameK c.key e
        · -- the last one of this key
          have hn : lastK (e :: l) c.key = none := by
            unfold lastK
            have : (e :: l).filter (sameK c.key) = [] := by
              rw [List.filter_eq_nil_iff]
              intro x hx e2
              rw [sameK_iff] at e2
              rw [sameK_not] at hs
              exact hs (rises_run h hx e2)
            rw [this]; rfl
          rw [hn] at ih ⊢
          simp only [endsRun, hs, Bool.not_false, Bool.true_and, Option.none_or]
          cases hg : c.gone
          · simp [look, sameK_iff.2 rfl, alive, hg, Option.filter]
          · simp only [Bool.not_true, Bool.false_eq_true, if_false, List.nil_append]
            rw [ih]
            simp [alive, hg, Option.filter]
        · have hsm : lastK (e :: l) c.key ≠ none := by
            unfold lastK
            rw [List.filter_cons, if_pos hs]
            simp [List.getLast?_cons]
          simp only [endsRun, hs, Bool.not_true, Bool.false_and, Bool.false_eq_true, if_false, List.nil_append]
          rw [ih]
          cases hh : lastK (e :: l) c.key with
          | none => exact absurd hh hsm
          | some x => rfl
    · rw [hl, sameK_not.2 hk]
      simp only [Bool.false_eq_true, if_false, Option.or_none]
      rw [← ih]
      split
      · unfold look
        rw [List.singleton_append, List.find?_cons, sameK_not.2 hk]
      · rfl

/-- One change is laid among rows, by the document's way. -/
def layC (c : Ch) : Bool → List Ch → List Ch
  | laid, [] => if laid = true then [] else [c]
  | laid, o :: l =>
    (if laid = false ∧ ltB o.key c.key = false then [c] else []) ++ ((if sameK c.key o = true then [] else [o]) ++ layC c (laid || !ltB o.key c.key) l)
def appliedC (rows : List Ch) (l : List Ch) : List Ch := l.foldl (fun o c => layC c c.gone o) rows
theorem layC_true (c : Ch) : ∀ l, layC c true l = l.filter fun o => !sameK c.key o
  | [] => rfl
  | o :: l => by
    rw [layC, List.filter_cons, Bool.true_or, layC_true c l]
    cases h : sameK c.key o <;> simp
theorem layC_mem (c : Ch) : ∀ {b : Bool} {l : List Ch} {x : Ch}, x ∈ layC c b l → x = c ∧ b = false ∨ x ∈ l
  | b, [], x, h => by
    rw [layC] at h
    cases b
    · simp at h; exact .inl ⟨h, rfl⟩
    · simp at h
  | b, o :: l, x, h => by
    rw [layC, List.mem_append, List.mem_append] at h
    rcases h with h | h | h
    · split at h
      · rename_i hc
        simp at h
        exact .inl ⟨h, hc.1⟩
      · cases h
    · split at h
      · cases h
      · simp at h; exact .inr (by simp [h])
    · rcases layC_mem c h with ⟨h1, h2⟩ | h1
      · cases b
        · exact .inl ⟨h1, rfl⟩
        · simp at h2
      · exact .inr (List.mem_cons_of_mem _ h1)
theorem layC_rowed_true (c : Ch) {l : List Ch} (hl : Rowed l) : Rowed (layC c true l) := by
  rw [layC_true]
  exact ⟨hl.rise.filter _, fun x hx => hl.here x (List.mem_filter.1 hx).1⟩
theorem layC_rowed (c : Ch) : ∀ {b : Bool} {l : List Ch}, Rowed l → (b = false → c.gone = false) → Rowed (layC c b l)
  | true, l, hl, hb => layC_rowed_true c hl
  | false, [], _, hb => by
    rw [layC]
    exact ⟨by simp, fun x hx => by simp at hx; subst hx; exact hb rfl⟩
  | false, o :: l, hl, hb => by
    rw [layC]
    cases ho : ltB o.key c.key
    · -- it is laid here
      simp only [true_and, if_true, Bool.false_or, Bool.not_false]
      rw [layC_true, List.singleton_append]
      have hr : Rowed ((if sameK c.key o = true then [] else [o]) ++ l.filter fun o => !sameK c.key o) := by
        have := layC_rowed_true c hl
        rw [layC_true, List.filter_cons] at this
        cases hs : sameK c.key o
        · rw [hs] at this; simpa using this
        · rw [hs] at this; simpa using this
      refine ⟨List.pairwise_cons.2 ⟨fun x hx => ?_, hr.rise⟩, fun x hx => ?_⟩
      · have hne : sameK c.key x = false ∧ (x = o ∨ x ∈ l) := by
          rw [List.mem_append] at hx
          rcases hx with h | h
          · split at h
            · cases h
            · rename_i hs
              simp at h
              subst h
              exact ⟨by simpa using hs, .inl rfl⟩
          · have := List.mem_filter.1 h
            exact ⟨by simpa using this.2, .inr this.1⟩
        have hle : ltB x.key c.key = false := by
          rcases hne.2 with rfl | h
          · exact ho
          · cases h2 : ltB x.key c.key
            · rfl
            · have := ltB_trans (hl.head x h) h2
              rw [ho] at this; cases this
        cases h2 : ltB c.key x.key
        · exact absurd (ltB_tri hle h2) (sameK_not.1 hne.1)
        · rfl
      · rcases List.mem_cons.1 hx with rfl | h
        · exact hb rfl
        · exact hr.here x h
    · have hs : sameK c.key o = false := by
        rw [sameK_not]
        intro e
        rw [e, ltB_irrefl] at ho
        cases ho
      have ih := layC_rowed c (b := false) hl.tail hb
      simp only [hs, Bool.true_eq_false, and_false, if_false, Bool.false_eq_true, List.nil_append, Bool.false_or, Bool.not_true]
      rw [List.singleton_append]
      refine ⟨List.pairwise_cons.2 ⟨fun x hx => ?_, ih.rise⟩, fun x hx => ?_⟩
      · rcases layC_mem c hx with ⟨rfl, _⟩ | h
        · exact ho
        · exact hl.head x h
      · rcases List.mem_cons.1 hx with rfl | h
        · exact hl.here _ (by simp)
        · exact ih.here x h
theorem look_filter (c : Ch) (k : ByteArray) : ∀ l : List Ch, look (l.filter fun o => !sameK c.key o) k = if c.key = k then none else look l k
  | [] => by simp [look]
  | o :: l => by
    have ih := look_filter c k l
    unfold look at ih ⊢
    rw [List.filter_cons]
    cases hs : sameK c.key o
    · simp only [Bool.not_false, if_true, List.find?_cons]
      rw [sameK_not] at hs
      cases hk : sameK k o
      · rw [ih]
      · rw [sameK_iff] at hk
        rw [if_neg (fun e => hs (hk.trans e.symm))]
    · simp only [Bool.not_true, Bool.false_eq_true, if_false, List.find?_cons]
      rw [sameK_iff] at hs
      rw [ih]
      cases hk : sameK k o
      · rfl
      · rw [sameK_iff] at hk
        rw [if_pos (hs.symm.trans hk), if_pos (hs.symm.trans hk)]
theorem layC_look (c : Ch) (k : ByteArray) : ∀ {b : Bool} {l : List Ch}, look (layC c b l) k = if c.key = k then (if b = true then none else some c) else look l k
  | b, [] => by
    rw [layC]
    cases b
    · by_cases h : c.key = k
      · simp [look, h, sameK_iff.2 h]
      · simp [look, h, sameK_not.2 h]
    · simp [look]
  | true, l => by rw [layC_true, look_filter]; rfl
  | false, o :: l => by
    rw [layC]
    cases ho : ltB o.key c.key
    · simp only [true_and, if_true, Bool.false_or, Bool.not_false, Bool.false_eq_true, if_false]
      have hf := look_filter c k (o :: l)
      rw [List.filter_cons] at hf
      rw [layC_true, List.singleton_append]
      have e : ((if sameK c.key o = true then [] else [o]) ++ l.filter fun o => !sameK c.key o) = (if (!sameK c.key o) = true then o :: l.filter (fun o => !sameK c.key o) else l.filter fun o => !sameK c.key o) := by
        cases sameK c.key o <;> rfl
      rw [e]
      show (c :: _).find? (sameK k) = _
      rw [List.find?_cons]
      by_cases h : c.key = k
      · rw [sameK_iff.2 h, if_pos h]
      · rw [sameK_not.2 h, if_neg h]
        rw [if_neg h] at hf
        exact hf
    · have hs : sameK c.key o = false := by
        rw [sameK_not]
        intro e
        rw [e, ltB_irrefl] at ho
        cases ho
      have ih := layC_look c k (b := false) (l := l)
      simp only [hs, Bool.true_eq_false, and_false, if_false, Bool.false_eq_true, List.nil_append, Bool.false_or, Bool.not_true]
      rw [List.singleton_append]
      unfold look at ih ⊢
      rw [List.find?_cons, List.find?_cons, ih]
      cases hk : sameK k o
      · simp
      · rw [sameK_iff] at hk
        rw [sameK_not] at hs
        simp only
        rw [if_neg (fun e => hs (hk.trans e.symm))]
theorem applied_rowed : ∀ {l rows : List Ch}, Rowed rows → Rowed (appliedC rows l)
  | [], rows, h => h
  | c :: l, rows, h => by
    show Rowed (appliedC (layC c c.gone rows) l)
    exact applied_rowed (layC_rowed c h (fun e => e))
theorem applied_look (k : ByteArray) : ∀ {l rows : List Ch}, Rowed rows → look (appliedC rows l) k = alive ((lastK l k).or (look rows k))
  | [], rows, h => by
    show look rows k = alive (look rows k)
    exact (h.alive_look k).symm
  | c :: l, rows, h => by
    show look (appliedC (layC c c.gone rows) l) k = _
    rw [applied_look k (layC_rowed c h (fun e => e)), layC_look]
    have hl : lastK (c :: l) k = (lastK l k).or (if sameK k c = true then some c else none) := by
      rw [show c :: l = [c] ++ l from rfl, lastK_append]
      congr 1
      unfold lastK
      rw [List.filter_cons]
      split <;> rfl
    rw [hl]
    cases lastK l k with
    | some x => rfl
    | none =>
      simp only [Option.none_or]
      by_cases hk : c.key = k
      · rw [if_pos hk, sameK_iff.2 hk, if_pos rfl]
        cases hg : c.gone <;> simp [alive, Option.filter, hg]
      · rw [if_neg hk, sameK_not.2 hk]
        simp
/-- What is left of the stable order of rows, and changes behind them, is what the document's way makes of them. -/
theorem keepLast_applied {rows l S : List Ch} (h : Rowed rows) (hS : Stb ltC (rows ++ l) S) : keepLast S = appliedC rows l := by
  refine (keepLast_rowed hS.rises).ext (applied_rowed h) fun k => ?_
  rw [keepLast_look hS.rises, applied_look k h]
  have e := hS.same ⟨k, k, false⟩
  have hf : ∀ m : List Ch, m.filter (eqv ltC ⟨k, k, false⟩) = m.filter (sameK k) := fun m => List.filter_congr fun x _ => eqvC _ _
  rw [hf, hf] at e
  show alive (lastK S k) = _
  rw [show lastK S k = lastK (rows ++ l) k by unfold lastK; rw [e], lastK_append, h.lastK]
end Go.Proofs.Ytihnghnafpgdfab
