/-
  IN WHICH FILES TWO DIFFER, AND WHAT IS PATCHED: chapter 4, as plain data. No program is named here.
-/
import Derived.Test.YtihnghnafpgdfabTopPure
namespace Go.Proofs.Ytihnghnafpgdfab
open Go.RowKit
set_option linter.unusedVariables false
set_option linter.unusedSimpArgs false

abbrev Rise (l : List Fi) : Prop := l.Pairwise (fun a b => ltB a.n b.n = true)

/-- D1, by two that are laid side by side. -/
def diffL : List Fi → List Fi → List ByteArray
  | [], [] => []
  | [], g :: m => g.n :: diffL [] m
  | f :: l, [] => f.n :: diffL l []
  | f :: l, g :: m =>
    if ltB f.n g.n = true then f.n :: diffL l (g :: m)
    else if ltB g.n f.n = true then g.n :: diffL (f :: l) m
    else if eqFi f g = true then diffL l m
    else f.n :: diffL l m
termination_by l m => l.length + m.length

theorem get_cons (f : Fi) (l : List Fi) (n : ByteArray) : getF (f :: l) n = if f.n = n then some f else getF l n := by
  unfold getF
  rw [List.find?_cons]
  by_cases h : f.n = n
  · rw [beqB_true h]; simp [h]
  · rw [beqB_false h]; simp [h]
theorem get_low {l : List Fi} {n : ByteArray} (h : ∀ f ∈ l, ltB n f.n = true) : getF l n = none := by
  rw [get_none]
  intro f hf e
  have := h f hf
  rw [e, ltB_irrefl] at this
  exact absurd this (by simp)
theorem rise_low {f : Fi} {l : List Fi} (h : Rise (f :: l)) {n : ByteArray} (hn : ltB n f.n = true) : getF (f :: l) n = none := by
  rw [Rise, List.pairwise_cons] at h
  apply get_low
  intro x hx
  rcases List.mem_cons.1 hx with rfl | hx
  · exact hn
  · exact ltB_trans hn (h.1 x hx)
theorem rise_tail {f : Fi} {l : List Fi} (h : Rise (f :: l)) : getF l f.n = none := by
  rw [Rise, List.pairwise_cons] at h
  exact get_low (fun x hx => h.1 x hx)

theorem mem_diff (l m : List Fi) (hl : Rise l) (hm : Rise m) (n : ByteArray) : n ∈ diffL l m ↔ getF l n ≠ getF m n := by
  induction l, m using diffL.induct with
  | case1 => simp [diffL]
  | case2 g m ih =>
    rw [diffL, List.mem_cons, ih hl hm.tail, get_cons]
    by_cases h : g.n = n
    · subst h; simp [getF]
    · simp only [h, if_false]
      constructor
      · rintro (e | e)
        · exact absurd e.symm h
        · exact e
      · exact .inr
  | case3 f l ih =>
    rw [diffL, List.mem_cons, ih hl.tail hm, get_cons]
    by_cases h : f.n = n
    · subst h; simp [getF]
    · simp only [h, if_false]
      constructor
      · rintro (e | e)
        · exact absurd e.symm h
        · exact e
      · exact .inr
  | case4 f l g m h1 ih =>
    rw [diffL, if_pos h1, List.mem_cons, ih hl.tail hm, get_cons f]
    by_cases h : f.n = n
    · subst h; rw [rise_low hm h1]; simp
    · simp only [h, if_false]
      constructor
      · rintro (e | e)
        · exact absurd e.symm h
        · exact e
      · exact .inr
  | case5 f l g m h1 h2 ih =>
    rw [diffL, if_neg h1, if_pos h2, List.mem_cons, ih hl hm.tail, get_cons g]
    by_cases h : g.n = n
    · subst h; rw [rise_low hl h2]; simp
    · simp only [h, if_false]
      constructor
      · rintro (e | e)
        · exact absurd e.symm h
        · exact e
      · exact .inr
  | case6 f l g m h1 h2 h3 ih =>
    have e := (eqFi_iff f g).1 h3
    subst e
    rw [diffL, if_neg h1, if_neg h2, if_pos h3, ih hl.tail hm.tail, get_cons, get_cons]
    by_cases h : f.n = n
    · subst h; rw [rise_tail hl, rise_tail hm]; simp
    · simp [h]
  | case7 f l g m h1 h2 h3 ih =>
    have e : f.n = g.n := ltB_tri (by simpa using h1) (by simpa using h2)
    rw [diffL, if_neg h1, if_neg h2, if_neg h3, List.mem_cons, ih hl.tail hm.tail, get_cons, get_cons, ← e]
    by_cases h : f.n = n
    · subst h
      simp only [if_true, true_or, true_iff]
      intro e2
      exact h3 ((eqFi_iff f g).2 (by simpa using e2))
    · simp only [h, if_false]
      constructor
      · rintro (e | e)
        · exact absurd e.symm h
        · exact e
      · exact .inr

theorem mem_diff_name {l m : List Fi} (hl : Rise l) (hm : Rise m) {n : ByteArray} (h : n ∈ diffL l m) : (∃ f ∈ l, f.n = n) ∨ (∃ g ∈ m, g.n = n) := by
  rw [mem_diff l m hl hm] at h
  cases h1 : getF l n with
  | some f => exact .inl ⟨f, (getF_mem h1).1, (getF_mem h1).2⟩
  | none =>
    cases h2 : getF m n with
    | some g => exact .inr ⟨g, (getF_mem h2).1, (getF_mem h2).2⟩
    | none => rw [h1, h2] at h; exact absurd rfl h

abbrev RiseB (l : List ByteArray) : Prop := l.Pairwise (fun a b => ltB a b = true)

theorem diff_rise (l m : List Fi) (hl : Rise l) (hm : Rise m) : RiseB (diffL l m) := by
  have cons_all : ∀ {f : Fi} {l : List Fi}, Rise (f :: l) → ∀ x ∈ l, ltB f.n x.n = true := fun h => (List.pairwise_cons.1 h).1
  induction l, m using diffL.induct with
  | case1 => simp [diffL]
  | case2 g m ih =>
    rw [diffL, RiseB, List.pairwise_cons]
    refine ⟨fun n hn => ?_, ih hl hm.tail⟩
    rcases mem_diff_name hl hm.tail hn with ⟨x, hx, rfl⟩ | ⟨x, hx, rfl⟩
    · exact absurd hx (by simp)
    · exact cons_all hm x hx
  | case3 f l ih =>
    rw [diffL, RiseB, List.pairwise_cons]
    refine ⟨fun n hn => ?_, ih hl.tail hm⟩
    rcases mem_diff_name hl.tail hm hn with ⟨x, hx, rfl⟩ | ⟨x, hx, rfl⟩
    · exact cons_all hl x hx
    · exact absurd hx (by simp)
  | case4 f l g m h1 ih =>
    rw [diffL, if_pos h1, RiseB, List.pairwise_cons]
    refine ⟨fun n hn => ?_, ih hl.tail hm⟩
    rcases mem_diff_name hl.tail hm hn with ⟨x, hx, rfl⟩ | ⟨x, hx, rfl⟩
    · exact cons_all hl x hx
    · rcases List.mem_cons.1 hx with rfl | hx
      · exact h1
      · exact ltB_trans h1 (cons_all hm x hx)
  | case5 f l g m h1 h2 ih =>
    rw [diffL, if_neg h1, if_pos h2, RiseB, List.pairwise_cons]
    refine ⟨fun n hn => ?_, ih hl hm.tail⟩
    rcases mem_diff_name hl hm.tail hn with ⟨x, hx, rfl⟩ | ⟨x, hx, rfl⟩
    · rcases List.mem_cons.1 hx with rfl | hx
      · exact h2
      · exact ltB_trans h2 (cons_all hl x hx)
    · exact cons_all hm x hx
  | case6 f l g m h1 h2 h3 ih =>
    rw [diffL, if_neg h1, if_neg h2, if_pos h3]
    exact ih hl.tail hm.tail
  | case7 f l g m h1 h2 h3 ih =>
    have e : f.n = g.n := ltB_tri (by simpa using h1) (by simpa using h2)
    rw [diffL, if_neg h1, if_neg h2, if_neg h3, RiseB, List.pairwise_cons]
    refine ⟨fun n hn => ?_, ih hl.tail hm.tail⟩
    rcases mem_diff_name hl.tail hm.tail hn with ⟨x, hx, rfl⟩ | ⟨x, hx, rfl⟩
    · exact cons_all hl x hx
    · rw [e]; exact cons_all hm x hx

/-- Texts that rise are told by what is among them. -/
theorem riseB_ext {l m : List ByteArray} (hl : RiseB l) (hm : RiseB m) (h : ∀ x, x ∈ l ↔ x ∈ m) : l = m := by
  have key : ∀ {k : List ByteArray}, RiseB k → Rise (k.map (fun n => (⟨n, ⟨#[]⟩, 0⟩ : Fi))) := by
    intro k hk
    rw [Rise, List.pairwise_map]
    exact hk
  have := pw_ext (key hl) (key hm) (fun x => by
    simp only [List.mem_map]
    constructor
    · rintro ⟨n, hn, rfl⟩; exact ⟨n, (h n).1 hn, rfl⟩
    · rintro ⟨n, hn, rfl⟩; exact ⟨n, (h n).2 hn, rfl⟩)
  have h2 := congrArg (List.map Fi.n) this
  simpa [List.map_map, Function.comp_def] using h2

theorem diff_comm {l m : List Fi} (hl : Good l) (hm : Good m) : diffL l m = diffL m l :=
  riseB_ext (diff_rise _ _ hl.pw hm.pw) (diff_rise _ _ hm.pw hl.pw) (fun n => by rw [mem_diff _ _ hl.pw hm.pw, mem_diff _ _ hm.pw hl.pw]; exact ⟨Ne.symm, Ne.symm⟩)

theorem get_ext {l m : List Fi} (hl : Good l) (hm : Good m) (h : ∀ n, getF l n = getF m n) : l = m :=
  hl.ext hm (fun x => by
    constructor
    · intro hx
      have := hl.get_iff.2 ⟨hx, rfl⟩
      rw [h] at this
      exact (getF_mem this).1
    · intro hx
      have := hm.get_iff.2 ⟨hx, rfl⟩
      rw [← h] at this
      exact (getF_mem this).1)

theorem diff_none {l m : List Fi} (hl : Good l) (hm : Good m) : (diffL l m).length = 0 ↔ l = m := by
  constructor
  · intro h
    apply get_ext hl hm
    intro n
    have : ¬ n ∈ diffL l m := by rw [List.length_eq_zero_iff.1 h]; simp
    rw [mem_diff _ _ hl.pw hm.pw] at this
    exact Classical.not_not.1 this
  · rintro rfl
    rw [List.length_eq_zero_iff]
    apply List.eq_nil_iff_forall_not_mem.2
    intro n hn
    rw [mem_diff _ _ hl.pw hl.pw] at hn
    exact hn rfl

/-! ### what the program gathers, ahead of its sort -/
def gatherA (m : List Fi) (f : Fi) : Bool := match getF m f.n with
  | none => true
  | some g => !eqFi f g
def gatherB (l : List Fi) (g : Fi) : Bool := (getF l g.n).isNone
def gathered (l m : List Fi) : List ByteArray := (l.filter (gatherA m)).map Fi.n ++ (m.filter (gatherB l)).map Fi.n

theorem gatherA_iff {m : List Fi} {f : Fi} : gatherA m f = true ↔ getF m f.n ≠ some f := by
  unfold gatherA
  cases h : getF m f.n with
  | none => simp
  | some g =>
    simp only [Bool.not_eq_true']
    constructor
    · intro e e2
      have : g = f := by simpa using e2
      subst this
      rw [(eqFi_iff g g).2 rfl] at e
      exact absurd e (by simp)
    · intro e
      cases e2 : eqFi f g
      · rfl
      · exact absurd (by rw [(eqFi_iff f g).1 e2]) e

theorem mem_gathered {l m : List Fi} (hl : Good l) (hm : Good m) (n : ByteArray) : n ∈ gathered l m ↔ getF l n ≠ getF m n := by
  unfold gathered
  simp only [List.mem_append, List.mem_map, List.mem_filter]
  constructor
  · rintro (⟨f, ⟨hf, h⟩, rfl⟩ | ⟨g, ⟨hg, h⟩, rfl⟩)
    · rw [hl.get_iff.2 ⟨hf, rfl⟩]
      exact (gatherA_iff.1 h).symm
    · rw [hm.get_iff.2 ⟨hg, rfl⟩]
      simp only [gatherB, Option.isNone_iff_eq_none] at h
      rw [h]; simp
  · intro h
    cases h1 : getF l n with
    | some f =>
      obtain ⟨hf, rfl⟩ := getF_mem h1
      rw [h1] at h
      exact .inl ⟨f, ⟨hf, gatherA_iff.2 h.symm⟩, rfl⟩
    | none =>
      cases h2 : getF m n with
      | some g =>
        obtain ⟨hg, rfl⟩ := getF_mem h2
        exact .inr ⟨g, ⟨hg, by simp [gatherB, h1]⟩, rfl⟩
      | none => rw [h1, h2] at h; exact absurd rfl h

theorem rise_ne {l : List Fi} (h : Rise l) : (l.map Fi.n).Pairwise (fun a b => a ≠ b) := by
  rw [List.pairwise_map]
  exact h.imp (fun {a b} hab e => by rw [e, ltB_irrefl] at hab; exact absurd hab (by simp))
theorem nodup_gathered {l m : List Fi} (hl : Good l) (hm : Good m) : (gathered l m).Pairwise (fun a b => a ≠ b) := by
  unfold gathered
  rw [List.pairwise_append]
  refine ⟨rise_ne (hl.pw.filter _), rise_ne (hm.pw.filter _), ?_⟩
  intro a ha b hb e
  subst e
  simp only [List.mem_map, List.mem_filter] at ha hb
  obtain ⟨f, ⟨hf, _⟩, rfl⟩ := ha
  obtain ⟨g, ⟨hg, h⟩, e⟩ := hb
  simp only [gatherB, Option.isNone_iff_eq_none] at h
  rw [e, hl.get_iff.2 ⟨hf, rfl⟩] at h
  exact absurd h (by simp)

theorem ltB_of_le_ne {a b : ByteArray} (h : a.data.toList ≤ b.data.toList) (hn : a ≠ b) : ltB a b = true := by
  cases h1 : ltB a b
  · exfalso
    have h2 : ltB b a = false := by
      unfold ltB; rw [bytesLess_lt]; simp [ByteArray.toList_eq]; exact h
    exact hn (ltB_tri h1 h2)
  · rfl

/-- Sorted, it is D1. -/
theorem sorted_gathered {l m : List Fi} (hl : Good l) (hm : Good m) : ((gathered l m).map (fun n => n.data.toList)).mergeSort (fun x y => decide (x ≤ y)) = (diffL l m).map (fun n => n.data.toList) := by
  have inj : ∀ {a b : ByteArray}, a.data.toList = b.data.toList → a = b := fun {a b} h => toList_inj (by rw [ByteArray.toList_eq, ByteArray.toList_eq]; exact h)
  have hperm := List.mergeSort_perm ((gathered l m).map (fun n => n.data.toList)) (fun x y => decide (x ≤ y))
  have hsort : (((gathered l m).map (fun n => n.data.toList)).mergeSort (fun x y => decide (x ≤ y))).Pairwise (fun a b => (decide (a ≤ b)) = true) :=
    List.pairwise_mergeSort (le := fun (x y : List UInt8) => decide (x ≤ y)) (by intro a b c h1 h2; simp at *; exact List.le_trans h1 h2) (by intro a b; simp; exact List.le_total a b) _
  generalize hS : ((gathered l m).map (fun n => n.data.toList)).mergeSort (fun x y => decide (x ≤ y)) = S at hperm hsort
  -- the same as texts
  have hS2 : S = (S.map (fun x => (⟨x.toArray⟩ : ByteArray))).map (fun n => n.data.toList) := by simp [List.map_map, Function.comp_def]
  rw [hS2]
  congr 1
  have hne : S.Pairwise (fun a b => a ≠ b) := by
    refine (hperm.pairwise_iff (fun {a b} h => Ne.symm h)).2 ?_
    rw [List.pairwise_map]
    exact (nodup_gathered hl hm).imp (fun {a b} h e => h (inj e))
  apply riseB_ext
  · rw [RiseB, List.pairwise_map]
    exact (hsort.and hne).imp (fun {a b} h => ltB_of_le_ne (by simpa using h.1) (fun e => h.2 (by simpa using congrArg (fun z : ByteArray => z.data.toList) e)))
  · exact diff_rise _ _ hl.pw hm.pw
  · intro n
    rw [mem_diff _ _ hl.pw hm.pw, ← mem_gathered hl hm]
    simp only [List.mem_map]
    constructor
    · rintro ⟨x, hx, rfl⟩
      have := hperm.mem_iff.1 hx
      simp only [List.mem_map] at this
      obtain ⟨k, hk, rfl⟩ := this
      simpa using hk
    · intro hn
      exact ⟨n.data.toList, hperm.mem_iff.2 (by simp only [List.mem_map]; exact ⟨n, hn, rfl⟩), by simp⟩

/-! ### D2 -/
def withoutL (l : List Fi) (names : List ByteArray) : List Fi := l.filter (fun f => !names.any (fun n => n.toList == f.n.toList))

/-- What is put, one behind the other: the files, or the number of an error. -/
def patchGo (m : List Fi) : List ByteArray → List Fi → List Fi × Int
  | [], l => (l, 0)
  | n :: ns, l => match getF m n with
    | none => patchGo m ns l
    | some f => if putN l f = 0 then patchGo m ns (putF l f) else ([], putN l f)

theorem any_name {names : List ByteArray} {n : ByteArray} : names.any (fun x => x.toList == n.toList) = true ↔ n ∈ names := by
  rw [List.any_eq_true]
  constructor
  · rintro ⟨x, hx, e⟩
    rw [← toList_inj (by simpa using e : x.toList = n.toList)]; exact hx
  · intro h; exact ⟨n, h, by simp⟩
theorem mem_without {l : List Fi} {names : List ByteArray} {x : Fi} : x ∈ withoutL l names ↔ x ∈ l ∧ ¬ x.n ∈ names := by
  unfold withoutL
  rw [List.mem_filter]
  constructor
  · rintro ⟨h1, h2⟩
    exact ⟨h1, fun h => by rw [any_name.2 h] at h2; exact absurd h2 (by simp)⟩
  · rintro ⟨h1, h2⟩
    refine ⟨h1, ?_⟩
    cases h3 : names.any (fun n => n.toList == x.n.toList)
    · rfl
    · exact absurd (any_name.1 h3) h2
theorem good_without {l : List Fi} (h : Good l) (names : List ByteArray) : Good (withoutL l names) :=
  pw_good (Nat.le_trans (List.length_filter_le _ _) h.few) (fun f hf => h.each f (List.mem_filter.1 hf).1) (h.pw.filter _)
theorem get_without {l : List Fi} (h : Good l) (names : List ByteArray) (n : ByteArray) : (n ∈ names → getF (withoutL l names) n = none) ∧ (¬ n ∈ names → getF (withoutL l names) n = getF l n) := by
  refine ⟨fun hn => ?_, fun hn => ?_⟩
  · rw [get_none]
    intro f hf e
    exact (mem_without.1 hf).2 (by rw [e]; exact hn)
  · cases h1 : getF l n with
    | none =>
      rw [get_none] at h1 ⊢
      intro f hf
      exact h1 f (mem_without.1 hf).1
    | some f =>
      obtain ⟨hf, rfl⟩ := getF_mem h1
      exact (good_without h names).get_iff.2 ⟨mem_without.2 ⟨hf, hn⟩, rfl⟩

/-- One behind the other it goes as at once. -/
theorem without_snoc {l : List Fi} (h : Good l) (names : List ByteArray) (n : ByteArray) : withoutL l (names ++ [n]) = if hasF (withoutL l names) n = true then dropF (withoutL l names) n else withoutL l names := by
  have hw := good_without h names
  split
  · rename_i hh
    refine (good_without h _).ext (good_drop hw n) (fun x => ?_)
    rw [mem_drop hw hh, mem_without, mem_without]
    simp only [List.mem_append, List.mem_singleton, not_or]
    exact ⟨fun ⟨a, b, c⟩ => ⟨⟨a, b⟩, c⟩, fun ⟨⟨a, b⟩, c⟩ => ⟨a, b, c⟩⟩
  · rename_i hh
    refine (good_without h _).ext hw (fun x => ?_)
    rw [mem_without, mem_without]
    simp only [List.mem_append, List.mem_singleton, not_or]
    refine ⟨fun ⟨a, b, c⟩ => ⟨a, b⟩, fun ⟨a, b⟩ => ⟨a, b, fun e => hh ((has_iff hw n).2 ⟨x, mem_without.2 ⟨a, b⟩, e⟩)⟩⟩

theorem patch_step (m l : List Fi) (names : List ByteArray) (k : Nat) (h : k < names.length) : patchGo m (names.drop k) l = match getF m names[k] with
    | none => patchGo m (names.drop (k + 1)) l
    | some f => if putN l f = 0 then patchGo m (names.drop (k + 1)) (putF l f) else ([], putN l f) := by
  rw [List.drop_eq_getElem_cons h, patchGo]

theorem putN_file {l : List Fi} {f : Fi} (hf : f.fault = 0) : putN l f = 0 ∨ putN l f = 7 := by
  unfold putN
  rw [if_neg (by simp [hf])]
  split <;> simp
theorem good_put' {l : List Fi} (hl : Good l) {f : Fi} (h : putN l f = 0) : Good (putF l f) := by
  have hf : f.fault = 0 := by
    unfold putN at h
    split at h
    · exact absurd h ‹_›
    · rename_i h1; exact Classical.not_not.1 h1
  refine good_put hl hf (fun hh => ?_)
  unfold putN at h
  rw [if_neg (by simp [hf])] at h
  split at h
  · exact absurd h (by simp)
  · rename_i h1
    rcases Nat.lt_or_ge l.length 8 with h2 | h2
    · exact h2
    · exact absurd ⟨hh, h2⟩ h1

/-- What comes of it: files that may be, or ErrFull. -/
theorem patch_good {m : List Fi} (hm : Good m) : ∀ (names : List ByteArray) (l : List Fi), Good l →
    ((patchGo m names l).2 = 0 ∧ Good (patchGo m names l).1 ∧ ∀ n, (n ∈ names → (getF m n).isSome = true → getF (patchGo m names l).1 n = getF m n) ∧ ((¬ n ∈ names ∨ getF m n = none) → getF (patchGo m names l).1 n = getF l n)) ∨ ((patchGo m names l).2 = 7 ∧ (patchGo m names l).1 = [])
  | [], l, hl => .inl ⟨rfl, hl, fun n => ⟨fun h => absurd h (by simp), fun _ => rfl⟩⟩
  | a :: ns, l, hl => by
    rw [patchGo]
    cases h : getF m a with
    | none =>
      rcases patch_good hm ns l hl with ⟨h0, h1, h2⟩ | h1
      · refine .inl ⟨h0, h1, fun n => ⟨fun hn hs => ?_, fun hn => ?_⟩⟩
        · rcases List.mem_cons.1 hn with rfl | hn
          · rw [h] at hs; exact absurd hs (by simp)
          · exact (h2 n).1 hn hs
        · apply (h2 n).2
          rcases hn with hn | hn
          · exact .inl (fun e => hn (List.mem_cons_of_mem _ e))
          · exact .inr hn
      · exact .inr h1
    | some f =>
      obtain ⟨hf, hn⟩ := getF_mem h
      simp only
      rcases putN_file (l := l) (hm.each f hf) with h0 | h0
      · rw [if_pos h0]
        have hp := good_put' hl h0
        rcases patch_good hm ns (putF l f) hp with ⟨h1, h2, h3⟩ | h1
        · refine .inl ⟨h1, h2, fun n => ⟨fun hx hs => ?_, fun hx => ?_⟩⟩
          · by_cases e : n ∈ ns
            · exact (h3 n).1 e hs
            · rw [(h3 n).2 (.inl e)]
              rcases List.mem_cons.1 hx with rfl | hx
              · rw [h, ← hn]; exact get_put_same hl hp
              · exact absurd hx e
          · have ne : ¬ n = a := by
              rintro rfl
              rcases hx with hx | hx
              · exact hx (by simp)
              · rw [h] at hx; exact absurd hx (by simp)
            rw [(h3 n).2 (by
              rcases hx with hx | hx
              · exact .inl (fun e => hx (List.mem_cons_of_mem _ e))
              · exact .inr hx)]
            exact get_put_other hl hp (by rw [hn]; exact ne)
        · exact .inr h1
      · rw [if_neg (by omega)]
        exact .inr ⟨h0, rfl⟩

/-- D2 as a whole. -/
def patchR (l m : List Fi) (names : List ByteArray) : List Fi × Int := patchGo m names (withoutL l names)

theorem patched_get {l m : List Fi} (hl : Good l) (hm : Good m) (names : List ByteArray) (h : (patchR l m names).2 = 0) : Good (patchR l m names).1 ∧ ∀ n, (n ∈ names → getF (patchR l m names).1 n = getF m n) ∧ (¬ n ∈ names → getF (patchR l m names).1 n = getF l n) := by
  rcases patch_good hm names _ (good_without hl names) with ⟨h0, h1, h2⟩ | h1
  · refine ⟨h1, fun n => ⟨fun hn => ?_, fun hn => ?_⟩⟩
    · cases h3 : getF m n with
      | none => exact ((h2 n).2 (.inr h3)).trans ((get_without hl names n).1 hn)
      | some f => rw [← h3]; exact (h2 n).1 hn (by rw [h3]; rfl)
    · exact ((h2 n).2 (.inl hn)).trans ((get_without hl names n).2 hn)
  · unfold patchR at h
    omega
theorem patch_num {l m : List Fi} (hl : Good l) (hm : Good m) (names : List ByteArray) : (patchR l m names).2 = 0 ∨ (patchR l m names).2 = 7 := by
  rcases patch_good hm names _ (good_without hl names) with ⟨h0, _⟩ | h1
  · exact .inl h0
  · exact .inr h1.1

theorem distinct_len {α : Type} [DecidableEq α] : ∀ (a b : List α), a.Pairwise (fun x y => x ≠ y) → (∀ x ∈ a, x ∈ b) → a.length ≤ b.length
  | [], _, _, _ => Nat.zero_le _
  | x :: a, b, hp, hs => by
    rw [List.pairwise_cons] at hp
    have hx := hs x (by simp)
    have := distinct_len a (b.erase x) hp.2 (fun y hy => (List.mem_erase_of_ne (Ne.symm (hp.1 y hy))).2 (hs y (List.mem_cons_of_mem _ hy)))
    rw [List.length_erase_of_mem hx] at this
    have h0 := List.length_pos_of_mem hx
    simp only [List.length_cons]
    omega

/-- There is room for what is put, while it stays within another one. -/
theorem patch_room {m : List Fi} (hm : Good m) : ∀ (names : List ByteArray) (l : List Fi), Good l → (∀ f ∈ l, f.n ∈ m.map Fi.n) → (patchGo m names l).2 = 0
  | [], l, _, _ => rfl
  | a :: ns, l, hl, hs => by
    rw [patchGo]
    cases h : getF m a with
    | none => exact patch_room hm ns l hl hs
    | some f =>
      obtain ⟨hf, hn⟩ := getF_mem h
      have hin : ∀ x ∈ putF l f, x.n ∈ m.map Fi.n := by
        intro x hx
        rcases (mem_put hl f x).1 hx with rfl | ⟨h1, _⟩
        · exact List.mem_map.2 ⟨x, hf, rfl⟩
        · exact hs x h1
      have h0 : putN l f = 0 := by
        refine putN_of (hm.each f hf) (fun hh => ?_)
        -- the names of l, and f's, are names of m, and no two are one
        have hsub : (f.n :: l.map Fi.n).length ≤ (m.map Fi.n).length := by
          refine @distinct_len ByteArray (fun _ _ => Classical.propDecidable _) _ _ ?_ ?_
          · rw [List.pairwise_cons]
            refine ⟨?_, ?_⟩
            · intro y hmem e0
              obtain ⟨x, hx, e⟩ := List.mem_map.1 hmem
              have := (has_iff hl f.n).2 ⟨x, hx, e.trans e0.symm⟩
              rw [hh] at this
              exact absurd this (by simp)
            · exact rise_ne hl.pw
          · intro x hx
            rcases List.mem_cons.1 hx with rfl | hx
            · exact List.mem_map.2 ⟨f, hf, rfl⟩
            · obtain ⟨y, hy, rfl⟩ := List.mem_map.1 hx
              exact hs y hy
        have := hm.few
        simp at hsub
        omega
      simp only [h0, if_true]
      exact patch_room hm ns _ (good_put' hl h0) hin

/-- Patched in what differs a quilt is the other one. -/
theorem patch_diff {l m : List Fi} (hl : Good l) (hm : Good m) : patchR l m (diffL l m) = (m, 0) := by
  have h0 : (patchR l m (diffL l m)).2 = 0 := by
    refine patch_room hm _ _ (good_without hl _) (fun f hf => ?_)
    obtain ⟨h1, h2⟩ := mem_without.1 hf
    rw [mem_diff _ _ hl.pw hm.pw] at h2
    have h3 := Classical.not_not.1 h2
    rw [hl.get_iff.2 ⟨h1, rfl⟩] at h3
    exact List.mem_map.2 ⟨f, (getF_mem h3.symm).1, rfl⟩
  obtain ⟨hg, hget⟩ := patched_get hl hm _ h0
  have : (patchR l m (diffL l m)).1 = m := by
    apply get_ext hg hm
    intro n
    by_cases h : n ∈ diffL l m
    · exact (hget n).1 h
    · rw [(hget n).2 h]
      rw [mem_diff _ _ hl.pw hm.pw] at h
      exact Classical.not_not.1 h
  exact Prod.ext this h0

/-- Patched in less it differs in no more. -/
theorem patch_part {l m : List Fi} (hl : Good l) (hm : Good m) (k : Nat) (h : (patchR l m ((diffL l m).take k)).2 = 0) : diffL (patchR l m ((diffL l m).take k)).1 m = (diffL l m).drop k := by
  obtain ⟨hg, hget⟩ := patched_get hl hm _ h
  have hr := diff_rise _ _ hl.pw hm.pw
  refine riseB_ext (diff_rise _ _ hg.pw hm.pw) (hr.sublist (List.drop_sublist _ _)) (fun n => ?_)
  rw [mem_diff _ _ hg.pw hm.pw]
  have hsplit : n ∈ diffL l m ↔ n ∈ (diffL l m).take k ∨ n ∈ (diffL l m).drop k := by
    rw [← List.mem_append, List.take_append_drop]
  have hdis : n ∈ (diffL l m).take k → ¬ n ∈ (diffL l m).drop k := by
    intro h1 h2
    have := hr
    rw [← List.take_append_drop k (diffL l m)] at this
    rw [RiseB, List.pairwise_append] at this
    have h3 := this.2.2 n h1 n h2
    rw [ltB_irrefl] at h3
    exact absurd h3 (by simp)
  by_cases e : n ∈ (diffL l m).take k
  · rw [(hget n).1 e]
    constructor
    · intro h1; exact absurd rfl h1
    · intro h1; exact absurd h1 (hdis e)
  · rw [(hget n).2 e, ← mem_diff _ _ hl.pw hm.pw, hsplit]
    simp [e]

end Go.Proofs.Ytihnghnafpgdfab
