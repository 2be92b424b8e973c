/-
  ROWS AND CHANGES IN MEMORY; slices.Grow, slices.Concat, slices.Clone and append at them.
  THE WALKS OF PACKAGE row, AND OF THE DOCUMENT's ANSWER TO CHAPTER 7: Check, Bytes, Parse.
  THE WALKS OF row.Parse, AND OF THE DOCUMENT's ANSWER TO IT.
-/
import Derived.Test.YtihnghnafpgdfabDoorQuiltClone
import Derived.Test.YtihnghnafpgdfabDoorActsBase
import Derived.Test.YtihnghnafpgdfabDoorShelfCat
import Derived.Laws.IdiomStrings
import Derived.Shelf.SlSortCmp.KitK
namespace Go.Proofs.YtihnghnafpgdfabDoor
open Go.RowKit
set_option linter.unusedVariables false
set_option linter.unusedSimpArgs false

/-- The cells of a slice's elements hold these changes. -/
def CC (w : World) (a : Option Addr) (l : List Ch) : Prop :=
  ∀ i (h : i < l.length), ∃ b off, a = some ⟨b, off, none⟩ ∧ w.cell? ⟨b, off + i * 3, none⟩ = some (.string l[i].key) ∧ w.cell? ⟨b, off + i * 3 + 1, none⟩ = some (.string l[i].val) ∧ w.cell? ⟨b, off + i * 3 + 2, none⟩ = some (.bool l[i].gone)
theorem ChCells.cc {w : World} {a : Option Addr} {l : List Ch} (h : ChCells w a l) : CC w a l := fun i hi => by
  obtain ⟨b, off, e, c0, c1, c2, _⟩ := h i hi
  exact ⟨b, off, e, c0, c1, c2⟩
theorem CC.below {w w' : World} {a : Option Addr} {l : List Ch} (h : CC w a l) (hb : Below w.heap.size w w') : CC w' a l := by
  intro i hi
  obtain ⟨b, off, rfl, c0, c1, c2⟩ := h i hi
  exact ⟨b, off, rfl, by rw [hb.cell (World.block_lt_of_cell? _ _ c0)]; exact c0, by rw [hb.cell (World.block_lt_of_cell? _ _ c1)]; exact c1, by rw [hb.cell (World.block_lt_of_cell? _ _ c2)]; exact c2⟩
theorem CC.drewN {w : World} {a : Option Addr} {l : List Ch} (h : CC w a l) (q : Nat) : CC (w.drewN q) a l := by
  intro i hi
  simpa using h i hi
theorem CC.alloc {w : World} {a : Option Addr} {l : List Ch} (h : CC w a l) (o : Obj) : CC (w.alloc o) a l :=
  h.below ((Below.refl _ _).alloc (Nat.le_refl _) o)
theorem CC.nil (w : World) (a : Option Addr) : CC w a [] := fun i h => absurd h (Nat.not_lt_zero _)
/-- A slice of changes. -/
structure SliceC (w : World) (a : Option Addr) (cap : Nat) (l : List Ch) : Prop where
  cells : CC w a l
  nil : a = none → cap = 0
theorem SliceC.below {w w' : World} {a : Option Addr} {cap : Nat} {l : List Ch} (h : SliceC w a cap l) (hb : Below w.heap.size w w') : SliceC w' a cap l := ⟨h.cells.below hb, h.nil⟩

theorem Tryd.infoChange : (Tryd.prog.info? 41).map (fun i => (i.zero, i.size, i.bytes)) = some (some (.agg #[.string ⟨#[]⟩, .string ⟨#[]⟩, .bool false]), 3, 40) := by kernel_rfl

/-- The cells of files, one behind the other. -/
def flatC : List Ch → List Value
  | [] => []
  | f :: r => .string f.key :: .string f.val :: .bool f.gone :: flatC r

theorem flatC_length : ∀ l : List Ch, (flatC l).length = l.length * 3
  | [] => rfl
  | f :: r => by simp only [flatC, List.length_cons, flatC_length r]; omega
theorem flatC_append : ∀ l m : List Ch, flatC (l ++ m) = flatC l ++ flatC m
  | [], m => rfl
  | f :: r, m => by simp only [List.cons_append, flatC, flatC_append r m]
theorem flatC_one : ∀ l : List Ch, ∀ u ∈ flatC l, u.oneCell' = true
  | [], u, h => by simp [flatC] at h
  | f :: r, u, h => by
    simp only [flatC, List.mem_cons] at h
    rcases h with rfl | rfl | rfl | h
    · rfl
    · rfl
    · rfl
    · exact flatC_one r u h
theorem flatC_at : ∀ (l : List Ch) (i : Nat) (h : i < l.length), (flatC l)[i * 3]? = some (.string l[i].key) ∧ (flatC l)[i * 3 + 1]? = some (.string l[i].val) ∧ (flatC l)[i * 3 + 2]? = some (.bool l[i].gone)
  | f :: r, 0, h => by simp [flatC]
  | f :: r, i + 1, h => by
    have ih := flatC_at r i (by simpa using h)
    simp only [flatC, List.getElem_cons_succ]
    rw [show (i + 1) * 3 = i * 3 + 1 + 1 + 1 by omega]
    simpa [Nat.add_assoc] using ih

/-- What a slice's cells give, one by one. -/
theorem CC.flatC {w : World} {b off : Nat} {l : List Ch} (h : CC w (some ⟨b, off, none⟩) l) : ∀ j u, (flatC l)[j]? = some u → w.cell? ((⟨b, off, none⟩ : Addr).add j) = some u := by
  intro j u hu
  have hj : j < (Go.Proofs.YtihnghnafpgdfabDoor.flatC l).length := by
    rcases Nat.lt_or_ge j (Go.Proofs.YtihnghnafpgdfabDoor.flatC l).length with h1 | h1
    · exact h1
    · rw [List.getElem?_eq_none h1] at hu; exact absurd hu (by simp)
  rw [flatC_length] at hj
  obtain ⟨b', off', e, c0, c1, c2⟩ := h (j / 3) (by omega)
  cases e
  obtain ⟨f0, f1, f2⟩ := flatC_at l (j / 3) (by omega)
  have hadd : (⟨b, off, none⟩ : Addr).add j = ⟨b, off + j, none⟩ := by unfold Addr.add; split <;> simp_all
  rw [hadd]
  have h3 : j = j / 3 * 3 ∨ j = j / 3 * 3 + 1 ∨ j = j / 3 * 3 + 2 := by omega
  rcases h3 with h3 | h3 | h3
  · rw [h3, f0] at hu
    rw [h3, ← hu]
    exact c0
  · rw [h3, f1] at hu
    rw [h3, ← hu, ← Nat.add_assoc]
    exact c1
  · rw [h3, f2] at hu
    rw [h3, ← hu, ← Nat.add_assoc]
    exact c2

/-- Files in memory of one's own. -/
abbrev OwnsC (w : World) (base : Nat) (v : Value) (l : List Ch) : Prop := w.ownsRow base 41 3 v l.length (flatC l)

theorem OwnsC.files {w : World} {base : Nat} {v : Value} {l : List Ch} (h : OwnsC w base v l) : ∃ a cap, v = .slice a l.length cap ∧ CC w a l ∧ (a = none → cap = 0) ∧ cap ≤ maxLen ∧ l.length ≤ cap ∧ (∀ x, a = some x → base ≤ x.block ∧ x.off = 0 ∧ x.spot = none) := by
  rcases h.2 with ⟨rfl, h0⟩ | ⟨g, cap, cur, rfl, hb, hg, hn, hm, hs, ht⟩
  · have e : l = [] := List.eq_nil_of_length_eq_zero h0
    subst e
    exact ⟨none, 0, rfl, CC.nil _ _, fun _ => rfl, Nat.zero_le _, Nat.le_refl _, fun x hx => by cases hx⟩
  · refine ⟨some ⟨g, 0, none⟩, cap, rfl, ?_, (fun h => by cases h), hm, hn, (fun x hx => by cases hx; exact ⟨hb, rfl, rfl⟩)⟩
    intro i hi
    obtain ⟨f0, f1, f2⟩ := flatC_at l i hi
    refine ⟨g, 0, rfl, ?_, ?_, ?_⟩
    · rw [h.cellAt (0 + i * 3) (by omega), Nat.zero_add]; exact f0
    · rw [h.cellAt (0 + i * 3 + 1) (by omega), Nat.zero_add]; exact f1
    · rw [h.cellAt (0 + i * 3 + 2) (by omega), Nat.zero_add]; exact f2


/-- A piece that is joinedC: a slice, and what it holds. -/
structure PartC where
  a : Option Addr
  cap : Nat
  l : List Ch

def PartC.v (p : PartC) : Value := .slice p.a p.l.length p.cap
def joinedC (P : List PartC) : List Ch := P.flatMap (fun p => p.l)

/-- The pieces lie in a row of slices, each with its files, none in memory from B on. -/
def PartsC (w : World) (B : Nat) (P : List PartC) : Prop :=
  ∀ i (h : i < P.length), w.cell? ⟨B, i, none⟩ = some (.slice P[i].a P[i].l.length P[i].cap) ∧ CC w P[i].a P[i].l ∧ (P[i].a = none → P[i].cap = 0) ∧ (∀ x, P[i].a = some x → P[i].l = [] ∨ x.spot = none)

theorem PartsC.below {w w' : World} {B : Nat} {P : List PartC} (h : PartsC w B P) (hb : Below w.heap.size w w') : PartsC w' B P := by
  intro i hi
  obtain ⟨h1, h2, h3, h4⟩ := h i hi
  exact ⟨by rw [hb.cell (World.block_lt_of_cell? _ _ h1)]; exact h1, h2.below hb, h3, h4⟩

def lensC : List PartC → Nat
  | [] => 0
  | p :: r => p.l.length + lensC r
theorem lensC_snoc : ∀ (P : List PartC) (k : Nat) (h : k < P.length), lensC (P.take (k + 1)) = lensC (P.take k) + P[k].l.length
  | p :: r, 0, h => by simp [lensC]
  | p :: r, k + 1, h => by
    have := lensC_snoc r k (by simpa using h)
    simp only [List.take_succ_cons, lensC, List.getElem_cons_succ, this]
    omega
theorem lensC_le : ∀ (P : List PartC) (k : Nat), lensC (P.take k) ≤ lensC P
  | [], k => by simp [lensC]
  | p :: r, 0 => by simp [lensC]
  | p :: r, k + 1 => by
    have := lensC_le r k
    simp only [List.take_succ_cons, lensC]
    omega
theorem joinedC_length : ∀ P : List PartC, (joinedC P).length = lensC P
  | [] => rfl
  | p :: r => by
    have := joinedC_length r
    simp only [joinedC, List.flatMap_cons, List.length_append, lensC] at *
    omega
theorem joinedC_snoc (P : List PartC) (k : Nat) (h : k < P.length) : joinedC (P.take (k + 1)) = joinedC (P.take k) ++ P[k].l := by
  unfold joinedC
  rw [takeSucc P k h, List.flatMap_append]
  simp only [List.flatMap_cons, List.flatMap_nil, List.append_nil]

theorem CC.take {w : World} {a : Option Addr} {l : List Ch} (h : CC w a l) (p : Nat) : CC w a (l.take p) := by
  intro i hi
  simp only [List.length_take] at hi
  obtain ⟨b, off, e, c0, c1, c2⟩ := h i (by omega)
  exact ⟨b, off, e, by simpa using c0, by simpa using c1, by simpa using c2⟩

theorem CC.drop {w : World} {x : Addr} {l : List Ch} (h : CC w (some x) l) (p : Nat) : CC w (some (x.add (p * 3))) (l.drop p) := by
  intro i hi
  simp only [List.length_drop] at hi
  obtain ⟨b, off, e, c0, c1, c2⟩ := h (p + i) (by omega)
  cases e
  refine ⟨b, off + p * 3, ?_, ?_, ?_, ?_⟩
  · unfold Addr.add; split <;> simp_all
  · rw [show off + p * 3 + i * 3 = off + (p + i) * 3 by omega]; simpa using c0
  · rw [show off + p * 3 + i * 3 + 1 = off + (p + i) * 3 + 1 by omega]; simpa using c1
  · rw [show off + p * 3 + i * 3 + 2 = off + (p + i) * 3 + 2 by omega]; simpa using c2

theorem CC.one (w : World) (f : Ch) (t : TypeId) : CC (w.alloc (.cells #[.string f.key, .string f.val, .bool f.gone] t)) (some ⟨w.heap.size, 0, none⟩) [f] := by
  intro i hi
  have e : i = 0 := by simp at hi; exact hi
  subst e
  exact ⟨w.heap.size, 0, rfl, by simp [go_sem], by simp [go_sem], by simp [go_sem]⟩

/-- A piece is as it should be. -/
structure PartCOk (w : World) (p : PartC) : Prop where
  cells : CC w p.a p.l
  nil : p.a = none → p.cap = 0
  spot : ∀ x, p.a = some x → p.l = [] ∨ x.spot = none

theorem CC.spot {w : World} {a : Option Addr} {l : List Ch} (h : CC w a l) : ∀ x, a = some x → l = [] ∨ x.spot = none := by
  intro x hx
  cases l with
  | nil => exact .inl rfl
  | cons f r =>
    obtain ⟨b, off, e, _⟩ := h 0 (by simp)
    rw [hx] at e
    cases e
    exact .inr rfl

theorem partsC3 {W : World} {B : Nat} {p q r : PartC} (c0 : W.cell? ⟨B, 0, none⟩ = some p.v) (c1 : W.cell? ⟨B, 1, none⟩ = some q.v) (c2 : W.cell? ⟨B, 2, none⟩ = some r.v) (hp : PartCOk W p) (hq : PartCOk W q) (hr : PartCOk W r) : PartsC W B [p, q, r] := by
  intro i hi
  have h : i = 0 ∨ i = 1 ∨ i = 2 := by simp at hi; omega
  rcases h with rfl | rfl | rfl
  · exact ⟨c0, hp.cells, hp.nil, hp.spot⟩
  · exact ⟨c1, hq.cells, hq.nil, hq.spot⟩
  · exact ⟨c2, hr.cells, hr.nil, hr.spot⟩

theorem partsC2 {W : World} {B : Nat} {p q : PartC} (c0 : W.cell? ⟨B, 0, none⟩ = some p.v) (c1 : W.cell? ⟨B, 1, none⟩ = some q.v) (hp : PartCOk W p) (hq : PartCOk W q) : PartsC W B [p, q] := by
  intro i hi
  have h : i = 0 ∨ i = 1 := by simp at hi; omega
  rcases h with rfl | rfl
  · exact ⟨c0, hp.cells, hp.nil, hp.spot⟩
  · exact ⟨c1, hq.cells, hq.nil, hq.spot⟩

theorem OwnsC.base {w : World} {B B' : Nat} {v : Value} {l : List Ch} (h : OwnsC w B v l) (hb : B' ≤ B) : OwnsC w B' v l := by
  refine ⟨h.1, ?_⟩
  rcases h.2 with h0 | ⟨g, cap, cur, e, hg, rest⟩
  · exact .inl h0
  · exact .inr ⟨g, cap, cur, e, by omega, rest⟩

theorem threeC_one (f : Ch) : ∀ u ∈ [Value.string f.key, .string f.val, .bool f.gone], u.oneCell' = true := by
  intro u hu
  simp at hu
  rcases hu with rfl | rfl | rfl <;> rfl

theorem OwnsC.snoc {w : World} {B : Nat} {v : Value} {l : List Ch} {f : Ch} (h : w.ownsRow B 41 3 v (l.length + 1) (flatC l ++ [.string f.key, .string f.val, .bool f.gone])) : OwnsC w B v (l ++ [f]) := by
  show World.ownsRow _ _ _ _ _ _ _
  rw [flatC_append, List.length_append]
  exact h

theorem OwnsC.drewN {w : World} {B : Nat} {v : Value} {l : List Ch} (h : OwnsC w B v l) (n : Nat) : OwnsC (w.drewN n) B v l := h

theorem wpListC_copy {ops : Array Oper} {rest : List Oper} {o : Oper} {act : Act} {Q : Exit → Act → World → Prop} (hgd : o.guard = none) (s x : Operand)
    (ho : o.op = .call { callee := .builtin .append, args := #[s, x], argTypes := #[25, 25] })
    (W : World) (a : Option Addr) (cap : Nat) (l : List Ch) (hl : l.length ≤ 100) (hsl : SliceC W a cap l) (hs : act.eval s = .slice none 0 0) (hx : act.eval x = .slice a l.length cap)
    (h : ∀ v' w', OwnsC w' W.heap.size v' l → Below W.heap.size W w' → wpList Tryd.prog ops Q rest (act.put o.dst v') w') : wpList Tryd.prog ops Q (o :: rest) act W := by
  obtain ⟨i0, hi, hz0, hz1, hz2⟩ := info_parts Tryd.infoChange
  have hown : OwnsC W W.heap.size (.slice none 0 0) [] := World.ownsRow_nil _ _ _ _
  cases a with
  | none =>
    have e : l = [] := by
      cases l with
      | nil => rfl
      | cons g r => obtain ⟨_, _, e, _⟩ := hsl.cells 0 (by simp); cases e
    subst e
    have e := hsl.nil rfl
    subst e
    refine wpList_append_own_none hgd s x 25 ho W.heap.size 41 i0 3 Tryd.underlying25 hi _ _ _ hs hown (by simpa using hx) ?_
    exact h _ _ hown (Below.refl _ _)
  | some p =>
    have hcells : ∀ q u, (flatC l)[q]? = some u → W.cell? (p.add q) = some u := by
      rcases hsl.cells.spot p rfl with rfl | hsp
      · intro q u hu; simp [flatC] at hu
      · obtain ⟨xb, xo, xs⟩ := p
        simp at hsp
        subst hsp
        exact hsl.cells.flatC
    refine wpList_append_own _ hgd s x 25 ho W.heap.size 41 i0 _ 3 40 Tryd.underlying25 hi hz0 hz1 hz2 rfl (by decide) _ _ _ hs hown p l.length cap (flatC l) hx (flatC_length _) hcells (flatC_one _) (by unfold maxLen; simp; omega) (by simp; omega) (Nat.le_refl _) ?_
    intro v' w' hown' hgrow hnil
    refine h v' w' ?_ ((Below.refl _ _).grown hgrow (Nat.le_refl _) (fun q hq => (hown.lt q hq).1))
    show World.ownsRow _ _ _ _ _ _ _
    simpa [flatC] using hown'

end Go.Proofs.YtihnghnafpgdfabDoor
namespace Go.Proofs.YtihnghnafpgdfabDoor
open Go.RowKit
set_option linter.unusedVariables false
set_option linter.unusedSimpArgs false

abbrev Ch.v (c : Ch) : Value := .agg #[.string c.key, .string c.val, .bool c.gone]
/-- What G1 says of a change, by a number. -/
def changeF (c : Ch) : Int := if c.key.size = 0 ∨ c.gone = true ∧ ¬ c.val.size = 0 then 3 else if 8 < c.key.size ∨ 16 < c.val.size then 2 else 0
theorem changeF_rng (c : Ch) : 0 ≤ changeF c ∧ changeF c ≤ 100 := by unfold changeF; split <;> (try split) <;> omega
theorem empty_of_size {s : ByteArray} (h : s.size = 0) : s = ⟨#[]⟩ := by
  have : s.data = #[] := Array.eq_empty_of_size_eq_zero h
  cases s; simp_all

theorem changeF_3 {c : Ch} (h : c.key.size = 0 ∨ c.gone = true ∧ ¬ c.val.size = 0) : changeF c = 3 := by unfold changeF; rw [if_pos h]
theorem changeF_2 {c : Ch} (h1 : ¬ c.key.size = 0) (h2 : ¬ (c.gone = true ∧ ¬ c.val.size = 0)) (h3 : 8 < c.key.size ∨ 16 < c.val.size) : changeF c = 2 := by
  unfold changeF
  rw [if_neg (by rintro (h | h); exact h1 h; exact h2 h), if_pos h3]
theorem changeF_0 {c : Ch} (h1 : ¬ c.key.size = 0) (h2 : ¬ (c.gone = true ∧ ¬ c.val.size = 0)) (h3 : ¬ 8 < c.key.size) (h4 : ¬ 16 < c.val.size) : changeF c = 0 := by
  unfold changeF
  rw [if_neg (by rintro (h | h); exact h1 h; exact h2 h), if_neg (by omega)]
theorem changeF_good {c : Ch} (h : changeF c = 0) : ¬ c.key.size = 0 ∧ (c.gone = true → c.val.size = 0) ∧ c.key.size ≤ 8 ∧ c.val.size ≤ 16 := by
  unfold changeF at h
  split at h
  · omega
  · split at h
    · omega
    · rename_i h1 h2
      refine ⟨fun e => h1 (.inl e), fun e => ?_, by omega, by omega⟩
      by_cases e2 : c.val.size = 0
      · exact e2
      · exact absurd (.inr ⟨e, e2⟩) h1

set_option maxRecDepth 100000 in
set_option maxHeartbeats 1000000 in
theorem changeFault_any (c : Ch) (w : World) :
    Calls Tryd.prog 21 #[c.v] w fun e w' => e = .returned (.int .i64 (changeF c)) ∧ Below w.heap.size w w' := by
  obtain ⟨key, val, gone⟩ := c
  by_cases k0 : key.size = 0
  · have HF : Hid (changeF ⟨key, val, gone⟩ = 3) := changeF_3 (.inl k0)
    have e0 := empty_of_size k0
    subst e0
    go_enter Tryd.func21, Tryd.ntmps21
    go_wp2
    go_ret
    exact ⟨by rw [HF.out]; rfl, by repeat (first | exact Below.refl _ _ | refine Below.drew ?_ | refine Below.alloc ?_ (by simp) _)⟩
  · have hne : key.toList.isEmpty = false := isEmpty_false key k0
    by_cases v0 : val.size = 0
    · have e0 := empty_of_size v0
      by_cases k8 : 8 < key.size
      · have HF : Hid (changeF ⟨key, val, gone⟩ = 2) := changeF_2 k0 (fun h => h.2 v0) (.inl k8)
        subst e0
        cases gone
        all_goals
          go_enter Tryd.func21, Tryd.ntmps21
          go_wp2
          go_ret
          exact ⟨by rw [HF.out]; rfl, by repeat (first | exact Below.refl _ _ | refine Below.drew ?_ | refine Below.alloc ?_ (by simp) _)⟩
      · have HF : Hid (changeF ⟨key, val, gone⟩ = 0) := changeF_0 k0 (fun h => h.2 v0) k8 (by show ¬ 16 < val.size; omega)
        subst e0
        cases gone
        all_goals
          go_enter Tryd.func21, Tryd.ntmps21
          go_wp2
          go_ret
          exact ⟨by rw [HF.out]; rfl, by repeat (first | exact Below.refl _ _ | refine Below.drew ?_ | refine Below.alloc ?_ (by simp) _)⟩
    · have hnv : val.toList.isEmpty = false := isEmpty_false val v0
      cases gone
      · by_cases k8 : 8 < key.size
        · have HF : Hid (changeF ⟨key, val, false⟩ = 2) := changeF_2 k0 (fun h => by cases h.1) (.inl k8)
          go_enter Tryd.func21, Tryd.ntmps21
          go_wp2
          go_ret
          exact ⟨by rw [HF.out]; rfl, by repeat (first | exact Below.refl _ _ | refine Below.drew ?_ | refine Below.alloc ?_ (by simp) _)⟩
        · by_cases v16 : 16 < val.size
          · have HF : Hid (changeF ⟨key, val, false⟩ = 2) := changeF_2 k0 (fun h => by cases h.1) (.inr v16)
            go_enter Tryd.func21, Tryd.ntmps21
            go_wp2
            go_ret
            exact ⟨by rw [HF.out]; rfl, by repeat (first | exact Below.refl _ _ | refine Below.drew ?_ | refine Below.alloc ?_ (by simp) _)⟩
          · have HF : Hid (changeF ⟨key, val, false⟩ = 0) := changeF_0 k0 (fun h => by cases h.1) k8 v16
            go_enter Tryd.func21, Tryd.ntmps21
            go_wp2
            go_ret
            exact ⟨by rw [HF.out]; rfl, by repeat (first | exact Below.refl _ _ | refine Below.drew ?_ | refine Below.alloc ?_ (by simp) _)⟩
      · have HF : Hid (changeF ⟨key, val, true⟩ = 3) := changeF_3 (.inr ⟨rfl, v0⟩)
        go_enter Tryd.func21, Tryd.ntmps21
        go_wp2
        go_ret
        exact ⟨by rw [HF.out]; rfl, by repeat (first | exact Below.refl _ _ | refine Below.drew ?_ | refine Below.alloc ?_ (by simp) _)⟩

/-- The bytes of a change. -/
def goneB (c : Ch) : UInt8 := if c.gone = true then 1 else 0
def bytesC (c : Ch) : List UInt8 := goneB c :: UInt8.ofNat c.key.size :: (c.key.toList ++ c.val.toList)

theorem two_bytes (w : World) (n : Nat) (b : UInt8) (bi : Int) (hb : bi = (b.toNat : Int)) (hn : n < 256) (T : TypeId) : ∀ j (hj : j < [b, UInt8.ofNat n].length), (w.alloc (Obj.cells #[.int .u8 bi, .int .u8 n] T)).cell? ((⟨w.heap.size, 0, none⟩ : Addr).add j) = some (.int .u8 ([b, UInt8.ofNat n][j].toNat : Int)) := by
  intro j hj
  match j, hj with
  | 0, _ => subst hb; simp [Addr.add]
  | 1, _ =>
    have : (UInt8.ofNat n).toNat = n := by simp; omega
    simp [Addr.add, this]
theorem bytes_join (a b : UInt8) (x y : ByteArray) : (⟨#[a, b]⟩ : ByteArray) ++ x ++ y = ⟨(a :: b :: (x.toList ++ y.toList)).toArray⟩ := by
  rw [ByteArray.toList_eq, ByteArray.toList_eq]
  apply ByteArray.ext
  simp [ByteArray.data_append]
theorem ret_text {a b : ByteArray} (h : a = b) (v : Value) : Ending.returned (.tuple #[.string a, v]) = .returned (.tuple #[.string b, v]) := by rw [h]

end Go.Proofs.YtihnghnafpgdfabDoor
namespace Go.Proofs.YtihnghnafpgdfabDoor
open Go.RowKit
set_option linter.unusedVariables false
set_option linter.unusedSimpArgs false

/-- What G2 says of bytes: a change, if they are one's. -/
def byteAt (s : ByteArray) (i : Nat) : Nat := (s.data.toList.getD i 0).toNat
theorem byteAt_eq {s : ByteArray} {i : Nat} (h : i < s.size) : s[i].toNat = byteAt s i := by
  unfold byteAt
  have h' : i < s.data.size := h
  rw [List.getD_eq_getElem?_getD, List.getElem?_eq_getElem (by simpa using h')]
  simp [ByteArray.getElem_eq_getElem_data]
theorem byteAt_lt (s : ByteArray) (i : Nat) : byteAt s i < 256 := UInt8.toNat_lt _
def partC (s : ByteArray) : Ch := ⟨s.extract 2 (2 + byteAt s 1), s.extract (2 + byteAt s 1) s.size, ((byteAt s 0 : Int) == 1)⟩
def BadC (s : ByteArray) : Prop := s.size < 2 ∨ 1 < byteAt s 0 ∨ s.size < 2 + byteAt s 1
instance (s : ByteArray) : Decidable (BadC s) := by unfold BadC; infer_instance
def readC (s : ByteArray) : Option Ch := if BadC s then none else if changeF (partC s) = 0 then some (partC s) else none
def zeroC : Ch := ⟨⟨#[]⟩, ⟨#[]⟩, false⟩
def partsN (s : ByteArray) : Int := if (readC s).isSome = true then 0 else 4
theorem readC_bad {s : ByteArray} (h : BadC s) : readC s = none := by unfold readC; rw [if_pos h]
theorem readC_ill {s : ByteArray} (h : ¬ BadC s) (h2 : ¬ changeF (partC s) = 0) : readC s = none := by unfold readC; rw [if_neg h, if_neg h2]
theorem readC_good {s : ByteArray} (h : ¬ BadC s) (h2 : changeF (partC s) = 0) : readC s = some (partC s) := by unfold readC; rw [if_neg h, if_pos h2]
theorem partsN_none {s : ByteArray} (h : readC s = none) : partsN s = 4 := by unfold partsN; rw [h]; rfl
theorem partsN_some {s : ByteArray} {c : Ch} (h : readC s = some c) : partsN s = 0 := by unfold partsN; rw [h]; rfl

end Go.Proofs.YtihnghnafpgdfabDoor
