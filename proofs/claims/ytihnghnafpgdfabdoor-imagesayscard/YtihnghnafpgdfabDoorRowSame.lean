/-
  THE WALKS OF SameChanges, goodRows, rows.
-/
import Derived.Test.YtihnghnafpgdfabDoorRowParse
import Derived.Test.YtihnghnafpgdfabDoorRowPure
import Derived.Shelf.SlSortCmp.KitK
import Derived.Deep.LoopGhost
import Derived.Deep.RegionHeld3
namespace Go.Proofs.YtihnghnafpgdfabDoor
open Go.RowKit
set_option linter.unusedVariables false
set_option linter.unusedSimpArgs false

theorem stoodC : Tryd.prog.stoodInHeld 41 = false := by kernel_rfl
theorem run_equal_change (a b c d : ByteArray) (k j : Bool) (w : World) : (Op.equalIn 10000 41 (.agg #[.string a, .string b, .bool k]) (.agg #[.string c, .string d, .bool j])).run Tryd.prog w = .ok ((a.toList == c.toList) && ((b.toList == d.toList) && (k == j))) w := by
  have h := run_equalIn_agg (P := Tryd.prog) w 9999 41 #[.string a, .string b, .bool k] #[.string c, .string d, .bool j] (by kernel_rfl) stoodC
  rw [h]
  simp [go_sem, Op.eqFields, Program.fieldsOf, Tryd.underlying41]
  by_cases h1 : a.toList = c.toList <;> by_cases h2 : b.toList = d.toList <;> cases k <;> cases j <;> simp [h1, h2]

/-- Are two files the same? -/
def eqCh (f g : Ch) : Bool := (f.key.toList == g.key.toList) && ((f.val.toList == g.val.toList) && (f.gone == g.gone))
theorem eqCh_iff (f g : Ch) : eqCh f g = true ↔ f = g := by
  constructor
  · intro h
    simp only [eqCh, Bool.and_eq_true, beq_iff_eq] at h
    cases f; cases g; simp only [Ch.mk.injEq]; exact ⟨toList_inj h.1, toList_inj h.2.1, h.2.2⟩
  · rintro rfl
    simp [eqCh]
theorem run_neq_change (f g : Ch) (w : World) : (binOp .neq 41 (.agg #[.string f.key, .string f.val, .bool f.gone]) (.agg #[.string g.key, .string g.val, .bool g.gone])).run Tryd.prog w = .ok (.bool (!eqCh f g)) w := by
  rw [run_neq_struct, run_equal_change]; rfl
theorem run_eql_change (f g : Ch) (w : World) : (binOp .eql 41 (.agg #[.string f.key, .string f.val, .bool f.gone]) (.agg #[.string g.key, .string g.val, .bool g.gone])).run Tryd.prog w = .ok (.bool (eqCh f g)) w := by
  rw [run_eql_struct, run_equal_change]; rfl
def sameCL (l m : List Ch) : Bool := decide (l.length = m.length) && (List.range l.length).all (fun i => match l[i]?, m[i]? with | some f, some g => eqCh f g | _, _ => false)
theorem sameCL_iff (l m : List Ch) : sameCL l m = true ↔ l = m := by
  constructor
  · intro h
    simp only [sameCL, Bool.and_eq_true, decide_eq_true_eq, List.all_eq_true, List.mem_range] at h
    apply List.ext_getElem h.1
    intro i h1 h2
    have := h.2 i h1
    rw [List.getElem?_eq_getElem h1, List.getElem?_eq_getElem h2] at this
    exact (eqCh_iff _ _).1 this
  · rintro rfl
    simp only [sameCL, decide_true, Bool.true_and, List.all_eq_true, List.mem_range]
    intro i h1
    rw [List.getElem?_eq_getElem h1]
    exact (eqCh_iff _ _).2 rfl
theorem sameCL_self (l : List Ch) : sameCL l l = true := (sameCL_iff l l).2 rfl
theorem sameCL_len {l m : List Ch} (h : ¬ l.length = m.length) : sameCL l m = false := by
  rw [Bool.eq_false_iff]; intro e; exact h (by rw [(sameCL_iff l m).1 e])
theorem sameCL_at {l m : List Ch} {k : Nat} (h1 : k < l.length) (h2 : k < m.length) (h : eqCh l[k] m[k] = false) : sameCL l m = false := by
  rw [Bool.eq_false_iff]; intro e
  have := (sameCL_iff l m).1 e
  subst this
  rw [(eqCh_iff _ _).2 rfl] at h
  exact absurd h (by simp)
theorem sameCL_all {l m : List Ch} (hl : l.length = m.length) (h : ∀ i (h1 : i < l.length) (h2 : i < m.length), eqCh l[i] m[i] = true) : sameCL l m = true := by
  rw [sameCL_iff]
  apply List.ext_getElem hl
  intro i h1 h2
  exact (eqCh_iff _ _).1 (h i h1 h2)

set_option maxRecDepth 100000 in
set_option maxHeartbeats 1000000 in
theorem sameChanges_any (a a' : Option Addr) (cap cap' : Nat) (l m : List Ch) (w : World) (hl : l.length ≤ 1000) (hm : m.length ≤ 1000) (hc : CC w a l) (hc' : CC w a' m) :
    Calls Tryd.prog 10 #[.slice a l.length cap, .slice a' m.length cap'] w fun e w' => e = .returned (.bool (sameCL l m)) ∧ ∃ n, w' = w.drewN n := by
  have HC : Hid (CC w a l) := hc
  have HC' : Hid (CC w a' m) := hc'
  clear hc hc'
  by_cases hlen : l.length = m.length
  · have hne : ((l.length : Int) != (m.length : Int)) = false := by simp [hlen]
    have HL : Hid (l.length = m.length) := hlen
    clear hlen
    go_enter Tryd.func10, Tryd.ntmps10
    go_wp2_with fail
    go_loopw [5] (fun i wr => ∃ k n : Nat, k ≤ l.length ∧ i = .int .i64 k ∧ wr = w.drewN n ∧ ∀ i (h1 : i < l.length) (h2 : i < m.length), i < k → eqCh l[i] m[i] = true) (fun i _ => l.length - (intOf i).toNat)
    case atStart => exact ⟨0, 0, Nat.zero_le _, rfl, rfl, fun i h1 h2 h => absurd h (Nat.not_lt_zero _)⟩
    case round =>
      obtain ⟨k, n, hk, rfl, rfl, hall⟩ := hrel
      have Hall : Hid (∀ i (h1 : i < l.length) (h2 : i < m.length), i < k → eqCh l[i] m[i] = true) := hall
      clear hall
      by_cases hlt : k < l.length
      · have hlt2 : k < m.length := by have := HL.out; omega
        obtain ⟨b, off, rfl, c0, c1, c2⟩ := HC.out k hlt
        obtain ⟨b', off', rfl, d0, d1, d2⟩ := HC'.out k hlt2
        have hq := fun w => run_neq_change l[k] m[k] w
        cases he : eqCh l[k] m[k]
        · go_wp2
          go_quiet (fail)
          go_wp2
          go_ret
          exact ⟨ret_bool (sameCL_at hlt hlt2 he).symm, n + nq, by simp⟩
        · go_wp2
          go_quiet (fail)
          go_wp2
          refine ⟨⟨k + 1, _, by omega, by go_num, rfl, fun i h1 h2 h => ?_⟩, by simp [intOf]; omega⟩
          rcases Nat.lt_or_ge i k with h3 | h3
          · exact Hall.out i h1 h2 h3
          · have e : i = k := by omega
            subst e
            exact he
      · go_wp2
        go_ret
        exact ⟨ret_bool (sameCL_all HL.out (fun i h1 h2 => Hall.out i h1 h2 (by omega))).symm, n, rfl⟩
  · have hne : ((l.length : Int) != (m.length : Int)) = true := by rw [bne_iff_ne]; omega
    go_enter Tryd.func10, Tryd.ntmps10
    go_wp2
    go_ret
    exact ⟨ret_bool (sameCL_len hlen).symm, 0, rfl⟩


theorem CC.offs {w : World} {b off : Nat} {l : List Ch} (h : CC w (some ⟨b, off, none⟩) l) (i : Nat) (hi : i < l.length) : w.cell? ⟨b, off + i * 3, none⟩ = some (.string l[i].key) ∧ w.cell? ⟨b, off + i * 3 + 1, none⟩ = some (.string l[i].val) ∧ w.cell? ⟨b, off + i * 3 + 2, none⟩ = some (.bool l[i].gone) := by
  obtain ⟨b', off', e, c0, c1, c2⟩ := h i hi
  cases e
  exact ⟨c0, c1, c2⟩
/-- Only drawn, and new blocks. -/
def Gr (w w' : World) : Prop := ∃ q os, w' = Sort.grow (w.drewN q) os
theorem Gr.refl (w : World) : Gr w w := ⟨0, #[], by rw [Sort.grow_empty]; rfl⟩
theorem Gr.drew {a w : World} (h : Gr a w) : Gr a w.drew := by
  obtain ⟨q, os, rfl⟩ := h
  exact ⟨q + 1, os, by rw [Sort.drew_grow]; congr 1⟩
theorem Gr.alloc {a w : World} (h : Gr a w) (o : Obj) : Gr a (w.alloc o) := by
  obtain ⟨q, os, rfl⟩ := h
  exact ⟨q, os ++ #[o], by rw [Sort.alloc_eq_grow, Sort.grow_grow]⟩
theorem Gr.below {a w : World} (h : Gr a w) : Below a.heap.size a w := by
  obtain ⟨q, os, rfl⟩ := h
  refine ⟨rfl, rfl, rfl, by rw [Sort.size_grow]; exact Nat.le_add_right _ _, fun k hk => ?_⟩
  show (a.heap ++ os)[k]? = _
  rw [Array.getElem?_append_left hk]

set_option maxRecDepth 100000 in
set_option maxHeartbeats 1000000 in
theorem changeFault_gr (c : Ch) (w : World) :
    Calls Tryd.prog 21 #[c.v] w fun e w' => e = .returned (.int .i64 (changeF c)) ∧ Gr w w' := by
  obtain ⟨key, val, gone⟩ := c
  by_cases k0 : key.size = 0
  · have HF : Hid (changeF ⟨key, val, gone⟩ = 3) := changeF_3 (.inl k0)
    have e0 := empty_of_size k0
    subst e0
    go_enter Tryd.func21, Tryd.ntmps21
    go_wp2
    go_ret
    exact ⟨by rw [HF.out]; rfl, by repeat (first | exact Gr.refl _ | refine Gr.drew ?_ | refine Gr.alloc ?_ _)⟩
  · have hne : key.toList.isEmpty = false := isEmpty_false key k0
    by_cases v0 : val.size = 0
    · have e0 := empty_of_size v0
      by_cases k8 : 8 < key.size
      · have HF : Hid (changeF ⟨key, val, gone⟩ = 2) := changeF_2 k0 (fun h => h.2 v0) (.inl k8)
        subst e0
        cases gone
        all_goals
          go_enter Tryd.func21, Tryd.ntmps21
          go_wp2
          go_ret
          exact ⟨by rw [HF.out]; rfl, by repeat (first | exact Gr.refl _ | refine Gr.drew ?_ | refine Gr.alloc ?_ _)⟩
      · have HF : Hid (changeF ⟨key, val, gone⟩ = 0) := changeF_0 k0 (fun h => h.2 v0) k8 (by show ¬ 16 < val.size; omega)
        subst e0
        cases gone
        all_goals
          go_enter Tryd.func21, Tryd.ntmps21
          go_wp2
          go_ret
          exact ⟨by rw [HF.out]; rfl, by repeat (first | exact Gr.refl _ | refine Gr.drew ?_ | refine Gr.alloc ?_ _)⟩
    · have hnv : val.toList.isEmpty = false := isEmpty_false val v0
      cases gone
      · by_cases k8 : 8 < key.size
        · have HF : Hid (changeF ⟨key, val, false⟩ = 2) := changeF_2 k0 (fun h => by cases h.1) (.inl k8)
          go_enter Tryd.func21, Tryd.ntmps21
          go_wp2
          go_ret
          exact ⟨by rw [HF.out]; rfl, by repeat (first | exact Gr.refl _ | refine Gr.drew ?_ | refine Gr.alloc ?_ _)⟩
        · by_cases v16 : 16 < val.size
          · have HF : Hid (changeF ⟨key, val, false⟩ = 2) := changeF_2 k0 (fun h => by cases h.1) (.inr v16)
            go_enter Tryd.func21, Tryd.ntmps21
            go_wp2
            go_ret
            exact ⟨by rw [HF.out]; rfl, by repeat (first | exact Gr.refl _ | refine Gr.drew ?_ | refine Gr.alloc ?_ _)⟩
          · have HF : Hid (changeF ⟨key, val, false⟩ = 0) := changeF_0 k0 (fun h => by cases h.1) k8 v16
            go_enter Tryd.func21, Tryd.ntmps21
            go_wp2
            go_ret
            exact ⟨by rw [HF.out]; rfl, by repeat (first | exact Gr.refl _ | refine Gr.drew ?_ | refine Gr.alloc ?_ _)⟩
      · have HF : Hid (changeF ⟨key, val, true⟩ = 3) := changeF_3 (.inr ⟨rfl, v0⟩)
        go_enter Tryd.func21, Tryd.ntmps21
        go_wp2
        go_ret
        exact ⟨by rw [HF.out]; rfl, by repeat (first | exact Gr.refl _ | refine Gr.drew ?_ | refine Gr.alloc ?_ _)⟩

theorem rises_pairwise : ∀ {l : List Ch}, (∀ j (h : j + 1 < l.length), ltB l[j].key l[j + 1].key = true) → l.Pairwise fun x y => ltB x.key y.key = true
  | [], _ => List.Pairwise.nil
  | [c], _ => by simp
  | c :: e :: l, h => by
    have ih := rises_pairwise (l := e :: l) (fun j hj => h (j + 1) (by simpa using hj))
    refine List.pairwise_cons.2 ⟨fun x hx => ?_, ih⟩
    have h0 : ltB c.key e.key = true := h 0 (by simp)
    rcases List.mem_cons.1 hx with rfl | h1
    · exact h0
    · exact ltB_trans h0 ((List.pairwise_cons.1 ih).1 x h1)
/-- Rows that may be. -/
def GoodR (l : List Ch) : Prop := Rowed l ∧ ∀ c ∈ l, changeF c = 0
end Go.Proofs.YtihnghnafpgdfabDoor
