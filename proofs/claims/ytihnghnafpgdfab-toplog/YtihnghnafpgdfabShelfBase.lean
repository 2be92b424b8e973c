/-
  FILES IN MEMORY: what a slice of files holds; plain functions on lists of files.
-/
import Derived.Test.YtihnghnafpgdfabFileWalks
import Derived.Test.YtihnghnafpgdfabOrder
import Derived.Deep.QuietTactic
import Derived.BigQuiet
namespace Go.Proofs.Ytihnghnafpgdfab
open Go.RowKit
set_option linter.unusedVariables false
set_option linter.unusedSimpArgs false

abbrev Fi.v (f : Fi) : Value := fileV f.n f.t f.k

/-- The cells of a slice's elements hold these files. -/
def Cells (w : World) (a : Option Addr) (l : List Fi) : Prop :=
  ∀ i (h : i < l.length), ∃ b off, a = some ⟨b, off, none⟩ ∧ w.cell? ⟨b, off + i * 3, none⟩ = some (.string l[i].n) ∧ w.cell? ⟨b, off + i * 3 + 1, none⟩ = some (.string l[i].t) ∧ w.cell? ⟨b, off + i * 3 + 2, none⟩ = some (.int .i64 l[i].k)

theorem Cells.below {w w' : World} {a : Option Addr} {l : List Fi} (h : Cells w a l) (hb : Below w.heap.size w w') : Cells w' a l := by
  intro i hi
  obtain ⟨b, off, rfl, c0, c1, c2⟩ := h i hi
  exact ⟨b, off, rfl, by rw [hb.cell (World.block_lt_of_cell? _ _ c0)]; exact c0, by rw [hb.cell (World.block_lt_of_cell? _ _ c1)]; exact c1, by rw [hb.cell (World.block_lt_of_cell? _ _ c2)]; exact c2⟩

theorem Cells.drewN {w : World} {a : Option Addr} {l : List Fi} (h : Cells w a l) (q : Nat) : Cells (w.drewN q) a l := by
  intro i hi
  simpa using h i hi

theorem Cells.alloc {w : World} {a : Option Addr} {l : List Fi} (h : Cells w a l) (o : Obj) : Cells (w.alloc o) a l :=
  h.below ((Below.refl _ _).alloc (Nat.le_refl _) o)

theorem Cells.nil (w : World) (a : Option Addr) : Cells w a [] := fun i h => absurd h (Nat.not_lt_zero _)

theorem bcell' {W w1 : World} {B : Nat} (hb : Below B W w1) : (∀ b o, b < B → w1.cell? ⟨b, o, none⟩ = W.cell? ⟨b, o, none⟩) ∧ (∀ b o, b < B → w1.frozen? ⟨b, o, none⟩ = W.frozen? ⟨b, o, none⟩) :=
  ⟨fun b o h => hb.cell (p := ⟨b, o, none⟩) h, fun b o h => hb.frozen (p := ⟨b, o, none⟩) h⟩

/-- All sizes are a machine's. -/
def Sized (l : List Fi) : Prop := ∀ f ∈ l, f.n.size ≤ maxLen ∧ f.t.size ≤ maxLen
theorem Sized.at {l : List Fi} (h : Sized l) {k : Nat} (hk : k < l.length) : l[k].n.size ≤ maxLen ∧ l[k].t.size ≤ maxLen := h _ (List.getElem_mem hk)

set_option maxHeartbeats 400000 in
theorem light_any (a : Option Addr) (cap : Nat) (l : List Fi) (w : World) (hl : l.length ≤ maxLen) (hz : Sized l) (hc : Cells w a l) :
    Calls Try.prog 109 #[.slice a l.length cap] w fun e w' => e = .returned (.bool (lightF l)) ∧ w' = w := by
  unfold maxLen at hl
  have HC : Hid (Cells w a l) := hc
  have HZ : Hid (Sized l) := hz
  clear hc hz
  by_cases h12 : 12 < l.length
  · go_enter Try.func109, Try.ntmps109
    go_wp2
    go_ret
    exact ⟨ret_bool (by unfold lightF; rw [decide_eq_false (by omega)]; rfl), rfl⟩
  · go_enter Try.func109, Try.ntmps109
    go_wp2_with fail
    go_loop [3] (fun i => ∃ k : Nat, k ≤ l.length ∧ i = .int .i64 k ∧ (l.take k).all lightB = true) (fun i => l.length - (intOf i).toNat)
    case atStart => exact ⟨0, Nat.zero_le _, rfl, rfl⟩
    case round =>
      obtain ⟨k, hk, rfl, hall⟩ := hrel
      have Hall : Hid ((l.take k).all lightB = true) := hall
      clear hall
      by_cases hlt : k < l.length
      · obtain ⟨b, off, rfl, c0, c1, c2⟩ := HC.out k hlt
        have z := HZ.out.at hlt
        unfold maxLen at z
        obtain ⟨z1, z2⟩ := z
        go_wp2
        all_goals first
          | (go_ret; exact ⟨ret_bool (lightF_bad hlt (lightB_false (by omega))).symm, rfl⟩)
          | (refine ⟨⟨k + 1, by omega, by go_num, ?_⟩, by simp [intOf]; omega⟩; rw [takeSucc l k hlt, List.all_append, Hall.out]; simp [lightB_true (show l[k].n.size ≤ 20 ∧ l[k].t.size ≤ 30 by omega)])
      · go_wp2
        go_ret
        exact ⟨ret_bool (by have h := Hall.out; rw [List.take_of_length_le (by omega)] at h; unfold lightF; rw [h, decide_eq_true (by omega)]; rfl), rfl⟩

end Go.Proofs.Ytihnghnafpgdfab
