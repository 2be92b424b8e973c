/-
  ACTS IN MEMORY: what a slice of acts holds; LightActs.
-/
import Derived.Test.YtihnghnafpgdfabDoorShelfBase
namespace Go.Proofs.YtihnghnafpgdfabDoor
open Go.RowKit
set_option linter.unusedVariables false
set_option linter.unusedSimpArgs false

structure Ch where
  key : ByteArray
  val : ByteArray
  gone : Bool

def ChCells (w : World) (a : Option Addr) (l : List Ch) : Prop :=
  ∀ i (h : i < l.length), ∃ b off, a = some ⟨b, off, none⟩ ∧ w.cell? ⟨b, off + i * 3, none⟩ = some (.string l[i].key) ∧ w.cell? ⟨b, off + i * 3 + 1, none⟩ = some (.string l[i].val) ∧ w.cell? ⟨b, off + i * 3 + 2, none⟩ = some (.bool l[i].gone) ∧ l[i].key.size ≤ maxLen ∧ l[i].val.size ≤ maxLen

/-- An act: its kind, two texts, numbers, and the slice of its changes. -/
structure Ac where
  kind : ByteArray
  s : ByteArray
  t : ByteArray
  n : Int
  k : Int
  ca : Option Addr
  cc : Nat
  cl : List Ch

abbrev Ac.v (x : Ac) : Value := .agg #[.string x.kind, .string x.s, .string x.t, .int .i64 x.n, .int .u64 x.k, .slice x.ca x.cl.length x.cc]

structure AcOk (w : World) (x : Ac) : Prop where
  kind : x.kind.size ≤ maxLen
  s : x.s.size ≤ maxLen
  t : x.t.size ≤ maxLen
  few : x.cl.length ≤ maxLen
  cells : ChCells w x.ca x.cl

def ActCells (w : World) (a : Option Addr) (l : List Ac) : Prop :=
  ∀ i (h : i < l.length), ∃ b off, a = some ⟨b, off, none⟩ ∧ (w.cell? ⟨b, off + i * 6, none⟩ = some (.string l[i].kind) ∧ w.cell? ⟨b, off + i * 6 + 1, none⟩ = some (.string l[i].s) ∧ w.cell? ⟨b, off + i * 6 + 2, none⟩ = some (.string l[i].t) ∧
    w.cell? ⟨b, off + i * 6 + 3, none⟩ = some (.int .i64 l[i].n) ∧ w.cell? ⟨b, off + i * 6 + 4, none⟩ = some (.int .u64 l[i].k) ∧ w.cell? ⟨b, off + i * 6 + 5, none⟩ = some (.slice l[i].ca l[i].cl.length l[i].cc)) ∧ AcOk w l[i]

theorem ChCells.below {w w' : World} {a : Option Addr} {l : List Ch} (h : ChCells w a l) (hb : Below w.heap.size w w') : ChCells w' a l := by
  intro i hi
  obtain ⟨b, off, rfl, c0, c1, c2, z0, z1⟩ := h i hi
  exact ⟨b, off, rfl, by rw [hb.cell (World.block_lt_of_cell? _ _ c0)]; exact c0, by rw [hb.cell (World.block_lt_of_cell? _ _ c1)]; exact c1, by rw [hb.cell (World.block_lt_of_cell? _ _ c2)]; exact c2, z0, z1⟩

theorem ActCells.below {w w' : World} {a : Option Addr} {l : List Ac} (h : ActCells w a l) (hb : Below w.heap.size w w') : ActCells w' a l := by
  intro i hi
  obtain ⟨b, off, rfl, ⟨c0, c1, c2, c3, c4, c5⟩, ok⟩ := h i hi
  refine ⟨b, off, rfl, ⟨?_, ?_, ?_, ?_, ?_, ?_⟩, ⟨ok.kind, ok.s, ok.t, ok.few, ok.cells.below hb⟩⟩
  · rw [hb.cell (World.block_lt_of_cell? _ _ c0)]; exact c0
  · rw [hb.cell (World.block_lt_of_cell? _ _ c1)]; exact c1
  · rw [hb.cell (World.block_lt_of_cell? _ _ c2)]; exact c2
  · rw [hb.cell (World.block_lt_of_cell? _ _ c3)]; exact c3
  · rw [hb.cell (World.block_lt_of_cell? _ _ c4)]; exact c4
  · rw [hb.cell (World.block_lt_of_cell? _ _ c5)]; exact c5

/-- Changes that are light. -/
def LightC (l : List Ch) (most : Int) : Prop := (l.length : Int) ≤ most ∧ ∀ c ∈ l, c.key.size ≤ 20 ∧ c.val.size ≤ 40
def LightEnd (l : List Ch) (most : Int) (e : Ending) : Prop := ∃ b, e = .returned (.bool b) ∧ (b = true → LightC l most)

set_option maxRecDepth 100000 in
set_option maxHeartbeats 1000000 in
theorem lightChanges_any (a : Option Addr) (cap : Nat) (l : List Ch) (most : Int) (w : World) (hl : l.length ≤ maxLen) (hc : ChCells w a l) :
    Calls Tryd.prog 8 #[.slice a l.length cap, .int .i64 most] w fun e w' => LightEnd l most e ∧ w' = w := by
  unfold maxLen at hl
  have HC : Hid (ChCells w a l) := hc
  clear hc
  by_cases h12 : most < (l.length : Int)
  · go_enter Tryd.func8, Tryd.ntmps8
    go_wp2
    go_ret
    exact ⟨⟨false, rfl, (fun h => by cases h)⟩, rfl⟩
  · go_enter Tryd.func8, Tryd.ntmps8
    go_wp2_with fail
    go_loop [5] (fun i => ∃ k : Nat, k ≤ l.length ∧ i = .int .i64 k ∧ ∀ j (h : j < l.length), j < k → l[j].key.size ≤ 20 ∧ l[j].val.size ≤ 40) (fun i => l.length - (intOf i).toNat)
    case atStart => exact ⟨0, Nat.zero_le _, rfl, fun j h h' => absurd h' (Nat.not_lt_zero _)⟩
    case round =>
      obtain ⟨k, hk, rfl, hall⟩ := hrel
      have Hall : Hid (∀ j (h : j < l.length), j < k → l[j].key.size ≤ 20 ∧ l[j].val.size ≤ 40) := hall
      clear hall
      by_cases hlt : k < l.length
      · obtain ⟨b, off, rfl, c0, c1, c2, z1, z2⟩ := HC.out k hlt
        unfold maxLen at z1 z2
        by_cases g1 : 20 < l[k].key.size
        · go_wp2
          go_ret
          exact ⟨⟨false, rfl, (fun h => by cases h)⟩, rfl⟩
        · by_cases g2 : 40 < l[k].val.size
          · go_wp2
            go_ret
            exact ⟨⟨false, rfl, (fun h => by cases h)⟩, rfl⟩
          · go_wp2
            refine ⟨⟨k + 1, by omega, by go_num, fun j hj h => ?_⟩, by simp [intOf]; omega⟩
            rcases Nat.lt_or_ge j k with h1 | h1
            · exact Hall.out j hj h1
            · have e : j = k := by omega
              subst e
              exact ⟨by omega, by omega⟩
      · go_wp2
        go_ret
        have hla : LightC l most := ⟨by omega, fun x hx => by
          obtain ⟨j, hj, rfl⟩ := List.getElem_of_mem hx
          exact Hall.out j hj (by omega)⟩
        exact ⟨⟨true, rfl, fun _ => hla⟩, rfl⟩

/-- Acts that are light: what the rest leans on. -/
def LightA (l : List Ac) (most : Nat) : Prop := l.length ≤ most ∧ ∀ x ∈ l, x.s.size ≤ 100 ∧ x.t.size ≤ 40 ∧ LightC x.cl 20

def ActsEnd (l : List Ac) (most : Nat) (e : Ending) : Prop := ∃ b, e = .returned (.bool b) ∧ (b = true → LightA l most)

end Go.Proofs.YtihnghnafpgdfabDoor
