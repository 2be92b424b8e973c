/-
  A STORE IN MEMORY: Room, Rows.
-/
import Derived.Test.YtihnghnafpgdfacStoreText
namespace Go.Proofs.Ytihnghnafpgdfac
open Go.RowKit Go.BigFrame
set_option linter.unusedVariables false
set_option linter.unusedSimpArgs false

/-- A store: its disk, which side, its rows, its log. -/
structure St where
  dB : Nat
  side : Nat
  ra : Option Addr
  rc : Nat
  rows : List Ch
  lb : Nat
structure StoreAt (w : World) (b : Nat) (s : St) : Prop where
  blk : w.heap[b]? = some (.cells #[.pointer (some ⟨s.dB, 0, none⟩), .int .i64 s.side, .slice s.ra s.rows.length s.rc, .pointer (some ⟨s.lb, 0, none⟩)] 79 (0, 0))
  rows : SliceC w s.ra s.rc s.rows
theorem StoreAt.cells {w : World} {b : Nat} {s : St} (h : StoreAt w b s) : w.cell? ⟨b, 0, none⟩ = some (.pointer (some ⟨s.dB, 0, none⟩)) ∧ w.cell? ⟨b, 1, none⟩ = some (.int .i64 s.side) ∧ w.cell? ⟨b, 2, none⟩ = some (.slice s.ra s.rows.length s.rc) ∧ w.cell? ⟨b, 3, none⟩ = some (.pointer (some ⟨s.lb, 0, none⟩)) :=
  ⟨by rw [cell_block h.blk]; rfl, by rw [cell_block h.blk]; rfl, by rw [cell_block h.blk]; rfl, by rw [cell_block h.blk]; rfl⟩
theorem StoreAt.below {w w' : World} {b : Nat} {s : St} (h : StoreAt w b s) (hb : Below w.heap.size w w') : StoreAt w' b s :=
  ⟨by rw [hb.block b (Array.getElem?_eq_some_iff.1 h.blk).1]; exact h.blk, h.rows.below hb⟩
set_option maxRecDepth 100000 in
theorem storeRows_any (b : Nat) (s : St) (w : World) (h : StoreAt w b s) (hl : s.rows.length ≤ 100) :
    Calls Try.prog 17 #[.pointer (some ⟨b, 0, none⟩)] w fun e w' => ∃ v, e = .returned v ∧ OwnsC w' w.heap.size v s.rows ∧ Below w.heap.size w w' := by
  obtain ⟨c0, c1, c2, c3⟩ := h.cells
  have KR : Hid _ := cloneC_any s.ra s.rc s.rows w hl h.rows
  clear h c0 c1 c3
  go_enter Try.func17, Try.ntmps17
  go_wp2_with fail
  refine Calls.mono KR.out ?_
  rintro e w1 ⟨v, rfl, ho, hb⟩
  have HA : Hid (OwnsC w1 w.heap.size v s.rows ∧ Below w.heap.size w w1) := ⟨ho, hb⟩
  obtain ⟨va, vc, hv, -⟩ := OwnsC.files ho
  subst hv
  clear ho hb
  go_wp2
  go_ret
  exact ⟨_, rfl, HA.out⟩
end Go.Proofs.Ytihnghnafpgdfac
