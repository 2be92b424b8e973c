/-
  THE WALKS OF shelf.Put AND shelf.Drop.
-/
import Derived.Test.YtihnghnafpgdfabDoorShelfCat
import Derived.Deep.RegionWith
namespace Go.Proofs.YtihnghnafpgdfabDoor
open Go.RowKit
set_option linter.unusedVariables false
set_option linter.unusedSimpArgs false

/-- B2, by its error's number. -/
def putN (l : List Fi) (f : Fi) : Int := if f.fault ≠ 0 then f.fault else if hasF l f.n = false ∧ 8 ≤ l.length then 7 else 0
def putL (l : List Fi) (f : Fi) : List Fi := if putN l f = 0 then putF l f else []

/-- The three pieces of a put, in the world in which they are joined. -/
theorem put_parts {w1 : World} {x : Addr} {cap p : Nat} {l : List Fi} (f : Fi) (r : Part) (hc : Cells w1 (some x) l) (hy : Cells w1 r.a r.l) (hr : r.a = none → r.cap = 0) (hp : p ≤ l.length) :
    Parts (((w1.alloc (.cells #[.string f.n, .string f.t, .int .i64 f.k] 53)).alloc (.cells #[.slice (some x) p cap, .slice (some ⟨w1.heap.size, 0, none⟩) 1 1, .slice r.a r.l.length r.cap] 22)).drew) (w1.heap.size + 1)
      [⟨some x, cap, l.take p⟩, ⟨some ⟨w1.heap.size, 0, none⟩, 1, [f]⟩, r] := by
  have hb1 : Below w1.heap.size w1 (((w1.alloc (.cells #[.string f.n, .string f.t, .int .i64 f.k] 53)).alloc (.cells #[.slice (some x) p cap, .slice (some ⟨w1.heap.size, 0, none⟩) 1 1, .slice r.a r.l.length r.cap] 22)).drew) :=
    (((Below.refl _ _).alloc (Nat.le_refl _) _).alloc (by simp) _).drew
  have hcf := ((Cells.one w1 f 53).alloc (.cells #[.slice (some x) p cap, .slice (some ⟨w1.heap.size, 0, none⟩) 1 1, .slice r.a r.l.length r.cap] 22)).drewN 1
  refine parts3 ?_ ?_ ?_ ⟨(hc.take p).below hb1, (fun h => by cases h), ((hc.take p).below hb1).spot⟩ ⟨hcf, (fun h => by cases h), hcf.spot⟩ ⟨hy.below hb1, hr, (hy.below hb1).spot⟩
  · simp [go_sem, Part.v, Nat.min_eq_left hp]
  · simp [go_sem, Part.v]
  · simp [go_sem, Part.v]

theorem put_parts_nil (w1 : World) (f : Fi) :
    Parts (((w1.alloc (.cells #[.string f.n, .string f.t, .int .i64 f.k] 53)).alloc (.cells #[.slice none 0 0, .slice (some ⟨w1.heap.size, 0, none⟩) 1 1, .slice none 0 0] 22)).drew) (w1.heap.size + 1)
      [⟨none, 0, []⟩, ⟨some ⟨w1.heap.size, 0, none⟩, 1, [f]⟩, ⟨none, 0, []⟩] := by
  have hcf := ((Cells.one w1 f 53).alloc (.cells #[.slice none 0 0, .slice (some ⟨w1.heap.size, 0, none⟩) 1 1, .slice none 0 0] 22)).drewN 1
  refine parts3 ?_ ?_ ?_ ⟨Cells.nil _ _, (fun h => rfl), (fun x hx => .inl rfl)⟩ ⟨hcf, (fun h => by cases h), hcf.spot⟩ ⟨Cells.nil _ _, (fun h => rfl), (fun x hx => .inl rfl)⟩
  · simp [go_sem, Part.v]
  · simp [go_sem, Part.v]
  · simp [go_sem, Part.v]

end Go.Proofs.YtihnghnafpgdfabDoor
