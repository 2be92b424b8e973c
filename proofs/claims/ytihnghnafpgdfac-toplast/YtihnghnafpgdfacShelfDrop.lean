/-
  THE WALK OF shelf.Drop.
-/
import Derived.Test.YtihnghnafpgdfacShelfGet
import Derived.Test.YtihnghnafpgdfacShelfCat
import Derived.Deep.RegionWith
namespace Go.Proofs.Ytihnghnafpgdfac
open Go.RowKit
set_option linter.unusedVariables false
set_option linter.unusedSimpArgs false

def dropN (l : List Fi) (name : ByteArray) : Int := if hasF l name = true then 0 else 5
def dropL (l : List Fi) (name : ByteArray) : List Fi := if hasF l name = true then dropF l name else []

set_option maxRecDepth 100000 in
theorem tail_run (x : Addr) (n cap p : Nat) (h1 : p + 1 ≤ n) (hne : ¬ cap = p + 1) (w : World) :
    (Instr.slice 44 (.slice (some x) n cap) (some (.int .i64 ((p : Int) + 1))) none none).run Try.prog w = .ok (.slice (some (x.add ((p + 1) * 3))) (n - (p + 1)) (cap - (p + 1))) w := by
  have e : ((p : Int) + 1).toNat = p + 1 := by omega
  have hs : (sizeOf 134).run Try.prog w = .ok 3 w := by kernel_rfl
  rw [run_slice_l (P := Try.prog) w 44 (some x) n cap Try.underlying44 .i64 ((p : Int) + 1) (by omega) (by omega)]
  rw [show Try.prog.elem 44 = 134 by kernel_rfl, hs]
  simp [sliced, e, hne]

set_option maxRecDepth 100000 in
theorem tail_end (x : Addr) (n p : Nat) (h1 : p + 1 ≤ n) (h2 : n ≤ p + 1) (w : World) :
    (Instr.slice 44 (.slice (some x) n (p + 1)) (some (.int .i64 ((p : Int) + 1))) none none).run Try.prog w = .ok (.slice (some x) 0 0) w := by
  have e : ((p : Int) + 1).toNat = p + 1 := by omega
  have hs : (sizeOf 134).run Try.prog w = .ok 3 w := by kernel_rfl
  rw [run_slice_l (P := Try.prog) w 44 (some x) n (p + 1) Try.underlying44 .i64 ((p : Int) + 1) (by omega) (by omega)]
  rw [show Try.prog.elem 44 = 134 by kernel_rfl, hs]
  simp [sliced, e]
  omega

/-- The two pieces of a drop, in the world in which they are joined. -/
theorem drop_parts {w1 : World} {x : Addr} {cap p : Nat} {l : List Fi} (r : Part) (hc : Cells w1 (some x) l) (hy : Cells w1 r.a r.l) (hr : r.a = none → r.cap = 0) (hp : p ≤ l.length) :
    Parts ((w1.alloc (.cells #[.slice (some x) p cap, .slice r.a r.l.length r.cap] 44)).drew) w1.heap.size
      [⟨some x, cap, l.take p⟩, r] := by
  have hb1 : Below w1.heap.size w1 ((w1.alloc (.cells #[.slice (some x) p cap, .slice r.a r.l.length r.cap] 44)).drew) :=
    ((Below.refl _ _).alloc (Nat.le_refl _) _).drew
  refine parts2 ?_ ?_ ⟨(hc.take p).below hb1, (fun h => by cases h), ((hc.take p).below hb1).spot⟩ ⟨hy.below hb1, hr, (hy.below hb1).spot⟩
  · simp [go_sem, Part.v, Nat.min_eq_left hp]
  · simp [go_sem, Part.v]

end Go.Proofs.Ytihnghnafpgdfac
