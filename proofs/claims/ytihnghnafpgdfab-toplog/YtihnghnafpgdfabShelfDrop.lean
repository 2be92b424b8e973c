/-
  THE WALK OF shelf.Drop.
-/
import Derived.Test.YtihnghnafpgdfabShelfGet
import Derived.Test.YtihnghnafpgdfabShelfCat
import Derived.Deep.RegionWith
namespace Go.Proofs.Ytihnghnafpgdfab
open Go.RowKit
set_option linter.unusedVariables false
set_option linter.unusedSimpArgs false

def dropN (l : List Fi) (name : ByteArray) : Int := if hasF l name = true then 0 else 5
def dropL (l : List Fi) (name : ByteArray) : List Fi := if hasF l name = true then dropF l name else []

set_option maxRecDepth 100000 in
theorem tail_run (x : Addr) (n cap p : Nat) (h1 : p + 1 ≤ n) (hne : ¬ cap = p + 1) (w : World) :
    (Instr.slice 28 (.slice (some x) n cap) (some (.int .i64 ((p : Int) + 1))) none none).run Try.prog w = .ok (.slice (some (x.add ((p + 1) * 3))) (n - (p + 1)) (cap - (p + 1))) w := by
  have e : ((p : Int) + 1).toNat = p + 1 := by omega
  have hs : (sizeOf 41).run Try.prog w = .ok 3 w := by kernel_rfl
  rw [run_slice_l (P := Try.prog) w 28 (some x) n cap Try.underlying28 .i64 ((p : Int) + 1) (by omega) (by omega)]
  rw [show Try.prog.elem 28 = 41 by kernel_rfl, hs]
  simp [sliced, e, hne]

set_option maxRecDepth 100000 in
theorem tail_end (x : Addr) (n p : Nat) (h1 : p + 1 ≤ n) (h2 : n ≤ p + 1) (w : World) :
    (Instr.slice 28 (.slice (some x) n (p + 1)) (some (.int .i64 ((p : Int) + 1))) none none).run Try.prog w = .ok (.slice (some x) 0 0) w := by
  have e : ((p : Int) + 1).toNat = p + 1 := by omega
  have hs : (sizeOf 41).run Try.prog w = .ok 3 w := by kernel_rfl
  rw [run_slice_l (P := Try.prog) w 28 (some x) n (p + 1) Try.underlying28 .i64 ((p : Int) + 1) (by omega) (by omega)]
  rw [show Try.prog.elem 28 = 41 by kernel_rfl, hs]
  simp [sliced, e]
  omega

/-- The two pieces of a drop, in the world in which they are joined. -/
theorem drop_parts {w1 : World} {x : Addr} {cap p : Nat} {l : List Fi} (r : Part) (hc : Cells w1 (some x) l) (hy : Cells w1 r.a r.l) (hr : r.a = none → r.cap = 0) (hp : p ≤ l.length) :
    Parts ((w1.alloc (.cells #[.slice (some x) p cap, .slice r.a r.l.length r.cap] 28)).drew) w1.heap.size
      [⟨some x, cap, l.take p⟩, r] := by
  have hb1 : Below w1.heap.size w1 ((w1.alloc (.cells #[.slice (some x) p cap, .slice r.a r.l.length r.cap] 28)).drew) :=
    ((Below.refl _ _).alloc (Nat.le_refl _) _).drew
  refine parts2 ?_ ?_ ⟨(hc.take p).below hb1, (fun h => by cases h), ((hc.take p).below hb1).spot⟩ ⟨hy.below hb1, hr, (hy.below hb1).spot⟩
  · simp [go_sem, Part.v, Nat.min_eq_left hp]
  · simp [go_sem, Part.v]

set_option maxRecDepth 100000 in
set_option maxHeartbeats 1000000 in
theorem drop_none (a : Option Addr) (cap : Nat) (l : List Fi) (name : ByteArray) (w : World) (hg : Good l) (hc : Cells w a l) (hh : hasF l name = false) :
    Calls Try.prog 103 #[.slice a l.length cap, .string name] w fun e w' => e = .returned (.tuple #[.slice none 0 0, errV 5]) ∧ Below w.heap.size w w' := by
  have HC : Hid (Cells w a l) := hc
  have HG : Hid (Good l) := hg
  have HH : Hid (hasF l name = false) := hh
  have hl := hg.few
  clear hc hg hh
  go_enter Try.func103, Try.ntmps103
  go_wp2_with fail
  refine (place_any a cap l name _ (by omega) (by exact HC.out) (HG.out.mono name)).mono ?_
  rintro e w1 ⟨rfl, hb⟩
  rw [HH.out]
  have HB : Hid (Below w.heap.size w w1) := hb
  clear hb
  go_wp2
  go_ret2
  exact ⟨rfl, HB.out⟩

set_option maxRecDepth 100000 in
set_option maxHeartbeats 2000000 in
theorem drop_good (a : Option Addr) (cap : Nat) (l : List Fi) (name : ByteArray) (w : World) (hg : Good l) (hc : Cells w a l) (hcap : l.length ≤ cap) (hcm : cap ≤ maxLen) (hh : hasF l name = true) :
    Calls Try.prog 103 #[.slice a l.length cap, .string name] w fun e w' => ∃ v, e = .returned (.tuple #[v, .nilIface]) ∧ Owns w' w.heap.size v (dropF l name) ∧ Below w.heap.size w w' := by
  unfold maxLen at hcm
  have HC : Hid (Cells w a l) := hc
  have HG : Hid (Good l) := hg
  have HH : Hid (hasF l name = true) := hh
  have hl := hg.few
  have hp := posF_le l name
  have hpc : posF l name ≤ cap := by omega
  have hpl : posF l name < l.length := (hasF_name hh).1
  have hpl' : posF l name + 1 ≤ l.length := hpl
  have hpc' : posF l name + 1 ≤ cap := by omega
  have hq1 : (0 : Int) ≤ (posF l name : Int) + 1 := by omega
  have hq2 : (posF l name : Int) + 1 ≤ (l.length : Int) := by omega
  have hwr : IntKind.i64.wrap ((posF l name : Int) + 1) = (posF l name : Int) + 1 := by rw [IntKind.wrap_i64]; omega
  have hpc2 : (posF l name : Int) ≤ (posF l name : Int) + 1 := by omega
  have hq3 : ((posF l name : Int) + 1).toNat = posF l name + 1 := by omega
  clear hc hg hh
  go_enter Try.func103, Try.ntmps103
  go_wp2_with fail
  refine (place_any a cap l name _ (by omega) (by exact HC.out) (HG.out.mono name)).mono ?_
  rintro e w1 ⟨rfl, hb⟩
  rw [HH.out]
  have HB : Hid (Below w.heap.size w w1) := hb
  clear hb
  cases a with
  | none =>
    obtain ⟨_, _, e, _⟩ := HC.out 0 (by omega)
    cases e
  | some x =>
    have HC1 := HC.out.below HB.out
    by_cases hcp : cap = posF l name + 1
    · have hd : l.drop (posF l name + 1) = [] := List.drop_eq_nil_of_le (by omega)
      have hparts := drop_parts (cap := cap) (p := posF l name) ⟨some x, 0, []⟩ HC1 (Cells.nil _ _) (fun h => by cases h) hp
      subst hcp
      simp only [List.length_nil] at hparts
      have HPA : Hid (Parts _ _ _) := hparts
      have HD : Hid (l.drop (posF l name + 1) = []) := hd
      clear hparts HC1 hd
      have hsl := tail_end x l.length (posF l name) hpl' hcap
      go_wp2
      go_region_with (go_at_call 113; refine (concat_any _ 2 _ _ rfl (by simp) (by simp [lens]; omega) HPA.out).mono ?_; rintro e w3 ⟨v, rfl, hown, hb3⟩)
      all_goals
        go_wp2
        go_ret2
        have hb0 : Below w.heap.size w w3 := (((HB.out.alloc HB.out.size _).drew).trans (hb3.mono (by simp; have := HB.out.size; omega)))
        refine ⟨v, rfl, ?_, hb0⟩
        have h2 := hown.base (B' := w.heap.size) (by simp; have := HB.out.size; omega)
        unfold dropF
        simpa [joined, HD.out] using h2
    · have hparts := drop_parts (cap := cap) (p := posF l name) ⟨some (x.add ((posF l name + 1) * 3)), cap - (posF l name + 1), l.drop (posF l name + 1)⟩ HC1 (HC1.drop (posF l name + 1)) (fun h => by cases h) hp
      simp only [List.length_drop] at hparts
      have HPA : Hid (Parts _ _ _) := hparts
      clear hparts HC1
      have hsl := tail_run x l.length cap (posF l name) hpl' hcp
      go_wp2
      go_region_with (go_at_call 113; refine (concat_any _ 2 _ _ rfl (by simp) (by simp [lens]; omega) HPA.out).mono ?_; rintro e w3 ⟨v, rfl, hown, hb3⟩)
      all_goals
        go_wp2
        go_ret2
        have hb0 : Below w.heap.size w w3 := (((HB.out.alloc HB.out.size _).drew).trans (hb3.mono (by simp; have := HB.out.size; omega)))
        refine ⟨v, rfl, ?_, hb0⟩
        have h2 := hown.base (B' := w.heap.size) (by simp; have := HB.out.size; omega)
        unfold dropF
        simpa [joined] using h2

end Go.Proofs.Ytihnghnafpgdfab
