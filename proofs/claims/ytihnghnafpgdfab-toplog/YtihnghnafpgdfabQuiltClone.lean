/-
  THE WALK OF slices.Clone AT FILES.
-/
import Derived.Test.YtihnghnafpgdfabQuiltName
import Derived.Deep.LoopGhost
namespace Go.Proofs.Ytihnghnafpgdfab
open Go.RowKit
set_option linter.unusedVariables false
set_option linter.unusedSimpArgs false

set_option maxRecDepth 100000 in
set_option maxHeartbeats 1000000 in
theorem clone_any (a : Option Addr) (cap : Nat) (l : List Fi) (w : World) (hl : l.length ≤ 100) (hs : Slice w a cap l) :
    Calls Try.prog 105 #[.slice a l.length cap] w fun e w' => ∃ v, e = .returned v ∧ Owns w' w.heap.size v l ∧ Below w.heap.size w w' := by
  obtain ⟨i0, hi, hz0, hz1, hz2⟩ := info_parts Try.infoFile
  have HS : Hid (Slice w a cap l) := hs
  clear hs
  cases a with
  | none =>
    have e : l = [] := by
      cases l with
      | nil => rfl
      | cons g r => obtain ⟨_, _, e, _⟩ := HS.out.cells 0 (by simp); cases e
    subst e
    have e := HS.out.nil rfl
    subst e
    have hnil := fun w => Lib.run_eql_slice_nil (P := Try.prog) w 28 41 none 0 0 0 0 Try.underlying28
    go_enter Try.func105, Try.ntmps105
    go_wp2
    go_ret
    exact ⟨_, rfl, World.ownsRow_nil _ _ _ _, Below.refl _ _⟩
  | some x =>
    have hcells : ∀ (W : World), Below w.heap.size w W → ∀ q u, (flat l)[q]? = some u → W.cell? (x.add q) = some u := by
      intro W hb
      have hcl := HS.out.cells.below hb
      rcases hcl.spot x rfl with rfl | hsp
      · intro q u hu; simp [flat] at hu
      · obtain ⟨xb, xo, xs⟩ := x
        simp at hsp
        subst hsp
        exact hcl.flat
    have HCL : Hid (∀ (W : World), Below w.heap.size w W → ∀ q u, (flat l)[q]? = some u → W.cell? (x.add q) = some u) := hcells
    clear hcells
    have HOWN : Hid (Owns (w.alloc (.cells #[] 41)) w.heap.size (.slice (some ⟨w.heap.size, 0, none⟩) 0 0) []) := World.ownsRow_made _ _ _ (Nat.le_refl _) (Nat.zero_le _) rfl
    have hnil := fun w => Lib.run_eql_slice_nil (P := Try.prog) w 28 41 (some x) l.length cap 0 0 Try.underlying28
    go_enter Try.func105, Try.ntmps105
    go_wp2_with (at_builtin; refine wpList_append_own _ rfl _ _ 28 rfl w.heap.size 41 i0 _ 3 40 Try.underlying28 hi hz0 hz1 hz2 rfl (by decide) _ _ _ rfl HOWN.out x l.length cap (flat l) rfl (flat_length _) (HCL.out _ ((Below.refl _ _).alloc (Nat.le_refl _) _)) (flat_one _) (by unfold maxLen; simp; omega) (by simp; omega) (by simp) ?_; intro v' w3 hown' hgrow3 hnil3)
    go_ret
    refine ⟨_, rfl, ?_, ?_⟩
    · show World.ownsRow _ _ _ _ _ _ _
      simpa [flat] using hown'
    · exact ((Below.refl _ _).alloc (Nat.le_refl _) _).grown hgrow3 (by simp) (fun q hq => (HOWN.out.lt q hq).1)

end Go.Proofs.Ytihnghnafpgdfab
