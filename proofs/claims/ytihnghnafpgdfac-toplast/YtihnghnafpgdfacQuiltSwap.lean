/-
  THE WALK OF quilt.Swap.
-/
import Derived.Test.YtihnghnafpgdfacQuiltClone
import Derived.Test.YtihnghnafpgdfacGoodMem
import Derived.Deep.RegionWith
namespace Go.Proofs.Ytihnghnafpgdfac
open Go.RowKit
set_option linter.unusedVariables false
set_option linter.unusedSimpArgs false

/-- Both puts of a swap go through. -/
theorem swap_ok {l : List Fi} (hg : Good l) {a b : ByteArray} {f g : Fi} (hf : getF l a = some f) (hgg : getF l b = some g) (h1 : f.k < 9999) (h2 : g.k < 9999) (hab : ¬ a = b) :
    putN l ⟨a, g.t, f.k + 1⟩ = 0 ∧ Good (putF l ⟨a, g.t, f.k + 1⟩) ∧ putN (putF l ⟨a, g.t, f.k + 1⟩) ⟨b, f.t, g.k + 1⟩ = 0 ∧ Good (swapL l a b f g) := by
  obtain ⟨fm, fn⟩ := getF_mem hf
  obtain ⟨gm, gn⟩ := getF_mem hgg
  have tf := hg.times fm
  have tg := hg.times gm
  have hha : hasF l a = true := (has_iff hg a).2 ⟨f, fm, fn⟩
  have f1 : (Fi.mk a g.t (f.k + 1)).fault = 0 := fault_of (by rw [← fn]; exact tf.1) tg.2.1 (by show 1 ≤ f.k + 1; omega) (by show f.k + 1 ≤ 9999; omega)
  have g1 : Good (putF l ⟨a, g.t, f.k + 1⟩) := good_put hg f1 (fun h => by rw [hha] at h; cases h)
  have hb : getF (putF l ⟨a, g.t, f.k + 1⟩) b = some g := by rw [get_put_other hg g1 (fun e => hab e.symm)]; exact hgg
  have hhb : hasF (putF l ⟨a, g.t, f.k + 1⟩) b = true := (has_iff g1 b).2 ⟨g, (getF_mem hb).1, gn⟩
  have f2 : (Fi.mk b f.t (g.k + 1)).fault = 0 := fault_of (by rw [← gn]; exact tg.1) tf.2.1 (by show 1 ≤ g.k + 1; omega) (by show g.k + 1 ≤ 9999; omega)
  refine ⟨by simp [putN, f1, hha], g1, by simp [putN, f2, hhb], ?_⟩
  exact good_put g1 f2 (fun h => by rw [hhb] at h; cases h)

end Go.Proofs.Ytihnghnafpgdfac
