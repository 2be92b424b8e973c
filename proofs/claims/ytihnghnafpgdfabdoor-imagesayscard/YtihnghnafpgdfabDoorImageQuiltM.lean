/-
  A QUILT IN A BOX, ITS FILES BEHIND IT: what is wanted of it where rows are read.
-/
import Derived.Test.YtihnghnafpgdfabDoorImageKit
import Derived.Deep.DeepCutAuto
namespace Go.Proofs.YtihnghnafpgdfabDoor
open Go Go.RowKit Go.BigFrame
set_option linter.unusedVariables false
set_option linter.unusedSimpArgs false

/-- A quilt in a box, its files in memory of one's own behind it. -/
def QM (W : World) (B : Nat) (fs : List Fi) (t : Int) : Prop := ∃ va vc, QBox W B (.slice va fs.length vc) t ∧ Owns W (B + 1) (.slice va fs.length vc) fs
theorem QM.far {W W' : World} {B : Nat} {fs : List Fi} {t : Int} (h : QM W B fs t) (hb : Below W.heap.size W W') : QM W' B fs t := by
  obtain ⟨va, vc, h1, h2⟩ := h
  exact ⟨va, vc, h1.below hb h1.lt, rowI_far h2 hb⟩
theorem QBox.turn {W : World} {B : Nat} {v : Value} {t t' : Int} (h : QBox W B v t) : QBox (W.setCell ⟨B, 1, none⟩ (.int .i64 t')) B v t' := by
  refine ⟨?_, ?_, ?_, ?_, by simpa using h.lt, only_set (u := .int .i64 t') (j := 1) h.only (by decide)⟩
  · simp [go_sem, h.c0, h.c1]
  · simp [go_sem, h.c0, h.c1]
  · simp [go_sem, h.f0, h.f1]
  · simp [go_sem, h.f0, h.f1]
theorem QBox.files {W : World} {B : Nat} {v v' : Value} {t : Int} (h : QBox W B v t) : QBox (W.setCell ⟨B, 0, none⟩ v') B v' t := by
  refine ⟨?_, ?_, ?_, ?_, by simpa using h.lt, only_set (u := v') (j := 0) h.only (by decide)⟩
  · simp [go_sem, h.c0, h.c1]
  · simp [go_sem, h.c0, h.c1]
  · simp [go_sem, h.f0, h.f1]
  · simp [go_sem, h.f0, h.f1]
theorem QM.turned {W : World} {B : Nat} {fs : List Fi} {t t' : Int} (h : QM W B fs t) : QM (W.setCell ⟨B, 1, none⟩ (.int .i64 t')) B fs t' := by
  obtain ⟨va, vc, h1, h2⟩ := h
  exact ⟨va, vc, h1.turn, ownsRow_setCell_below h2 (Nat.lt_succ_self _) _⟩
theorem QBox.grown {W W' : World} {B : Nat} {v : Value} {t : Int} {row : Option Nat} (h : QBox W B v t) (hg : W.grownBy W' row) (hr : ∀ k, row = some k → B + 1 ≤ k) : QBox W' B v t := by
  have hb : Below (B + 1) W W' := (Below.refl _ W).grown hg h.lt hr
  exact h.below hb (Nat.lt_succ_self _)

def Rs (rows : List Ch) (i : Nat) (hlt : i < rows.length) : Prop := ∀ h0 : 0 < i, ltB (rows[i - 1]'(by omega)).key rows[i].key = true
def QOut (w : World) (rows : List Ch) (e : Ending) (w' : World) : Prop :=
  (∃ fs t va vc, Img rows fs t ∧ e = .returned (.tuple #[.agg #[.slice va fs.length vc, .int .i64 t], .int .i64 0]) ∧ Cells w' va fs ∧ Below w.heap.size w w') ∨ (NoImg rows ∧ e = .returned (.tuple #[.agg #[.slice none 0 0, .int .i64 0], .int .i64 4]) ∧ Below w.heap.size w w')

theorem pre_step {v : ByteArray} {k : Nat} (h : k < v.size) : pre v.data.toList (k + 1) = 10 * pre v.data.toList k + (v[k].toNat - 48) := by
  have e : v.data.toList[k]? = some v[k] := by
    rw [List.getElem?_eq_getElem (by simpa using h)]
    rfl
  simp only [pre, e, Option.map_some, Option.getD_some]
theorem head_of {s : ByteArray} (h : 0 < s.size) (e : s[0].toNat = 102) : ∃ r, s.data.toList = 102 :: r := by
  rw [ba_size] at h
  match hs : s.data.toList, h with
  | x :: r, _ =>
    refine ⟨r, ?_⟩
    congr 1
    have h0 : s[0]'(by rw [ba_size, hs]; simp) = x := by
      rw [ba_get]
      simp [hs]
    rw [h0] at e
    exact UInt8.toNat_inj.1 (by rw [e]; rfl)
theorem head_is {s : ByteArray} {r : List UInt8} (h : 0 < s.size) (e : s.data.toList = 102 :: r) : s[0].toNat = 102 := by
  have h0 : s[0] = 102 := by
    rw [ba_get]
    simp [e]
  rw [h0]
  rfl
theorem QBox.apart {W : World} {B C j : Nat} {v u : Value} {t : Int} (h : QBox W B v t) (hne : B ≠ C) : QBox (W.setCell ⟨C, j, none⟩ u) B v t := by
  have hh : (W.setCell ⟨C, j, none⟩ u).heap[B]? = W.heap[B]? := Below.heap_setCell W ⟨C, j, none⟩ u B hne
  exact ⟨by rw [World.cell?_of_block (a := ⟨B, 0, none⟩) hh]; exact h.c0, by rw [World.cell?_of_block (a := ⟨B, 1, none⟩) hh]; exact h.c1, by rw [World.frozen?_of_block (a := ⟨B, 0, none⟩) hh]; exact h.f0, by rw [World.frozen?_of_block (a := ⟨B, 1, none⟩) hh]; exact h.f1, by simpa using h.lt, fun o ho => by rw [World.cell?_of_block (a := ⟨B, o, none⟩) hh]; exact h.only o ho⟩
theorem quiltF_low (l : List Fi) (t : Int) : 0 ≤ quiltF l t := by
  have := (filesF_range l).1
  unfold quiltF
  split
  · omega
  · split <;> omega
theorem Qs.sized {rows : List Ch} {i : Nat} {fs : List Fi} {t : Int} (h : Qs rows i fs t) (hz : ∀ c ∈ rows, c.key.size ≤ 100 ∧ c.val.size ≤ 100) : Sized fs := by
  intro f hf
  have hm : frow f ∈ rows.take i := by
    have h1 : frow f ∈ fs.map frow := List.mem_map_of_mem hf
    rcases h.rows with ⟨e, _⟩ | ⟨n, _, _, e⟩
    · rw [e]; exact h1
    · rw [e]; exact List.mem_append_left _ h1
  obtain ⟨h1, h2⟩ := hz _ (List.mem_of_mem_take hm)
  have e1 : (frow f).key.size = 1 + f.n.size := by
    show (kf ++ f.n).size = _
    rw [ByteArray.size_append]
    rfl
  have e2 : f.t.size ≤ (frow f).val.size := by
    show _ ≤ ((⟨(toldL f.k).toArray⟩ : ByteArray) ++ f.t).size
    rw [ByteArray.size_append]
    omega
  unfold maxLen
  exact ⟨by omega, by omega⟩
/-- A store into another block. -/
theorem cells_apart {w : World} {a : Option Addr} {l : List Fi} {C j : Nat} {u : Value} (h : Cells w a l) (hne : ∀ x, a = some x → x.block ≠ C) : Cells (w.setCell ⟨C, j, none⟩ u) a l := by
  intro i hi
  obtain ⟨b, off, rfl, c0, c1, c2⟩ := h i hi
  have hh : (w.setCell ⟨C, j, none⟩ u).heap[b]? = w.heap[b]? := Below.heap_setCell w ⟨C, j, none⟩ u b (hne _ rfl)
  exact ⟨b, off, rfl, by rw [World.cell?_of_block (a := ⟨b, off + i * 3, none⟩) hh]; exact c0, by rw [World.cell?_of_block (a := ⟨b, off + i * 3 + 1, none⟩) hh]; exact c1, by rw [World.cell?_of_block (a := ⟨b, off + i * 3 + 2, none⟩) hh]; exact c2⟩
theorem key_ne {k : ByteArray} (h : ¬ k.size = 0) : (k.toList == ([] : List UInt8)) = false := by
  rw [beq_eq_false_iff_ne]
  intro e
  rw [ba_toList] at e
  exact h (by rw [ba_size, e]; rfl)

end Go.Proofs.YtihnghnafpgdfabDoor
