/-
  strings.Builder: copyCheck, WriteString, WriteByte.
-/
import Derived.Test.YtihnghnafpgdfacLater
import Derived.Test.YtihnghnafpgdfacStoreBase
import Derived.Lib.Builder
import Derived.Lib.AppendStr
namespace Go.Proofs.Ytihnghnafpgdfac
open Go.RowKit Go.BigFrame
set_option linter.unusedVariables false
set_option linter.unusedSimpArgs false

theorem Try.infoBuilder : (Try.prog.info? 113).isSome = true := by kernel_rfl
set_option maxRecDepth 100000 in
set_option maxHeartbeats 1000000 in
theorem copyCheck_any (B b : Nat) (bs : List Value) (w : World) (h : Lib.IsBuilder 113 5 B b bs w) :
    Calls Try.prog 84 #[.pointer (some ⟨b, 0, none⟩)] w fun e w' => e = .returned (.tuple #[]) ∧ Lib.BuilderAt 113 5 B b (.pointer (some ⟨b, 0, none⟩)) bs w' ∧ Below B w w' := by
  obtain ⟨j, hj⟩ := Option.isSome_iff_exists.1 Try.infoBuilder
  rcases h with h | h
  · have c0 := h.cell0
    have f0 := h.frozen0
    have hsh := h.shape
    have HU : Hid (Lib.BuilderAt 113 5 B b (.pointer (some ⟨b, 0, none⟩)) bs (w.setCell ⟨b, 0, none⟩ (.pointer (some ⟨b, 0, none⟩)))) := h.used _
    have HBL : Hid (B ≤ b) := h.1
    have h1 : (convert 111 165 (.pointer (some ⟨b, 0, none⟩))).run Try.prog w = .ok (.pointer (some ⟨b, 0, none⟩)) w := Lib.run_to_unsafe (P := Try.prog) w (t := 113) ⟨b, 0, none⟩ (by kernel_rfl) (by kernel_rfl) hj (by
      have : (Try.prog.info? 113).map (·.size) = some 2 := by kernel_rfl
      rw [hj] at this
      simp at this
      omega) hsh (show 0 < 2 by decide)
    have h2 : (convert 165 111 (.pointer (some ⟨b, 0, none⟩))).run Try.prog w = .ok (.pointer (some ⟨b, 0, none⟩)) w := Lib.run_from_unsafe (P := Try.prog) w (u := 113) ⟨b, 0, none⟩ (by kernel_rfl) (by kernel_rfl) hj hsh (by kernel_rfl)
    clear hsh h
    go_enter Try.func84, Try.ntmps84
    go_wp2
    rw [run_callFunc_extern Try.func101 (by kernel_rfl) (by kernel_rfl) (by kernel_rfl) (e := Extern.AbiNoEscape.same) (by kernel_rfl), Lib.run_noEscape]
    simp only [Result.andThen, Oper.upon_value]
    go_wp2
    go_end0
    exact ⟨rfl, HU.out, (Below.refl B w).setCell HBL.out _⟩
  · have c0 := h.cell0
    have HU : Hid (Lib.BuilderAt 113 5 B b (.pointer (some ⟨b, 0, none⟩)) bs w) := h
    have hq := Lib.run_neq_ptr_same (P := Try.prog) w (tp := 111) (te := 113) ⟨b, 0, none⟩ (by kernel_rfl) hj
    clear h
    go_enter Try.func84, Try.ntmps84
    go_wp2
    go_end0
    exact ⟨rfl, HU.out, Below.refl _ _⟩
theorem Try.infoUint8 : (Try.prog.info? 5).map (fun i => (i.zero, i.size, i.bytes)) = some (some (.int .u8 0), 1, 1) := by kernel_rfl
/-- Bytes are put behind a builder's. -/
theorem builder_grown {B b : Nat} {p v v' : Value} {bs cs : List Value} {w1 w2 : World} (hB : B ≤ b) (hbk : w1.heap[b]? = some (.cells #[p, v] 113 (0, 0))) (hne : v.ownBlock ≠ some b) (hg : w1.grownBy w2 v.ownBlock) (hown : w2.ownsRow B 5 1 v' (bs ++ cs).length (bs ++ cs)) :
    Lib.BuilderAt 113 5 B b p (bs ++ cs) (w2.setCell ⟨b, 1, none⟩ v') ∧ w2.cell? ⟨b, 1, none⟩ = some v ∧ w2.frozen? ⟨b, 1, none⟩ = false := by
  have hb2 : w2.heap[b]? = some (.cells #[p, v] 113 (0, 0)) := (hg.block b (Array.getElem?_eq_some_iff.1 hbk).1 (fun e => hne e.symm)).trans hbk
  exact ⟨Lib.BuilderAt.put hB hb2 hown (by decide), by rw [Lib.cell_of_heap hb2]; rfl, Lib.frozen_of_heap hb2 1⟩
set_option maxRecDepth 100000 in
set_option maxHeartbeats 2000000 in
theorem writeByte_any (B b : Nat) (bs : List Value) (c : Int) (w : World) (h : Lib.IsBuilder 113 5 B b bs w) (hlen : bs.length ≤ 100000) (hBw : B ≤ w.heap.size) :
    Calls Try.prog 62 #[.pointer (some ⟨b, 0, none⟩), .int .u8 c] w fun e w' => e = .returned .nilIface ∧ Lib.BuilderAt 113 5 B b (.pointer (some ⟨b, 0, none⟩)) (bs ++ [.int .u8 c]) w' ∧ Below B w w' := by
  obtain ⟨i0, hi, hz0, hz1, hz2⟩ := info_parts Try.infoUint8
  have KC : Hid _ := copyCheck_any B b bs w h
  clear h
  go_enter Try.func62, Try.ntmps62
  go_wp2_with fail
  refine Calls.mono KC.out ?_
  rintro e w1 ⟨rfl, ⟨hB, v, hbk, hown, hne⟩, hb1⟩
  obtain ⟨va, vc, hv⟩ := row_shape hown
  subst hv
  have c1 : w1.cell? ⟨b, 1, none⟩ = some (.slice va bs.length vc) := by rw [Lib.cell_of_heap hbk]; rfl
  have HBK : Hid _ := hbk
  have HNE : Hid _ := hne
  have HO : Hid (∀ o, (w1.alloc o).ownsRow B 5 1 (.slice va bs.length vc) bs.length bs) := fun o => ownsRow_far hown (fun k hk => ((Below.refl w1.heap.size w1).alloc (Nat.le_refl _) o).block k (hown.lt k hk).2)
  have HB1 : Hid (∀ o, Below B w (w1.alloc o)) := fun o => hb1.alloc (Nat.le_trans hBw hb1.size) o
  have HSZ : Hid (∀ o, B ≤ (w1.alloc o).heap.size) := fun o => Nat.le_trans hBw (HB1.out o).size
  have HFIN : Hid (∀ o w2 v', (w1.alloc o).grownBy w2 (Value.slice va bs.length vc).ownBlock → w2.ownsRow B 5 1 v' (bs.length + 1) (bs ++ [.int .u8 c]) → (Lib.BuilderAt 113 5 B b (.pointer (some ⟨b, 0, none⟩)) (bs ++ [.int .u8 c]) (w2.setCell ⟨b, 1, none⟩ v') ∧ w2.cell? ⟨b, 1, none⟩ = some (.slice va bs.length vc) ∧ w2.frozen? ⟨b, 1, none⟩ = false) ∧ Below B w (w2.setCell ⟨b, 1, none⟩ v')) := fun o w2 v' hg ho =>
    ⟨builder_grown hB (((Below.refl w1.heap.size w1).alloc (Nat.le_refl _) o).block b (Array.getElem?_eq_some_iff.1 hbk).1 |>.trans hbk) hne hg (by rw [List.length_append]; exact ho), ((HB1.out o).grown hg (HSZ.out o) (fun k hk => ((HO.out o).lt k hk).1)).setCell hB _⟩
  clear hown hne hbk hb1 KC
  go_wp2_with (at_builtin; refine wpList_append_own _ rfl _ _ 109 rfl B 5 i0 _ 1 1 (by kernel_rfl) hi hz0 hz1 hz2 rfl (by decide) (.slice va bs.length vc) bs.length bs rfl (HO.out _) ⟨w1.heap.size, 0, none⟩ 1 1 [.int .u8 c] rfl rfl (cell_one_new _ _ _) (fun u hu => by simp at hu; subst hu; rfl) (by unfold maxLen; omega) (by omega) (HSZ.out _) ?_; intro v' w2 hown' hgrow hnil; obtain ⟨xa, xc, rfl⟩ := row_shape hown'; obtain ⟨⟨hA, d1, f1⟩, hbf⟩ := HFIN.out _ _ _ hgrow hown'; have HA : Hid _ := hA; have HBF : Hid _ := hbf; clear hA hbf hown' hgrow hnil)
  go_wp2
  go_ret
  exact ⟨rfl, HA.out, HBF.out⟩
set_option maxRecDepth 100000 in
set_option maxHeartbeats 2000000 in
theorem writeString_any (B b : Nat) (bs : List Value) (s : ByteArray) (w : World) (h : Lib.IsBuilder 113 5 B b bs w) (hlen : bs.length ≤ 100000) (hs : s.size ≤ 100000) (hBw : B ≤ w.heap.size) :
    Calls Try.prog 63 #[.pointer (some ⟨b, 0, none⟩), .string s] w fun e w' => e = .returned (.tuple #[.int .i64 s.size, .nilIface]) ∧ Lib.BuilderAt 113 5 B b (.pointer (some ⟨b, 0, none⟩)) (bs ++ Lib.strCells s) w' ∧ Below B w w' := by
  obtain ⟨i0, hi, hz0, hz1, hz2⟩ := info_parts Try.infoUint8
  have KC : Hid _ := copyCheck_any B b bs w h
  clear h
  go_enter Try.func63, Try.ntmps63
  go_wp2_with fail
  refine Calls.mono KC.out ?_
  rintro e w1 ⟨rfl, ⟨hB, v, hbk, hown, hne⟩, hb1⟩
  obtain ⟨va, vc, hv⟩ := row_shape hown
  subst hv
  have c1 : w1.cell? ⟨b, 1, none⟩ = some (.slice va bs.length vc) := by rw [Lib.cell_of_heap hbk]; rfl
  have HO : Hid (w1.ownsRow B 5 1 (.slice va bs.length vc) bs.length bs) := hown
  have HSZ : Hid (B ≤ w1.heap.size) := Nat.le_trans hBw hb1.size
  have HFIN : Hid (∀ w2 v', w1.grownBy w2 (Value.slice va bs.length vc).ownBlock → w2.ownsRow B 5 1 v' (bs.length + s.size) (bs ++ Lib.strCells s) → (Lib.BuilderAt 113 5 B b (.pointer (some ⟨b, 0, none⟩)) (bs ++ Lib.strCells s) (w2.setCell ⟨b, 1, none⟩ v') ∧ w2.cell? ⟨b, 1, none⟩ = some (.slice va bs.length vc) ∧ w2.frozen? ⟨b, 1, none⟩ = false) ∧ Below B w (w2.setCell ⟨b, 1, none⟩ v')) := fun w2 v' hg ho =>
    ⟨builder_grown hB hbk hne hg (by have e : (bs ++ Lib.strCells s).length = bs.length + s.size := by have := ho.1; omega
                                     rw [e]; exact ho), (hb1.grown hg HSZ.out (fun k hk => (HO.out.lt k hk).1)).setCell hB _⟩
  clear hown hne hbk hb1 KC
  go_wp2_with (at_builtin; refine Lib.wpList_append_own_string _ rfl _ _ 109 9 rfl B 5 i0 (by kernel_rfl) (by kernel_rfl) hi hz0 hz1 hz2 (.slice va bs.length vc) bs.length bs rfl HO.out s rfl (by unfold maxLen; omega) (by omega) HSZ.out ?_; intro v' w2 hown' hgrow hnil; obtain ⟨xa, xc, rfl⟩ := row_shape hown'; obtain ⟨⟨hA, d1, f1⟩, hbf⟩ := HFIN.out _ _ hgrow hown'; have HA : Hid _ := hA; have HBF : Hid _ := hbf; clear hA hbf hown' hgrow hnil)
  go_wp2
  go_ret2
  exact ⟨rfl, HA.out, HBF.out⟩
end Go.Proofs.Ytihnghnafpgdfac
