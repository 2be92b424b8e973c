/-
  WHICH SIDE HAS THE ROWS: laid, over what whole answers.
-/
import Derived.Test.YtihnghnafpgdfacStoreWhole
namespace Go.Proofs.Ytihnghnafpgdfac
open Go.RowKit Go.BigFrame
set_option linter.unusedVariables false
set_option linter.unusedSimpArgs false

/-- What whole answers, by what a side has. -/
def WholeSays (w : World) (x : Option (List Ch)) (W : World) (e : Ending) (w' : World) : Prop :=
  Below W.heap.size W w' ∧ ((x = none ∧ e = .returned (.tuple #[.slice none 0 0, .iface 75 (.int .i64 4)])) ∨ ∃ rows va vc, x = some rows ∧ e = .returned (.tuple #[.slice va rows.length vc, .nilIface]) ∧ OwnsC w' W.heap.size (.slice va rows.length vc) rows)
/-- The stronger side ahead of the other one. -/
def laidX (wh : Nat → Option (List Ch)) : Option (Nat × List Ch) := match wh 1 with
  | some r => some (1, r)
  | none => match wh 0 with
    | some r => some (0, r)
    | none => none
def LaidSays (w : World) (wh : Nat → Option (List Ch)) (e : Ending) (w' : World) : Prop :=
  Below w.heap.size w w' ∧ ((laidX wh = none ∧ e = .returned (.tuple #[.int .i64 0, .slice none 0 0, .iface 75 (.int .i64 4)])) ∨ ∃ side rows va vc, laidX wh = some (side, rows) ∧ e = .returned (.tuple #[.int .i64 (side : Nat), .slice va rows.length vc, .nilIface]) ∧ OwnsC w' w.heap.size (.slice va rows.length vc) rows)
theorem laidX_at {wh : Nat → Option (List Ch)} {i : Nat} {r : List Ch} (hi : i < 2) (hb : ∀ j, j < i → wh (1 - j) = none) (h : wh (1 - i) = some r) : laidX wh = some (1 - i, r) := by
  match i, hi with
  | 0, _ => unfold laidX; rw [show wh 1 = some r from h]
  | 1, _ => unfold laidX; rw [show wh 1 = none from hb 0 (by omega)]; simp only; rw [show wh 0 = some r from h]
theorem laidX_none {wh : Nat → Option (List Ch)} (hb : ∀ j, j < 2 → wh (1 - j) = none) : laidX wh = none := by
  unfold laidX
  rw [show wh 1 = none from hb 0 (by omega)]
  simp only
  rw [show wh 0 = none from hb 1 (by omega)]

set_option maxRecDepth 100000 in
set_option maxHeartbeats 2000000 in
theorem storeLaid_any (p : Dp) (d : Dk) (w : World) (wh : Nat → Option (List Ch)) (h : DiskAt w p d) (hup : d.down = false) (h42 : 42 ≤ d.now.length)
    (hw : ∀ i : Nat, i ≤ 1 → ∀ W, Below w.heap.size w W → Calls Try.prog 73 #[.pointer (some ⟨p.B, 0, none⟩), .int .i64 i] W (WholeSays w (wh i) W)) :
    Calls Try.prog 45 #[.pointer (some ⟨p.B, 0, none⟩)] w fun e w' => LaidSays w wh e w' := by
  have HD : Hid (DiskAt w p d) := h
  have HW : Hid (∀ i : Nat, i ≤ 1 → ∀ W, Below w.heap.size w W → Calls Try.prog 73 #[.pointer (some ⟨p.B, 0, none⟩), .int .i64 i] W (WholeSays w (wh i) W)) := hw
  have kd := down_any p d w h
  rw [hup] at kd
  have KD : Hid _ := kd
  have KS : Hid _ := sectors_any p d w h
  have KO : Hid _ := storeOther_any 1 w (by omega)
  have h60 := h.few
  have h42z : ¬ (d.now.length : Int) < 42 := by omega
  clear h hw kd
  go_enter Try.func45, Try.ntmps45
  go_wp2_with fail
  refine Calls.mono KD.out ?_
  rintro e w1 ⟨rfl, hw⟩
  rw [hw]
  clear hw w1 KD
  go_wp2_with fail
  refine Calls.mono KS.out ?_
  rintro e w1 ⟨rfl, hw⟩
  rw [hw]
  clear hw w1 KS
  go_wp2_with fail
  refine Calls.mono KO.out ?_
  rintro e w1 ⟨rfl, hw⟩
  rw [hw]
  clear hw w1 KO
  go_wp2_with fail
  go_loopg [19] 3 (fun kx vi wr => ∃ i : Nat, vi = .int .i64 i ∧ i ≤ 2 ∧ 2 - i ≤ kx ∧ Hid (Below w.heap.size w wr) ∧ Hid (wr.heap[w.heap.size]? = some (.cells #[.int .i64 1, .int .i64 0] 3 (0, 0))) ∧ Hid (∀ j, j < i → wh (1 - j) = none))
  case atStart => exact ⟨0, rfl, by omega, by omega, (Below.refl _ _).alloc (Nat.le_refl _) _, heap_alloc_new w _, fun j hj => absurd hj (Nat.not_lt_zero _)⟩
  case round =>
    obtain ⟨i, rfl, hi, hix, HB, HI, HNO⟩ := hrel
    by_cases hlt : i < 2
    · have hltz : (i : Int) < 2 := by omega
      obtain ⟨sd, hsd⟩ : ∃ sd, sd = 1 - i := ⟨_, rfl⟩
      have hcell : wr.cell? ⟨w.heap.size, i, none⟩ = some (.int .i64 sd) := by
        rw [cell_block HI.out, hsd]
        match i, hlt with
        | 0, _ => rfl
        | 1, _ => rfl
      have HSD : Hid (sd = 1 - i) := hsd
      have KW : Hid _ := HW.out sd (by omega) wr HB.out
      clear hsd
      go_wp2_with fail
      refine Calls.mono KW.out ?_
      rintro e w2 ⟨hb2, hor⟩
      have HB2 : Hid (Below w.heap.size w w2) := HB.out.trans (hb2.mono HB.out.size)
      have HI2 : Hid (w2.heap[w.heap.size]? = some (.cells #[.int .i64 1, .int .i64 0] 3 (0, 0))) := (hb2.block _ (Array.getElem?_eq_some_iff.1 HI.out).1).trans HI.out
      clear hb2 KW
      rcases hor with ⟨hno, rfl⟩ | ⟨rows, va, vc, hyes, rfl, ho⟩
      · have HN2 : Hid (∀ j, j < i + 1 → wh (1 - j) = none) := fun j hj => by
          by_cases e : j = i
          · subst e; rw [← HSD.out]; exact hno
          · exact HNO.out j (by omega)
        clear hno
        go_wp2
        go_roundg (2 - (i + 1))
        case measure => omega
        case rel => exact ⟨i + 1, by go_num, by omega, Nat.le_refl _, HB2, HI2, HN2⟩
      · have HL : Hid (laidX wh = some (sd, rows)) := by show _ = _; rw [HSD.out]; exact laidX_at hlt HNO.out (by rw [← HSD.out]; exact hyes)
        have HO : Hid (OwnsC w2 w.heap.size (.slice va rows.length vc) rows) := OwnsC.base ho HB.out.size
        clear hyes ho
        go_wp2
        go_ret3
        exact ⟨HB2.out, .inr ⟨sd, rows, va, vc, HL.out, rfl, HO.out⟩⟩
    · have hge : ¬ (i : Int) < 2 := by omega
      have HL : Hid (laidX wh = none) := laidX_none (fun j hj => HNO.out j (by omega))
      go_wp2
      go_ret3
      exact ⟨HB.out, .inl ⟨HL.out, rfl⟩⟩
end Go.Proofs.Ytihnghnafpgdfac
