/-
  A DISK IS FORMATTED: Format.
-/
import Derived.Test.YtihnghnafpgdfacStoreHead
namespace Go.Proofs.Ytihnghnafpgdfac
open Go.RowKit Go.BigFrame
set_option linter.unusedVariables false
set_option linter.unusedSimpArgs false

/-- Sectors are settled one behind the other, till one fails. -/
def seqD : Dk → List (Nat × ByteArray) → Dk × Int
  | d, [] => (d, 0)
  | d, x :: r => if (layD d x.1 [x.2]).2 = 0 then seqD (layD d x.1 [x.2]).1 r else layD d x.1 [x.2]
def formL : List (Nat × ByteArray) := [(0, ⟨#[]⟩), (1, ⟨#[]⟩), (26, ⟨#[]⟩), (1, baL (headL 1 ⟨#[]⟩))]
def formatD (d : Dk) : Dk × Int := if d.now.length < 42 then (d, 7) else seqD d formL
def placeI : Nat → Nat
  | 0 => 0
  | 1 => 1
  | _ => 26
theorem formL_step (D : Dk) {i : Nat} (h : i < 3) : seqD D (formL.drop i) = if (layD D (placeI i) [⟨#[]⟩]).2 = 0 then seqD (layD D (placeI i) [⟨#[]⟩]).1 (formL.drop (i + 1)) else layD D (placeI i) [⟨#[]⟩] := by
  match i, h with
  | 0, _ => rfl
  | 1, _ => rfl
  | 2, _ => rfl
/-- While a disk is formatted. -/
structure FmAt (w wr : World) (p : Dp) (u : Value) (D : Dk) (q : Nat) : Prop where
  disk : DiskAt wr { p with wv := u } D
  touch : Touch (dOwn p) w wr
  new : NewTo p w u
  few : D.wr.length ≤ 60
  ints : wr.heap[q]? = some (.cells #[.int .i64 0, .int .i64 1, .int .i64 26] 3 (0, 0))
theorem fmSettle {w wr : World} {p : Dp} {u : Value} {D d : Dk} {q : Nat} (h : FmAt w wr p u D q) (k : Nat) (s : ByteArray) (hs : s.size ≤ 1000) :
    Calls Try.prog 55 #[.pointer (some ⟨p.B, 0, none⟩), .int .i64 k, .string s] wr fun e w' => e = .returned (errV (layD D k [s]).2) ∧ ∃ u', DiskAt w' { p with wv := u' } (layD D k [s]).1 ∧ Touch (dOwn p) w w' ∧ NewTo p w u' ∧ ((layD D k [s]).2 = 0 → FmAt w w' p u' (layD D k [s]).1 q) := by
  refine (storeSettle_any { p with wv := u } D k s wr h.disk hs (by have := h.few; omega)).mono ?_
  rintro e w' ⟨he, u', hd, ht, hn⟩
  have hT : Touch (dOwn p) w w' := h.touch.step ht rfl rfl rfl h.new
  have hN : NewTo p w u' := fun k hk => by
    rcases hn k hk with e | e
    · exact h.new k e
    · exact .inr (Nat.le_trans h.touch.size e)
  exact ⟨he, u', hd, hT, hN, fun h0 => ⟨hd, hT, hN, by rw [layD_len _ _ _ h0]; simp, by rw [ht.other h.disk h.ints (by decide)]; exact h.ints⟩⟩

set_option maxRecDepth 100000 in
set_option maxHeartbeats 2000000 in
theorem storeFormat_any (p : Dp) (d : Dk) (w : World) (h : DiskAt w p d) (hwr : d.wr.length ≤ 60) :
    Calls Try.prog 32 #[.pointer (some ⟨p.B, 0, none⟩)] w fun e w' => e = .returned (errV (formatD d).2) ∧ ∃ u, DiskAt w' { p with wv := u } (formatD d).1 ∧ Touch (dOwn p) w w' ∧ NewTo p w u := by
  have HD : Hid (DiskAt w p d) := h
  have KS : Hid _ := sectors_any p d w h
  have h60 := h.few
  clear h
  by_cases h42 : d.now.length < 42
  · have h42z : (d.now.length : Int) < 42 := by omega
    have HF : Hid (formatD d = (d, 7)) := by show _ = _; unfold formatD; rw [if_pos h42]
    have HEV : Hid (errV 7 = .iface 75 (.int .i64 7)) := errV_pos (show ¬ (7 : Int) = 0 by decide)
    go_enter Try.func32, Try.ntmps32
    go_wp2_with fail
    refine Calls.mono KS.out ?_
    rintro e w1 ⟨rfl, hw⟩
    rw [hw]
    clear hw w1
    go_wp2
    go_ret
    rw [HF.out]
    exact ⟨congrArg Ending.returned HEV.out.symm, p.wv, HD.out, Touch.refl _ _, fun k hk => .inl hk⟩
  have h42z : ¬ (d.now.length : Int) < 42 := by omega
  have HF : Hid (formatD d = seqD d formL) := by show _ = _; unfold formatD; rw [if_neg h42]
  have KO : Hid _ := storeOther_any 1 w (by omega)
  go_enter Try.func32, Try.ntmps32
  go_wp2_with fail
  refine Calls.mono KS.out ?_
  rintro e w1 ⟨rfl, hw⟩
  rw [hw]
  clear hw w1 KS
  go_wp2_with fail
  refine Calls.mono KO.out ?_
  rintro e w1 ⟨rfl, hw⟩
  rw [hw]
  clear hw w1 KO
  go_wp2_with fail
  go_loopg [13] 4 (fun kx vi wr => ∃ (i : Nat) (u : Value) (D : Dk), vi = .int .i64 i ∧ i ≤ 3 ∧ 3 - i ≤ kx ∧ Hid (seqD d formL = seqD D (formL.drop i)) ∧ Hid (FmAt w wr p u D w.heap.size))
  case atStart => exact ⟨0, p.wv, d, rfl, by omega, by omega, (rfl : seqD d formL = seqD d (formL.drop 0)), ⟨HD.out.below ((Below.refl _ _).alloc (Nat.le_refl _) _), Touch.of_below ((Below.refl _ _).alloc (Nat.le_refl _) _), (fun k hk => .inl hk), hwr, heap_alloc_new w _⟩⟩
  case round =>
    obtain ⟨i, u, D, rfl, hi, hix, HQ, HA⟩ := hrel
    by_cases hlt : i < 3
    · have hltz : (i : Int) < 3 := by omega
      have HST : Hid _ := formL_step D hlt
      have hcell : wr.cell? ⟨w.heap.size, i, none⟩ = some (.int .i64 (placeI i)) := by
        rw [cell_block HA.out.ints]
        match i, hlt with
        | 0, _ => rfl
        | 1, _ => rfl
        | 2, _ => rfl
      have KT : Hid _ := fmSettle (d := d) HA.out (placeI i) ⟨#[]⟩ (by decide)
      generalize placeI i = k at *
      generalize layD D k [⟨#[]⟩] = R at *
      obtain ⟨D', n⟩ := R
      simp only at HST KT
      by_cases hn : n = 0
      · have HN : Hid (seqD d formL = seqD D' (formL.drop (i + 1))) := by show _ = _; rw [HQ.out, HST.out, if_pos hn]
        rw [hn, errV_zero rfl] at KT
        go_wp2_with fail
        refine Calls.mono KT.out ?_
        rintro e w2 ⟨rfl, u', -, -, -, hfm⟩
        have HFM : Hid (FmAt w w2 p u' D' w.heap.size) := hfm (by trivial)
        clear hfm KT
        go_wp2
        go_roundg (3 - (i + 1))
        case measure => omega
        case rel => exact ⟨i + 1, u', D', by go_num, by omega, Nat.le_refl _, HN, HFM⟩
      · have HN : Hid (formatD d = (D', n)) := by show _ = _; rw [HF.out, HQ.out, HST.out, if_neg hn]
        have HEV : Hid _ := errV_pos hn
        rw [HEV.out] at KT
        go_wp2_with fail
        refine Calls.mono KT.out ?_
        rintro e w2 ⟨rfl, u', hd2, ht2, hn2, -⟩
        have HE : Hid (∃ u, DiskAt w2 { p with wv := u } D' ∧ Touch (dOwn p) w w2 ∧ NewTo p w u) := ⟨u', hd2, ht2, hn2⟩
        clear hd2 ht2 hn2 KT
        go_wp2
        go_ret
        rw [HN.out]
        exact ⟨congrArg Ending.returned HEV.out.symm, HE.out⟩
    · have hge : ¬ (i : Int) < 3 := by omega
      have hi3 : i = 3 := by omega
      have HN : Hid (formatD d = layD D 1 [baL (headL 1 ⟨#[]⟩)]) := by
        show _ = _
        rw [HF.out, HQ.out, hi3]
        show (if _ then seqD _ [] else _) = _
        split
        · rename_i h0
          exact Prod.ext rfl h0.symm
        · rfl
      clear hi3
      have KH : Hid _ := storeHead_any 1 ⟨#[]⟩ wr (by omega) (by decide)
      have KT : Hid (∀ W, Below wr.heap.size wr W → Calls Try.prog 55 #[.pointer (some ⟨p.B, 0, none⟩), .int .i64 1, .string (baL (headL 1 ⟨#[]⟩))] W fun e w' => e = .returned (errV (layD D 1 [baL (headL 1 ⟨#[]⟩)]).2) ∧ ∃ u', DiskAt w' { p with wv := u' } (layD D 1 [baL (headL 1 ⟨#[]⟩)]).1 ∧ Touch (dOwn p) w w' ∧ NewTo p w u') := fun W hb => by
        have hf : FmAt w W p u D w.heap.size := ⟨HA.out.disk.below hb, HA.out.touch.trans (Touch.of_below hb), HA.out.new, HA.out.few, by rw [hb.block _ (Array.getElem?_eq_some_iff.1 HA.out.ints).1]; exact HA.out.ints⟩
        exact (fmSettle (d := d) hf 1 (baL (headL 1 ⟨#[]⟩)) (by rw [baL_size, headL_length]; omega)).mono fun e w' ⟨he, u', h1, h2, h3, _⟩ => ⟨he, u', h1, h2, h3⟩
      generalize baL (headL 1 ⟨#[]⟩) = Y at *
      go_wp2_with fail
      refine Calls.mono KH.out ?_
      rintro e w2 ⟨rfl, hb2⟩
      have HB2 : Hid _ := hb2
      clear hb2 KH
      go_wp2_with fail
      refine Calls.mono (KT.out w2 HB2.out) ?_
      rintro e w3 ⟨rfl, hx⟩
      have HX : Hid _ := hx
      clear hx KT
      go_wp2
      go_ret
      rw [HN.out]
      exact ⟨rfl, HX.out⟩
end Go.Proofs.Ytihnghnafpgdfac
