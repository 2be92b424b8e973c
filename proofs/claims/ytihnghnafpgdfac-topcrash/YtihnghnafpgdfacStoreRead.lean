/-
  A STORE READS ITS SECTORS: read.
-/
import Derived.Test.YtihnghnafpgdfacBuilder
import Derived.Test.YtihnghnafpgdfacStoreHead
import Derived.Test.YtihnghnafpgdfacStrs
namespace Go.Proofs.Ytihnghnafpgdfac
open Go.RowKit Go.BigFrame
set_option linter.unusedVariables false
set_option linter.unusedSimpArgs false

theorem read_at {d : Dk} {start many i : Nat} (hup : d.down = false) (hin : start + many ≤ d.now.length) (hi : i < many) : ∃ h : i < (regionL d.now start many).length, readD d ((start : Int) + (i : Int)) = ((regionL d.now start many)[i], 0) := by
  have hl := regionL_length hin
  refine ⟨by omega, ?_⟩
  have hn : start + i < d.now.length := by omega
  unfold readD
  rw [if_neg (by rw [hup]; decide), if_pos (by omega), show ((start : Int) + (i : Int)).toNat = start + i by omega]
  have := regionL_at (now := d.now) (from' := start) (many := many) (j := i)
  rw [if_pos hi, List.getElem?_eq_getElem (by omega), List.getElem?_eq_getElem hn] at this
  rw [Option.some.inj this]
  simp [hn]
theorem region_len40 {d : Dk} {start many : Nat} (h : Forty d.now) {i : Nat} (hi : i < (regionL d.now start many).length) : (regionL d.now start many)[i].length = 40 :=
  h _ (List.mem_of_mem_drop (List.mem_of_mem_take (List.getElem_mem hi)))
theorem flat_len : ∀ {R : List (List UInt8)}, (∀ x ∈ R, x.length = 40) → R.flatten.length = R.length * 40
  | [], _ => rfl
  | x :: R, h => by
    have := flat_len (R := R) (fun y hy => h y (List.mem_cons_of_mem _ hy))
    rw [List.flatten_cons, List.length_append, this, h x (by simp), List.length_cons]
    omega
theorem byteCells_more (l : List UInt8) (x : List UInt8) : Lib.byteCells l ++ Lib.strCells (baL x) = Lib.byteCells (l ++ x) := by
  unfold Lib.byteCells Lib.strCells
  rw [baL_list, List.map_append]
theorem byteCells_len (l : List UInt8) : (Lib.byteCells l).length = l.length := by unfold Lib.byteCells; simp
theorem isBuilder_below {B b : Nat} {bs : List Value} {w w' : World} (h : Lib.IsBuilder 113 5 B b bs w) (hb : Below w.heap.size w w') : Lib.IsBuilder 113 5 B b bs w' := by
  have go : ∀ p, Lib.BuilderAt 113 5 B b p bs w → Lib.BuilderAt 113 5 B b p bs w' := fun p ⟨hB, v, hbk, hown, hne⟩ =>
    ⟨hB, v, by rw [hb.block b (Array.getElem?_eq_some_iff.1 hbk).1]; exact hbk, ownsRow_far hown (fun k hk => hb.block k (hown.lt k hk).2), hne⟩
  rcases h with h | h
  · exact .inl (go _ h)
  · exact .inr (go _ h)

set_option maxRecDepth 100000 in
set_option maxHeartbeats 2000000 in
theorem storeRead_any (p : Dp) (d : Dk) (start many : Nat) (w : World) (h : DiskAt w p d) (hup : d.down = false) (hin : start + many ≤ d.now.length) :
    Calls Try.prog 95 #[.pointer (some ⟨p.B, 0, none⟩), .int .i64 start, .int .i64 many] w fun e w' => e = .returned (.tuple #[.string (baL (regionL d.now start many).flatten), .nilIface]) ∧ Below w.heap.size w w' := by
  have HD : Hid (DiskAt w p d) := h
  have h60 := h.few
  have HF : Hid (Forty d.now) := h.snow
  have HUP : Hid (d.down = false) := hup
  have HIN : Hid (start + many ≤ d.now.length) := hin
  have hlen : (regionL d.now start many).length = many := regionL_length hin
  have HLEN : Hid _ := hlen
  have hm60 : start + many ≤ 60 := by omega
  clear h hup hin hlen
  obtain ⟨R, hR⟩ : ∃ R, R = regionL d.now start many := ⟨_, rfl⟩
  have HR : Hid (R = regionL d.now start many) := hR
  rw [← hR] at HLEN ⊢
  clear hR
  have HSZ : Hid (∀ i, (R.take i).flatten.length ≤ 2400) := fun i => by
    rw [flat_len (fun x hx => by rw [HR.out] at hx; exact HF.out x (List.mem_of_mem_drop (List.mem_of_mem_take (List.mem_of_mem_take hx))))]
    have := HLEN.out
    rw [List.length_take]
    omega
  go_enter Try.func95, Try.ntmps95
  go_wp2_with fail
  go_loopg [13] (many + 1) (fun kx vi wr => ∃ i : Nat, vi = .int .i64 i ∧ i ≤ many ∧ many - i ≤ kx ∧ Hid (Lib.IsBuilder 113 5 w.heap.size w.heap.size (Lib.byteCells (R.take i).flatten) wr) ∧ Hid (Below w.heap.size w wr))
  case atStart => exact ⟨0, rfl, by omega, by omega, Lib.fresh_isBuilder _ _ w, (Below.refl _ _).alloc (Nat.le_refl _) _⟩
  case round =>
    obtain ⟨i, rfl, hi, hix, HB, HBL⟩ := hrel
    by_cases hlt : i < many
    · have hltz : (i : Int) < (many : Int) := by omega
      obtain ⟨hri, hrd⟩ := read_at HUP.out HIN.out hlt
      have kr := diskRead_any p d ((start : Int) + (i : Int)) wr (HD.out.below HBL.out)
      rw [hrd, errV_zero rfl] at kr
      have hx40 := region_len40 HF.out hri
      obtain ⟨x, hx⟩ : ∃ x, x = (regionL d.now start many)[i] := ⟨_, rfl⟩
      rw [← hx] at kr hx40
      have HX : Hid (∃ hh : i < R.length, x = R[i]) := ⟨by rw [HR.out]; exact hri, by simp only [HR.out]; exact hx⟩
      have KR : Hid (Calls Try.prog 94 #[.pointer (some ⟨p.B, 0, none⟩), .int .i64 ((start : Int) + (i : Int))] wr fun e w' => e = .returned (.tuple #[.string (baL x), .nilIface]) ∧ w' = wr) := kr
      have KW : Hid _ := writeString_any w.heap.size w.heap.size _ (baL x) wr HB.out (by rw [byteCells_len]; have := HSZ.out i; omega) (by rw [baL_size]; omega) HBL.out.size
      clear kr hrd hx hri
      have HNX : Hid (Lib.byteCells (R.take i).flatten ++ Lib.strCells (baL x) = Lib.byteCells (R.take (i + 1)).flatten) := by
        show _ = _
        obtain ⟨hh, e⟩ := HX.out
        rw [byteCells_more, List.take_succ_eq_append_getElem hh, List.flatten_append, e]
        simp
      rw [HNX.out] at KW
      go_wp2_with fail
      refine Calls.mono KR.out ?_
      rintro e w2 ⟨rfl, hw⟩
      rw [hw]
      clear hw w2 KR
      go_wp2_with fail
      refine Calls.mono KW.out ?_
      rintro e w3 ⟨rfl, hb3, hbl3⟩
      have HB3 : Hid (Lib.IsBuilder 113 5 w.heap.size w.heap.size (Lib.byteCells (R.take (i + 1)).flatten) w3) := .inr hb3
      have HBL3 : Hid (Below w.heap.size w w3) := HBL.out.trans hbl3
      clear hb3 hbl3 KW
      go_wp2
      go_roundg (many - (i + 1))
      case measure => omega
      case rel => exact ⟨i + 1, by go_num, by omega, Nat.le_refl _, HB3, HBL3⟩
    · have HALL : Hid (R.take i = R) := List.take_of_length_le (by have := HLEN.out; omega)
      have ks := Try.Builder_String_any w.heap.size w.heap.size _ wr HB.out HBL.out.size
      rw [HALL.out] at ks
      have KS : Hid _ := ks
      clear ks
      go_wp2_with fail
      refine Calls.mono KS.out ?_
      rintro e w3 ⟨rfl, hbl3⟩
      have HBL3 : Hid (Below w.heap.size w w3) := HBL.out.trans hbl3
      clear hbl3 KS
      go_wp2
      go_ret2
      exact ⟨rfl, HBL3.out⟩
end Go.Proofs.Ytihnghnafpgdfac
