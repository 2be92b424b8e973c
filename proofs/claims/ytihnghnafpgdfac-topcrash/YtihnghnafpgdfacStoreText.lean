/-
  A STORE's ROWS AS SECTORS: textOf.
-/
import Derived.Test.YtihnghnafpgdfacStoreRead
namespace Go.Proofs.Ytihnghnafpgdfac
open Go.RowKit Go.BigFrame
set_option linter.unusedVariables false
set_option linter.unusedSimpArgs false

/-- A row's sector. -/
def rowL (c : Ch) : List UInt8 := UInt8.ofNat (bytesC c).length :: (bytesC c ++ List.replicate (39 - (bytesC c).length) 0)
theorem rowL_length {c : Ch} (h : changeF c = 0) : (rowL c).length = 40 := by
  have := bytesC_len h
  simp [rowL]; omega
/-- The sectors of rows, one behind the other. -/
def textL (rows : List Ch) : List UInt8 := (rows.map rowL).flatten
theorem textL_length {rows : List Ch} (h : ∀ c ∈ rows, changeF c = 0) : (textL rows).length = rows.length * 40 := by
  unfold textL
  rw [flat_len (fun x hx => by obtain ⟨c, hc, rfl⟩ := List.mem_map.1 hx; exact rowL_length (h c hc)), List.length_map]
theorem textL_snoc (l : List Ch) (c : Ch) : textL (l ++ [c]) = textL l ++ rowL c := by simp [textL]
theorem repeat_nought : ∀ n, Lib.repeatL [0] n = List.replicate n 0
  | 0 => rfl
  | n + 1 => by rw [Lib.repeatL, repeat_nought n]; rfl
theorem row_cells (l : List UInt8) (c : Ch) (h : (bytesC c).length < 256) : Lib.byteCells l ++ [Value.int .u8 ((bytesC c).length : Nat)] ++ Lib.strCells (baL (bytesC c)) ++ Lib.strCells (baL (List.replicate (39 - (bytesC c).length) 0)) = Lib.byteCells (l ++ rowL c) := by
  have e : [Value.int .u8 ((bytesC c).length : Nat)] = Lib.byteCells [UInt8.ofNat (bytesC c).length] := by
    unfold Lib.byteCells
    have : (UInt8.ofNat (bytesC c).length).toNat = (bytesC c).length := by simp; omega
    simp [this]
  rw [e]
  have a : ∀ x y : List UInt8, Lib.byteCells x ++ Lib.byteCells y = Lib.byteCells (x ++ y) := fun x y => by unfold Lib.byteCells; rw [List.map_append]
  rw [a, byteCells_more, byteCells_more]
  unfold rowL
  simp

set_option maxRecDepth 100000 in
set_option maxHeartbeats 4000000 in
theorem storeTextOf_any (a : Option Addr) (cap : Nat) (l : List Ch) (w : World) (hl : l.length ≤ 100) (hc : CC w a l) (hok : ∀ c ∈ l, changeF c = 0) :
    Calls Try.prog 38 #[.slice a l.length cap] w fun e w' => e = .returned (.string (baL (textL l))) ∧ Below w.heap.size w w' := by
  have HC : Hid (CC w a l) := hc
  have HOK : Hid (∀ c ∈ l, changeF c = 0) := hok
  have HSZ : Hid (∀ i, (textL (l.take i)).length ≤ 4000) := fun i => by
    rw [textL_length (fun c hc => hok c (List.mem_of_mem_take hc)), List.length_take]
    omega
  clear hc hok
  go_enter Try.func38, Try.ntmps38
  go_wp2_with fail
  go_loopg [10] (l.length + 1) (fun kx vi wr => ∃ i : Nat, vi = .int .i64 i ∧ i ≤ l.length ∧ l.length - i ≤ kx ∧ Hid (Lib.IsBuilder 113 5 w.heap.size w.heap.size (Lib.byteCells (textL (l.take i))) wr) ∧ Hid (Below w.heap.size w wr))
  case atStart => exact ⟨0, rfl, by omega, by omega, Lib.fresh_isBuilder _ _ w, (Below.refl _ _).alloc (Nat.le_refl _) _⟩
  case round =>
    obtain ⟨i, rfl, hi, hix, HB, HBL⟩ := hrel
    by_cases hlt : i < l.length
    · have hltz : (i : Int) < (l.length : Int) := by omega
      obtain ⟨cb, co, rfl, c0, c1, c2⟩ := (HC.out.below HBL.out) i hlt
      have hf : changeF l[i] = 0 := HOK.out _ (List.getElem_mem hlt)
      obtain ⟨x, hx⟩ : ∃ x, x = l[i] := ⟨_, rfl⟩
      rw [← hx] at c0 c1 c2 hf
      have hbl : (bytesC x).length ≤ 26 := bytesC_len hf
      have HTX : Hid (textL (l.take (i + 1)) = textL (l.take i) ++ rowL x) := by show _ = _; rw [List.take_succ_eq_append_getElem hlt, textL_snoc, hx]
      clear hx
      have kb := fun W => rowBytes_any x W
      rw [hf, errV_zero rfl, if_pos rfl] at kb
      obtain ⟨n, hn⟩ : ∃ n, n = (bytesC x).length := ⟨_, rfl⟩
      have hn26 : n ≤ 26 := by omega
      obtain ⟨Y, hY⟩ : ∃ Y, Y = baL (bytesC x) := ⟨_, rfl⟩
      have hYs : Y.size = n := by rw [hY, baL_size, hn]
      have KB : Hid (∀ o, Calls Try.prog 61 #[x.v] (wr.alloc o) fun e w' => e = .returned (.tuple #[.string Y, .nilIface]) ∧ Below wr.heap.size wr w') := fun o => (kb (wr.alloc o)).mono fun e w' ⟨he, hb⟩ => ⟨by rw [hY]; exact he, ((Below.refl wr.heap.size wr).alloc (Nat.le_refl _) o).trans (hb.mono ((Below.refl wr.heap.size wr).alloc (Nat.le_refl _) o).size)⟩
      have HROW : Hid (Lib.byteCells (textL (l.take i)) ++ [Value.int .u8 (n : Int)] ++ Lib.strCells Y ++ Lib.strCells (baL (List.replicate (39 - n) 0)) = Lib.byteCells (textL (l.take (i + 1)))) := by
        show _ = _
        rw [HTX.out, hY, hn]
        exact row_cells _ x (by omega)
      have HS0 : Hid ((Lib.byteCells (textL (l.take i))).length ≤ 4000) := by show _ ≤ _; rw [byteCells_len]; exact HSZ.out i
      have HYC : Hid ((Lib.strCells Y).length = n) := by show _ = _; rw [Lib.strCells_length, hYs]
      have KP : Hid (∀ W, Calls Try.prog 64 #[.string ⟨#[0]⟩, .int .i64 (39 - (n : Int))] W fun e w' => e = .returned (.string (baL (List.replicate (39 - n) 0))) ∧ Below W.heap.size W w') := fun W => by
        have h := Try.strings_Repeat ⟨#[0]⟩ (39 - n) W (by omega) (by have : (⟨#[0]⟩ : ByteArray).size = 1 := rfl; rw [this]; omega)
        rw [show (((39 - n : Nat) : Nat) : Int) = 39 - (n : Int) by omega] at h
        have e : Lib.repeatL (⟨#[0]⟩ : ByteArray).data.toList (39 - n) = List.replicate (39 - n) 0 := repeat_nought _
        rw [e] at h
        exact h
      clear kb hn hY HTX hf hbl
      generalize hZ : baL (List.replicate (39 - n) 0) = Z at *
      have hZs : Z.size ≤ 39 := by rw [← hZ, baL_size, List.length_replicate]; omega
      clear hZ
      go_wp2_with fail
      refine Calls.mono (KB.out _) ?_
      rintro e w2 ⟨rfl, hb2⟩
      have HBL2 : Hid (Below w.heap.size w w2) := HBL.out.trans (hb2.mono HBL.out.size)
      have HB2 : Hid _ := isBuilder_below HB.out hb2
      have KW1 : Hid _ := writeByte_any w.heap.size w.heap.size _ (n : Int) w2 HB2.out (by have := HS0.out; omega) HBL2.out.size
      clear hb2
      go_wp2_with fail
      refine Calls.mono KW1.out ?_
      rintro e w3 ⟨rfl, hb3, hbl3⟩
      have HBL3 : Hid (Below w.heap.size w w3) := HBL2.out.trans hbl3
      have KW2 : Hid _ := writeString_any w.heap.size w.heap.size _ Y w3 (.inr hb3) (by have := HS0.out; simp; omega) (by omega) HBL3.out.size
      clear hb3 hbl3 KW1
      go_wp2_with fail
      refine Calls.mono KW2.out ?_
      rintro e w4 ⟨rfl, hb4, hbl4⟩
      have HBL4 : Hid (Below w.heap.size w w4) := HBL3.out.trans hbl4
      have HB4 : Hid _ := hb4
      clear hb4 hbl4 KW2
      go_wp2_with fail
      refine Calls.mono (KP.out _) ?_
      rintro e w5 ⟨rfl, hb5⟩
      have HBL5 : Hid (Below w.heap.size w w5) := HBL4.out.trans (hb5.mono HBL4.out.size)
      have KW3 : Hid _ := writeString_any w.heap.size w.heap.size _ Z w5 (isBuilder_below (.inr HB4.out) hb5) (by have := HS0.out; have := HYC.out; simp; omega) (by omega) HBL5.out.size
      rw [HROW.out] at KW3
      clear hb5 KP
      go_wp2_with fail
      refine Calls.mono KW3.out ?_
      rintro e w6 ⟨rfl, hb6, hbl6⟩
      have HBL6 : Hid (Below w.heap.size w w6) := HBL5.out.trans hbl6
      have HB6 : Hid (Lib.IsBuilder 113 5 w.heap.size w.heap.size (Lib.byteCells (textL (l.take (i + 1)))) w6) := .inr hb6
      clear hb6 hbl6 KW3
      go_wp2
      go_roundg (l.length - (i + 1))
      case measure => omega
      case rel => exact ⟨i + 1, by go_num, by omega, Nat.le_refl _, HB6, HBL6⟩
    · have HALL : Hid (l.take i = l) := List.take_of_length_le (by omega)
      have ks := Try.Builder_String_any w.heap.size w.heap.size _ wr HB.out HBL.out.size
      rw [HALL.out] at ks
      have KS : Hid _ := ks
      clear ks
      go_wp2_with fail
      refine Calls.mono KS.out ?_
      rintro e w3 ⟨rfl, hbl3⟩
      have HBL3 : Hid (Below w.heap.size w w3) := HBL.out.trans hbl3
      clear hbl3 KS
      go_wp2
      go_ret
      exact ⟨rfl, HBL3.out⟩
end Go.Proofs.Ytihnghnafpgdfac
