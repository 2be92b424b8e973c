/-
  A SIDE OF A STORE, AS ITS HEAD SAYS: whole.
-/
import Derived.Test.YtihnghnafpgdfacStoreRead
import Derived.Test.YtihnghnafpgdfacLogAdd
namespace Go.Proofs.Ytihnghnafpgdfac
open Go.RowKit Go.BigFrame
set_option linter.unusedVariables false
set_option linter.unusedSimpArgs false

/-- What stands in a side's head sector, how many sectors it names, and the text that these are. -/
def headS (d : Dk) (i : Nat) : List UInt8 := d.now.getD i []
def headC (d : Dk) (i : Nat) : Nat := byteAt (baL (headS d i)) 11
def sideT (d : Dk) (i : Nat) : ByteArray := baL (regionL d.now (2 + i * 12) (headC d i)).flatten
/-- A head that says what its side has. -/
def HeadOk (d : Dk) (i : Nat) : Prop := headC d i ≤ 12 ∧ (headL i (sideT d i)).isPrefixOf (headS d i) = true
theorem sideT_size {d : Dk} {i : Nat} (hF : Forty d.now) (h42 : 42 ≤ d.now.length) (hi : i ≤ 1) (hc : headC d i ≤ 12) : (sideT d i).size ≤ 480 := by
  unfold sideT
  rw [baL_size, flat_len (R := regionL d.now (2 + i * 12) (headC d i)) (fun x hx => hF x (List.mem_of_mem_drop (List.mem_of_mem_take hx))), regionL_length (by omega)]
  omega
def WEnd (Post : Ending → World → Prop) (e : Ending) (w : World) : Prop := Post e w
set_option maxRecDepth 100000 in
set_option maxHeartbeats 2000000 in
theorem storeWhole_any (p : Dp) (d : Dk) (i : Nat) (w : World) (Post : Ending → World → Prop) (h : DiskAt w p d) (hup : d.down = false) (h42 : 42 ≤ d.now.length) (hi : i ≤ 1)
    (hbad : ∀ W, Below w.heap.size w W → ¬ HeadOk d i → Post (.returned (.tuple #[.slice none 0 0, .iface 75 (.int .i64 4)])) W)
    (hgood : HeadOk d i → ∀ W, Below w.heap.size w W → Calls Try.prog 96 #[.string (sideT d i)] W fun e w' => ∃ va n vc ev, e = .returned (.tuple #[.slice va n vc, ev]) ∧ Post (.returned (.tuple #[.slice va n vc, ev])) w') :
    Calls Try.prog 73 #[.pointer (some ⟨p.B, 0, none⟩), .int .i64 i] w fun e w' => WEnd Post e w' := by
  have HD : Hid (DiskAt w p d) := h
  have HBAD : Hid _ := hbad
  have HGOOD : Hid _ := hgood
  have HF : Hid (Forty d.now) := h.snow
  have h60 := h.few
  have hs40 : (headS d i).length = 40 := by
    unfold headS
    have hlt : i < d.now.length := by omega
    rw [List.getD_eq_getElem?_getD, List.getElem?_eq_getElem hlt]
    exact h.snow _ (List.getElem_mem hlt)
  have kr := diskRead_any p d (i : Int) w h
  have er : readD d (i : Int) = (headS d i, 0) := by
    unfold readD headS
    rw [if_neg (by rw [hup]; decide), if_pos (by omega)]
    simp
  rw [er, errV_zero rfl] at kr
  have KR : Hid (Calls Try.prog 94 #[.pointer (some ⟨p.B, 0, none⟩), .int .i64 i] w fun e w' => e = .returned (.tuple #[.string (baL (headS d i)), .nilIface]) ∧ w' = w) := kr
  obtain ⟨S, hS⟩ : ∃ S, S = baL (headS d i) := ⟨_, rfl⟩
  have HS : Hid (S = baL (headS d i)) := hS
  rw [← hS] at KR
  have hz : S.size = 40 := by rw [hS, baL_size, hs40]
  have b11 := byteAt_eq (s := S) (i := 11) (by omega)
  have l11 := byteAt_lt S 11
  obtain ⟨n, hn⟩ : ∃ n, n = byteAt S 11 := ⟨_, rfl⟩
  have HN : Hid (n = headC d i) := by show _ = _; rw [hn, hS]; rfl
  rw [← hn] at b11 l11
  have hnl : n < 256 := l11
  clear hn kr er h hbad hgood hS hs40
  by_cases h12 : 12 < n
  · have h12z : (12 : Int) < (n : Int) := by omega
    have HNO : Hid (¬ HeadOk d i) := fun hh => by have := hh.1; rw [← HN.out] at this; omega
    go_enter Try.func73, Try.ntmps73
    go_wp2_with fail
    refine Calls.mono KR.out ?_
    rintro e w1 ⟨rfl, hw⟩
    rw [hw]
    clear hw w1
    go_wp2
    go_ret2
    exact HBAD.out _ (Below.refl _ _) HNO.out
  have h12z : ¬ (12 : Int) < (n : Int) := by omega
  have hTs := sideT_size (d := d) (i := i) HF.out h42 hi (by rw [← HN.out]; omega)
  have KA : Hid _ := storeSideAt_any i w hi
  have KRD : Hid (Calls Try.prog 95 #[.pointer (some ⟨p.B, 0, none⟩), .int .i64 ((2 + i * 12 : Nat) : Int), .int .i64 n] w fun e w' => e = .returned (.tuple #[.string (sideT d i), .nilIface]) ∧ Below w.heap.size w w') := by
    have := storeRead_any p d (2 + i * 12) n w HD.out hup (by omega)
    unfold sideT
    rw [← HN.out]
    exact this
  have KH : Hid (∀ W, Calls Try.prog 56 #[.int .i64 i, .string (sideT d i)] W fun e w' => e = .returned (.string (baL (headL i (sideT d i)))) ∧ Below W.heap.size W w') := fun W => storeHead_any i (sideT d i) W hi (by omega)
  have KP : Hid (∀ W, Calls Try.prog 86 #[.string S, .string (baL (headL i (sideT d i)))] W fun e w' => e = .returned (.bool ((headL i (sideT d i)).isPrefixOf (headS d i))) ∧ w' = W) := fun W => by
    rw [HS.out]
    have := Try.strings_HasPrefix (baL (headS d i)) (baL (headL i (sideT d i))) W
    unfold Lib.hasPrefix at this
    rw [baL_list, baL_list] at this
    exact this
  have HOKI : Hid (HeadOk d i ↔ (headL i (sideT d i)).isPrefixOf (headS d i) = true) := ⟨fun hh => hh.2, fun hh => ⟨by rw [← HN.out]; omega, hh⟩⟩
  clear hTs
  generalize (headL i (sideT d i)).isPrefixOf (headS d i) = pre at *
  generalize baL (headL i (sideT d i)) = HH at *
  generalize sideT d i = T at *
  generalize ((2 + i * 12 : Nat) : Int) = at' at *
  go_enter Try.func73, Try.ntmps73
  go_wp2_with fail
  refine Calls.mono KR.out ?_
  rintro e w1 ⟨rfl, hw⟩
  rw [hw]
  clear hw w1 KR
  go_wp2_with fail
  refine Calls.mono KA.out ?_
  rintro e w1 ⟨rfl, hw⟩
  rw [hw]
  clear hw w1 KA
  go_wp2_with fail
  refine Calls.mono KRD.out ?_
  rintro e w2 ⟨rfl, hb2⟩
  have HB2 : Hid (Below w.heap.size w w2) := hb2
  clear hb2 KRD
  go_wp2_with fail
  refine Calls.mono (KH.out w2) ?_
  rintro e w3 ⟨rfl, hb3⟩
  have HB3 : Hid (Below w.heap.size w w3) := HB2.out.trans (hb3.mono HB2.out.size)
  clear hb3 KH
  go_wp2_with fail
  refine Calls.mono (KP.out w3) ?_
  rintro e w4 ⟨rfl, hw⟩
  rw [hw]
  clear hw w4 KP
  cases pre
  · have HNO : Hid (¬ HeadOk d i) := fun hh => by have := HOKI.out.1 hh; cases this
    go_wp2
    go_ret2
    exact HBAD.out _ HB3.out HNO.out
  · have KG : Hid _ := HGOOD.out (HOKI.out.2 rfl) w3 HB3.out
    go_wp2_with fail
    refine Calls.mono KG.out ?_
    rintro e w5 ⟨va, nn, vc, ev, rfl, hpost⟩
    have HPO : Hid _ := hpost
    clear hpost KG
    go_wp2
    go_ret2
    exact HPO.out
end Go.Proofs.Ytihnghnafpgdfac
