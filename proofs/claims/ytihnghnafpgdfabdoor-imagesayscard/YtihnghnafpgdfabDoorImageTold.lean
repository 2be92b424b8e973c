/-
  A NUMBER IN DIGITS, WITH NOUGHTS AHEAD: told.
-/
import Derived.Test.YtihnghnafpgdfabDoorRowSame
import Derived.Test.YtihnghnafpgdfabDoorNums
import Derived.Lib.AppendIntMem
namespace Go.Proofs.YtihnghnafpgdfabDoor
open Go Go.RowKit Go.BigFrame
set_option linter.unusedVariables false
set_option linter.unusedSimpArgs false

theorem repeat_one (x : UInt8) : ∀ n, Lib.repeatL [x] n = List.replicate n x
  | 0 => rfl
  | n + 1 => by rw [Lib.repeatL, repeat_one x n]; rfl
theorem nDigits_step {u k : Nat} (h : Lib.nDigits (u / 10) ≤ k) : Lib.nDigits u ≤ k + 1 := by
  rw [Lib.nDigits]
  split <;> omega
theorem itoa_four {u : Nat} (h : u < 10000) : (Lib.itoa (u : Int)).length ≤ 4 := by
  rw [Lib.itoa_nonneg, Lib.decDigits_length]
  exact nDigits_step (nDigits_step (nDigits_step (Nat.le_of_eq (Lib.nDigits_small (by omega)))))
def toldL (n : Int) : List UInt8 := Lib.repeatL [48] (4 - (Lib.itoa n).length) ++ Lib.itoa n
set_option maxRecDepth 100000 in
theorem told_any (n : Int) (w : World) (h0 : 0 ≤ n) (h1 : n ≤ 100000) (hlen : (Lib.itoa n).length ≤ 4) (htab : Lib.TabIs Tryd.prog w "internal/strconv.uint64pow10" .u64 Lib.pow10Tab) :
    Calls Tryd.prog 26 #[.int .i64 n] w fun e w' => e = .returned (.string ⟨(toldL n).toArray⟩) ∧ Below w.heap.size w w' := by
  have KI : Hid _ := Tryd.strconv_Itoa n (by omega) (by omega) w htab
  have HT : Hid (toldL n = Lib.repeatL [48] (4 - (Lib.itoa n).length) ++ Lib.itoa n) := rfl
  clear htab
  generalize Lib.itoa n = D at *
  generalize toldL n = T at *
  have hmax : max (0 : Int) (4 - (D.length : Int)) = ((4 - D.length : Nat) : Int) := by omega
  have HMAX : Hid (max (0 : Int) (4 - (D.length : Int)) = ((4 - D.length : Nat) : Int)) := hmax
  clear hmax
  go_enter Tryd.func26, Tryd.ntmps26
  go_wp2_with fail
  refine Calls.mono KI.out ?_
  rintro e w1 ⟨rfl, k, os, hw⟩
  have HB1 : Hid (Below w.heap.size w w1) := by show Below _ _ _; rw [hw]; exact Lib.below_grow _ w (Nat.le_refl _) k os
  have KR : Hid _ := Tryd.strings_Repeat ⟨#[48]⟩ (4 - D.length) w1 (by omega) (by simp [ByteArray.size]; omega)
  clear KI hw
  go_wp2_with fail
  rw [HMAX.out]
  refine Calls.mono KR.out ?_
  rintro e w2 ⟨rfl, hb⟩
  have HB2 : Hid (Below w.heap.size w w2) := HB1.out.trans (hb.mono HB1.out.size)
  clear hb KR HB1
  have hsz : (⟨(Lib.repeatL [48] (4 - D.length)).toArray⟩ : ByteArray).size + (⟨D.toArray⟩ : ByteArray).size ≤ 4 := by
    rw [repeat_one]
    simp [ByteArray.size]
    omega
  have HJ : Hid ((⟨(Lib.repeatL [48] (4 - D.length)).toArray⟩ : ByteArray) ++ (⟨D.toArray⟩ : ByteArray) = ⟨T.toArray⟩) := by
    show _ = _
    rw [HT.out]
    apply ByteArray.ext
    simp
  have hs1 : (⟨(Lib.repeatL [48] (4 - D.length)).toArray⟩ : ByteArray).size ≤ 4 := by omega
  have hs2 : (⟨D.toArray⟩ : ByteArray).size ≤ 4 := by omega
  clear hlen
  generalize (⟨(Lib.repeatL [48] (4 - D.length)).toArray⟩ : ByteArray) = S1 at *
  generalize (⟨D.toArray⟩ : ByteArray) = S2 at *
  go_wp2
  go_ret
  rw [HJ.out]
  exact ⟨rfl, HB2.out⟩
end Go.Proofs.YtihnghnafpgdfabDoor
