/-
  THE DOCUMENT's DIGITS: Decimal, noughted.
-/
import Derived.Test.YtihnghnafpgdfabDoorImagePure
namespace Go.Proofs.YtihnghnafpgdfabDoor
open Go Go.RowKit Go.BigFrame
set_option linter.unusedVariables false
set_option linter.unusedSimpArgs false

theorem digit_cell (w : World) (u : Nat) (hu : u < 10) (T : TypeId) : ∀ j (hj : j < [UInt8.ofNat (48 + u)].length), (w.alloc (Obj.cells #[.int .u8 (48 + (u : Int))] T)).cell? ((⟨w.heap.size, 0, none⟩ : Addr).add j) = some (.int .u8 (([UInt8.ofNat (48 + u)])[j].toNat : Int)) := by
  intro j hj
  have e : j = 0 := by simp at hj; omega
  subst e
  simp only [List.getElem_cons_zero]
  rw [ofNat_val u hu]
  simp [Addr.add]
theorem u8_digit (u : Nat) (hu : u < 10) : IntKind.u8.wrap (48 + (u : Int)) = 48 + (u : Int) := by
  rw [IntKind.wrap_u8]
  omega
set_option maxRecDepth 100000 in
set_option maxHeartbeats 1000000 in
theorem decimal_any : ∀ (m n : Nat) (w : World), n < m → n < 100000 → Calls Tryd.prog 40 #[.int .i64 n] w fun e w' => e = .returned (.string ⟨(Lib.decDigits n).toArray⟩) ∧ Below w.heap.size w w'
  | 0, n, w, h, _ => absurd h (by omega)
  | m + 1, n, w, hm, hn => by
    by_cases h10 : n < 10
    · have hcv := run_convert_bytes_back (P := Tryd.prog) (w.alloc (Obj.cells #[.int .u8 (48 + (n : Int))] 5)) 78 9 5 ⟨w.heap.size, 0, none⟩ 1 [UInt8.ofNat (48 + n)] (by kernel_rfl) (by kernel_rfl) (by kernel_rfl) (digit_cell w n h10 5)
      rw [show [UInt8.ofNat (48 + n)].length = 1 from rfl] at hcv
      have HCV : Hid _ := hcv
      have HD : Hid (Lib.decDigits n = [UInt8.ofNat (48 + n)]) := dec_small h10
      have hw8 := u8_digit n h10
      clear hcv
      generalize UInt8.ofNat (48 + n) = G at HCV HD
      go_enter Tryd.func40, Tryd.ntmps40
      go_wp2_with fail
      rw [HCV.out]
      go_wp2
      go_ret
      rw [HD.out]
      exact ⟨rfl, (Below.refl _ _).alloc (Nat.le_refl _) _⟩
    · have KD : Hid (∀ W, Calls Tryd.prog 40 #[.int .i64 ((n : Int) / 10)] W fun e w' => e = .returned (.string ⟨(Lib.decDigits (n / 10)).toArray⟩) ∧ Below W.heap.size W w') := fun W => by
        have := decimal_any m (n / 10) W (by omega) (by omega)
        rw [show ((n / 10 : Nat) : Int) = (n : Int) / 10 by omega] at this
        exact this
      have HD : Hid (Lib.decDigits n = Lib.decDigits (n / 10) ++ [UInt8.ofNat (48 + n % 10)]) := dec_big h10
      have hsz : (Lib.decDigits (n / 10)).length ≤ 10 := by
        rw [Lib.decDigits_length]
        exact Nat.le_trans (nDigits_step (nDigits_step (nDigits_step (nDigits_step (Nat.le_of_eq (Lib.nDigits_small (by omega))))))) (by decide)
      have hw1 : IntKind.i64.wrap ((n : Int) / 10) = (n : Int) / 10 := by rw [IntKind.wrap_i64]; omega
      have hw2 : IntKind.i64.wrap ((n : Int) % 10) = (n : Int) % 10 := by rw [IntKind.wrap_i64]; omega
      have htm : (n : Int).tmod 10 = (n : Int) % 10 := Int.tmod_eq_emod_of_nonneg (by omega)
      have hw3 : IntKind.i64.wrap (48 + (n : Int) % 10) = 48 + (n : Int) % 10 := by rw [IntKind.wrap_i64]; omega
      have hw8 := u8_digit (n % 10) (by omega)
      rw [show ((n % 10 : Nat) : Int) = (n : Int) % 10 by omega] at hw8
      have HFAR : Hid (∀ W w' : World, Below (W.alloc (Obj.cells #[.int .u8 (48 + (n : Int) % 10)] 5)).heap.size (W.alloc (Obj.cells #[.int .u8 (48 + (n : Int) % 10)] 5)) w' → (convert 78 9 (.slice (some ⟨W.heap.size, 0, none⟩) 1 1)).run Tryd.prog w' = .ok (.string ⟨[UInt8.ofNat (48 + n % 10)].toArray⟩) w') := fun W w' hb =>
        run_convert_bytes_back (P := Tryd.prog) w' 78 9 5 ⟨W.heap.size, 0, none⟩ 1 [UInt8.ofNat (48 + n % 10)] (by kernel_rfl) (by kernel_rfl) (by kernel_rfl) (fun j hj => by
          have h1 := digit_cell W (n % 10) (by omega) 5 j hj
          rw [show ((n % 10 : Nat) : Int) = (n : Int) % 10 by omega] at h1
          rw [hb.cell (World.block_lt_of_cell? _ _ h1)]
          exact h1)
      have hcv0 := HFAR.out w (w.alloc (.cells #[.int .u8 (48 + (n : Int) % 10)] 5)).drew (Below.refl _ _).drew
      have hj : (⟨(Lib.decDigits (n / 10)).toArray⟩ : ByteArray) ++ (⟨[UInt8.ofNat (48 + n % 10)].toArray⟩ : ByteArray) = ⟨(Lib.decDigits n).toArray⟩ := by
        rw [HD.out]
        apply ByteArray.ext
        simp
      have HJ : Hid _ := hj
      have hs1 : (⟨(Lib.decDigits (n / 10)).toArray⟩ : ByteArray).size ≤ 10 := by simpa [ByteArray.size] using hsz
      have hs2 : (⟨[UInt8.ofNat (48 + n % 10)].toArray⟩ : ByteArray).size = 1 := rfl
      clear hj hsz HD
      generalize (⟨(Lib.decDigits (n / 10)).toArray⟩ : ByteArray) = S1 at *
      generalize (⟨[UInt8.ofNat (48 + n % 10)].toArray⟩ : ByteArray) = S2 at *
      generalize (⟨(Lib.decDigits n).toArray⟩ : ByteArray) = S3 at *
      have hsum : ¬ 9223372036854775807 < S1.size + 1 := by omega
      go_enter Tryd.func40, Tryd.ntmps40
      go_wp2_with fail
      go_region_law
        (first
          | (go_simp
             go_at_call 40
             refine Calls.mono (KD.out (w.alloc (Obj.cells #[.int .u8 (48 + (n : Int) % 10)] 5)).drew) ?_
             rintro e wa ⟨rfl, hb⟩
             have hcv2 := HFAR.out w wa ⟨hb.os, hb.tape, hb.output, hb.size, hb.block⟩
             have HB5 : Hid (Below w.heap.size w wa) := ((Below.refl w.heap.size w).alloc (Nat.le_refl _) _).drew.trans (hb.mono ((Below.refl w.heap.size w).alloc (Nat.le_refl _) _).drew.size)
             clear hb)
          | (go_simp
             go_at_call 40
             refine Calls.mono (KD.out w.drew) ?_
             rintro e wa ⟨rfl, hb⟩
             have hcv3 := HFAR.out wa _ (Below.refl _ _)
             have HB5 : Hid (Below w.heap.size w wa) := (Below.refl w.heap.size w).drew.trans hb
             clear hb))
      all_goals
        go_wp2
        go_ret
        rw [HJ.out]
        first
          | exact ⟨rfl, HB5.out⟩
          | exact ⟨rfl, HB5.out.alloc HB5.out.size _⟩
set_option maxRecDepth 100000 in
theorem noughted_any (n : Int) (w : World) (h0 : 0 ≤ n) (h1 : n < 10000) :
    Calls Tryd.prog 30 #[.int .i64 n] w fun e w' => e = .returned (.string ⟨(toldL n).toArray⟩) ∧ Below w.heap.size w w' := by
  obtain ⟨u, rfl⟩ : ∃ u : Nat, n = u := ⟨n.toNat, by omega⟩
  have KD : Hid (∀ W, Calls Tryd.prog 40 #[.int .i64 u] W fun e w' => e = .returned (.string ⟨(Lib.decDigits u).toArray⟩) ∧ Below W.heap.size W w') := fun W => decimal_any (u + 1) u W (by omega) (by omega)
  have hD4 : (Lib.decDigits u).length ≤ 4 := by
    have := itoa_four (u := u) (by omega)
    rw [Lib.itoa_nonneg] at this
    exact this
  have HT : Hid (toldL (u : Int) = List.replicate (4 - (Lib.decDigits u).length) 48 ++ Lib.decDigits u) := by
    show _ = _
    unfold toldL
    rw [Lib.itoa_nonneg, repeat_one]
  generalize Lib.decDigits u = D at *
  generalize toldL (u : Int) = T at *
  go_enter Tryd.func30, Tryd.ntmps30
  go_wp2_with fail
  refine Calls.mono (KD.out _) ?_
  rintro e w1 ⟨rfl, hb⟩
  have HB1 : Hid (Below w.heap.size w w1) := hb
  clear hb KD
  go_wp2_with fail
  go_loopg [3] 5 (fun kx vs wr => ∃ (j : Nat) (s : ByteArray), vs = .string s ∧ Hid (s = ⟨(List.replicate j 48 ++ D).toArray⟩) ∧ s.size = j + D.length ∧ j + D.length ≤ 4 ∧ 4 - (j + D.length) ≤ kx ∧ wr = w1)
  case atStart => exact ⟨0, _, rfl, rfl, by simp [ByteArray.size], by omega, by omega, rfl⟩
  case round =>
    obtain ⟨j, s, rfl, HS, hsz, hj4, hjx, hwr⟩ := hrel
    rw [hwr]
    clear hwr wr
    by_cases hlt : j + D.length < 4
    · have hz1 : (⟨#[48]⟩ : ByteArray).size = 1 := rfl
      have HJ : Hid ((⟨#[48]⟩ : ByteArray) ++ s = ⟨(List.replicate (j + 1) 48 ++ D).toArray⟩) := by
        show _ = _
        rw [HS.out]
        apply ByteArray.ext
        simp [List.replicate_succ]
      have hszJ : ((⟨#[48]⟩ : ByteArray) ++ s).size = j + 1 + D.length := by rw [ByteArray.size_append, hsz, hz1]; omega
      go_wp2
      go_roundg (4 - (j + 1 + D.length))
      case measure => omega
      case rel => exact ⟨j + 1, _, rfl, HJ, hszJ, by omega, by omega, rfl⟩
    · have HE : Hid (s = ⟨T.toArray⟩) := by
        show _ = _
        rw [HS.out, HT.out, show 4 - D.length = j by omega]
      go_wp2
      go_ret
      rw [HE.out]
      exact ⟨rfl, HB1.out⟩
end Go.Proofs.YtihnghnafpgdfabDoor
