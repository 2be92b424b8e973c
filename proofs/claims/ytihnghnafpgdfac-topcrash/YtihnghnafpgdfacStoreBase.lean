/-
  A STORE: its small functions: sum, other, sideAt, logSectors, first, settle.
-/
import Derived.Test.YtihnghnafpgdfacLogAdd
namespace Go.Proofs.Ytihnghnafpgdfac
open Go.RowKit Go.BigFrame
set_option linter.unusedVariables false
set_option linter.unusedSimpArgs false

set_option maxRecDepth 100000 in
theorem storeOther_any (i : Nat) (w : World) (hi : i ≤ 1) :
    Calls Try.prog 36 #[.int .i64 i] w fun e w' => e = .returned (.int .i64 ((1 - i : Nat) : Int)) ∧ w' = w := by
  have HE : Hid (((1 - i : Nat) : Int) = 1 - (i : Int)) := by show _ = _; omega
  go_enter Try.func36, Try.ntmps36
  go_wp2
  go_ret
  rw [HE.out]
  exact ⟨rfl, rfl⟩
set_option maxRecDepth 100000 in
theorem storeSideAt_any (i : Nat) (w : World) (hi : i ≤ 1) :
    Calls Try.prog 57 #[.int .i64 i] w fun e w' => e = .returned (.int .i64 ((2 + i * 12 : Nat) : Int)) ∧ w' = w := by
  have HE : Hid (((2 + i * 12 : Nat) : Int) = 2 + (i : Int) * 12) := by show _ = _; omega
  go_enter Try.func57, Try.ntmps57
  go_wp2
  go_ret
  rw [HE.out]
  exact ⟨rfl, rfl⟩
set_option maxRecDepth 100000 in
theorem storeLogSectors_any (p : Dp) (d : Dk) (w : World) (h : DiskAt w p d) :
    Calls Try.prog 35 #[.pointer (some ⟨p.B, 0, none⟩)] w fun e w' => e = .returned (.int .i64 ((d.now.length : Int) - 26)) ∧ w' = w := by
  have KS : Hid _ := sectors_any p d w h
  have h60 := h.few
  clear h
  go_enter Try.func35, Try.ntmps35
  go_wp2_with fail
  refine Calls.mono KS.out ?_
  rintro e w1 ⟨rfl, hw⟩
  rw [hw]
  clear hw w1
  go_wp2
  go_ret
  exact ⟨rfl, rfl⟩
set_option maxRecDepth 100000 in
theorem storeFirst_any (p : Dp) (d : Dk) (i : Nat) (w : World) (h : DiskAt w p d) (hi : i ≤ 1) (h26 : 26 ≤ d.now.length) :
    Calls Try.prog 40 #[.pointer (some ⟨p.B, 0, none⟩), .int .i64 i] w fun e w' => e = .returned (.int .i64 ((1 + (1 - i) * (d.now.length - 26) : Nat) : Int)) ∧ w' = w := by
  have KS : Hid _ := storeLogSectors_any p d w h
  have h60 := h.few
  clear h
  match i, hi with
  | 0, _ =>
    have HE : Hid (((1 + (1 - 0) * (d.now.length - 26) : Nat) : Int) = 1 + ((d.now.length : Int) - 26)) := by show _ = _; omega
    rw [HE.out]
    go_enter Try.func40, Try.ntmps40
    go_wp2_with fail
    refine Calls.mono KS.out ?_
    rintro e w1 ⟨rfl, hw⟩
    rw [hw]
    clear hw w1
    go_wp2
    go_ret
    exact ⟨rfl, rfl⟩
  | 1, _ =>
    have HE : Hid (((1 + (1 - 1) * (d.now.length - 26) : Nat) : Int) = 1) := by show _ = _; omega
    rw [HE.out]
    go_enter Try.func40, Try.ntmps40
    go_wp2_with fail
    refine Calls.mono KS.out ?_
    rintro e w1 ⟨rfl, hw⟩
    rw [hw]
    clear hw w1
    go_wp2
    go_ret
    exact ⟨rfl, rfl⟩
set_option maxRecDepth 100000 in
set_option maxHeartbeats 1000000 in
theorem storeSettle_any (p : Dp) (d : Dk) (k : Nat) (s : ByteArray) (w : World) (h : DiskAt w p d) (hs : s.size ≤ 1000) (hwr : d.wr.length < 120) :
    Calls Try.prog 55 #[.pointer (some ⟨p.B, 0, none⟩), .int .i64 k, .string s] w fun e w' => e = .returned (errV (layD d k [s]).2) ∧ ∃ u, DiskAt w' { p with wv := u } (layD d k [s]).1 ∧ Touch (dOwn p) w w' ∧ NewTo p w u := by
  have HD : Hid (DiskAt w p d) := h
  have KW : Hid _ := diskWrite_new p d (k : Int) s w h (by unfold maxLen; omega) hwr
  clear h
  by_cases h0 : writeN d (k : Int) s = 0
  · have HL : Hid (layD d k [s] = (flushD (writeD d (k : Int) s), stepN (writeD d (k : Int) s))) := by
      show _ = _
      unfold layD
      simp only [writesD, if_pos h0]
      rfl
    rw [h0, errV_zero rfl] at KW
    go_enter Try.func55, Try.ntmps55
    go_wp2_with fail
    refine Calls.mono KW.out ?_
    rintro e w1 ⟨rfl, u, hd1, hn1, hnew1⟩
    have KF : Hid (Calls Try.prog 60 #[.pointer (some ⟨p.B, 0, none⟩)] w1 _) := diskFlush_any { p with wv := u } _ w1 hd1
    have HT1 : Hid (Touch (dOwn p) w w1) := hn1.touch
    have HN1 : Hid (NewTo p w u) := hnew1
    clear hd1 hn1 hnew1 KW
    go_wp2_with fail
    refine Calls.mono KF.out ?_
    rintro e w2 ⟨rfl, hd2, hn2⟩
    have HT2 : Hid (Touch (dOwn p) w w2) := HT1.out.step hn2.touch rfl rfl rfl HN1.out
    have HE2 : Hid (∃ u', DiskAt w2 { p with wv := u' } (flushD (writeD d (k : Int) s)) ∧ Touch (dOwn p) w w2 ∧ NewTo p w u') := by
      unfold flushP at hd2
      split at hd2
      · exact ⟨_, hd2, HT2.out, fun k hk => by cases hk⟩
      · exact ⟨_, hd2, HT2.out, HN1.out⟩
    clear hd2 hn2 KF
    go_wp2
    go_ret
    rw [HL.out]
    exact ⟨rfl, HE2.out⟩
  · have HL : Hid (layD d k [s] = (writeD d (k : Int) s, writeN d (k : Int) s)) := by
      show _ = _
      unfold layD
      simp only [writesD, if_neg h0]
    have HEV : Hid _ := errV_pos h0
    rw [HEV.out] at KW
    go_enter Try.func55, Try.ntmps55
    go_wp2_with fail
    refine Calls.mono KW.out ?_
    rintro e w1 ⟨rfl, u, hd1, hn1, hnew1⟩
    have HA : Hid (∃ u', DiskAt w1 { p with wv := u' } (writeD d (k : Int) s) ∧ Touch (dOwn p) w w1 ∧ NewTo p w u') := ⟨u, hd1, hn1.touch, hnew1⟩
    clear hd1 hn1 hnew1 KW
    go_wp2
    go_ret
    rw [HL.out, HEV.out]
    exact ⟨rfl, HA.out⟩
/-- The sum of a text's first bytes. -/
def sumI (s : ByteArray) : Nat → Int
  | 0 => 14695981039346656037
  | i + 1 => IntKind.u64.wrap (bits BinOp.xor IntKind.u64 (sumI s i) (byteAt s i) * 1099511628211)
theorem wrap_u64_rng (z : Int) : 0 ≤ IntKind.u64.wrap z ∧ IntKind.u64.wrap z < 18446744073709551616 := by
  rw [IntKind.wrap_u64]; omega
theorem sumI_rng (s : ByteArray) : ∀ i, 0 ≤ sumI s i ∧ sumI s i < 18446744073709551616
  | 0 => by simp [sumI]
  | i + 1 => wrap_u64_rng _
def sumOf (s : ByteArray) : Nat := (sumI s s.size).toNat
theorem sumOf_int (s : ByteArray) : ((sumOf s : Nat) : Int) = sumI s s.size := by
  have := (sumI_rng s s.size).1
  unfold sumOf
  omega
theorem sumOf_lt (s : ByteArray) : sumOf s < 18446744073709551616 := by
  have := sumOf_int s
  have := (sumI_rng s s.size).2
  omega
set_option maxRecDepth 100000 in
set_option maxHeartbeats 1000000 in
theorem storeSum_any (s : ByteArray) (w : World) (hs : s.size ≤ 1000) :
    Calls Try.prog 79 #[.string s] w fun e w' => e = .returned (.int .u64 (sumOf s)) ∧ w' = w := by
  rw [sumOf_int]
  go_enter Try.func79, Try.ntmps79
  go_wp2_with fail
  go_loopg [7, 3] (s.size + 1) (fun kx vi v3 wr => ∃ (i : Nat) (n : Int), vi = .int .i64 i ∧ v3 = .int .u64 n ∧ 0 ≤ n ∧ n < 18446744073709551616 ∧ i ≤ s.size ∧ s.size - i ≤ kx ∧ wr = w ∧ Hid (n = sumI s i))
  case atStart => exact ⟨0, 14695981039346656037, rfl, rfl, by decide, by decide, by omega, by omega, rfl, (rfl : (14695981039346656037 : Int) = sumI s 0)⟩
  case round =>
    obtain ⟨i, n, rfl, rfl, hn0, hn, hi, hix, rfl, HN⟩ := hrel
    by_cases hlt : i < s.size
    · have hltz : (i : Int) < (s.size : Int) := by omega
      have b0 := byteAt_eq (s := s) (i := i) hlt
      have l0 := byteAt_lt s i
      have HX : Hid (IntKind.u64.wrap (bits BinOp.xor IntKind.u64 n (byteAt s i) * 1099511628211) = sumI s (i + 1)) := by show _ = _; rw [HN.out]; rfl
      have HG := sumI_rng s (i + 1)
      have HGR : Hid _ := HG
      clear HG
      go_wp2_with fail
      rw [HX.out]
      go_roundg (s.size - (i + 1))
      case measure => omega
      case rel => exact ⟨i + 1, sumI s (i + 1), by go_num, rfl, HGR.out.1, HGR.out.2, by omega, Nat.le_refl _, rfl, (rfl : sumI s (i + 1) = sumI s (i + 1))⟩
    · have e : i = s.size := by omega
      have HE : Hid (n = sumI s s.size) := by show _ = _; rw [HN.out, e]
      clear e
      go_wp2
      go_ret
      rw [HE.out]
      exact ⟨rfl, rfl⟩
end Go.Proofs.Ytihnghnafpgdfac
