/-
  A STORE's HEADS: head.
-/
import Derived.Test.YtihnghnafpgdfacStoreBase
namespace Go.Proofs.Ytihnghnafpgdfac
open Go.RowKit Go.BigFrame
set_option linter.unusedVariables false
set_option linter.unusedSimpArgs false

def markL : List UInt8 := [112, 97, 116, 99, 104, 113, 117, 105, 108, 116]
/-- What a head says: the mark, the side, how many sectors, the sum. -/
def headL (i : Nat) (s : ByteArray) : List UInt8 := markL ++ ([UInt8.ofNat i, UInt8.ofNat (s.size / 40)] ++ leB 8 (sumOf s))
theorem headL_length (i : Nat) (s : ByteArray) : (headL i s).length = 20 := by simp [headL, markL, leB_length]
theorem two_cells (W : World) (a b : Nat) (ha : a < 256) (hb : b < 256) (T : TypeId) : ∀ j (hj : j < [UInt8.ofNat a, UInt8.ofNat b].length), (W.alloc (Obj.cells #[.int .u8 a, .int .u8 b] T)).cell? ((⟨W.heap.size, 0, none⟩ : Addr).add j) = some (.int .u8 ([UInt8.ofNat a, UInt8.ofNat b][j].toNat : Int)) := by
  intro j hj
  have e : ∀ k, k < 256 → (UInt8.ofNat k).toNat = k := fun k hk => by simp; omega
  match j, hj with
  | 0, _ => simp [Addr.add]; omega
  | 1, _ => simp [Addr.add]; omega
theorem two_cells_far {W w' : World} {a b : Nat} {T : TypeId} (ha : a < 256) (hb : b < 256) (h : Below (W.alloc (Obj.cells #[.int .u8 a, .int .u8 b] T)).heap.size (W.alloc (Obj.cells #[.int .u8 a, .int .u8 b] T)) w') : ∀ j (hj : j < [UInt8.ofNat a, UInt8.ofNat b].length), w'.cell? ((⟨W.heap.size, 0, none⟩ : Addr).add j) = some (.int .u8 ([UInt8.ofNat a, UInt8.ofNat b][j].toNat : Int)) := fun j hj => by
  have h1 := two_cells W a b ha hb T j hj
  rw [h.cell (World.block_lt_of_cell? _ _ h1)]
  exact h1
set_option maxRecDepth 100000 in
set_option maxHeartbeats 2000000 in
theorem storeHead_any (i : Nat) (s : ByteArray) (w : World) (hi : i ≤ 1) (hs : s.size ≤ 1000) :
    Calls Try.prog 56 #[.int .i64 i, .string s] w fun e w' => e = .returned (.string (baL (headL i s))) ∧ Below w.heap.size w w' := by
  obtain ⟨c, hc⟩ : ∃ c, c = s.size / 40 := ⟨_, rfl⟩
  have hc2 : c < 256 := by omega
  have hcz : (s.size : Int) / 40 = (c : Int) := by omega
  have HY : Hid (baL (headL i s) = baL markL ++ baL [UInt8.ofNat i, UInt8.ofNat c] ++ baL (leB 8 (sumOf s))) := by
    show _ = _
    rw [baL_append, baL_append, List.append_assoc, hc]; rfl
  have hcv : ∀ W : World, (convert 109 9 (.slice (some ⟨W.heap.size, 0, none⟩) 2 2)).run Try.prog (W.alloc (Obj.cells #[.int .u8 i, .int .u8 c] 5)) = .ok (.string (baL [UInt8.ofNat i, UInt8.ofNat c])) (W.alloc (Obj.cells #[.int .u8 i, .int .u8 c] 5)) := fun W =>
    run_convert_bytes_back (P := Try.prog) (W.alloc (Obj.cells #[.int .u8 i, .int .u8 c] 5)) 109 9 5 ⟨W.heap.size, 0, none⟩ 2 [UInt8.ofNat i, UInt8.ofNat c] (by kernel_rfl) (by kernel_rfl) (by kernel_rfl) (two_cells W i c (by omega) hc2 5)
  have HFAR : Hid (∀ W w' : World, Below (W.alloc (Obj.cells #[.int .u8 i, .int .u8 c] 5)).heap.size (W.alloc (Obj.cells #[.int .u8 i, .int .u8 c] 5)) w' → (convert 109 9 (.slice (some ⟨W.heap.size, 0, none⟩) 2 2)).run Try.prog w' = .ok (.string (baL [UInt8.ofNat i, UInt8.ofNat c])) w') := fun W w' hb =>
    run_convert_bytes_back (P := Try.prog) w' 109 9 5 ⟨W.heap.size, 0, none⟩ 2 [UInt8.ofNat i, UInt8.ofNat c] (by kernel_rfl) (by kernel_rfl) (by kernel_rfl) (two_cells_far (by omega) hc2 hb)
  have hcv0 : (convert 109 9 (.slice (some ⟨w.heap.size, 0, none⟩) 2 2)).run Try.prog (w.alloc (Obj.cells #[.int .u8 i, .int .u8 c] 5)).drew = .ok (.string (baL [UInt8.ofNat i, UInt8.ofNat c])) (w.alloc (Obj.cells #[.int .u8 i, .int .u8 c] 5)).drew := HFAR.out w _ (Below.refl _ _).drew
  have KS : Hid (∀ W, Calls Try.prog 79 #[.string s] W fun e w' => e = .returned (.int .u64 (sumOf s)) ∧ w' = W) := fun W => storeSum_any s W hs
  have KB : Hid (∀ W, Calls Try.prog 78 #[.int .u64 (sumOf s), .int .i64 8] W fun e w' => e = .returned (.string (baL (leB 8 (sumOf s)))) ∧ Below W.heap.size W w') := fun W => numBytes_any (sumOf s) 8 W (sumOf_lt s) (by omega)
  have hz1 : (baL markL).size = 10 := rfl
  have hz2 : (baL [UInt8.ofNat i, UInt8.ofNat c]).size = 2 := rfl
  have hz3 : (baL (leB 8 (sumOf s))).size = 8 := by rw [baL_size, leB_length]
  have hz4 : (baL markL ++ baL [UInt8.ofNat i, UInt8.ofNat c]).size = 12 := by rw [ByteArray.size_append, hz1, hz2]
  rw [HY.out]
  change Calls _ _ _ _ fun e w' => e = .returned (.string ((⟨#[112, 97, 116, 99, 104, 113, 117, 105, 108, 116]⟩ : ByteArray) ++ baL [UInt8.ofNat i, UInt8.ofNat c] ++ baL (leB 8 (sumOf s)))) ∧ Below w.heap.size w w'
  generalize baL (leB 8 (sumOf s)) = Z at *
  generalize baL [UInt8.ofNat i, UInt8.ofNat c] = Y at *
  generalize sumOf s = S at *
  clear hc HY
  have hw1 : IntKind.u8.wrap (i : Int) = (i : Int) := by rw [IntKind.wrap_u8]; omega
  have hw2 : IntKind.i64.wrap (c : Int) = (c : Int) := wrap_near (by omega)
  have hw3 : IntKind.u8.wrap (c : Int) = (c : Int) := by rw [IntKind.wrap_u8]; omega
  go_enter Try.func56, Try.ntmps56
  go_wp2_with fail
  go_region_law
    (first
      | (go_simp
         go_at_call 79
         refine Calls.mono (KS.out _) ?_
         rintro e w5 ⟨rfl, hw⟩
         rw [hw]
         clear hw w5)
      | (go_simp
         go_at_call 78
         refine Calls.mono (KB.out (w.alloc (Obj.cells #[.int .u8 i, .int .u8 c] 5)).drew) ?_
         rintro e wa ⟨rfl, hb⟩
         have hcv2 := HFAR.out w wa ⟨hb.os, hb.tape, hb.output, hb.size, hb.block⟩
         have HB5 : Hid (Below w.heap.size w wa) := ((Below.refl w.heap.size w).alloc (Nat.le_refl _) _).drew.trans (hb.mono ((Below.refl w.heap.size w).alloc (Nat.le_refl _) _).drew.size)
         clear hb)
      | (go_simp
         go_at_call 78
         refine Calls.mono (KB.out w.drew) ?_
         rintro e wa ⟨rfl, hb⟩
         have HB5 : Hid (Below w.heap.size w wa) := (Below.refl w.heap.size w).drew.trans hb
         clear hb))
  all_goals
    go_wp2
    go_ret
    first
      | exact ⟨rfl, HB5.out⟩
      | exact ⟨rfl, HB5.out.alloc HB5.out.size _⟩
end Go.Proofs.Ytihnghnafpgdfac
