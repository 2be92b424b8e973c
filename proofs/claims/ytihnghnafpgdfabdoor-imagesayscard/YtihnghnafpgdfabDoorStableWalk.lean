/-
  THE WALKS OF slices.SortStableFunc's FAMILY AT CHANGES: swapRange, rotate, symMerge, stable.
-/
import Derived.Test.YtihnghnafpgdfabDoorRowPure
import Derived.Test.YtihnghnafpgdfabDoorActsBase
import Derived.Shelf.SlSortCmp.KitK
import Derived.Deep.LoopGhost
namespace Go.Proofs.YtihnghnafpgdfabDoor
open Go.RowKit Go.Lib Go.Sort
set_option linter.unusedVariables false
set_option linter.unusedSimpArgs false

def encC (c : Ch) : List Value := [.string c.key, .string c.val, .bool c.gone]
instance : Inhabited Ch := ⟨⟨⟨#[]⟩, ⟨#[]⟩, false⟩⟩
/-- The three cells of an element. -/
theorem SWK.three {w0 W : World} {blk off : Nat} {dk : Array Ch} (h : SWK encC 3 w0 blk off dk W) {d0 : Array Ch} (R : RowK encC 3 w0 blk off d0) (hs : dk.size = d0.size) (i : Nat) (hi : i < dk.size) :
    (W.cell? ⟨blk, off + i * 3, none⟩ = some (.string dk[i]!.key) ∧ W.cell? ⟨blk, off + i * 3 + 1, none⟩ = some (.string dk[i]!.val) ∧ W.cell? ⟨blk, off + i * 3 + 2, none⟩ = some (.bool dk[i]!.gone)) ∧
    (W.frozen? ⟨blk, off + i * 3, none⟩ = false ∧ W.frozen? ⟨blk, off + i * 3 + 1, none⟩ = false ∧ W.frozen? ⟨blk, off + i * 3 + 2, none⟩ = false) := by
  have hh := h.holds R.hblk R.hH hs
  have c0 := hh.cell hi (c := 0) (by omega)
  have c1 := hh.cell hi (c := 1) (by omega)
  have c2 := hh.cell hi (c := 2) (by omega)
  exact ⟨⟨c0.1, c1.1, c2.1⟩, c0.2, c1.2, c2.2⟩

theorem drew_setCell (W : World) (a : Addr) (v : Value) : W.drew.setCell a v = (W.setCell a v).drew := rfl
theorem SWK.swap3 {w0 W : World} {blk off : Nat} {dk : Array Ch} (h : SWK encC 3 w0 blk off dk W) {d0 : Array Ch} (R : RowK encC 3 w0 blk off d0) (i j : Nat) (hi : i < dk.size) (hj : j < dk.size) :
    SWK encC 3 w0 blk off (swp dk i j) ((((((W.setCell ⟨blk, off + i * 3, none⟩ (.string dk[j]!.key)).setCell ⟨blk, off + i * 3 + 1, none⟩ (.string dk[j]!.val)).setCell ⟨blk, off + i * 3 + 2, none⟩ (.bool dk[j]!.gone)).setCell
      ⟨blk, off + j * 3, none⟩ (.string dk[i]!.key)).setCell ⟨blk, off + j * 3 + 1, none⟩ (.string dk[i]!.val)).setCell ⟨blk, off + j * 3 + 2, none⟩ (.bool dk[i]!.gone)).drew := by
  have := h.swapped R i j hi hj
  simp only [encC, World.setCells, drew_setCell] at this
  exact this

set_option maxHeartbeats 4000000 in
set_option maxRecDepth 1000000 in
theorem swapRange_any (fv : Value) (blk off cap a b n : Nat) (d0 d : Array Ch) (w0 w : World) (R : RowK encC 3 w0 blk off d0) (hs : d0.size = d.size) (S : SWK encC 3 w0 blk off d w) (hab : a + n ≤ b) (hb : b + n ≤ d.size) (hsz : d.size < 4611686018427387904) :
    Calls Tryd.prog 77 #[.slice (some ⟨blk, off, none⟩) d.size cap, .int .i64 a, .int .i64 b, .int .i64 n, fv] w fun e w' => e = .returned (.tuple #[]) ∧ ∃ d', Swapped d d' a b n ∧ SWK encC 3 w0 blk off d' w' := by
  have mixed : Tryd.prog.follows Departure.mixedOrders = true := by kernel_rfl
  have S0 : Aside (SWK encC 3 w0 blk off d w) := S
  clear S
  go_enter Tryd.func77, Tryd.ntmps77
  go_wp2
  go_loopg [10] n (fun kx s wr => ∃ (i : Nat) (dk : Array Ch), s = .int .i64 i ∧ i ≤ n ∧ n - i ≤ kx ∧ Aside (Swapped d dk a b i) ∧ Aside (SWK encC 3 w0 blk off dk wr))
  case atStart => exact ⟨0, d, rfl, Nat.zero_le _, Nat.le_refl _, Swapped.zero d a b, S0⟩
  case round =>
    clear S0
    obtain ⟨i, dk, rfl, hi, hkx, hsw, S1⟩ := hrel
    have hds : dk.size = d.size := hsw.out.size
    by_cases hlt : i < n
    · have hltz : (i : Int) < (n : Int) := by omega
      go_wp2_with fail
      have ea : ((a : Int) + (i : Int)).toNat = a + i := by omega
      have pa : (0 : Int) ≤ (a : Int) + (i : Int) := by omega
      have ba : (a : Int) + (i : Int) < (d.size : Int) := by omega
      have ra : IntKind.i64.wrap ((a : Int) + (i : Int)) = (a : Int) + (i : Int) := by rw [IntKind.wrap_i64]; omega
      have ec : ((b : Int) + (i : Int)).toNat = b + i := by omega
      have pc : (0 : Int) ≤ (b : Int) + (i : Int) := by omega
      have bc : (b : Int) + (i : Int) < (d.size : Int) := by omega
      have rc : IntKind.i64.wrap ((b : Int) + (i : Int)) = (b : Int) + (i : Int) := by rw [IntKind.wrap_i64]; omega
      have S2 := SWK.swap3 S1.out R (a + i) (b + i) (by omega) (by omega)
      have S2 : Aside _ := S2
      have hs2 : Aside (Swapped d (swp dk (a + i) (b + i)) a b (i + 1)) := hsw.out.next (by omega) (by omega)
      obtain ⟨⟨c0, c1, c2⟩, f0, f1, f2⟩ := SWK.three S1.out R (by omega) (a + i) (by omega)
      obtain ⟨⟨e0, e1, e2⟩, g0, g1, g2⟩ := SWK.three S1.out R (by omega) (b + i) (by omega)
      clear S1
      go_wp2_with fail
      go_big_region_o
      clear c0 c1 c2 e0 e1 e2 f0 f1 f2 g0 g1 g2
      generalize ((((((wr.setCell ⟨blk, off + (a + i) * 3, none⟩ (.string dk[b + i]!.key)).setCell ⟨blk, off + (a + i) * 3 + 1, none⟩ (.string dk[b + i]!.val)).setCell ⟨blk, off + (a + i) * 3 + 2, none⟩ (.bool dk[b + i]!.gone)).setCell
        ⟨blk, off + (b + i) * 3, none⟩ (.string dk[a + i]!.key)).setCell ⟨blk, off + (b + i) * 3 + 1, none⟩ (.string dk[a + i]!.val)).setCell ⟨blk, off + (b + i) * 3 + 2, none⟩ (.bool dk[a + i]!.gone)).drew = w2 at S2 ⊢
      go_wp2
      go_roundg (n - (i + 1))
      case measure => omega
      case rel => exact ⟨i + 1, _, by go_num, by omega, Nat.le_refl _, hs2, S2⟩
    · go_wp2
      go_end0
      exact ⟨rfl, dk, by have : i = n := by omega
                         subst this; exact hsw.out, S1.out⟩

set_option maxHeartbeats 4000000 in
set_option maxRecDepth 1000000 in
theorem rotate_any (fv : Value) (blk off cap a m b : Nat) (d0 d : Array Ch) (w0 w : World) (R : RowK encC 3 w0 blk off d0) (hs : d0.size = d.size) (S : SWK encC 3 w0 blk off d w) (ham : a < m) (hmb : m < b) (hb : b ≤ d.size) (hsz : d.size < 4611686018427387904) :
    Calls Tryd.prog 64 #[.slice (some ⟨blk, off, none⟩) d.size cap, .int .i64 a, .int .i64 m, .int .i64 b, fv] w fun e w' => e = .returned (.tuple #[]) ∧ ∃ d', Rotated d d' a m b ∧ SWK encC 3 w0 blk off d' w' := by
  have S0 : Aside (SWK encC 3 w0 blk off d w) := S
  clear S
  go_enter Tryd.func64, Tryd.ntmps64
  go_wp2
  go_loopg [10, 11] (b - a) (fun kx si sj wr => ∃ (i j : Nat) (dk : Array Ch), si = .int .i64 i ∧ sj = .int .i64 j ∧ 0 < i ∧ 0 < j ∧ i ≤ m ∧ m + j ≤ d.size ∧ i + j ≤ kx ∧ dk.size = d.size ∧ Aside (∀ e, Rotated dk e (m - i) m (m + j) → Rotated d e a m b) ∧ Aside (SWK encC 3 w0 blk off dk wr))
  case atStart => exact ⟨m - a, b - m, d, by congr 1; omega, by congr 1; omega, by omega, by omega, by omega, by omega, by omega, rfl, (by intro e he; rw [show m - (m - a) = a by omega, show m + (b - m) = b by omega] at he; exact he), S0⟩
  case round =>
    clear S0
    obtain ⟨i, j, dk, rfl, rfl, hi0, hj0, him, hjm, hkx, hds, HR, S1⟩ := hrel
    have hmi : (m : Int) - (i : Int) = ((m - i : Nat) : Int) := by omega
    rcases Nat.lt_trichotomy i j with hij | hij | hij
    · have h1 : ((i : Int) != (j : Int)) = true := by rw [bne_iff_ne]; omega
      have h2 : decide ((i : Int) > (j : Int)) = false := decide_eq_false (by omega)
      have hmji : (m : Int) + (j : Int) - (i : Int) = ((m + j - i : Nat) : Int) := by omega
      have hcon := swapRange_any fv blk off cap (m - i) (m + j - i) i d0 dk w0 wr R (by omega) S1.out (by omega) (by omega) (by omega)
      rw [← hmi, ← hmji, hds] at hcon
      clear hmi hmji
      have HCON : Hid _ := hcon
      clear hcon
      go_wp2_with fail
      refine Calls.mono HCON.out ?_
      rintro e w2 ⟨rfl, d2, hsw, S2⟩
      have S3 : Aside (SWK encC 3 w0 blk off d2 w2) := S2
      have hsw2 : Aside (Swapped dk d2 _ _ _) := hsw
      clear S1 S2 hsw HCON
      go_wp2
      go_roundg (i + (j - i))
      case measure => omega
      case rel => exact ⟨i, j - i, d2, rfl, by congr 1; omega, hi0, by omega, him, by omega, Nat.le_refl _, hsw2.out.size.trans hds, (show Aside _ from fun e he => HR.out e (Rotated.right him hij hsw2.out he)), S3⟩
    · subst hij
      have h1 : ((i : Int) != (i : Int)) = false := by rw [bne_eq_false_iff_eq]
      have hcon := swapRange_any fv blk off cap (m - i) m i d0 dk w0 wr R (by omega) S1.out (by omega) (by omega) (by omega)
      rw [← hmi, hds] at hcon
      clear hmi
      have HCON : Hid _ := hcon
      clear hcon
      go_wp2_with fail
      refine Calls.mono HCON.out ?_
      rintro e w2 ⟨rfl, d2, hsw, S2⟩
      have S3 : Aside (SWK encC 3 w0 blk off d2 w2) := S2
      have hsw2 : Aside (Swapped dk d2 _ _ _) := hsw
      clear S1 S2 hsw HCON
      go_wp2
      go_end0
      refine ⟨rfl, d2, HR.out d2 (Rotated.same ?_ (by omega) (by omega) (by omega)), S3.out⟩
      rw [show m - (m - i) = i by omega]
      exact hsw2.out
    · have h1 : ((i : Int) != (j : Int)) = true := by rw [bne_iff_ne]; omega
      have h2 : decide ((i : Int) > (j : Int)) = true := decide_eq_true (by omega)
      have hcon := swapRange_any fv blk off cap (m - i) m j d0 dk w0 wr R (by omega) S1.out (by omega) (by omega) (by omega)
      rw [← hmi, hds] at hcon
      clear hmi
      have HCON : Hid _ := hcon
      clear hcon
      go_wp2_with fail
      refine Calls.mono HCON.out ?_
      rintro e w2 ⟨rfl, d2, hsw, S2⟩
      have S3 : Aside (SWK encC 3 w0 blk off d2 w2) := S2
      have hsw2 : Aside (Swapped dk d2 _ _ _) := hsw
      clear S1 S2 hsw HCON
      go_wp2
      go_roundg (i - j + j)
      case measure => omega
      case rel => exact ⟨i - j, j, d2, by congr 1; omega, rfl, by omega, hj0, by omega, by omega, Nat.le_refl _, hsw2.out.size.trans hds, (show Aside _ from fun e he => HR.out e (Rotated.left him hij hsw2.out (by rw [show m - i + j = m - (i - j) by omega]; exact he))), S3⟩
end Go.Proofs.YtihnghnafpgdfabDoor
