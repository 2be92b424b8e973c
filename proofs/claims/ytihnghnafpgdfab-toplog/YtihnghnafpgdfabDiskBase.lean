/-
  A DISK IN MEMORY: what stands where; the walks that only look.
-/
import Derived.Test.YtihnghnafpgdfabFileWalks
import Derived.Test.YtihnghnafpgdfabShelfBase
import Derived.Laws.IdiomStrings
import Derived.Deep.MidRow
import Derived.Below
namespace Go.Proofs.Ytihnghnafpgdfab
open Go.RowKit
set_option linter.unusedVariables false
set_option linter.unusedSimpArgs false

/-- Bytes, as cells hold them. -/
def bytesV (s : List UInt8) : List Value := s.map (fun b => Value.int .u8 (b.toNat : Int))
theorem bytesV_length (s : List UInt8) : (bytesV s).length = s.length := by simp [bytesV]
/-- Sectors, one behind the other. -/
def flatS : List (List UInt8) → List Value
  | [] => []
  | s :: l => bytesV s ++ flatS l
/-- All have forty bytes. -/
def Forty (l : List (List UInt8)) : Prop := ∀ s ∈ l, s.length = 40
theorem flatS_length : ∀ {l : List (List UInt8)}, Forty l → (flatS l).length = l.length * 40
  | [], _ => rfl
  | s :: l, h => by
    have := flatS_length (l := l) (fun x hx => h x (List.mem_cons_of_mem _ hx))
    have h2 := h s (by simp)
    simp only [flatS, List.length_append, bytesV_length, List.length_cons]
    omega
theorem flatS_at : ∀ {l : List (List UInt8)}, Forty l → ∀ (i : Nat) (hi : i < l.length) (j : Nat), j < 40 → (flatS l)[i * 40 + j]? = (bytesV l[i])[j]?
  | s :: l, h, 0, hi, j, hj => by
    have h2 := h s (by simp)
    simp only [flatS, Nat.zero_mul, Nat.zero_add, List.getElem_cons_zero]
    rw [List.getElem?_append_left (by rw [bytesV_length]; omega)]
  | s :: l, h, i + 1, hi, j, hj => by
    have h2 := h s (by simp)
    have := flatS_at (l := l) (fun x hx => h x (List.mem_cons_of_mem _ hx)) i (by simpa using hi) j hj
    simp only [flatS, List.getElem_cons_succ]
    rw [List.getElem?_append_right (by rw [bytesV_length]; omega), bytesV_length, h2, ← this]
    congr 1
    omega

/-- A Write that isn't kept. -/
structure Wr where
  spot : Nat
  bit : Nat
  data : List UInt8
def wrV (x : Wr) : List Value := .int .i64 x.spot :: .int .i64 x.bit :: bytesV x.data
def flatW : List Wr → List Value
  | [] => []
  | x :: l => wrV x ++ flatW l
/-- What a disk is. -/
structure Dk where
  now : List (List UInt8)
  kept : List (List UInt8)
  wr : List Wr
  bit : Nat
  left : Int
  down : Bool
/-- Where it stands. -/
structure Dp where
  lo : Nat
  B : Nat
  gn : Nat
  gk : Nat
  wv : Value
structure DiskAt (w : World) (p : Dp) (d : Dk) : Prop where
  blk : w.heap[p.B]? = some (.cells #[.slice (some ⟨p.gn, 0, none⟩) d.now.length d.now.length, .slice (some ⟨p.gk, 0, none⟩) d.now.length d.now.length, p.wv, .int .i64 d.bit, .int .i64 d.left, .bool d.down] 123 (0, 0))
  now : w.heap[p.gn]? = some (.cells (flatS d.now).toArray 127 (0, 0))
  kept : w.heap[p.gk]? = some (.cells (flatS d.kept).toArray 127 (0, 0))
  snow : Forty d.now
  skept : Forty d.kept
  lens : d.kept.length = d.now.length
  few : d.now.length ≤ 60
  wr : w.ownsRow p.lo 129 42 p.wv d.wr.length (flatW d.wr)
  swr : ∀ x ∈ d.wr, x.data.length = 40 ∧ x.spot < d.now.length ∧ x.bit < 64
  bits : d.bit < 64
  low : -9223372036854775808 ≤ d.left ∧ d.left ≤ 9223372036854775807
  ne1 : p.B ≠ p.gn
  ne2 : p.B ≠ p.gk
  ne3 : p.gn ≠ p.gk
  ne4 : p.wv.ownBlock ≠ some p.B
  ne5 : p.wv.ownBlock ≠ some p.gn
  ne6 : p.wv.ownBlock ≠ some p.gk
  lo1 : p.lo ≤ p.B
  lo2 : p.lo ≤ p.gn
  lo3 : p.lo ≤ p.gk

theorem cell_block {w : World} {b : Nat} {C : Array Value} {t : TypeId} {fr : Nat × Nat} (h : w.heap[b]? = some (.cells C t fr)) (i : Nat) : w.cell? ⟨b, i, none⟩ = C[i]? := by
  simp [World.cell?, h]
theorem frozen_block {w : World} {b : Nat} {C : Array Value} {t : TypeId} (h : w.heap[b]? = some (.cells C t (0, 0))) (i : Nat) : w.frozen? ⟨b, i, none⟩ = false := by
  simp [World.frozen?, h]
theorem DiskAt.cells {w : World} {p : Dp} {d : Dk} (h : DiskAt w p d) : w.cell? ⟨p.B, 0, none⟩ = some (.slice (some ⟨p.gn, 0, none⟩) d.now.length d.now.length) ∧ w.cell? ⟨p.B, 1, none⟩ = some (.slice (some ⟨p.gk, 0, none⟩) d.now.length d.now.length) ∧ w.cell? ⟨p.B, 2, none⟩ = some p.wv ∧ w.cell? ⟨p.B, 3, none⟩ = some (.int .i64 d.bit) ∧ w.cell? ⟨p.B, 4, none⟩ = some (.int .i64 d.left) ∧ w.cell? ⟨p.B, 5, none⟩ = some (.bool d.down) :=
  ⟨by rw [cell_block h.blk]; rfl, by rw [cell_block h.blk]; rfl, by rw [cell_block h.blk]; rfl, by rw [cell_block h.blk]; rfl, by rw [cell_block h.blk]; rfl, by rw [cell_block h.blk]; rfl⟩
theorem DiskAt.fr {w : World} {p : Dp} {d : Dk} (h : DiskAt w p d) : ∀ i, w.frozen? ⟨p.B, i, none⟩ = false := fun i => frozen_block h.blk i
theorem DiskAt.sector {w : World} {p : Dp} {d : Dk} (h : DiskAt w p d) {i : Nat} (hi : i < d.now.length) : ∀ j (hj : j < d.now[i].length), w.cell? ((⟨p.gn, i * 40, none⟩ : Addr).add j) = some (.int .u8 (d.now[i][j].toNat : Int)) := by
  intro j hj
  have h40 := h.snow _ (List.getElem_mem hi)
  rw [Addr.add_mid, cell_block h.now, List.getElem?_toArray, flatS_at h.snow i hi j (by omega)]
  simp [bytesV, hj]

set_option maxRecDepth 100000 in
theorem has_any (p : Dp) (d : Dk) (k : Int) (w : World) (h : DiskAt w p d) :
    Calls Try.prog 78 #[.pointer (some ⟨p.B, 0, none⟩), .int .i64 k] w fun e w' => e = .returned (.bool (decide (0 ≤ k) && decide (k < (d.now.length : Int)))) ∧ w' = w := by
  have HD : Hid (DiskAt w p d) := h
  obtain ⟨c0, c1, c2, c3, c4, c5⟩ := h.cells
  clear h
  by_cases h0 : 0 ≤ k
  · go_enter Try.func78, Try.ntmps78
    go_wp2
    go_ret
    exact ⟨ret_bool (by simp [h0]), rfl⟩
  · go_enter Try.func78, Try.ntmps78
    go_wp2
    go_ret
    exact ⟨ret_bool (by rw [decide_eq_false (by omega)]; rfl), rfl⟩

set_option maxRecDepth 100000 in
theorem sectors_any (p : Dp) (d : Dk) (w : World) (h : DiskAt w p d) :
    Calls Try.prog 28 #[.pointer (some ⟨p.B, 0, none⟩)] w fun e w' => e = .returned (.int .i64 d.now.length) ∧ w' = w := by
  have HD : Hid (DiskAt w p d) := h
  obtain ⟨c0, c1, c2, c3, c4, c5⟩ := h.cells
  clear h
  go_enter Try.func28, Try.ntmps28
  go_wp2
  go_ret
  exact ⟨rfl, rfl⟩

set_option maxRecDepth 100000 in
theorem down_any (p : Dp) (d : Dk) (w : World) (h : DiskAt w p d) :
    Calls Try.prog 38 #[.pointer (some ⟨p.B, 0, none⟩)] w fun e w' => e = .returned (.bool d.down) ∧ w' = w := by
  have HD : Hid (DiskAt w p d) := h
  obtain ⟨c0, c1, c2, c3, c4, c5⟩ := h.cells
  clear h
  go_enter Try.func38, Try.ntmps38
  go_wp2
  go_ret
  exact ⟨rfl, rfl⟩

/-- What Read answers: the bytes, and the number of an error. -/
def readD (d : Dk) (k : Int) : List UInt8 × Int := if d.down = true then ([], 8) else if 0 ≤ k ∧ k < (d.now.length : Int) then (d.now.getD k.toNat [], 0) else ([], 1)

set_option maxRecDepth 100000 in
theorem diskRead_any (p : Dp) (d : Dk) (k : Int) (w : World) (h : DiskAt w p d) :
    Calls Try.prog 31 #[.pointer (some ⟨p.B, 0, none⟩), .int .i64 k] w fun e w' => e = .returned (.tuple #[.string ⟨(readD d k).1.toArray⟩, errV (readD d k).2]) ∧ w' = w := by
  have HD : Hid (DiskAt w p d) := h
  obtain ⟨c0, c1, c2, c3, c4, c5⟩ := h.cells
  clear h
  cases hdn : d.down
  · rw [hdn] at c5
    by_cases hk : 0 ≤ k ∧ k < (d.now.length : Int)
    · obtain ⟨i, rfl⟩ : ∃ i : Nat, k = i := ⟨k.toNat, by omega⟩
      have hi : i < d.now.length := by omega
      have h40 := HD.out.snow _ (List.getElem_mem hi)
      have hcv := run_convert_bytes_back (P := Try.prog) w 130 9 5 ⟨p.gn, i * 40, none⟩ 40 d.now[i] (by kernel_rfl) (by kernel_rfl) (by kernel_rfl) (HD.out.sector hi)
      rw [h40] at hcv
      have hrd : readD d i = (d.now[i], 0) := by
        simp [readD, hdn, hi]
      have HRD : Hid (readD d i = (d.now[i], 0)) := hrd
      have hb : (decide ((0 : Int) ≤ (i : Int)) && decide ((i : Int) < (d.now.length : Int))) = true := by simp; omega
      have h60 := HD.out.few
      clear hrd hdn h40
      go_enter Try.func31, Try.ntmps31
      go_wp2_with (go_at_call 78; refine (has_any p d i w HD.out).mono ?_; rintro e w' ⟨rfl, rfl⟩; rw [hb])
      go_ret2
      rw [HRD.out]
      exact ⟨rfl, rfl⟩
    · have HRD : Hid (readD d k = ([], 1)) := by
        show _ = _
        simp only [readD, hdn, Bool.false_eq_true, if_false]
        rw [if_neg hk]
      have hb : (decide ((0 : Int) ≤ k) && decide (k < (d.now.length : Int))) = false := by
        rw [Bool.eq_false_iff]; intro e; simp at e; exact hk e
      clear hk hdn
      go_enter Try.func31, Try.ntmps31
      go_wp2_with (go_at_call 78; refine (has_any p d k w HD.out).mono ?_; rintro e w' ⟨rfl, rfl⟩; rw [hb])
      go_ret2
      rw [HRD.out]
      exact ⟨rfl, rfl⟩
  · rw [hdn] at c5
    have HRD : Hid (readD d k = ([], 8)) := by
      show _ = _
      simp [readD, hdn]
    clear hdn
    go_enter Try.func31, Try.ntmps31
    go_wp2_with (go_at_call 78; fail)
    go_ret2
    rw [HRD.out]
    exact ⟨rfl, rfl⟩

end Go.Proofs.Ytihnghnafpgdfab
