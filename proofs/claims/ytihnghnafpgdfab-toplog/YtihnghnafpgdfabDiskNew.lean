/-
  THE WALK OF New: a disk of noughts.
-/
import Derived.Test.YtihnghnafpgdfabDiskFlush
import Derived.Laws.MakeOwn
namespace Go.Proofs.Ytihnghnafpgdfab
open Go.RowKit
set_option linter.unusedVariables false
set_option linter.unusedSimpArgs false

def noughts (n : Nat) : List (List UInt8) := List.replicate n (List.replicate 40 0)
def newD (n : Nat) : Dk := ⟨noughts n, noughts n, [], 0, -1, false⟩
theorem noughts_forty (n : Nat) : Forty (noughts n) := by
  intro s hs
  rw [noughts] at hs
  rw [(List.mem_replicate.1 hs).2, List.length_replicate]
theorem bytesV_noughts : bytesV (List.replicate 40 0) = List.replicate 40 (.int .u8 0) := by
  unfold bytesV
  rw [List.map_replicate]
  rfl
theorem flatS_noughts : ∀ n, flatS (noughts n) = List.replicate (n * 40) (.int .u8 0)
  | 0 => rfl
  | n + 1 => by
    have h := flatS_noughts n
    unfold noughts at *
    rw [List.replicate_succ, flatS, h, bytesV_noughts, List.replicate_append_replicate]
    congr 1
    omega
theorem Try.infoSector : (Try.prog.info? 127).map (fun i => (i.zero, i.size, i.bytes)) = some (some (.agg (List.replicate 40 (.int .u8 0)).toArray), 40, 40) := by kernel_rfl

theorem made_noughts (n : Nat) : madeCells ((Value.agg (List.replicate 40 (.int .u8 0)).toArray).cells) (n * 40) = (flatS (noughts n)).toArray := by
  have hc : (Value.agg (List.replicate 40 (.int .u8 0)).toArray).cells = (List.replicate 40 (.int .u8 0)).toArray := rfl
  rw [hc, flatS_noughts]
  generalize hz : (List.replicate 40 (Value.int .u8 0)).toArray = z
  have hzs : z.size = 40 := by rw [← hz, List.size_toArray, List.length_replicate]
  have hze : ∀ k, k < 40 → z[k]! = .int .u8 0 := by
    intro k hk
    rw [← hz, getElem!_pos _ k (by rw [List.size_toArray, List.length_replicate]; exact hk), List.getElem_toArray, List.getElem_replicate]
  apply Array.ext
  · simp [madeCells]
  · intro k h1 h2
    simp only [madeCells, Array.getElem_map, Array.getElem_range, List.getElem_toArray, List.getElem_replicate]
    exact hze _ (by rw [hzs]; exact Nat.mod_lt _ (by decide))

theorem run_make_sectors (n : Nat) (hn : n ≤ 60) (w : World) : (Instr.makeSlice 120 (.int .i64 n) (.int .i64 n)).run Try.prog w = .ok (.slice (some ⟨w.heap.size, 0, none⟩) n n) (w.alloc (.cells (flatS (noughts n)).toArray 127)) := by
  obtain ⟨i0, hi, hz0, hz1, hz2⟩ := info_parts Try.infoSector
  have h := run_make (P := Try.prog) w 120 127 i0 _ (by kernel_rfl) hi hz0 .i64 .i64 n n (by omega) (Int.le_refl _) (by rw [hz2]; omega) (by omega)
  rw [hz1, Int.toNat_natCast, made_noughts] at h
  exact h

theorem new_at (w : World) (n : Nat) (h60 : n ≤ 60) (W : World) (B gn gk : Nat) (hB : W.heap[B]? = some (.cells #[.slice (some ⟨gn, 0, none⟩) n n, .slice (some ⟨gk, 0, none⟩) n n, .slice none 0 0, .int .i64 0, .int .i64 (-1), .bool false] 123 (0, 0)))
    (hn : W.heap[gn]? = some (.cells (flatS (noughts n)).toArray 127 (0, 0))) (hk : W.heap[gk]? = some (.cells (flatS (noughts n)).toArray 127 (0, 0))) (h1 : B ≠ gn) (h2 : B ≠ gk) (h3 : gn ≠ gk) (l1 : w.heap.size ≤ B) (l2 : w.heap.size ≤ gn) (l3 : w.heap.size ≤ gk) :
    DiskAt W ⟨w.heap.size, B, gn, gk, .slice none 0 0⟩ (newD n) := by
  have e : (newD n).now.length = n := by simp [newD, noughts]
  refine ⟨?_, hn, hk, noughts_forty n, noughts_forty n, rfl, by rw [e]; exact h60, World.ownsRow_nil _ _ _ _, fun x hx => by simp [newD] at hx, by simp [newD], by simp [newD], h1, h2, h3, by simp [Value.ownBlock], by simp [Value.ownBlock], by simp [Value.ownBlock], l1, l2, l3⟩
  rw [e]
  exact hB

theorem push3 (h : Array Obj) (a b c : Obj) : (((h.push a).push b).push c)[h.size]? = some a ∧ (((h.push a).push b).push c)[h.size + 1]? = some b ∧ (((h.push a).push b).push c)[h.size + 1 + 1]? = some c := by
  refine ⟨?_, ?_, ?_⟩
  · rw [Array.getElem?_push, if_neg (by rw [Array.size_push, Array.size_push]; omega), Array.getElem?_push, if_neg (by rw [Array.size_push]; omega), Array.getElem?_push, if_pos rfl]
  · rw [Array.getElem?_push, if_neg (by rw [Array.size_push, Array.size_push]; omega), Array.getElem?_push, if_pos (by rw [Array.size_push])]
  · rw [Array.getElem?_push, if_pos (by rw [Array.size_push, Array.size_push])]

set_option maxRecDepth 100000 in
set_option maxHeartbeats 1000000 in
theorem diskNew_good (n : Nat) (w : World) (h1 : 1 ≤ n) (h60 : n ≤ 60) :
    Calls Try.prog 25 #[.int .i64 n] w fun e w' => ∃ B gn gk, e = .returned (.tuple #[.pointer (some ⟨B, 0, none⟩), .nilIface]) ∧ DiskAt w' ⟨w.heap.size, B, gn, gk, .slice none 0 0⟩ (newD n) ∧ Below w.heap.size w w' := by
  have hmk := fun W => run_make_sectors n h60 W
  generalize hZ : (flatS (noughts n)).toArray = Z at hmk
  have HZ : Hid ((flatS (noughts n)).toArray = Z) := hZ
  clear hZ
  go_enter Try.func25, Try.ntmps25
  go_wp2
  go_region_with (fail)
  all_goals go_wp2
  all_goals
    refine bodyPost_ret (results_tmp2 rfl _ _ _) rfl ?_
    first
      | refine ⟨w.heap.size + 1 + 1, w.heap.size, w.heap.size + 1, rfl, new_at w n h60 _ _ _ _ (push3 w.heap _ _ _).2.2 ?_ ?_ (by omega) (by omega) (by omega) (by omega) (by omega) (by omega), ?_⟩
      | refine ⟨w.heap.size + 1 + 1, w.heap.size + 1, w.heap.size, rfl, new_at w n h60 _ _ _ _ (push3 w.heap _ _ _).2.2 ?_ ?_ (by omega) (by omega) (by omega) (by omega) (by omega) (by omega), ?_⟩
    · rw [HZ.out]
      first
        | exact (push3 w.heap _ _ _).1
        | exact (push3 w.heap _ _ _).2.1
    · rw [HZ.out]
      first
        | exact (push3 w.heap _ _ _).1
        | exact (push3 w.heap _ _ _).2.1
    · exact Below.drew ((((Below.refl _ _).alloc (Nat.le_refl _) _).alloc (by simp) _).alloc (by simp; omega) _)

set_option maxRecDepth 100000 in
theorem diskNew_bad (n : Int) (w : World) (h : n < 1 ∨ 60 < n) :
    Calls Try.prog 25 #[.int .i64 n] w fun e w' => e = .returned (.tuple #[.pointer none, .iface 118 (.int .i64 1)]) ∧ w' = w := by
  by_cases h1 : n < 1
  · go_enter Try.func25, Try.ntmps25
    go_wp2
    go_ret2
    exact ⟨rfl, rfl⟩
  · have h2 : 60 < n := by omega
    go_enter Try.func25, Try.ntmps25
    go_wp2
    go_ret2
    exact ⟨rfl, rfl⟩

end Go.Proofs.Ytihnghnafpgdfab
