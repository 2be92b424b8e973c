/-
  WHAT WRITES A DISK's OWN FIELDS: step, settled, Arm.
-/
import Derived.Test.YtihnghnafpgdfabDiskBase
namespace Go.Proofs.Ytihnghnafpgdfab
open Go.RowKit
set_option linter.unusedVariables false
set_option linter.unusedSimpArgs false

/-- Nothing but what is the disk's, and what is new, has turned. -/
structure Near (p : Dp) (w w' : World) : Prop where
  os : w'.os = w.os
  tape : w'.tape = w.tape
  output : w'.output = w.output
  size : w.heap.size ≤ w'.heap.size
  block : ∀ k, k < w.heap.size → k ≠ p.B → k ≠ p.gn → k ≠ p.gk → p.wv.ownBlock ≠ some k → w'.heap[k]? = w.heap[k]?
theorem Near.refl (p : Dp) (w : World) : Near p w w := ⟨rfl, rfl, rfl, Nat.le_refl _, fun _ _ _ _ _ _ => rfl⟩
theorem Near.below {p : Dp} {w w' : World} {C : Nat} (h : Near p w w') (h1 : C ≤ p.B) (h2 : C ≤ p.gn) (h3 : C ≤ p.gk) (h4 : ∀ k, p.wv.ownBlock = some k → C ≤ k) (hC : C ≤ w.heap.size) : Below C w w' :=
  ⟨h.os, h.tape, h.output, h.size, fun k hk => h.block k (by omega) (by omega) (by omega) (by omega) (fun e => by have := h4 k e; omega)⟩

theorem Near.low {p : Dp} {w w' : World} {d : Dk} (h : Near p w w') (hd : DiskAt w p d) : Below p.lo w w' :=
  h.below hd.lo1 hd.lo2 hd.lo3 (fun k hk => (hd.wr.lt k hk).1) (Nat.le_of_lt (Nat.lt_of_le_of_lt hd.lo1 (Array.getElem?_eq_some_iff.1 hd.blk).1))
theorem Near.trans {p : Dp} {a b c : World} (h : Near p a b) (k : Near p b c) : Near p a c :=
  ⟨k.os.trans h.os, k.tape.trans h.tape, k.output.trans h.output, Nat.le_trans h.size k.size, fun i hi h1 h2 h3 h4 => (k.block i (Nat.lt_of_lt_of_le hi h.size) h1 h2 h3 h4).trans (h.block i hi h1 h2 h3 h4)⟩

theorem heap_set {w : World} {b : Nat} {C : Array Value} {t : TypeId} {fr : Nat × Nat} (h : w.heap[b]? = some (.cells C t fr)) (i : Nat) (v : Value) : (w.setCell ⟨b, i, none⟩ v).heap[b]? = some (.cells (C.setIfInBounds i v) t fr) := by
  simp [World.setCell, Array.getElem?_modify, h]

theorem DiskAt.put {w : World} {p : Dp} {d : Dk} (h : DiskAt w p d) {i : Nat} {v : Value} {d' : Dk} (hw : d'.now = d.now ∧ d'.kept = d.kept ∧ d'.wr = d.wr)
    (hb : (#[.slice (some ⟨p.gn, 0, none⟩) d.now.length d.now.length, .slice (some ⟨p.gk, 0, none⟩) d.now.length d.now.length, p.wv, .int .i64 d.bit, .int .i64 d.left, .bool d.down] : Array Value).setIfInBounds i v = #[.slice (some ⟨p.gn, 0, none⟩) d.now.length d.now.length, .slice (some ⟨p.gk, 0, none⟩) d.now.length d.now.length, p.wv, .int .i64 d'.bit, .int .i64 d'.left, .bool d'.down])
    (hbit : d'.bit < 64) (hlow : -9223372036854775808 ≤ d'.left ∧ d'.left ≤ 9223372036854775807) :
    DiskAt (w.setCell ⟨p.B, i, none⟩ v) p d' ∧ Near p w (w.setCell ⟨p.B, i, none⟩ v) := by
  obtain ⟨e1, e2, e3⟩ := hw
  have hk : ∀ k, k ≠ p.B → (w.setCell ⟨p.B, i, none⟩ v).heap[k]? = w.heap[k]? := fun k hk => Below.heap_setCell w ⟨p.B, i, none⟩ v k hk
  refine ⟨⟨?_, ?_, ?_, ?_, ?_, ?_, ?_, ?_, ?_, hbit, hlow, h.ne1, h.ne2, h.ne3, h.ne4, h.ne5, h.ne6, h.lo1, h.lo2, h.lo3⟩, ⟨rfl, rfl, rfl, ?_, fun k _ h1 _ _ _ => hk k h1⟩⟩
  · rw [heap_set h.blk, hb, e1]
  · rw [hk _ (Ne.symm h.ne1), e1]; exact h.now
  · rw [hk _ (Ne.symm h.ne2), e2]; exact h.kept
  · rw [e1]; exact h.snow
  · rw [e2]; exact h.skept
  · rw [e1, e2]; exact h.lens
  · rw [e1]; exact h.few
  · rw [e3]
    refine ⟨h.wr.1, ?_⟩
    rcases h.wr.2 with h0 | ⟨g, cap, cur, e, hg, hh, rest⟩
    · exact .inl h0
    · refine .inr ⟨g, cap, cur, e, hg, ?_, rest⟩
      rw [hk g (fun e0 => h.ne4 (by rw [e]; simp [Value.ownBlock, e0]))]
      exact hh
  · rw [e1, e3]; exact h.swr
  · simp

/-- F2: a step: what becomes of the disk, and the number of an error. -/
def stepD (d : Dk) : Dk := if d.down = true ∨ d.left = 0 then { d with down := true } else if 0 < d.left then { d with left := d.left - 1 } else d
def stepN (d : Dk) : Int := if d.down = true ∨ d.left = 0 then 8 else 0

set_option maxRecDepth 100000 in
set_option maxHeartbeats 1000000 in
theorem step_any (p : Dp) (d : Dk) (w : World) (h : DiskAt w p d) :
    Calls Try.prog 79 #[.pointer (some ⟨p.B, 0, none⟩)] w fun e w' => e = .returned (errV (stepN d)) ∧ DiskAt w' p (stepD d) ∧ Near p w w' := by
  have HD : Hid (DiskAt w p d) := h
  obtain ⟨c0, c1, c2, c3, c4, c5⟩ := h.cells
  have f4 := h.fr 4
  have f5 := h.fr 5
  have hlow := h.low
  clear h
  by_cases h8 : d.down = true ∨ d.left = 0
  · have e1 : stepN d = 8 := by simp [stepN, h8]
    have e2 : stepD d = { d with down := true } := by simp [stepD, h8]
    rw [e1, e2]
    clear e1 e2
    have hput := HD.out.put (i := 5) (v := .bool true) (d' := { d with down := true }) ⟨rfl, rfl, rfl⟩ rfl HD.out.bits HD.out.low
    have HP : Hid _ := hput
    clear hput
    cases hdn : d.down
    · have hl0 : d.left = 0 := by rcases h8 with h | h; · rw [hdn] at h; cases h
                                  · exact h
      rw [hdn] at c5
      rw [hl0] at c4
      clear hdn hl0 h8 hlow
      go_enter Try.func79, Try.ntmps79
      go_wp2
      go_ret
      exact ⟨rfl, HP.out.1, HP.out.2⟩
    · rw [hdn] at c5
      clear hdn h8 hlow
      go_enter Try.func79, Try.ntmps79
      go_wp2
      go_ret
      exact ⟨rfl, HP.out.1, HP.out.2⟩
  · have e1 : stepN d = 0 := by simp [stepN, h8]
    have hdn : d.down = false := by cases hx : d.down; · rfl
                                    · exact absurd (.inl hx) h8
    have hl0 : ¬ d.left = 0 := fun e => h8 (.inr e)
    have hl1 : (d.left == 0) = false := by simp [hl0]
    have hput := HD.out.put (i := 5) (v := .bool false) (d' := d) ⟨rfl, rfl, rfl⟩ (by rw [hdn]; rfl) HD.out.bits HD.out.low
    by_cases hpos : 0 < d.left
    · have e2 : stepD d = { d with left := d.left - 1 } := by simp [stepD, h8, hpos]
      rw [e1, e2]
      have hput2 := hput.1.put (i := 4) (v := .int .i64 (d.left - 1)) (d' := { d with left := d.left - 1 }) ⟨rfl, rfl, rfl⟩ rfl HD.out.bits (by simp; omega)
      have HP : Hid _ := hput2
      have HN : Hid _ := hput.2.trans hput2.2
      rw [hdn] at c5
      clear hput hput2 e1 e2 h8 hdn
      go_enter Try.func79, Try.ntmps79
      go_wp2
      go_ret
      exact ⟨rfl, HP.out.1, HN.out⟩
    · have e2 : stepD d = d := by simp [stepD, h8, hpos]
      rw [e1, e2]
      have HP : Hid _ := hput
      rw [hdn] at c5
      clear hput e1 e2 h8 hdn
      go_enter Try.func79, Try.ntmps79
      go_wp2
      go_ret
      exact ⟨rfl, HP.out.1, HP.out.2⟩

set_option maxRecDepth 100000 in
theorem arm_any (p : Dp) (d : Dk) (n : Int) (w : World) (hn : -9223372036854775808 ≤ n ∧ n ≤ 9223372036854775807) (h : DiskAt w p d) :
    Calls Try.prog 35 #[.pointer (some ⟨p.B, 0, none⟩), .int .i64 n] w fun e w' => e = .returned (.tuple #[]) ∧ DiskAt w' p { d with left := n } ∧ Near p w w' := by
  have HD : Hid (DiskAt w p d) := h
  obtain ⟨c0, c1, c2, c3, c4, c5⟩ := h.cells
  have f4 := h.fr 4
  have hput := h.put (i := 4) (v := .int .i64 n) (d' := { d with left := n }) ⟨rfl, rfl, rfl⟩ rfl h.bits hn
  have HP : Hid _ := hput
  clear h hput
  go_enter Try.func35, Try.ntmps35
  go_wp2
  refine bodyPost_end (results_none rfl _ _ _) rfl ?_
  exact ⟨rfl, HP.out.1, HP.out.2⟩

/-- No Write is open any more. -/
theorem DiskAt.settle {w : World} {p : Dp} {d : Dk} (h : DiskAt w p d) :
    DiskAt ((w.setCell ⟨p.B, 2, none⟩ (.slice none 0 0)).setCell ⟨p.B, 3, none⟩ (.int .i64 0)) { p with wv := .slice none 0 0 } { d with wr := [], bit := 0 } ∧ Near p w ((w.setCell ⟨p.B, 2, none⟩ (.slice none 0 0)).setCell ⟨p.B, 3, none⟩ (.int .i64 0)) := by
  have hk : ∀ k, k ≠ p.B → ((w.setCell ⟨p.B, 2, none⟩ (.slice none 0 0)).setCell ⟨p.B, 3, none⟩ (.int .i64 0)).heap[k]? = w.heap[k]? := fun k hk => by
    rw [Below.heap_setCell _ ⟨p.B, 3, none⟩ _ k hk, Below.heap_setCell w ⟨p.B, 2, none⟩ _ k hk]
  refine ⟨⟨?_, ?_, ?_, h.snow, h.skept, h.lens, h.few, World.ownsRow_nil _ _ _ _, fun x hx => by simp at hx, Nat.zero_lt_succ _, h.low, h.ne1, h.ne2, h.ne3, by simp [Value.ownBlock], by simp [Value.ownBlock], by simp [Value.ownBlock], h.lo1, h.lo2, h.lo3⟩, ⟨rfl, rfl, rfl, by simp, fun k _ h1 _ _ _ => hk k h1⟩⟩
  · exact heap_set (heap_set h.blk 2 _) 3 _
  · rw [hk _ (Ne.symm h.ne1)]; exact h.now
  · rw [hk _ (Ne.symm h.ne2)]; exact h.kept

set_option maxRecDepth 100000 in
theorem settled_any (p : Dp) (d : Dk) (w : World) (h : DiskAt w p d) :
    Calls Try.prog 82 #[.pointer (some ⟨p.B, 0, none⟩)] w fun e w' => e = .returned (.tuple #[]) ∧ DiskAt w' { p with wv := .slice none 0 0 } { d with wr := [], bit := 0 } ∧ Near p w w' := by
  have HD : Hid (DiskAt w p d) := h
  obtain ⟨c0, c1, c2, c3, c4, c5⟩ := h.cells
  have f2 := h.fr 2
  have f3 := h.fr 3
  clear h
  go_enter Try.func82, Try.ntmps82
  go_wp2
  refine bodyPost_end (results_none rfl _ _ _) rfl ?_
  exact ⟨rfl, HD.out.settle.1, HD.out.settle.2⟩

end Go.Proofs.Ytihnghnafpgdfab
