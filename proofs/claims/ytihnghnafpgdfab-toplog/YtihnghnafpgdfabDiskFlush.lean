/-
  THE WALK OF Flush: sectors are copied as a whole.
-/
import Derived.Test.YtihnghnafpgdfabDiskStep
import Derived.Laws.CopyOwn
namespace Go.Proofs.Ytihnghnafpgdfab
open Go.RowKit
set_option linter.unusedVariables false
set_option linter.unusedSimpArgs false

theorem Try.sizeSector : (Try.prog.info? 127).map (·.size) = some 40 := by kernel_rfl

theorem flatS_one (l : List (List UInt8)) : ∀ v ∈ flatS l, v.oneCell' = true := by
  induction l with
  | nil => intro v hv; simp [flatS] at hv
  | cons s l ih =>
    intro v hv
    simp only [flatS, List.mem_append] at hv
    rcases hv with hv | hv
    · simp only [bytesV, List.mem_map] at hv
      obtain ⟨b, _, rfl⟩ := hv
      rfl
    · exact ih v hv

/-- All sectors of one row are copied into another one. -/
theorem run_copy_sectors (w : World) (g h n : Nat) (cur : Array Value) (l : List (List UInt8)) (hl : Forty l) (hn : l.length = n) (hg : w.heap[g]? = some (.cells cur 127 (0, 0))) (hs : cur.size = n * 40) (hh : w.heap[h]? = some (.cells (flatS l).toArray 127 (0, 0))) (ty : TypeId) :
    (Builtin.copy_ #[120, 120] ty #[.slice (some ⟨g, 0, none⟩) n n, .slice (some ⟨h, 0, none⟩) n n]).run Try.prog w = .ok (goInt n) (w.setRow g (flatS l).toArray) := by
  have hfl := flatS_length hl
  have hld := run_loadCells_list (P := Try.prog) w ⟨h, 0, none⟩ (flatS l) (fun j v hv => by
    rw [Addr.add_mid, Nat.zero_add, cell_block hh, List.getElem?_toArray]; exact hv)
  have hst := run_storeCells_at Try.prog g 0 127 (flatS l) 0 cur w hg (by simp; omega) (flatS_one l)
  cases hq : Try.prog.info? 127 with
  | none => have := Try.sizeSector; simp [hq] at this
  | some i =>
    have hi : i.size = 40 := by have := Try.sizeSector; simpa [hq] using this
    rw [hfl, hn] at hld
    have hu : Try.prog.underlying 120 = some (.slice 127) := by kernel_rfl
    have e : (cur.toList.take 0 ++ flatS l ++ cur.toList.drop (0 + (flatS l).length)).toArray = (flatS l).toArray := by
      rw [List.take_zero, List.nil_append, List.drop_eq_nil_of_le (by simp; omega), List.append_nil]
    simp [Builtin.copy_, run_underlying hu, Builtin.lenOf, Builtin.firstCells, sizeOf, typeInfo, hq, hi, hld, hst]
    rw [List.drop_eq_nil_of_le (by simp; omega), List.append_nil]

theorem wpList_copy_sectors {w : World} {ops : Array Oper} {rest : List Oper} {o : Oper} {a : Act} {Q : Exit → Act → World → Prop} (hgd : o.guard = none) (x y : Operand)
    (ho : o.op = .call { callee := .builtin .copy, args := #[x, y], argTypes := #[120, 120] }) (g h n : Nat) (cur : Array Value) (l : List (List UInt8)) (hl : Forty l) (hn : l.length = n)
    (hg : w.heap[g]? = some (.cells cur 127 (0, 0))) (hs : cur.size = n * 40) (hh : w.heap[h]? = some (.cells (flatS l).toArray 127 (0, 0)))
    (hx : a.eval x = .slice (some ⟨g, 0, none⟩) n n) (hy : a.eval y = .slice (some ⟨h, 0, none⟩) n n)
    (hK : wpList Try.prog ops Q rest (a.put o.dst (goInt n)) (w.setRow g (flatS l).toArray)) : wpList Try.prog ops Q (o :: rest) a w := by
  refine wpList_plain hgd fun K hKK => ?_
  have hrun := run_copy_sectors w g h n cur l hl hn hg hs hh o.type
  unfold Oper.wp
  simp [execOp, ho, resolve, invoke, builtin, hx, hy, hrun, Result.andThen]
  exact hKK _ _ hK

theorem setRow_far (w : World) (g k : Nat) (cs : Array Value) (h : k ≠ g) : (w.setRow g cs).heap[k]? = w.heap[k]? := by
  simp [World.setRow, Array.getElem?_modify, Ne.symm h]
theorem ownsRow_far {w w' : World} {B : Nat} {e : TypeId} {size : Nat} {v : Value} {n : Nat} {xs : List Value} (h : w.ownsRow B e size v n xs) (hk : ∀ g, v.ownBlock = some g → w'.heap[g]? = w.heap[g]?) : w'.ownsRow B e size v n xs := by
  refine ⟨h.1, ?_⟩
  rcases h.2 with h0 | ⟨g, cap, cur, e, hg, hh, rest⟩
  · exact .inl h0
  · exact .inr ⟨g, cap, cur, e, hg, by rw [hk g (by rw [e]; rfl)]; exact hh, rest⟩

/-- What stands now is kept. -/
theorem DiskAt.keepAll {w : World} {p : Dp} {d : Dk} (h : DiskAt w p d) : DiskAt (w.setRow p.gk (flatS d.now).toArray) p { d with kept := d.now } ∧ Near p w (w.setRow p.gk (flatS d.now).toArray) := by
  refine ⟨⟨?_, ?_, ?_, h.snow, h.snow, rfl, h.few, ?_, h.swr, h.bits, h.low, h.ne1, h.ne2, h.ne3, h.ne4, h.ne5, h.ne6, h.lo1, h.lo2, h.lo3⟩, ⟨rfl, rfl, rfl, by simp [World.setRow], fun k _ _ _ h3 _ => setRow_far w p.gk k _ h3⟩⟩
  · rw [setRow_far w p.gk p.B _ h.ne2]; exact h.blk
  · rw [setRow_far w p.gk p.gn _ h.ne3]; exact h.now
  · exact setRow_heap w p.gk _ _ _ _ h.kept
  · exact ownsRow_far h.wr (fun g hg => setRow_far w p.gk g _ (fun e => h.ne6 (by rw [hg, e])))
/-- What is kept stands now. -/
theorem DiskAt.backAll {w : World} {p : Dp} {d : Dk} (h : DiskAt w p d) : DiskAt (w.setRow p.gn (flatS d.kept).toArray) p { d with now := d.kept } ∧ Near p w (w.setRow p.gn (flatS d.kept).toArray) := by
  refine ⟨⟨?_, ?_, ?_, h.skept, h.skept, rfl, by rw [h.lens]; exact h.few, ?_, fun x hx => by rw [h.lens]; exact h.swr x hx, h.bits, h.low, h.ne1, h.ne2, h.ne3, h.ne4, h.ne5, h.ne6, h.lo1, h.lo2, h.lo3⟩, ⟨rfl, rfl, rfl, by simp [World.setRow], fun k _ _ h2 _ _ => setRow_far w p.gn k _ h2⟩⟩
  · rw [setRow_far w p.gn p.B _ h.ne1]
    have := h.blk
    rw [← h.lens] at this
    exact this
  · exact setRow_heap w p.gn _ _ _ _ h.now
  · rw [setRow_far w p.gn p.gk _ (Ne.symm h.ne3)]; exact h.kept
  · exact ownsRow_far h.wr (fun g hg => setRow_far w p.gn g _ (fun e => h.ne5 (by rw [hg, e])))
theorem Near.same {p : Dp} {v : Value} {w w' : World} (h : Near { p with wv := v } w w') (hv : ∀ k, v.ownBlock = some k → p.wv.ownBlock = some k ∨ w.heap.size ≤ k) : Near p w w' := by
  refine ⟨h.os, h.tape, h.output, h.size, fun k hk h1 h2 h3 h4 => h.block k hk h1 h2 h3 (fun e => ?_)⟩
  rcases hv k e with h5 | h5
  · exact h4 h5
  · omega

theorem DiskAt.heap {w w' : World} {p : Dp} {d : Dk} (h : DiskAt w p d) (e : w'.heap = w.heap) : DiskAt w' p d :=
  ⟨by rw [e]; exact h.blk, by rw [e]; exact h.now, by rw [e]; exact h.kept, h.snow, h.skept, h.lens, h.few, ownsRow_far h.wr (fun g _ => by rw [e]), h.swr, h.bits, h.low, h.ne1, h.ne2, h.ne3, h.ne4, h.ne5, h.ne6, h.lo1, h.lo2, h.lo3⟩
theorem Near.drew (p : Dp) (w : World) : Near p w w.drew := ⟨rfl, rfl, rfl, Nat.le_refl _, fun _ _ _ _ _ _ => rfl⟩

theorem stepD_rest (d : Dk) : (stepD d).now = d.now ∧ (stepD d).kept = d.kept ∧ (stepD d).wr = d.wr ∧ (stepD d).bit = d.bit := by
  unfold stepD
  split
  · exact ⟨rfl, rfl, rfl, rfl⟩
  · split <;> exact ⟨rfl, rfl, rfl, rfl⟩
theorem stepN_range (d : Dk) : stepN d = 0 ∨ stepN d = 8 := by unfold stepN; split <;> simp

/-- F2: Flush. -/
def flushD (d : Dk) : Dk := if stepN d = 0 then { stepD d with kept := d.now, wr := [], bit := 0 } else stepD d
def flushP (p : Dp) (d : Dk) : Dp := if stepN d = 0 then { p with wv := .slice none 0 0 } else p

set_option maxRecDepth 100000 in
set_option maxHeartbeats 1000000 in
theorem diskFlush_any (p : Dp) (d : Dk) (w : World) (h : DiskAt w p d) :
    Calls Try.prog 33 #[.pointer (some ⟨p.B, 0, none⟩)] w fun e w' => e = .returned (errV (stepN d)) ∧ DiskAt w' (flushP p d) (flushD d) ∧ Near p w w' := by
  have HD : Hid (DiskAt w p d) := h
  clear h
  rcases stepN_range d with h0 | h0
  · have e1 : flushP p d = { p with wv := .slice none 0 0 } := by simp [flushP, h0]
    have e2 : flushD d = { stepD d with kept := (stepD d).now, wr := [], bit := 0 } := by simp [flushD, h0, (stepD_rest d).1]
    rw [h0, e1, e2]
    have HS := step_any p d w HD.out
    rw [h0] at HS
    have HS' : Hid (Calls Try.prog 79 _ w _) := HS
    clear HS h0 e1 e2
    go_enter Try.func33, Try.ntmps33
    go_wp2_with fail
    refine HS'.out.mono ?_
    rintro e w1 ⟨rfl, hd1, hn1⟩
    rw [errV_zero rfl]
    have HD1 : Hid (DiskAt w1 p (stepD d)) := hd1
    have HN1 : Hid (Near p w w1) := hn1
    clear hd1 hn1 HS'
    obtain ⟨c0, c1, c2, c3, c4, c5⟩ := HD1.out.cells
    have hlen := HD1.out.lens
    have hcp : ∀ (W : World) (ty : TypeId), W.heap = w1.heap → (Builtin.copy_ #[120, 120] ty #[.slice (some ⟨p.gk, 0, none⟩) (stepD d).now.length (stepD d).now.length, .slice (some ⟨p.gn, 0, none⟩) (stepD d).now.length (stepD d).now.length]).run Try.prog W = .ok (goInt (stepD d).now.length) (W.setRow p.gk (flatS (stepD d).now).toArray) := fun W ty hW =>
      run_copy_sectors W p.gk p.gn (stepD d).now.length _ (stepD d).now HD1.out.snow rfl (by rw [hW]; exact HD1.out.kept) (by rw [List.size_toArray, flatS_length HD1.out.skept, hlen]) (by rw [hW]; exact HD1.out.now) ty
    have hdr : ∀ W : World, W.drew.heap = W.heap := fun _ => rfl
    go_wp2_with fail
    go_region_with (fail)
    all_goals
      have hk := (HD1.out.heap (w' := w1.drew) rfl).keepAll
      have HK : Hid _ := hk
      clear hk hcp hdr c0 c1 c2 c3 c4 c5
      go_wp2_with fail
      refine (settled_any p _ _ HK.out.1).mono ?_
      rintro e w2 ⟨rfl, hd2, hn2⟩
      have HD2 : Hid (DiskAt w2 _ _) := hd2
      have HN2 : Hid (Near p w w2) := HN1.out.trans ((Near.drew p w1).trans (HK.out.2.trans hn2))
      clear hd2 hn2
      go_wp2
      go_ret
      exact ⟨rfl, HD2.out, HN2.out⟩
  · have e1 : flushP p d = p := by simp [flushP, h0]
    have e2 : flushD d = stepD d := by simp [flushD, h0]
    rw [h0, e1, e2]
    have HS := step_any p d w HD.out
    rw [h0] at HS
    have HS' : Hid (Calls Try.prog 79 _ w _) := HS
    clear HS h0 e1 e2
    go_enter Try.func33, Try.ntmps33
    go_wp2_with fail
    refine HS'.out.mono ?_
    rintro e w1 ⟨rfl, hd1, hn1⟩
    rw [errV_pos (by decide)]
    have HD1 : Hid (DiskAt w1 p (stepD d)) := hd1
    have HN1 : Hid (Near p w w1) := hn1
    clear hd1 hn1
    go_wp2
    go_ret
    exact ⟨rfl, HD1.out, HN1.out⟩

end Go.Proofs.Ytihnghnafpgdfab
