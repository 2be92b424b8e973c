/-
  THE DOCUMENT's DISK IN MEMORY: what stands where; its step and Read.
-/
import Derived.Test.YtihnghnafpgdfabLogFall
import Derived.Test.YtihnghnafpgdfabTexts
import Derived.Lib.OwnKind
import Derived.OneCell
namespace Go.Proofs.Ytihnghnafpgdfab
open Go.RowKit
set_option linter.unusedVariables false
set_option linter.unusedSimpArgs false

def baL (s : List UInt8) : ByteArray := ⟨s.toArray⟩
theorem baL_size (s : List UInt8) : (baL s).size = s.length := by simp [baL, ByteArray.size]
/-- Turns of sectors, as cells. -/
def flatT : List Wr → List Value
  | [] => []
  | x :: l => .int .i64 x.spot :: .string (baL x.data) :: flatT l
theorem flatT_length : ∀ l : List Wr, (flatT l).length = l.length * 2
  | [] => rfl
  | x :: l => by simp only [flatT, List.length_cons, flatT_length l]; omega
theorem flatT_append : ∀ l m : List Wr, flatT (l ++ m) = flatT l ++ flatT m
  | [], m => rfl
  | x :: l, m => by simp only [List.cons_append, flatT, flatT_append l m]
theorem flatT_at : ∀ (l : List Wr) (i : Nat) (h : i < l.length), (flatT l)[i * 2]? = some (.int .i64 l[i].spot) ∧ (flatT l)[i * 2 + 1]? = some (.string (baL l[i].data))
  | x :: l, 0, h => by simp [flatT]
  | x :: l, i + 1, h => by
    have ih := flatT_at l i (by simpa using h)
    simp only [flatT, List.getElem_cons_succ]
    rw [show (i + 1) * 2 = i * 2 + 1 + 1 by omega]
    simpa [Nat.add_assoc] using ih
/-- Where it stands. -/
structure Rp where
  lo : Nat
  B : Nat
  kv : Value
  nv : Value
  tv : Value
abbrev rOwn (q : Rp) (k : Nat) : Prop := k = q.B ∨ q.kv.ownBlock = some k ∨ q.nv.ownBlock = some k ∨ q.tv.ownBlock = some k
structure RAt (w : World) (q : Rp) (e : Dk) : Prop where
  blk : w.heap[q.B]? = some (.cells #[q.kv, q.nv, q.tv, .int .i64 e.left, .bool e.down] 69 (0, 0))
  kept : OwnsS w q.lo q.kv (e.kept.map baL)
  now : OwnsS w q.lo q.nv (e.now.map baL)
  wait : w.ownsRow q.lo 133 2 q.tv e.wr.length (flatT e.wr)
  apart : ∀ g, q.kv.ownBlock = some g → q.nv.ownBlock ≠ some g
  lo : q.lo ≤ q.B
  few : e.now.length ≤ 60
  lens : e.kept.length = e.now.length
  spots : ∀ x ∈ e.wr, x.spot < e.now.length
  low : -9223372036854775808 ≤ e.left ∧ e.left ≤ 9223372036854775807
  fewer : e.wr.length ≤ 1000
/-- Nothing but what is its, and what is new, has turned. -/
structure RNear (q : Rp) (w w' : World) : Prop where
  os : w'.os = w.os
  tape : w'.tape = w.tape
  output : w'.output = w.output
  size : w.heap.size ≤ w'.heap.size
  block : ∀ k, k < w.heap.size → ¬ rOwn q k → w'.heap[k]? = w.heap[k]?
theorem RNear.refl (q : Rp) (w : World) : RNear q w w := ⟨rfl, rfl, rfl, Nat.le_refl _, fun _ _ _ => rfl⟩
theorem RNear.trans {q : Rp} {a b c : World} (h : RNear q a b) (k : RNear q b c) : RNear q a c :=
  ⟨k.os.trans h.os, k.tape.trans h.tape, k.output.trans h.output, Nat.le_trans h.size k.size, fun i hi hn => (k.block i (Nat.lt_of_lt_of_le hi h.size) hn).trans (h.block i hi hn)⟩
theorem RAt.own_lt {w : World} {q : Rp} {e : Dk} (h : RAt w q e) {k : Nat} (hk : rOwn q k) : q.lo ≤ k ∧ k < w.heap.size := by
  rcases hk with rfl | hk | hk | hk
  · exact ⟨h.lo, (Array.getElem?_eq_some_iff.1 h.blk).1⟩
  · exact h.kept.lt k hk
  · exact h.now.lt k hk
  · exact h.wait.lt k hk
theorem RNear.low {q : Rp} {w w' : World} {e : Dk} (h : RNear q w w') (hd : RAt w q e) : Below q.lo w w' := by
  have hs := (hd.own_lt (.inl rfl))
  exact ⟨h.os, h.tape, h.output, h.size, fun k hk => h.block k (by omega) (fun ho => by have := hd.own_lt ho; omega)⟩
theorem RAt.kind {w : World} {q : Rp} {e : Dk} (h : RAt w q e) {k : Nat} (hk : rOwn q k) : ∃ C T fr, w.heap[k]? = some (.cells C T fr) ∧ (T = 69 ∨ T = 9 ∨ T = 133) := by
  rcases hk with rfl | hk | hk | hk
  · exact ⟨_, _, _, h.blk, .inl rfl⟩
  · obtain ⟨c, f, e⟩ := Lib.ownsRow_kind h.kept k hk; exact ⟨c, _, f, e, .inr (.inl rfl)⟩
  · obtain ⟨c, f, e⟩ := Lib.ownsRow_kind h.now k hk; exact ⟨c, _, f, e, .inr (.inl rfl)⟩
  · obtain ⟨c, f, e⟩ := Lib.ownsRow_kind h.wait k hk; exact ⟨c, _, f, e, .inr (.inr rfl)⟩
/-- Its own blocks are no others'. -/
theorem RAt.neB {w : World} {q : Rp} {e : Dk} (h : RAt w q e) : q.kv.ownBlock ≠ some q.B ∧ q.nv.ownBlock ≠ some q.B ∧ q.tv.ownBlock ≠ some q.B := by
  refine ⟨fun he => ?_, fun he => ?_, fun he => ?_⟩
  · obtain ⟨c, f, e⟩ := Lib.ownsRow_kind h.kept _ he; rw [h.blk] at e; simp at e
  · obtain ⟨c, f, e⟩ := Lib.ownsRow_kind h.now _ he; rw [h.blk] at e; simp at e
  · obtain ⟨c, f, e⟩ := Lib.ownsRow_kind h.wait _ he; rw [h.blk] at e; simp at e
theorem RAt.neT {w : World} {q : Rp} {e : Dk} (h : RAt w q e) {g : Nat} (hg : q.tv.ownBlock = some g) : q.kv.ownBlock ≠ some g ∧ q.nv.ownBlock ≠ some g := by
  obtain ⟨c, f, e⟩ := Lib.ownsRow_kind h.wait _ hg
  refine ⟨fun he => ?_, fun he => ?_⟩
  · obtain ⟨c', f', e'⟩ := Lib.ownsRow_kind h.kept _ he; rw [e] at e'; simp at e'
  · obtain ⟨c', f', e'⟩ := Lib.ownsRow_kind h.now _ he; rw [e] at e'; simp at e'
/-- A world in which its blocks are as they were. -/
theorem RAt.far {w w' : World} {q : Rp} {e : Dk} (h : RAt w q e) (hk : ∀ k, rOwn q k → w'.heap[k]? = w.heap[k]?) : RAt w' q e :=
  ⟨by rw [hk _ (.inl rfl)]; exact h.blk, ownsRow_far h.kept (fun g hg => hk g (.inr (.inl hg))), ownsRow_far h.now (fun g hg => hk g (.inr (.inr (.inl hg)))), ownsRow_far h.wait (fun g hg => hk g (.inr (.inr (.inr hg)))), h.apart, h.lo, h.few, h.lens, h.spots, h.low, h.fewer⟩
/-- A disk's own doings leave the document's disk as it is, and the other way round: their blocks have other types. -/
theorem RAt.over {w w' : World} {q : Rp} {e : Dk} {p : Dp} {d : Dk} (h : RAt w q e) (hd : DiskAt w p d) (hn : Near p w w') : RAt w' q e :=
  h.far fun k hk => by
    obtain ⟨C, T, fr, hb, hT⟩ := h.kind hk
    refine hn.block k (h.own_lt hk).2 (fun e => ?_) (fun e => ?_) (fun e => ?_) (fun e => ?_)
    · subst e; rw [hd.blk] at hb; simp at hb; rcases hT with rfl | rfl | rfl <;> simp at hb
    · subst e; rw [hd.now] at hb; simp at hb; rcases hT with rfl | rfl | rfl <;> simp at hb
    · subst e; rw [hd.kept] at hb; simp at hb; rcases hT with rfl | rfl | rfl <;> simp at hb
    · obtain ⟨c, f, e'⟩ := Lib.ownsRow_kind hd.wr k e; rw [hb] at e'; simp at e'; rcases hT with rfl | rfl | rfl <;> simp at e'
theorem DiskAt.far {w w' : World} {p : Dp} {d : Dk} (h : DiskAt w p d) (hk : ∀ k, (k = p.B ∨ k = p.gn ∨ k = p.gk ∨ p.wv.ownBlock = some k) → w'.heap[k]? = w.heap[k]?) : DiskAt w' p d :=
  ⟨by rw [hk _ (.inl rfl)]; exact h.blk, by rw [hk _ (.inr (.inl rfl))]; exact h.now, by rw [hk _ (.inr (.inr (.inl rfl)))]; exact h.kept, h.snow, h.skept, h.lens, h.few, ownsRow_far h.wr (fun g hg => hk g (.inr (.inr (.inr hg)))), h.swr, h.bits, h.low, h.ne1, h.ne2, h.ne3, h.ne4, h.ne5, h.ne6, h.lo1, h.lo2, h.lo3⟩
theorem DiskAt.over {w w' : World} {q : Rp} {e : Dk} {p : Dp} {d : Dk} (h : DiskAt w p d) (hr : RAt w q e) (hn : RNear q w w') : DiskAt w' p d :=
  h.far fun k hk => by
    have hlt : k < w.heap.size := by
      rcases hk with rfl | rfl | rfl | hk
      · exact (Array.getElem?_eq_some_iff.1 h.blk).1
      · exact (Array.getElem?_eq_some_iff.1 h.now).1
      · exact (Array.getElem?_eq_some_iff.1 h.kept).1
      · exact (h.wr.lt k hk).2
    refine hn.block k hlt (fun ho => ?_)
    obtain ⟨C, T, fr, hb, hT⟩ := hr.kind ho
    rcases hk with rfl | rfl | rfl | hk
    · rw [h.blk] at hb; simp at hb; rcases hT with rfl | rfl | rfl <;> simp at hb
    · rw [h.now] at hb; simp at hb; rcases hT with rfl | rfl | rfl <;> simp at hb
    · rw [h.kept] at hb; simp at hb; rcases hT with rfl | rfl | rfl <;> simp at hb
    · obtain ⟨c, f, e'⟩ := Lib.ownsRow_kind h.wr k hk; rw [hb] at e'; simp at e'; rcases hT with rfl | rfl | rfl <;> simp at e'
/-- One of its own numbers is written. -/
theorem RAt.put {w : World} {q : Rp} {e : Dk} (h : RAt w q e) {i : Nat} {v : Value} {e' : Dk} (hw : e'.now = e.now ∧ e'.kept = e.kept ∧ e'.wr = e.wr)
    (hb : (#[q.kv, q.nv, q.tv, .int .i64 e.left, .bool e.down] : Array Value).setIfInBounds i v = #[q.kv, q.nv, q.tv, .int .i64 e'.left, .bool e'.down])
    (hlow : -9223372036854775808 ≤ e'.left ∧ e'.left ≤ 9223372036854775807) : RAt (w.setCell ⟨q.B, i, none⟩ v) q e' ∧ RNear q w (w.setCell ⟨q.B, i, none⟩ v) := by
  obtain ⟨e1, e2, e3⟩ := hw
  obtain ⟨n1, n2, n3⟩ := h.neB
  have hk : ∀ k, k ≠ q.B → (w.setCell ⟨q.B, i, none⟩ v).heap[k]? = w.heap[k]? := fun k hk => Below.heap_setCell w ⟨q.B, i, none⟩ v k hk
  refine ⟨⟨?_, ?_, ?_, ?_, h.apart, h.lo, by rw [e1]; exact h.few, by rw [e1, e2]; exact h.lens, by rw [e1, e3]; exact h.spots, hlow, by rw [e3]; exact h.fewer⟩, ⟨rfl, rfl, rfl, by simp, fun k _ ho => hk k (fun e => ho (.inl e))⟩⟩
  · rw [heap_set h.blk, hb]
  · rw [e2]; exact ownsRow_setCell_other h.kept n1 _
  · rw [e1]; exact ownsRow_setCell_other h.now n2 _
  · rw [e3]; exact ownsRow_setCell_other h.wait n3 _
theorem RAt.cells {w : World} {q : Rp} {e : Dk} (h : RAt w q e) : w.cell? ⟨q.B, 0, none⟩ = some q.kv ∧ w.cell? ⟨q.B, 1, none⟩ = some q.nv ∧ w.cell? ⟨q.B, 2, none⟩ = some q.tv ∧ w.cell? ⟨q.B, 3, none⟩ = some (.int .i64 e.left) ∧ w.cell? ⟨q.B, 4, none⟩ = some (.bool e.down) :=
  ⟨by rw [cell_block h.blk]; rfl, by rw [cell_block h.blk]; rfl, by rw [cell_block h.blk]; rfl, by rw [cell_block h.blk]; rfl, by rw [cell_block h.blk]; rfl⟩
theorem RAt.fr {w : World} {q : Rp} {e : Dk} (h : RAt w q e) : ∀ i, w.frozen? ⟨q.B, i, none⟩ = false := fun i => frozen_block h.blk i

/-- A step of the document's disk. -/
def stepE (e : Dk) : Dk := if e.down = true then e else if e.left = 0 then { e with down := true, left := -1 } else if 0 < e.left then { e with left := e.left - 1 } else e

set_option maxRecDepth 100000 in
set_option maxHeartbeats 1000000 in
theorem refStep_any (q : Rp) (e : Dk) (w : World) (h : RAt w q e) :
    Calls Try.prog 81 #[.pointer (some ⟨q.B, 0, none⟩)] w fun en w' => en = .returned (.int .i64 (stepN e)) ∧ RAt w' q (stepE e) ∧ RNear q w w' := by
  have HD : Hid (RAt w q e) := h
  obtain ⟨c0, c1, c2, c3, c4⟩ := h.cells
  have f3 := h.fr 3
  have f4 := h.fr 4
  have hlow := h.low
  clear h
  cases hdn : e.down
  · rw [hdn] at c4
    by_cases h0 : e.left = 0
    · have e1 : stepN e = 8 := by simp [stepN, h0]
      have e2 : stepE e = { e with down := true, left := -1 } := by simp [stepE, hdn, h0]
      have hp := HD.out.put (i := 4) (v := .bool true) (e' := { e with down := true }) ⟨rfl, rfl, rfl⟩ rfl HD.out.low
      have hp2 := hp.1.put (i := 3) (v := .int .i64 (-1)) (e' := { e with down := true, left := -1 }) ⟨rfl, rfl, rfl⟩ rfl (by simp)
      rw [e1, e2]
      have HP : Hid _ := hp2.1
      have HN : Hid _ := hp.2.trans hp2.2
      rw [h0] at c3
      clear hp hp2 e1 e2 hdn h0 hlow
      go_enter Try.func81, Try.ntmps81
      go_wp2
      go_ret
      exact ⟨rfl, HP.out, HN.out⟩
    · have e1 : stepN e = 0 := by simp [stepN, h0, hdn]
      have hl1 : (e.left == 0) = false := by simp [h0]
      by_cases hpos : 0 < e.left
      · have e2 : stepE e = { e with left := e.left - 1 } := by simp [stepE, hdn, h0, hpos]
        have hp := HD.out.put (i := 3) (v := .int .i64 (e.left - 1)) (e' := { e with left := e.left - 1 }) ⟨rfl, rfl, rfl⟩ rfl (by simp; omega)
        rw [e1, e2]
        have HP : Hid _ := hp
        clear hp e1 e2 hdn
        go_enter Try.func81, Try.ntmps81
        go_wp2
        go_ret
        exact ⟨rfl, HP.out.1, HP.out.2⟩
      · have e2 : stepE e = e := by simp [stepE, hdn, h0, hpos]
        rw [e1, e2]
        clear e1 e2 hdn
        go_enter Try.func81, Try.ntmps81
        go_wp2
        go_ret
        exact ⟨rfl, HD.out, RNear.refl _ _⟩
  · rw [hdn] at c4
    have e1 : stepN e = 8 := by simp [stepN, hdn]
    have e2 : stepE e = e := by simp [stepE, hdn]
    rw [e1, e2]
    clear e1 e2 hdn
    go_enter Try.func81, Try.ntmps81
    go_wp2
    go_ret
    exact ⟨rfl, HD.out, RNear.refl _ _⟩

theorem RAt.sector {w : World} {q : Rp} {e : Dk} (h : RAt w q e) {i : Nat} (hi : i < e.now.length) : ∃ g c, q.nv = .slice (some ⟨g, 0, none⟩) e.now.length c ∧ w.cell? ⟨g, i, none⟩ = some (.string (baL e.now[i])) ∧ (∀ j, w.frozen? ⟨g, j, none⟩ = false) ∧ q.nv.ownBlock = some g := by
  obtain ⟨hlen, h2⟩ := h.now
  rcases h2 with ⟨_, h0⟩ | ⟨g, cap, cur, e0, hb, hh, hn, hm, hs, ht⟩
  · rw [List.length_map] at h0; omega
  · refine ⟨g, cap, by rw [e0]; simp, ?_, fun j => frozen_block hh j, by rw [e0]; rfl⟩
    rw [cell_block hh]
    have h3 : (cur.toList.take (((e.now.map baL).length) * 1))[i]? = some (.string (baL e.now[i])) := by rw [ht]; simp [hi]
    rw [List.getElem?_take, if_pos (by simp; omega)] at h3
    simpa using h3

set_option maxRecDepth 100000 in
theorem refRead_any (q : Rp) (e : Dk) (k : Int) (w : World) (h : RAt w q e) :
    Calls Try.prog 32 #[.pointer (some ⟨q.B, 0, none⟩), .int .i64 k] w fun en w' => en = .returned (.tuple #[.string (baL (readD e k).1), .int .i64 (readD e k).2]) ∧ w' = w := by
  have HD : Hid (RAt w q e) := h
  obtain ⟨c0, c1, c2, c3, c4⟩ := h.cells
  clear h
  cases hdn : e.down
  · rw [hdn] at c4
    obtain ⟨va, vc, hv⟩ : ∃ a c, q.nv = .slice a e.now.length c := by
      obtain ⟨a, cap, h1, _⟩ := OwnsS.texts HD.out.now
      exact ⟨a, cap, by rw [h1]; simp⟩
    by_cases hk : 0 ≤ k
    · obtain ⟨i, rfl⟩ : ∃ i : Nat, k = i := ⟨k.toNat, by omega⟩
      by_cases hi : i < e.now.length
      · obtain ⟨g, c, hg, hcell, _, _⟩ := HD.out.sector hi
        have HRD : Hid (readD e i = (e.now[i], 0)) := by show _ = _; simp [readD, hdn, hi]
        rw [hg] at c1
        have h60 := HD.out.few
        have hiz : (i : Int) < (e.now.length : Int) := by omega
        clear hdn hg hv
        go_enter Try.func32, Try.ntmps32
        go_wp2
        go_ret2
        rw [HRD.out]
        exact ⟨rfl, rfl⟩
      · have HRD : Hid (readD e i = ([], 1)) := by
          show _ = _
          simp only [readD, hdn, Bool.false_eq_true, if_false]
          rw [if_neg (by omega)]
        rw [hv] at c1
        have hiz : (e.now.length : Int) ≤ (i : Int) := by omega
        clear hdn hv
        go_enter Try.func32, Try.ntmps32
        go_wp2
        go_ret2
        rw [HRD.out]
        exact ⟨rfl, rfl⟩
    · have HRD : Hid (readD e k = ([], 1)) := by
        show _ = _
        simp only [readD, hdn, Bool.false_eq_true, if_false]
        rw [if_neg (by omega)]
      rw [hv] at c1
      have hkz : k < 0 := by omega
      clear hdn hv hk
      go_enter Try.func32, Try.ntmps32
      go_wp2
      go_ret2
      rw [HRD.out]
      exact ⟨rfl, rfl⟩
  · rw [hdn] at c4
    have HRD : Hid (readD e k = ([], 8)) := by show _ = _; simp [readD, hdn]
    clear hdn
    go_enter Try.func32, Try.ntmps32
    go_wp2
    go_ret2
    rw [HRD.out]
    exact ⟨rfl, rfl⟩
end Go.Proofs.Ytihnghnafpgdfab
