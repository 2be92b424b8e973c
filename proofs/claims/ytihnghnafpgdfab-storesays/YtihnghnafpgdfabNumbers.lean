/-
  THE DOCUMENT's DISK IN MEMORY: what stands where; its step and Read.
  WHAT WRITES THE DOCUMENT's DISK: noughts, Write.
  NUMBERS AS BYTES, THE LEAST FIRST: number.Bytes, number.Of.
-/
import Derived.Test.YtihnghnafpgdfabLogFall
import Derived.Test.YtihnghnafpgdfabTexts
import Derived.Lib.OwnKind
import Derived.OneCell
import Derived.Laws.IdiomStrings
import Derived.Laws.MakeOwn
import Derived.Deep.OwnRows
import Derived.Deep.DeepCutAuto
namespace Go.Proofs.Ytihnghnafpgdfab
open Go.RowKit
set_option linter.unusedVariables false
set_option linter.unusedSimpArgs false

def baL (s : List UInt8) : ByteArray := ⟨s.toArray⟩
theorem baL_size (s : List UInt8) : (baL s).size = s.length := by simp [baL, ByteArray.size]
/-- Turns of sectors, as cells. -/
def flatT : List Wr → List Value
  | [] => []
  | x :: l => .int .i64 x.spot :: .string (baL x.data) :: flatT l
theorem flatT_length : ∀ l : List Wr, (flatT l).length = l.length * 2
  | [] => rfl
  | x :: l => by simp only [flatT, List.length_cons, flatT_length l]; omega
theorem flatT_append : ∀ l m : List Wr, flatT (l ++ m) = flatT l ++ flatT m
  | [], m => rfl
  | x :: l, m => by simp only [List.cons_append, flatT, flatT_append l m]
theorem flatT_at : ∀ (l : List Wr) (i : Nat) (h : i < l.length), (flatT l)[i * 2]? = some (.int .i64 l[i].spot) ∧ (flatT l)[i * 2 + 1]? = some (.string (baL l[i].data))
  | x :: l, 0, h => by simp [flatT]
  | x :: l, i + 1, h => by
    have ih := flatT_at l i (by simpa using h)
    simp only [flatT, List.getElem_cons_succ]
    rw [show (i + 1) * 2 = i * 2 + 1 + 1 by omega]
    simpa [Nat.add_assoc] using ih
/-- Where it stands. -/
structure Rp where
  lo : Nat
  B : Nat
  kv : Value
  nv : Value
  tv : Value
abbrev rOwn (q : Rp) (k : Nat) : Prop := k = q.B ∨ q.kv.ownBlock = some k ∨ q.nv.ownBlock = some k ∨ q.tv.ownBlock = some k
structure RAt (w : World) (q : Rp) (e : Dk) : Prop where
  blk : w.heap[q.B]? = some (.cells #[q.kv, q.nv, q.tv, .int .i64 e.left, .bool e.down] 69 (0, 0))
  kept : OwnsS w q.lo q.kv (e.kept.map baL)
  now : OwnsS w q.lo q.nv (e.now.map baL)
  wait : w.ownsRow q.lo 133 2 q.tv e.wr.length (flatT e.wr)
  apart : ∀ g, q.kv.ownBlock = some g → q.nv.ownBlock ≠ some g
  lo : q.lo ≤ q.B
  few : e.now.length ≤ 60
  lens : e.kept.length = e.now.length
  spots : ∀ x ∈ e.wr, x.spot < e.now.length
  low : -9223372036854775808 ≤ e.left ∧ e.left ≤ 9223372036854775807
  fewer : e.wr.length ≤ 1000
/-- Nothing but what is its, and what is new, has turned. -/
structure RNear (q : Rp) (w w' : World) : Prop where
  os : w'.os = w.os
  tape : w'.tape = w.tape
  output : w'.output = w.output
  size : w.heap.size ≤ w'.heap.size
  block : ∀ k, k < w.heap.size → ¬ rOwn q k → w'.heap[k]? = w.heap[k]?
theorem RNear.refl (q : Rp) (w : World) : RNear q w w := ⟨rfl, rfl, rfl, Nat.le_refl _, fun _ _ _ => rfl⟩
theorem RNear.trans {q : Rp} {a b c : World} (h : RNear q a b) (k : RNear q b c) : RNear q a c :=
  ⟨k.os.trans h.os, k.tape.trans h.tape, k.output.trans h.output, Nat.le_trans h.size k.size, fun i hi hn => (k.block i (Nat.lt_of_lt_of_le hi h.size) hn).trans (h.block i hi hn)⟩
theorem RAt.own_lt {w : World} {q : Rp} {e : Dk} (h : RAt w q e) {k : Nat} (hk : rOwn q k) : q.lo ≤ k ∧ k < w.heap.size := by
  rcases hk with rfl | hk | hk | hk
  · exact ⟨h.lo, (Array.getElem?_eq_some_iff.1 h.blk).1⟩
  · exact h.kept.lt k hk
  · exact h.now.lt k hk
  · exact h.wait.lt k hk
theorem RNear.low {q : Rp} {w w' : World} {e : Dk} (h : RNear q w w') (hd : RAt w q e) : Below q.lo w w' := by
  have hs := (hd.own_lt (.inl rfl))
  exact ⟨h.os, h.tape, h.output, h.size, fun k hk => h.block k (by omega) (fun ho => by have := hd.own_lt ho; omega)⟩
theorem RAt.kind {w : World} {q : Rp} {e : Dk} (h : RAt w q e) {k : Nat} (hk : rOwn q k) : ∃ C T fr, w.heap[k]? = some (.cells C T fr) ∧ (T = 69 ∨ T = 9 ∨ T = 133) := by
  rcases hk with rfl | hk | hk | hk
  · exact ⟨_, _, _, h.blk, .inl rfl⟩
  · obtain ⟨c, f, e⟩ := Lib.ownsRow_kind h.kept k hk; exact ⟨c, _, f, e, .inr (.inl rfl)⟩
  · obtain ⟨c, f, e⟩ := Lib.ownsRow_kind h.now k hk; exact ⟨c, _, f, e, .inr (.inl rfl)⟩
  · obtain ⟨c, f, e⟩ := Lib.ownsRow_kind h.wait k hk; exact ⟨c, _, f, e, .inr (.inr rfl)⟩
/-- Its own blocks are no others'. -/
theorem RAt.neB {w : World} {q : Rp} {e : Dk} (h : RAt w q e) : q.kv.ownBlock ≠ some q.B ∧ q.nv.ownBlock ≠ some q.B ∧ q.tv.ownBlock ≠ some q.B := by
  refine ⟨fun he => ?_, fun he => ?_, fun he => ?_⟩
  · obtain ⟨c, f, e⟩ := Lib.ownsRow_kind h.kept _ he; rw [h.blk] at e; simp at e
  · obtain ⟨c, f, e⟩ := Lib.ownsRow_kind h.now _ he; rw [h.blk] at e; simp at e
  · obtain ⟨c, f, e⟩ := Lib.ownsRow_kind h.wait _ he; rw [h.blk] at e; simp at e
theorem RAt.neT {w : World} {q : Rp} {e : Dk} (h : RAt w q e) {g : Nat} (hg : q.tv.ownBlock = some g) : q.kv.ownBlock ≠ some g ∧ q.nv.ownBlock ≠ some g := by
  obtain ⟨c, f, e⟩ := Lib.ownsRow_kind h.wait _ hg
  refine ⟨fun he => ?_, fun he => ?_⟩
  · obtain ⟨c', f', e'⟩ := Lib.ownsRow_kind h.kept _ he; rw [e] at e'; simp at e'
  · obtain ⟨c', f', e'⟩ := Lib.ownsRow_kind h.now _ he; rw [e] at e'; simp at e'
/-- A world in which its blocks are as they were. -/
theorem RAt.far {w w' : World} {q : Rp} {e : Dk} (h : RAt w q e) (hk : ∀ k, rOwn q k → w'.heap[k]? = w.heap[k]?) : RAt w' q e :=
  ⟨by rw [hk _ (.inl rfl)]; exact h.blk, ownsRow_far h.kept (fun g hg => hk g (.inr (.inl hg))), ownsRow_far h.now (fun g hg => hk g (.inr (.inr (.inl hg)))), ownsRow_far h.wait (fun g hg => hk g (.inr (.inr (.inr hg)))), h.apart, h.lo, h.few, h.lens, h.spots, h.low, h.fewer⟩
/-- A disk's own doings leave the document's disk as it is, and the other way round: their blocks have other types. -/
theorem RAt.over {w w' : World} {q : Rp} {e : Dk} {p : Dp} {d : Dk} (h : RAt w q e) (hd : DiskAt w p d) (hn : Near p w w') : RAt w' q e :=
  h.far fun k hk => by
    obtain ⟨C, T, fr, hb, hT⟩ := h.kind hk
    refine hn.block k (h.own_lt hk).2 (fun e => ?_) (fun e => ?_) (fun e => ?_) (fun e => ?_)
    · subst e; rw [hd.blk] at hb; simp at hb; rcases hT with rfl | rfl | rfl <;> simp at hb
    · subst e; rw [hd.now] at hb; simp at hb; rcases hT with rfl | rfl | rfl <;> simp at hb
    · subst e; rw [hd.kept] at hb; simp at hb; rcases hT with rfl | rfl | rfl <;> simp at hb
    · obtain ⟨c, f, e'⟩ := Lib.ownsRow_kind hd.wr k e; rw [hb] at e'; simp at e'; rcases hT with rfl | rfl | rfl <;> simp at e'
theorem DiskAt.far {w w' : World} {p : Dp} {d : Dk} (h : DiskAt w p d) (hk : ∀ k, (k = p.B ∨ k = p.gn ∨ k = p.gk ∨ p.wv.ownBlock = some k) → w'.heap[k]? = w.heap[k]?) : DiskAt w' p d :=
  ⟨by rw [hk _ (.inl rfl)]; exact h.blk, by rw [hk _ (.inr (.inl rfl))]; exact h.now, by rw [hk _ (.inr (.inr (.inl rfl)))]; exact h.kept, h.snow, h.skept, h.lens, h.few, ownsRow_far h.wr (fun g hg => hk g (.inr (.inr (.inr hg)))), h.swr, h.bits, h.low, h.ne1, h.ne2, h.ne3, h.ne4, h.ne5, h.ne6, h.lo1, h.lo2, h.lo3⟩
theorem DiskAt.over {w w' : World} {q : Rp} {e : Dk} {p : Dp} {d : Dk} (h : DiskAt w p d) (hr : RAt w q e) (hn : RNear q w w') : DiskAt w' p d :=
  h.far fun k hk => by
    have hlt : k < w.heap.size := by
      rcases hk with rfl | rfl | rfl | hk
      · exact (Array.getElem?_eq_some_iff.1 h.blk).1
      · exact (Array.getElem?_eq_some_iff.1 h.now).1
      · exact (Array.getElem?_eq_some_iff.1 h.kept).1
      · exact (h.wr.lt k hk).2
    refine hn.block k hlt (fun ho => ?_)
    obtain ⟨C, T, fr, hb, hT⟩ := hr.kind ho
    rcases hk with rfl | rfl | rfl | hk
    · rw [h.blk] at hb; simp at hb; rcases hT with rfl | rfl | rfl <;> simp at hb
    · rw [h.now] at hb; simp at hb; rcases hT with rfl | rfl | rfl <;> simp at hb
    · rw [h.kept] at hb; simp at hb; rcases hT with rfl | rfl | rfl <;> simp at hb
    · obtain ⟨c, f, e'⟩ := Lib.ownsRow_kind h.wr k hk; rw [hb] at e'; simp at e'; rcases hT with rfl | rfl | rfl <;> simp at e'
/-- One of its own numbers is written. -/
theorem RAt.put {w : World} {q : Rp} {e : Dk} (h : RAt w q e) {i : Nat} {v : Value} {e' : Dk} (hw : e'.now = e.now ∧ e'.kept = e.kept ∧ e'.wr = e.wr)
    (hb : (#[q.kv, q.nv, q.tv, .int .i64 e.left, .bool e.down] : Array Value).setIfInBounds i v = #[q.kv, q.nv, q.tv, .int .i64 e'.left, .bool e'.down])
    (hlow : -9223372036854775808 ≤ e'.left ∧ e'.left ≤ 9223372036854775807) : RAt (w.setCell ⟨q.B, i, none⟩ v) q e' ∧ RNear q w (w.setCell ⟨q.B, i, none⟩ v) := by
  obtain ⟨e1, e2, e3⟩ := hw
  obtain ⟨n1, n2, n3⟩ := h.neB
  have hk : ∀ k, k ≠ q.B → (w.setCell ⟨q.B, i, none⟩ v).heap[k]? = w.heap[k]? := fun k hk => Below.heap_setCell w ⟨q.B, i, none⟩ v k hk
  refine ⟨⟨?_, ?_, ?_, ?_, h.apart, h.lo, by rw [e1]; exact h.few, by rw [e1, e2]; exact h.lens, by rw [e1, e3]; exact h.spots, hlow, by rw [e3]; exact h.fewer⟩, ⟨rfl, rfl, rfl, by simp, fun k _ ho => hk k (fun e => ho (.inl e))⟩⟩
  · rw [heap_set h.blk, hb]
  · rw [e2]; exact ownsRow_setCell_other h.kept n1 _
  · rw [e1]; exact ownsRow_setCell_other h.now n2 _
  · rw [e3]; exact ownsRow_setCell_other h.wait n3 _
theorem RAt.cells {w : World} {q : Rp} {e : Dk} (h : RAt w q e) : w.cell? ⟨q.B, 0, none⟩ = some q.kv ∧ w.cell? ⟨q.B, 1, none⟩ = some q.nv ∧ w.cell? ⟨q.B, 2, none⟩ = some q.tv ∧ w.cell? ⟨q.B, 3, none⟩ = some (.int .i64 e.left) ∧ w.cell? ⟨q.B, 4, none⟩ = some (.bool e.down) :=
  ⟨by rw [cell_block h.blk]; rfl, by rw [cell_block h.blk]; rfl, by rw [cell_block h.blk]; rfl, by rw [cell_block h.blk]; rfl, by rw [cell_block h.blk]; rfl⟩
theorem RAt.fr {w : World} {q : Rp} {e : Dk} (h : RAt w q e) : ∀ i, w.frozen? ⟨q.B, i, none⟩ = false := fun i => frozen_block h.blk i

/-- A step of the document's disk. -/
def stepE (e : Dk) : Dk := if e.down = true then e else if e.left = 0 then { e with down := true, left := -1 } else if 0 < e.left then { e with left := e.left - 1 } else e

set_option maxRecDepth 100000 in
set_option maxHeartbeats 1000000 in
theorem refStep_any (q : Rp) (e : Dk) (w : World) (h : RAt w q e) :
    Calls Try.prog 81 #[.pointer (some ⟨q.B, 0, none⟩)] w fun en w' => en = .returned (.int .i64 (stepN e)) ∧ RAt w' q (stepE e) ∧ RNear q w w' := by
  have HD : Hid (RAt w q e) := h
  obtain ⟨c0, c1, c2, c3, c4⟩ := h.cells
  have f3 := h.fr 3
  have f4 := h.fr 4
  have hlow := h.low
  clear h
  cases hdn : e.down
  · rw [hdn] at c4
    by_cases h0 : e.left = 0
    · have e1 : stepN e = 8 := by simp [stepN, h0]
      have e2 : stepE e = { e with down := true, left := -1 } := by simp [stepE, hdn, h0]
      have hp := HD.out.put (i := 4) (v := .bool true) (e' := { e with down := true }) ⟨rfl, rfl, rfl⟩ rfl HD.out.low
      have hp2 := hp.1.put (i := 3) (v := .int .i64 (-1)) (e' := { e with down := true, left := -1 }) ⟨rfl, rfl, rfl⟩ rfl (by simp)
      rw [e1, e2]
      have HP : Hid _ := hp2.1
      have HN : Hid _ := hp.2.trans hp2.2
      rw [h0] at c3
      clear hp hp2 e1 e2 hdn h0 hlow
      go_enter Try.func81, Try.ntmps81
      go_wp2
      go_ret
      exact ⟨rfl, HP.out, HN.out⟩
    · have e1 : stepN e = 0 := by simp [stepN, h0, hdn]
      have hl1 : (e.left == 0) = false := by simp [h0]
      by_cases hpos : 0 < e.left
      · have e2 : stepE e = { e with left := e.left - 1 } := by simp [stepE, hdn, h0, hpos]
        have hp := HD.out.put (i := 3) (v := .int .i64 (e.left - 1)) (e' := { e with left := e.left - 1 }) ⟨rfl, rfl, rfl⟩ rfl (by simp; omega)
        rw [e1, e2]
        have HP : Hid _ := hp
        clear hp e1 e2 hdn
        go_enter Try.func81, Try.ntmps81
        go_wp2
        go_ret
        exact ⟨rfl, HP.out.1, HP.out.2⟩
      · have e2 : stepE e = e := by simp [stepE, hdn, h0, hpos]
        rw [e1, e2]
        clear e1 e2 hdn
        go_enter Try.func81, Try.ntmps81
        go_wp2
        go_ret
        exact ⟨rfl, HD.out, RNear.refl _ _⟩
  · rw [hdn] at c4
    have e1 : stepN e = 8 := by simp [stepN, hdn]
    have e2 : stepE e = e := by simp [stepE, hdn]
    rw [e1, e2]
    clear e1 e2 hdn
    go_enter Try.func81, Try.ntmps81
    go_wp2
    go_ret
    exact ⟨rfl, HD.out, RNear.refl _ _⟩

theorem RAt.sector {w : World} {q : Rp} {e : Dk} (h : RAt w q e) {i : Nat} (hi : i < e.now.length) : ∃ g c, q.nv = .slice (some ⟨g, 0, none⟩) e.now.length c ∧ w.cell? ⟨g, i, none⟩ = some (.string (baL e.now[i])) ∧ (∀ j, w.frozen? ⟨g, j, none⟩ = false) ∧ q.nv.ownBlock = some g := by
  obtain ⟨hlen, h2⟩ := h.now
  rcases h2 with ⟨_, h0⟩ | ⟨g, cap, cur, e0, hb, hh, hn, hm, hs, ht⟩
  · rw [List.length_map] at h0; omega
  · refine ⟨g, cap, by rw [e0]; simp, ?_, fun j => frozen_block hh j, by rw [e0]; rfl⟩
    rw [cell_block hh]
    have h3 : (cur.toList.take (((e.now.map baL).length) * 1))[i]? = some (.string (baL e.now[i])) := by rw [ht]; simp [hi]
    rw [List.getElem?_take, if_pos (by simp; omega)] at h3
    simpa using h3

set_option maxRecDepth 100000 in
theorem refRead_any (q : Rp) (e : Dk) (k : Int) (w : World) (h : RAt w q e) :
    Calls Try.prog 32 #[.pointer (some ⟨q.B, 0, none⟩), .int .i64 k] w fun en w' => en = .returned (.tuple #[.string (baL (readD e k).1), .int .i64 (readD e k).2]) ∧ w' = w := by
  have HD : Hid (RAt w q e) := h
  obtain ⟨c0, c1, c2, c3, c4⟩ := h.cells
  clear h
  cases hdn : e.down
  · rw [hdn] at c4
    obtain ⟨va, vc, hv⟩ : ∃ a c, q.nv = .slice a e.now.length c := by
      obtain ⟨a, cap, h1, _⟩ := OwnsS.texts HD.out.now
      exact ⟨a, cap, by rw [h1]; simp⟩
    by_cases hk : 0 ≤ k
    · obtain ⟨i, rfl⟩ : ∃ i : Nat, k = i := ⟨k.toNat, by omega⟩
      by_cases hi : i < e.now.length
      · obtain ⟨g, c, hg, hcell, _, _⟩ := HD.out.sector hi
        have HRD : Hid (readD e i = (e.now[i], 0)) := by show _ = _; simp [readD, hdn, hi]
        rw [hg] at c1
        have h60 := HD.out.few
        have hiz : (i : Int) < (e.now.length : Int) := by omega
        clear hdn hg hv
        go_enter Try.func32, Try.ntmps32
        go_wp2
        go_ret2
        rw [HRD.out]
        exact ⟨rfl, rfl⟩
      · have HRD : Hid (readD e i = ([], 1)) := by
          show _ = _
          simp only [readD, hdn, Bool.false_eq_true, if_false]
          rw [if_neg (by omega)]
        rw [hv] at c1
        have hiz : (e.now.length : Int) ≤ (i : Int) := by omega
        clear hdn hv
        go_enter Try.func32, Try.ntmps32
        go_wp2
        go_ret2
        rw [HRD.out]
        exact ⟨rfl, rfl⟩
    · have HRD : Hid (readD e k = ([], 1)) := by
        show _ = _
        simp only [readD, hdn, Bool.false_eq_true, if_false]
        rw [if_neg (by omega)]
      rw [hv] at c1
      have hkz : k < 0 := by omega
      clear hdn hv hk
      go_enter Try.func32, Try.ntmps32
      go_wp2
      go_ret2
      rw [HRD.out]
      exact ⟨rfl, rfl⟩
  · rw [hdn] at c4
    have HRD : Hid (readD e k = ([], 8)) := by show _ = _; simp [readD, hdn]
    clear hdn
    go_enter Try.func32, Try.ntmps32
    go_wp2
    go_ret2
    rw [HRD.out]
    exact ⟨rfl, rfl⟩
end Go.Proofs.Ytihnghnafpgdfab
namespace Go.Proofs.Ytihnghnafpgdfab
open Go.RowKit
set_option linter.unusedVariables false
set_option linter.unusedSimpArgs false

theorem Try.infoByte : (Try.prog.info? 5).map (fun i => (i.zero, i.size, i.bytes)) = some (some (.int .u8 0), 1, 1) := by kernel_rfl
theorem Try.infoTurn : (Try.prog.info? 133).map (fun i => (i.zero, i.size, i.bytes)) = some (some (.agg #[.int .i64 0, .string ⟨#[]⟩]), 2, 24) := by kernel_rfl
theorem made_bytes (n : Nat) : madeCells #[.int .u8 0] n = (List.replicate n (Value.int .u8 0)).toArray := by
  apply Array.ext
  · simp [madeCells]
  · intro k h1 h2
    simp [madeCells, Nat.mod_one]

set_option maxRecDepth 100000 in
theorem noughts_any (n : Nat) (w : World) (hn : n ≤ 1000) :
    Calls Try.prog 77 #[.int .i64 n] w fun e w' => e = .returned (.string (baL (List.replicate n 0))) ∧ Below w.heap.size w w' := by
  have hmk := fun W => run_make_row' (P := Try.prog) 130 5 (.int .u8 0) 1 (by kernel_rfl) Try.infoByte rfl .i64 .i64 n (by omega) (by omega) W
  have hcv := run_convert_bytes_back (P := Try.prog) (w.alloc (.cells (madeCells #[.int .u8 0] n) 5)) 130 9 5 ⟨w.heap.size, 0, none⟩ n (List.replicate n 0) (by kernel_rfl) (by kernel_rfl) (by kernel_rfl) (by
    intro j hj
    simp only [List.length_replicate] at hj
    rw [Addr.add_mid, Nat.zero_add, cell_block (heap_alloc_new w _), made_bytes]
    simp [hj])
  rw [List.length_replicate] at hcv
  go_enter Try.func77, Try.ntmps77
  go_wp2
  go_ret
  exact ⟨rfl, (Below.refl _ _).alloc (Nat.le_refl _) _⟩

theorem pad_join {s : ByteArray} : s ++ baL (List.replicate (40 - s.size) 0) = baL (padD s) := by
  apply ByteArray.ext
  simp [baL, padD, ByteArray.data_append]

theorem OwnsS.set {w : World} {B g c : Nat} {l : List ByteArray} (h : OwnsS w B (.slice (some ⟨g, 0, none⟩) l.length c) l) {i : Nat} (hi : i < l.length) (s : ByteArray) :
    OwnsS (w.setCell ⟨g, i, none⟩ (.string s)) B (.slice (some ⟨g, 0, none⟩) (l.set i s).length c) (l.set i s) := by
  obtain ⟨h1, h2⟩ := h
  refine ⟨by simp, ?_⟩
  rcases h2 with ⟨e, _⟩ | ⟨g', cap, cur, e, hb, hh, hn, hm, hs, ht⟩
  · cases e
  · injection e with e1 e2 e3
    injection e1 with e1
    injection e1 with e1
    subst e1
    subst e3
    refine .inr ⟨g, c, cur.setIfInBounds i (.string s), by simp, hb, heap_set hh i _, by simpa using hn, hm, by simpa using hs, ?_⟩
    rw [Array.toList_setIfInBounds, List.length_set, List.take_set, ht, List.map_set]
theorem RAt.setNow {w : World} {q : Rp} {e : Dk} (h : RAt w q e) {g c : Nat} (hv : q.nv = .slice (some ⟨g, 0, none⟩) e.now.length c) {i : Nat} (hi : i < e.now.length) (s : List UInt8) :
    RAt (w.setCell ⟨g, i, none⟩ (.string (baL s))) q { e with now := e.now.set i s } ∧ RNear q w (w.setCell ⟨g, i, none⟩ (.string (baL s))) := by
  obtain ⟨n1, n2, n3⟩ := h.neB
  have hg : q.nv.ownBlock = some g := by rw [hv]; rfl
  have hk : ∀ k, k ≠ g → (w.setCell ⟨g, i, none⟩ (.string (baL s))).heap[k]? = w.heap[k]? := fun k hk => Below.heap_setCell w ⟨g, i, none⟩ _ k hk
  refine ⟨⟨?_, ?_, ?_, ?_, h.apart, h.lo, by simpa using h.few, by simpa using h.lens, by simpa using h.spots, h.low, h.fewer⟩, ⟨rfl, rfl, rfl, by simp, fun k _ ho => hk k (fun e => ho (.inr (.inr (.inl (by rw [hg, e])))))⟩⟩
  · rw [hk _ (fun e => n2 (by rw [hg, e]))]; exact h.blk
  · exact ownsRow_setCell_other h.kept (fun e => h.apart g e hg) _
  · have h0 := h.now
    rw [hv] at h0
    have h1 := OwnsS.set (g := g) (c := c) (l := e.now.map baL) (by simpa using h0) (i := i) (by simpa using hi) (baL s)
    rw [← List.map_set] at h1
    rw [hv]
    simpa using h1
  · exact ownsRow_setCell_other h.wait (fun e => (h.neT e).2 hg) _
theorem RAt.note {w w4 w5 : World} {q : Rp} {e : Dk} (h : RAt w q e) {x : Wr} {v : Value} (h4 : w4.os = w.os ∧ w4.tape = w.tape ∧ w4.output = w.output ∧ w.heap.size ≤ w4.heap.size ∧ ∀ k, k < w.heap.size → w4.heap[k]? = w.heap[k]?)
    (hg : w4.grownBy w5 q.tv.ownBlock) (hown : w5.ownsRow q.lo 133 2 v (e.wr.length + 1) (flatT e.wr ++ [.int .i64 x.spot, .string (baL x.data)])) (hx : x.spot < e.now.length) (hl : e.wr.length < 1000) (b : Nat) :
    RAt (w5.setCell ⟨q.B, 2, none⟩ v) { q with tv := v } { e with wr := e.wr ++ [x], bit := b } ∧ RNear q w (w5.setCell ⟨q.B, 2, none⟩ v) ∧ (w5.cell? ⟨q.B, 2, none⟩ = some q.tv ∧ w5.frozen? ⟨q.B, 2, none⟩ = false) := by
  obtain ⟨n1, n2, n3⟩ := h.neB
  have hk : ∀ k, k < w.heap.size → q.tv.ownBlock ≠ some k → w5.heap[k]? = w.heap[k]? := fun k hk hne => by
    rw [hg.block k (by omega) (fun e => hne e.symm), h4.2.2.2.2 k hk]
  have hB := hk q.B (h.own_lt (.inl rfl)).2 n3
  have hvB : v.ownBlock ≠ some q.B := fun he => by
    obtain ⟨c, f, e'⟩ := Lib.ownsRow_kind hown _ he
    rw [hB, h.blk] at e'; simp at e'
  have hs : ∀ k, k ≠ q.B → (w5.setCell ⟨q.B, 2, none⟩ v).heap[k]? = w5.heap[k]? := fun k hk => Below.heap_setCell w5 ⟨q.B, 2, none⟩ v k hk
  refine ⟨⟨?_, ?_, ?_, ?_, h.apart, h.lo, h.few, h.lens, ?_, h.low, ?_⟩, ⟨?_, ?_, ?_, ?_, ?_⟩, ?_, ?_⟩
  · have := heap_set (w := w5) (hB.trans h.blk) 2 v
    exact this
  · exact ownsRow_setCell_other (ownsRow_far h.kept (fun g hg' => hk g (h.own_lt (.inr (.inl hg'))).2 (fun e => (h.neT e).1 hg'))) n1 _
  · exact ownsRow_setCell_other (ownsRow_far h.now (fun g hg' => hk g (h.own_lt (.inr (.inr (.inl hg')))).2 (fun e => (h.neT e).2 hg'))) n2 _
  · show World.ownsRow _ _ _ _ _ _ _
    rw [flatT_append, List.length_append]
    exact ownsRow_setCell_other hown hvB _
  · intro y hy
    rcases List.mem_append.1 hy with h1 | h1
    · exact h.spots y h1
    · simp at h1; subst h1; exact hx
  · simp; omega
  · exact hg.os.trans h4.1
  · exact hg.tape.trans h4.2.1
  · exact hg.output.trans h4.2.2.1
  · have := hg.size; simp; omega
  · intro k hlt ho
    rw [hs k (fun e => ho (.inl e)), hk k hlt (fun e => ho (.inr (.inr (.inr e))))]
  · rw [World.cell?_of_block (w := w) (a := ⟨q.B, 2, none⟩) hB, cell_block h.blk]; rfl
  · rw [World.frozen?_of_block (w := w) (a := ⟨q.B, 2, none⟩) hB]; exact h.fr 2

theorem RAt.noteA {w w5 : World} {q : Rp} {e : Dk} (h : RAt w q e) (o : Obj) {x : Wr} {v : Value}
    (hg : (w.alloc o).grownBy w5 q.tv.ownBlock) (hown : w5.ownsRow q.lo 133 2 v (e.wr.length + 1) (flatT e.wr ++ [.int .i64 x.spot, .string (baL x.data)])) (hx : x.spot < e.now.length) (hl : e.wr.length < 1000) (b : Nat) :
    RAt (w5.setCell ⟨q.B, 2, none⟩ v) { q with tv := v } { e with wr := e.wr ++ [x], bit := b } ∧ RNear q w (w5.setCell ⟨q.B, 2, none⟩ v) ∧ (w5.cell? ⟨q.B, 2, none⟩ = some q.tv ∧ w5.frozen? ⟨q.B, 2, none⟩ = false) :=
  h.note (w4 := w.alloc o) ⟨rfl, rfl, rfl, by simp, fun k hk => ((Below.refl _ _).alloc (Nat.le_refl _) o).block k hk⟩ hg hown hx hl b
theorem row_shape {w : World} {base : Nat} {e : TypeId} {size : Nat} {v : Value} {n : Nat} {xs : List Value} (h : w.ownsRow base e size v n xs) : ∃ a c, v = .slice a n c := by
  rcases h.2 with ⟨e1, h0⟩ | ⟨g, cap, cur, e1, _⟩
  · exact ⟨none, 0, by rw [e1, h0]⟩
  · exact ⟨_, _, e1⟩
theorem two_new (w : World) (a b : Value) (t : TypeId) : ∀ j u, [a, b][j]? = some u → (w.alloc (.cells #[a, b] t)).cell? ((⟨w.heap.size, 0, none⟩ : Addr).add j) = some u := by
  intro j u hj
  match j, hj with
  | 0, hj => simp at hj; subst hj; simp [Addr.add]
  | 1, hj => simp at hj; subst hj; simp [Addr.add]
  | j + 2, hj => simp at hj
theorem two_one (i : Nat) (s : ByteArray) : ∀ u ∈ [Value.int .i64 i, .string s], u.oneCell' = true := by
  intro u hu
  simp at hu
  rcases hu with rfl | rfl <;> rfl
/-- Write, as the document's disk does it. -/
def writeE (e : Dk) (k : Int) (s : ByteArray) : Dk := if ¬ (0 ≤ k ∧ k < (e.now.length : Int)) ∨ 40 < s.size then e else if stepN e = 0 then { stepE e with now := e.now.set k.toNat (padD s), wr := e.wr ++ [⟨k.toNat, e.bit, padD s⟩], bit := (e.bit + 1) % 64 } else stepE e
theorem stepE_same (e : Dk) : (stepE e).now = e.now ∧ (stepE e).kept = e.kept ∧ (stepE e).wr = e.wr ∧ (stepE e).bit = e.bit := by
  unfold stepE; split
  · simp
  · split
    · simp
    · split <;> simp

set_option maxRecDepth 100000 in
set_option maxHeartbeats 2000000 in
theorem refWrite_any (q : Rp) (e : Dk) (k : Int) (s : ByteArray) (w : World) (h : RAt w q e) (hs : s.size ≤ maxLen) (hfew : e.wr.length < 1000) :
    Calls Try.prog 30 #[.pointer (some ⟨q.B, 0, none⟩), .int .i64 k, .string s] w fun en w' => en = .returned (.int .i64 (writeN e k s)) ∧ ∃ v, RAt w' { q with tv := v } (writeE e k s) ∧ RNear q w w' := by
  unfold maxLen at hs
  have HD : Hid (RAt w q e) := h
  obtain ⟨c0, c1, c2, c3, c4⟩ := h.cells
  obtain ⟨va, vc, hv⟩ : ∃ a c, q.nv = .slice a e.now.length c := by
    obtain ⟨a, cap, h1, _⟩ := OwnsS.texts h.now
    exact ⟨a, cap, by rw [h1]; simp⟩
  clear h
  by_cases hk : 0 ≤ k
  · obtain ⟨i, rfl⟩ : ∃ i : Nat, k = i := ⟨k.toNat, by omega⟩
    by_cases hi : i < e.now.length
    · by_cases h40 : 40 < s.size
      · have e1 : writeN e i s = 1 := by unfold writeN; rw [if_pos (.inr h40)]
        have e2 : writeE e i s = e := by unfold writeE; rw [if_pos (.inr h40)]
        rw [e1, e2]
        rw [hv] at c1
        have hiz : (i : Int) < (e.now.length : Int) := by omega
        clear e1 e2 hv
        go_enter Try.func30, Try.ntmps30
        go_wp2
        go_ret
        exact ⟨rfl, q.tv, HD.out, RNear.refl _ _⟩
      · have hgood : ¬ (¬ (0 ≤ (i : Int) ∧ (i : Int) < (e.now.length : Int)) ∨ 40 < s.size) := by omega
        have e1 : writeN e i s = stepN e := by unfold writeN; rw [if_neg hgood]
        have hiz : (i : Int) < (e.now.length : Int) := by omega
        have h60 := HD.out.few
        obtain ⟨s1, s2, s3, s4⟩ := stepE_same e
        rcases stepN_range e with h0 | h0
        · have e2 : writeE e i s = { stepE e with now := e.now.set i (padD s), wr := e.wr ++ [⟨i, e.bit, padD s⟩], bit := (e.bit + 1) % 64 } := by unfold writeE; rw [if_neg hgood, if_pos h0]; rfl
          rw [e1, e2, h0]
          have kst := refStep_any q e w HD.out
          rw [h0] at kst
          have KST : Hid _ := kst
          have HV : Hid _ := hv
          rw [hv] at c1
          clear e1 e2 kst hv h0 c0 c2 c3 c4
          go_enter Try.func30, Try.ntmps30
          go_wp2_with fail
          refine Calls.mono KST.out ?_
          rintro en w1 ⟨rfl, hr1, hn1⟩
          have HR1 : Hid _ := hr1
          have HN1 : Hid _ := hn1
          clear hr1 hn1 c1 KST
          have kn := noughts_any (40 - s.size) w1 (by omega)
          rw [show ((40 - s.size : Nat) : Int) = 40 - (s.size : Int) by omega] at kn
          have KN : Hid _ := kn
          clear kn
          go_wp2_with fail
          refine Calls.mono KN.out ?_
          rintro en w2 ⟨rfl, hb⟩
          have HR2 : Hid (RAt w2 q (stepE e)) := HR1.out.far (fun k hk => hb.block k (HR1.out.own_lt hk).2)
          have HN2 : Hid (RNear q w w2) := HN1.out.trans ⟨hb.os, hb.tape, hb.output, hb.size, fun k hk _ => hb.block k hk⟩
          clear hb HR1 HN1 KN
          obtain ⟨g, c, hg, hcell, hfr, hown⟩ := HR2.out.sector (i := i) (by rw [s1]; exact hi)
          rw [s1] at hg
          obtain ⟨d0, d1, d2, d3, d4⟩ := HR2.out.cells
          have f2 := HR2.out.fr 2
          rw [hg] at d1
          have hfri := hfr i
          have HG : Hid _ := hg
          have HJ : Hid (s ++ baL (List.replicate (40 - s.size) 0) = baL (padD s)) := pad_join
          have hset := HR2.out.setNow (g := g) (c := c) (by rw [s1]; exact hg) (i := i) (by rw [s1]; exact hi) (padD s)
          have HS : Hid _ := hset
          have hbz : (baL (List.replicate (40 - s.size) (0 : UInt8))).size = 40 - s.size := by rw [baL_size]; simp
          clear hset hg hown hfr d0 d3 d4
          go_upto_region 8 with fail
          rw [HJ.out]
          obtain ⟨W3, hW3⟩ : ∃ u, u = w2.setCell ⟨g, i, none⟩ (.string (baL (padD s))) := ⟨_, rfl⟩
          rw [← hW3] at HS
          rw [← hW3]
          clear hW3 d1 d2 f2 hcell hfri HR2 HJ HG
          have HR3 : Hid (RAt W3 q { stepE e with now := e.now.set i (padD s) }) := by have := HS.out.1; rw [s1] at this; exact this
          have HN3 : Hid (RNear q w W3) := HN2.out.trans HS.out.2
          obtain ⟨d0, d1, d2, d3, d4⟩ := HR3.out.cells
          obtain ⟨i0, hif, hz0, hz1, hz2⟩ := info_parts Try.infoTurn
          have hwl : (stepE e).wr.length < 1000 := by rw [s3]; exact hfew
          have HOW : Hid (W3.ownsRow q.lo 133 2 q.tv (stepE e).wr.length (flatT (stepE e).wr)) := HR3.out.wait
          have hlo : q.lo ≤ W3.heap.size := Nat.le_of_lt (Nat.lt_of_le_of_lt HR3.out.lo (HR3.out.own_lt (.inl rfl)).2)
          clear HS d0 d1 d3 d4
          go_wp2_with (at_builtin; refine wpList_append_own _ rfl _ _ 67 rfl q.lo 133 i0 _ 2 24 (by kernel_rfl) hif hz0 hz1 hz2 rfl (by decide) q.tv (stepE e).wr.length (flatT (stepE e).wr) rfl (World.ownsRow.alloc (w := W3) HOW.out _) ⟨W3.heap.size, 0, none⟩ 1 1 [.int .i64 i, .string (baL (padD s))] rfl rfl (two_new _ _ _ _) (two_one _ _) (by unfold maxLen; omega) (by omega) (by simp; omega) ?_; intro v' w4 hown4 hgrow4 hnil4; obtain ⟨xa, xc, rfl⟩ := row_shape hown4; obtain ⟨hA, hB, hc1, hc2⟩ := HR3.out.noteA _ (x := ⟨i, e.bit, padD s⟩) hgrow4 hown4 (by simpa using hi) hwl ((e.bit + 1) % 64); have HA : Hid _ := hA; have HB : Hid _ := hB; clear hA hB hown4 hgrow4 hnil4)
          go_ret
          have h8 := HB.out
          have h9 := HA.out
          rw [s3] at h8 h9
          rw [s2] at h9
          exact ⟨rfl, ⟨_, h9⟩, HN3.out.trans h8⟩
        · have e2 : writeE e i s = stepE e := by unfold writeE; rw [if_neg hgood, if_neg (by rw [h0]; decide)]
          rw [e1, e2, h0]
          have kst := refStep_any q e w HD.out
          rw [h0] at kst
          have KST : Hid _ := kst
          rw [hv] at c1
          clear e1 e2 kst hv h0 c0 c2 c3 c4
          go_enter Try.func30, Try.ntmps30
          go_wp2_with fail
          refine Calls.mono KST.out ?_
          rintro en w1 ⟨rfl, hr1, hn1⟩
          have HR1 : Hid _ := hr1
          have HN1 : Hid _ := hn1
          clear hr1 hn1 c1 KST
          go_wp2
          go_ret
          exact ⟨rfl, q.tv, HR1.out, HN1.out⟩
    · have hbad : ¬ (0 ≤ (i : Int) ∧ (i : Int) < (e.now.length : Int)) ∨ 40 < s.size := .inl (by omega)
      have e1 : writeN e i s = 1 := by unfold writeN; rw [if_pos hbad]
      have e2 : writeE e i s = e := by unfold writeE; rw [if_pos hbad]
      rw [e1, e2]
      rw [hv] at c1
      have hiz : (e.now.length : Int) ≤ (i : Int) := by omega
      clear e1 e2 hv hbad
      go_enter Try.func30, Try.ntmps30
      go_wp2
      go_ret
      exact ⟨rfl, q.tv, HD.out, RNear.refl _ _⟩
  · have hbad : ¬ (0 ≤ k ∧ k < (e.now.length : Int)) ∨ 40 < s.size := .inl (by omega)
    have e1 : writeN e k s = 1 := by unfold writeN; rw [if_pos hbad]
    have e2 : writeE e k s = e := by unfold writeE; rw [if_pos hbad]
    rw [e1, e2]
    have hkz : k < 0 := by omega
    clear e1 e2 hv hbad hk
    go_enter Try.func30, Try.ntmps30
    go_wp2
    go_ret
    exact ⟨rfl, q.tv, HD.out, RNear.refl _ _⟩
end Go.Proofs.Ytihnghnafpgdfab
namespace Go.Proofs.Ytihnghnafpgdfab
open Go.RowKit
set_option linter.unusedVariables false
set_option linter.unusedSimpArgs false

theorem leB_at : ∀ (m n k : Nat), k < m → (leB m n)[k]? = some (UInt8.ofNat (n / 256 ^ k % 256))
  | m + 1, n, 0, _ => by simp [leB]
  | m + 1, n, k + 1, h => by
    have := leB_at m (n / 256) k (by omega)
    simp only [leB, List.getElem?_cons_succ, this]
    rw [Nat.div_div_eq_div_mul, Nat.pow_succ, Nat.mul_comm 256]
/-- So many bytes of it, noughts behind them. -/
def leTo (m n k : Nat) : List UInt8 := (leB m n).take k ++ List.replicate (m - k) 0
theorem leTo_zero (m n : Nat) : leTo m n 0 = List.replicate m 0 := by simp [leTo]
theorem leTo_all (m n : Nat) : leTo m n m = leB m n := by
  have := leB_length m n
  simp [leTo, List.take_of_length_le (Nat.le_of_eq this)]
theorem leTo_length (m n k : Nat) (h : k ≤ m) : (leTo m n k).length = m := by
  have := leB_length m n
  simp [leTo]; omega
theorem leTo_set (m n k : Nat) (h : k < m) : (leTo m n k).set k (UInt8.ofNat (n / 256 ^ k % 256)) = leTo m n (k + 1) := by
  have hl := leB_length m n
  have hk : k < (leB m n).length := by omega
  have e : (leB m n)[k] = UInt8.ofNat (n / 256 ^ k % 256) := by
    have := leB_at m n k h
    rw [List.getElem?_eq_getElem hk] at this
    exact Option.some.inj this
  unfold leTo
  rw [List.set_append, if_neg (by simp; omega), List.take_succ_eq_append_getElem hk, e, List.append_assoc]
  congr 1
  rw [show k - ((leB m n).take k).length = 0 by simp; omega, show m - k = (m - (k + 1)) + 1 by omega, List.replicate_succ]
  simp
theorem bytesV_set (l : List UInt8) (k : Nat) (b : UInt8) : (bytesV l).set k (.int .u8 (b.toNat : Int)) = bytesV (l.set k b) := by
  simp [bytesV, List.map_set]

set_option maxRecDepth 100000 in
set_option maxHeartbeats 1000000 in
theorem numBytes_any (n many : Nat) (w : World) (hn : n < 18446744073709551616) (hm : many ≤ 8) :
    Calls Try.prog 123 #[.int .u64 n, .int .i64 many] w fun e w' => e = .returned (.string (baL (leB many n))) ∧ Below w.heap.size w w' := by
  have hmk := fun W => run_make_row' (P := Try.prog) 130 5 (.int .u8 0) 1 (by kernel_rfl) Try.infoByte rfl .i64 .i64 many (by omega) (by omega) W
  go_enter Try.func123, Try.ntmps123
  go_wp2_with fail
  go_loopg [0, 6, 11] (many + 1) (fun kx vn v6 vi wr => ∃ k x : Nat, vn = .int .u64 x ∧ vi = .int .i64 k ∧ k ≤ many ∧ many - k ≤ kx ∧ Hid (x = n / 256 ^ k) ∧ x < 18446744073709551616 ∧ Hid (wr.heap[w.heap.size]? = some (.cells (bytesV (leTo many n k)).toArray 5 (0, 0))) ∧ Hid (Below w.heap.size w wr))
  case atStart =>
    refine ⟨0, n, rfl, rfl, by omega, by omega, (by simp : n = n / 256 ^ 0), hn, ?_, (Below.refl _ _).alloc (Nat.le_refl _) _⟩
    have e : (bytesV (leTo many n 0)).toArray = madeCells #[.int .u8 0] many := by rw [leTo_zero, made_bytes]; simp [bytesV]
    rw [e]
    exact heap_alloc_new w (.cells (madeCells #[.int .u8 0] many) 5)
  case round =>
    obtain ⟨k, x, rfl, rfl, hk, hkx, HX, hx, HW, HB⟩ := hrel
    have hl := leTo_length many n k hk
    by_cases hlt : k < many
    · have hltz : (k : Int) < (many : Int) := by omega
      have hc : ∃ v, wr.cell? ⟨w.heap.size, k, none⟩ = some v := by
        rw [cell_block HW.out]
        exact ⟨(bytesV (leTo many n k))[k]'(by rw [bytesV_length]; omega), by simp [bytesV_length, hl, hlt]⟩
      obtain ⟨v0, hc⟩ := hc
      have hf : wr.frozen? ⟨w.heap.size, k, none⟩ = false := frozen_block HW.out k
      go_wp2_with fail
      have hs := heap_set HW.out k (.int .u8 ((x : Int) % 256))
      have HB2 : Hid (Below w.heap.size w (wr.setCell ⟨w.heap.size, k, none⟩ (.int .u8 ((x : Int) % 256)))) := HB.out.setCell (Nat.le_refl _) _
      have HW2 : Hid ((wr.setCell ⟨w.heap.size, k, none⟩ (.int .u8 ((x : Int) % 256))).heap[w.heap.size]? = some (.cells (bytesV (leTo many n (k + 1))).toArray 5 (0, 0))) := by
        show _ = _
        rw [← leTo_set many n k hlt, ← bytesV_set, ← HX.out]
        have e : (((UInt8.ofNat (x % 256)).toNat : Nat) : Int) = (x : Int) % 256 := by simp
        rw [e]
        simpa using hs
      have HX2 : Hid (x / 256 = n / 256 ^ (k + 1)) := by show _ = _; rw [HX.out, Nat.div_div_eq_div_mul, Nat.pow_succ]
      go_roundg (many - (k + 1))
      case measure => omega
      case rel => exact ⟨k + 1, x / 256, congrArg (Value.int .u64) (by omega), by go_num, by omega, Nat.le_refl _, HX2, by omega, HW2, HB2⟩
    · have e : k = many := by omega
      have hcv := run_convert_bytes_back (P := Try.prog) wr 130 9 5 ⟨w.heap.size, 0, none⟩ many (leB many n) (by kernel_rfl) (by kernel_rfl) (by kernel_rfl) (by
        intro j hj
        have hW := HW.out
        rw [e, leTo_all] at hW
        rw [Addr.add_mid, Nat.zero_add, cell_block hW]
        simp [bytesV, hj])
      rw [leB_length] at hcv
      go_wp2
      go_ret
      exact ⟨rfl, HB.out⟩

theorem or_bytes (x y : Nat) (hx : x < 65536) (hy : y < 256) : bits .or .u64 ((x : Int) * 256) (IntKind.u64.wrap (y : Int)) = ((y + 256 * x : Nat) : Int) := by
  have e1 : IntKind.u64.wrap (y : Int) = (y : Int) := by rw [IntKind.wrap_u64]; omega
  have k1 : (BitVec.ofInt 64 ((x : Int) * 256)).toNat = 2 ^ 8 * x := by rw [BitVec.toNat_ofInt]; omega
  have k2 : (BitVec.ofInt 64 (y : Int)).toNat = y := by rw [BitVec.toNat_ofInt]; omega
  have key : (BitVec.ofInt 64 ((x : Int) * 256) ||| BitVec.ofInt 64 (y : Int)).toNat = 2 ^ 8 * x + y := by
    rw [BitVec.toNat_or, k1, k2, Nat.two_pow_add_eq_or_of_lt (by omega)]
  rw [e1]
  show IntKind.u64.wrap ((BitVec.ofInt 64 ((x : Int) * 256) ||| BitVec.ofInt 64 (y : Int)).toNat : Nat) = _
  rw [key, IntKind.wrap_u64]
  omega

set_option maxRecDepth 100000 in
set_option maxHeartbeats 1000000 in
theorem numOf_any (s : ByteArray) (w : World) (hs : s.size = 2) :
    Calls Try.prog 150 #[.string s] w fun e w' => e = .returned (.int .u64 (ofLE s.data.toList)) ∧ w' = w := by
  obtain ⟨a, b, rfl⟩ : ∃ a b : UInt8, s = ⟨#[a, b]⟩ := by
    obtain ⟨⟨l⟩⟩ := s
    match l, hs with
    | [a, b], _ => exact ⟨a, b, rfl⟩
  have ha := a.toNat_lt
  have hb := b.toNat_lt
  go_enter Try.func150, Try.ntmps150
  go_wp2_with fail
  go_loopg [3, 4] 4 (fun kx vn vi wr => wr = w ∧ ((vn = .int .u64 0 ∧ vi = .int .i64 1 ∧ 3 ≤ kx) ∨ (vn = .int .u64 (b.toNat : Int) ∧ vi = .int .i64 0 ∧ 2 ≤ kx) ∨ (vn = .int .u64 ((ofLE [a, b] : Nat) : Int) ∧ vi = .int .i64 (-1) ∧ 1 ≤ kx)))
  case atStart => exact ⟨rfl, .inl ⟨rfl, rfl, by omega⟩⟩
  case round =>
    obtain ⟨rfl, ⟨rfl, rfl, hx⟩ | ⟨rfl, rfl, hx⟩ | ⟨rfl, rfl, hx⟩⟩ := hrel
    · have h1 := or_bytes 0 b.toNat (by omega) (by omega)
      have HO : Hid (bits .or .u64 0 (IntKind.u64.wrap ((⟨#[a, b]⟩ : ByteArray)[1].toNat : Int)) = (b.toNat : Int)) := by
        have h2 : bits .or .u64 0 (IntKind.u64.wrap (b.toNat : Int)) = (b.toNat : Int) := by simpa using h1
        exact h2
      clear h1
      go_wp2
      rw [HO.out]
      go_roundg 2
      case measure => omega
      case rel => exact ⟨rfl, .inr (.inl ⟨rfl, rfl, Nat.le_refl _⟩)⟩
    · have h1 := or_bytes b.toNat a.toNat (by omega) (by omega)
      have HO : Hid (bits .or .u64 ((b.toNat : Int) * 256) (IntKind.u64.wrap ((⟨#[a, b]⟩ : ByteArray)[0].toNat : Int)) = ((ofLE [a, b] : Nat) : Int)) := by
        show _ = _
        have e : ofLE [a, b] = a.toNat + 256 * b.toNat := by simp [ofLE]
        rw [e]
        exact h1
      clear h1
      go_wp2
      rw [HO.out]
      go_roundg 1
      case measure => omega
      case rel => exact ⟨rfl, .inr (.inr ⟨rfl, rfl, Nat.le_refl _⟩)⟩
    · go_wp2
      go_ret
      exact ⟨rfl, rfl⟩
end Go.Proofs.Ytihnghnafpgdfab
