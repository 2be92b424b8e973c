/-
  WHAT WRITES THE DOCUMENT's DISK: noughts, Write.
-/
import Derived.Test.YtihnghnafpgdfabRefDisk
import Derived.Laws.IdiomStrings
import Derived.Laws.MakeOwn
import Derived.Deep.OwnRows
import Derived.Deep.DeepCutAuto
namespace Go.Proofs.Ytihnghnafpgdfab
open Go.RowKit
set_option linter.unusedVariables false
set_option linter.unusedSimpArgs false

theorem Try.infoByte : (Try.prog.info? 5).map (fun i => (i.zero, i.size, i.bytes)) = some (some (.int .u8 0), 1, 1) := by kernel_rfl
theorem Try.infoTurn : (Try.prog.info? 133).map (fun i => (i.zero, i.size, i.bytes)) = some (some (.agg #[.int .i64 0, .string ⟨#[]⟩]), 2, 24) := by kernel_rfl
theorem made_bytes (n : Nat) : madeCells #[.int .u8 0] n = (List.replicate n (Value.int .u8 0)).toArray := by
  apply Array.ext
  · simp [madeCells]
  · intro k h1 h2
    simp [madeCells, Nat.mod_one]

set_option maxRecDepth 100000 in
theorem noughts_any (n : Nat) (w : World) (hn : n ≤ 1000) :
    Calls Try.prog 77 #[.int .i64 n] w fun e w' => e = .returned (.string (baL (List.replicate n 0))) ∧ Below w.heap.size w w' := by
  have hmk := fun W => run_make_row' (P := Try.prog) 130 5 (.int .u8 0) 1 (by kernel_rfl) Try.infoByte rfl .i64 .i64 n (by omega) (by omega) W
  have hcv := run_convert_bytes_back (P := Try.prog) (w.alloc (.cells (madeCells #[.int .u8 0] n) 5)) 130 9 5 ⟨w.heap.size, 0, none⟩ n (List.replicate n 0) (by kernel_rfl) (by kernel_rfl) (by kernel_rfl) (by
    intro j hj
    simp only [List.length_replicate] at hj
    rw [Addr.add_mid, Nat.zero_add, cell_block (heap_alloc_new w _), made_bytes]
    simp [hj])
  rw [List.length_replicate] at hcv
  go_enter Try.func77, Try.ntmps77
  go_wp2
  go_ret
  exact ⟨rfl, (Below.refl _ _).alloc (Nat.le_refl _) _⟩

theorem pad_join {s : ByteArray} : s ++ baL (List.replicate (40 - s.size) 0) = baL (padD s) := by
  apply ByteArray.ext
  simp [baL, padD, ByteArray.data_append]

theorem OwnsS.set {w : World} {B g c : Nat} {l : List ByteArray} (h : OwnsS w B (.slice (some ⟨g, 0, none⟩) l.length c) l) {i : Nat} (hi : i < l.length) (s : ByteArray) :
    OwnsS (w.setCell ⟨g, i, none⟩ (.string s)) B (.slice (some ⟨g, 0, none⟩) (l.set i s).length c) (l.set i s) := by
  obtain ⟨h1, h2⟩ := h
  refine ⟨by simp, ?_⟩
  rcases h2 with ⟨e, _⟩ | ⟨g', cap, cur, e, hb, hh, hn, hm, hs, ht⟩
  · cases e
  · injection e with e1 e2 e3
    injection e1 with e1
    injection e1 with e1
    subst e1
    subst e3
    refine .inr ⟨g, c, cur.setIfInBounds i (.string s), by simp, hb, heap_set hh i _, by simpa using hn, hm, by simpa using hs, ?_⟩
    rw [Array.toList_setIfInBounds, List.length_set, List.take_set, ht, List.map_set]
theorem RAt.setNow {w : World} {q : Rp} {e : Dk} (h : RAt w q e) {g c : Nat} (hv : q.nv = .slice (some ⟨g, 0, none⟩) e.now.length c) {i : Nat} (hi : i < e.now.length) (s : List UInt8) :
    RAt (w.setCell ⟨g, i, none⟩ (.string (baL s))) q { e with now := e.now.set i s } ∧ RNear q w (w.setCell ⟨g, i, none⟩ (.string (baL s))) := by
  obtain ⟨n1, n2, n3⟩ := h.neB
  have hg : q.nv.ownBlock = some g := by rw [hv]; rfl
  have hk : ∀ k, k ≠ g → (w.setCell ⟨g, i, none⟩ (.string (baL s))).heap[k]? = w.heap[k]? := fun k hk => Below.heap_setCell w ⟨g, i, none⟩ _ k hk
  refine ⟨⟨?_, ?_, ?_, ?_, h.apart, h.lo, by simpa using h.few, by simpa using h.lens, by simpa using h.spots, h.low, h.fewer⟩, ⟨rfl, rfl, rfl, by simp, fun k _ ho => hk k (fun e => ho (.inr (.inr (.inl (by rw [hg, e])))))⟩⟩
  · rw [hk _ (fun e => n2 (by rw [hg, e]))]; exact h.blk
  · exact ownsRow_setCell_other h.kept (fun e => h.apart g e hg) _
  · have h0 := h.now
    rw [hv] at h0
    have h1 := OwnsS.set (g := g) (c := c) (l := e.now.map baL) (by simpa using h0) (i := i) (by simpa using hi) (baL s)
    rw [← List.map_set] at h1
    rw [hv]
    simpa using h1
  · exact ownsRow_setCell_other h.wait (fun e => (h.neT e).2 hg) _
theorem RAt.note {w w4 w5 : World} {q : Rp} {e : Dk} (h : RAt w q e) {x : Wr} {v : Value} (h4 : w4.os = w.os ∧ w4.tape = w.tape ∧ w4.output = w.output ∧ w.heap.size ≤ w4.heap.size ∧ ∀ k, k < w.heap.size → w4.heap[k]? = w.heap[k]?)
    (hg : w4.grownBy w5 q.tv.ownBlock) (hown : w5.ownsRow q.lo 133 2 v (e.wr.length + 1) (flatT e.wr ++ [.int .i64 x.spot, .string (baL x.data)])) (hx : x.spot < e.now.length) (hl : e.wr.length < 1000) (b : Nat) :
    RAt (w5.setCell ⟨q.B, 2, none⟩ v) { q with tv := v } { e with wr := e.wr ++ [x], bit := b } ∧ RNear q w (w5.setCell ⟨q.B, 2, none⟩ v) ∧ (w5.cell? ⟨q.B, 2, none⟩ = some q.tv ∧ w5.frozen? ⟨q.B, 2, none⟩ = false) := by
  obtain ⟨n1, n2, n3⟩ := h.neB
  have hk : ∀ k, k < w.heap.size → q.tv.ownBlock ≠ some k → w5.heap[k]? = w.heap[k]? := fun k hk hne => by
    rw [hg.block k (by omega) (fun e => hne e.symm), h4.2.2.2.2 k hk]
  have hB := hk q.B (h.own_lt (.inl rfl)).2 n3
  have hvB : v.ownBlock ≠ some q.B := fun he => by
    obtain ⟨c, f, e'⟩ := Lib.ownsRow_kind hown _ he
    rw [hB, h.blk] at e'; simp at e'
  have hs : ∀ k, k ≠ q.B → (w5.setCell ⟨q.B, 2, none⟩ v).heap[k]? = w5.heap[k]? := fun k hk => Below.heap_setCell w5 ⟨q.B, 2, none⟩ v k hk
  refine ⟨⟨?_, ?_, ?_, ?_, h.apart, h.lo, h.few, h.lens, ?_, h.low, ?_⟩, ⟨?_, ?_, ?_, ?_, ?_⟩, ?_, ?_⟩
  · have := heap_set (w := w5) (hB.trans h.blk) 2 v
    exact this
  · exact ownsRow_setCell_other (ownsRow_far h.kept (fun g hg' => hk g (h.own_lt (.inr (.inl hg'))).2 (fun e => (h.neT e).1 hg'))) n1 _
  · exact ownsRow_setCell_other (ownsRow_far h.now (fun g hg' => hk g (h.own_lt (.inr (.inr (.inl hg')))).2 (fun e => (h.neT e).2 hg'))) n2 _
  · show World.ownsRow _ _ _ _ _ _ _
    rw [flatT_append, List.length_append]
    exact ownsRow_setCell_other hown hvB _
  · intro y hy
    rcases List.mem_append.1 hy with h1 | h1
    · exact h.spots y h1
    · simp at h1; subst h1; exact hx
  · simp; omega
  · exact hg.os.trans h4.1
  · exact hg.tape.trans h4.2.1
  · exact hg.output.trans h4.2.2.1
  · have := hg.size; simp; omega
  · intro k hlt ho
    rw [hs k (fun e => ho (.inl e)), hk k hlt (fun e => ho (.inr (.inr (.inr e))))]
  · rw [World.cell?_of_block (w := w) (a := ⟨q.B, 2, none⟩) hB, cell_block h.blk]; rfl
  · rw [World.frozen?_of_block (w := w) (a := ⟨q.B, 2, none⟩) hB]; exact h.fr 2

theorem RAt.noteA {w w5 : World} {q : Rp} {e : Dk} (h : RAt w q e) (o : Obj) {x : Wr} {v : Value}
    (hg : (w.alloc o).grownBy w5 q.tv.ownBlock) (hown : w5.ownsRow q.lo 133 2 v (e.wr.length + 1) (flatT e.wr ++ [.int .i64 x.spot, .string (baL x.data)])) (hx : x.spot < e.now.length) (hl : e.wr.length < 1000) (b : Nat) :
    RAt (w5.setCell ⟨q.B, 2, none⟩ v) { q with tv := v } { e with wr := e.wr ++ [x], bit := b } ∧ RNear q w (w5.setCell ⟨q.B, 2, none⟩ v) ∧ (w5.cell? ⟨q.B, 2, none⟩ = some q.tv ∧ w5.frozen? ⟨q.B, 2, none⟩ = false) :=
  h.note (w4 := w.alloc o) ⟨rfl, rfl, rfl, by simp, fun k hk => ((Below.refl _ _).alloc (Nat.le_refl _) o).block k hk⟩ hg hown hx hl b
theorem row_shape {w : World} {base : Nat} {e : TypeId} {size : Nat} {v : Value} {n : Nat} {xs : List Value} (h : w.ownsRow base e size v n xs) : ∃ a c, v = .slice a n c := by
  rcases h.2 with ⟨e1, h0⟩ | ⟨g, cap, cur, e1, _⟩
  · exact ⟨none, 0, by rw [e1, h0]⟩
  · exact ⟨_, _, e1⟩
theorem two_new (w : World) (a b : Value) (t : TypeId) : ∀ j u, [a, b][j]? = some u → (w.alloc (.cells #[a, b] t)).cell? ((⟨w.heap.size, 0, none⟩ : Addr).add j) = some u := by
  intro j u hj
  match j, hj with
  | 0, hj => simp at hj; subst hj; simp [Addr.add]
  | 1, hj => simp at hj; subst hj; simp [Addr.add]
  | j + 2, hj => simp at hj
theorem two_one (i : Nat) (s : ByteArray) : ∀ u ∈ [Value.int .i64 i, .string s], u.oneCell' = true := by
  intro u hu
  simp at hu
  rcases hu with rfl | rfl <;> rfl
/-- Write, as the document's disk does it. -/
def writeE (e : Dk) (k : Int) (s : ByteArray) : Dk := if ¬ (0 ≤ k ∧ k < (e.now.length : Int)) ∨ 40 < s.size then e else if stepN e = 0 then { stepE e with now := e.now.set k.toNat (padD s), wr := e.wr ++ [⟨k.toNat, e.bit, padD s⟩], bit := (e.bit + 1) % 64 } else stepE e
theorem stepE_same (e : Dk) : (stepE e).now = e.now ∧ (stepE e).kept = e.kept ∧ (stepE e).wr = e.wr ∧ (stepE e).bit = e.bit := by
  unfold stepE; split
  · simp
  · split
    · simp
    · split <;> simp

set_option maxRecDepth 100000 in
set_option maxHeartbeats 2000000 in
theorem refWrite_any (q : Rp) (e : Dk) (k : Int) (s : ByteArray) (w : World) (h : RAt w q e) (hs : s.size ≤ maxLen) (hfew : e.wr.length < 1000) :
    Calls Try.prog 30 #[.pointer (some ⟨q.B, 0, none⟩), .int .i64 k, .string s] w fun en w' => en = .returned (.int .i64 (writeN e k s)) ∧ ∃ v, RAt w' { q with tv := v } (writeE e k s) ∧ RNear q w w' := by
  unfold maxLen at hs
  have HD : Hid (RAt w q e) := h
  obtain ⟨c0, c1, c2, c3, c4⟩ := h.cells
  obtain ⟨va, vc, hv⟩ : ∃ a c, q.nv = .slice a e.now.length c := by
    obtain ⟨a, cap, h1, _⟩ := OwnsS.texts h.now
    exact ⟨a, cap, by rw [h1]; simp⟩
  clear h
  by_cases hk : 0 ≤ k
  · obtain ⟨i, rfl⟩ : ∃ i : Nat, k = i := ⟨k.toNat, by omega⟩
    by_cases hi : i < e.now.length
    · by_cases h40 : 40 < s.size
      · have e1 : writeN e i s = 1 := by unfold writeN; rw [if_pos (.inr h40)]
        have e2 : writeE e i s = e := by unfold writeE; rw [if_pos (.inr h40)]
        rw [e1, e2]
        rw [hv] at c1
        have hiz : (i : Int) < (e.now.length : Int) := by omega
        clear e1 e2 hv
        go_enter Try.func30, Try.ntmps30
        go_wp2
        go_ret
        exact ⟨rfl, q.tv, HD.out, RNear.refl _ _⟩
      · have hgood : ¬ (¬ (0 ≤ (i : Int) ∧ (i : Int) < (e.now.length : Int)) ∨ 40 < s.size) := by omega
        have e1 : writeN e i s = stepN e := by unfold writeN; rw [if_neg hgood]
        have hiz : (i : Int) < (e.now.length : Int) := by omega
        have h60 := HD.out.few
        obtain ⟨s1, s2, s3, s4⟩ := stepE_same e
        rcases stepN_range e with h0 | h0
        · have e2 : writeE e i s = { stepE e with now := e.now.set i (padD s), wr := e.wr ++ [⟨i, e.bit, padD s⟩], bit := (e.bit + 1) % 64 } := by unfold writeE; rw [if_neg hgood, if_pos h0]; rfl
          rw [e1, e2, h0]
          have kst := refStep_any q e w HD.out
          rw [h0] at kst
          have KST : Hid _ := kst
          have HV : Hid _ := hv
          rw [hv] at c1
          clear e1 e2 kst hv h0 c0 c2 c3 c4
          go_enter Try.func30, Try.ntmps30
          go_wp2_with fail
          refine Calls.mono KST.out ?_
          rintro en w1 ⟨rfl, hr1, hn1⟩
          have HR1 : Hid _ := hr1
          have HN1 : Hid _ := hn1
          clear hr1 hn1 c1 KST
          have kn := noughts_any (40 - s.size) w1 (by omega)
          rw [show ((40 - s.size : Nat) : Int) = 40 - (s.size : Int) by omega] at kn
          have KN : Hid _ := kn
          clear kn
          go_wp2_with fail
          refine Calls.mono KN.out ?_
          rintro en w2 ⟨rfl, hb⟩
          have HR2 : Hid (RAt w2 q (stepE e)) := HR1.out.far (fun k hk => hb.block k (HR1.out.own_lt hk).2)
          have HN2 : Hid (RNear q w w2) := HN1.out.trans ⟨hb.os, hb.tape, hb.output, hb.size, fun k hk _ => hb.block k hk⟩
          clear hb HR1 HN1 KN
          obtain ⟨g, c, hg, hcell, hfr, hown⟩ := HR2.out.sector (i := i) (by rw [s1]; exact hi)
          rw [s1] at hg
          obtain ⟨d0, d1, d2, d3, d4⟩ := HR2.out.cells
          have f2 := HR2.out.fr 2
          rw [hg] at d1
          have hfri := hfr i
          have HG : Hid _ := hg
          have HJ : Hid (s ++ baL (List.replicate (40 - s.size) 0) = baL (padD s)) := pad_join
          have hset := HR2.out.setNow (g := g) (c := c) (by rw [s1]; exact hg) (i := i) (by rw [s1]; exact hi) (padD s)
          have HS : Hid _ := hset
          have hbz : (baL (List.replicate (40 - s.size) (0 : UInt8))).size = 40 - s.size := by rw [baL_size]; simp
          clear hset hg hown hfr d0 d3 d4
          go_upto_region 8 with fail
          rw [HJ.out]
          obtain ⟨W3, hW3⟩ : ∃ u, u = w2.setCell ⟨g, i, none⟩ (.string (baL (padD s))) := ⟨_, rfl⟩
          rw [← hW3] at HS
          rw [← hW3]
          clear hW3 d1 d2 f2 hcell hfri HR2 HJ HG
          have HR3 : Hid (RAt W3 q { stepE e with now := e.now.set i (padD s) }) := by have := HS.out.1; rw [s1] at this; exact this
          have HN3 : Hid (RNear q w W3) := HN2.out.trans HS.out.2
          obtain ⟨d0, d1, d2, d3, d4⟩ := HR3.out.cells
          obtain ⟨i0, hif, hz0, hz1, hz2⟩ := info_parts Try.infoTurn
          have hwl : (stepE e).wr.length < 1000 := by rw [s3]; exact hfew
          have HOW : Hid (W3.ownsRow q.lo 133 2 q.tv (stepE e).wr.length (flatT (stepE e).wr)) := HR3.out.wait
          have hlo : q.lo ≤ W3.heap.size := Nat.le_of_lt (Nat.lt_of_le_of_lt HR3.out.lo (HR3.out.own_lt (.inl rfl)).2)
          clear HS d0 d1 d3 d4
          go_wp2_with (at_builtin; refine wpList_append_own _ rfl _ _ 67 rfl q.lo 133 i0 _ 2 24 (by kernel_rfl) hif hz0 hz1 hz2 rfl (by decide) q.tv (stepE e).wr.length (flatT (stepE e).wr) rfl (World.ownsRow.alloc (w := W3) HOW.out _) ⟨W3.heap.size, 0, none⟩ 1 1 [.int .i64 i, .string (baL (padD s))] rfl rfl (two_new _ _ _ _) (two_one _ _) (by unfold maxLen; omega) (by omega) (by simp; omega) ?_; intro v' w4 hown4 hgrow4 hnil4; obtain ⟨xa, xc, rfl⟩ := row_shape hown4; obtain ⟨hA, hB, hc1, hc2⟩ := HR3.out.noteA _ (x := ⟨i, e.bit, padD s⟩) hgrow4 hown4 (by simpa using hi) hwl ((e.bit + 1) % 64); have HA : Hid _ := hA; have HB : Hid _ := hB; clear hA hB hown4 hgrow4 hnil4)
          go_ret
          have h8 := HB.out
          have h9 := HA.out
          rw [s3] at h8 h9
          rw [s2] at h9
          exact ⟨rfl, ⟨_, h9⟩, HN3.out.trans h8⟩
        · have e2 : writeE e i s = stepE e := by unfold writeE; rw [if_neg hgood, if_neg (by rw [h0]; decide)]
          rw [e1, e2, h0]
          have kst := refStep_any q e w HD.out
          rw [h0] at kst
          have KST : Hid _ := kst
          rw [hv] at c1
          clear e1 e2 kst hv h0 c0 c2 c3 c4
          go_enter Try.func30, Try.ntmps30
          go_wp2_with fail
          refine Calls.mono KST.out ?_
          rintro en w1 ⟨rfl, hr1, hn1⟩
          have HR1 : Hid _ := hr1
          have HN1 : Hid _ := hn1
          clear hr1 hn1 c1 KST
          go_wp2
          go_ret
          exact ⟨rfl, q.tv, HR1.out, HN1.out⟩
    · have hbad : ¬ (0 ≤ (i : Int) ∧ (i : Int) < (e.now.length : Int)) ∨ 40 < s.size := .inl (by omega)
      have e1 : writeN e i s = 1 := by unfold writeN; rw [if_pos hbad]
      have e2 : writeE e i s = e := by unfold writeE; rw [if_pos hbad]
      rw [e1, e2]
      rw [hv] at c1
      have hiz : (e.now.length : Int) ≤ (i : Int) := by omega
      clear e1 e2 hv hbad
      go_enter Try.func30, Try.ntmps30
      go_wp2
      go_ret
      exact ⟨rfl, q.tv, HD.out, RNear.refl _ _⟩
  · have hbad : ¬ (0 ≤ k ∧ k < (e.now.length : Int)) ∨ 40 < s.size := .inl (by omega)
    have e1 : writeN e k s = 1 := by unfold writeN; rw [if_pos hbad]
    have e2 : writeE e k s = e := by unfold writeE; rw [if_pos hbad]
    rw [e1, e2]
    have hkz : k < 0 := by omega
    clear e1 e2 hv hbad hk
    go_enter Try.func30, Try.ntmps30
    go_wp2
    go_ret
    exact ⟨rfl, q.tv, HD.out, RNear.refl _ _⟩
end Go.Proofs.Ytihnghnafpgdfab
