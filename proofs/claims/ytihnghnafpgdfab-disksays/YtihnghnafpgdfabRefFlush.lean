/-
  THE DOCUMENT's DISK: Flush.
-/
import Derived.Test.YtihnghnafpgdfabRefWrite
namespace Go.Proofs.Ytihnghnafpgdfab
open Go.RowKit
set_option linter.unusedVariables false
set_option linter.unusedSimpArgs false

theorem RAt.row {w : World} {q : Rp} {e : Dk} {v : Value} {l : List (List UInt8)} (h : OwnsS w q.lo v (l.map baL)) (hne : 0 < l.length) : ∃ g c, v = .slice (some ⟨g, 0, none⟩) l.length c ∧ (∀ j u, (l.map (fun s => Value.string (baL s)))[j]? = some u → w.cell? ((⟨g, 0, none⟩ : Addr).add j) = some u) ∧ v.ownBlock = some g := by
  obtain ⟨hlen, h2⟩ := h
  rcases h2 with ⟨_, h0⟩ | ⟨g, cap, cur, e0, hb, hh, hn, hm, hs, ht⟩
  · rw [List.length_map] at h0; omega
  · refine ⟨g, cap, by rw [e0]; simp, fun j u hu => ?_, by rw [e0]; rfl⟩
    rw [Addr.add_mid, Nat.zero_add, cell_block hh]
    have hj : j < l.length := by
      rcases Nat.lt_or_ge j l.length with h1 | h1
      · exact h1
      · rw [List.getElem?_eq_none (by simpa using h1)] at hu; cases hu
    have h3 : (cur.toList.take ((l.map baL).length * 1))[j]? = some u := by
      rw [ht]
      simpa [List.map_map, Function.comp_def] using hu
    rw [List.getElem?_take, if_pos (by simp; omega)] at h3
    simpa using h3
theorem strs_one (l : List (List UInt8)) : ∀ u ∈ l.map (fun s => Value.string (baL s)), u.oneCell' = true := by
  intro u hu
  obtain ⟨s, _, rfl⟩ := List.mem_map.1 hu
  rfl
/-- What is kept, or what is there, is another copy of one's own. -/
theorem RAt.copied {w w4 : World} {q : Rp} {e : Dk} (h : RAt w q e) {v : Value} {l : List (List UInt8)} (hl : l.length = e.now.length) (hg : w.grownBy w4 none) (hown : w4.ownsRow w.heap.size 9 1 v l.length (l.map (fun s => Value.string (baL s)))) :
    (RAt (w4.setCell ⟨q.B, 0, none⟩ v) { q with kv := v } { e with kept := l } ∧ RNear q w (w4.setCell ⟨q.B, 0, none⟩ v) ∧ w4.cell? ⟨q.B, 0, none⟩ = some q.kv ∧ w4.frozen? ⟨q.B, 0, none⟩ = false) ∧
    (RAt (w4.setCell ⟨q.B, 1, none⟩ v) { q with nv := v } { e with now := l } ∧ RNear q w (w4.setCell ⟨q.B, 1, none⟩ v) ∧ w4.cell? ⟨q.B, 1, none⟩ = some q.nv ∧ w4.frozen? ⟨q.B, 1, none⟩ = false) := by
  obtain ⟨n1, n2, n3⟩ := h.neB
  have hlt : ∀ k, rOwn q k → k < w.heap.size := fun k hk => (h.own_lt hk).2
  have hk : ∀ k, k < w.heap.size → w4.heap[k]? = w.heap[k]? := fun k hk => hg.block k hk (fun e => by cases e)
  have hB := hk q.B (hlt _ (.inl rfl))
  have hv : ∀ g, v.ownBlock = some g → w.heap.size ≤ g := fun g hg' => (hown.lt g hg').1
  have hvB : v.ownBlock ≠ some q.B := fun he => by have := hv _ he; have := hlt _ (.inl rfl); omega
  have hlo : q.lo ≤ w.heap.size := Nat.le_of_lt (Nat.lt_of_le_of_lt h.lo (hlt _ (.inl rfl)))
  have hs0 : ∀ (j : Nat) k, k ≠ q.B → (w4.setCell ⟨q.B, j, none⟩ v).heap[k]? = w4.heap[k]? := fun j k hk => Below.heap_setCell w4 ⟨q.B, j, none⟩ v k hk
  have hnew : OwnsS w4 q.lo v (l.map baL) := by
    show World.ownsRow _ _ _ _ _ _ _
    rw [List.length_map, List.map_map]
    refine ⟨hown.1, ?_⟩
    rcases hown.2 with h0 | ⟨g, cap, cur, e, hg, rest⟩
    · exact .inl h0
    · exact .inr ⟨g, cap, cur, e, by omega, rest⟩
  have okept := ownsRow_far (w' := w4) h.kept (fun g hg' => hk g (hlt g (.inr (.inl hg'))))
  have onow := ownsRow_far (w' := w4) h.now (fun g hg' => hk g (hlt g (.inr (.inr (.inl hg')))))
  have owait := ownsRow_far (w' := w4) h.wait (fun g hg' => hk g (hlt g (.inr (.inr (.inr hg')))))
  refine ⟨⟨⟨?_, ownsRow_setCell_other hnew hvB _, ownsRow_setCell_other onow n2 _, ownsRow_setCell_other owait n3 _, ?_, h.lo, h.few, hl, h.spots, h.low, h.fewer⟩, ⟨hg.os, hg.tape, hg.output, by have := hg.size; simpa using this, fun k hlt ho => by rw [hs0 0 k (fun e => ho (.inl e)), hk k hlt]⟩, ?_, ?_⟩,
    ⟨?_, ownsRow_setCell_other okept n1 _, ownsRow_setCell_other hnew hvB _, ownsRow_setCell_other owait n3 _, ?_, h.lo, by show l.length ≤ 60; rw [hl]; exact h.few, by show e.kept.length = l.length; rw [hl]; exact h.lens, fun x hx => by show x.spot < l.length; rw [hl]; exact h.spots x hx, h.low, h.fewer⟩, ⟨hg.os, hg.tape, hg.output, by have := hg.size; simpa using this, fun k hlt ho => by rw [hs0 1 k (fun e => ho (.inl e)), hk k hlt]⟩, ?_, ?_⟩
  · exact heap_set (w := w4) (hB.trans h.blk) 0 v
  · intro g h1 h2
    have := hv g h1
    have := hlt g (.inr (.inr (.inl h2)))
    omega
  · rw [World.cell?_of_block (w := w) (a := ⟨q.B, 0, none⟩) hB, cell_block h.blk]; rfl
  · rw [World.frozen?_of_block (w := w) (a := ⟨q.B, 0, none⟩) hB]; exact h.fr 0
  · exact heap_set (w := w4) (hB.trans h.blk) 1 v
  · intro g h1 h2
    have := hv g h2
    have := hlt g (.inr (.inl h1))
    omega
  · rw [World.cell?_of_block (w := w) (a := ⟨q.B, 1, none⟩) hB, cell_block h.blk]; rfl
  · rw [World.frozen?_of_block (w := w) (a := ⟨q.B, 1, none⟩) hB]; exact h.fr 1
/-- No turn waits any more. -/
theorem RAt.settle {w : World} {q : Rp} {e : Dk} (h : RAt w q e) : RAt (w.setCell ⟨q.B, 2, none⟩ (.slice none 0 0)) { q with tv := .slice none 0 0 } { e with wr := [], bit := 0 } ∧ RNear q w (w.setCell ⟨q.B, 2, none⟩ (.slice none 0 0)) := by
  obtain ⟨n1, n2, n3⟩ := h.neB
  have hk : ∀ k, k ≠ q.B → (w.setCell ⟨q.B, 2, none⟩ (.slice none 0 0)).heap[k]? = w.heap[k]? := fun k hk => Below.heap_setCell w ⟨q.B, 2, none⟩ _ k hk
  refine ⟨⟨heap_set h.blk 2 _, ownsRow_setCell_other h.kept n1 _, ownsRow_setCell_other h.now n2 _, World.ownsRow_nil _ _ _ _, h.apart, h.lo, h.few, h.lens, fun x hx => by simp at hx, h.low, Nat.zero_le _⟩, ⟨rfl, rfl, rfl, by simp, fun k _ ho => hk k (fun e => ho (.inl e))⟩⟩
/-- Its places may have moved to new memory. -/
theorem RNear.moved {q q' : Rp} {a b c : World} (h : RNear q a b) (k : RNear q' b c) (hq : ∀ i, i < a.heap.size → rOwn q' i → rOwn q i) : RNear q a c :=
  ⟨k.os.trans h.os, k.tape.trans h.tape, k.output.trans h.output, Nat.le_trans h.size k.size, fun i hi hn => (k.block i (Nat.lt_of_lt_of_le hi h.size) (fun ho => hn (hq i hi ho))).trans (h.block i hi hn)⟩

def flushE (e : Dk) : Dk := if stepN e = 0 then { stepE e with kept := e.now, wr := [], bit := 0 } else stepE e

set_option maxRecDepth 100000 in
set_option maxHeartbeats 2000000 in
theorem refFlush_any (q : Rp) (e : Dk) (w : World) (h : RAt w q e) (hne : 0 < e.now.length) :
    Calls Try.prog 34 #[.pointer (some ⟨q.B, 0, none⟩)] w fun en w' => en = .returned (.int .i64 (stepN e)) ∧ ∃ q', q'.lo = q.lo ∧ q'.B = q.B ∧ RAt w' q' (flushE e) ∧ Below q.lo w w' ∧ (∀ {p : Dp} {d : Dk}, DiskAt w p d → DiskAt w' p d) := by
  have HD : Hid (RAt w q e) := h
  clear h
  obtain ⟨s1, s2, s3, s4⟩ := stepE_same e
  have kst := refStep_any q e w HD.out
  rcases stepN_range e with h0 | h0
  · have e2 : flushE e = { stepE e with kept := e.now, wr := [], bit := 0 } := by unfold flushE; rw [if_pos h0]
    rw [e2, h0]
    rw [h0] at kst
    have KST : Hid _ := kst
    clear e2 kst h0
    go_enter Try.func34, Try.ntmps34
    go_wp2_with fail
    refine Calls.mono KST.out ?_
    rintro en w1 ⟨rfl, hr1, hn1⟩
    have HR1 : Hid (RAt w1 q (stepE e)) := hr1
    have HN1 : Hid _ := hn1
    clear hr1 hn1 KST
    obtain ⟨d0, d1, d2, d3, d4⟩ := HR1.out.cells
    obtain ⟨g, c, hg, hnews, hob⟩ := RAt.row (q := q) (e := e) (l := e.now) (by have := HR1.out.now; rw [s1] at this; exact this) hne
    obtain ⟨i0, hif, hz0, hz1, hz2⟩ := info_parts Try.infoString
    have HNW : Hid _ := hnews
    have h60 : e.now.length ≤ 60 := HD.out.few
    have HG : Hid _ := hg
    rw [hg] at d1
    have f2 := HR1.out.fr 2
    have D2 : Hid _ := d2
    clear hg hnews d0 d2 d3 d4
    go_wp2_with (at_builtin; refine wpList_append_own _ rfl _ _ 42 rfl w1.heap.size 9 i0 _ 1 16 (by kernel_rfl) hif hz0 hz1 hz2 rfl (by decide) (.slice none 0 0) 0 [] rfl (World.ownsRow_nil _ _ _ _) ⟨g, 0, none⟩ e.now.length c (e.now.map (fun s => Value.string (baL s))) rfl (by simp) HNW.out (strs_one _) (by unfold maxLen; omega) (by omega) (Nat.le_refl _) ?_; intro v' w4 hown4 hgrow4 hnil4; simp only [Nat.zero_add, List.nil_append] at hown4; obtain ⟨xa, xc, rfl⟩ := row_shape hown4; obtain ⟨hA, hB, hc1, hc2⟩ := (HR1.out.copied (l := e.now) (by rw [s1]) hgrow4 hown4).1; have HA : Hid _ := hA; have HB : Hid _ := hB; have hB4 : w4.heap[q.B]? = w1.heap[q.B]? := hgrow4.block _ (HR1.out.own_lt (.inl rfl)).2 (fun e => by cases e); have hc3 := (World.cell?_of_block (a := ⟨q.B, 2, none⟩) hB4).trans D2.out; have hc4 := (World.frozen?_of_block (a := ⟨q.B, 2, none⟩) hB4).trans f2; have HFR : Hid _ := fun g hg => (hown4.lt g hg).1; clear hA hB hown4 hgrow4 hnil4 hB4)
    go_ret
    have h3 := HA.out.settle
    have hmv : ∀ i, i < w1.heap.size → rOwn { q with kv := .slice xa e.now.length xc } i → rOwn q i := fun i hi ho => by
      rcases ho with ho | ho | ho | ho
      · exact .inl ho
      · have := HFR.out i ho; omega
      · exact .inr (.inr (.inl ho))
      · exact .inr (.inr (.inr ho))
    have hn3 : RNear q w _ := HN1.out.trans (HB.out.moved h3.2 hmv)
    refine ⟨rfl, { lo := q.lo, B := q.B, kv := .slice xa e.now.length xc, nv := q.nv, tv := .slice none 0 0 }, rfl, rfl, ?_, hn3.low HD.out, fun hd => hd.over HD.out hn3⟩
    exact h3.1
  · have e2 : flushE e = stepE e := by unfold flushE; rw [if_neg (by rw [h0]; decide)]
    rw [e2, h0]
    rw [h0] at kst
    have KST : Hid _ := kst
    clear e2 kst h0
    go_enter Try.func34, Try.ntmps34
    go_wp2_with fail
    refine Calls.mono KST.out ?_
    rintro en w1 ⟨rfl, hr1, hn1⟩
    have HR1 : Hid (RAt w1 q (stepE e)) := hr1
    have HN1 : Hid _ := hn1
    clear hr1 hn1 KST
    go_wp2
    go_ret
    exact ⟨rfl, q, rfl, rfl, HR1.out, HN1.out.low HD.out, fun hd => hd.over HD.out HN1.out⟩
end Go.Proofs.Ytihnghnafpgdfab
