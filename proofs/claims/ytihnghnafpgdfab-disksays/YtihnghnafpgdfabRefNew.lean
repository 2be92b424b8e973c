/-
  THE DOCUMENT's DISK IS MADE: NewDisk.
-/
import Derived.Test.YtihnghnafpgdfabRefFlush
import Derived.Test.YtihnghnafpgdfabAppendNew
import Derived.Test.YtihnghnafpgdfabDiskNew
import Derived.Deep.RegionLaw
import Derived.Deep.DeepCutAuto
namespace Go.Proofs.Ytihnghnafpgdfab
open Go.RowKit
set_option linter.unusedVariables false
set_option linter.unusedSimpArgs false

structure RNew (w : World) (lo B : Nat) (kv nv : Value) (a b : Nat) : Prop where
  blk : w.heap[B]? = some (.cells #[kv, nv, .slice none 0 0, .int .i64 (-1), .bool false] 69 (0, 0))
  kept : OwnsS w lo kv ((noughts a).map baL)
  now : OwnsS w lo nv ((noughts b).map baL)
  apart : ∀ g, kv.ownBlock = some g → nv.ownBlock ≠ some g
  lo : lo ≤ B
theorem RNew.neB {w : World} {lo B a b : Nat} {kv nv : Value} (h : RNew w lo B kv nv a b) : kv.ownBlock ≠ some B ∧ nv.ownBlock ≠ some B := by
  refine ⟨fun he => ?_, fun he => ?_⟩
  · obtain ⟨c, f, e⟩ := Lib.ownsRow_kind h.kept _ he; rw [h.blk] at e; simp at e
  · obtain ⟨c, f, e⟩ := Lib.ownsRow_kind h.now _ he; rw [h.blk] at e; simp at e
theorem RNew.below {w w' : World} {lo B a b : Nat} {kv nv : Value} (h : RNew w lo B kv nv a b) (hb : Below w.heap.size w w') : RNew w' lo B kv nv a b :=
  ⟨by rw [hb.block B (Array.getElem?_eq_some_iff.1 h.blk).1]; exact h.blk, ownsRow_far h.kept (fun g hg => hb.block g (h.kept.lt g hg).2), ownsRow_far h.now (fun g hg => hb.block g (h.now.lt g hg).2), h.apart, h.lo⟩
theorem noughts_snoc (n : Nat) : noughts (n + 1) = noughts n ++ [List.replicate 40 0] := List.replicate_succ'
theorem RNew.more0 {w w3 : World} {lo B a b : Nat} {kv nv v : Value} (h : RNew w lo B kv nv a b) (hg : w.grownBy w3 kv.ownBlock)
    (hown : w3.ownsRow lo 9 1 v (a + 1) (((noughts a).map baL).map Value.string ++ [.string (baL (List.replicate 40 0))])) (hnew : ∀ g, v.ownBlock = some g → kv.ownBlock = some g ∨ w.heap.size ≤ g) :
    RNew (w3.setCell ⟨B, 0, none⟩ v) lo B v nv (a + 1) b ∧ w3.cell? ⟨B, 0, none⟩ = some kv ∧ w3.frozen? ⟨B, 0, none⟩ = false := by
  obtain ⟨n1, n2⟩ := h.neB
  have hlt := (Array.getElem?_eq_some_iff.1 h.blk).1
  have hk : ∀ k, k < w.heap.size → kv.ownBlock ≠ some k → w3.heap[k]? = w.heap[k]? := fun k hk hne => hg.block k hk (fun e => hne e.symm)
  have hB := hk B hlt n1
  have hvB : v.ownBlock ≠ some B := fun he => by
    rcases hnew B he with h1 | h1
    · exact n1 h1
    · omega
  refine ⟨⟨heap_set (w := w3) (hB.trans h.blk) 0 v, ?_, ownsRow_setCell_other (ownsRow_far h.now (fun g hg' => hk g (h.now.lt g hg').2 (fun e => h.apart g e hg'))) n2 _, ?_, h.lo⟩, ?_, ?_⟩
  · show World.ownsRow _ _ _ _ _ _ _
    rw [noughts_snoc, List.map_append, List.map_append, List.length_append]
    have e : ((noughts a).map baL).length = a := by simp [noughts]
    rw [e]
    exact ownsRow_setCell_other hown hvB _
  · intro g h1 h2
    rcases hnew g h1 with h3 | h3
    · exact h.apart g h3 h2
    · have := (h.now.lt g h2).2; omega
  · rw [World.cell?_of_block (w := w) (a := ⟨B, 0, none⟩) hB, cell_block h.blk]; rfl
  · rw [World.frozen?_of_block (w := w) (a := ⟨B, 0, none⟩) hB]; exact frozen_block h.blk 0
theorem RNew.more1 {w w3 : World} {lo B a b : Nat} {kv nv v : Value} (h : RNew w lo B kv nv a b) (hg : w.grownBy w3 nv.ownBlock)
    (hown : w3.ownsRow lo 9 1 v (b + 1) (((noughts b).map baL).map Value.string ++ [.string (baL (List.replicate 40 0))])) (hnew : ∀ g, v.ownBlock = some g → nv.ownBlock = some g ∨ w.heap.size ≤ g) :
    RNew (w3.setCell ⟨B, 1, none⟩ v) lo B kv v a (b + 1) ∧ w3.cell? ⟨B, 1, none⟩ = some nv ∧ w3.frozen? ⟨B, 1, none⟩ = false := by
  obtain ⟨n1, n2⟩ := h.neB
  have hlt := (Array.getElem?_eq_some_iff.1 h.blk).1
  have hk : ∀ k, k < w.heap.size → nv.ownBlock ≠ some k → w3.heap[k]? = w.heap[k]? := fun k hk hne => hg.block k hk (fun e => hne e.symm)
  have hB := hk B hlt n2
  have hvB : v.ownBlock ≠ some B := fun he => by
    rcases hnew B he with h1 | h1
    · exact n2 h1
    · omega
  refine ⟨⟨heap_set (w := w3) (hB.trans h.blk) 1 v, ownsRow_setCell_other (ownsRow_far h.kept (fun g hg' => hk g (h.kept.lt g hg').2 (fun e => h.apart g hg' e))) n1 _, ?_, ?_, h.lo⟩, ?_, ?_⟩
  · show World.ownsRow _ _ _ _ _ _ _
    rw [noughts_snoc, List.map_append, List.map_append, List.length_append]
    have e : ((noughts b).map baL).length = b := by simp [noughts]
    rw [e]
    exact ownsRow_setCell_other hown hvB _
  · intro g h1 h2
    rcases hnew g h2 with h3 | h3
    · exact h.apart g h1 h3
    · have := (h.kept.lt g h1).2; omega
  · rw [World.cell?_of_block (w := w) (a := ⟨B, 1, none⟩) hB, cell_block h.blk]; rfl
  · rw [World.frozen?_of_block (w := w) (a := ⟨B, 1, none⟩) hB]; exact frozen_block h.blk 1

set_option maxRecDepth 100000 in
set_option maxHeartbeats 4000000 in
theorem refNew_any (n : Nat) (w : World) (h1 : 1 ≤ n) (h60 : n ≤ 60) :
    Calls Try.prog 26 #[.int .i64 n] w fun en w' => ∃ q, en = .returned (.tuple #[.pointer (some ⟨q.B, 0, none⟩), .int .i64 0]) ∧ q.lo = w.heap.size ∧ RAt w' q (newD n) ∧ Below w.heap.size w w' := by
  obtain ⟨i0, hif, hz0, hz1, hz2⟩ := info_parts Try.infoString
  obtain ⟨zs, hzs⟩ : ∃ z, z = baL (List.replicate 40 0) := ⟨_, rfl⟩
  have HZ : Hid (zs = baL (List.replicate 40 0)) := hzs
  have KN : Hid (∀ W, Calls Try.prog 77 #[.int .i64 40] W fun e w' => e = .returned (.string zs) ∧ Below W.heap.size W w') := fun W => by rw [hzs]; exact noughts_any 40 W (by omega)
  clear hzs
  have hn1 : ¬ ((n : Int) < 1) := by omega
  have hn60 : ¬ ((60 : Int) < (n : Int)) := by omega
  go_enter Try.func26, Try.ntmps26
  go_wp2_with fail
  go_loopg [5] (n + 1) (fun kx vi wr => ∃ (k : Nat) (kv nv : Value), vi = .int .i64 k ∧ k ≤ n ∧ n - k ≤ kx ∧ Hid (RNew wr w.heap.size w.heap.size kv nv k k) ∧ Hid (Below w.heap.size w wr))
  case atStart =>
    refine ⟨0, .slice none 0 0, .slice none 0 0, rfl, by omega, by omega, ⟨?_, World.ownsRow_nil _ _ _ _, World.ownsRow_nil _ _ _ _, fun g h => (by cases h), Nat.le_refl _⟩, (Below.refl _ _).alloc (Nat.le_refl _) _⟩
    exact heap_alloc_new w _
  case round =>
    obtain ⟨k, kv, nv, rfl, hk, hkx, HR, HB⟩ := hrel
    by_cases hlt : k < n
    · have hltz : (k : Int) < (n : Int) := by omega
      have hnk : ((noughts k).map baL).length = k := by simp [noughts]
      obtain ⟨va, vc, hv⟩ := row_shape HR.out.kept
      rw [hnk] at hv
      have HRW : Hid (∀ W, Below wr.heap.size wr W → RNew W w.heap.size w.heap.size (.slice va k vc) nv k k) := fun W h => by rw [← hv]; exact HR.out.below h
      have KC : Hid (∀ W, Below wr.heap.size wr W → W.cell? ⟨w.heap.size, 0, none⟩ = some (.slice va k vc)) := fun W h => by rw [cell_block (HRW.out W h).blk]; rfl
      have hc0 := KC.out wr (Below.refl _ _)
      have hlo : w.heap.size ≤ wr.heap.size := HB.out.size
      have HOWN : Hid (∀ W, Below wr.heap.size wr W → W.ownsRow w.heap.size 9 1 (.slice va k vc) k (((noughts k).map baL).map Value.string)) := fun W h => by have h9 : World.ownsRow _ _ _ _ _ _ _ := (HRW.out W h).kept; rw [hnk] at h9; exact h9
      have h63 : k + 1 ≤ maxLen := by unfold maxLen; omega
      have hby : (k + 1) * 16 ≤ 140737488355328 := by omega
      have HM0 : Hid (∀ W w3 v, Below wr.heap.size wr W → W.grownBy w3 (Value.slice va k vc).ownBlock → w3.ownsRow w.heap.size 9 1 v (k + 1) (((noughts k).map baL).map Value.string ++ [.string zs]) → (∀ g, v.ownBlock = some g → (Value.slice va k vc).ownBlock = some g ∨ W.heap.size ≤ g) →
          (RNew (w3.setCell ⟨w.heap.size, 0, none⟩ v) w.heap.size w.heap.size v nv (k + 1) k ∧ w3.cell? ⟨w.heap.size, 0, none⟩ = some (.slice va k vc) ∧ w3.frozen? ⟨w.heap.size, 0, none⟩ = false) ∧ Below w.heap.size w (w3.setCell ⟨w.heap.size, 0, none⟩ v)) := fun W w3 v hW hg ho hn =>
        ⟨(HRW.out W hW).more0 hg (by rw [← HZ.out]; exact ho) hn, ((HB.out.trans (hW.mono hlo)).grown hg (Nat.le_trans hlo hW.size) (fun g hg' => ((HRW.out W hW).kept.lt g hg').1)).setCell (Nat.le_refl _) _⟩
      clear hv
      go_wp2_with fail
      go_cut [26] (fun v wx => ∃ kv', v = v ∧ Hid (RNew wx w.heap.size w.heap.size kv' nv (k + 1) k) ∧ Hid (Below w.heap.size w wx))
      case first =>
        go_region_law
          (first
            | (rw [if_pos (by rfl)]
               refine wp_append_new _ _ 42 rfl w.heap.size 9 i0 _ 1 16 Try.underlying42 hif hz0 hz1 hz2 rfl Nat.one_pos (.slice va k vc) k (((noughts k).map baL).map Value.string) rfl (HOWN.out _ (hbX.out _)) ⟨wa.heap.size, 0, none⟩ 1 1 [.string zs] rfl rfl (cell_one_new _ _ _) (one_one _) h63 hby (hloa.out _) ?_
               intro v' w4 hown4 hgrow4 hnew4
               obtain ⟨xa, xc, rfl⟩ := row_shape hown4
               obtain ⟨⟨hA, hc1, hc2⟩, hB4⟩ := HM0.out _ _ _ (hbX.out _) hgrow4 hown4 hnew4
               have HA : Hid _ := hA
               have HB4 : Hid _ := hB4
               clear hA hB4 hown4 hgrow4 hnew4)
            | (go_simp
               go_at_call 77
               refine Calls.mono (KN.out _) ?_
               rintro e wa ⟨rfl, hb⟩
               have hbW : Hid (Below wr.heap.size wr wa) := ⟨hb.os, hb.tape, hb.output, hb.size, hb.block⟩
               have hca := KC.out wa hbW.out
               have hbX : Hid (∀ o, Below wr.heap.size wr (wa.alloc o)) := fun o => hbW.out.alloc hbW.out.size _
               have hloa : Hid (∀ o, w.heap.size ≤ (wa.alloc o).heap.size) := fun o => Nat.le_trans hlo (hbX.out o).size
               have hcx : ∀ o, (wa.alloc o).cell? ⟨w.heap.size, 0, none⟩ = some (.slice va k vc) := fun o => KC.out _ (hbX.out o)
               clear hb))
        all_goals (try go_wp2_with fail)
        all_goals go_meet
        all_goals exact ⟨_, trivial, HA, HB4⟩
      case rest =>
        obtain ⟨kv', HR1, HB1⟩ : ∃ kv', Hid (RNew wc w.heap.size w.heap.size kv' nv (k + 1) k) ∧ Hid (Below w.heap.size w wc) := by
          obtain ⟨kv', h⟩ := hcut
          first | exact ⟨kv', h.2.1, h.2.2⟩ | exact ⟨kv', h.1, h.2⟩
        clear hcut HR HB HRW KC hc0 HOWN HM0 hlo
        obtain ⟨va, vc, hv⟩ := row_shape HR1.out.now
        rw [hnk] at hv
        have HRW : Hid (∀ W, Below wc.heap.size wc W → RNew W w.heap.size w.heap.size kv' (.slice va k vc) (k + 1) k) := fun W h => by rw [← hv]; exact HR1.out.below h
        have KC : Hid (∀ W, Below wc.heap.size wc W → W.cell? ⟨w.heap.size, 1, none⟩ = some (.slice va k vc)) := fun W h => by rw [cell_block (HRW.out W h).blk]; rfl
        have hc0 := KC.out wc (Below.refl _ _)
        have hlo : w.heap.size ≤ wc.heap.size := HB1.out.size
        have HOWN : Hid (∀ W, Below wc.heap.size wc W → W.ownsRow w.heap.size 9 1 (.slice va k vc) k (((noughts k).map baL).map Value.string)) := fun W h => by have h9 : World.ownsRow _ _ _ _ _ _ _ := (HRW.out W h).now; rw [hnk] at h9; exact h9
        have h63 : k + 1 ≤ maxLen := by unfold maxLen; omega
        have hby : (k + 1) * 16 ≤ 140737488355328 := by omega
        have HM0 : Hid (∀ W w3 v, Below wc.heap.size wc W → W.grownBy w3 (Value.slice va k vc).ownBlock → w3.ownsRow w.heap.size 9 1 v (k + 1) (((noughts k).map baL).map Value.string ++ [.string zs]) → (∀ g, v.ownBlock = some g → (Value.slice va k vc).ownBlock = some g ∨ W.heap.size ≤ g) →
            (RNew (w3.setCell ⟨w.heap.size, 1, none⟩ v) w.heap.size w.heap.size kv' v (k + 1) (k + 1) ∧ w3.cell? ⟨w.heap.size, 1, none⟩ = some (.slice va k vc) ∧ w3.frozen? ⟨w.heap.size, 1, none⟩ = false) ∧ Below w.heap.size w (w3.setCell ⟨w.heap.size, 1, none⟩ v)) := fun W w3 v hW hg ho hn =>
          ⟨(HRW.out W hW).more1 hg (by rw [← HZ.out]; exact ho) hn, ((HB1.out.trans (hW.mono hlo)).grown hg (Nat.le_trans hlo hW.size) (fun g hg' => ((HRW.out W hW).now.lt g hg').1)).setCell (Nat.le_refl _) _⟩
        clear hv
        go_wp2_with fail
        go_region_law
          (first
            | (rw [if_pos (by rfl)]
               refine wp_append_new _ _ 42 rfl w.heap.size 9 i0 _ 1 16 Try.underlying42 hif hz0 hz1 hz2 rfl Nat.one_pos (.slice va k vc) k (((noughts k).map baL).map Value.string) rfl (HOWN.out _ (hbX.out _)) ⟨wa.heap.size, 0, none⟩ 1 1 [.string zs] rfl rfl (cell_one_new _ _ _) (one_one _) h63 hby (hloa.out _) ?_
               intro v' w4 hown4 hgrow4 hnew4
               obtain ⟨xa, xc, rfl⟩ := row_shape hown4
               obtain ⟨⟨hA, hc1, hc2⟩, hB4⟩ := HM0.out _ _ _ (hbX.out _) hgrow4 hown4 hnew4
               have HA : Hid _ := hA
               have HB4 : Hid _ := hB4
               clear hA hB4 hown4 hgrow4 hnew4)
            | (go_simp
               go_at_call 77
               refine Calls.mono (KN.out _) ?_
               rintro e wa ⟨rfl, hb⟩
               have hbW : Hid (Below wc.heap.size wc wa) := ⟨hb.os, hb.tape, hb.output, hb.size, hb.block⟩
               have hca := KC.out wa hbW.out
               have hbX : Hid (∀ o, Below wc.heap.size wc (wa.alloc o)) := fun o => hbW.out.alloc hbW.out.size _
               have hloa : Hid (∀ o, w.heap.size ≤ (wa.alloc o).heap.size) := fun o => Nat.le_trans hlo (hbX.out o).size
               have hcx : ∀ o, (wa.alloc o).cell? ⟨w.heap.size, 1, none⟩ = some (.slice va k vc) := fun o => KC.out _ (hbX.out o)
               clear hb))
        all_goals
          go_wp2
          go_roundg (n - (k + 1))
          case measure => omega
          case rel => exact ⟨k + 1, kv', _, by go_num, by omega, Nat.le_refl _, HA, HB4⟩
    · have e : k = n := by omega
      subst e
      go_wp2
      go_ret2
      refine ⟨⟨w.heap.size, w.heap.size, kv, nv, .slice none 0 0⟩, rfl, rfl, ⟨HR.out.blk, HR.out.kept, HR.out.now, World.ownsRow_nil _ _ _ _, HR.out.apart, Nat.le_refl _, by simp [newD, noughts]; exact h60, rfl, fun x hx => by simp [newD] at hx, by simp [newD], by simp [newD]⟩, HB.out⟩
end Go.Proofs.Ytihnghnafpgdfab
