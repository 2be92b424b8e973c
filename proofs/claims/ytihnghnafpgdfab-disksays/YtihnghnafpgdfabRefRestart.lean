/-
  THE DOCUMENT's DISK: Restart.
-/
import Derived.Test.YtihnghnafpgdfabRefFlush
import Derived.RegionTactic
import Derived.BigRegion
namespace Go.Proofs.Ytihnghnafpgdfab
open Go.RowKit
set_option linter.unusedVariables false
set_option linter.unusedSimpArgs false

theorem RAt.setKept {w : World} {q : Rp} {e : Dk} (h : RAt w q e) {g c : Nat} (hv : q.kv = .slice (some ⟨g, 0, none⟩) e.kept.length c) {i : Nat} (hi : i < e.kept.length) (s : List UInt8) :
    RAt (w.setCell ⟨g, i, none⟩ (.string (baL s))) q { e with kept := e.kept.set i s } ∧ RNear q w (w.setCell ⟨g, i, none⟩ (.string (baL s))) := by
  obtain ⟨n1, n2, n3⟩ := h.neB
  have hg : q.kv.ownBlock = some g := by rw [hv]; rfl
  have hk : ∀ k, k ≠ g → (w.setCell ⟨g, i, none⟩ (.string (baL s))).heap[k]? = w.heap[k]? := fun k hk => Below.heap_setCell w ⟨g, i, none⟩ _ k hk
  refine ⟨⟨?_, ?_, ?_, ?_, h.apart, h.lo, h.few, by simpa using h.lens, h.spots, h.low, h.fewer⟩, ⟨rfl, rfl, rfl, by simp, fun k _ ho => hk k (fun e => ho (.inr (.inl (by rw [hg, e]))))⟩⟩
  · rw [hk _ (fun e => n1 (by rw [hg, e]))]; exact h.blk
  · have h0 := h.kept
    rw [hv] at h0
    have h1 := OwnsS.set (g := g) (c := c) (l := e.kept.map baL) (by simpa using h0) (i := i) (by simpa using hi) (baL s)
    rw [← List.map_set] at h1
    rw [hv]
    simpa using h1
  · exact ownsRow_setCell_other h.now (fun e => h.apart g hg e) _
  · exact ownsRow_setCell_other h.wait (fun e => (h.neT e).1 hg) _
theorem RAt.keptAt {w : World} {q : Rp} {e : Dk} (h : RAt w q e) {i : Nat} (hi : i < e.kept.length) : ∃ g c s, q.kv = .slice (some ⟨g, 0, none⟩) e.kept.length c ∧ w.cell? ⟨g, i, none⟩ = some (.string s) ∧ w.frozen? ⟨g, i, none⟩ = false := by
  obtain ⟨hlen, h2⟩ := h.kept
  rcases h2 with ⟨_, h0⟩ | ⟨g, cap, cur, e0, hb, hh, hn, hm, hs, ht⟩
  · rw [List.length_map] at h0; omega
  · refine ⟨g, cap, baL e.kept[i], by rw [e0]; simp, ?_, frozen_block hh i⟩
    rw [cell_block hh]
    have h3 : (cur.toList.take (((e.kept.map baL).length) * 1))[i]? = some (.string (baL e.kept[i])) := by rw [ht]; simp [hi]
    rw [List.getElem?_take, if_pos (by simp; omega)] at h3
    simpa using h3
theorem RAt.turnAt {w : World} {q : Rp} {e : Dk} (h : RAt w q e) {i : Nat} (hi : i < e.wr.length) : ∃ g c, q.tv = .slice (some ⟨g, 0, none⟩) e.wr.length c ∧ w.cell? ⟨g, i * 2, none⟩ = some (.int .i64 e.wr[i].spot) ∧ w.cell? ⟨g, i * 2 + 1, none⟩ = some (.string (baL e.wr[i].data)) := by
  obtain ⟨hlen, h2⟩ := h.wait
  rcases h2 with ⟨_, h0⟩ | ⟨g, cap, cur, e0, hb, hh, hn, hm, hs, ht⟩
  · omega
  · obtain ⟨f0, f1⟩ := flatT_at e.wr i hi
    refine ⟨g, cap, e0, ?_, ?_⟩
    · rw [cell_block hh]
      rw [← ht, List.getElem?_take, if_pos (by omega)] at f0
      simpa using f0
    · rw [cell_block hh]
      rw [← ht, List.getElem?_take, if_pos (by omega)] at f1
      simpa using f1

set_option maxRecDepth 100000 in
set_option maxHeartbeats 4000000 in
theorem refRestart_any (q : Rp) (e : Dk) (keep : Nat) (w : World) (h : RAt w q e) (hk : keep < 18446744073709551616) (hne : 0 < e.now.length) (hbits : ∀ i (h : i < e.wr.length), e.wr[i].bit = i % 64) :
    Calls Try.prog 37 #[.pointer (some ⟨q.B, 0, none⟩), .int .u64 keep] w fun en w' => en = .returned (.tuple #[]) ∧ ∃ q', q'.lo = q.lo ∧ q'.B = q.B ∧ RAt w' q' (restartD e keep) ∧ Below q.lo w w' ∧ (∀ {p : Dp} {d : Dk}, DiskAt w p d → DiskAt w' p d) := by
  have HD : Hid (RAt w q e) := h
  have HBT : Hid (∀ i (h : i < e.wr.length), e.wr[i].bit = i % 64) := hbits
  have hfew := h.fewer
  have h60 := h.few
  have hlens := h.lens
  clear h hbits
  go_enter Try.func37, Try.ntmps37
  go_wp2_with fail
  go_loopg [4] (e.wr.length + 1) (fun kx vi wr => ∃ (k : Nat) (K : List (List UInt8)), vi = .int .i64 k ∧ k ≤ e.wr.length ∧ e.wr.length - k ≤ kx ∧ Hid (RAt wr q { e with kept := K }) ∧ Hid (RNear q w wr) ∧ Hid (keptBy keep (e.wr.drop k) K = keptBy keep e.wr e.kept))
  case atStart => exact ⟨0, e.kept, rfl, by omega, by omega, HD, RNear.refl _ _, rfl⟩
  case round =>
    obtain ⟨k, K, rfl, hkl, hkx, HR, HN, HE⟩ := hrel
    obtain ⟨c0, c1, c2, c3, c4⟩ := HR.out.cells
    have hKl : K.length = e.now.length := HR.out.lens
    by_cases hlt : k < e.wr.length
    · have hltz : (k : Int) < (e.wr.length : Int) := by omega
      obtain ⟨gt, ct, ht, t0, t1⟩ := HR.out.turnAt (i := k) hlt
      have hsp : e.wr[k].spot < K.length := by rw [hKl]; exact HR.out.spots _ (List.getElem_mem hlt)
      obtain ⟨gk, ck, s0, hg, hcell, hfr⟩ := HR.out.keptAt (i := e.wr[k].spot) hsp
      have HSK : Hid _ := HR.out.setKept (g := gk) (c := ck) hg hsp e.wr[k].data
      have HST : Hid _ := keptBy_step (keep := keep) hlt K
      have HBK : Hid _ := HBT.out k hlt
      simp only at ht hg t0 t1
      rw [ht] at c2
      rw [hg] at c0
      have hspz : (e.wr[k].spot : Int) < (K.length : Int) := by omega
      obtain ⟨b, hmod, hbk⟩ : ∃ b : Nat, (k : Int) % 64 = (b : Int) ∧ b = k % 64 := ⟨k % 64, by omega, rfl⟩
      have hb64 : (b : Int) < 64 := by omega
      have hb64n : b < 64 := by omega
      have HBB : Hid (e.wr[k].bit = b) := by show _ = _; rw [hbk]; exact HBK.out
      have hbv := bit_val (keep := keep) (b := b) hk
      clear ht hg c1 c3 c4 hbk
      rcases Bool.eq_false_or_eq_true (bitSet keep b) with hbs | hbs
      · rw [hbs] at hbv
        have HST2 : Hid (keptBy keep (e.wr.drop (k + 1)) (K.set e.wr[k].spot e.wr[k].data) = keptBy keep e.wr e.kept) := by
          show _ = _
          rw [← HE.out, HST.out, HBB.out, hbs, if_pos rfl]
        clear hbs HST HE HBK
        go_wp2_with fail
        go_region
        all_goals
          go_wp2
          go_roundg (e.wr.length - (k + 1))
          case measure => omega
          case rel =>
            have h3 := HSK.out
            refine ⟨k + 1, K.set e.wr[k].spot e.wr[k].data, by go_num, by omega, Nat.le_refl _, ?_, ?_, HST2⟩
            · exact h3.1.far (fun k _ => rfl)
            · exact HN.out.trans (h3.2.trans ⟨rfl, rfl, rfl, Nat.le_refl _, fun k _ _ => rfl⟩)
      · rw [hbs] at hbv
        have HST2 : Hid (keptBy keep (e.wr.drop (k + 1)) K = keptBy keep e.wr e.kept) := by
          show _ = _
          rw [← HE.out, HST.out, HBB.out, hbs, if_neg (by decide)]
        clear hbs HST HE HBK
        go_wp2
        go_roundg (e.wr.length - (k + 1))
        case measure => omega
        case rel => exact ⟨k + 1, K, by go_num, by omega, Nat.le_refl _, HR, HN, HST2⟩
    · have e0 : k = e.wr.length := by omega
      have HK : Hid (K = keptBy keep e.wr e.kept) := by
        have h3 := HE.out
        rw [e0, List.drop_length] at h3
        exact h3
      obtain ⟨g, c, hg, hnews, hob⟩ := RAt.row (q := q) (e := e) (l := K) HR.out.kept (by omega)
      obtain ⟨i0, hif, hz0, hz1, hz2⟩ := info_parts Try.infoString
      have HNW : Hid _ := hnews
      rw [hg] at c0
      obtain ⟨ta, tc, htv⟩ := row_shape HR.out.wait
      have C2 := c2
      have C3 := c3
      have C4 := c4
      rw [htv] at c2
      simp only at c2
      have f1 := HR.out.fr 1
      have f2 := HR.out.fr 2
      have f3 := HR.out.fr 3
      have f4 := HR.out.fr 4
      have D2 : Hid _ := C2
      have D3 : Hid _ := C3
      have D4 : Hid _ := C4
      have HKL : Hid (K.length = e.now.length) := hKl
      have hK60 : K.length ≤ 60 := by omega
      clear hg hnews c1 c3 c4 C2 C3 C4 HE htv hKl
      go_wp2_with (at_builtin; refine wpList_append_own _ rfl _ _ 42 rfl wr.heap.size 9 i0 _ 1 16 (by kernel_rfl) hif hz0 hz1 hz2 rfl (by decide) (.slice none 0 0) 0 [] rfl (World.ownsRow_nil _ _ _ _) ⟨g, 0, none⟩ K.length c (K.map (fun s => Value.string (baL s))) rfl (by simp) HNW.out (strs_one _) (by unfold maxLen; omega) (by omega) (Nat.le_refl _) ?_; intro v' w4 hown4 hgrow4 hnil4; simp only [Nat.zero_add, List.nil_append] at hown4; obtain ⟨xa, xc, rfl⟩ := row_shape hown4; obtain ⟨hA, hB, hc1, hc2⟩ := (HR.out.copied (l := K) HKL.out hgrow4 hown4).2; have HA : Hid _ := hA; have HB : Hid _ := hB; have hB4 : w4.heap[q.B]? = wr.heap[q.B]? := hgrow4.block _ (HR.out.own_lt (.inl rfl)).2 (fun e => by cases e); have hd2 := (World.cell?_of_block (a := ⟨q.B, 2, none⟩) hB4).trans D2.out; have hd3 := (World.cell?_of_block (a := ⟨q.B, 3, none⟩) hB4).trans D3.out; have hd4 := (World.cell?_of_block (a := ⟨q.B, 4, none⟩) hB4).trans D4.out; have hf2 := (World.frozen?_of_block (a := ⟨q.B, 2, none⟩) hB4).trans f2; have hf3 := (World.frozen?_of_block (a := ⟨q.B, 3, none⟩) hB4).trans f3; have hf4 := (World.frozen?_of_block (a := ⟨q.B, 4, none⟩) hB4).trans f4; have HFR : Hid _ := fun g hg => (hown4.lt g hg).1; clear hA hB hown4 hgrow4 hnil4 hB4)
      have h3 := HA.out.settle
      have h4 := h3.1.put (i := 4) (v := .bool false) (e' := { e with kept := K, now := K, wr := [], bit := 0, down := false }) ⟨rfl, rfl, rfl⟩ rfl HR.out.low
      have h5 := h4.1.put (i := 3) (v := .int .i64 (-1)) (e' := { e with kept := K, now := K, wr := [], bit := 0, down := false, left := -1 }) ⟨rfl, rfl, rfl⟩ rfl (by simp)
      have hmv : ∀ i, i < wr.heap.size → rOwn { q with nv := .slice xa K.length xc, tv := .slice none 0 0 } i → rOwn q i := fun i hi ho => by
        rcases ho with ho | ho | ho | ho
        · exact .inl ho
        · exact .inr (.inl ho)
        · have := HFR.out i ho; omega
        · cases ho
      have hmv2 : ∀ i, i < wr.heap.size → rOwn { q with nv := .slice xa K.length xc } i → rOwn q i := fun i hi ho => by
        rcases ho with ho | ho | ho | ho
        · exact .inl ho
        · exact .inr (.inl ho)
        · have := HFR.out i ho; omega
        · exact .inr (.inr (.inr ho))
      have hn5 : RNear q w _ := HN.out.trans (((HB.out.moved h3.2 hmv2).moved h4.2 hmv).moved h5.2 hmv)
      refine bodyPost_end (results_none rfl _ _ _) rfl ?_
      refine ⟨rfl, { lo := q.lo, B := q.B, kv := q.kv, nv := .slice xa K.length xc, tv := .slice none 0 0 }, rfl, rfl, ?_, hn5.low HD.out, fun hd => hd.over HD.out hn5⟩
      rw [restartD, ← HK.out]
      exact h5.1
end Go.Proofs.Ytihnghnafpgdfab
