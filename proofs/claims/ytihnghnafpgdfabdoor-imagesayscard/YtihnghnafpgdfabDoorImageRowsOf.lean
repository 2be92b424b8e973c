/-
  THE DOCUMENT's ROWS OF A QUILT: RowsOf.
-/
import Derived.Test.YtihnghnafpgdfabDoorImageKit
namespace Go.Proofs.YtihnghnafpgdfabDoor
open Go Go.RowKit Go.BigFrame
set_option linter.unusedVariables false
set_option linter.unusedSimpArgs false

set_option maxRecDepth 100000 in
set_option maxHeartbeats 2000000 in
theorem rowsOf_any (a : Option Addr) (cap : Nat) (l : List Fi) (t : Int) (w : World) (hg : GoodQ l t) (hc : Cells w a l) :
    Calls Tryd.prog 12 #[.agg #[.slice a l.length cap, .int .i64 t]] w fun e w' => ∃ v, e = .returned v ∧ OwnsC w' w.heap.size v (rowsL l t) ∧ Below w.heap.size w w' := by
  obtain ⟨i0, hi, hz0, hz1, hz2⟩ := info_parts Tryd.infoChange
  have HC : Hid (Cells w a l) := hc
  have HG : Hid (GoodQ l t) := hg
  have hl8 : l.length ≤ 8 := hg.files.few
  clear hc hg
  go_enter Tryd.func12, Tryd.ntmps12
  go_wp2_with fail
  obtain ⟨W1, hW⟩ : ∃ x, x = w.alloc (.cells #[.slice a l.length cap, .int .i64 t] 24) := ⟨_, rfl⟩
  have HB1 : Hid (Below w.heap.size w W1) := by rw [hW]; exact (Below.refl _ _).alloc (Nat.le_refl _) _
  have HQ1 : Hid (QBox W1 w.heap.size (.slice a l.length cap) t) := by rw [hW]; exact QBox.new w _ t _
  rw [← hW]
  clear hW
  go_loopg [3, 4] (l.length + 1) (fun kx vl vi wr => ∃ k : Nat, vi = .int .i64 k ∧ k ≤ l.length ∧ l.length - k ≤ kx ∧ Hid (OwnsC wr W1.heap.size vl ((l.take k).map frow)) ∧ Hid (Below W1.heap.size W1 wr))
  case atStart => exact ⟨0, rfl, by omega, by omega, World.ownsRow_nil _ _ _ _, Below.refl _ _⟩
  case round =>
    obtain ⟨k, rfl, hk, hkx, HN0, HW0⟩ := hrel
    obtain ⟨q0, q1, _, _, _, _⟩ := HQ1.out.below HW0.out HQ1.out.lt
    by_cases hlt : k < l.length
    · obtain ⟨b, off, rfl, c0, c1, c2⟩ := (HC.out.below HB1.out).below HW0.out k hlt
      obtain ⟨n, hn, _, hn9⟩ := HG.out.times (List.getElem_mem hlt)
      obtain ⟨hnm, hnt, _, _⟩ := fault_zero (HG.out.files.each _ (List.getElem_mem hlt))
      have hzn := name_size hnm
      have KN : Hid (∀ W, Calls Tryd.prog 30 #[.int .i64 l[k].k] W fun e w' => e = .returned (.string ⟨(toldL l[k].k).toArray⟩) ∧ Below W.heap.size W w') := fun W => noughted_any l[k].k W (by omega) (by omega)
      have hT4 : (toldL l[k].k).length = 4 := by rw [hn, toldL_t4 (by omega)]; rfl
      have hs1 : (⟨(toldL l[k].k).toArray⟩ : ByteArray).size = 4 := by simpa [ByteArray.size] using hT4
      have hsum1 : ¬ 9223372036854775807 < 1 + l[k].n.size := by omega
      have hsum2 : ¬ 9223372036854775807 < 4 + l[k].t.size := by omega
      have hkf : (⟨#[102]⟩ : ByteArray).size = 1 := rfl
      have HF : Hid (frow l[k] = ⟨(⟨#[102]⟩ : ByteArray) ++ l[k].n, (⟨(toldL l[k].k).toArray⟩ : ByteArray) ++ l[k].t, false⟩) := rfl
      have HX : Hid ((l.take (k + 1)).map frow = (l.take k).map frow ++ [frow l[k]]) := by
        show _ = _
        rw [takeSucc l k hlt, List.map_append]
        rfl
      have hlo : W1.heap.size ≤ wr.heap.size := HW0.out.size
      obtain ⟨va, vc, rfl⟩ := rowI_shape HN0.out
      clear hn hnm hT4
      generalize hY : (⟨(toldL l[k].k).toArray⟩ : ByteArray) = Y at *
      clear hY
      go_wp2_with fail
      obtain ⟨W2, hW⟩ : ∃ x, x = wr.alloc (.cells #[.string l[k].n, .string l[k].t, .int .i64 l[k].k] 53) := ⟨_, rfl⟩
      have HW2 : Hid (Below W1.heap.size W1 W2) := by rw [hW]; exact HW0.out.alloc hlo _
      have HN2 : Hid (OwnsC W2 W1.heap.size (.slice va ((l.take k).map frow).length vc) ((l.take k).map frow)) := by rw [hW]; exact HN0.out.alloc _
      have HF2 : Hid (W2.cell? ⟨wr.heap.size, 0, none⟩ = some (.string l[k].n) ∧ W2.cell? ⟨wr.heap.size, 1, none⟩ = some (.string l[k].t) ∧ W2.cell? ⟨wr.heap.size, 2, none⟩ = some (.int .i64 l[k].k) ∧ wr.heap.size < W2.heap.size) := by rw [hW]; exact ⟨by simp [go_sem], by simp [go_sem], by simp [go_sem], by simp⟩
      rw [← hW]
      clear hW c0 c1 c2 q0 q1 HN0 HW0
      obtain ⟨f0, f1, f2, flt⟩ := HF2.out
      have hlen : ((l.take k).map frow).length ≤ 8 := by simp; omega
      have hlo2 : W1.heap.size ≤ W2.heap.size := HW2.out.size
      have HFF : Hid (∀ W, Below W2.heap.size W2 W → W.cell? ⟨wr.heap.size, 0, none⟩ = some (.string l[k].n) ∧ W.cell? ⟨wr.heap.size, 1, none⟩ = some (.string l[k].t)) := fun W h => ⟨by rw [h.cell flt]; exact f0, by rw [h.cell flt]; exact f1⟩
      have HOW : Hid (∀ W, Below W2.heap.size W2 W → OwnsC W W1.heap.size (.slice va ((l.take k).map frow).length vc) ((l.take k).map frow)) := fun W h => HN2.out.far h
      have HEND : Hid (∀ W w4 v', Below W2.heap.size W2 W → W.grownBy w4 (Value.slice va ((l.take k).map frow).length vc).ownBlock → w4.ownsRow W1.heap.size 41 3 v' (((l.take k).map frow).length + 1) (flatC ((l.take k).map frow) ++ [.string ((⟨#[102]⟩ : ByteArray) ++ l[k].n), .string (Y ++ l[k].t), .bool false]) → OwnsC w4 W1.heap.size v' ((l.take (k + 1)).map frow) ∧ Below W1.heap.size W1 w4) := fun W w4 v' hb hg ho =>
        ⟨by rw [HX.out, HF.out]; exact OwnsC.snoc (f := ⟨(⟨#[102]⟩ : ByteArray) ++ l[k].n, Y ++ l[k].t, false⟩) ho, (HW2.out.trans (hb.mono hlo2)).grown hg (Nat.le_trans hlo2 hb.size) (fun q hq => ((HOW.out W hb).lt q hq).1)⟩
      have h63 : ((l.take k).map frow).length + 1 ≤ maxLen := by unfold maxLen; omega
      have hby : (((l.take k).map frow).length + 1) * 40 ≤ 140737488355328 := by omega
      clear HN2 HF2 HF HX
      generalize (l.take k).map frow = R at *
      go_region_law
        (first
          | (go_simp
             go_at_call 30
             refine Calls.mono (KN.out _) ?_
             rintro e wa ⟨rfl, hb⟩
             have hbW : Hid (Below W2.heap.size W2 wa) := ⟨hb.os, hb.tape, hb.output, hb.size, hb.block⟩
             obtain ⟨f0a, f1a⟩ := HFF.out wa hbW.out
             have hbX : Hid (∀ o, Below W2.heap.size W2 (wa.alloc o)) := fun o => hbW.out.alloc hbW.out.size _
             have hloa : Hid (∀ o, W1.heap.size ≤ (wa.alloc o).heap.size) := fun o => Nat.le_trans hlo2 (hbX.out o).size
             clear hb)
          | (rw [if_pos (by rfl)]
             refine wp_append_new _ _ 25 rfl W1.heap.size 41 i0 _ 3 40 Tryd.underlying25 hi hz0 hz1 hz2 rfl (by decide) (.slice va R.length vc) R.length (flatC R) rfl (HOW.out _ (hbX.out _)) ⟨wa.heap.size, 0, none⟩ 1 1 [.string ((⟨#[102]⟩ : ByteArray) ++ l[k].n), .string (Y ++ l[k].t), .bool false] rfl rfl (cell_three_new _ _ _ _ _) (threeC_one ⟨(⟨#[102]⟩ : ByteArray) ++ l[k].n, Y ++ l[k].t, false⟩) h63 hby (hloa.out _) ?_
             intro v' w4 hown4 hgrow4 hnew4
             obtain ⟨xa, xc, rfl⟩ := rowI_shape hown4
             have HA : Hid _ := HEND.out _ _ _ (hbX.out _) hgrow4 hown4
             clear hown4 hgrow4 hnew4))
      all_goals
        go_wp2
        go_roundg (l.length - (k + 1))
        case measure => omega
        case rel => exact ⟨k + 1, by go_num, by omega, Nat.le_refl _, HA.out.1, HA.out.2⟩
    · have HKL : Hid (l.take k = l) := takeAll _ _ (by omega)
      obtain ⟨n, hn, _, hn9⟩ := HG.out.turn
      have KN : Hid (∀ W, Calls Tryd.prog 30 #[.int .i64 t] W fun e w' => e = .returned (.string ⟨(toldL t).toArray⟩) ∧ Below W.heap.size W w') := fun W => noughted_any t W (by omega) (by omega)
      have HT : Hid (trow t = ⟨⟨#[116, 117, 114, 110]⟩, ⟨(toldL t).toArray⟩, false⟩) := rfl
      clear hn
      generalize (⟨(toldL t).toArray⟩ : ByteArray) = Y at *
      go_wp2_with fail
      refine Calls.mono (KN.out _) ?_
      rintro e w2 ⟨rfl, hb⟩
      have hlo : W1.heap.size ≤ wr.heap.size := HW0.out.size
      have HW2 : Hid (Below W1.heap.size W1 w2) := HW0.out.trans (hb.mono hlo)
      have HN2 : Hid (OwnsC w2 W1.heap.size u3 ((l.take k).map frow)) := HN0.out.far hb
      have hlo2 : W1.heap.size ≤ w2.heap.size := HW2.out.size
      have hlen : ((l.take k).map frow).length ≤ 8 := by simp; omega
      clear hb HW0 HN0 q0 q1
      go_wp2_with (at_builtin; refine wpList_append_own _ rfl _ _ 25 rfl W1.heap.size 41 i0 _ 3 40 Tryd.underlying25 hi hz0 hz1 hz2 rfl (by decide) _ _ _ rfl (HN2.out.alloc _) ⟨w2.heap.size, 0, none⟩ 1 1 [.string ⟨#[116, 117, 114, 110]⟩, .string Y, .bool false] rfl rfl (cell_three_new _ _ _ _ _) (threeC_one ⟨⟨#[116, 117, 114, 110]⟩, Y, false⟩) (by unfold maxLen; omega) (by omega) (by simp; omega) ?_; intro v9 W9 hown9 hgrow9 hnil9)
      have HW9 : Hid (Below W1.heap.size W1 W9) := (HW2.out.alloc (by omega) _).grown hgrow9 (by simp; omega) (fun q hq => (HN2.out.lt q hq).1)
      have HN9 : Hid (OwnsC W9 W1.heap.size v9 ((l.take k).map frow ++ [trow t])) := by rw [HT.out]; exact OwnsC.snoc (f := ⟨⟨#[116, 117, 114, 110]⟩, Y, false⟩) hown9
      clear hown9 hgrow9 hnil9
      go_wp2
      go_ret
      refine ⟨_, rfl, ?_, HB1.out.trans (HW9.out.mono HB1.out.size)⟩
      have h9 := HN9.out
      rw [HKL.out] at h9
      exact h9.base HB1.out.size
end Go.Proofs.YtihnghnafpgdfabDoor
