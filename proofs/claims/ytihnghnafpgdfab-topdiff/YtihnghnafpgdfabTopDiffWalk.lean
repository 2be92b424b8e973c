/-
  THE WALK OF TopDiff: it returns true, and writes nothing that was there.
-/
import Derived.Test.YtihnghnafpgdfabDiffWalks
import Derived.Test.YtihnghnafpgdfabFineQuilt
import Derived.Deep.RegionWith
import Derived.Deep.RegionHeld3
namespace Go.Proofs.Ytihnghnafpgdfab
open Go.RowKit
set_option linter.unusedVariables false
set_option linter.unusedSimpArgs false

def fq : Fi := ⟨⟨#[97]⟩, ⟨#[]⟩, 1⟩
theorem good_fq : Good [fq] := good_one (by kernel_rfl)
theorem diff_fq_self : (diffL [fq] [fq]).length = 0 := (diff_none good_fq good_fq).2 rfl
theorem diff_fq_none : (diffL [fq] []).length = 1 := by rw [diffL, diffL]; rfl
theorem len_diff {l m : List Fi} (hl : Good l) (hm : Good m) : (diffL l m).length ≤ 16 := by
  have h1 := distinct_len (α := List UInt8) ((diffL l m).map (fun n => n.data.toList)) ((l ++ m).map (fun f => f.n.data.toList)) (by
    rw [List.pairwise_map]
    exact (diff_rise l m hl.pw hm.pw).imp (fun {x y} h e => by
      have e2 : x = y := toList_inj (by rw [ByteArray.toList_eq, ByteArray.toList_eq]; exact e)
      rw [e2, ltB_irrefl] at h
      exact absurd h (by simp))) (by
    intro x hx
    obtain ⟨n, hn, rfl⟩ := List.mem_map.1 hx
    rcases mem_diff_name hl.pw hm.pw hn with ⟨f, hf, rfl⟩ | ⟨f, hf, rfl⟩
    · exact List.mem_map.2 ⟨f, List.mem_append_left _ hf, rfl⟩
    · exact List.mem_map.2 ⟨f, List.mem_append_right _ hf, rfl⟩)
  simp at h1
  have := hl.few
  have := hm.few
  omega

set_option maxRecDepth 100000 in
set_option maxHeartbeats 4000000 in
theorem topDiff_any (a : Option Addr) (cap : Nat) (l : List Fi) (t : Int) (a' : Option Addr) (cap' : Nat) (m : List Fi) (s : Int) (w : World)
    (hz : Sized l) (hs : Slice w a cap l) (hz' : Sized m) (hs' : Slice w a' cap' m) :
    Calls Try.prog 4 #[.agg #[.slice a l.length cap, .int .i64 t], .agg #[.slice a' m.length cap', .int .i64 s]] w fun e w' => e = .returned (.bool true) ∧ Below w.heap.size w w' := by
  have HS : Hid (Slice w a cap l) := hs
  have HS' : Hid (Slice w a' cap' m) := hs'
  have hl1 : l.length ≤ maxLen := Nat.le_trans hs.room hs.most
  have hl2 : m.length ≤ maxLen := Nat.le_trans hs'.room hs'.most
  clear hs hs'
  go_enter Try.func4, Try.ntmps4
  go_wp2_with fail
  obtain ⟨W4, hW4⟩ : ∃ W4, W4 = (((w.alloc (.cells #[.slice a l.length cap, .int .i64 t] 30)).alloc (.cells #[.slice a' m.length cap', .int .i64 s] 30)).alloc (.cells #[.string ⟨#[97]⟩, .string ⟨#[]⟩, .int .i64 1] 41)).alloc (.cells #[.slice (some ⟨w.heap.size + 1 + 1, 0, none⟩) 1 1, .int .i64 1] 30) := ⟨_, rfl⟩
  have HB4 : Hid (Below w.heap.size w W4) := by rw [hW4]; exact ((((Below.refl _ _).alloc (Nat.le_refl _) _).alloc (by simp) _).alloc (by simp; omega) _).alloc (by simp; omega) _
  have HQ4 : Hid (QBox W4 w.heap.size (.slice a l.length cap) t) := by rw [hW4]; exact (((QBox.new w _ t _).alloc _).alloc _).alloc _
  have HO4 : Hid (QBox W4 (w.heap.size + 1) (.slice a' m.length cap') s) := by
    have := QBox.new (w.alloc (.cells #[.slice a l.length cap, .int .i64 t] 30)) (.slice a' m.length cap') s 30
    rw [World.size_alloc] at this
    rw [hW4]; exact (this.alloc _).alloc _
  have HC4 : Hid (Cells W4 (some ⟨w.heap.size + 1 + 1, 0, none⟩) [fq]) := by
    have := Cells.one ((w.alloc (.cells #[.slice a l.length cap, .int .i64 t] 30)).alloc (.cells #[.slice a' m.length cap', .int .i64 s] 30)) fq 41
    rw [World.size_alloc, World.size_alloc] at this
    rw [hW4]; exact this.alloc _
  have HF4 : Hid (QBox W4 (w.heap.size + 1 + 1 + 1) (.slice (some ⟨w.heap.size + 1 + 1, 0, none⟩) 1 1) 1) := by
    have := QBox.new (((w.alloc (.cells #[.slice a l.length cap, .int .i64 t] 30)).alloc (.cells #[.slice a' m.length cap', .int .i64 s] 30)).alloc (.cells #[.string ⟨#[97]⟩, .string ⟨#[]⟩, .int .i64 1] 41)) (.slice (some ⟨w.heap.size + 1 + 1, 0, none⟩) 1 1) 1 30
    rw [World.size_alloc, World.size_alloc, World.size_alloc] at this
    rw [hW4]; exact this
  rw [← hW4]
  clear hW4
  go_cut [22] (fun c wx => c = .bool false ∧ Below W4.heap.size W4 wx)
  case first =>
    have keepS : ∀ W, Below W4.heap.size W4 W → (W.cell? ⟨w.heap.size + 1 + 1 + 1, 0, none⟩ = some (.slice (some ⟨w.heap.size + 1 + 1, 0, none⟩) 1 1) ∧ W.cell? ⟨w.heap.size + 1 + 1 + 1, 1, none⟩ = some (.int .i64 1)) := by
      intro W h
      have h1 := HF4.out.below h HF4.out.lt
      exact ⟨h1.c0, h1.c1⟩
    have keepH : Hid (∀ W, Below W4.heap.size W4 W → _) := keepS
    clear keepS
    go_region_held3 (fun W => W.cell? ⟨w.heap.size + 1 + 1 + 1, 0, none⟩ = some (.slice (some ⟨w.heap.size + 1 + 1, 0, none⟩) 1 1) ∧ W.cell? ⟨w.heap.size + 1 + 1 + 1, 1, none⟩ = some (.int .i64 1))
      (first | exact keepH.out _ (Below.drew (Below.refl _ _)) | exact keepH.out _ HBc.out | exact keepH.out _ HBn.out | exact keepH.out _ HBa.out)
      (first
        | (go_at_call 18
           refine (new_any _).mono ?_
           rintro e wn ⟨rfl, hb⟩
           have hban : Below wa.heap.size wa wn := ⟨hb.os, hb.tape, hb.output, hb.size, hb.block⟩
           have HBn : Hid (Below W4.heap.size W4 wn) := HBa.out.trans (hban.mono HBa.out.size)
           clear hb hban)
        | (go_at_call 17
           have _hx := HBn
           refine (of_any (some ⟨w.heap.size + 1 + 1, 0, none⟩) none 1 0 [fq] [] 1 1 _ good_fq good_nil (by refine (HC4.out.below HBn.out).below ?_; repeat (first | exact Below.refl _ _ | refine Below.drew ?_ | refine below_drewN ?_ _)) (Cells.nil _ _)).mono ?_
           rintro e wc2 ⟨v2, rfl, ho, hb⟩
           obtain ⟨a2, c2, rfl, _, _, _, _, _⟩ := OwnsS.texts ho
           rw [diff_fq_none]
           have hbnc : Below wn.heap.size wn wc2 := ⟨hb.os, hb.tape, hb.output, hb.size, hb.block⟩
           have HBc : Hid (Below W4.heap.size W4 wc2) := HBn.out.trans (hbnc.mono HBn.out.size)
           clear hb hbnc ho _hx)
        | (go_at_call 17
           refine (of_any (some ⟨w.heap.size + 1 + 1, 0, none⟩) (some ⟨w.heap.size + 1 + 1, 0, none⟩) 1 1 [fq] [fq] 1 1 _ good_fq good_fq (by refine HC4.out.below ?_; repeat (first | exact Below.refl _ _ | refine Below.drew ?_ | refine below_drewN ?_ _)) (by refine HC4.out.below ?_; repeat (first | exact Below.refl _ _ | refine Below.drew ?_ | refine below_drewN ?_ _))).mono ?_
           rintro e wa ⟨v1, rfl, ho, hb⟩
           obtain ⟨a1, c1, rfl, _, _, _, _, _⟩ := OwnsS.texts ho
           rw [diff_fq_self]
           have HBa : Hid (Below W4.heap.size W4 wa) := ⟨hb.os, hb.tape, hb.output, hb.size, hb.block⟩
           clear hb ho))
    all_goals (try go_wp2_with fail)
    all_goals go_meet
    all_goals exact ⟨rfl, HBc.out⟩
  case rest =>
    obtain ⟨rfl, hbc⟩ := hcut
    have HB5 : Hid (Below w.heap.size w wc) := HB4.out.trans (hbc.mono HB4.out.size)
    have HQ5 : Hid (QBox wc w.heap.size (.slice a l.length cap) t) := HQ4.out.below hbc HQ4.out.lt
    have HO5 : Hid (QBox wc (w.heap.size + 1) (.slice a' m.length cap') s) := HO4.out.below hbc HO4.out.lt
    clear hbc HB4 HQ4 HO4 HC4 HF4
    obtain ⟨x0, x1, xf0, xf1, xl, _⟩ := HQ5.out
    obtain ⟨y0, y1, yf0, yf1, yl, _⟩ := HO5.out
    go_wp2_with fail
    refine (fineQuilt_any a cap l t _ hl1 hz (HS.out.below HB5.out).cells).mono ?_
    rintro e w6 ⟨rfl, hb⟩
    have HB6 : Hid (Below w.heap.size w w6) := HB5.out.trans (hb.mono HB5.out.size)
    have HQ6 : Hid (QBox w6 w.heap.size (.slice a l.length cap) t) := HQ5.out.below hb HQ5.out.lt
    have HO6 : Hid (QBox w6 (w.heap.size + 1) (.slice a' m.length cap') s) := HO5.out.below hb HO5.out.lt
    clear hb HB5 HQ5 HO5 x0 x1 xf0 xf1 xl y0 y1 yf0 yf1 yl
    cases hfa : (lightF l && (quiltF l t == 0))
    · go_wp2
      go_ret
      exact ⟨rfl, HB6.out⟩
    have HG : Hid (GoodQ l t) := fine_good hfa
    clear hfa
    obtain ⟨y0, y1, yf0, yf1, yl, _⟩ := HO6.out
    go_wp2_with fail
    refine (fineQuilt_any a' cap' m s _ hl2 hz' (HS'.out.below HB6.out).cells).mono ?_
    rintro e w7 ⟨rfl, hb⟩
    have HB7 : Hid (Below w.heap.size w w7) := HB6.out.trans (hb.mono HB6.out.size)
    have HQ7 : Hid (QBox w7 w.heap.size (.slice a l.length cap) t) := HQ6.out.below hb HQ6.out.lt
    have HO7 : Hid (QBox w7 (w.heap.size + 1) (.slice a' m.length cap') s) := HO6.out.below hb HO6.out.lt
    clear hb HB6 HQ6 HO6 y0 y1 yf0 yf1 yl
    cases hfb : (lightF m && (quiltF m s == 0))
    · go_wp2
      go_ret
      exact ⟨rfl, HB7.out⟩
    have HG' : Hid (GoodQ m s) := fine_good hfb
    clear hfb
    obtain ⟨x0, x1, xf0, xf1, xl, _⟩ := HQ7.out
    obtain ⟨y0, y1, yf0, yf1, yl, _⟩ := HO7.out
    go_wp2_with fail
    refine (of_any a a' cap cap' l m t s _ HG.out.files HG'.out.files (HS.out.below HB7.out).cells (HS'.out.below HB7.out).cells).mono ?_
    rintro e w8 ⟨v1, rfl, ho, hb⟩
    obtain ⟨a1, c1, rfl, hst1, _, hc1, hc1', _⟩ := OwnsS.texts ho
    have HB8 : Hid (Below w.heap.size w w8) := HB7.out.trans (hb.mono HB7.out.size)
    have HQ8 : Hid (QBox w8 w.heap.size (.slice a l.length cap) t) := HQ7.out.below hb HQ7.out.lt
    have HO8 : Hid (QBox w8 (w.heap.size + 1) (.slice a' m.length cap') s) := HO7.out.below hb HO7.out.lt
    have HT8 : Hid (Strs w8 a1 (diffL l m)) := hst1
    have hlen := len_diff HG.out.files HG'.out.files
    have HRI : Hid (RiseB (diffL l m)) := diff_rise l m HG.out.files.pw HG'.out.files.pw
    have HCO : Hid (diffL m l = diffL l m) := diff_comm HG'.out.files HG.out.files
    have HSA : Hid (decide ((diffL l m).length = 0) = sameL l m) := by
      show _ = _
      cases hsl : sameL l m
      · rw [decide_eq_false]
        intro h0
        rw [(sameL_iff l m).2 ((diff_none HG.out.files HG'.out.files).1 h0)] at hsl
        exact absurd hsl (by simp)
      · rw [decide_eq_true]
        exact (diff_none HG.out.files HG'.out.files).2 ((sameL_iff l m).1 hsl)
    clear hb ho hst1 HB7 HQ7 HO7 x0 x1 xf0 xf1 xl y0 y1 yf0 yf1 yl
    generalize diffL l m = D at *
    go_wp2_with fail
    go_loopw [7] (fun i wr => ∃ k n : Nat, 1 ≤ k ∧ k ≤ 100 ∧ i = .int .i64 k ∧ wr = w8.drewN n) (fun i _ => 100 - (intOf i).toNat)
    case atStart => exact ⟨1, 0, by omega, by omega, rfl, rfl⟩
    case round =>
      obtain ⟨k, n, hk1, hk2, rfl, rfl⟩ := hrel
      by_cases hlt : k < D.length
      · obtain ⟨j, HJ⟩ : ∃ j, Hid (k = j + 1) := ⟨k - 1, show k = k - 1 + 1 by omega⟩
        have hj1 : ((k : Int) - 1) = (j : Int) := by have := HJ.out; omega
        have hj2 : j < D.length := by have := HJ.out; omega
        have hjk : j < k := by have := HJ.out; omega
        obtain ⟨b, off, rfl, c0⟩ := HT8.out k hlt
        obtain ⟨_, _, e, d0⟩ := HT8.out j hj2
        cases e
        have hltb : ltB D[j] D[k] = true := List.pairwise_iff_getElem.1 HRI.out j k hj2 hlt hjk
        have hle : (Op.bytesLess D[k].toList D[j].toList || D[k].toList == D[j].toList) = false := by rw [leqB, hltb]; rfl
        clear hltb
        go_wp2_with fail
        go_quiet (fail)
        go_wp2
        exact ⟨⟨k + 1, _, by omega, by omega, by go_num, rfl⟩, by simp [intOf]; omega⟩
      · have hl8 := HG.out.files.few
        have hm8 := HG'.out.files.few
        have HCL : Hid (Cells w8 a l) := (HS.out.below HB8.out).cells
        have HCM : Hid (Cells w8 a' m) := (HS'.out.below HB8.out).cells
        have hd0 : ((D.length : Int) == 0) = decide (D.length = 0) := by
          by_cases h : D.length = 0 <;> simp [h]
        have hd1 : (decide (D.length = 0) == decide (D.length = 0)) = true := by simp
        obtain ⟨x0, x1, xf0, xf1, xl, _⟩ := HQ8.out
        obtain ⟨y0, y1, yf0, yf1, yl, _⟩ := HO8.out
        go_wp2_with fail
        refine (of_any a' a cap' cap m l s t _ HG'.out.files HG.out.files (by exact HCM.out.drewN _) (by exact HCL.out.drewN _)).mono ?_
        rintro e w9 ⟨v2, rfl, ho, hb⟩
        rw [HCO.out] at ho
        obtain ⟨a2, c2, rfl, hst2, _, _, _, _⟩ := OwnsS.texts ho
        have hb9 : Below w8.heap.size w8 w9 := ⟨hb.os, hb.tape, hb.output, hb.size, hb.block⟩
        have HB9 : Hid (Below w.heap.size w w9) := HB8.out.trans (hb9.mono HB8.out.size)
        have HQ9 : Hid (QBox w9 w.heap.size (.slice a l.length cap) t) := HQ8.out.below hb9 HQ8.out.lt
        have HO9 : Hid (QBox w9 (w.heap.size + 1) (.slice a' m.length cap') s) := HO8.out.below hb9 HO8.out.lt
        have HT9 : Hid (Strs w9 a1 D) := HT8.out.below hb9
        have HT9' : Hid (Strs w9 a2 D) := hst2
        have HCL9 : Hid (Cells w9 a l) := HCL.out.below hb9
        have HCM9 : Hid (Cells w9 a' m) := HCM.out.below hb9
        clear hb hb9 ho hst2 x0 x1 xf0 xf1 xl y0 y1 yf0 yf1 yl HB8 HQ8 HO8 HCL HCM HT8
        go_wp2_with fail
        refine (sameTexts_any a1 a2 c1 c2 D D _ (by omega) (by omega) HT9.out HT9'.out).mono ?_
        rintro e w10 ⟨rfl, n2, rfl⟩
        rw [(sameT_iff _ _).2 rfl]
        obtain ⟨x0, x1, xf0, xf1, xl, _⟩ := HQ9.out
        obtain ⟨y0, y1, yf0, yf1, yl, _⟩ := HO9.out
        go_wp2_with fail
        refine (sameFiles_any a a' cap cap' l m _ (by omega) (by omega) (by exact HCL9.out.drewN _) (by exact HCM9.out.drewN _)).mono ?_
        rintro e w11 ⟨rfl, n3, rfl⟩
        rw [← HSA.out]
        go_wp2
        go_ret
        exact ⟨rfl, below_drewN HB9.out _⟩

end Go.Proofs.Ytihnghnafpgdfab
