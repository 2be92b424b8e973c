/-
  THE WALK OF DiffSays: it returns true, and writes nothing that was there.
-/
import Derived.Test.YtihnghnafpgdfaaPatchRef
import Derived.Test.YtihnghnafpgdfaaDiffRef
import Derived.Test.YtihnghnafpgdfaaQuiltSame
import Derived.Test.YtihnghnafpgdfaaQuiltFs
import Derived.Deep.RegionWith
import Derived.Deep.RegionHeld3
namespace Go.Proofs.Ytihnghnafpgdfaa
open Go.RowKit
set_option linter.unusedVariables false
set_option linter.unusedSimpArgs false

def ta : ByteArray := ⟨#[97]⟩
def tb : ByteArray := ⟨#[98]⟩
def tc : ByteArray := ⟨#[99]⟩
def la : List Fi := [⟨ta, ⟨#[]⟩, 1⟩, ⟨tb, ⟨#[]⟩, 1⟩]
def lb : List Fi := [⟨tb, ⟨#[]⟩, 2⟩, ⟨tc, ⟨#[]⟩, 1⟩]
theorem good_la : Good la := by
  refine ⟨by decide, ?_, ?_⟩
  · intro f hf
    simp [la] at hf
    rcases hf with rfl | rfl <;> kernel_rfl
  · intro i h
    have e : i = 0 := by simp [la] at h; omega
    subst e
    have h1 : ltB ta tb = true := by kernel_rfl
    exact h1
theorem good_lb : Good lb := by
  refine ⟨by decide, ?_, ?_⟩
  · intro f hf
    simp [lb] at hf
    rcases hf with rfl | rfl <;> kernel_rfl
  · intro i h
    have e : i = 0 := by simp [lb] at h; omega
    subst e
    have h1 : ltB tb tc = true := by kernel_rfl
    exact h1
theorem diff_closed : diffL la lb = [ta, tb, tc] := by
  have h1 : ltB ta tb = true := by kernel_rfl
  have h2 : ltB tb tb = false := by kernel_rfl
  have h3 : eqFi ⟨tb, ⟨#[]⟩, 1⟩ ⟨tb, ⟨#[]⟩, 2⟩ = false := by kernel_rfl
  unfold la lb
  rw [diffL, if_pos h1, diffL, if_neg (by rw [h2]; decide), if_neg (by rw [h2]; decide), if_neg (by rw [h3]; decide), diffL, diffL]

theorem cells_two (w : World) (f g : Fi) (t : TypeId) : Cells (w.alloc (.cells #[.string f.n, .string f.t, .int .i64 f.k, .string g.n, .string g.t, .int .i64 g.k] t)) (some ⟨w.heap.size, 0, none⟩) [f, g] := by
  intro i hi
  refine ⟨w.heap.size, 0, rfl, ?_⟩
  match i, hi with
  | 0, _ => exact ⟨by simp [go_sem], by simp [go_sem], by simp [go_sem]⟩
  | 1, _ => exact ⟨by simp [go_sem], by simp [go_sem], by simp [go_sem]⟩
theorem strs_three (w : World) (a b c : ByteArray) (t : TypeId) : Strs (w.alloc (.cells #[.string a, .string b, .string c] t)) (some ⟨w.heap.size, 0, none⟩) [a, b, c] := by
  intro i hi
  refine ⟨w.heap.size, 0, rfl, ?_⟩
  match i, hi with
  | 0, _ => simp [go_sem]
  | 1, _ => simp [go_sem]
  | 2, _ => simp [go_sem]

set_option maxRecDepth 100000 in
set_option maxHeartbeats 1000000 in
theorem diffs_any (w : World) : Calls Try.prog 40 #[] w fun e w' => e = .returned (.bool true) ∧ Below w.heap.size w w' := by
  go_enter Try.func40, Try.ntmps40
  go_wp2_with fail
  refine (of_any (some ⟨w.heap.size, 0, none⟩) (some ⟨w.heap.size + 1 + 1, 0, none⟩) 2 2 la lb 3 4 _ good_la good_lb ?_ ?_).mono ?_
  · exact (((cells_two w ⟨ta, ⟨#[]⟩, 1⟩ ⟨tb, ⟨#[]⟩, 1⟩ _).alloc _).alloc _).alloc _
  · have := cells_two ((w.alloc (.cells #[.string ⟨#[97]⟩, .string ⟨#[]⟩, .int .i64 1, .string ⟨#[98]⟩, .string ⟨#[]⟩, .int .i64 1] 23)).alloc (.cells #[.slice (some ⟨w.heap.size, 0, none⟩) 2 2, .int .i64 3] 48)) ⟨tb, ⟨#[]⟩, 2⟩ ⟨tc, ⟨#[]⟩, 1⟩ 23
    rw [World.size_alloc, World.size_alloc] at this
    exact this.alloc _
  rintro e w1 ⟨v, rfl, hown, hb⟩
  rw [diff_closed] at hown
  obtain ⟨ax, cx, rfl, hst, _, _, _, _⟩ := OwnsS.texts hown
  have HB1 : Hid (Below w.heap.size w w1) := by
    refine Below.trans ?_ (hb.mono ?_)
    · exact ((((Below.refl _ _).alloc (Nat.le_refl _) _).alloc (by simp) _).alloc (by simp; omega) _).alloc (by simp; omega) _
    · simp; omega
  have HST : Hid (Strs w1 ax [ta, tb, tc]) := hst
  clear hb hown hst
  go_wp2_with fail
  refine (sameTexts_any ax (some ⟨w1.heap.size, 0, none⟩) cx 3 [ta, tb, tc] [ta, tb, tc] _ (by decide) (by decide) (by exact HST.out.alloc _) (by exact strs_three w1 ta tb tc _)).mono ?_
  rintro e w2 ⟨rfl, n, rfl⟩
  rw [(sameT_iff _ _).2 rfl]
  go_wp2
  go_ret
  exact ⟨rfl, below_drewN (HB1.out.alloc HB1.out.size _) _⟩

set_option maxRecDepth 100000 in
set_option maxHeartbeats 4000000 in
theorem diffSays_any (a : Option Addr) (cap : Nat) (l : List Fi) (t : Int) (a' : Option Addr) (cap' : Nat) (m : List Fi) (s : Int) (an : Option Addr) (capn : Nat) (names : List ByteArray) (w : World)
    (hz : Sized l) (hs : Slice w a cap l) (hz' : Sized m) (hs' : Slice w a' cap' m) (hn : Strs w an names) (hnm : names.length ≤ maxLen) (hnz : ∀ s ∈ names, s.size ≤ maxLen) :
    Calls Try.prog 6 #[.agg #[.slice a l.length cap, .int .i64 t], .agg #[.slice a' m.length cap', .int .i64 s], .slice an names.length capn] w fun e w' => e = .returned (.bool true) ∧ Below w.heap.size w w' := by
  have HS : Hid (Slice w a cap l) := hs
  have HS' : Hid (Slice w a' cap' m) := hs'
  have HN : Hid (Strs w an names) := hn
  have HNZ : Hid (∀ s ∈ names, s.size ≤ maxLen) := hnz
  have hl1 : l.length ≤ maxLen := Nat.le_trans hs.room hs.most
  have hl2 : m.length ≤ maxLen := Nat.le_trans hs'.room hs'.most
  have hnm' := hnm
  unfold maxLen at hnm'
  clear hs hs' hn hnz
  go_enter Try.func6, Try.ntmps6
  go_wp2_with fail
  refine (diffs_any _).mono ?_
  rintro e w1 ⟨rfl, hb⟩
  have HB1 : Hid (Below w.heap.size w w1) := (((Below.refl _ _).alloc (Nat.le_refl _) _).alloc (by simp) _).trans (hb.mono (by simp; omega))
  have HQ1 : Hid (QBox w1 w.heap.size (.slice a l.length cap) t) := ((QBox.new w _ t _).alloc _).below hb (by simp; omega)
  have HO1 : Hid (QBox w1 (w.heap.size + 1) (.slice a' m.length cap') s) := by
    have := QBox.new (w.alloc (.cells #[.slice a l.length cap, .int .i64 t] 48)) (.slice a' m.length cap') s 48
    rw [World.size_alloc] at this
    exact this.below hb (by simp)
  clear hb
  obtain ⟨x0, x1, xf0, xf1, xl, _⟩ := HQ1.out
  go_wp2_with fail
  refine (lightQuilt_any a cap l t _ hl1 hz (HS.out.below HB1.out).cells).mono ?_
  rintro e w2 ⟨rfl, hb⟩
  have HB2 : Hid (Below w.heap.size w w2) := HB1.out.trans (hb.mono HB1.out.size)
  have HQ2 : Hid (QBox w2 w.heap.size (.slice a l.length cap) t) := HQ1.out.below hb HQ1.out.lt
  have HO2 : Hid (QBox w2 (w.heap.size + 1) (.slice a' m.length cap') s) := HO1.out.below hb HO1.out.lt
  clear hb HB1 HQ1 HO1 x0 x1 xf0 xf1 xl
  cases hla : lightF l
  · go_wp2
    go_ret
    exact ⟨rfl, HB2.out⟩
  obtain ⟨hla1, _⟩ := lightF_spec hla
  clear hla
  obtain ⟨y0, y1, yf0, yf1, yl, _⟩ := HO2.out
  go_wp2_with fail
  refine (lightQuilt_any a' cap' m s _ hl2 hz' (HS'.out.below HB2.out).cells).mono ?_
  rintro e w3 ⟨rfl, hb⟩
  have HB3 : Hid (Below w.heap.size w w3) := HB2.out.trans (hb.mono HB2.out.size)
  have HQ3 : Hid (QBox w3 w.heap.size (.slice a l.length cap) t) := HQ2.out.below hb HQ2.out.lt
  have HO3 : Hid (QBox w3 (w.heap.size + 1) (.slice a' m.length cap') s) := HO2.out.below hb HO2.out.lt
  clear hb HB2 HQ2 HO2 y0 y1 yf0 yf1 yl
  cases hlb : lightF m
  · go_wp2
    go_ret
    exact ⟨rfl, HB3.out⟩
  obtain ⟨hlb1, _⟩ := lightF_spec hlb
  clear hlb
  by_cases h20 : 20 < names.length
  · go_wp2
    go_ret
    exact ⟨rfl, HB3.out⟩
  obtain ⟨x0, x1, xf0, xf1, xl, _⟩ := HQ3.out
  go_wp2_with fail
  refine (quiltFault_any a cap l t _ hl1 hz (HS.out.below HB3.out).cells).mono ?_
  rintro e w4 ⟨rfl, hb⟩
  have HB4 : Hid (Below w.heap.size w w4) := HB3.out.trans (hb.mono HB3.out.size)
  have HQ4 : Hid (QBox w4 w.heap.size (.slice a l.length cap) t) := HQ3.out.below hb HQ3.out.lt
  have HO4 : Hid (QBox w4 (w.heap.size + 1) (.slice a' m.length cap') s) := HO3.out.below hb HO3.out.lt
  clear hb HB3 HQ3 HO3 x0 x1 xf0 xf1 xl
  have hqr := quiltF_range l t
  by_cases hq0 : ¬ quiltF l t = 0
  · have hq1 : 0 < quiltF l t := by omega
    go_wp2
    go_ret
    exact ⟨rfl, HB4.out⟩
  have hq1 : quiltF l t = 0 := Classical.not_not.1 hq0
  have HG : Hid (GoodQ l t) := good_of_quiltF hq1
  rw [hq1]
  clear hq0 hq1 hqr
  obtain ⟨y0, y1, yf0, yf1, yl, _⟩ := HO4.out
  go_wp2_with fail
  refine (quiltFault_any a' cap' m s _ hl2 hz' (HS'.out.below HB4.out).cells).mono ?_
  rintro e w5 ⟨rfl, hb⟩
  have HB5 : Hid (Below w.heap.size w w5) := HB4.out.trans (hb.mono HB4.out.size)
  have HQ5 : Hid (QBox w5 w.heap.size (.slice a l.length cap) t) := HQ4.out.below hb HQ4.out.lt
  have HO5 : Hid (QBox w5 (w.heap.size + 1) (.slice a' m.length cap') s) := HO4.out.below hb HO4.out.lt
  clear hb HB4 HQ4 HO4 y0 y1 yf0 yf1 yl
  have hqr := quiltF_range m s
  by_cases hq0 : ¬ quiltF m s = 0
  · have hq1 : 0 < quiltF m s := by omega
    go_wp2
    go_ret
    exact ⟨rfl, HB5.out⟩
  have hq1 : quiltF m s = 0 := Classical.not_not.1 hq0
  have HG' : Hid (GoodQ m s) := good_of_quiltF hq1
  rw [hq1]
  clear hq0 hq1 hqr
  go_wp2_with fail
  go_loop [8] (fun i => ∃ k : Nat, k ≤ names.length ∧ i = .int .i64 k) (fun i => names.length - (intOf i).toNat)
  case atStart => exact ⟨0, Nat.zero_le _, rfl⟩
  case round =>
    obtain ⟨k, hk, rfl⟩ := hrel
    by_cases hlt : k < names.length
    · obtain ⟨b, off, rfl, c0⟩ := HN.out.below HB5.out k hlt
      have hsz := HNZ.out _ (List.getElem_mem hlt)
      unfold maxLen at hsz
      by_cases hl20 : 20 < names[k].size
      · go_wp2
        go_ret
        exact ⟨rfl, HB5.out⟩
      · go_wp2
        exact ⟨⟨k + 1, by omega, by go_num⟩, by simp [intOf]; omega⟩
    · obtain ⟨x0, x1, xf0, xf1, xl, _⟩ := HQ5.out
      obtain ⟨y0, y1, yf0, yf1, yl, _⟩ := HO5.out
      go_wp2_with fail
      refine (patch_any a a' an cap cap' capn l m t s names _ HG.out.files HG'.out.files (by omega) (HS.out.below HB5.out).cells (HS'.out.below HB5.out).cells (HN.out.below HB5.out)).mono ?_
      rintro e w6 ⟨ax, cx, rfl, hsx, hb⟩
      have HB6 : Hid (Below w.heap.size w w6) := HB5.out.trans (hb.mono HB5.out.size)
      have HQ6 : Hid (QBox w6 w.heap.size (.slice a l.length cap) t) := HQ5.out.below hb HQ5.out.lt
      have HO6 : Hid (QBox w6 (w.heap.size + 1) (.slice a' m.length cap') s) := HO5.out.below hb HO5.out.lt
      have HSX6 : Hid (Slice w6 ax cx (patchR l m names).1) := hsx
      have hprn := patch_num HG.out.files HG'.out.files names
      have hprl : (patchR l m names).1.length ≤ 1000 := by
        rcases patch_good HG'.out.files names _ (good_without HG.out.files names) with ⟨_, h1, _⟩ | ⟨_, h1⟩
        · exact few_good h1
        · show (patchGo m names (withoutL l names)).1.length ≤ 1000
          rw [h1]; decide
      generalize hPR : patchR l m names = pr at *
      have HPR : Hid (patchR l m names = pr) := hPR
      clear hb HB5 HQ5 HO5 x0 x1 xf0 xf1 xl y0 y1 yf0 yf1 yl hsx hPR
      obtain ⟨x0, x1, xf0, xf1, xl, _⟩ := HQ6.out
      obtain ⟨y0, y1, yf0, yf1, yl, _⟩ := HO6.out
      go_wp2_with fail
      have kp := patched_any a a' an cap cap' capn l m t s names (w6.alloc (.cells #[.slice ax pr.1.length cx, .int .i64 (patchT pr s)] 48)) HG.out.files HG'.out.files (by omega) ((HS.out.below HB6.out).alloc _) ((HS'.out.below HB6.out).alloc _).cells ((HN.out.below HB6.out).alloc _)
      rw [HPR.out] at kp
      refine kp.mono ?_
      clear kp
      rintro e w7 ⟨ay, cy, rfl, hsy, hb⟩
      have HB7 : Hid (Below w.heap.size w w7) := Below.on _ HB6.out HB6.out.size hb
      have HQ7 : Hid (QBox w7 w.heap.size (.slice a l.length cap) t) := (HQ6.out.alloc _).below hb (by have := HQ6.out.lt; simp; omega)
      have HO7 : Hid (QBox w7 (w.heap.size + 1) (.slice a' m.length cap') s) := (HO6.out.alloc _).below hb (by have := HO6.out.lt; simp; omega)
      have HX7 : Hid (QBox w7 w6.heap.size (.slice ax pr.1.length cx) (patchT pr s)) := (QBox.new w6 _ _ _).below hb (by simp)
      have HSX7 : Hid (Slice w7 ax cx pr.1) := (HSX6.out.alloc _).below hb
      have HSY7 : Hid (Slice w7 ay cy pr.1) := hsy
      clear hb HB6 HQ6 HO6 x0 x1 xf0 xf1 xl y0 y1 yf0 yf1 yl hsy HSX6
      obtain ⟨x0, x1, xf0, xf1, xl, _⟩ := HQ7.out
      obtain ⟨y0, y1, yf0, yf1, yl, _⟩ := HO7.out
      obtain ⟨z0, z1, zf0, zf1, zl, _⟩ := HX7.out
      go_wp2_with fail
      obtain ⟨W8, hW8⟩ : ∃ W8, W8 = w7.alloc (.cells #[.slice ay pr.1.length cy, .int .i64 (patchT pr s)] 48) := ⟨_, rfl⟩
      have HB8 : Hid (Below w.heap.size w W8) := by rw [hW8]; exact HB7.out.alloc HB7.out.size _
      have HQ8 : Hid (QBox W8 w.heap.size (.slice a l.length cap) t) := by rw [hW8]; exact HQ7.out.alloc _
      have HO8 : Hid (QBox W8 (w.heap.size + 1) (.slice a' m.length cap') s) := by rw [hW8]; exact HO7.out.alloc _
      have HX8 : Hid (QBox W8 w6.heap.size (.slice ax pr.1.length cx) (patchT pr s)) := by rw [hW8]; exact HX7.out.alloc _
      have HY8 : Hid (QBox W8 w7.heap.size (.slice ay pr.1.length cy) (patchT pr s)) := by rw [hW8]; exact QBox.new w7 _ _ _
      have HSX8 : Hid (Slice W8 ax cx pr.1) := by rw [hW8]; exact HSX7.out.alloc _
      have HSY8 : Hid (Slice W8 ay cy pr.1) := by rw [hW8]; exact HSY7.out.alloc _
      have HS8 : Hid (Slice W8 a cap l) := HS.out.below HB8.out
      have HS8' : Hid (Slice W8 a' cap' m) := HS'.out.below HB8.out
      rw [← hW8]
      clear hW8 HB7 HQ7 HO7 HX7 HSX7 HSY7 x0 x1 xf0 xf1 xl y0 y1 yf0 yf1 yl z0 z1 zf0 zf1 zl
      go_cut [6] (fun c wx => c = .bool true ∧ Below W8.heap.size W8 wx)
      case first =>
        have hlen : (diffL l m).length ≤ 1000 := by
          have h1 := distinct_len (α := List UInt8) ((diffL l m).map (fun n => n.data.toList)) ((l ++ m).map (fun f => f.n.data.toList)) (by
            rw [List.pairwise_map]
            exact (diff_rise l m HG.out.files.pw HG'.out.files.pw).imp (fun {x y} h e => by
              have e2 : x = y := toList_inj (by rw [ByteArray.toList_eq, ByteArray.toList_eq]; exact e)
              rw [e2, ltB_irrefl] at h
              exact absurd h (by simp))) (by
            intro x hx
            obtain ⟨n, hn, rfl⟩ := List.mem_map.1 hx
            rcases mem_diff_name HG.out.files.pw HG'.out.files.pw hn with ⟨f, hf, rfl⟩ | ⟨f, hf, rfl⟩
            · exact List.mem_map.2 ⟨f, List.mem_append_left _ hf, rfl⟩
            · exact List.mem_map.2 ⟨f, List.mem_append_right _ hf, rfl⟩)
          simp at h1
          have := HG.out.files.few
          have := HG'.out.files.few
          omega
        have keepS : ∀ W, Below W8.heap.size W8 W → (W.cell? ⟨w.heap.size, 0, none⟩ = some (.slice a l.length cap) ∧ W.cell? ⟨w.heap.size, 1, none⟩ = some (.int .i64 t) ∧ W.cell? ⟨w.heap.size + 1, 0, none⟩ = some (.slice a' m.length cap') ∧ W.cell? ⟨w.heap.size + 1, 1, none⟩ = some (.int .i64 s) ∧ W.cell? ⟨w6.heap.size, 0, none⟩ = some (.slice ax pr.1.length cx) ∧ W.cell? ⟨w6.heap.size, 1, none⟩ = some (.int .i64 (patchT pr s)) ∧ W.cell? ⟨w7.heap.size, 0, none⟩ = some (.slice ay pr.1.length cy) ∧ W.cell? ⟨w7.heap.size, 1, none⟩ = some (.int .i64 (patchT pr s))) := by
          intro W h
          have h1 := HQ8.out.below h HQ8.out.lt
          have h2 := HO8.out.below h HO8.out.lt
          have h3 := HX8.out.below h HX8.out.lt
          have h4 := HY8.out.below h HY8.out.lt
          exact ⟨h1.c0, h1.c1, h2.c0, h2.c1, h3.c0, h3.c1, h4.c0, h4.c1⟩
        have keepH : Hid (∀ W, Below W8.heap.size W8 W → _) := keepS
        clear keepS
        go_region_held3 (fun W => W.cell? ⟨w.heap.size, 0, none⟩ = some (.slice a l.length cap) ∧ W.cell? ⟨w.heap.size, 1, none⟩ = some (.int .i64 t) ∧ W.cell? ⟨w.heap.size + 1, 0, none⟩ = some (.slice a' m.length cap') ∧ W.cell? ⟨w.heap.size + 1, 1, none⟩ = some (.int .i64 s) ∧ W.cell? ⟨w6.heap.size, 0, none⟩ = some (.slice ax pr.1.length cx) ∧ W.cell? ⟨w6.heap.size, 1, none⟩ = some (.int .i64 (patchT pr s)) ∧ W.cell? ⟨w7.heap.size, 0, none⟩ = some (.slice ay pr.1.length cy) ∧ W.cell? ⟨w7.heap.size, 1, none⟩ = some (.int .i64 (patchT pr s)))
          (first | exact keepH.out _ (Below.drew (Below.refl _ _)) | exact keepH.out _ HBf.out | exact keepH.out _ HBd.out | exact keepH.out _ HBb.out | exact keepH.out _ HBa.out)
          (first
            | (go_at_call 44
               refine (of_any a a' cap cap' l m t s _ HG.out.files HG'.out.files (by refine (HS8.out.below ?_).cells; repeat (first | exact Below.refl _ _ | refine Below.drew ?_ | refine below_drewN ?_ _)) (by refine (HS8'.out.below ?_).cells; repeat (first | exact Below.refl _ _ | refine Below.drew ?_ | refine below_drewN ?_ _))).mono ?_
               rintro e wa ⟨v1, rfl, ho, hb⟩
               obtain ⟨a1, c1, rfl, hst1, _, _, _, _⟩ := OwnsS.texts ho
               have HBa : Hid (Below W8.heap.size W8 wa) := ⟨hb.os, hb.tape, hb.output, hb.size, hb.block⟩
               have HTa : Hid (Strs wa a1 (diffL l m)) := hst1
               clear ho hb hst1)
            | (go_at_call 45
               refine (diffOf_any a a' cap cap' l m t s _ HG.out.files HG'.out.files (by refine ((HS8.out.below HBa.out).below ?_).cells; repeat (first | exact Below.refl _ _ | refine Below.drew ?_ | refine below_drewN ?_ _)) (by refine ((HS8'.out.below HBa.out).below ?_).cells; repeat (first | exact Below.refl _ _ | refine Below.drew ?_ | refine below_drewN ?_ _))).mono ?_
               rintro e wb ⟨v2, rfl, ho, hb⟩
               obtain ⟨a2, c2, rfl, hst2, _, _, _, _⟩ := OwnsS.texts ho
               have hbab : Below wa.heap.size wa wb := ⟨hb.os, hb.tape, hb.output, hb.size, hb.block⟩
               have HBb : Hid (Below W8.heap.size W8 wb) := HBa.out.trans (hbab.mono HBa.out.size)
               have HTb : Hid (Strs wb a1 (diffL l m)) := HTa.out.below hbab
               have HTb2 : Hid (Strs wb a2 (diffL l m)) := hst2
               clear ho hb hst2 hbab)
            | (go_at_call 43
               refine (sameTexts_any a1 a2 c1 c2 (diffL l m) (diffL l m) _ hlen hlen (by refine HTb.out.below ?_; repeat (first | exact Below.refl _ _ | refine Below.drew ?_ | refine below_drewN ?_ _)) (by refine HTb2.out.below ?_; repeat (first | exact Below.refl _ _ | refine Below.drew ?_ | refine below_drewN ?_ _))).mono ?_
               rintro e wd ⟨rfl, nd, hwd⟩
               rw [(sameT_iff _ _).2 rfl]
               have hbbd : Below wb.heap.size wb wd := by
                 rw [hwd]
                 refine below_drewN ?_ _
                 repeat (first | exact Below.refl _ _ | refine Below.drew ?_ | refine below_drewN ?_ _)
               have HBd : Hid (Below W8.heap.size W8 wd) := HBb.out.trans (hbbd.mono HBb.out.size)
               clear hwd hbbd)
            | (go_at_call 15
               refine (same_yes pr.2 _ (by omega) (by omega)).mono ?_
               rintro e we ⟨rfl, hwe⟩
               rw [hwe]
               clear hwe we)
            | (go_at_call 36
               refine (sameQuilt_any ax ay cx cy pr.1 pr.1 (patchT pr s) (patchT pr s) _ hprl hprl (by refine ((HSX8.out.below HBd.out).below ?_).cells; repeat (first | exact Below.refl _ _ | refine Below.drew ?_ | refine below_drewN ?_ _)) (by refine ((HSY8.out.below HBd.out).below ?_).cells; repeat (first | exact Below.refl _ _ | refine Below.drew ?_ | refine below_drewN ?_ _))).mono ?_
               rintro e wf ⟨rfl, hb⟩
               have hsq : (sameL pr.1 pr.1 && (patchT pr s == patchT pr s)) = true := by rw [sameL_self]; simp
               rw [hsq]
               have hbdf : Below wd.heap.size wd wf := ⟨hb.os, hb.tape, hb.output, hb.size, hb.block⟩
               have HBf : Hid (Below W8.heap.size W8 wf) := HBd.out.trans (hbdf.mono HBd.out.size)
               clear hb hbdf hsq))
        all_goals (try go_wp2_with fail)
        all_goals go_meet
        all_goals exact ⟨rfl, HBf.out⟩
      case rest =>
        obtain ⟨rfl, hbc⟩ := hcut
        go_wp2
        go_ret
        exact ⟨rfl, HB8.out.trans (hbc.mono HB8.out.size)⟩

end Go.Proofs.Ytihnghnafpgdfaa
