/-
  THE WALKS OF diff.Patch.
-/
import Derived.Test.YtihnghnafpgdfabDiffWalks
namespace Go.Proofs.Ytihnghnafpgdfab
open Go.RowKit
set_option linter.unusedVariables false
set_option linter.unusedSimpArgs false

theorem without_next (l : List Fi) (names : List ByteArray) (k : Nat) (h : k < l.length) : withoutL (l.take (k + 1)) names = withoutL (l.take k) names ++ (if hasT names l[k].n = true then [] else [l[k]]) := by
  unfold withoutL
  rw [takeSucc l k h, List.filter_append]
  cases hx : hasT names l[k].n
  · have : names.any (fun n => n.toList == l[k].n.toList) = false := hx
    simp [this]
  · have : names.any (fun n => n.toList == l[k].n.toList) = true := hx
    simp [this]

set_option maxRecDepth 100000 in
set_option maxHeartbeats 1000000 in
theorem without_any (a an : Option Addr) (cap capn : Nat) (l : List Fi) (names : List ByteArray) (w : World) (hl : l.length ≤ 100) (hn : names.length ≤ 1000) (hc : Cells w a l) (hs : Strs w an names) :
    Calls Try.prog 75 #[.slice a l.length cap, .slice an names.length capn] w fun e w' => ∃ v, e = .returned v ∧ Owns w' w.heap.size v (withoutL l names) ∧ Below w.heap.size w w' := by
  obtain ⟨i0, hi, hz0, hz1, hz2⟩ := info_parts Try.infoFile
  have HC : Hid (Cells w a l) := hc
  have HS : Hid (Strs w an names) := hs
  clear hc hs
  go_enter Try.func75, Try.ntmps75
  go_wp2_with fail
  go_loopw [5, 10] (fun v i wr => ∃ k : Nat, k ≤ l.length ∧ i = .int .i64 k ∧ Owns wr w.heap.size v (withoutL (l.take k) names) ∧ Below w.heap.size w wr) (fun _ i _ => l.length - (intOf i).toNat)
  case atStart => exact ⟨0, Nat.zero_le _, rfl, World.ownsRow_nil _ _ _ _, Below.refl _ _⟩
  case round =>
    obtain ⟨k, hk, rfl, hown, hb⟩ := hrel
    have HB : Hid (Below w.heap.size w wr) := hb
    have hsz := hb.size
    clear hb
    have HOWN : Hid (Owns wr w.heap.size u5 (withoutL (l.take k) names)) := hown
    clear hown
    have hlen : (withoutL (l.take k) names).length ≤ 100 := by
      unfold withoutL
      have h1 := List.length_filter_le (fun f : Fi => !names.any (fun n => n.toList == f.n.toList)) (l.take k)
      have h2 : (l.take k).length ≤ k := by simp; omega
      omega
    by_cases hlt : k < l.length
    · obtain ⟨b, off, rfl, c0, c1, c2⟩ := HC.out.below HB.out k hlt
      have hbl : b < wr.heap.size := World.block_lt_of_cell? _ _ c0
      have hsn := without_next l names k hlt
      cases hh : hasT names l[k].n
      · rw [hh] at hsn
        have HSN : Hid (withoutL (l.take (k + 1)) names = withoutL (l.take k) names ++ [l[k]]) := hsn
        have HH : Hid (hasT names l[k].n = false) := hh
        clear hsn hh
        go_wp2_with fail
        refine (contains_any an capn names l[k].n _ hn (by exact (HS.out.below HB.out).alloc _)).mono ?_
        rintro e w1 ⟨rfl, rfl⟩
        rw [HH.out]
        go_wp2_with (at_builtin; refine wpList_append_own _ rfl _ _ 28 rfl w.heap.size 41 i0 _ 3 40 Try.underlying28 hi hz0 hz1 hz2 rfl (by decide) _ _ _ rfl ((HOWN.out.alloc _).alloc _) ⟨wr.heap.size + 1, 0, none⟩ 1 1 [.string l[k].n, .string l[k].t, .int .i64 l[k].k] rfl rfl (by have := cell_three_new (wr.alloc (.cells #[.string l[k].n, .string l[k].t, .int .i64 l[k].k] 41)) (.string l[k].n) (.string l[k].t) (.int .i64 l[k].k) 41; rwa [World.size_alloc] at this) (three_one l[k]) (by unfold maxLen; omega) (by omega) (by simp; omega) ?_; intro v' w3 hown' hgrow3 hnil3)
        refine ⟨⟨k + 1, by omega, by go_num, ?_, ?_⟩, by simp [intOf]; omega⟩
        · rw [HSN.out]
          exact Owns.snoc hown'
        · exact ((HB.out.alloc HB.out.size _).alloc (by simp; omega) _).grown hgrow3 (by simp; omega) (fun q hq => (HOWN.out.lt q hq).1)
      · rw [hh] at hsn
        have HSN : Hid (withoutL (l.take (k + 1)) names = withoutL (l.take k) names) := by show _ = _; rw [hsn]; simp
        have HH : Hid (hasT names l[k].n = true) := hh
        clear hsn hh
        go_wp2_with fail
        refine (contains_any an capn names l[k].n _ hn (by exact (HS.out.below HB.out).alloc _)).mono ?_
        rintro e w1 ⟨rfl, rfl⟩
        rw [HH.out]
        go_wp2
        refine ⟨⟨k + 1, by omega, by go_num, ?_, HB.out.alloc HB.out.size _⟩, by simp [intOf]; omega⟩
        rw [HSN.out]
        exact HOWN.out.alloc _
    · go_wp2
      go_ret
      have h := HOWN.out
      rw [takeAll l k (by omega)] at h
      exact ⟨_, rfl, h, HB.out⟩

/-- The turn that a patched quilt has. -/
def patchT (r : List Fi × Int) (s : Int) : Int := if r.2 = 0 then s else 0

set_option maxRecDepth 100000 in
set_option maxHeartbeats 1000000 in
theorem patch_any (a a' an : Option Addr) (cap cap' capn : Nat) (l m : List Fi) (t s : Int) (names : List ByteArray) (w : World) (hl : Good l) (hm : Good m) (hn : names.length ≤ 1000) (hc : Cells w a l) (hc' : Cells w a' m) (hs : Strs w an names) :
    Calls Try.prog 21 #[.agg #[.slice a l.length cap, .int .i64 t], .agg #[.slice a' m.length cap', .int .i64 s], .slice an names.length capn] w fun e w' => ∃ ax capx, e = .returned (.tuple #[.agg #[.slice ax (patchR l m names).1.length capx, .int .i64 (patchT (patchR l m names) s)], errV (patchR l m names).2]) ∧ Slice w' ax capx (patchR l m names).1 ∧ Below w.heap.size w w' := by
  obtain ⟨W, hW⟩ : ∃ W, W = ((w.alloc (.cells #[.slice a l.length cap, .int .i64 t] 30)).alloc (.cells #[.slice a' m.length cap', .int .i64 s] 30)).alloc (.cells #[.slice none 0 0, .int .i64 0] 30) := ⟨_, rfl⟩
  have hWz : W.heap.size = w.heap.size + 3 := by rw [hW]; simp
  have HBW : Hid (Below w.heap.size w W) := by rw [hW]; exact (((Below.refl _ _).alloc (Nat.le_refl _) _).alloc (by simp) _).alloc (by simp; omega) _
  have HC : Hid (Cells W a l) := hc.below HBW.out
  have HC' : Hid (Cells W a' m) := hc'.below HBW.out
  have HS : Hid (Strs W an names) := hs.below HBW.out
  have HQB : Hid (QBox W (w.heap.size + 1) (.slice a' m.length cap') s) := by
    rw [hW]
    have := QBox.new (w.alloc (.cells #[.slice a l.length cap, .int .i64 t] 30)) (.slice a' m.length cap') s 30
    rw [World.size_alloc] at this
    exact this.alloc _
  have HR : Hid (QBox W (w.heap.size + 1 + 1) (.slice none 0 0) 0) := by
    rw [hW]
    have := QBox.new ((w.alloc (.cells #[.slice a l.length cap, .int .i64 t] 30)).alloc (.cells #[.slice a' m.length cap', .int .i64 s] 30)) (.slice none 0 0) 0 30
    rw [World.size_alloc, World.size_alloc] at this
    exact this
  have h8 := hl.few
  have h8' := hm.few
  have HG : Hid (Good l) := hl
  have HG' : Hid (Good m) := hm
  clear hc hc' hl hm hs
  go_enter Try.func21, Try.ntmps21
  go_wp2_with fail
  rw [← hW]
  clear hW
  refine (without_any a an cap capn l names _ (by omega) hn HC.out HS.out).mono ?_
  rintro e w1 ⟨v1, rfl, hown1, hb1⟩
  obtain ⟨ax1, cx1, rfl, hsl1⟩ := Owns.slice hown1
  have HB1 : Hid (Below W.heap.size W w1) := hb1
  have HS1 : Hid (Slice w1 ax1 cx1 (withoutL l names)) := hsl1
  clear hown1 hb1 hsl1
  go_wp2_with fail
  go_loopw [8, 20] (fun v i wr => ∃ (k : Nat) (ax : Option Addr) (cx : Nat) (L : List Fi), k ≤ names.length ∧ i = .int .i64 k ∧ v = .slice ax L.length cx ∧ Slice wr ax cx L ∧ Good L ∧ patchGo m (names.drop k) L = patchR l m names ∧ Below W.heap.size W wr) (fun _ i _ => names.length - (intOf i).toNat)
  case atStart => exact ⟨0, ax1, cx1, _, Nat.zero_le _, rfl, rfl, HS1.out, good_without HG.out _, rfl, HB1.out⟩
  case round =>
    clear HB1 HS1
    obtain ⟨k, ax, cx, L, hk, rfl, rfl, hsl, hgl, hpg, hb⟩ := hrel
    have HB : Hid (Below W.heap.size W wr) := hb
    have hsz := hb.size
    have HSL : Hid (Slice wr ax cx L) := hsl
    have HGL : Hid (Good L) := hgl
    clear hb hsl hgl
    have HQB1 : Hid (QBox wr (w.heap.size + 1) (.slice a' m.length cap') s) := HQB.out.below HB.out HQB.out.lt
    have HR1 : Hid (QBox wr (w.heap.size + 1 + 1) (.slice none 0 0) 0) := HR.out.below HB.out HR.out.lt
    obtain ⟨x0, x1, xf0, xf1, xl, _⟩ := HQB1.out
    by_cases hlt : k < names.length
    · rw [patch_step m L names k hlt] at hpg
      obtain ⟨b, off, rfl, c0⟩ := HS.out.below HB.out k hlt
      have hbl : b < wr.heap.size := World.block_lt_of_cell? _ _ c0
      cases hg0 : getF m names[k] with
      | none =>
        rw [hg0] at hpg
        have HP : Hid (patchGo m (names.drop (k + 1)) L = patchR l m names) := hpg
        have HG0 : Hid (getF m names[k] = none) := hg0
        clear hpg hg0
        go_wp2_with fail
        refine (get_any a' cap' m names[k] _ HG'.out (HC'.out.below HB.out)).mono ?_
        rintro e w2 ⟨rfl, hb2⟩
        rw [HG0.out, getV_none]
        have HB2 : Hid (Below W.heap.size W w2) := HB.out.trans (hb2.mono HB.out.size)
        have HSL2 : Hid (Slice w2 ax cx L) := HSL.out.below hb2
        clear hb2 x0 x1 xf0 xf1 xl c0 hbl
        go_wp2
        exact ⟨⟨k + 1, ax, cx, L, by omega, by go_num, rfl, HSL2.out.alloc _, HGL.out, HP.out, HB2.out.alloc HB2.out.size _⟩, by simp [intOf]; omega⟩
      | some f =>
        rw [hg0] at hpg
        have HG0 : Hid (getF m names[k] = some f) := hg0
        clear hg0
        have hfm := (getF_mem HG0.out).1
        have hfs := HG'.out.times hfm
        have hff := HG'.out.each f hfm
        have hf1 : f.n.size ≤ maxLen ∧ f.t.size ≤ maxLen := by
          refine ⟨?_, ?_⟩
          · have := name_size hfs.1
            unfold maxLen; omega
          · unfold maxLen; omega
        clear hfm hfs
        go_wp2_with fail
        refine (get_any a' cap' m names[k] _ HG'.out (HC'.out.below HB.out)).mono ?_
        rintro e w2 ⟨rfl, hb2⟩
        rw [HG0.out, getV_some]
        have HB2 : Hid (Below W.heap.size W w2) := HB.out.trans (hb2.mono HB.out.size)
        have HSL2 : Hid (Slice w2 ax cx L) := HSL.out.below hb2
        have HR2 : Hid (QBox w2 (w.heap.size + 1 + 1) (.slice none 0 0) 0) := HR1.out.below hb2 HR1.out.lt
        clear hb2 x0 x1 xf0 xf1 xl c0 hbl HR1 HQB1
        go_wp2_with fail
        refine (put_any ax cx L f _ hf1 HGL.out (by exact HSL2.out.alloc _)).mono ?_
        rintro e w3 ⟨v3, rfl, hown3, hb3⟩
        have HB3 : Hid (Below W.heap.size W w3) := Below.on _ HB2.out HB2.out.size hb3
        have HR3 : Hid (QBox w3 (w.heap.size + 1 + 1) (.slice none 0 0) 0) := (HR2.out.alloc _).below hb3 (by have := HR2.out.lt; simp; omega)
        clear hb3
        rcases putN_file (l := L) hff with h0 | h0
        · rw [errV_zero h0]
          simp only [h0, if_true] at hpg
          have HP : Hid (patchGo m (names.drop (k + 1)) (putF L f) = patchR l m names) := hpg
          have HGP : Hid (Good (putF L f)) := good_put' HGL.out h0
          rw [putL_of h0] at hown3
          obtain ⟨ax3, cx3, rfl, hsl3⟩ := Owns.slice hown3
          have HSL3 : Hid (Slice w3 ax3 cx3 (putF L f)) := hsl3
          clear hown3 hsl3 hpg h0
          go_wp2
          exact ⟨⟨k + 1, ax3, cx3, putF L f, by omega, by go_num, rfl, HSL3.out, HGP.out, HP.out, HB3.out⟩, by simp [intOf]; omega⟩
        · rw [h0]
          simp only [h0] at hpg
          have HP : Hid (patchR l m names = ([], 7)) := by show _ = _; rw [← hpg]; simp
          clear hown3 hpg h0
          obtain ⟨y0, y1, yf0, yf1, yl, _⟩ := HR3.out
          rw [errV_pos (by decide)]
          go_wp2
          refine bodyPost_ret (v := .tuple #[.agg #[.slice none 0 0, .int .i64 0], .iface 118 (.int .i64 7)]) (by simp [results, Try.results21, go_sem, y0, y1, yl]) rfl ?_
          rw [HP.out]
          refine ⟨none, 0, rfl, noSlice _, ?_⟩
          exact HBW.out.trans (((HB3.out.mono (by omega)).setCell (by simp; omega) _).setCell (by simp; omega) _)
    · have hend : patchGo m (names.drop k) L = (L, 0) := by rw [List.drop_eq_nil_of_le (by omega)]; rfl
      rw [hend] at hpg
      have HP : Hid (patchR l m names = (L, 0)) := hpg.symm
      clear hpg hend
      obtain ⟨y0, y1, yf0, yf1, yl, _⟩ := HR1.out
      go_wp2
      refine bodyPost_ret (v := .tuple #[.agg #[.slice ax L.length cx, .int .i64 s], .nilIface]) (by simp [results, Try.results21, go_sem, y0, y1, yl]) rfl ?_
      rw [HP.out]
      refine ⟨ax, cx, rfl, ?_, ?_⟩
      · exact HSL.out.store2 HR1.out.only _ _
      · exact HBW.out.trans (((HB.out.mono (by omega)).setCell (by simp; omega) _).setCell (by simp; omega) _)

end Go.Proofs.Ytihnghnafpgdfab
