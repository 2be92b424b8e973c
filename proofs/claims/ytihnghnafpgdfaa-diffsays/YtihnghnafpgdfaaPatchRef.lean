/-
  THE WALK OF THE DOCUMENT's ANSWER TO D2.
-/
import Derived.Test.YtihnghnafpgdfaaPatchWalks
namespace Go.Proofs.Ytihnghnafpgdfaa
open Go.RowKit
set_option linter.unusedVariables false
set_option linter.unusedSimpArgs false

theorem without_none (l : List Fi) : withoutL l [] = l := by
  unfold withoutL
  rw [List.filter_eq_self]
  intro f _; simp
theorem without_step {l : List Fi} (h : Good l) (names : List ByteArray) (k : Nat) (hk : k < names.length) : withoutL l (names.take (k + 1)) = if hasF (withoutL l (names.take k)) names[k] = true then dropF (withoutL l (names.take k)) names[k] else withoutL l (names.take k) := by
  rw [takeSucc names k hk]
  exact without_snoc h _ _

/-- A file's box, to be written and read. -/
structure FB3 (W : World) (B : Nat) (f : Fi) : Prop where
  c0 : W.cell? ⟨B, 0, none⟩ = some (.string f.n)
  c1 : W.cell? ⟨B, 1, none⟩ = some (.string f.t)
  c2 : W.cell? ⟨B, 2, none⟩ = some (.int .i64 f.k)
  f0 : W.frozen? ⟨B, 0, none⟩ = false
  f1 : W.frozen? ⟨B, 1, none⟩ = false
  f2 : W.frozen? ⟨B, 2, none⟩ = false
  lt : B < W.heap.size
theorem FB3.new (W : World) (f : Fi) (ty : TypeId) : FB3 (W.alloc (.cells #[.string f.n, .string f.t, .int .i64 f.k] ty)) W.heap.size f :=
  ⟨by simp [go_sem], by simp [go_sem], by simp [go_sem], by simp [go_sem], by simp [go_sem], by simp [go_sem], by simp⟩
theorem FB3.below {W W' : World} {B C : Nat} {f : Fi} (h : FB3 W B f) (hb : Below C W W') (hC : B < C) : FB3 W' B f :=
  ⟨by rw [hb.cell (p := ⟨B, 0, none⟩) hC]; exact h.c0, by rw [hb.cell (p := ⟨B, 1, none⟩) hC]; exact h.c1, by rw [hb.cell (p := ⟨B, 2, none⟩) hC]; exact h.c2, by rw [hb.frozen (p := ⟨B, 0, none⟩) hC]; exact h.f0, by rw [hb.frozen (p := ⟨B, 1, none⟩) hC]; exact h.f1, by rw [hb.frozen (p := ⟨B, 2, none⟩) hC]; exact h.f2, Nat.lt_of_lt_of_le h.lt hb.size⟩
theorem FB3.stored {W : World} {B : Nat} {f : Fi} (h : FB3 W B f) (g : Fi) : BoxF (((W.setCell ⟨B, 0, none⟩ (.string g.n)).setCell ⟨B, 1, none⟩ (.string g.t)).setCell ⟨B, 2, none⟩ (.int .i64 g.k)) B g :=
  ⟨by simp [go_sem, h.c0, h.c1, h.c2], by simp [go_sem, h.c0, h.c1, h.c2], by simp [go_sem, h.c0, h.c1, h.c2], by simpa using h.lt⟩

set_option maxRecDepth 100000 in
set_option maxHeartbeats 1000000 in
theorem patched_any (a a' an : Option Addr) (cap cap' capn : Nat) (l m : List Fi) (t s : Int) (names : List ByteArray) (w : World) (hl : Good l) (hm : Good m) (hn : names.length ≤ 1000) (hc : Slice w a cap l) (hc' : Cells w a' m) (hs : Strs w an names) :
    Calls Try.prog 42 #[.agg #[.slice a l.length cap, .int .i64 t], .agg #[.slice a' m.length cap', .int .i64 s], .slice an names.length capn] w fun e w' => ∃ ax capx, e = .returned (.tuple #[.agg #[.slice ax (patchR l m names).1.length capx, .int .i64 (patchT (patchR l m names) s)], .int .i64 (patchR l m names).2]) ∧ Slice w' ax capx (patchR l m names).1 ∧ Below w.heap.size w w' := by
  obtain ⟨W, hW⟩ : ∃ W, W = ((w.alloc (.cells #[.slice a l.length cap, .int .i64 t] 48)).alloc (.cells #[.slice a' m.length cap', .int .i64 s] 48)).alloc (.cells #[.slice none 0 0, .int .i64 0] 48) := ⟨_, rfl⟩
  have hWz : W.heap.size = w.heap.size + 3 := by rw [hW]; simp
  have HBW : Hid (Below w.heap.size w W) := by rw [hW]; exact (((Below.refl _ _).alloc (Nat.le_refl _) _).alloc (by simp) _).alloc (by simp; omega) _
  have HC : Hid (Slice W a cap l) := hc.below HBW.out
  have HC' : Hid (Cells W a' m) := hc'.below HBW.out
  have HS : Hid (Strs W an names) := hs.below HBW.out
  have HQB : Hid (QBox W (w.heap.size + 1) (.slice a' m.length cap') s) := by
    rw [hW]
    have := QBox.new (w.alloc (.cells #[.slice a l.length cap, .int .i64 t] 48)) (.slice a' m.length cap') s 48
    rw [World.size_alloc] at this
    exact this.alloc _
  have HR : Hid (QBox W (w.heap.size + 1 + 1) (.slice none 0 0) 0) := by
    rw [hW]
    have := QBox.new ((w.alloc (.cells #[.slice a l.length cap, .int .i64 t] 48)).alloc (.cells #[.slice a' m.length cap', .int .i64 s] 48)) (.slice none 0 0) 0 48
    rw [World.size_alloc, World.size_alloc] at this
    exact this
  have h8 := hl.few
  have h8' := hm.few
  have HG : Hid (Good l) := hl
  have HG' : Hid (Good m) := hm
  clear hc hc' hl hm hs
  go_enter Try.func42, Try.ntmps42
  go_wp2_with fail
  rw [← hW]
  clear hW
  go_loopw [8, 9] (fun v i wr => ∃ (k : Nat) (ax : Option Addr) (cx : Nat), k ≤ names.length ∧ i = .int .i64 k ∧ v = .slice ax (withoutL l (names.take k)).length cx ∧ Slice wr ax cx (withoutL l (names.take k)) ∧ Below W.heap.size W wr) (fun _ i _ => names.length - (intOf i).toNat)
  case atStart =>
    have e : withoutL l (names.take 0) = l := by rw [List.take_zero, without_none]
    exact ⟨0, a, cap, Nat.zero_le _, rfl, by rw [e], by rw [e]; exact HC.out, Below.refl _ _⟩
  case round =>
    obtain ⟨k, ax, cx, hk, rfl, rfl, hsl, hb⟩ := hrel
    have HB : Hid (Below W.heap.size W wr) := hb
    have hsz := hb.size
    have HSL : Hid (Slice wr ax cx (withoutL l (names.take k))) := hsl
    clear hb hsl
    by_cases hlt : k < names.length
    · obtain ⟨b, off, rfl, c0⟩ := HS.out.below HB.out k hlt
      have hbl : b < wr.heap.size := World.block_lt_of_cell? _ _ c0
      have hst := without_step HG.out names k hlt
      have HGL : Hid (Good (withoutL l (names.take k))) := good_without HG.out _
      generalize withoutL l (names.take k) = L at *
      go_wp2_with fail
      refine (dropFile_all ax cx L names[k] _ HGL.out HSL.out).mono ?_
      rintro e w2 ⟨v2, rfl, hown2, hb2⟩
      have HB2 : Hid (Below W.heap.size W w2) := HB.out.trans (hb2.mono HB.out.size)
      have HSL2 : Hid (Slice w2 ax cx L) := HSL.out.below hb2
      clear hb2 c0 hbl
      cases hh : hasF L names[k]
      · have e1 : dropN L names[k] = 5 := by simp [dropN, hh]
        have HST : Hid (withoutL l (names.take (k + 1)) = L) := by show _ = _; rw [hst, hh]; simp
        rw [e1]
        clear hst hh hown2 e1
        go_wp2
        exact ⟨⟨k + 1, ax, cx, by omega, by go_num, by rw [HST.out], by rw [HST.out]; exact HSL2.out, HB2.out⟩, by simp [intOf]; omega⟩
      · have e1 : dropN L names[k] = 0 := by simp [dropN, hh]
        have e2 : dropL L names[k] = dropF L names[k] := by simp [dropL, hh]
        have HST : Hid (withoutL l (names.take (k + 1)) = dropF L names[k]) := by show _ = _; rw [hst, hh]; simp
        rw [e2] at hown2
        rw [e1]
        obtain ⟨ax3, cx3, rfl, hsl3⟩ := Owns.slice hown2
        have HSL3 : Hid (Slice w2 ax3 cx3 (dropF L names[k])) := hsl3
        clear hst hh hown2 e1 e2 hsl3
        go_wp2
        exact ⟨⟨k + 1, ax3, cx3, by omega, by go_num, by rw [HST.out], by rw [HST.out]; exact HSL3.out, HB2.out⟩, by simp [intOf]; omega⟩
    · rw [takeAll names k (by omega)] at HSL
      have e0 : withoutL l (names.take k) = withoutL l names := by rw [takeAll names k (by omega)]
      rw [e0]
      clear e0
      go_wp2_with fail
      go_loopw [8, 12] (fun v i wr => ∃ (j : Nat) (ax : Option Addr) (cx : Nat) (L : List Fi), j ≤ names.length ∧ i = .int .i64 j ∧ v = .slice ax L.length cx ∧ Slice wr ax cx L ∧ Good L ∧ patchGo m (names.drop j) L = patchR l m names ∧ Below W.heap.size W wr) (fun _ i _ => names.length - (intOf i).toNat)
      case atStart => exact ⟨0, ax, cx, _, Nat.zero_le _, rfl, rfl, HSL.out, good_without HG.out _, rfl, HB.out⟩
      case round =>
        clear HB HSL hsz
        obtain ⟨j, ay, cy, L, hj, rfl, rfl, hsl, hgl, hpg, hb⟩ := hrel
        have HB : Hid (Below W.heap.size W wr) := hb
        have hsz := hb.size
        have HSL : Hid (Slice wr ay cy L) := hsl
        have HGL : Hid (Good L) := hgl
        clear hb hsl hgl
        have HQB1 : Hid (QBox wr (w.heap.size + 1) (.slice a' m.length cap') s) := HQB.out.below HB.out HQB.out.lt
        have HR1 : Hid (QBox wr (w.heap.size + 1 + 1) (.slice none 0 0) 0) := HR.out.below HB.out HR.out.lt
        obtain ⟨x0, x1, xf0, xf1, xl, _⟩ := HQB1.out
        by_cases hlj : j < names.length
        · rw [patch_step m L names j hlj] at hpg
          obtain ⟨b, off, rfl, c0⟩ := HS.out.below HB.out j hlj
          have hbl : b < wr.heap.size := World.block_lt_of_cell? _ _ c0
          have HCM : Hid (Cells wr a' m) := HC'.out.below HB.out
          go_wp2_with fail
          go_cut [13, 14] (fun pf pis wx => ∃ X, pf = .pointer (some ⟨X, 0, none⟩) ∧ pis = .bool (getF m names[j]).isSome ∧ BoxF wx X (foundF (getF m names[j])) ∧ Below wr.heap.size wr wx)
          case first =>
            go_region_with (go_at_call 24
                            refine (getFile_any a' cap' m names[j] _ (by unfold maxLen; omega) (by refine HCM.out.below ?_; repeat (first | exact Below.refl _ _ | refine Below.drew ?_ | refine below_drewN ?_ _ | refine Below.alloc ?_ (Nat.le_refl _) _))).mono ?_
                            rintro e v3 ⟨rfl, hb3⟩
                            rw [getV_found]
                            have hb4 := Below.undrew hb3
                            have hbW : Below wr.heap.size wr v3 := by
                              refine Below.trans ?_ (hb4.mono ?_)
                              · first | exact Below.refl _ _ | exact (Below.refl _ _).alloc (Nat.le_refl _) _
                              · simp
                            have HBV : Hid (Below wr.heap.size wr v3) := hbW
                            have hwz : wr.heap.size ≤ v3.heap.size := hbW.size
                            try (have xb := (FB3.new wr ⟨⟨#[]⟩, ⟨#[]⟩, 0⟩ 23).below hb4 (by simp)
                                 have HX3 : Hid (FB3 v3 wr.heap.size ⟨⟨#[]⟩, ⟨#[]⟩, 0⟩) := xb
                                 obtain ⟨v0, v1, v2, vf0, vf1, vf2, vl⟩ := xb)
                            clear hb3 hb4 hbW)
            all_goals (try go_wp2_with fail)
            all_goals go_meet
            all_goals
              first
                | exact ⟨wr.heap.size, rfl, rfl, HX3.out.stored _, ((HBV.out.setCell (Nat.le_refl _) _).setCell (Nat.le_refl _) _).setCell (Nat.le_refl _) _⟩
                | exact ⟨v3.heap.size, rfl, rfl, BoxF.new v3 _ _, HBV.out.alloc HBV.out.size _⟩
          case rest =>
            obtain ⟨X, rfl, rfl, hbox, hbw⟩ := hcut
            have HB2 : Hid (Below W.heap.size W wc) := HB.out.trans (hbw.mono HB.out.size)
            have HSL2 : Hid (Slice wc ay cy L) := HSL.out.below hbw
            have HR2 : Hid (QBox wc (w.heap.size + 1 + 1) (.slice none 0 0) 0) := HR1.out.below hbw HR1.out.lt
            clear hbw x0 x1 xf0 xf1 xl c0 hbl HR1 HQB1
            cases hg0 : getF m names[j] with
            | none =>
              rw [hg0] at hpg
              have HP : Hid (patchGo m (names.drop (j + 1)) L = patchR l m names) := hpg
              clear hpg hg0 hbox
              go_wp2
              exact ⟨⟨j + 1, ay, cy, L, by omega, by go_num, rfl, HSL2.out, HGL.out, HP.out, HB2.out⟩, by simp [intOf]; omega⟩
            | some f =>
              rw [hg0] at hpg hbox
              obtain ⟨z0, z1, z2, zl⟩ := hbox
              have HG0 : Hid (getF m names[j] = some f) := hg0
              clear hg0
              have hfm := (getF_mem HG0.out).1
              have hfs := HG'.out.times hfm
              have hff := HG'.out.each f hfm
              have hf1 : f.n.size ≤ maxLen ∧ f.t.size ≤ maxLen := by
                refine ⟨?_, ?_⟩
                · have := name_size hfs.1
                  unfold maxLen; omega
                · unfold maxLen; omega
              clear hfm hfs
              simp only [foundF] at z0 z1 z2
              go_wp2_with fail
              refine (putFile_any ay cy L f _ hf1 HGL.out (by exact HSL2.out)).mono ?_
              rintro e w3 ⟨v3, rfl, hown3, hb3⟩
              have HB3 : Hid (Below W.heap.size W w3) := HB2.out.trans (hb3.mono HB2.out.size)
              have HR3 : Hid (QBox w3 (w.heap.size + 1 + 1) (.slice none 0 0) 0) := HR2.out.below hb3 HR2.out.lt
              clear hb3
              rcases putN_file (l := L) hff with h0 | h0
              · rw [h0]
                simp only [h0, if_true] at hpg
                have HP : Hid (patchGo m (names.drop (j + 1)) (putF L f) = patchR l m names) := hpg
                have HGP : Hid (Good (putF L f)) := good_put' HGL.out h0
                rw [putL_of h0] at hown3
                obtain ⟨ax3, cx3, rfl, hsl3⟩ := Owns.slice hown3
                have HSL3 : Hid (Slice w3 ax3 cx3 (putF L f)) := hsl3
                clear hown3 hsl3 hpg h0
                go_wp2
                exact ⟨⟨j + 1, ax3, cx3, putF L f, by omega, by go_num, rfl, HSL3.out, HGP.out, HP.out, HB3.out⟩, by simp [intOf]; omega⟩
              · rw [h0]
                simp only [h0] at hpg
                have HP : Hid (patchR l m names = ([], 7)) := by show _ = _; rw [← hpg]; simp
                clear hown3 hpg h0
                obtain ⟨y0, y1, yf0, yf1, yl, _⟩ := HR3.out
                go_wp2
                refine bodyPost_ret (v := .tuple #[.agg #[.slice none 0 0, .int .i64 0], .int .i64 7]) (by simp [results, Try.results42, go_sem, y0, y1, yl]) rfl ?_
                rw [HP.out]
                refine ⟨none, 0, rfl, noSlice _, ?_⟩
                exact HBW.out.trans (((HB3.out.mono (by omega)).setCell (by simp; omega) _).setCell (by simp; omega) _)
        · have hend : patchGo m (names.drop j) L = (L, 0) := by rw [List.drop_eq_nil_of_le (by omega)]; rfl
          rw [hend] at hpg
          have HP : Hid (patchR l m names = (L, 0)) := hpg.symm
          clear hpg hend
          obtain ⟨y0, y1, yf0, yf1, yl, _⟩ := HR1.out
          go_wp2
          refine bodyPost_ret (v := .tuple #[.agg #[.slice ay L.length cy, .int .i64 s], .int .i64 0]) (by simp [results, Try.results42, go_sem, y0, y1, yl]) rfl ?_
          rw [HP.out]
          refine ⟨ay, cy, rfl, ?_, ?_⟩
          · exact HSL.out.store2 HR1.out.only _ _
          · exact HBW.out.trans (((HB.out.mono (by omega)).setCell (by simp; omega) _).setCell (by simp; omega) _)

end Go.Proofs.Ytihnghnafpgdfaa
