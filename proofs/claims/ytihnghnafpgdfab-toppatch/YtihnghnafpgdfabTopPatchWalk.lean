/-
  THE WALK OF TopPatch: it returns true, and writes nothing that was there.
-/
import Derived.Test.YtihnghnafpgdfabPatchWalks
import Derived.Test.YtihnghnafpgdfabTopDiffWalk
import Derived.Laws.Bits128
namespace Go.Proofs.Ytihnghnafpgdfab
open Go.RowKit
set_option linter.unusedVariables false
set_option linter.unusedSimpArgs false

theorem patch_fq : patchR [] [fq] [fq.n] = ([fq], 0) := by
  have h1 : getF [fq] fq.n = some fq := by kernel_rfl
  have h2 : putN [] fq = 0 := by kernel_rfl
  have h3 : putF [] fq = [fq] := by kernel_rfl
  show patchGo [fq] [fq.n] [] = ([fq], 0)
  rw [patchGo, h1]
  simp only [h2, if_true]
  rw [patchGo, h3]
theorem patch_closed (a' an : Option Addr) (V : World) (hc : Cells V a' [fq]) (hs : Strs V an [fq.n]) :
    Calls Try.prog 21 #[.agg #[.slice none 0 0, .int .i64 1], .agg #[.slice a' 1 1, .int .i64 1], .slice an 1 1] V fun e w' => ∃ ax cx, e = .returned (.tuple #[.agg #[.slice ax 1 cx, .int .i64 1], .nilIface]) ∧ Slice w' ax cx [fq] ∧ Below V.heap.size V w' := by
  have h := patch_any none a' an 0 1 1 [] [fq] 1 1 [fq.n] V good_nil good_fq (by decide) (Cells.nil _ _) hc hs
  rw [patch_fq] at h
  exact h
theorem strs_lit {V : World} {b : Nat} {s : ByteArray} (h : V.cell? ⟨b, 0, none⟩ = some (.string s)) : Strs V (some ⟨b, 0, none⟩) [s] := by
  intro i hi
  have e : i = 0 := by simp at hi; omega
  subst e
  exact ⟨b, 0, rfl, h⟩

theorem and_1023 (n : Int) : bits .and .i64 n 1023 = n % 1024 := by
  have h127 : (BitVec.ofInt 64 1023).toNat = 2 ^ 10 - 1 := by decide
  have key : (BitVec.ofInt 64 n &&& BitVec.ofInt 64 1023).toNat = (n % ((2 ^ 64 : Nat) : Int)).toNat % 2 ^ 10 := by
    rw [BitVec.toNat_and, BitVec.toNat_ofInt, h127, Nat.and_two_pow_sub_one_eq_mod]
  show IntKind.i64.wrap ((BitVec.ofInt 64 n &&& BitVec.ofInt 64 1023).toNat : Nat) = n % 1024
  rw [key, IntKind.wrap_i64]
  omega
theorem Strs.set {W : World} {X j : Nat} {u : Value} {a : Option Addr} {l : List ByteArray} (h : Strs W a l) (hX : ∀ x, a = some x → x.block ≠ X) : Strs (W.setCell ⟨X, j, none⟩ u) a l := by
  intro i hi
  obtain ⟨b, off, rfl, c⟩ := h i hi
  refine ⟨b, off, rfl, ?_⟩
  rw [World.cell?_of_block (w := W) (a := ⟨b, off + i, none⟩) (Below.heap_setCell W ⟨X, j, none⟩ u b (hX _ rfl))]
  exact c

set_option maxRecDepth 100000 in
set_option maxHeartbeats 4000000 in
theorem topPatch_any (a : Option Addr) (cap : Nat) (l : List Fi) (t : Int) (a' : Option Addr) (cap' : Nat) (m : List Fi) (s : Int) (few : Int) (w : World)
    (hz : Sized l) (hs : Slice w a cap l) (hz' : Sized m) (hs' : Slice w a' cap' m) (hfew : (Lit.int .i64 few).wf = true) :
    Calls Try.prog 5 #[.agg #[.slice a l.length cap, .int .i64 t], .agg #[.slice a' m.length cap', .int .i64 s], .int .i64 few] w fun e w' => e = .returned (.bool true) ∧ Below w.heap.size w w' := by
  have HS : Hid (Slice w a cap l) := hs
  have HS' : Hid (Slice w a' cap' m) := hs'
  have HFW : Hid ((Lit.int .i64 few).wf = true) := hfew
  have hl1 : l.length ≤ maxLen := Nat.le_trans hs.room hs.most
  have hl2 : m.length ≤ maxLen := Nat.le_trans hs'.room hs'.most
  clear hs hs' hfew
  go_enter Try.func5, Try.ntmps5
  go_wp2_with fail
  obtain ⟨W4, hW4⟩ : ∃ W4, W4 = (((w.alloc (.cells #[.slice a l.length cap, .int .i64 t] 30)).alloc (.cells #[.slice a' m.length cap', .int .i64 s] 30)).alloc (.cells #[.string ⟨#[97]⟩, .string ⟨#[]⟩, .int .i64 1] 41)).alloc (.cells #[.slice (some ⟨w.heap.size + 1 + 1, 0, none⟩) 1 1, .int .i64 1] 30) := ⟨_, rfl⟩
  have HB4 : Hid (Below w.heap.size w W4) := by rw [hW4]; exact ((((Below.refl _ _).alloc (Nat.le_refl _) _).alloc (by simp) _).alloc (by simp; omega) _).alloc (by simp; omega) _
  have HQ4 : Hid (QBox W4 w.heap.size (.slice a l.length cap) t) := by rw [hW4]; exact (((QBox.new w _ t _).alloc _).alloc _).alloc _
  have HO4 : Hid (QBox W4 (w.heap.size + 1) (.slice a' m.length cap') s) := by
    have := QBox.new (w.alloc (.cells #[.slice a l.length cap, .int .i64 t] 30)) (.slice a' m.length cap') s 30
    rw [World.size_alloc] at this
    rw [hW4]; exact (this.alloc _).alloc _
  have HC4 : Hid (Cells W4 (some ⟨w.heap.size + 1 + 1, 0, none⟩) [fq]) := by
    have := Cells.one ((w.alloc (.cells #[.slice a l.length cap, .int .i64 t] 30)).alloc (.cells #[.slice a' m.length cap', .int .i64 s] 30)) fq 41
    rw [World.size_alloc, World.size_alloc] at this
    rw [hW4]; exact this.alloc _
  have HF4 : Hid (QBox W4 (w.heap.size + 1 + 1 + 1) (.slice (some ⟨w.heap.size + 1 + 1, 0, none⟩) 1 1) 1) := by
    have := QBox.new (((w.alloc (.cells #[.slice a l.length cap, .int .i64 t] 30)).alloc (.cells #[.slice a' m.length cap', .int .i64 s] 30)).alloc (.cells #[.string ⟨#[97]⟩, .string ⟨#[]⟩, .int .i64 1] 41)) (.slice (some ⟨w.heap.size + 1 + 1, 0, none⟩) 1 1) 1 30
    rw [World.size_alloc, World.size_alloc, World.size_alloc] at this
    rw [hW4]; exact this
  rw [← hW4]
  clear hW4
  go_cut [8, 9] (fun px pe wx => ∃ X ax cx, px = .pointer (some ⟨X, 0, none⟩) ∧ pe = .nilIface ∧ QBox wx X (.slice ax 1 cx) 1 ∧ Slice wx ax cx [fq] ∧ Below W4.heap.size W4 wx ∧ W4.heap.size ≤ X)
  case first =>
    have keepS : ∀ W, Below W4.heap.size W4 W → (W.cell? ⟨w.heap.size + 1 + 1 + 1, 0, none⟩ = some (.slice (some ⟨w.heap.size + 1 + 1, 0, none⟩) 1 1) ∧ W.cell? ⟨w.heap.size + 1 + 1 + 1, 1, none⟩ = some (.int .i64 1)) := by
      intro W h
      have h1 := HF4.out.below h HF4.out.lt
      exact ⟨h1.c0, h1.c1⟩
    have keepH : Hid (∀ W, Below W4.heap.size W4 W → _) := keepS
    clear keepS
    go_region_held3 (fun W => W.cell? ⟨w.heap.size + 1 + 1 + 1, 0, none⟩ = some (.slice (some ⟨w.heap.size + 1 + 1, 0, none⟩) 1 1) ∧ W.cell? ⟨w.heap.size + 1 + 1 + 1, 1, none⟩ = some (.int .i64 1))
      ((refine keepH.out _ ?_; repeat (first | exact Below.refl _ _ | exact HBp.out | exact HBn.out | refine Below.drew ?_ | refine Below.alloc ?_ (by first | omega | (simp; done) | (simp; omega)) _ | refine Below.setCell ?_ (by first | omega | (simp; done) | (simp; omega)) _)))
      (first
        | (go_at_call 18
           refine (new_any _).mono ?_
           rintro e wn ⟨rfl, hb⟩
           have HBn : Hid (Below W4.heap.size W4 wn) := by
             refine Below.trans ?_ (hb.mono (by first | omega | (simp; done) | (simp; omega)))
             repeat (first | exact Below.refl _ _ | refine Below.drew ?_ | refine Below.alloc ?_ (by first | omega | (simp; done) | (simp; omega)) _)
           first
             | have hb0 := Below.undrew hb
             | have hb0 := hb
           have HBN : Hid (Below _ _ wn) := hb0
           clear hb0
           obtain ⟨hcn, hfn⟩ := bcell' hb
           have hzn := hb.size
           try simp at hzn
           clear hb)
        | (go_at_call 21
           refine (patch_closed (some ⟨w.heap.size + 1 + 1, 0, none⟩) _ _ (by refine (HC4.out.below HBn.out).below ?_; repeat (first | exact Below.refl _ _ | refine Below.drew ?_ | refine Below.alloc ?_ (by first | omega | (simp; done) | (simp; omega)) _)) (by refine strs_lit ?_; first | (simp [go_sem, hcn, hzn, fq]; done) | (rw [World.cell?_alloc_lt _ _ _ (by first | omega | (simp; omega))]; simp [go_sem, hcn, fq]; done))).mono ?_
           rintro e wp ⟨ax, cx, rfl, hsx, hb⟩
           have HBp : Hid (Below W4.heap.size W4 wp) := by
             refine Below.trans ?_ (hb.mono (by first | omega | (simp; done) | (simp; omega)))
             repeat (first | exact HBn.out | refine Below.drew ?_ | refine Below.alloc ?_ (by first | omega | (simp; done) | (simp; omega)) _)
           have hzp := hb.size
           try simp at hzp
           try (first
                  | have xb := (QBox.new _ (.slice none 0 0) 0 _).below hb (by first | omega | (simp; done) | (simp; omega))
                  | have xb := ((QBox.new _ (.slice none 0 0) 0 _).alloc _).below hb (by first | omega | (simp; done) | (simp; omega))
                  | have xb := ((QBox.new _ (.slice none 0 0) 0 _).below HBN.out (by first | omega | (simp; done) | (simp; omega))).below hb (by first | omega | (simp; done) | (simp; omega))
                  | have xb := (((QBox.new _ (.slice none 0 0) 0 _).alloc _).below HBN.out (by first | omega | (simp; done) | (simp; omega))).below hb (by first | omega | (simp; done) | (simp; omega))
                  | have xb := (((QBox.new _ (.slice none 0 0) 0 _).below HBN.out (by first | omega | (simp; done) | (simp; omega))).alloc _).below hb (by first | omega | (simp; done) | (simp; omega))
                try simp only [World.size_alloc, World.size_drew] at xb
                have HX : Hid (QBox wp _ (.slice none 0 0) 0) := xb
                obtain ⟨v0, v1, vf0, vf1, vl, _⟩ := xb)
           have HSP : Hid (Slice wp ax cx [fq]) := hsx
           clear hb hsx hcn hfn))
    all_goals (try go_wp2_with fail)
    all_goals go_meet
    all_goals
      first
        | exact ⟨_, ax, cx, rfl, rfl, HX.out.stored, HSP.out.store2 HX.out.only _ _, (HBp.out.setCell (by first | omega | (simp; done) | (simp; omega)) _).setCell (by first | omega | (simp; done) | (simp; omega)) _, (by first | omega | (simp; done) | (simp; omega))⟩
        | exact ⟨_, ax, cx, rfl, rfl, QBox.new wp _ _ _, HSP.out.alloc _, HBp.out.alloc HBp.out.size _, HBp.out.size⟩
  case rest =>
    obtain ⟨X, ax, cx, rfl, rfl, h1, h2, h3, hX⟩ := hcut
    have HB5 : Hid (Below w.heap.size w wc) := HB4.out.trans (h3.mono HB4.out.size)
    have HQ5 : Hid (QBox wc w.heap.size (.slice a l.length cap) t) := HQ4.out.below h3 HQ4.out.lt
    have HO5 : Hid (QBox wc (w.heap.size + 1) (.slice a' m.length cap') s) := HO4.out.below h3 HO4.out.lt
    have HC5 : Hid (Cells wc (some ⟨w.heap.size + 1 + 1, 0, none⟩) [fq]) := HC4.out.below h3
    have HF5 : Hid (QBox wc (w.heap.size + 1 + 1 + 1) (.slice (some ⟨w.heap.size + 1 + 1, 0, none⟩) 1 1) 1) := HF4.out.below h3 HF4.out.lt
    have HX5 : Hid (QBox wc X (.slice ax 1 cx) 1) := h1
    have HSX : Hid (Slice wc ax cx [fq]) := h2
    have hXq : w.heap.size < X ∧ w.heap.size + 1 < X := by
      have := HF4.out.lt
      omega
    clear h1 h2 h3 HB4 HQ4 HO4 HC4 HF4 hX
    obtain ⟨f0, f1, ff0, ff1, fl, _⟩ := HF5.out
    obtain ⟨z0, z1, zf0, zf1, zl, _⟩ := HX5.out
    go_wp2_with fail
    refine (sameQuilt_any ax (some ⟨w.heap.size + 1 + 1, 0, none⟩) cx 1 [fq] [fq] 1 1 _ (by decide) (by decide) HSX.out.cells HC5.out).mono ?_
    rintro e w6 ⟨rfl, hb⟩
    have hsq : (sameL [fq] [fq] && ((1 : Int) == 1)) = true := by rw [sameL_self]; rfl
    rw [hsq]
    have HB6 : Hid (Below w.heap.size w w6) := HB5.out.trans (hb.mono HB5.out.size)
    have HQ6 : Hid (QBox w6 w.heap.size (.slice a l.length cap) t) := HQ5.out.below hb HQ5.out.lt
    have HO6 : Hid (QBox w6 (w.heap.size + 1) (.slice a' m.length cap') s) := HO5.out.below hb HO5.out.lt
    have HX6 : Hid (QBox w6 X (.slice ax 1 cx) 1) := HX5.out.below hb HX5.out.lt
    clear hb hsq HB5 HQ5 HO5 HC5 HF5 HX5 HSX f0 f1 ff0 ff1 fl z0 z1 zf0 zf1 zl
    obtain ⟨x0, x1, xf0, xf1, xl, _⟩ := HQ6.out
    go_wp2_with fail
    refine (fineQuilt_any a cap l t _ hl1 hz (HS.out.below HB6.out).cells).mono ?_
    rintro e w7 ⟨rfl, hb⟩
    have HB7 : Hid (Below w.heap.size w w7) := HB6.out.trans (hb.mono HB6.out.size)
    have HQ7 : Hid (QBox w7 w.heap.size (.slice a l.length cap) t) := HQ6.out.below hb HQ6.out.lt
    have HO7 : Hid (QBox w7 (w.heap.size + 1) (.slice a' m.length cap') s) := HO6.out.below hb HO6.out.lt
    have HX7 : Hid (QBox w7 X (.slice ax 1 cx) 1) := HX6.out.below hb HX6.out.lt
    clear hb HB6 HQ6 HO6 HX6 x0 x1 xf0 xf1 xl
    cases hfa : (lightF l && (quiltF l t == 0))
    · go_wp2
      go_ret
      exact ⟨rfl, HB7.out⟩
    have HG : Hid (GoodQ l t) := fine_good hfa
    clear hfa
    obtain ⟨y0, y1, yf0, yf1, yl, _⟩ := HO7.out
    go_wp2_with fail
    refine (fineQuilt_any a' cap' m s _ hl2 hz' (HS'.out.below HB7.out).cells).mono ?_
    rintro e w8 ⟨rfl, hb⟩
    have HB8 : Hid (Below w.heap.size w w8) := HB7.out.trans (hb.mono HB7.out.size)
    have HQ8 : Hid (QBox w8 w.heap.size (.slice a l.length cap) t) := HQ7.out.below hb HQ7.out.lt
    have HO8 : Hid (QBox w8 (w.heap.size + 1) (.slice a' m.length cap') s) := HO7.out.below hb HO7.out.lt
    have HX8 : Hid (QBox w8 X (.slice ax 1 cx) 1) := HX7.out.below hb HX7.out.lt
    clear hb HB7 HQ7 HO7 HX7 y0 y1 yf0 yf1 yl
    cases hfb : (lightF m && (quiltF m s == 0))
    · go_wp2
      go_ret
      exact ⟨rfl, HB8.out⟩
    have HG' : Hid (GoodQ m s) := fine_good hfb
    clear hfb
    obtain ⟨x0, x1, xf0, xf1, xl, _⟩ := HQ8.out
    obtain ⟨y0, y1, yf0, yf1, yl, _⟩ := HO8.out
    go_wp2_with fail
    refine (of_any a a' cap cap' l m t s _ HG.out.files HG'.out.files (HS.out.below HB8.out).cells (HS'.out.below HB8.out).cells).mono ?_
    rintro e w9 ⟨v1, rfl, ho, hb⟩
    obtain ⟨a1, c1, rfl, hst1, hn1, hc1, hc1', hbs1⟩ := OwnsS.texts ho
    have HB9 : Hid (Below w.heap.size w w9) := HB8.out.trans (hb.mono HB8.out.size)
    have HQ9 : Hid (QBox w9 w.heap.size (.slice a l.length cap) t) := HQ8.out.below hb HQ8.out.lt
    have HO9 : Hid (QBox w9 (w.heap.size + 1) (.slice a' m.length cap') s) := HO8.out.below hb HO8.out.lt
    have HX9 : Hid (QBox w9 X (.slice ax 1 cx) 1) := HX8.out.below hb HX8.out.lt
    have HT9 : Hid (Strs w9 a1 (diffL l m)) := hst1
    have hlen := len_diff HG.out.files HG'.out.files
    have HPD : Hid (patchR l m (diffL l m) = (m, 0)) := patch_diff HG.out.files HG'.out.files
    have HAX : Hid (∀ x, a1 = some x → x.block ≠ X) := fun x hx e => by
      have h1 := (hbs1 x hx).1
      have h2 := HX8.out.lt
      omega
    clear hb ho hst1 HB8 HQ8 HO8 HX8 x0 x1 xf0 xf1 xl y0 y1 yf0 yf1 yl hbs1
    obtain ⟨x0, x1, xf0, xf1, xl, _⟩ := HQ9.out
    obtain ⟨y0, y1, yf0, yf1, yl, _⟩ := HO9.out
    obtain ⟨z0, z1, zf0, zf1, zl, _⟩ := HX9.out
    go_wp2_with fail
    have kp := patch_any a a' a1 cap cap' c1 l m t s (diffL l m) w9 HG.out.files HG'.out.files (by omega) (HS.out.below HB9.out).cells (HS'.out.below HB9.out).cells HT9.out
    rw [HPD.out] at kp
    refine kp.mono ?_
    clear kp
    rintro e w10 ⟨a2, c2, rfl, hs2, hb⟩
    have ht2 : patchT (m, 0) s = s := rfl
    have he2 : errV ((m, 0) : List Fi × Int).2 = .nilIface := rfl
    rw [ht2, he2]
    simp only at hs2
    have HB10 : Hid (Below w.heap.size w w10) := HB9.out.trans (hb.mono HB9.out.size)
    have HQ10 : Hid (QBox w10 w.heap.size (.slice a l.length cap) t) := HQ9.out.below hb HQ9.out.lt
    have HO10 : Hid (QBox w10 (w.heap.size + 1) (.slice a' m.length cap') s) := HO9.out.below hb HO9.out.lt
    have HX10 : Hid (QBox w10 X (.slice ax 1 cx) 1) := HX9.out.below hb HX9.out.lt
    have HT10 : Hid (Strs w10 a1 (diffL l m)) := HT9.out.below hb
    have HS10 : Hid (Slice w10 a2 c2 m) := hs2
    clear hb hs2 ht2 he2 HB9 HQ9 HO9 HX9 HT9 x0 x1 xf0 xf1 xl y0 y1 yf0 yf1 yl z0 z1 zf0 zf1 zl HPD
    obtain ⟨W, hW⟩ : ∃ W, W = (w10.setCell ⟨X, 0, none⟩ (.slice a2 m.length c2)).setCell ⟨X, 1, none⟩ (.int .i64 s) := ⟨_, rfl⟩
    have HB11 : Hid (Below w.heap.size w W) := by rw [hW]; exact (HB10.out.setCell (by simp; omega) _).setCell (by simp; omega) _
    have HQ11 : Hid (QBox W w.heap.size (.slice a l.length cap) t) := by rw [hW]; exact HQ10.out.other2 (by omega)
    have HO11 : Hid (QBox W (w.heap.size + 1) (.slice a' m.length cap') s) := by rw [hW]; exact HO10.out.other2 (by omega)
    have HX11 : Hid (QBox W X (.slice a2 m.length c2) s) := by rw [hW]; exact HX10.out.stored
    have HT11 : Hid (Strs W a1 (diffL l m)) := by rw [hW]; exact (HT10.out.set HAX.out).set HAX.out
    have HS11 : Hid (Slice W a2 c2 m) := by rw [hW]; exact HS10.out.store2 HX10.out.only _ _
    obtain ⟨z0, z1, zf0, zf1, zl, _⟩ := HX10.out
    obtain ⟨X0, X1, XF0, XF1, XL, _⟩ := HX11.out
    obtain ⟨Y0, Y1, YF0, YF1, YL, _⟩ := HO11.out
    rw [hW] at X0 X1 Y0 Y1
    go_wp2_with fail
    rw [← hW]
    clear hW X0 X1 XF0 XF1 XL Y0 Y1 YF0 YF1 YL z0 z1 zf0 zf1 zl HB10 HQ10 HO10 HX10 HT10 HS10
    have hm8 := few_good HG'.out.files
    refine (sameQuilt_any a2 a' c2 cap' m m s s _ hm8 hm8 HS11.out.cells (HS'.out.below HB11.out).cells).mono ?_
    rintro e w12 ⟨rfl, hb⟩
    have hsq : (sameL m m && (s == s)) = true := by rw [sameL_self]; simp
    rw [hsq]
    have HB12 : Hid (Below w.heap.size w w12) := HB11.out.trans (hb.mono HB11.out.size)
    have HQ12 : Hid (QBox w12 w.heap.size (.slice a l.length cap) t) := HQ11.out.below hb HQ11.out.lt
    have HO12 : Hid (QBox w12 (w.heap.size + 1) (.slice a' m.length cap') s) := HO11.out.below hb HO11.out.lt
    have HT12 : Hid (Strs w12 a1 (diffL l m)) := HT11.out.below hb
    clear hb hsq HB11 HQ11 HO11 HX11 HT11 HS11
    obtain ⟨x0, x1, xf0, xf1, xl, _⟩ := HQ12.out
    obtain ⟨y0, y1, yf0, yf1, yl, _⟩ := HO12.out
    have hc1b := hc1
    unfold maxLen at hc1b
    obtain ⟨k, hk, hkp⟩ : ∃ k : Nat, k ≤ (diffL l m).length ∧ (bits .and .i64 few 1023).tmod (((diffL l m).length : Int) + 1) = (k : Int) := by
      rw [and_1023]
      have h0 : 0 ≤ few % 1024 := by omega
      have h1 : (few % 1024).tmod (((diffL l m).length : Int) + 1) = (few % 1024) % (((diffL l m).length : Int) + 1) := Int.tmod_eq_emod_of_nonneg h0
      have h2 := Int.emod_nonneg (few % 1024) (show (((diffL l m).length : Int) + 1) ≠ 0 by omega)
      have h3 := Int.emod_lt_of_pos (few % 1024) (show (0 : Int) < ((diffL l m).length : Int) + 1 by omega)
      exact ⟨((few % 1024) % (((diffL l m).length : Int) + 1)).toNat, by omega, by rw [h1]; omega⟩
    have HTP : Hid (Strs w12 a1 ((diffL l m).take k)) := HT12.out.take k
    have htl : ((diffL l m).take k).length = k := by rw [List.length_take]; omega
    have HPN := patch_num HG.out.files HG'.out.files ((diffL l m).take k)
    have HPP : Hid ((patchR l m ((diffL l m).take k)).2 = 0 → Good (patchR l m ((diffL l m).take k)).1 ∧ (diffL (patchR l m ((diffL l m).take k)).1 m).length = (diffL l m).length - k) := fun h => ⟨(patched_get HG.out.files HG'.out.files _ h).1, by rw [patch_part HG.out.files HG'.out.files k h, List.length_drop]⟩
    have kp := patch_any a a' a1 cap cap' c1 l m t s ((diffL l m).take k) w12 HG.out.files HG'.out.files (by omega) (HS.out.below HB12.out).cells (HS'.out.below HB12.out).cells HTP.out
    rw [htl] at kp
    have KP : Hid (Calls Try.prog 21 #[.agg #[.slice a l.length cap, .int .i64 t], .agg #[.slice a' m.length cap', .int .i64 s], .slice a1 k c1] w12 _) := kp
    generalize patchR l m ((diffL l m).take k) = pr at *
    clear kp htl
    generalize diffL l m = D at *
    go_wp2_with fail
    refine KP.out.mono ?_
    rintro e w13 ⟨a3, c3, rfl, hs3, hb⟩
    have HB13 : Hid (Below w.heap.size w w13) := HB12.out.trans (hb.mono HB12.out.size)
    have HO13 : Hid (QBox w13 (w.heap.size + 1) (.slice a' m.length cap') s) := HO12.out.below hb HO12.out.lt
    have HS13 : Hid (Slice w13 a3 c3 pr.1) := hs3
    clear hb hs3 KP HB12 HQ12 HO12 HT12 HTP x0 x1 xf0 xf1 xl y0 y1 yf0 yf1 yl
    rcases HPN with h0 | h0
    · obtain ⟨hg3, hl3⟩ := HPP.out h0
      have HG3 : Hid (Good pr.1) := hg3
      rw [errV_zero h0]
      clear HPP h0 hg3
      obtain ⟨y0, y1, yf0, yf1, yl, _⟩ := HO13.out
      go_wp2_with fail
      refine (of_any a3 a' c3 cap' pr.1 m (patchT pr s) s _ HG3.out HG'.out.files (by exact (HS13.out.alloc _).cells) (by exact ((HS'.out.below HB13.out).alloc _).cells)).mono ?_
      rintro e w14 ⟨v4, rfl, ho, hb⟩
      obtain ⟨a4, c4, rfl, _, _, _, _, _⟩ := OwnsS.texts ho
      have HB14 : Hid (Below w.heap.size w w14) := Below.on _ HB13.out HB13.out.size hb
      rw [hl3]
      have hfin : (((D.length - k : Nat) : Int) == (D.length : Int) - (k : Int)) = true := by rw [beq_iff_eq]; omega
      have hfin2 : ((D.length - k : Nat) : Int) = (D.length : Int) - (k : Int) := by omega
      clear hb ho hl3
      generalize D.length - k = q at *
      go_wp2
      go_ret
      exact ⟨ret_bool (by first | rfl | exact hfin | simp [hfin2]), HB14.out⟩
    · rw [h0]
      clear HPP h0
      rw [errV_pos (by decide)]
      go_wp2_with fail
      refine (number_any 7 _ (by decide) (by decide)).mono ?_
      rintro e w14 ⟨rfl, rfl⟩
      go_wp2
      go_ret
      exact ⟨rfl, HB13.out.alloc HB13.out.size _⟩

end Go.Proofs.Ytihnghnafpgdfab
