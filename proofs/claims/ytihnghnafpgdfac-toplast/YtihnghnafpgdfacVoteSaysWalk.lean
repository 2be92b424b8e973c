/-
  THE WALK OF VoteSays: it returns true, and writes nothing that was there.
-/
import Derived.Test.YtihnghnafpgdfacVotedRef
import Derived.Test.YtihnghnafpgdfacOpenCopies
import Derived.Deep.RegionWith
import Derived.Deep.RegionHeld3
import Derived.Deep.DeepCutAuto
namespace Go.Proofs.Ytihnghnafpgdfac
open Go.RowKit
set_option linter.unusedVariables false
set_option linter.unusedSimpArgs false

def outC (x y z : Co) : Co × Int := match votedC x y z with
  | some c => (c, 0)
  | none => (noCo, 4)
theorem outC_of {w' : World} {x y z : Co} {e : Ending} (h : OfEnd w' (votedC x y z) e) : ∃ a cap, e = .returned (.tuple #[.agg #[.slice a (outC x y z).1.l.length cap, .int .i64 (outC x y z).1.t], errV (outC x y z).2]) ∧ Slice w' a cap (outC x y z).1.l := by
  unfold outC
  cases hv : votedC x y z with
  | some c =>
    rw [hv] at h
    obtain ⟨a, cap, rfl, hs⟩ := h
    exact ⟨a, cap, rfl, hs⟩
  | none =>
    rw [hv] at h
    cases h
    exact ⟨none, 0, rfl, ⟨Cells.nil _ _, Nat.zero_le _, Nat.zero_le _, fun _ => rfl⟩⟩
theorem outC_voted {x y z : Co} {e : Ending} (h : VotedEnd (votedC x y z) e) : e = .returned (.tuple #[(outC x y z).1.q, .int .i64 (outC x y z).2]) := by
  unfold outC
  cases hv : votedC x y z with
  | some c => rw [hv] at h; exact h
  | none => rw [hv] at h; exact h
theorem better_which (g c : Co) : better g c = g ∨ better g c = c := by unfold better; split <;> simp
theorem outC_ok {w : World} {x y z : Co} (hx : CoOk w x) (hy : CoOk w y) (hz : CoOk w z) : CoOk w (outC x y z).1 := by
  unfold outC votedC
  split
  · rename_i c hc
    split at hc
    · cases hc; exact hx
    · split at hc
      · cases hc; exact hy
      · split at hc
        · cases hc
          exact better_ok (better_ok (better_ok (noCo_ok w) hx) hy) hz
        · cases hc
  · exact noCo_ok w
theorem outC_num (x y z : Co) : 0 ≤ (outC x y z).2 ∧ (outC x y z).2 ≤ 100 := by
  unfold outC
  split
  · exact ⟨Int.le_refl _, by show (0 : Int) ≤ 100; decide⟩
  · exact ⟨by show (0 : Int) ≤ 4; decide, by show (4 : Int) ≤ 100; decide⟩
theorem CoIn.below {w w' : World} {c : Co} (h : CoIn w c) (hb : Below w.heap.size w w') : CoIn w' c := ⟨h.slice.below hb, h.sized⟩
theorem CoIn.ok {w : World} {c : Co} (h : CoIn w c) (hl : lightF c.l = true) : CoOk w c := ⟨h.slice, by have := (lightF_spec hl).1; omega⟩
theorem CoIn.long {w : World} {c : Co} (h : CoIn w c) : c.l.length ≤ maxLen := Nat.le_trans h.slice.room h.slice.most

set_option maxRecDepth 100000 in
set_option maxHeartbeats 4000000 in
theorem voteSays_any (x y z : Co) (a : Option Addr) (cap : Nat) (l : List Fi) (t : Int) (w : World) (hx : CoIn w x) (hy : CoIn w y) (hz : CoIn w z) (hq : CoIn w (rightC a cap l t)) :
    Calls Try.prog 4 #[threeV x y z, .agg #[.slice a l.length cap, .int .i64 t]] w fun e w' => e = .returned (.bool true) ∧ Below w.heap.size w w' := by
  have HX : Hid (CoIn w x) := hx
  have HY : Hid (CoIn w y) := hy
  have HZ : Hid (CoIn w z) := hz
  have HQ : Hid (CoIn w (rightC a cap l t)) := hq
  clear hx hy hz hq
  go_enter Try.func4, Try.ntmps4
  go_wp2_with fail
  refine (votes_any _).mono ?_
  rintro e w1 ⟨rfl, hb⟩
  have HB1 : Hid (Below w.heap.size w w1) := (((Below.refl _ _).alloc (Nat.le_refl _) _).alloc (by simp) _).trans (hb.mono (by simp; omega))
  have HN1 : Hid (NineBox w1 w.heap.size x y z) := ((NineBox.new w x y z _).below ((Below.refl _ _).alloc (Nat.le_refl _) _) (by simp)).below hb (by simp; omega)
  have HR1 : Hid (QBox w1 (w.heap.size + 1) (.slice a l.length cap) t) := by
    have := QBox.new (w.alloc (Obj.cells #[Value.bool x.is, Value.slice x.a x.l.length x.cap, Value.int IntKind.i64 x.t, Value.bool y.is, Value.slice y.a y.l.length y.cap, Value.int IntKind.i64 y.t, Value.bool z.is, Value.slice z.a z.l.length z.cap, Value.int IntKind.i64 z.t] 49)) (.slice a l.length cap) t 46
    rw [World.size_alloc] at this
    exact this.below hb (by simp)
  have hl1 : w.heap.size < w1.heap.size := by have := HR1.out.lt; omega
  clear hb
  obtain ⟨nx0, nx1, nx2, ny0, ny1, ny2, nz0, nz1, nz2⟩ := HN1.out
  go_wp2_with fail
  refine (lightQuilt_any x.a x.cap x.l x.t _ HX.out.long HX.out.sized (HX.out.below HB1.out).slice.cells).mono ?_
  rintro e w2 ⟨rfl, hb⟩
  have HB2 : Hid (Below w.heap.size w w2) := HB1.out.trans (hb.mono HB1.out.size)
  have HN2 : Hid (NineBox w2 w.heap.size x y z) := HN1.out.below hb hl1
  have HR2 : Hid (QBox w2 (w.heap.size + 1) (.slice a l.length cap) t) := HR1.out.below hb HR1.out.lt
  have hl2 : w.heap.size < w2.heap.size := by have := HR2.out.lt; omega
  clear hb HB1 HN1 HR1 hl1 nx0 nx1 nx2 ny0 ny1 ny2 nz0 nz1 nz2
  cases hlx : lightF x.l
  · go_wp2
    go_ret
    exact ⟨rfl, HB2.out⟩
  have HLX : Hid _ := hlx
  clear hlx
  obtain ⟨nx0, nx1, nx2, ny0, ny1, ny2, nz0, nz1, nz2⟩ := HN2.out
  go_wp2_with fail
  refine (lightQuilt_any y.a y.cap y.l y.t _ HY.out.long HY.out.sized (HY.out.below HB2.out).slice.cells).mono ?_
  rintro e w3 ⟨rfl, hb⟩
  have HB3 : Hid (Below w.heap.size w w3) := HB2.out.trans (hb.mono HB2.out.size)
  have HN3 : Hid (NineBox w3 w.heap.size x y z) := HN2.out.below hb hl2
  have HR3 : Hid (QBox w3 (w.heap.size + 1) (.slice a l.length cap) t) := HR2.out.below hb HR2.out.lt
  have hl3 : w.heap.size < w3.heap.size := by have := HR3.out.lt; omega
  clear hb HB2 HN2 HR2 hl2 nx0 nx1 nx2 ny0 ny1 ny2 nz0 nz1 nz2
  cases hly : lightF y.l
  · go_wp2
    go_ret
    exact ⟨rfl, HB3.out⟩
  have HLY : Hid _ := hly
  clear hly
  obtain ⟨nx0, nx1, nx2, ny0, ny1, ny2, nz0, nz1, nz2⟩ := HN3.out
  go_wp2_with fail
  refine (lightQuilt_any z.a z.cap z.l z.t _ HZ.out.long HZ.out.sized (HZ.out.below HB3.out).slice.cells).mono ?_
  rintro e w4 ⟨rfl, hb⟩
  have HB4 : Hid (Below w.heap.size w w4) := HB3.out.trans (hb.mono HB3.out.size)
  have HN4 : Hid (NineBox w4 w.heap.size x y z) := HN3.out.below hb hl3
  have HR4 : Hid (QBox w4 (w.heap.size + 1) (.slice a l.length cap) t) := HR3.out.below hb HR3.out.lt
  have hl4 : w.heap.size < w4.heap.size := by have := HR4.out.lt; omega
  clear hb HB3 HN3 HR3 hl3 nx0 nx1 nx2 ny0 ny1 ny2 nz0 nz1 nz2
  cases hlz : lightF z.l
  · go_wp2
    go_ret
    exact ⟨rfl, HB4.out⟩
  have HLZ : Hid _ := hlz
  clear hlz
  obtain ⟨r0, r1, rf0, rf1, rl, -⟩ := HR4.out
  go_wp2_with fail
  refine (lightQuilt_any a cap l t _ HQ.out.long HQ.out.sized (HQ.out.below HB4.out).slice.cells).mono ?_
  rintro e w5 ⟨rfl, hb⟩
  have HB5 : Hid (Below w.heap.size w w5) := HB4.out.trans (hb.mono HB4.out.size)
  have HN5 : Hid (NineBox w5 w.heap.size x y z) := HN4.out.below hb hl4
  have HR5 : Hid (QBox w5 (w.heap.size + 1) (.slice a l.length cap) t) := HR4.out.below hb HR4.out.lt
  have hl5 : w.heap.size < w5.heap.size := by have := HR5.out.lt; omega
  clear hb HB4 HN4 HR4 hl4 r0 r1 rf0 rf1 rl
  cases hlq : lightF l
  · go_wp2
    go_ret
    exact ⟨rfl, HB5.out⟩
  have KX : Hid (CoOk w x) := HX.out.ok HLX.out
  have KY : Hid (CoOk w y) := HY.out.ok HLY.out
  have KZ : Hid (CoOk w z) := HZ.out.ok HLZ.out
  have KQ : Hid (CoOk w (rightC a cap l t)) := HQ.out.ok hlq
  clear hlq HX HY HZ HQ HLX HLY HLZ
  obtain ⟨nx0, nx1, nx2, ny0, ny1, ny2, nz0, nz1, nz2⟩ := HN5.out
  go_wp2_with fail
  refine (voteOf_any x y z _ (KX.out.below HB5.out) (KY.out.below HB5.out) (KZ.out.below HB5.out)).mono ?_
  rintro e w6 ⟨he, hb⟩
  obtain ⟨ax, cx, rfl, hsx⟩ := outC_of he
  have HB6 : Hid (Below w.heap.size w w6) := HB5.out.trans (hb.mono HB5.out.size)
  have HN6 : Hid (NineBox w6 w.heap.size x y z) := HN5.out.below hb hl5
  have HR6 : Hid (QBox w6 (w.heap.size + 1) (.slice a l.length cap) t) := HR5.out.below hb HR5.out.lt
  have hl6 : w.heap.size < w6.heap.size := by have := HR6.out.lt; omega
  have HV : Hid _ := fun (W : World) (h : Below w.heap.size w W) => voted_any x y z W (KX.out.below h) (KY.out.below h) (KZ.out.below h)
  have HE : Hid (∀ e, VotedEnd (votedC x y z) e → e = .returned (.tuple #[(outC x y z).1.q, .int .i64 (outC x y z).2])) := fun e h => outC_voted h
  have HOK : Hid (CoOk w (outC x y z).1) := outC_ok KX.out KY.out KZ.out
  have hnum := outC_num x y z
  generalize hO : outC x y z = O at *
  obtain ⟨c, n⟩ := O
  simp only at hsx HE HOK hnum
  have HSX6 : Hid (Slice w6 ax cx c.l) := hsx
  clear hb he hsx hO HB5 HN5 HR5 hl5 nx0 nx1 nx2 ny0 ny1 ny2 nz0 nz1 nz2
  obtain ⟨nx0, nx1, nx2, ny0, ny1, ny2, nz0, nz1, nz2⟩ := HN6.out
  go_wp2_with fail
  refine (HV.out _ (HB6.out.alloc HB6.out.size _)).mono ?_
  rintro e w7 ⟨he, hb⟩
  obtain rfl := HE.out e he
  have HB7 : Hid (Below w.heap.size w w7) := Below.on _ HB6.out HB6.out.size hb
  have HN7 : Hid (NineBox w7 w.heap.size x y z) := (HN6.out.below ((Below.refl _ _).alloc (Nat.le_refl _) _) hl6).below hb (by simp; omega)
  have HR7 : Hid (QBox w7 (w.heap.size + 1) (.slice a l.length cap) t) := (HR6.out.alloc _).below hb (by have := HR6.out.lt; simp; omega)
  have HX7 : Hid (QBox w7 w6.heap.size (.slice ax c.l.length cx) c.t) := (QBox.new w6 _ _ _).below hb (by simp)
  have HSX7 : Hid (Slice w7 ax cx c.l) := (HSX6.out.alloc _).below hb
  have hl7 : w.heap.size < w7.heap.size := by have := HR7.out.lt; omega
  clear hb he HB6 HN6 HR6 hl6 HSX6 HV HE nx0 nx1 nx2 ny0 ny1 ny2 nz0 nz1 nz2
  go_wp2_with fail
  obtain ⟨W8, hW8⟩ : ∃ W8, W8 = w7.alloc (.cells #[.slice c.a c.l.length c.cap, .int .i64 c.t] 46) := ⟨_, rfl⟩
  have HB8 : Hid (Below w.heap.size w W8) := by rw [hW8]; exact HB7.out.alloc HB7.out.size _
  have HN8 : Hid (NineBox W8 w.heap.size x y z) := by rw [hW8]; exact HN7.out.below ((Below.refl _ _).alloc (Nat.le_refl _) _) hl7
  have HR8 : Hid (QBox W8 (w.heap.size + 1) (.slice a l.length cap) t) := by rw [hW8]; exact HR7.out.alloc _
  have HX8 : Hid (QBox W8 w6.heap.size (.slice ax c.l.length cx) c.t) := by rw [hW8]; exact HX7.out.alloc _
  have HY8 : Hid (QBox W8 w7.heap.size (.slice c.a c.l.length c.cap) c.t) := by rw [hW8]; exact QBox.new w7 _ _ _
  have HSX8 : Hid (Slice W8 ax cx c.l) := by rw [hW8]; exact HSX7.out.alloc _
  have HSY8 : Hid (Slice W8 c.a c.cap c.l) := (HOK.out.below HB8.out).slice
  have hlen : c.l.length ≤ 1000 := by have := HOK.out.few; omega
  have hl8 : w.heap.size < W8.heap.size := by have := HR8.out.lt; omega
  rw [← hW8]
  clear hW8 HB7 HN7 HR7 HX7 HSX7 hl7 HOK
  go_cut [72] (fun c wx => c = .bool false ∧ Below W8.heap.size W8 wx)
  case first =>
    have keepH : Hid (∀ W, Below W8.heap.size W8 W → (W.cell? ⟨w.heap.size, 0, none⟩ = some (.bool x.is) ∧ W.cell? ⟨w.heap.size, 1, none⟩ = some (.slice x.a x.l.length x.cap) ∧ W.cell? ⟨w.heap.size, 2, none⟩ = some (.int .i64 x.t) ∧ W.cell? ⟨w.heap.size, 3, none⟩ = some (.bool y.is) ∧ W.cell? ⟨w.heap.size, 4, none⟩ = some (.slice y.a y.l.length y.cap) ∧ W.cell? ⟨w.heap.size, 5, none⟩ = some (.int .i64 y.t) ∧ W.cell? ⟨w6.heap.size, 0, none⟩ = some (.slice ax c.l.length cx) ∧ W.cell? ⟨w6.heap.size, 1, none⟩ = some (.int .i64 c.t) ∧ W.cell? ⟨w7.heap.size, 0, none⟩ = some (.slice c.a c.l.length c.cap) ∧ W.cell? ⟨w7.heap.size, 1, none⟩ = some (.int .i64 c.t))) := fun W h => by
      have h1 := HN8.out.below h hl8
      have h3 := HX8.out.below h HX8.out.lt
      have h4 := HY8.out.below h HY8.out.lt
      exact ⟨h1.x0, h1.x1, h1.x2, h1.y0, h1.y1, h1.y2, h3.c0, h3.c1, h4.c0, h4.c1⟩
    have k1 := fun (W : World) (h : Below W8.heap.size W8 W) => voteSame_any x y W (KX.out.below (HB8.out.trans (h.mono HB8.out.size))) (KY.out.below (HB8.out.trans (h.mono HB8.out.size)))
    have k2 := fun (W : World) (h : Below W8.heap.size W8 W) => sameCopy_any x y W (KX.out.below (HB8.out.trans (h.mono HB8.out.size))) (KY.out.below (HB8.out.trans (h.mono HB8.out.size)))
    generalize sameCo x y = s at *
    have H1 : Hid (∀ (W : World), Below W8.heap.size W8 W → _) := k1
    have H2 : Hid (∀ (W : World), Below W8.heap.size W8 W → _) := k2
    have hss : (s != s) = false := by cases s <;> rfl
    clear k1 k2
    go_region_held3 (fun W => W.cell? ⟨w.heap.size, 0, none⟩ = some (.bool x.is) ∧ W.cell? ⟨w.heap.size, 1, none⟩ = some (.slice x.a x.l.length x.cap) ∧ W.cell? ⟨w.heap.size, 2, none⟩ = some (.int .i64 x.t) ∧ W.cell? ⟨w.heap.size, 3, none⟩ = some (.bool y.is) ∧ W.cell? ⟨w.heap.size, 4, none⟩ = some (.slice y.a y.l.length y.cap) ∧ W.cell? ⟨w.heap.size, 5, none⟩ = some (.int .i64 y.t) ∧ W.cell? ⟨w6.heap.size, 0, none⟩ = some (.slice ax c.l.length cx) ∧ W.cell? ⟨w6.heap.size, 1, none⟩ = some (.int .i64 c.t) ∧ W.cell? ⟨w7.heap.size, 0, none⟩ = some (.slice c.a c.l.length c.cap) ∧ W.cell? ⟨w7.heap.size, 1, none⟩ = some (.int .i64 c.t))
      (first | exact keepH.out _ (Below.drew (Below.refl _ _)) | exact keepH.out _ HBd.out | exact keepH.out _ HBc.out | exact keepH.out _ HBb.out)
      (first
        | (go_at_call 23
           refine (same_yes n _ hnum.1 hnum.2).mono ?_
           rintro e we ⟨rfl, hwe⟩
           rw [hwe]
           clear hwe we)
        | (go_at_call 24
           refine (sameQuilt_any ax c.a cx c.cap c.l c.l c.t c.t _ hlen hlen (by refine (HSX8.out.below ?_).cells; repeat (first | exact Below.refl _ _ | refine Below.drew ?_ | refine below_drewN ?_ _)) (by refine (HSY8.out.below ?_).cells; repeat (first | exact Below.refl _ _ | refine Below.drew ?_ | refine below_drewN ?_ _))).mono ?_
           rintro e wb ⟨rfl, hb⟩
           have hsq : (sameL c.l c.l && (c.t == c.t)) = true := by rw [sameL_self]; simp
           rw [hsq]
           have HBb : Hid (Below W8.heap.size W8 wb) := ⟨hb.os, hb.tape, hb.output, hb.size, hb.block⟩
           clear hb hsq)
        | (go_at_call 25
           refine (H1.out _ (by refine Below.trans HBb.out (Below.mono ?_ HBb.out.size); repeat (first | exact Below.refl _ _ | refine Below.drew ?_ | refine below_drewN ?_ _))).mono ?_
           rintro e wc ⟨rfl, hb⟩
           have hbc : Below wb.heap.size wb wc := ⟨hb.os, hb.tape, hb.output, hb.size, hb.block⟩
           have HBc : Hid (Below W8.heap.size W8 wc) := HBb.out.trans (hbc.mono HBb.out.size)
           clear hb hbc)
        | (go_at_call 26
           refine (H2.out _ (by refine Below.trans HBc.out (Below.mono ?_ HBc.out.size); repeat (first | exact Below.refl _ _ | refine Below.drew ?_ | refine below_drewN ?_ _))).mono ?_
           rintro e wd ⟨rfl, hb⟩
           have hbd : Below wc.heap.size wc wd := ⟨hb.os, hb.tape, hb.output, hb.size, hb.block⟩
           have HBd : Hid (Below W8.heap.size W8 wd) := HBc.out.trans (hbd.mono HBc.out.size)
           clear hb hbd))
    all_goals (try go_wp2_with fail)
    all_goals go_meet
    all_goals exact ⟨rfl, HBd.out⟩
  case rest =>
    obtain ⟨rfl, hbc⟩ := hcut
    have HB9 : Hid (Below w.heap.size w wc) := HB8.out.trans (hbc.mono HB8.out.size)
    have HN9 : Hid (NineBox wc w.heap.size x y z) := HN8.out.below hbc hl8
    have HR9 : Hid (QBox wc (w.heap.size + 1) (.slice a l.length cap) t) := HR8.out.below hbc HR8.out.lt
    have hl9 : w.heap.size < wc.heap.size := by have := HR9.out.lt; omega
    clear hbc HB8 HN8 HR8 HX8 HY8 HSX8 HSY8 hl8
    go_wp2_with fail
    have keepH : Hid (∀ W, Below wc.heap.size wc W → (W.cell? ⟨w.heap.size, 0, none⟩ = some (.bool x.is) ∧ W.cell? ⟨w.heap.size, 1, none⟩ = some (.slice x.a x.l.length x.cap) ∧ W.cell? ⟨w.heap.size, 2, none⟩ = some (.int .i64 x.t) ∧ W.cell? ⟨w.heap.size, 3, none⟩ = some (.bool y.is) ∧ W.cell? ⟨w.heap.size, 4, none⟩ = some (.slice y.a y.l.length y.cap) ∧ W.cell? ⟨w.heap.size, 5, none⟩ = some (.int .i64 y.t) ∧ W.cell? ⟨w.heap.size, 6, none⟩ = some (.bool z.is) ∧ W.cell? ⟨w.heap.size, 7, none⟩ = some (.slice z.a z.l.length z.cap) ∧ W.cell? ⟨w.heap.size, 8, none⟩ = some (.int .i64 z.t) ∧ W.cell? ⟨w.heap.size + 1, 0, none⟩ = some (.slice a l.length cap) ∧ W.cell? ⟨w.heap.size + 1, 1, none⟩ = some (.int .i64 t))) := fun W h => by
      have h1 := HN9.out.below h hl9
      have h3 := HR9.out.below h HR9.out.lt
      exact ⟨h1.x0, h1.x1, h1.x2, h1.y0, h1.y1, h1.y2, h1.z0, h1.z1, h1.z2, h3.c0, h3.c1⟩
    have H1 : Hid _ := fun (W : World) (h : Below wc.heap.size wc W) => wrong_any x y z a cap l t W (KX.out.below (HB9.out.trans (h.mono HB9.out.size))) (KY.out.below (HB9.out.trans (h.mono HB9.out.size))) (KZ.out.below (HB9.out.trans (h.mono HB9.out.size))) (KQ.out.below (HB9.out.trans (h.mono HB9.out.size)))
    have H2 : Hid _ := fun (W : World) (h : Below wc.heap.size wc W) => wrongOf_any x y z a cap l t W (KX.out.below (HB9.out.trans (h.mono HB9.out.size))) (KY.out.below (HB9.out.trans (h.mono HB9.out.size))) (KZ.out.below (HB9.out.trans (h.mono HB9.out.size))) (KQ.out.below (HB9.out.trans (h.mono HB9.out.size)))
    have hwl : (wrongL x y z (rightC a cap l t)).length ≤ 1000 := by
      have := wrongTo_len x y z (rightC a cap l t) 3
      have e : wrongTo x y z (rightC a cap l t) 3 = wrongL x y z (rightC a cap l t) := rfl
      rw [e] at this
      omega
    generalize wrongL x y z (rightC a cap l t) = L at *
    go_region_held3 (fun W => W.cell? ⟨w.heap.size, 0, none⟩ = some (.bool x.is) ∧ W.cell? ⟨w.heap.size, 1, none⟩ = some (.slice x.a x.l.length x.cap) ∧ W.cell? ⟨w.heap.size, 2, none⟩ = some (.int .i64 x.t) ∧ W.cell? ⟨w.heap.size, 3, none⟩ = some (.bool y.is) ∧ W.cell? ⟨w.heap.size, 4, none⟩ = some (.slice y.a y.l.length y.cap) ∧ W.cell? ⟨w.heap.size, 5, none⟩ = some (.int .i64 y.t) ∧ W.cell? ⟨w.heap.size, 6, none⟩ = some (.bool z.is) ∧ W.cell? ⟨w.heap.size, 7, none⟩ = some (.slice z.a z.l.length z.cap) ∧ W.cell? ⟨w.heap.size, 8, none⟩ = some (.int .i64 z.t) ∧ W.cell? ⟨w.heap.size + 1, 0, none⟩ = some (.slice a l.length cap) ∧ W.cell? ⟨w.heap.size + 1, 1, none⟩ = some (.int .i64 t))
      (first | exact keepH.out _ (Below.drew (Below.refl _ _)) | exact keepH.out _ HBz.out | exact keepH.out _ HBb.out | exact keepH.out _ HBa.out)
      (first
        | (go_at_call 28
           refine (H1.out _ (by repeat (first | exact Below.refl _ _ | refine Below.drew ?_ | refine below_drewN ?_ _))).mono ?_
           rintro e wa ⟨v1, rfl, ho, hb⟩
           obtain ⟨a1, c1, rfl, hn1⟩ := OwnsN.nums ho
           have HBa : Hid (Below wc.heap.size wc wa) := ⟨hb.os, hb.tape, hb.output, hb.size, hb.block⟩
           have HNa : Hid (Nums wa a1 L) := hn1
           clear ho hb hn1)
        | (go_at_call 29
           refine (H2.out _ (by refine Below.trans HBa.out (Below.mono ?_ HBa.out.size); repeat (first | exact Below.refl _ _ | refine Below.drew ?_ | refine below_drewN ?_ _))).mono ?_
           rintro e wb ⟨v2, rfl, ho, hb⟩
           obtain ⟨a2, c2, rfl, hn2⟩ := OwnsN.nums ho
           have hbab : Below wa.heap.size wa wb := ⟨hb.os, hb.tape, hb.output, hb.size, hb.block⟩
           have HBb : Hid (Below wc.heap.size wc wb) := HBa.out.trans (hbab.mono HBa.out.size)
           have HNb : Hid (Nums wb a1 L) := HNa.out.below hbab
           have HNb2 : Hid (Nums wb a2 L) := hn2
           clear ho hb hn2 hbab)
        | (go_at_call 27
           refine (sameNumbers_self a1 a2 c1 c2 L _ hwl (by refine HNb.out.below ?_; repeat (first | exact Below.refl _ _ | refine Below.drew ?_ | refine below_drewN ?_ _)) (by refine HNb2.out.below ?_; repeat (first | exact Below.refl _ _ | refine Below.drew ?_ | refine below_drewN ?_ _))).mono ?_
           rintro e wz ⟨rfl, nd, hwz⟩
           have hbz : Below wb.heap.size wb wz := by
             rw [hwz]
             refine below_drewN ?_ _
             repeat (first | exact Below.refl _ _ | refine Below.drew ?_ | refine below_drewN ?_ _)
           have HBz : Hid (Below wc.heap.size wc wz) := HBb.out.trans (hbz.mono HBb.out.size)
           clear hwz hbz))
    all_goals go_wp2
    all_goals go_ret
    all_goals exact ⟨rfl, HB9.out.trans (HBz.out.mono HB9.out.size)⟩
end Go.Proofs.Ytihnghnafpgdfac
