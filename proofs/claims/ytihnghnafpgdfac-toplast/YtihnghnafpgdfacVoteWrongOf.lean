/-
  THE WALK OF THE DOCUMENT's ANSWER TO J2.
-/
import Derived.Test.YtihnghnafpgdfacVoteWrong
import Derived.Deep.RegionHeld3
namespace Go.Proofs.Ytihnghnafpgdfac
open Go.RowKit
set_option linter.unusedVariables false
set_option linter.unusedSimpArgs false

/-- Three copies in a block. -/
structure NineBox (w : World) (b : Nat) (x y z : Co) : Prop where
  x0 : w.cell? ⟨b, 0, none⟩ = some (.bool x.is)
  x1 : w.cell? ⟨b, 1, none⟩ = some (.slice x.a x.l.length x.cap)
  x2 : w.cell? ⟨b, 2, none⟩ = some (.int .i64 x.t)
  y0 : w.cell? ⟨b, 3, none⟩ = some (.bool y.is)
  y1 : w.cell? ⟨b, 4, none⟩ = some (.slice y.a y.l.length y.cap)
  y2 : w.cell? ⟨b, 5, none⟩ = some (.int .i64 y.t)
  z0 : w.cell? ⟨b, 6, none⟩ = some (.bool z.is)
  z1 : w.cell? ⟨b, 7, none⟩ = some (.slice z.a z.l.length z.cap)
  z2 : w.cell? ⟨b, 8, none⟩ = some (.int .i64 z.t)
theorem NineBox.below {w w' : World} {b : Nat} {x y z : Co} (h : NineBox w b x y z) {B : Nat} (hb : Below B w w') (hB : b < B) : NineBox w' b x y z :=
  ⟨by rw [hb.cell hB]; exact h.x0, by rw [hb.cell hB]; exact h.x1, by rw [hb.cell hB]; exact h.x2, by rw [hb.cell hB]; exact h.y0, by rw [hb.cell hB]; exact h.y1, by rw [hb.cell hB]; exact h.y2, by rw [hb.cell hB]; exact h.z0, by rw [hb.cell hB]; exact h.z1, by rw [hb.cell hB]; exact h.z2⟩
theorem NineBox.new (w : World) (x y z : Co) (T : TypeId) : NineBox (w.alloc (Obj.cells #[.bool x.is, .slice x.a x.l.length x.cap, .int .i64 x.t, .bool y.is, .slice y.a y.l.length y.cap, .int .i64 y.t, .bool z.is, .slice z.a z.l.length z.cap, .int .i64 z.t] T)) w.heap.size x y z :=
  ⟨by simp, by simp, by simp, by simp, by simp, by simp, by simp, by simp, by simp⟩
theorem two_new (W : World) (u v : Value) (b : Nat) (T : TypeId) (hb : b = W.heap.size) : (W.alloc (Obj.cells #[u, v] T)).cell? ⟨b, 0, none⟩ = some u ∧ (W.alloc (Obj.cells #[u, v] T)).cell? ⟨b, 1, none⟩ = some v := by
  subst hb
  exact ⟨by simp, by simp⟩

set_option maxRecDepth 100000 in
set_option maxHeartbeats 4000000 in
theorem wrongOf_any (x y z : Co) (a : Option Addr) (cap : Nat) (l : List Fi) (t : Int) (w : World) (hx : CoOk w x) (hy : CoOk w y) (hz : CoOk w z) (hq : CoOk w (rightC a cap l t)) :
    Calls Try.prog 29 #[threeV x y z, .agg #[.slice a l.length cap, .int .i64 t]] w fun e w' => ∃ v, e = .returned v ∧ OwnsN w' w.heap.size v (wrongL x y z (rightC a cap l t)) ∧ Below w.heap.size w w' := by
  obtain ⟨i0, hi, hz0, hz1, hz2'⟩ := info_parts Try.infoInt
  have HX : Hid (CoOk w x) := hx
  have HY : Hid (CoOk w y) := hy
  have HZ : Hid (CoOk w z) := hz
  have HQ : Hid (CoOk w (rightC a cap l t)) := hq
  clear hx hy hz hq
  go_enter Try.func29, Try.ntmps29
  go_wp2_with fail
  obtain ⟨w0, hw0⟩ : ∃ u, u = ((w.alloc (Obj.cells #[Value.bool x.is, Value.slice x.a x.l.length x.cap, Value.int IntKind.i64 x.t, Value.bool y.is, Value.slice y.a y.l.length y.cap, Value.int IntKind.i64 y.t, Value.bool z.is, Value.slice z.a z.l.length z.cap, Value.int IntKind.i64 z.t] 49)).alloc
    (Obj.cells #[Value.slice a l.length cap, Value.int IntKind.i64 t] 46)) := ⟨_, rfl⟩
  have HB0 : Hid (Below w.heap.size w w0) := by rw [hw0]; exact ((Below.refl _ _).alloc (Nat.le_refl _) _).alloc (by simp) _
  have HZ0 : Hid (w0.heap.size = w.heap.size + 2) := by rw [hw0]; show _ = _; simp
  have HR : Hid (NineBox w0 w.heap.size x y z ∧ w0.cell? ⟨w.heap.size + 1, 0, none⟩ = some (.slice a l.length cap) ∧ w0.cell? ⟨w.heap.size + 1, 1, none⟩ = some (.int .i64 t)) := by
    rw [hw0]
    exact ⟨(NineBox.new w x y z _).below ((Below.refl _ _).alloc (Nat.le_refl _) _) (by simp), two_new _ _ _ _ _ (by simp)⟩
  rw [← hw0]
  clear hw0
  go_loopg [5, 6] 4 (fun kx vp vi wr => ∃ k : Nat, vi = .int .i64 k ∧ k ≤ 3 ∧ 3 - k ≤ kx ∧ Hid (OwnsN wr (w.heap.size + 2) vp (wrongTo x y z (rightC a cap l t) k)) ∧ Hid (Below (w.heap.size + 2) w0 wr))
  case atStart => exact ⟨0, rfl, by omega, by omega, World.ownsRow_nil _ _ _ _, Below.refl _ _⟩
  case round =>
    obtain ⟨k, rfl, hk, hkx, HO, HB⟩ := hrel
    have HBW : Hid (Below w.heap.size w wr) := HB0.out.trans (HB.out.mono (by omega))
    have hzw := HZ0.out
    by_cases h0 : k = 0
    · subst h0
      have kc := fun W (h : Below wr.heap.size wr W) => sameCopy_any x (rightC a cap l t) W (HX.out.below (HBW.out.trans (h.mono HBW.out.size))) (HQ.out.below (HBW.out.trans (h.mono HBW.out.size)))
      have hzr := HB.out.size
      have keepH : Hid (∀ W, Below wr.heap.size wr W → (W.cell? ⟨w.heap.size, 0, none⟩ = some (.bool x.is) ∧ W.cell? ⟨w.heap.size, 1, none⟩ = some (.slice x.a x.l.length x.cap) ∧ W.cell? ⟨w.heap.size, 2, none⟩ = some (.int .i64 x.t) ∧ W.cell? ⟨w.heap.size + 1, 0, none⟩ = some (.slice a l.length cap) ∧ W.cell? ⟨w.heap.size + 1, 1, none⟩ = some (.int .i64 t) ∧ Hid (Below wr.heap.size wr W))) := fun W h => by
        have h1 : Below (w.heap.size + 2) w0 W := HB.out.trans (h.mono (by omega))
        obtain ⟨nb, q0, q1⟩ := HR.out
        exact ⟨by rw [h1.cell (by simp)]; exact nb.x0, by rw [h1.cell (by simp)]; exact nb.x1, by rw [h1.cell (by simp)]; exact nb.x2, by rw [h1.cell (by simp)]; exact q0, by rw [h1.cell (by simp)]; exact q1, h⟩
      cases hs : sameCo x (rightC a cap l t)
      · rw [hs] at kc
        have kcH : Hid (∀ W, Below wr.heap.size wr W → Calls Try.prog 26 _ W _) := kc
        clear kc
        go_wp2_with fail
        go_region_held3 (fun W => W.cell? ⟨w.heap.size, 0, none⟩ = some (.bool x.is) ∧ W.cell? ⟨w.heap.size, 1, none⟩ = some (.slice x.a x.l.length x.cap) ∧ W.cell? ⟨w.heap.size, 2, none⟩ = some (.int .i64 x.t) ∧ W.cell? ⟨w.heap.size + 1, 0, none⟩ = some (.slice a l.length cap) ∧ W.cell? ⟨w.heap.size + 1, 1, none⟩ = some (.int .i64 t) ∧ Hid (Below wr.heap.size wr W))
          (first | exact keepH.out _ (Below.drew (Below.refl _ _)) | exact keepH.out _ hbW.out)
          (first
            | (go_at_call 26
               refine (kcH.out _ (‹_ ∧ _ ∧ _ ∧ _ ∧ _ ∧ Hid (Below wr.heap.size wr _)›).2.2.2.2.2.out).mono ?_
               rintro e wa ⟨rfl, hb⟩
               have hbW : Hid (Below wr.heap.size wr wa) := Below.trans (‹_ ∧ _ ∧ _ ∧ _ ∧ _ ∧ Hid (Below wr.heap.size wr _)›).2.2.2.2.2.out (hb.mono (‹_ ∧ _ ∧ _ ∧ _ ∧ _ ∧ Hid (Below wr.heap.size wr _)›).2.2.2.2.2.out.size)
               clear hb))
        have HB2 : Hid (Below (w.heap.size + 2) w0 wa) := HB.out.trans (hbW.out.mono (by omega))
        have HO2 : Hid (OwnsN wa (w.heap.size + 2) u5 (wrongTo x y z (rightC a cap l t) 0)) := OwnsN.below HO.out hbW.out
        have hz2 := HB2.out.size
        clear kcH keepH
        go_wp2_with (at_builtin; refine wpList_append_own _ rfl _ _ 59 rfl (w.heap.size + 2) 3 i0 _ 1 8 Try.underlying59 hi hz0 hz1 hz2' rfl (by decide) _ _ _ rfl (HO2.out.alloc _) ⟨wa.heap.size, 0, none⟩ 1 1 [.int .i64 0] rfl rfl (cell_one_newN _ _ _) (by intro u hu; simp at hu; subst hu; rfl) (by unfold maxLen; have := wrongTo_len x y z (rightC a cap l t) 0; omega) (by have := wrongTo_len x y z (rightC a cap l t) 0; omega) (by simp; omega) ?_; intro v3 w3 hown3 hgrow3 hnil3)
        go_wp2
        go_roundg (3 - (0 + 1))
        case measure => omega
        case rel =>
          refine ⟨0 + 1, by go_num, by omega, Nat.le_refl _, ?_, (HB2.out.alloc (by omega) _).grown hgrow3 (by simp; omega) (fun q hq => (HO2.out.lt q hq).1)⟩
          show OwnsN _ _ _ _
          have e : wrongTo x y z (rightC a cap l t) (0 + 1) = wrongTo x y z (rightC a cap l t) 0 ++ [0] := by simp [wrongTo, wrongL, hs]
          rw [e]
          exact OwnsN.snoc hown3
      · rw [hs] at kc
        have kcH : Hid (∀ W, Below wr.heap.size wr W → Calls Try.prog 26 _ W _) := kc
        clear kc
        go_wp2_with fail
        go_region_held3 (fun W => W.cell? ⟨w.heap.size, 0, none⟩ = some (.bool x.is) ∧ W.cell? ⟨w.heap.size, 1, none⟩ = some (.slice x.a x.l.length x.cap) ∧ W.cell? ⟨w.heap.size, 2, none⟩ = some (.int .i64 x.t) ∧ W.cell? ⟨w.heap.size + 1, 0, none⟩ = some (.slice a l.length cap) ∧ W.cell? ⟨w.heap.size + 1, 1, none⟩ = some (.int .i64 t) ∧ Hid (Below wr.heap.size wr W))
          (first | exact keepH.out _ (Below.drew (Below.refl _ _)) | exact keepH.out _ hbW.out)
          (first
            | (go_at_call 26
               refine (kcH.out _ (‹_ ∧ _ ∧ _ ∧ _ ∧ _ ∧ Hid (Below wr.heap.size wr _)›).2.2.2.2.2.out).mono ?_
               rintro e wa ⟨rfl, hb⟩
               have hbW : Hid (Below wr.heap.size wr wa) := Below.trans (‹_ ∧ _ ∧ _ ∧ _ ∧ _ ∧ Hid (Below wr.heap.size wr _)›).2.2.2.2.2.out (hb.mono (‹_ ∧ _ ∧ _ ∧ _ ∧ _ ∧ Hid (Below wr.heap.size wr _)›).2.2.2.2.2.out.size)
               clear hb))
        have HB2 : Hid (Below (w.heap.size + 2) w0 wa) := HB.out.trans (hbW.out.mono (by omega))
        have HO2 : Hid (OwnsN wa (w.heap.size + 2) u5 (wrongTo x y z (rightC a cap l t) 0)) := OwnsN.below HO.out hbW.out
        have hz2 := HB2.out.size
        clear kcH keepH
        go_wp2
        go_roundg (3 - (0 + 1))
        case measure => omega
        case rel =>
          refine ⟨0 + 1, by go_num, by omega, Nat.le_refl _, ?_, HB2⟩
          have e : wrongTo x y z (rightC a cap l t) (0 + 1) = wrongTo x y z (rightC a cap l t) 0 := by simp [wrongTo, wrongL, hs]
          rw [e]
          exact HO2
    · by_cases h1 : k = 1
      · subst h1
        have kc := fun W (h : Below wr.heap.size wr W) => sameCopy_any y (rightC a cap l t) W (HY.out.below (HBW.out.trans (h.mono HBW.out.size))) (HQ.out.below (HBW.out.trans (h.mono HBW.out.size)))
        have hzr := HB.out.size
        have keepH : Hid (∀ W, Below wr.heap.size wr W → (W.cell? ⟨w.heap.size, 3, none⟩ = some (.bool y.is) ∧ W.cell? ⟨w.heap.size, 4, none⟩ = some (.slice y.a y.l.length y.cap) ∧ W.cell? ⟨w.heap.size, 5, none⟩ = some (.int .i64 y.t) ∧ W.cell? ⟨w.heap.size + 1, 0, none⟩ = some (.slice a l.length cap) ∧ W.cell? ⟨w.heap.size + 1, 1, none⟩ = some (.int .i64 t) ∧ Hid (Below wr.heap.size wr W))) := fun W h => by
          have h1 : Below (w.heap.size + 2) w0 W := HB.out.trans (h.mono (by omega))
          obtain ⟨nb, q0, q1⟩ := HR.out
          exact ⟨by rw [h1.cell (by simp)]; exact nb.y0, by rw [h1.cell (by simp)]; exact nb.y1, by rw [h1.cell (by simp)]; exact nb.y2, by rw [h1.cell (by simp)]; exact q0, by rw [h1.cell (by simp)]; exact q1, h⟩
        cases hs : sameCo y (rightC a cap l t)
        · rw [hs] at kc
          have kcH : Hid (∀ W, Below wr.heap.size wr W → Calls Try.prog 26 _ W _) := kc
          clear kc
          go_wp2_with fail
          go_region_held3 (fun W => W.cell? ⟨w.heap.size, 3, none⟩ = some (.bool y.is) ∧ W.cell? ⟨w.heap.size, 4, none⟩ = some (.slice y.a y.l.length y.cap) ∧ W.cell? ⟨w.heap.size, 5, none⟩ = some (.int .i64 y.t) ∧ W.cell? ⟨w.heap.size + 1, 0, none⟩ = some (.slice a l.length cap) ∧ W.cell? ⟨w.heap.size + 1, 1, none⟩ = some (.int .i64 t) ∧ Hid (Below wr.heap.size wr W))
            (first | exact keepH.out _ (Below.drew (Below.refl _ _)) | exact keepH.out _ hbW.out)
            (first
              | (go_at_call 26
                 refine (kcH.out _ (‹_ ∧ _ ∧ _ ∧ _ ∧ _ ∧ Hid (Below wr.heap.size wr _)›).2.2.2.2.2.out).mono ?_
                 rintro e wa ⟨rfl, hb⟩
                 have hbW : Hid (Below wr.heap.size wr wa) := Below.trans (‹_ ∧ _ ∧ _ ∧ _ ∧ _ ∧ Hid (Below wr.heap.size wr _)›).2.2.2.2.2.out (hb.mono (‹_ ∧ _ ∧ _ ∧ _ ∧ _ ∧ Hid (Below wr.heap.size wr _)›).2.2.2.2.2.out.size)
                 clear hb))
          have HB2 : Hid (Below (w.heap.size + 2) w0 wa) := HB.out.trans (hbW.out.mono (by omega))
          have HO2 : Hid (OwnsN wa (w.heap.size + 2) u5 (wrongTo x y z (rightC a cap l t) 1)) := OwnsN.below HO.out hbW.out
          have hz2 := HB2.out.size
          clear kcH keepH
          go_wp2_with (at_builtin; refine wpList_append_own _ rfl _ _ 59 rfl (w.heap.size + 2) 3 i0 _ 1 8 Try.underlying59 hi hz0 hz1 hz2' rfl (by decide) _ _ _ rfl (HO2.out.alloc _) ⟨wa.heap.size, 0, none⟩ 1 1 [.int .i64 1] rfl rfl (cell_one_newN _ _ _) (by intro u hu; simp at hu; subst hu; rfl) (by unfold maxLen; have := wrongTo_len x y z (rightC a cap l t) 1; omega) (by have := wrongTo_len x y z (rightC a cap l t) 1; omega) (by simp; omega) ?_; intro v3 w3 hown3 hgrow3 hnil3)
          go_wp2
          go_roundg (3 - (1 + 1))
          case measure => omega
          case rel =>
            refine ⟨1 + 1, by go_num, by omega, Nat.le_refl _, ?_, (HB2.out.alloc (by omega) _).grown hgrow3 (by simp; omega) (fun q hq => (HO2.out.lt q hq).1)⟩
            show OwnsN _ _ _ _
            have e : wrongTo x y z (rightC a cap l t) (1 + 1) = wrongTo x y z (rightC a cap l t) 1 ++ [1] := by simp [wrongTo, wrongL, hs]
            rw [e]
            exact OwnsN.snoc hown3
        · rw [hs] at kc
          have kcH : Hid (∀ W, Below wr.heap.size wr W → Calls Try.prog 26 _ W _) := kc
          clear kc
          go_wp2_with fail
          go_region_held3 (fun W => W.cell? ⟨w.heap.size, 3, none⟩ = some (.bool y.is) ∧ W.cell? ⟨w.heap.size, 4, none⟩ = some (.slice y.a y.l.length y.cap) ∧ W.cell? ⟨w.heap.size, 5, none⟩ = some (.int .i64 y.t) ∧ W.cell? ⟨w.heap.size + 1, 0, none⟩ = some (.slice a l.length cap) ∧ W.cell? ⟨w.heap.size + 1, 1, none⟩ = some (.int .i64 t) ∧ Hid (Below wr.heap.size wr W))
            (first | exact keepH.out _ (Below.drew (Below.refl _ _)) | exact keepH.out _ hbW.out)
            (first
              | (go_at_call 26
                 refine (kcH.out _ (‹_ ∧ _ ∧ _ ∧ _ ∧ _ ∧ Hid (Below wr.heap.size wr _)›).2.2.2.2.2.out).mono ?_
                 rintro e wa ⟨rfl, hb⟩
                 have hbW : Hid (Below wr.heap.size wr wa) := Below.trans (‹_ ∧ _ ∧ _ ∧ _ ∧ _ ∧ Hid (Below wr.heap.size wr _)›).2.2.2.2.2.out (hb.mono (‹_ ∧ _ ∧ _ ∧ _ ∧ _ ∧ Hid (Below wr.heap.size wr _)›).2.2.2.2.2.out.size)
                 clear hb))
          have HB2 : Hid (Below (w.heap.size + 2) w0 wa) := HB.out.trans (hbW.out.mono (by omega))
          have HO2 : Hid (OwnsN wa (w.heap.size + 2) u5 (wrongTo x y z (rightC a cap l t) 1)) := OwnsN.below HO.out hbW.out
          have hz2 := HB2.out.size
          clear kcH keepH
          go_wp2
          go_roundg (3 - (1 + 1))
          case measure => omega
          case rel =>
            refine ⟨1 + 1, by go_num, by omega, Nat.le_refl _, ?_, HB2⟩
            have e : wrongTo x y z (rightC a cap l t) (1 + 1) = wrongTo x y z (rightC a cap l t) 1 := by simp [wrongTo, wrongL, hs]
            rw [e]
            exact HO2
      · by_cases h2 : k = 2
        · subst h2
          have kc := fun W (h : Below wr.heap.size wr W) => sameCopy_any z (rightC a cap l t) W (HZ.out.below (HBW.out.trans (h.mono HBW.out.size))) (HQ.out.below (HBW.out.trans (h.mono HBW.out.size)))
          have hzr := HB.out.size
          have keepH : Hid (∀ W, Below wr.heap.size wr W → (W.cell? ⟨w.heap.size, 6, none⟩ = some (.bool z.is) ∧ W.cell? ⟨w.heap.size, 7, none⟩ = some (.slice z.a z.l.length z.cap) ∧ W.cell? ⟨w.heap.size, 8, none⟩ = some (.int .i64 z.t) ∧ W.cell? ⟨w.heap.size + 1, 0, none⟩ = some (.slice a l.length cap) ∧ W.cell? ⟨w.heap.size + 1, 1, none⟩ = some (.int .i64 t) ∧ Hid (Below wr.heap.size wr W))) := fun W h => by
            have h1 : Below (w.heap.size + 2) w0 W := HB.out.trans (h.mono (by omega))
            obtain ⟨nb, q0, q1⟩ := HR.out
            exact ⟨by rw [h1.cell (by simp)]; exact nb.z0, by rw [h1.cell (by simp)]; exact nb.z1, by rw [h1.cell (by simp)]; exact nb.z2, by rw [h1.cell (by simp)]; exact q0, by rw [h1.cell (by simp)]; exact q1, h⟩
          cases hs : sameCo z (rightC a cap l t)
          · rw [hs] at kc
            have kcH : Hid (∀ W, Below wr.heap.size wr W → Calls Try.prog 26 _ W _) := kc
            clear kc
            go_wp2_with fail
            go_region_held3 (fun W => W.cell? ⟨w.heap.size, 6, none⟩ = some (.bool z.is) ∧ W.cell? ⟨w.heap.size, 7, none⟩ = some (.slice z.a z.l.length z.cap) ∧ W.cell? ⟨w.heap.size, 8, none⟩ = some (.int .i64 z.t) ∧ W.cell? ⟨w.heap.size + 1, 0, none⟩ = some (.slice a l.length cap) ∧ W.cell? ⟨w.heap.size + 1, 1, none⟩ = some (.int .i64 t) ∧ Hid (Below wr.heap.size wr W))
              (first | exact keepH.out _ (Below.drew (Below.refl _ _)) | exact keepH.out _ hbW.out)
              (first
                | (go_at_call 26
                   refine (kcH.out _ (‹_ ∧ _ ∧ _ ∧ _ ∧ _ ∧ Hid (Below wr.heap.size wr _)›).2.2.2.2.2.out).mono ?_
                   rintro e wa ⟨rfl, hb⟩
                   have hbW : Hid (Below wr.heap.size wr wa) := Below.trans (‹_ ∧ _ ∧ _ ∧ _ ∧ _ ∧ Hid (Below wr.heap.size wr _)›).2.2.2.2.2.out (hb.mono (‹_ ∧ _ ∧ _ ∧ _ ∧ _ ∧ Hid (Below wr.heap.size wr _)›).2.2.2.2.2.out.size)
                   clear hb))
            have HB2 : Hid (Below (w.heap.size + 2) w0 wa) := HB.out.trans (hbW.out.mono (by omega))
            have HO2 : Hid (OwnsN wa (w.heap.size + 2) u5 (wrongTo x y z (rightC a cap l t) 2)) := OwnsN.below HO.out hbW.out
            have hz2 := HB2.out.size
            clear kcH keepH
            go_wp2_with (at_builtin; refine wpList_append_own _ rfl _ _ 59 rfl (w.heap.size + 2) 3 i0 _ 1 8 Try.underlying59 hi hz0 hz1 hz2' rfl (by decide) _ _ _ rfl (HO2.out.alloc _) ⟨wa.heap.size, 0, none⟩ 1 1 [.int .i64 2] rfl rfl (cell_one_newN _ _ _) (by intro u hu; simp at hu; subst hu; rfl) (by unfold maxLen; have := wrongTo_len x y z (rightC a cap l t) 2; omega) (by have := wrongTo_len x y z (rightC a cap l t) 2; omega) (by simp; omega) ?_; intro v3 w3 hown3 hgrow3 hnil3)
            go_wp2
            go_roundg (3 - (2 + 1))
            case measure => omega
            case rel =>
              refine ⟨2 + 1, by go_num, by omega, Nat.le_refl _, ?_, (HB2.out.alloc (by omega) _).grown hgrow3 (by simp; omega) (fun q hq => (HO2.out.lt q hq).1)⟩
              show OwnsN _ _ _ _
              have e : wrongTo x y z (rightC a cap l t) (2 + 1) = wrongTo x y z (rightC a cap l t) 2 ++ [2] := by simp [wrongTo, wrongL, hs]
              rw [e]
              exact OwnsN.snoc hown3
          · rw [hs] at kc
            have kcH : Hid (∀ W, Below wr.heap.size wr W → Calls Try.prog 26 _ W _) := kc
            clear kc
            go_wp2_with fail
            go_region_held3 (fun W => W.cell? ⟨w.heap.size, 6, none⟩ = some (.bool z.is) ∧ W.cell? ⟨w.heap.size, 7, none⟩ = some (.slice z.a z.l.length z.cap) ∧ W.cell? ⟨w.heap.size, 8, none⟩ = some (.int .i64 z.t) ∧ W.cell? ⟨w.heap.size + 1, 0, none⟩ = some (.slice a l.length cap) ∧ W.cell? ⟨w.heap.size + 1, 1, none⟩ = some (.int .i64 t) ∧ Hid (Below wr.heap.size wr W))
              (first | exact keepH.out _ (Below.drew (Below.refl _ _)) | exact keepH.out _ hbW.out)
              (first
                | (go_at_call 26
                   refine (kcH.out _ (‹_ ∧ _ ∧ _ ∧ _ ∧ _ ∧ Hid (Below wr.heap.size wr _)›).2.2.2.2.2.out).mono ?_
                   rintro e wa ⟨rfl, hb⟩
                   have hbW : Hid (Below wr.heap.size wr wa) := Below.trans (‹_ ∧ _ ∧ _ ∧ _ ∧ _ ∧ Hid (Below wr.heap.size wr _)›).2.2.2.2.2.out (hb.mono (‹_ ∧ _ ∧ _ ∧ _ ∧ _ ∧ Hid (Below wr.heap.size wr _)›).2.2.2.2.2.out.size)
                   clear hb))
            have HB2 : Hid (Below (w.heap.size + 2) w0 wa) := HB.out.trans (hbW.out.mono (by omega))
            have HO2 : Hid (OwnsN wa (w.heap.size + 2) u5 (wrongTo x y z (rightC a cap l t) 2)) := OwnsN.below HO.out hbW.out
            have hz2 := HB2.out.size
            clear kcH keepH
            go_wp2
            go_roundg (3 - (2 + 1))
            case measure => omega
            case rel =>
              refine ⟨2 + 1, by go_num, by omega, Nat.le_refl _, ?_, HB2⟩
              have e : wrongTo x y z (rightC a cap l t) (2 + 1) = wrongTo x y z (rightC a cap l t) 2 := by simp [wrongTo, wrongL, hs]
              rw [e]
              exact HO2
        · have h3 : k = 3 := by omega
          subst h3
          go_wp2
          go_ret
          exact ⟨_, rfl, HO.out.base (by omega), HBW.out⟩
end Go.Proofs.Ytihnghnafpgdfac
