/-
  THE WALK OF TopThree: it returns true.
-/
import Derived.Test.YtihnghnafpgdfacGreatDoorPk38
import Derived.Deep.RegionHeld3
import Derived.BigQuiet
namespace Go.Proofs.YtihnghnafpgdfacGreatDoor
open Go Go.RowKit Go.BigFrame
set_option linter.unusedVariables false
set_option linter.unusedSimpArgs false

set_option maxRecDepth 100000 in
set_option maxHeartbeats 1000000 in
theorem topThree_any (a : Option Addr) (cap : Nat) (L : List Ac)  (w : World) (hm : L.length ≤ maxLen) (hs : ActCells w a L)  (hv : Vars w) :
    Calls Tryz.prog 4 #[.slice a L.length cap] w fun e w' => e = .returned (.bool true) ∧ Below w.heap.size w w' := by
  have HA : Hid (ActCells w a L) := hs
  have HV : Hid (VarsLo w.heap.size w) := ⟨w, hv, Nat.le_refl _, Below.refl _ _⟩
  have KW : Hid _ := works_any w HV.out
  clear hs hv
  go_enter Tryz.func4, Tryz.ntmps4
  go_wp2_with fail
  refine Calls.mono KW.out ?_
  rintro e w1 ⟨rfl, hb1⟩
  have HB1 : Hid (Below w.heap.size w w1) := hb1
  have KP : Hid _ := played_any a cap L w1 hm (HA.out.below hb1) ((HV.out.go hb1).mono hb1.size)
  clear hb1 KW
  go_wp2_with fail
  refine Calls.mono KP.out ?_
  rintro e w2 ⟨hb2, P, D, tb, so, aq, cq, l, t, v, ok, rfl, hok, hw⟩
  obtain ⟨W, hW⟩ : ∃ y, y = w2.alloc (.cells #[dptr (P 0), dptr (P 1), dptr (P 2)] 26) := ⟨_, rfl⟩
  have hb3 : Below w2.heap.size w2 W := by rw [hW]; exact (Below.refl _ _).alloc (Nat.le_refl _) _
  have HB : Hid (Below w.heap.size w W) := HB1.out.trans ((hb2.trans (hb3.mono hb2.size)).mono HB1.out.size)
  have HL1 : Hid (w.heap.size ≤ w1.heap.size ∧ w1.heap.size ≤ W.heap.size) := ⟨HB1.out.size, Nat.le_trans hb2.size hb3.size⟩
  have HD : Hid (DBox W w2.heap.size (dptr (P 0)) (dptr (P 1)) (dptr (P 2))) := by rw [hW]; exact DBox.new w2 _ _ _
  have HW : Hid (Well w1.heap.size W P D tb so aq cq l t) := hw.below hb3
  have HK : Hid (ok = true → v = .pointer (some ⟨tb, 0, none⟩)) := hok
  have H8 : Hid (l.length ≤ 8) := hw.life.good.files.few
  clear hb2 hb3 hok hw KP
  go_upto_region 5 with fail
  rw [← hW]
  clear hW
  cases ok with
  | false =>
    go_wp2
    go_ret
    exact ⟨rfl, HB.out⟩
  | true =>
  obtain rfl := HK.out rfl
  have KQ : Hid _ := quilt_here P tb so aq cq l t W HW.out.life.trio H8.out
  go_wp2_with fail
  refine Calls.mono KQ.out ?_
  rintro e w3 ⟨a3, c3, rfl, hf3, hb3⟩
  obtain ⟨W4, hW4⟩ : ∃ y, y = w3.alloc (.cells #[.slice a3 l.length c3, .int .i64 t] 32) := ⟨_, rfl⟩
  have hb4 : Below w3.heap.size w3 W4 := by rw [hW4]; exact (Below.refl _ _).alloc (Nat.le_refl _) _
  have hb34 : Below W.heap.size W W4 := hb3.trans (hb4.mono hb3.size)
  have HQ : Hid (QHere W4 w3.heap.size a3 c3 l t) := by rw [hW4]; exact QHere.new hf3
  have HB4 : Hid (Below w.heap.size w W4) := HB.out.trans (hb34.mono HB.out.size)
  have HD4 : Hid (DBox W4 w2.heap.size (dptr (P 0)) (dptr (P 1)) (dptr (P 2))) := HD.out.below hb34
  have HW4 : Hid (Well w1.heap.size W4 P D tb so aq cq l t) := HW.out.below hb34
  clear hf3 hb3 hb4 hb34 KQ
  go_upto_region 8 with fail
  rw [← hW4]
  clear hW4
  have HT : Hid (∀ i, i < 3 → Tells (D i) (rowsL l t)) := fun i hi => (HW4.out.sound i hi).tells
  have KA : Hid _ := all_any w1.heap.size P D a3 c3 l t W4 HW4.out.life.three (fun i hi => ⟨(HW4.out.free i hi).up, by rw [(HW4.out.free i hi).len]; omega⟩) HW4.out.life.vars HW4.out.life.low HW4.out.life.good HT.out HQ.out.files
  obtain ⟨d0, d1, d2, -⟩ := HD4.out.cells
  obtain ⟨q0, q1⟩ := HQ.out.cells
  go_wp2_with fail
  refine Calls.mono KA.out ?_
  rintro e w5 ⟨rfl, hb5⟩
  have HB5 : Hid (Below w.heap.size w w5) := HB4.out.trans (hb5.mono HB4.out.size)
  have HQ5 : Hid (QHere w5 w3.heap.size a3 c3 l t) := HQ.out.below hb5
  have HD5 : Hid (DBox w5 w2.heap.size (dptr (P 0)) (dptr (P 1)) (dptr (P 2))) := HD4.out.below hb5
  have HW5 : Hid (Well w1.heap.size w5 P D tb so aq cq l t) := HW4.out.below hb5
  clear hb5 KA d0 d1 d2 q0 q1
  obtain ⟨d0, d1, d2, -⟩ := HD5.out.cells
  have KO : Hid _ := open_mended w1.heap.size P D l t w5 HW5.out.life.good HW5.out.life.three HW5.out.free HW5.out.life.vars HW5.out.life.low (i := 0) (j := 1) (by omega) (by omega) (by omega) (HT.out 0 (by omega)) (HT.out 1 (by omega))
  go_wp2_with fail
  refine Calls.mono KO.out ?_
  rintro e w6 ⟨tb6, n, P6, D6, S6, a6, c6, rfl, hsz, hm⟩
  have hn : n = 0 := hm.none.2 HT.out
  subst hn
  have HB6 : Hid (Below w.heap.size w w6) := HB5.out.trans (hm.bel.mono HL1.out.1)
  have HQ6 : Hid (QHere w6 w3.heap.size a3 c3 l t) := HQ5.out.far hm.far
  have HT6 : Hid (TrioAt w6 tb6 P6 S6 a6 c6 l t) := hm.life.trio
  clear hm hsz KO d0 d1 d2
  have keepH : Hid (∀ V, Below w6.heap.size w6 V → (V.cell? ⟨w3.heap.size, 0, none⟩ = some (.slice a3 l.length c3) ∧ V.cell? ⟨w3.heap.size, 1, none⟩ = some (.int .i64 t))) := fun V h => (HQ6.out.below h).cells
  obtain ⟨q0, q1⟩ := HQ6.out.cells
  go_wp2_with fail
  go_region_held3 (fun V => V.cell? ⟨w3.heap.size, 0, none⟩ = some (.slice a3 l.length c3) ∧ V.cell? ⟨w3.heap.size, 1, none⟩ = some (.int .i64 t))
    (first | exact keepH.out _ (Below.drew (Below.refl _ _)) | exact keepH.out _ hbB.out | exact keepH.out _ hbA.out)
    (first
      | (have _ := hbA
         go_at_call 21
         refine (sameSelf_any H8.out hfA.out (HQ6.out.below hbA.out).files).mono ?_
         rintro e wb ⟨rfl, hb⟩
         have hbB : Hid (Below w6.heap.size w6 wb) := hbA.out.trans (hb.mono hbA.out.size)
         clear hb)
      | (go_at_call 22
         refine (quilt_here P6 tb6 S6 a6 c6 l t _ (HT6.out.below (Below.drew (Below.refl _ _))) H8.out).mono ?_
         rintro e wa ⟨a9, c9, rfl, hf, hb⟩
         have hbA : Hid (Below w6.heap.size w6 wa) := (Below.drew (Below.refl _ _)).trans hb
         have hfA : Hid (FilesIn wa a9 c9 l) := hf
         clear hb hf))
  rename_i hHeld
  clear hHeld
  have HE : Hid (Below w.heap.size w wb) := HB6.out.trans (hbB.out.mono HB6.out.size)
  go_wp2
  go_ret
  exact ⟨rfl, HE.out⟩
end Go.Proofs.YtihnghnafpgdfacGreatDoor
