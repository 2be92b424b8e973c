/-
  THE WALK OF TopEach: it returns true.
-/
import Derived.Test.YtihnghnafpgdfacGreatDoorZMore
import Derived.Test.YtihnghnafpgdfacGreatDoorZTrioBlank
import Derived.Test.YtihnghnafpgdfacGreatDoorZOpenInts
import Derived.Deep.RegionHeld3
import Derived.BigQuiet
namespace Go.Proofs.YtihnghnafpgdfacGreatDoor
open Go Go.RowKit Go.BigFrame
set_option linter.unusedVariables false
set_option linter.unusedSimpArgs false

set_option maxRecDepth 100000 in
set_option maxHeartbeats 1000000 in
theorem topEach_any (a : Option Addr) (cap : Nat) (L : List Ac) (b0 : Option Addr) (cb : Nat) (or : List Int) (w : World) (hm : L.length ≤ maxLen) (hs : ActCells w a L) (hor : IntsIn w b0 or) (htl : or.length ≤ maxLen) (hv : Vars w) :
    Calls Tryz.prog 8 #[.slice a L.length cap, .slice b0 or.length cb] w fun e w' => e = .returned (.bool true) ∧ Below w.heap.size w w' := by
  have HA : Hid (ActCells w a L) := hs
  have HV : Hid (VarsLo w.heap.size w) := ⟨w, hv, Nat.le_refl _, Below.refl _ _⟩
  have KW : Hid _ := works_any w HV.out
  obtain ⟨i0, hi0, hz0, hz1, hz2⟩ := info_parts Tryz.infoString
  have HOR : Hid (IntsIn w b0 or) := hor
  have htl9 := htl
  unfold maxLen at htl9
  clear hs hv hor
  go_enter Tryz.func8, Tryz.ntmps8
  go_wp2_with fail
  refine Calls.mono KW.out ?_
  rintro e w1 ⟨rfl, hb1⟩
  have HB1 : Hid (Below w.heap.size w w1) := hb1
  have KP : Hid _ := played_any a cap L w1 hm (HA.out.below hb1) ((HV.out.go hb1).mono hb1.size)
  clear hb1 KW
  go_wp2_with fail
  refine Calls.mono KP.out ?_
  rintro e w2 ⟨hb2, P, D, tb, so, aq, cq, l, t, v, ok, rfl, hok, hw⟩
  obtain ⟨W, hW⟩ : ∃ y, y = w2.alloc (.cells #[dptr (P 0), dptr (P 1), dptr (P 2)] 26) := ⟨_, rfl⟩
  have hb3 : Below w2.heap.size w2 W := by rw [hW]; exact (Below.refl _ _).alloc (Nat.le_refl _) _
  have HB : Hid (Below w.heap.size w W) := HB1.out.trans ((hb2.trans (hb3.mono hb2.size)).mono HB1.out.size)
  have HL1 : Hid (w.heap.size ≤ w1.heap.size ∧ w1.heap.size ≤ W.heap.size) := ⟨HB1.out.size, Nat.le_trans hb2.size hb3.size⟩
  have HD : Hid (DBox W w2.heap.size (dptr (P 0)) (dptr (P 1)) (dptr (P 2))) := by rw [hW]; exact DBox.new w2 _ _ _
  have HW : Hid (Well w1.heap.size W P D tb so aq cq l t) := hw.below hb3
  have HK : Hid (ok = true → v = .pointer (some ⟨tb, 0, none⟩)) := hok
  have H8 : Hid (l.length ≤ 8) := hw.life.good.files.few
  clear hb2 hb3 hok hw KP
  go_upto_region 5 with fail
  rw [← hW]
  clear hW
  cases ok with
  | false =>
    go_wp2
    go_ret
    exact ⟨rfl, HB.out⟩
  | true =>
  obtain rfl := HK.out rfl
  by_cases h6 : 6 < or.length
  · have h6z : (6 : Int) < (or.length : Int) := by omega
    go_wp2
    go_ret
    exact ⟨rfl, HB.out⟩
  have h6z : ¬ (6 : Int) < (or.length : Int) := by omega
  have KQ : Hid _ := quilt_here P tb so aq cq l t W HW.out.life.trio H8.out
  go_wp2_with fail
  refine Calls.mono KQ.out ?_
  rintro e w3 ⟨a3, c3, rfl, hf3, hb3⟩
  obtain ⟨W4, hW4⟩ : ∃ y, y = w3.alloc (.cells #[.slice a3 l.length c3, .int .i64 t] 32) := ⟨_, rfl⟩
  have hb4 : Below w3.heap.size w3 W4 := by rw [hW4]; exact (Below.refl _ _).alloc (Nat.le_refl _) _
  have hb34 : Below W.heap.size W W4 := hb3.trans (hb4.mono hb3.size)
  have HQ : Hid (QHere W4 w3.heap.size a3 c3 l t) := by rw [hW4]; exact QHere.new hf3
  have HB4 : Hid (Below w.heap.size w W4) := HB.out.trans (hb34.mono HB.out.size)
  have HD4 : Hid (DBox W4 w2.heap.size (dptr (P 0)) (dptr (P 1)) (dptr (P 2))) := HD.out.below hb34
  have HW4 : Hid (Well w1.heap.size W4 P D tb so aq cq l t) := HW.out.below hb34
  clear hf3 hb3 hb4 hb34 KQ
  go_upto_region 8 with fail
  rw [← hW4]
  clear hW4
  go_wp2_with fail
  go_loopg [9, 10] 51 (fun kx vb vi wr => ∃ (i : Nat), vi = .int .i64 i ∧ i ≤ 50 ∧ 50 - i ≤ kx ∧ Hid (OwnsS wr W4.heap.size vb (List.replicate i ⟨#[]⟩)) ∧ Hid (Below W4.heap.size W4 wr))
  case atStart => exact ⟨0, rfl, by omega, by omega, World.ownsRow_nil _ _ _ _, Below.refl _ _⟩
  case round =>
    obtain ⟨i, rfl, hi, hix, HO, HBr⟩ := hrel
    by_cases hlt : i < 50
    · have hltz : (i : Int) < 50 := by omega
      have hrep : List.replicate (i + 1) (⟨#[]⟩ : ByteArray) = List.replicate i ⟨#[]⟩ ++ [⟨#[]⟩] := List.replicate_succ'
      have HREP : Hid (List.replicate (i + 1) (⟨#[]⟩ : ByteArray) = List.replicate i ⟨#[]⟩ ++ [⟨#[]⟩]) := hrep
      have hsz4 := HBr.out.size
      obtain ⟨va, vc, hv, -, -, hvm, -⟩ := OwnsS.texts HO.out
      subst hv
      clear hrep
      have hlen : (List.replicate i (⟨#[]⟩ : ByteArray)).length = i := by simp
      have HLEN : Hid ((List.replicate i (⟨#[]⟩ : ByteArray)).length ≤ 50) := by show _ ≤ _; omega
      clear hlen
      generalize List.replicate i (⟨#[]⟩ : ByteArray) = TL at *
      go_wp2_with (at_builtin; refine wpList_append_own _ rfl _ _ 62 rfl W4.heap.size 9 i0 _ 1 16 Tryz.underlying62 hi0 hz0 hz1 hz2 rfl (by decide) _ _ _ rfl (World.ownsRow.alloc (w := wr) HO.out _) ⟨wr.heap.size, 0, none⟩ 1 1 [.string ⟨#[]⟩] rfl rfl (cell_one_new wr (.string ⟨#[]⟩) 9) (one_one ⟨#[]⟩) (by have := HLEN.out; unfold maxLen; omega) (by have := HLEN.out; omega) (by simp; omega) ?_; intro v' w5 hown' hgrow5 hnil5)
      have HO5 : Hid (OwnsS w5 W4.heap.size v' (List.replicate (i + 1) ⟨#[]⟩)) := by rw [HREP.out]; exact OwnsS.snoc hown'
      have HB5 : Hid (Below W4.heap.size W4 w5) := (HBr.out.alloc hsz4 _).grown hgrow5 (by simp; omega) (fun q hq => (HO.out.lt q hq).1)
      clear hown' hgrow5 hnil5
      go_roundg (50 - (i + 1))
      case measure => omega
      case rel => exact ⟨i + 1, by go_num, by omega, Nat.le_refl _, HO5, HB5⟩
    · have hk5 : i = 50 := by omega
      subst hk5
      obtain ⟨va, vc, hv, -, -, hvm, -⟩ := OwnsS.texts HO.out
      subst hv
      have HSV : Hid (∀ V, LetT wr V → Strs V va blanks) := fun V hV => by
        have h := ownsRow_far HO.out (w' := V) (fun k e => by
          obtain ⟨C, f, e1⟩ := Lib.ownsRow_kind HO.out k e
          exact (hV _ _ _ _ e1 ⟨by decide, by decide, by decide, by decide, by decide, by decide⟩).trans e1.symm)
        obtain ⟨a9, c9, e9, h9, -⟩ := OwnsS.texts (l := blanks) h
        have ea : va = a9 := by injection e9
        rw [ea]; exact h9
      have HBr4 : Hid (Below w.heap.size w wr) := HB4.out.trans (HBr.out.mono HB4.out.size)
      have HQr : Hid (QHere wr w3.heap.size a3 c3 l t) := HQ.out.below HBr.out
      have HDr : Hid (DBox wr w2.heap.size (dptr (P 0)) (dptr (P 1)) (dptr (P 2))) := HD4.out.below HBr.out
      have HWr : Hid (Well w1.heap.size wr P D tb so aq cq l t) := HW4.out.below HBr.out
      have hrl : (List.replicate 50 (⟨#[]⟩ : ByteArray)).length = blanks.length := rfl
      have e50 : blanks.length = 50 := by simp
      have HE50 : Hid (blanks.length = 50) := e50
      clear hrl hvm
      simp only [List.length_replicate]
      clear e50
      go_wp2_with fail
      generalize wr = V0 at *
      go_loopg [11] (or.length + 1) (fun kx vi WQ => ∃ (n : Nat) (P' : Nat → Dp) (D' : Nat → Dk) (tb' : Nat) (so' : Nat → Option Nat) (aq' : Option Addr) (cq' : Nat), vi = .int .i64 n ∧ n ≤ or.length ∧ or.length - n ≤ kx ∧ Hid (Well w1.heap.size WQ P' D' tb' so' aq' cq' l t) ∧ Hid (LetT V0 WQ) ∧ Hid (Below w1.heap.size V0 WQ) ∧ Hid (∀ i, i < 3 → (P' i).B = (P i).B))
      case atStart => exact ⟨0, P, D, tb, so, aq, cq, rfl, Nat.zero_le _, by omega, HWr, LetT.refl _, Below.refl _ _, fun _ _ => rfl⟩
      case round =>
        obtain ⟨n, P', D', tb', so', aq', cq', rfl, hn, hnx, HWq, HFq, HBq, HSq⟩ := hrel
        have HBw : Hid (Below w.heap.size w wr) := HBr4.out.trans (HBq.out.mono HL1.out.1)
        by_cases hlt : n < or.length
        · have hltz : (n : Int) < (or.length : Int) := by omega
          obtain ⟨bo, off, rfl, o0⟩ := HOR.out.below HBw.out n hlt
          generalize or[n] = which at *
          obtain ⟨k, hk, hke⟩ := place_of which 3 (by omega)
          have hke3 : (bits .and .i64 which 1023).tmod 3 = (k : Int) := hke
          have hkz : (k : Int) < 3 := by omega
          have hkz0 : (0 : Int) ≤ (k : Int) := by omega
          have HDq : Hid (DBox wr w2.heap.size (dptr (P' 0)) (dptr (P' 1)) (dptr (P' 2))) := (HDr.out.far HFq.out).place HSq.out
          have dk := HDq.out.at hk
          have dl := HDq.out.lt
          have KS : Hid _ := spoil_any (P' k) (D' k) 0 va vc blanks wr (HWq.out.life.three.disk k hk) (HWq.out.free k hk) (by simp) (fun s hs => by rw [List.eq_of_mem_replicate hs]; decide) (fun V hV => HSV.out V (HFq.out.trans (LetT.of_touch (HWq.out.life.three.disk k hk) hV)))
          rw [HE50.out] at KS
          clear hke
          go_wp2_with fail
          refine Calls.mono KS.out ?_
          rintro e w5 ⟨rfl, d5, hsp, hcl, hnow⟩
          have HS5 : Hid (Spoilt w1.heap.size wr w5 P' (upd P' k { P' k with wv := .slice none 0 0 }) (upd D' k d5) tb' so' aq' cq' l t k) := HWq.out.spoilt hk hsp hcl
          have HNT : Hid (¬ Tells (upd D' k d5 k) (rowsL l t)) := by rw [upd_same]; exact spoilt_blank (HWq.out.free k hk) (by rw [HE50.out]; exact hnow)
          generalize (upd P' k { P' k with wv := .slice none 0 0 }) = P5 at *
          generalize (upd D' k d5) = D5 at *
          have HF5 : Hid (LetT V0 w5) := HFq.out.trans HS5.out.far
          have HB5 : Hid (Below w1.heap.size V0 w5) := HBq.out.trans HS5.out.bel
          have HSm5 : Hid (∀ i, i < 3 → (P5 i).B = (P i).B) := fun i hi => (HS5.out.same i hi).trans (HSq.out i hi)
          have HD5 : Hid (DBox w5 w2.heap.size (dptr (P5 0)) (dptr (P5 1)) (dptr (P5 2))) := (HDr.out.far HF5.out).place HSm5.out
          clear hsp hcl hnow KS dk dl hke3 o0
          obtain ⟨i, j, hi, hj, hij, hik, hjk⟩ := two_others hk
          have KO : Hid _ := open_mended w1.heap.size P5 D5 l t w5 HS5.out.life.good HS5.out.life.three HS5.out.free HS5.out.life.vars HS5.out.life.low hi hj hij (HS5.out.sound i hi hik).tells (HS5.out.sound j hj hjk).tells
          obtain ⟨d0, d1, d2, -⟩ := HD5.out.cells
          clear hi hj hij hik hjk i j
          go_wp2_with fail
          refine Calls.mono KO.out ?_
          rintro e w6 ⟨tb6, m, P6, D6, S6, a6, c6, rfl, hsz, hm⟩
          have hm1 : m = 1 := by
            have h1 := hm.few
            have h0 : m ≠ 0 := fun h => HNT.out (hm.none.1 h k hk)
            omega
          subst hm1
          have HM : Hid (Mended w1.heap.size w5 w6 P5 P6 D5 D6 tb6 S6 a6 c6 l t 1) := hm
          have HF6 : Hid (LetT V0 w6) := HF5.out.trans hm.far
          have HB6 : Hid (Below w1.heap.size V0 w6) := HB5.out.trans hm.bel
          have HSm6 : Hid (∀ i, i < 3 → (P6 i).B = (P i).B) := fun i hi => (hm.same i hi).trans (HSm5.out i hi)
          have HW6 : Hid (Well w1.heap.size w6 P6 D6 tb6 S6 a6 c6 l t) := ⟨hm.life, fun i hi => by
            by_cases e : i = k
            · subst e; exact hm.wrong i hi HNT.out
            · exact hm.sound hi (.inl (HS5.out.sound i hi e))⟩
          have HQ6 : Hid (QHere w6 w3.heap.size a3 c3 l t) := HQr.out.far HF6.out
          have HD6 : Hid (DBox w6 w2.heap.size (dptr (P6 0)) (dptr (P6 1)) (dptr (P6 2))) := (HDr.out.far HF6.out).place HSm6.out
          clear hm hsz KO d0 d1 d2
          have keepH : Hid (∀ V, Below w6.heap.size w6 V → (V.cell? ⟨w3.heap.size, 0, none⟩ = some (.slice a3 l.length c3) ∧ V.cell? ⟨w3.heap.size, 1, none⟩ = some (.int .i64 t) ∧ V.cell? ⟨w2.heap.size, 0, none⟩ = some (dptr (P6 0)) ∧ V.cell? ⟨w2.heap.size, 1, none⟩ = some (dptr (P6 1)) ∧ V.cell? ⟨w2.heap.size, 2, none⟩ = some (dptr (P6 2)))) := fun V h => by
            obtain ⟨q0, q1⟩ := (HQ6.out.below h).cells
            obtain ⟨d0, d1, d2, -⟩ := (HD6.out.below h).cells
            exact ⟨q0, q1, d0, d1, d2⟩
          obtain ⟨q0, q1, d0, d1, d2⟩ := keepH.out w6 (Below.refl _ _)
          go_wp2_with fail
          go_region_held3 (fun V => V.cell? ⟨w3.heap.size, 0, none⟩ = some (.slice a3 l.length c3) ∧ V.cell? ⟨w3.heap.size, 1, none⟩ = some (.int .i64 t) ∧ V.cell? ⟨w2.heap.size, 0, none⟩ = some (dptr (P6 0)) ∧ V.cell? ⟨w2.heap.size, 1, none⟩ = some (dptr (P6 1)) ∧ V.cell? ⟨w2.heap.size, 2, none⟩ = some (dptr (P6 2)))
            (first | exact keepH.out _ (Below.drew (Below.refl _ _)) | exact keepH.out _ hbC.out | exact keepH.out _ hbB.out | exact keepH.out _ hbA.out)
            (first
              | (have _ := hbB
                 go_at_call 26
                 refine (all_any w1.heap.size P6 D6 a3 c3 l t _ (HM.out.life.below hbB.out).three (fun i hi => ⟨(HM.out.free i hi).up, by rw [(HM.out.free i hi).len]; omega⟩) (HM.out.life.below hbB.out).vars (HM.out.life.below hbB.out).low HM.out.life.good HM.out.tells (HQ6.out.below hbB.out).files).mono ?_
                 rintro e wc ⟨rfl, hb⟩
                 have hbC : Hid (Below w6.heap.size w6 wc) := hbB.out.trans (hb.mono hbB.out.size)
                 clear hb)
              | (have _ := hbA
                 go_at_call 21
                 refine (sameSelf_any H8.out hfA.out (HQ6.out.below hbA.out).files).mono ?_
                 rintro e wb ⟨rfl, hb⟩
                 have hbB : Hid (Below w6.heap.size w6 wb) := hbA.out.trans (hb.mono hbA.out.size)
                 clear hb)
              | (go_at_call 22
                 refine (quilt_here P6 tb6 S6 a6 c6 l t _ (HM.out.life.below (Below.drew (Below.refl _ _))).trio H8.out).mono ?_
                 rintro e wa ⟨a9, c9, rfl, hf, hb⟩
                 have hbA : Hid (Below w6.heap.size w6 wa) := (Below.drew (Below.refl _ _)).trans hb
                 have hfA : Hid (FilesIn wa a9 c9 l) := hf
                 clear hb hf))
          rename_i hHeld
          clear hHeld
          have HWN : Hid (Well w1.heap.size wc P6 D6 tb6 S6 a6 c6 l t) := HW6.out.below hbC.out
          have HFN : Hid (LetT V0 wc) := HF6.out.trans (LetT.of_below hbC.out)
          have HBN : Hid (Below w1.heap.size V0 wc) := HB6.out.trans (hbC.out.mono HW6.out.life.low)
          clear keepH q0 q1 d0 d1 d2
          go_wp2
          go_roundg (or.length - (n + 1))
          case measure => omega
          case rel => exact ⟨n + 1, P6, D6, tb6, S6, a6, c6, by go_num, by omega, Nat.le_refl _, HWN, HFN, HBN, HSm6⟩
        · have hnl : ¬ (n : Int) < (or.length : Int) := by omega
          go_wp2
          go_ret
          exact ⟨rfl, HBw.out⟩
end Go.Proofs.YtihnghnafpgdfacGreatDoor
