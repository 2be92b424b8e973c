/-
  THE WALK OF TopScrub: it returns true.
-/
import Derived.Test.YtihnghnafpgdfacGreatDoorZMore
import Derived.Test.YtihnghnafpgdfacGreatDoorZTrioActs
import Derived.Deep.RegionHeld3
import Derived.BigQuiet
namespace Go.Proofs.YtihnghnafpgdfacGreatDoor
open Go Go.RowKit Go.BigFrame
set_option linter.unusedVariables false
set_option linter.unusedSimpArgs false

set_option maxRecDepth 100000 in
set_option maxHeartbeats 1000000 in
theorem topScrub_any (a : Option Addr) (cap : Nat) (L : List Ac) (a5 : Option Addr) (c5 : Nat) (M : List Ac) (which x : Int) (b0 : Option Addr) (cb : Nat) (ts : List ByteArray) (w : World) (hm : L.length ≤ maxLen) (hs : ActCells w a L) (hm5 : M.length ≤ maxLen) (hs5 : ActCells w a5 M) (hst : Strs w b0 ts) (htl : ts.length ≤ maxLen) (hv : Vars w) :
    Calls Tryz.prog 7 #[.slice a L.length cap, .slice a5 M.length c5, .int .i64 which, .int .i64 x, .slice b0 ts.length cb] w fun e w' => e = .returned (.bool true) ∧ Below w.heap.size w w' := by
  have HA : Hid (ActCells w a L) := hs
  have HV : Hid (VarsLo w.heap.size w) := ⟨w, hv, Nat.le_refl _, Below.refl _ _⟩
  have KW : Hid _ := works_any w HV.out
  have HST : Hid (Strs w b0 ts) := hst
  have HA5 : Hid (ActCells w a5 M) := hs5
  clear hs hv hst hs5
  go_enter Tryz.func7, Tryz.ntmps7
  go_wp2_with fail
  refine Calls.mono KW.out ?_
  rintro e w1 ⟨rfl, hb1⟩
  have HB1 : Hid (Below w.heap.size w w1) := hb1
  have KP : Hid _ := played_any a cap L w1 hm (HA.out.below hb1) ((HV.out.go hb1).mono hb1.size)
  clear hb1 KW
  go_wp2_with fail
  refine Calls.mono KP.out ?_
  rintro e w2 ⟨hb2, P, D, tb, so, aq, cq, l, t, v, ok, rfl, hok, hw⟩
  obtain ⟨W, hW⟩ : ∃ y, y = w2.alloc (.cells #[dptr (P 0), dptr (P 1), dptr (P 2)] 26) := ⟨_, rfl⟩
  have hb3 : Below w2.heap.size w2 W := by rw [hW]; exact (Below.refl _ _).alloc (Nat.le_refl _) _
  have HB : Hid (Below w.heap.size w W) := HB1.out.trans ((hb2.trans (hb3.mono hb2.size)).mono HB1.out.size)
  have HL1 : Hid (w.heap.size ≤ w1.heap.size ∧ w1.heap.size ≤ W.heap.size) := ⟨HB1.out.size, Nat.le_trans hb2.size hb3.size⟩
  have HD : Hid (DBox W w2.heap.size (dptr (P 0)) (dptr (P 1)) (dptr (P 2))) := by rw [hW]; exact DBox.new w2 _ _ _
  have HW : Hid (Well w1.heap.size W P D tb so aq cq l t) := hw.below hb3
  have HK : Hid (ok = true → v = .pointer (some ⟨tb, 0, none⟩)) := hok
  have H8 : Hid (l.length ≤ 8) := hw.life.good.files.few
  clear hb2 hb3 hok hw KP
  go_upto_region 5 with fail
  rw [← hW]
  clear hW
  cases ok with
  | false =>
    go_wp2
    go_ret
    exact ⟨rfl, HB.out⟩
  | true =>
  obtain rfl := HK.out rfl
  have KF : Hid _ := fewTexts_any b0 cb ts W htl (HST.out.below HB.out)
  go_wp2_with fail
  refine Calls.mono KF.out ?_
  rintro e w3 ⟨⟨fb, rfl, hfb⟩, hw3⟩
  rw [hw3]
  clear hw3 w3 KF
  cases fb with
  | false =>
    go_wp2
    go_ret
    exact ⟨rfl, HB.out⟩
  | true =>
  have HFT : Hid (FewT ts) := hfb rfl
  clear hfb
  have KL : Hid _ := lightActs_any a5 c5 M 10 W hm5 (by omega) (HA5.out.below HB.out)
  go_wp2_with fail
  refine Calls.mono KL.out ?_
  rintro e w3 ⟨⟨lb, rfl, hlb⟩, hw3⟩
  rw [hw3]
  clear hw3 w3 KL
  cases lb with
  | false =>
    go_wp2
    go_ret
    exact ⟨rfl, HB.out⟩
  | true =>
  have HLA : Hid (LightA M 10) := hlb rfl
  clear hlb
  go_upto_region 7 with fail
  obtain ⟨k, hk, hke⟩ := place_of which 3 (by omega)
  have hke3 : (bits .and .i64 which 1023).tmod 3 = (k : Int) := hke
  have hkz : (k : Int) < 3 := by omega
  have hkz0 : (0 : Int) ≤ (k : Int) := by omega
  have dk := HD.out.at hk
  have dl := HD.out.lt
  have KS : Hid _ := spoil_any (P k) (D k) (bits .and .i64 x 1023) b0 cb ts W (HW.out.life.three.disk k hk) (HW.out.free k hk) HFT.out.1 HFT.out.2 (fun V hV => HST.out.below (HB.out.trans (hV.below (fun j hj => Nat.le_trans HL1.out.1 (Nat.le_trans (HW.out.life.three.lo k hk) (own_low (HW.out.life.three.disk k hk) j hj))) HB.out.size)))
  clear hke
  go_wp2_with fail
  refine Calls.mono KS.out ?_
  rintro e w5 ⟨rfl, d5, hsp, hcl, -⟩
  have HS5 : Hid (Spoilt w1.heap.size W w5 P (upd P k { P k with wv := .slice none 0 0 }) (upd D k d5) tb so aq cq l t k) := HW.out.spoilt hk hsp hcl
  generalize (upd P k { P k with wv := .slice none 0 0 }) = P5 at *
  generalize (upd D k d5) = D5 at *
  have HBS : Hid (∀ V, Below w1.heap.size W V → Below w.heap.size w V) := fun V h => HB.out.trans (h.mono HL1.out.1)
  clear hsp hcl KS dk dl hke3
  have hm5' := hm5
  unfold maxLen at hm5'
  go_wp2_with fail
  go_loopg [14] (M.length + 1) (fun kx vi wr => ∃ (i : Nat) (P' : Nat → Dp) (D' : Nat → Dk) (so' : Nat → Option Nat) (aq' : Option Addr) (cq' : Nat) (l' : List Fi) (t' : Int), vi = .int .i64 i ∧ i ≤ M.length ∧ M.length - i ≤ kx ∧ Hid (Spoilt w1.heap.size W wr P P' D' tb so' aq' cq' l' t' k))
  case atStart => exact ⟨0, P5, D5, so, aq, cq, l, t, rfl, Nat.zero_le _, by omega, HS5⟩
  case round =>
    obtain ⟨i, P', D', so', aq', cq', l', t', rfl, hi, hix, HSr⟩ := hrel
    by_cases hlt : i < M.length
    · have hltz : (i : Int) < (M.length : Int) := by omega
      obtain ⟨b, off, rfl, ⟨c0, c1, c2, c3, c4, c5⟩, ok⟩ := HA5.out.below (HBS.out wr HSr.out.bel) i hlt
      obtain ⟨hs1, hs2, _⟩ := HLA.out.2 M[i] (List.getElem_mem hlt)
      have KA : Hid _ := act_spoilt HSr.out M[i] (by unfold maxLen; omega) (by unfold maxLen; omega)
      clear ok hs1 hs2
      go_wp2_with fail
      refine Calls.mono KA.out ?_
      rintro e w6 ⟨rfl, P3, D3, so3, aq3, cq3, l3, t3, hs3, -⟩
      have HS3 : Hid (Spoilt w1.heap.size W w6 P P3 D3 tb so3 aq3 cq3 l3 t3 k) := hs3
      clear hs3 KA c0 c1 c2 c3 c4 c5
      go_wp2
      go_roundg (M.length - (i + 1))
      case measure => omega
      case rel => exact ⟨i + 1, P3, D3, so3, aq3, cq3, l3, t3, by go_num, by omega, Nat.le_refl _, HS3⟩
    · have hnl : ¬ (i : Int) < (M.length : Int) := by omega
      have H8' : Hid (l'.length ≤ 8) := HSr.out.life.good.files.few
      have KQ : Hid _ := quilt_here P' tb so' aq' cq' l' t' wr HSr.out.life.trio H8'.out
      go_wp2_with fail
      refine Calls.mono KQ.out ?_
      rintro e w3 ⟨a3, c3, rfl, hf3, hb3⟩
      obtain ⟨W4, hW4⟩ : ∃ y, y = w3.alloc (.cells #[.slice a3 l'.length c3, .int .i64 t'] 32) := ⟨_, rfl⟩
      have hb4 : Below w3.heap.size w3 W4 := by rw [hW4]; exact (Below.refl _ _).alloc (Nat.le_refl _) _
      have hb34 : Below wr.heap.size wr W4 := hb3.trans (hb4.mono hb3.size)
      have HQ : Hid (QHere W4 w3.heap.size a3 c3 l' t') := by rw [hW4]; exact QHere.new hf3
      have HD4 : Hid (DBox W4 w2.heap.size (dptr (P' 0)) (dptr (P' 1)) (dptr (P' 2))) := ((HD.out.far HSr.out.far).place HSr.out.same).below hb34
      have HB4 : Hid (Below w.heap.size w W4) := by
        have h1 := HBS.out wr HSr.out.bel
        exact h1.trans (hb34.mono h1.size)
      have HL4 : Hid (Life w1.heap.size 50 W4 P' D' tb so' aq' cq' l' t') := HSr.out.life.below hb34
      clear hf3 hb3 hb4 hb34 KQ
      go_upto_region 14 with fail
      rw [← hW4]
      clear hW4
      obtain ⟨i0, j0, hi0, hj0, hij, hik, hjk⟩ := two_others hk
      have KS1 : Hid _ := scrub_here HL4.out HSr.out.free hi0 hj0 hij (HSr.out.sound i0 hi0 hik).tells (HSr.out.sound j0 hj0 hjk).tells
      clear hi0 hj0 hij hik hjk i0 j0
      go_wp2_with fail
      refine Calls.mono KS1.out ?_
      rintro e w5 ⟨n, P5, D5, S5, rfl, hm1⟩
      have hn1 : (n : Int) ≤ 1 := by have := hm1.few; omega
      have HM1 : Hid (Mended w1.heap.size W4 w5 P' P5 D' D5 tb S5 aq' cq' l' t' n) := hm1
      have KS2 : Hid _ := scrub_here hm1.life hm1.free (i := 0) (j := 1) (by omega) (by omega) (by omega) (hm1.tells 0 (by omega)) (hm1.tells 1 (by omega))
      clear hm1 KS1
      go_wp2_with fail
      refine Calls.mono KS2.out ?_
      rintro e w6 ⟨m, P6, D6, S6, rfl, hm2⟩
      have hm0 : m = 0 := hm2.none.2 HM1.out.tells
      subst hm0
      have HM : Hid (Mended w1.heap.size w5 w6 P5 P6 D5 D6 tb S6 aq' cq' l' t' 0) := hm2
      have HB6 : Hid (Below w.heap.size w w6) := (HB4.out.trans (HM1.out.bel.mono HL1.out.1)).trans (hm2.bel.mono HL1.out.1)
      have HQ6 : Hid (QHere w6 w3.heap.size a3 c3 l' t') := (HQ.out.far HM1.out.far).far hm2.far
      have HD6 : Hid (DBox w6 w2.heap.size (dptr (P6 0)) (dptr (P6 1)) (dptr (P6 2))) := (((HD4.out.far HM1.out.far).place HM1.out.same).far hm2.far).place hm2.same
      clear hm2 KS2
      have keepH : Hid (∀ V, Below w6.heap.size w6 V → (V.cell? ⟨w3.heap.size, 0, none⟩ = some (.slice a3 l'.length c3) ∧ V.cell? ⟨w3.heap.size, 1, none⟩ = some (.int .i64 t') ∧ V.cell? ⟨w2.heap.size, 0, none⟩ = some (dptr (P6 0)) ∧ V.cell? ⟨w2.heap.size, 1, none⟩ = some (dptr (P6 1)) ∧ V.cell? ⟨w2.heap.size, 2, none⟩ = some (dptr (P6 2)))) := fun V h => by
        obtain ⟨q0, q1⟩ := (HQ6.out.below h).cells
        obtain ⟨d0, d1, d2, -⟩ := (HD6.out.below h).cells
        exact ⟨q0, q1, d0, d1, d2⟩
      obtain ⟨q0, q1, d0, d1, d2⟩ := keepH.out w6 (Below.refl _ _)
      go_wp2_with fail
      go_region_held3 (fun V => V.cell? ⟨w3.heap.size, 0, none⟩ = some (.slice a3 l'.length c3) ∧ V.cell? ⟨w3.heap.size, 1, none⟩ = some (.int .i64 t') ∧ V.cell? ⟨w2.heap.size, 0, none⟩ = some (dptr (P6 0)) ∧ V.cell? ⟨w2.heap.size, 1, none⟩ = some (dptr (P6 1)) ∧ V.cell? ⟨w2.heap.size, 2, none⟩ = some (dptr (P6 2)))
        (first | exact keepH.out _ (Below.drew (Below.refl _ _)) | exact keepH.out _ hbC.out | exact keepH.out _ hbB.out | exact keepH.out _ hbA.out)
        (first
          | (have _ := hbB
             go_at_call 21
             refine (sameSelf_any H8'.out hfB.out (HQ6.out.below hbB.out).files).mono ?_
             rintro e wc ⟨rfl, hb⟩
             have hbC : Hid (Below w6.heap.size w6 wc) := hbB.out.trans (hb.mono hbB.out.size)
             clear hb)
          | (have _ := hbA
             go_at_call 22
             refine (quilt_here P6 tb S6 aq' cq' l' t' _ (HM.out.life.below hbA.out).trio H8'.out).mono ?_
             rintro e wb ⟨a9, c9, rfl, hf, hb⟩
             have hbB : Hid (Below w6.heap.size w6 wb) := hbA.out.trans (hb.mono hbA.out.size)
             have hfB : Hid (FilesIn wb a9 c9 l') := hf
             clear hb hf)
          | (go_at_call 26
             refine (all_any w1.heap.size P6 D6 a3 c3 l' t' _ (HM.out.life.below (Below.drew (Below.refl _ _))).three (fun i hi => ⟨(HM.out.free i hi).up, by rw [(HM.out.free i hi).len]; omega⟩) (HM.out.life.below (Below.drew (Below.refl _ _))).vars (HM.out.life.below (Below.drew (Below.refl _ _))).low HM.out.life.good HM.out.tells (HQ6.out.below (Below.drew (Below.refl _ _))).files).mono ?_
             rintro e wa ⟨rfl, hb⟩
             have hbA : Hid (Below w6.heap.size w6 wa) := (Below.drew (Below.refl _ _)).trans hb
             clear hb))
      rename_i hHeld
      clear hHeld
      have HE : Hid (Below w.heap.size w wc) := HB6.out.trans (hbC.out.mono HB6.out.size)
      go_wp2
      go_ret
      exact ⟨rfl, HE.out⟩
end Go.Proofs.YtihnghnafpgdfacGreatDoor
