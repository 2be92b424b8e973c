/-
  TopLog: THE WALK.
-/
import Derived.Test.YtihnghnafpgdfabTopLogBase
import Derived.OpenShut
import Derived.Deep.DeepCutAuto
import Derived.Deep.CutBlock
namespace Go.Proofs.Ytihnghnafpgdfab
open Go.RowKit Go.BigFrame
set_option linter.unusedVariables false
set_option linter.unusedSimpArgs false

set_option maxRecDepth 100000 in
set_option maxHeartbeats 8000000 in
theorem topLog_any (a : Option Addr) (cap : Nat) (l : List PartC) (n k : Int) (w : World) (hm : l.length ≤ maxLen) (hc : DeedCells w a l) (wn : (Lit.int .i64 n).wf = true) (wk : (Lit.int .u64 k).wf = true) :
    Calls Try.prog 11 #[.slice a l.length cap, .int .i64 n, .int .u64 k] w fun e w' => e = .returned (.bool true) ∧ Below w.heap.size w w' := by
  have HC : Hid (DeedCells w a l) := hc
  have HM : Hid (l.length ≤ maxLen) := hm
  have rn := bounds_i64 wn
  have rk := bounds_u64 wk
  obtain ⟨K, rfl⟩ : ∃ K : Nat, k = K := ⟨k.toNat, by omega⟩
  have hK : K < 18446744073709551616 := by omega
  have hl63 : l.length ≤ 9223372036854775807 := by unfold maxLen at hm; omega
  clear hm hc wn wk rk
  go_enter Try.func11, Try.ntmps11
  go_wp2_with fail
  refine (diskNew_good 60 w (by omega) (by omega)).mono ?_
  rintro e w1 ⟨B, g1, g2, rfl, hd, hb⟩
  obtain ⟨p, hp⟩ : ∃ p : Dp, p = ⟨w.heap.size, B, g1, g2, .slice none 0 0⟩ := ⟨_, rfl⟩
  have HPB : Hid (p.B = B) := by show _ = _; rw [hp]
  have HPL : Hid (w.heap.size ≤ p.lo) := by show _ ≤ _; rw [hp]; exact Nat.le_refl _
  rw [← hp] at hd
  have HD1 : Hid (DiskAt w1 p (newD 60)) := hd
  have HB1 : Hid (Below w.heap.size w w1) := hb
  clear hd hb hp
  have hlen : (newD 60).now.length = 60 := rfl
  have ko := logOpen_good p (newD 60) 1 59 5 w1 HD1.out rfl (by omega) (by omega) (by omega) (by rw [hlen]; omega)
  rw [HPB.out] at ko
  have KO : Hid _ := ko
  clear ko
  go_wp2_with fail
  refine Calls.mono KO.out ?_
  rintro e w2 ⟨b, vd, vo, P, base, opn, rfl, hbw, hlog, hds, hP, hdk, hbe, hPl⟩
  rw [logOf_new 60 1 59 5 (by omega) (by omega)] at hlog hP
  obtain ⟨va, vc, rfl⟩ := hds.nilD hP
  rw [HPB.out] at hlog
  have HB2 : Hid (Below w.heap.size w w2) := HB1.out.trans (hbe.mono HB1.out.size)
  have HBL : Hid (w.heap.size ≤ b) := Nat.le_trans HB1.out.size hbw
  have HLG : Hid (LogAt w2 b ⟨B, 1, 59, 5, 0⟩) := hlog
  have HDK : Hid (DiskAt w2 p (newD 60)) := hdk
  have KR : Hid _ := logRoom_any b ⟨B, 1, 59, 5, 0⟩ w2 hlog ⟨by simp, by simp, by simp⟩
  clear hbw hlog hds hP hdk hbe hPl KO HB1 HD1
  go_wp2_with fail
  refine Calls.mono KR.out ?_
  rintro e w3 ⟨rfl, nd, hw3⟩
  have hbd : Below w2.heap.size w2 w3 := by rw [hw3]; exact below_drewN (Below.refl _ _) nd
  have HB3 : Hid (Below w.heap.size w w3) := HB2.out.trans (hbd.mono HB2.out.size)
  have HLG3 : Hid (LogAt w3 b ⟨B, 1, 59, 5, 0⟩) := HLG.out.below hbd
  have HDK3 : Hid (DiskAt w3 p (newD 60)) := HDK.out.below hbd
  rw [← hw3] at *
  clear hbd hw3 KR HLG HDK HB2
  go_wp2_with fail
  refine (lightDeeds_any a cap l 8 _ HM.out (by decide) (HC.out.below HB3.out)).mono ?_
  rintro e w4 ⟨⟨lb, rfl, hlb⟩, hw⟩
  rw [hw]
  clear hw w4
  cases lb
  · clear hlb
    go_wp2
    go_ret
    exact ⟨rfl, HB3.out⟩
  have HLA : Hid (LightD l 8) := hlb rfl
  have h8 : l.length ≤ 8 := HLA.out.1
  clear hlb
  obtain ⟨f, hf⟩ : ∃ f, f = min (max n (-1)) 200 := ⟨_, rfl⟩
  have HFN : Hid (f = min (max n (-1)) 200) := hf
  have hfr : -1 ≤ f ∧ f ≤ 200 := by omega
  clear hf
  have kar := arm_any p (newD 60) f w3 (by omega) HDK3.out
  rw [HPB.out] at kar
  have KAR : Hid _ := kar
  clear kar
  go_wp2_with fail
  rw [← HFN.out]
  refine Calls.mono KAR.out ?_
  rintro e w4 ⟨rfl, hd4, hn4⟩
  have HLM : Hid (TlMid w w4 B b 0 0 p { newD 60 with left := f } none 0 []) := by
    have ht := hn4.touch
    have hcm : Calm w.heap.size w3 w4 := ht.calm (fun k hk => dOwn_safe HDK3.out HPL.out hk)
    exact ⟨hd4, HPB.out, HPL.out, HLG3.out.touch HDK3.out ht, HBL.out, ⟨rfl, rfl, rfl⟩, rfl, logOf_new 60 1 59 5 (by omega) (by omega), Deeds.empty _ _, Nat.le_refl _, HB3.out.trans (hcm.below HB3.out.size)⟩
  clear hd4 hn4 KAR HFN HLG3 HDK3 HB3 HPB HPL HBL hfr
  obtain ⟨j0, hjf, jz0, jz1, jz2⟩ := info_parts Try.infoChanges
  go_wp2_with fail
  go_loopg [13, 11, 12] (l.length + 1) (fun kx vi v11 v12 wr => ∃ (i u : Nat) (p : Dp) (d : Dk) (qa : Option Addr) (qc : Nat) (Q : List PartC), vi = .int .i64 i ∧ v11 = .slice qa Q.length qc ∧ v12 = .slice qa Q.length qc ∧ i ≤ l.length ∧ l.length - i ≤ kx ∧ Hid (TlMid w wr B b u i p d qa qc Q))
  case atStart => exact ⟨0, 0, p, _, none, 0, [], rfl, rfl, rfl, by omega, by omega, HLM⟩
  case round =>
    clear HLM
    obtain ⟨i, u, p, d, qa, qc, Q, rfl, rfl, rfl, hi, hix, HR⟩ := hrel
    by_cases hlt : i < l.length
    · have hltz : (i : Int) < (l.length : Int) := by omega
      obtain ⟨ab, ao, rfl, c0, hcc, hcl⟩ := (HC.out.below HR.out.below) i hlt
      obtain ⟨ab0, ao0, e0, c00, hcc0, hcl0⟩ := HC.out i hlt
      have HCC : Hid (CC w l[i].a l[i].l) := hcc0.cc
      have HLC : Hid (w.cell? ⟨ab, ao + i, none⟩ = some l[i].v) := by
        injection e0 with e0
        injection e0 with e1 e2
        subst e1 e2
        exact c00
      have hx14 : ¬ 14 < l[i].l.length := by have := (HLA.out.2 _ (List.getElem_mem hlt)).1; omega
      clear hcc hcl e0 c00 hcc0 hcl0
      obtain ⟨x, hx⟩ : ∃ x, x = l[i] := ⟨_, rfl⟩
      rw [← hx] at c0 HCC HLC hx14
      clear hx
      change wr.cell? ⟨ab, ao + i, none⟩ = some (.slice x.a x.l.length x.cap) at c0
      change Hid (w.cell? ⟨ab, ao + i, none⟩ = some (.slice x.a x.l.length x.cap)) at HLC
      have KADD : Hid (Calls Try.prog 57 #[.pointer (some ⟨b, 0, none⟩), (.slice x.a x.l.length x.cap)] wr fun e w' => e = .returned (errV (addD ⟨B, 1, 59, 5, u⟩ d x.l).2) ∧ ∃ v, AddAt wr w' b (addG ⟨B, 1, 59, 5, u⟩ d x.l) p v (addD ⟨B, 1, 59, 5, u⟩ d x.l).1) :=
        logAdd_any b ⟨B, 1, 59, 5, u⟩ p d x.a x.cap x.l wr HR.out.log HR.out.ok HR.out.disk HR.out.pB.symm (HCC.out.below HR.out.below) (by omega) (by rw [HR.out.clean.wr]; simp)
      have HCS : Hid _ := addD_cases (c := x.l) HR.out.ok (by simp) (by rw [HR.out.len]; simp) HR.out.clean hx14 HR.out.said
      obtain ⟨r, hr⟩ : ∃ r, r = (addD ⟨B, 1, 59, 5, u⟩ d x.l).2 := ⟨_, rfl⟩
      have HRR : Hid (r = (addD ⟨B, 1, 59, 5, u⟩ d x.l).2) := hr
      rw [← hr] at KADD HCS
      clear hr
      obtain ⟨ev, hev⟩ : ∃ ev, ev = errV r := ⟨_, rfl⟩
      have HEV : Hid (ev = errV r) := hev
      rw [← hev] at KADD
      clear hev
      go_wp2_with fail
      refine Calls.mono KADD.out ?_
      rintro e w7 ⟨rfl, v, hat⟩
      have HAT : Hid _ := hat
      have HB7 : Hid (Below w.heap.size w w7) := HR.out.below.trans ((addAt_calm hat HR.out.disk HR.out.log HR.out.lo HR.out.blo).below HR.out.below.size)
      have HD7 : Hid (Deeds w.heap.size w7 qa qc Q) := HR.out.want.calm (addAt_calm hat HR.out.disk HR.out.log HR.out.lo HR.out.blo)
      have HBX7 : Hid (∀ W', Below w7.heap.size w7 W' → W'.cell? ⟨ab, ao + i, none⟩ = some (.slice x.a x.l.length x.cap)) := fun W' hb => by
        have hb9 : Below w.heap.size w W' := HB7.out.trans (hb.mono HB7.out.size)
        rw [hb9.cell (World.block_lt_of_cell? _ _ HLC.out)]; exact HLC.out
      have a7 := HBX7.out w7 (Below.refl _ _)
      have HQ8 : Hid (Q.length ≤ 8) := by show _ ≤ _; have := HR.out.few; omega
      have HQ1 : Hid (Q.length ≤ 1000) := Nat.le_trans HQ8.out (by decide)
      have h63 : Q.length + 1 ≤ maxLen := by have := HQ8.out; unfold maxLen; omega
      have hby : (Q.length + 1) * 24 ≤ 140737488355328 := by have := HQ8.out; omega
      have HBd : Hid (Below w7.heap.size w7 w7.drew) := (Below.refl _ _).drew
      have HBe : Hid (∀ o, Below w7.heap.size w7 (w7.drew.alloc o)) := fun o => (Below.refl _ _).drew.alloc (Nat.le_refl _) o
      have HDX : Hid (∀ W', Below w7.heap.size w7 W' → Deeds w.heap.size W' qa qc Q) := fun W' h => HD7.out.calm (Calm.of_below h)
      clear hat KADD c0
      go_wp2_with fail
      go_cut [12] (fun v12 wx => ∃ ya yc, v12 = .slice ya (Q.length + 1) yc ∧ Hid (Below w7.heap.size w7 wx ∧ wx.ownsRow w7.heap.size 24 1 (.slice ya (Q.length + 1) yc) (Q.length + 1) (Q.map PartC.v ++ [.slice x.a x.l.length x.cap])))
      case first =>
        go_region_law
          (first
            | (rw [if_pos (by rfl)]
               refine wp_append_new _ _ 88 rfl w7.heap.size 24 j0 _ 1 24 Try.underlying88 hjf jz0 jz1 jz2 rfl Nat.one_pos (.slice ya Q.length yc) Q.length (Q.map PartC.v) rfl (HO9.out.2 _) ⟨w9.heap.size, 0, none⟩ 1 1 [.slice x.a x.l.length x.cap] rfl rfl (cell_one_new _ _ _) (one_oneV _ _ _) h63 hby (HB9o.out _).size ?_
               intro v' w10 hown4 hgrow4 hnew4
               have HBz : Hid (Below w7.heap.size w7 w10) := copied_more (HB9o.out _) (HO9.out.2 _) hgrow4
               obtain ⟨xa, xc, rfl⟩ := row_shape hown4
               have HA : Hid _ := hown4
               clear hown4 hgrow4 hnew4)
            | (rw [if_pos (by rfl)]
               refine wp_append_new _ _ 88 rfl w7.heap.size 24 j0 _ 1 24 Try.underlying88 hjf jz0 jz1 jz2 rfl Nat.one_pos (.slice ya Q.length yc) Q.length (Q.map PartC.v) rfl HO9.out.1 ⟨w7.heap.size, 0, none⟩ 1 1 [.slice x.a x.l.length x.cap] rfl rfl HCN.out (one_oneV _ _ _) h63 hby HB9.out.size ?_
               intro v' w10 hown4 hgrow4 hnew4
               have HBz : Hid (Below w7.heap.size w7 w10) := copied_more HB9.out HO9.out.1 hgrow4
               obtain ⟨xa, xc, rfl⟩ := row_shape hown4
               have HA : Hid _ := hown4
               clear hown4 hgrow4 hnew4)
            | (rw [if_pos (by rfl)]
               refine wp_copyD (lo := w.heap.size) _ _ rfl w7.drew qa qc Q HQ1.out (HDX.out _ HBd.out) rfl rfl ?_
               intro v9 w9 ho9 hb9
               obtain ⟨ya, yc, rfl⟩ := row_shape ho9
               have HB9 : Hid (Below w7.heap.size w7 w9) := HBd.out.trans (hb9.mono HBd.out.size)
               have hc9 := HBX7.out w9 HB9.out
               have HO9 : Hid _ := copied_row ho9 HBd.out.size
               have HB9o : Hid (∀ o, Below w7.heap.size w7 (w9.alloc o)) := fun o => HB9.out.alloc HB9.out.size o
               clear ho9 hb9)
            | (rw [if_pos (by rfl)]
               refine wp_copyD (lo := w.heap.size) _ _ rfl (w7.drew.alloc _) qa qc Q HQ1.out (HDX.out _ (HBe.out _)) rfl rfl ?_
               intro v9 w9 ho9 hb9
               obtain ⟨ya, yc, rfl⟩ := row_shape ho9
               have HB9 : Hid (Below w7.heap.size w7 w9) := (HBe.out _).trans (hb9.mono (HBe.out _).size)
               have hc9 := HBX7.out w9 HB9.out
               have HO9 : Hid _ := copied_row ho9 (HBe.out _).size
               have HCN : Hid _ := below_cell_one hb9
               clear ho9 hb9))
        all_goals (try go_wp2_with fail)
        all_goals go_meet
        all_goals exact ⟨_, _, rfl, ⟨HBz.out, HA.out⟩⟩
      case rest =>
        obtain ⟨ya, yc, rfl, HCT⟩ := hcut
        have HDS : Hid (Deeds w.heap.size wc ya yc (Q ++ [⟨x.a, x.cap, x.l⟩]) ∧ Deeds w.heap.size wc qa qc Q ∧ Below w.heap.size w wc) := tl_deeds (q := ⟨x.a, x.cap, x.l⟩) HR.out HAT.out HCT.out.1 HCC.out (by simp only; omega) HCT.out.2
        rcases HCS.out with ⟨hr0, hr8, hrl, hrh, hD⟩ | ⟨hr0, hcl, hln, hsd⟩ | ⟨hr8, hwl, hfe⟩
        · have hG : addG ⟨B, 1, 59, 5, u⟩ d x.l = ⟨B, 1, 59, 5, u⟩ := by unfold addG; rw [← HRR.out, if_neg hr0]
          have HR9 : Hid (TlMid w wc B b u (i + 1) { p with wv := v } d qa qc Q) := HR.out.refused (by have := HAT.out; rw [hG, hD] at this; exact this) HCT.out.1
          have e1 : ev = .iface 118 (.int .i64 r) := by rw [HEV.out, errV_pos hr0]
          subst e1
          have KN : Hid _ := topNumber_any r wc hr0 ⟨hrl, hrh⟩
          have hr8b : (r == 8) = false := by rw [beq_eq_false_iff_ne]; exact hr8
          clear hG hD HCS
          go_wp2_with fail
          refine Calls.mono KN.out ?_
          rintro e w8 ⟨rfl, hw⟩
          rw [hw]
          clear hw w8 KN
          go_wp2
          go_roundg (l.length - (i + 1))
          case measure => omega
          case rel => exact ⟨i + 1, u, { p with wv := v }, d, qa, qc, Q, by go_num, rfl, rfl, by omega, Nat.le_refl _, HR9⟩
        · have hG : addG ⟨B, 1, 59, 5, u⟩ d x.l = ⟨B, 1, 59, 5, u + x.l.length + 1⟩ := by unfold addG; rw [← HRR.out, if_pos hr0]
          have HR9 : Hid (TlMid w wc B b (u + x.l.length + 1) (i + 1) { p with wv := v } (addD ⟨B, 1, 59, 5, u⟩ d x.l).1 ya yc (Q ++ [⟨x.a, x.cap, x.l⟩])) := by
            have hat := HAT.out
            rw [hG] at hat
            have hsd2 : logOf rdC (addD ⟨B, 1, 59, 5, u⟩ d x.l).1.now 1 59 5 = ((Q ++ [(⟨x.a, x.cap, x.l⟩ : PartC)]).map (fun q : PartC => q.l), u + x.l.length + 1) := by
              rw [List.map_append]
              exact hsd
            exact ⟨hat.disk.below HCT.out.1, HR.out.pB, HR.out.lo, hat.log.below HCT.out.1, HR.out.blo, hcl, by rw [hln]; exact HR.out.len, hsd2, HDS.out.1, by have := HR.out.few; simp; omega, HDS.out.2.2⟩
          have e1 : ev = .nilIface := by rw [HEV.out, hr0, errV_zero rfl]
          subst e1
          clear hG HCS hsd hcl hln
          go_wp2
          go_roundg (l.length - (i + 1))
          case measure => omega
          case rel => exact ⟨i + 1, u + x.l.length + 1, { p with wv := v }, _, ya, yc, _, by go_num, by rw [List.length_append]; rfl, by rw [List.length_append]; rfl, by omega, Nat.le_refl _, HR9⟩
        · have e1 : ev = .iface 118 (.int .i64 8) := by rw [HEV.out, hr8, errV_pos (by decide)]
          subst e1
          obtain ⟨L, hL⟩ : ∃ L, L = Q ++ [⟨x.a, x.cap, x.l⟩] := ⟨_, rfl⟩
          have HLL : Hid (L.length = Q.length + 1) := by show _ = _; rw [hL, List.length_append]; rfl
          obtain ⟨pz, hpz⟩ : ∃ pz : Dp, pz = { p with wv := v } := ⟨_, rfl⟩
          obtain ⟨dz, hdz⟩ : ∃ dz, dz = (addD ⟨B, 1, 59, 5, u⟩ d x.l).1 := ⟨_, rfl⟩
          obtain ⟨Wz, hWz⟩ : ∃ W, W = wc := ⟨_, rfl⟩
          have HE : Hid (TlEnd w Wz B pz dz qa qc Q ya yc L) := by
            show TlEnd _ _ _ _ _ _ _ _ _ _ _
            rw [hL, hpz, hdz, hWz]
            refine ⟨HAT.out.disk.below HCT.out.1, HR.out.pB, HR.out.lo, hwl, fun keep => ?_, HDS.out.2.1, HDS.out.1, by have := HR.out.few; simp; omega, HDS.out.2.2⟩
            have hk := hfe.may keep
            refine ⟨?_, ?_⟩
            · show (keptBy keep _ _).length = 60
              rw [hk.1]; exact HR.out.len
            · rcases hk.2 with h | h
              · exact .inl h
              · right
                rw [List.map_append]
                exact h
          have KN : Hid _ := topNumber_any 8 Wz (by decide) (by decide)
          rw [← hWz]
          clear hL hpz hdz hWz HCS hwl hfe hr8 HDS HCT HAT HD7 HDX HBX7 a7 HR HBd HBe
          go_wp2_with fail
          refine Calls.mono KN.out ?_
          rintro e w8 ⟨rfl, hw⟩
          rw [hw]
          clear hw w8 KN
          have hpB := HE.out.pB
          subst hpB
          have krs := diskRestart_any pz dz K Wz HE.out.disk hK (by have := HE.out.few; omega)
          have KRS : Hid _ := krs
          clear krs
          go_wp2_with fail
          refine Calls.mono KRS.out ?_
          rintro e w8 ⟨rfl, hd8, hn8⟩
          obtain ⟨dr, hdr⟩ : ∃ dr, dr = restartD dz K := ⟨_, rfl⟩
          rw [← hdr] at hd8
          have HDR : Hid (dr = restartD dz K) := hdr
          have HN8 : Hid (Near pz Wz w8) := hn8
          have ko := logOpen_good { pz with wv := .slice none 0 0 } dr 1 59 5 w8 hd8 (by rw [hdr]; rfl) (by omega) (by omega) (by omega) (by rw [hdr, (HE.out.fate K).1]; omega)
          have KO : Hid _ := ko
          clear ko hd8 hn8 hdr KRS
          go_wp2_with fail
          refine Calls.mono KO.out ?_
          rintro e w9 ⟨b2, vd, vo, P2, base, opn, rfl, hbw, hlog, hds, hP, hdk, hbe, hPl⟩
          obtain ⟨ga, gc, hv⟩ := row_shape hds.row
          subst hv
          obtain ⟨hl9, hw9, hla9, hor⟩ := HE.out.opened HDR.out HN8.out hbw hlog hds hP hdk hbe hPl
          obtain ⟨u2, hu2⟩ : ∃ x, x = (logOf rdC dr.now 1 59 5).2 := ⟨_, rfl⟩
          rw [← hu2] at hl9
          have HL9 : Hid (LsMid w w9 60 1 59 5 pz.B b2 u2 60 { pz with wv := .slice none 0 0 } dr ga gc P2 ga gc P2) := hl9
          have HW9 : Hid (Deeds w.heap.size w9 qa qc Q) := hw9
          have HX9 : Hid (Deeds w.heap.size w9 ya yc L) := hla9
          have HOR : Hid (P2.map (·.l) = Q.map (·.l) ∨ P2.map (·.l) = L.map (·.l)) := hor
          have HP60 : Hid (P2.length ≤ 59) := hPl
          have hu59 : u2 ≤ 59 := (hl9.ok (by omega) (by omega) (by omega)).used
          clear hbw hlog hds hP hdk hbe hPl hl9 hw9 hla9 hor hu2 KO HN8 HDR
          have KS1 : Hid (Calls Try.prog 54 #[.slice ga P2.length gc, .slice qa Q.length qc] w9 fun e w' => e = .returned (.bool (sameDL P2 Q)) ∧ Below w9.heap.size w9 w') :=
            (sameDeeds_any ga qa gc qc P2 Q w9 (by have := HP60.out; omega) (by have := HE.out.lens; omega) HL9.out.got.rows HW9.out.rows).mono fun e w' ⟨he, n, hn⟩ => ⟨he, by rw [hn]; exact below_drewN (Below.refl _ _) n⟩
          have KS2 : Hid (∀ W, Below w9.heap.size w9 W → Calls Try.prog 54 #[.slice ga P2.length gc, .slice ya (Q.length + 1) yc] W fun e w' => e = .returned (.bool (sameDL P2 L)) ∧ Below w9.heap.size w9 w') := fun W hb => by
            have h := sameDeeds_any ga ya gc yc P2 L W (by have := HP60.out; omega) (by have := HE.out.lens; omega) (HL9.out.go hb).got.rows (HX9.out.calm (Calm.of_below hb)).rows
            rw [HLL.out] at h
            exact h.mono fun e w' ⟨he, n, hn⟩ => ⟨he, by rw [hn]; exact below_drewN hb n⟩
          have KRM : Hid (∀ W, Below w9.heap.size w9 W → Calls Try.prog 55 #[.pointer (some ⟨b2, 0, none⟩)] W fun e w' => e = .returned (.int .i64 (59 - (u2 : Int))) ∧ Below W.heap.size W w') := fun W hb => by
            have h := logRoom_any b2 ⟨pz.B, 1, 59, 5, u2⟩ W (HL9.out.log.below hb) (HL9.out.ok (by omega) (by omega) (by omega))
            simp only at h
            rw [show (((59 - u2 : Nat) : Nat) : Int) = 59 - (u2 : Int) by omega] at h
            exact h.mono fun e w' ⟨he, n, hn⟩ => ⟨he, by rw [hn]; exact below_drewN (Below.refl _ _) n⟩
          go_upto_region 25 with fail
          go_cut [111] (fun v111 wx => v111 = .bool false ∧ Hid (Below w9.heap.size w9 wx))
          case first =>
            by_cases hq : P2.map (·.l) = Q.map (·.l)
            · have hq1 : sameDL P2 Q = true := (sameDL_iff P2 Q).2 hq
              rw [hq1] at KS1
              clear hq hq1
              go_wp2_with fail
              refine Calls.mono KS1.out ?_
              rintro e wz ⟨rfl, hb⟩
              have HBz : Hid _ := hb
              clear hb
              go_wp2_with fail
              go_meet
              exact ⟨rfl, HBz⟩
            · have hq1 : sameDL P2 Q = false := sameDL_false hq
              have hq2 : sameDL P2 L = true := (sameDL_iff P2 L).2 (by rcases HOR.out with h | h; exact absurd h hq; exact h)
              rw [hq1] at KS1
              rw [hq2] at KS2
              clear hq hq1 hq2
              go_wp2_with fail
              refine Calls.mono KS1.out ?_
              rintro e wz ⟨rfl, hb⟩
              have HBz : Hid _ := hb
              clear hb
              go_wp2_with fail
              refine Calls.mono (KS2.out wz HBz.out) ?_
              rintro e wy ⟨rfl, hb⟩
              have HBy : Hid _ := hb
              clear hb
              go_wp2_with fail
              go_meet
              exact ⟨rfl, HBy⟩
          case rest =>
            obtain ⟨rfl, HBc⟩ := hcut
            clear KS1 KS2 HOR HW9 HX9 HE HLL
            have HBo : Hid (∀ o, Below w9.heap.size w9 (wc.alloc o)) := fun o => HBc.out.alloc HBc.out.size o
            obtain ⟨Wo, hWo⟩ : ∃ W, W = wc.alloc (.cells #[.string zz.key, .string zz.val, .bool zz.gone] 73) := ⟨_, rfl⟩
            have HBW : Hid (Below w9.heap.size w9 Wo) := by show Below _ _ _; rw [hWo]; exact HBo.out _
            have HCO : Hid (CC Wo (some ⟨wc.heap.size, 0, none⟩) [zz]) := by show CC _ _ _; rw [hWo]; exact CC.one wc zz _
            have HWO : Hid (wc.heap.size < Wo.heap.size ∧ w.heap.size ≤ wc.heap.size) := by
              refine ⟨by rw [hWo, World.size_alloc]; omega, Nat.le_trans HL9.out.below.size HBc.out.size⟩
            have HBX : Hid (Wo.heap[wc.heap.size]? = some (.cells #[.string zz.key, .string zz.val, .bool zz.gone] 73 (0, 0))) := by show _ = _; rw [hWo]; exact heap_alloc_new wc _
            have KRW : Hid _ := KRM.out Wo HBW.out
            go_wp2_with fail
            rw [show wc.alloc (Obj.cells #[Value.string ⟨#[122]⟩, Value.string ⟨#[122]⟩, Value.bool false] 73) = Wo from hWo.symm]
            clear hWo HBo
            refine Calls.mono KRW.out ?_
            rintro e wz ⟨rfl, hb⟩
            have HBz : Hid (Below Wo.heap.size Wo wz) := hb
            have HB9z : Hid (Below w9.heap.size w9 wz) := HBW.out.trans (hb.mono HBW.out.size)
            have HLZ : Hid (LsMid w wz 60 1 59 5 pz.B b2 u2 60 { pz with wv := .slice none 0 0 } dr ga gc P2 ga gc P2) := HL9.out.go HB9z.out
            clear hb KRW KRM
            by_cases hroom : (59 : Int) - (u2 : Int) < 2
            · go_wp2
              go_ret
              exact ⟨rfl, HLZ.out.below⟩
            have hrn : ¬ 59 - u2 < [zz].length + 1 := by simp only [List.length_cons, List.length_nil]; omega
            have h14 : ¬ 14 < [zz].length := by simp
            have hok : faultL [zz] = 0 := by decide
            obtain ⟨z1, z2⟩ := HLZ.out.adds (c := [zz]) (by omega) (by omega) (by omega) (by omega) h14 hrn hok
            have ka := logAdd_any b2 ⟨pz.B, 1, 59, 5, u2⟩ { pz with wv := .slice none 0 0 } dr (some ⟨wc.heap.size, 0, none⟩) 1 [zz] wz HLZ.out.log (HLZ.out.ok (by omega) (by omega) (by omega)) HLZ.out.disk rfl (HCO.out.below HBz.out) (by simp) (by have := HLZ.out.free.wr; omega)
            rw [z1, z2, errV_zero rfl] at ka
            have KA : Hid (Calls Try.prog 57 #[.pointer (some ⟨b2, 0, none⟩), .slice (some ⟨wc.heap.size, 0, none⟩) 1 1] wz fun e w' => e = .returned .nilIface ∧ ∃ v, AddAt wz w' b2 ⟨pz.B, 1, 59, 5, u2 + [zz].length + 1⟩ { pz with wv := .slice none 0 0 } v (addD ⟨pz.B, 1, 59, 5, u2⟩ dr [zz]).1) := ka
            have HFREE : Hid (∀ w3 v, AddAt wz w3 b2 ⟨pz.B, 1, 59, 5, u2 + [zz].length + 1⟩ { pz with wv := .slice none 0 0 } v (addD ⟨pz.B, 1, 59, 5, u2⟩ dr [zz]).1 → ∃ D', DiskAt w3 { pz with wv := v } D' ∧ D'.down = false ∧ D'.now.length = 60 ∧ (logOf rdC D'.now 1 59 5).1 = P2.map (·.l) ++ [[zz]] ∧ Calm w.heap.size wz w3) := fun w3 v h => HLZ.out.freed (by omega) (by omega) (by omega) (by omega) h14 hrn hok h
            clear ka z1 z2 h14 hrn hok
            go_wp2_with fail
            refine Calls.mono KA.out ?_
            rintro e wa ⟨rfl, v2, hat⟩
            obtain ⟨D', hd', hup, hln, hsd, hcm⟩ := HFREE.out wa v2 hat
            have ko := logOpen_good { pz with wv := v2 } D' 1 59 5 wa hd' hup (by omega) (by omega) (by omega) (by rw [hln]; omega)
            have KO : Hid (Calls Try.prog 52 #[.pointer (some ⟨pz.B, 0, none⟩), .int .i64 1, .int .i64 59, .int .i64 5] wa (OpenEnd wa { pz with wv := v2 } D' 1 59 5)) := ko
            have HBa : Hid (Below w.heap.size w wa) := HLZ.out.below.trans (hcm.below HLZ.out.below.size)
            have HGa : Hid (Deeds w.heap.size wa ga gc P2) := HLZ.out.got.calm hcm
            have HBXz : wz.heap[wc.heap.size]? = some (.cells #[.string zz.key, .string zz.val, .bool zz.gone] 73 (0, 0)) := (HBz.out.block _ HWO.out.1).trans HBX.out
            have HQS : Hid (PartS w.heap.size wa ⟨some ⟨wc.heap.size, 0, none⟩, 1, [zz]⟩) := by
              refine CC.calm ⟨HCO.out.below HBz.out, fun y hy _ => ?_⟩ hcm
              injection hy with hy
              subst hy
              exact safe_of HBXz (.inr rfl)
            have HSD : Hid ((logOf rdC D'.now 1 59 5).1 = P2.map (·.l) ++ [[zz]]) := hsd
            have HLN : Hid (D'.now.length = 60) := hln
            clear ko hat hd' hup hln hsd hcm KA HFREE HBXz
            go_wp2_with fail
            refine Calls.mono KO.out ?_
            rintro e wb ⟨b3, vd3, vo3, P3, base3, opn3, rfl, hbw, hlog, hds, hP, hdk, hbe, hPl⟩
            obtain ⟨ma, mc, hv⟩ := row_shape hds.row
            subst hv
            have HM3 : Hid (Deeds w.heap.size wb ma mc P3) := hds.deeds (parts_len hP (logOf_len (by rw [HLN.out]; omega) (by omega)))
            have HSM : Hid (P3.map (·.l) = P2.map (·.l) ++ [[zz]]) := by show _ = _; rw [hP, HSD.out]
            have HGb : Hid (Deeds w.heap.size wb ga gc P2) := HGa.out.calm (Calm.of_below hbe)
            have HQb : Hid (PartS w.heap.size wb ⟨some ⟨wc.heap.size, 0, none⟩, 1, [zz]⟩) := CC.calm HQS.out (Calm.of_below hbe)
            have HBb : Hid (Below w.heap.size w wb) := HBa.out.trans (hbe.mono HBa.out.size)
            have HP3 : Hid (P3.length ≤ 59) := hPl
            clear hbw hlog hds hP hdk hbe hPl KO HGa HQS HBa HSD HLN
            obtain ⟨xa, xc, we, hr1, za, zc, wf, hr2, hDf, hBf⟩ := run_moreD 88 wb ga gc P2 ⟨some ⟨wc.heap.size, 0, none⟩, 1, [zz]⟩ (by have := HP60.out; omega) HGb.out (fun w' h => CC.calm HQb.out (Calm.of_below h)) (by simp)
            have ks := sameDeeds_any ma za mc zc P3 (P2 ++ [⟨some ⟨wc.heap.size, 0, none⟩, 1, [zz]⟩]) wf (by have := HP3.out; omega) (by have := HP60.out; simp; omega) (HM3.out.calm (Calm.of_below hBf)).rows hDf.rows
            rw [(sameDL_iff P3 _).2 (by rw [HSM.out, List.map_append]; rfl), List.length_append] at ks
            have KS3 : Hid (Calls Try.prog 54 #[.slice ma P3.length mc, .slice za (P2.length + 1) zc] wf fun e w' => e = .returned (.bool true) ∧ ∃ n, w' = wf.drewN n) := ks
            have HBF : Hid (Below w.heap.size w wf) := HBb.out.trans (hBf.mono HBb.out.size)
            simp only [List.length_cons, List.length_nil] at hr1 hr2
            have HR1 : Hid _ := hr1
            have HR2 : Hid _ := hr2
            clear ks hDf hBf hr1 hr2
            go_wp2_with (first | (at_builtin; refine wpList_run (by kernel_rfl) _ _ 88 rfl _ _ rfl rfl _ _ HR1.out ?_) | (at_builtin; refine wpList_run (by kernel_rfl) _ _ 88 rfl _ _ rfl rfl _ _ HR2.out ?_))
            refine Calls.mono KS3.out ?_
            rintro e wg ⟨rfl, ng, rfl⟩
            go_wp2
            go_ret
            exact ⟨rfl, below_drewN HBF.out ng⟩
    · have hge : ¬ (i : Int) < (l.length : Int) := by omega
      obtain ⟨L, hL⟩ : ∃ L, L = Q := ⟨_, rfl⟩
      have HLL : Hid (L.length = Q.length) := by show _ = _; rw [hL]
      obtain ⟨pz, hpz⟩ : ∃ pz : Dp, pz = p := ⟨_, rfl⟩
      obtain ⟨dz, hdz⟩ : ∃ dz, dz = d := ⟨_, rfl⟩
      obtain ⟨Wz, hWz⟩ : ∃ W, W = wr := ⟨_, rfl⟩
      have HE : Hid (TlEnd w Wz B pz dz qa qc Q qa qc L) := by
        show TlEnd _ _ _ _ _ _ _ _ _ _ _
        rw [hL, hpz, hdz, hWz]
        exact HR.out.stop (by omega)
      rw [← hWz]
      clear hL hpz hdz hWz HR
      have hpB := HE.out.pB
      subst hpB
      have krs := diskRestart_any pz dz K Wz HE.out.disk hK (by have := HE.out.few; omega)
      have KRS : Hid _ := krs
      clear krs
      go_wp2_with fail
      refine Calls.mono KRS.out ?_
      rintro e w8 ⟨rfl, hd8, hn8⟩
      obtain ⟨dr, hdr⟩ : ∃ dr, dr = restartD dz K := ⟨_, rfl⟩
      rw [← hdr] at hd8
      have HDR : Hid (dr = restartD dz K) := hdr
      have HN8 : Hid (Near pz Wz w8) := hn8
      have ko := logOpen_good { pz with wv := .slice none 0 0 } dr 1 59 5 w8 hd8 (by rw [hdr]; rfl) (by omega) (by omega) (by omega) (by rw [hdr, (HE.out.fate K).1]; omega)
      have KO : Hid _ := ko
      clear ko hd8 hn8 hdr KRS
      go_wp2_with fail
      refine Calls.mono KO.out ?_
      rintro e w9 ⟨b2, vd, vo, P2, base, opn, rfl, hbw, hlog, hds, hP, hdk, hbe, hPl⟩
      obtain ⟨ga, gc, hv⟩ := row_shape hds.row
      subst hv
      obtain ⟨hl9, hw9, hla9, hor⟩ := HE.out.opened HDR.out HN8.out hbw hlog hds hP hdk hbe hPl
      obtain ⟨u2, hu2⟩ : ∃ x, x = (logOf rdC dr.now 1 59 5).2 := ⟨_, rfl⟩
      rw [← hu2] at hl9
      have HL9 : Hid (LsMid w w9 60 1 59 5 pz.B b2 u2 60 { pz with wv := .slice none 0 0 } dr ga gc P2 ga gc P2) := hl9
      have HW9 : Hid (Deeds w.heap.size w9 qa qc Q) := hw9
      have HX9 : Hid (Deeds w.heap.size w9 qa qc L) := hla9
      have HOR : Hid (P2.map (·.l) = Q.map (·.l) ∨ P2.map (·.l) = L.map (·.l)) := hor
      have HP60 : Hid (P2.length ≤ 59) := hPl
      have hu59 : u2 ≤ 59 := (hl9.ok (by omega) (by omega) (by omega)).used
      clear hbw hlog hds hP hdk hbe hPl hl9 hw9 hla9 hor hu2 KO HN8 HDR
      have KS1 : Hid (Calls Try.prog 54 #[.slice ga P2.length gc, .slice qa Q.length qc] w9 fun e w' => e = .returned (.bool (sameDL P2 Q)) ∧ Below w9.heap.size w9 w') :=
        (sameDeeds_any ga qa gc qc P2 Q w9 (by have := HP60.out; omega) (by have := HE.out.lens; omega) HL9.out.got.rows HW9.out.rows).mono fun e w' ⟨he, n, hn⟩ => ⟨he, by rw [hn]; exact below_drewN (Below.refl _ _) n⟩
      have KS2 : Hid (∀ W, Below w9.heap.size w9 W → Calls Try.prog 54 #[.slice ga P2.length gc, .slice qa (Q.length) qc] W fun e w' => e = .returned (.bool (sameDL P2 L)) ∧ Below w9.heap.size w9 w') := fun W hb => by
        have h := sameDeeds_any ga qa gc qc P2 L W (by have := HP60.out; omega) (by have := HE.out.lens; omega) (HL9.out.go hb).got.rows (HX9.out.calm (Calm.of_below hb)).rows
        rw [HLL.out] at h
        exact h.mono fun e w' ⟨he, n, hn⟩ => ⟨he, by rw [hn]; exact below_drewN hb n⟩
      have KRM : Hid (∀ W, Below w9.heap.size w9 W → Calls Try.prog 55 #[.pointer (some ⟨b2, 0, none⟩)] W fun e w' => e = .returned (.int .i64 (59 - (u2 : Int))) ∧ Below W.heap.size W w') := fun W hb => by
        have h := logRoom_any b2 ⟨pz.B, 1, 59, 5, u2⟩ W (HL9.out.log.below hb) (HL9.out.ok (by omega) (by omega) (by omega))
        simp only at h
        rw [show (((59 - u2 : Nat) : Nat) : Int) = 59 - (u2 : Int) by omega] at h
        exact h.mono fun e w' ⟨he, n, hn⟩ => ⟨he, by rw [hn]; exact below_drewN (Below.refl _ _) n⟩
      go_upto_region 25 with fail
      go_cut [111] (fun v111 wx => v111 = .bool false ∧ Hid (Below w9.heap.size w9 wx))
      case first =>
        by_cases hq : P2.map (·.l) = Q.map (·.l)
        · have hq1 : sameDL P2 Q = true := (sameDL_iff P2 Q).2 hq
          rw [hq1] at KS1
          clear hq hq1
          go_wp2_with fail
          refine Calls.mono KS1.out ?_
          rintro e wz ⟨rfl, hb⟩
          have HBz : Hid _ := hb
          clear hb
          go_wp2_with fail
          go_meet
          exact ⟨rfl, HBz⟩
        · have hq1 : sameDL P2 Q = false := sameDL_false hq
          have hq2 : sameDL P2 L = true := (sameDL_iff P2 L).2 (by rcases HOR.out with h | h; exact absurd h hq; exact h)
          rw [hq1] at KS1
          rw [hq2] at KS2
          clear hq hq1 hq2
          go_wp2_with fail
          refine Calls.mono KS1.out ?_
          rintro e wz ⟨rfl, hb⟩
          have HBz : Hid _ := hb
          clear hb
          go_wp2_with fail
          refine Calls.mono (KS2.out wz HBz.out) ?_
          rintro e wy ⟨rfl, hb⟩
          have HBy : Hid _ := hb
          clear hb
          go_wp2_with fail
          go_meet
          exact ⟨rfl, HBy⟩
      case rest =>
        obtain ⟨rfl, HBc⟩ := hcut
        clear KS1 KS2 HOR HW9 HX9 HE HLL
        have HBo : Hid (∀ o, Below w9.heap.size w9 (wc.alloc o)) := fun o => HBc.out.alloc HBc.out.size o
        obtain ⟨Wo, hWo⟩ : ∃ W, W = wc.alloc (.cells #[.string zz.key, .string zz.val, .bool zz.gone] 73) := ⟨_, rfl⟩
        have HBW : Hid (Below w9.heap.size w9 Wo) := by show Below _ _ _; rw [hWo]; exact HBo.out _
        have HCO : Hid (CC Wo (some ⟨wc.heap.size, 0, none⟩) [zz]) := by show CC _ _ _; rw [hWo]; exact CC.one wc zz _
        have HWO : Hid (wc.heap.size < Wo.heap.size ∧ w.heap.size ≤ wc.heap.size) := by
          refine ⟨by rw [hWo, World.size_alloc]; omega, Nat.le_trans HL9.out.below.size HBc.out.size⟩
        have HBX : Hid (Wo.heap[wc.heap.size]? = some (.cells #[.string zz.key, .string zz.val, .bool zz.gone] 73 (0, 0))) := by show _ = _; rw [hWo]; exact heap_alloc_new wc _
        have KRW : Hid _ := KRM.out Wo HBW.out
        go_wp2_with fail
        rw [show wc.alloc (Obj.cells #[Value.string ⟨#[122]⟩, Value.string ⟨#[122]⟩, Value.bool false] 73) = Wo from hWo.symm]
        clear hWo HBo
        refine Calls.mono KRW.out ?_
        rintro e wz ⟨rfl, hb⟩
        have HBz : Hid (Below Wo.heap.size Wo wz) := hb
        have HB9z : Hid (Below w9.heap.size w9 wz) := HBW.out.trans (hb.mono HBW.out.size)
        have HLZ : Hid (LsMid w wz 60 1 59 5 pz.B b2 u2 60 { pz with wv := .slice none 0 0 } dr ga gc P2 ga gc P2) := HL9.out.go HB9z.out
        clear hb KRW KRM
        by_cases hroom : (59 : Int) - (u2 : Int) < 2
        · go_wp2
          go_ret
          exact ⟨rfl, HLZ.out.below⟩
        have hrn : ¬ 59 - u2 < [zz].length + 1 := by simp only [List.length_cons, List.length_nil]; omega
        have h14 : ¬ 14 < [zz].length := by simp
        have hok : faultL [zz] = 0 := by decide
        obtain ⟨z1, z2⟩ := HLZ.out.adds (c := [zz]) (by omega) (by omega) (by omega) (by omega) h14 hrn hok
        have ka := logAdd_any b2 ⟨pz.B, 1, 59, 5, u2⟩ { pz with wv := .slice none 0 0 } dr (some ⟨wc.heap.size, 0, none⟩) 1 [zz] wz HLZ.out.log (HLZ.out.ok (by omega) (by omega) (by omega)) HLZ.out.disk rfl (HCO.out.below HBz.out) (by simp) (by have := HLZ.out.free.wr; omega)
        rw [z1, z2, errV_zero rfl] at ka
        have KA : Hid (Calls Try.prog 57 #[.pointer (some ⟨b2, 0, none⟩), .slice (some ⟨wc.heap.size, 0, none⟩) 1 1] wz fun e w' => e = .returned .nilIface ∧ ∃ v, AddAt wz w' b2 ⟨pz.B, 1, 59, 5, u2 + [zz].length + 1⟩ { pz with wv := .slice none 0 0 } v (addD ⟨pz.B, 1, 59, 5, u2⟩ dr [zz]).1) := ka
        have HFREE : Hid (∀ w3 v, AddAt wz w3 b2 ⟨pz.B, 1, 59, 5, u2 + [zz].length + 1⟩ { pz with wv := .slice none 0 0 } v (addD ⟨pz.B, 1, 59, 5, u2⟩ dr [zz]).1 → ∃ D', DiskAt w3 { pz with wv := v } D' ∧ D'.down = false ∧ D'.now.length = 60 ∧ (logOf rdC D'.now 1 59 5).1 = P2.map (·.l) ++ [[zz]] ∧ Calm w.heap.size wz w3) := fun w3 v h => HLZ.out.freed (by omega) (by omega) (by omega) (by omega) h14 hrn hok h
        clear ka z1 z2 h14 hrn hok
        go_wp2_with fail
        refine Calls.mono KA.out ?_
        rintro e wa ⟨rfl, v2, hat⟩
        obtain ⟨D', hd', hup, hln, hsd, hcm⟩ := HFREE.out wa v2 hat
        have ko := logOpen_good { pz with wv := v2 } D' 1 59 5 wa hd' hup (by omega) (by omega) (by omega) (by rw [hln]; omega)
        have KO : Hid (Calls Try.prog 52 #[.pointer (some ⟨pz.B, 0, none⟩), .int .i64 1, .int .i64 59, .int .i64 5] wa (OpenEnd wa { pz with wv := v2 } D' 1 59 5)) := ko
        have HBa : Hid (Below w.heap.size w wa) := HLZ.out.below.trans (hcm.below HLZ.out.below.size)
        have HGa : Hid (Deeds w.heap.size wa ga gc P2) := HLZ.out.got.calm hcm
        have HBXz : wz.heap[wc.heap.size]? = some (.cells #[.string zz.key, .string zz.val, .bool zz.gone] 73 (0, 0)) := (HBz.out.block _ HWO.out.1).trans HBX.out
        have HQS : Hid (PartS w.heap.size wa ⟨some ⟨wc.heap.size, 0, none⟩, 1, [zz]⟩) := by
          refine CC.calm ⟨HCO.out.below HBz.out, fun y hy _ => ?_⟩ hcm
          injection hy with hy
          subst hy
          exact safe_of HBXz (.inr rfl)
        have HSD : Hid ((logOf rdC D'.now 1 59 5).1 = P2.map (·.l) ++ [[zz]]) := hsd
        have HLN : Hid (D'.now.length = 60) := hln
        clear ko hat hd' hup hln hsd hcm KA HFREE HBXz
        go_wp2_with fail
        refine Calls.mono KO.out ?_
        rintro e wb ⟨b3, vd3, vo3, P3, base3, opn3, rfl, hbw, hlog, hds, hP, hdk, hbe, hPl⟩
        obtain ⟨ma, mc, hv⟩ := row_shape hds.row
        subst hv
        have HM3 : Hid (Deeds w.heap.size wb ma mc P3) := hds.deeds (parts_len hP (logOf_len (by rw [HLN.out]; omega) (by omega)))
        have HSM : Hid (P3.map (·.l) = P2.map (·.l) ++ [[zz]]) := by show _ = _; rw [hP, HSD.out]
        have HGb : Hid (Deeds w.heap.size wb ga gc P2) := HGa.out.calm (Calm.of_below hbe)
        have HQb : Hid (PartS w.heap.size wb ⟨some ⟨wc.heap.size, 0, none⟩, 1, [zz]⟩) := CC.calm HQS.out (Calm.of_below hbe)
        have HBb : Hid (Below w.heap.size w wb) := HBa.out.trans (hbe.mono HBa.out.size)
        have HP3 : Hid (P3.length ≤ 59) := hPl
        clear hbw hlog hds hP hdk hbe hPl KO HGa HQS HBa HSD HLN
        obtain ⟨xa, xc, we, hr1, za, zc, wf, hr2, hDf, hBf⟩ := run_moreD 88 wb ga gc P2 ⟨some ⟨wc.heap.size, 0, none⟩, 1, [zz]⟩ (by have := HP60.out; omega) HGb.out (fun w' h => CC.calm HQb.out (Calm.of_below h)) (by simp)
        have ks := sameDeeds_any ma za mc zc P3 (P2 ++ [⟨some ⟨wc.heap.size, 0, none⟩, 1, [zz]⟩]) wf (by have := HP3.out; omega) (by have := HP60.out; simp; omega) (HM3.out.calm (Calm.of_below hBf)).rows hDf.rows
        rw [(sameDL_iff P3 _).2 (by rw [HSM.out, List.map_append]; rfl), List.length_append] at ks
        have KS3 : Hid (Calls Try.prog 54 #[.slice ma P3.length mc, .slice za (P2.length + 1) zc] wf fun e w' => e = .returned (.bool true) ∧ ∃ n, w' = wf.drewN n) := ks
        have HBF : Hid (Below w.heap.size w wf) := HBb.out.trans (hBf.mono HBb.out.size)
        simp only [List.length_cons, List.length_nil] at hr1 hr2
        have HR1 : Hid _ := hr1
        have HR2 : Hid _ := hr2
        clear ks hDf hBf hr1 hr2
        go_wp2_with (first | (at_builtin; refine wpList_run (by kernel_rfl) _ _ 88 rfl _ _ rfl rfl _ _ HR1.out ?_) | (at_builtin; refine wpList_run (by kernel_rfl) _ _ 88 rfl _ _ rfl rfl _ _ HR2.out ?_))
        refine Calls.mono KS3.out ?_
        rintro e wg ⟨rfl, ng, rfl⟩
        go_wp2
        go_ret
        exact ⟨rfl, below_drewN HBF.out ng⟩
end Go.Proofs.Ytihnghnafpgdfab
