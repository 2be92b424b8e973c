/-
  LogSays: THE WALK.
-/
import Derived.Test.YtihnghnafpgdfabLogSaysBase
import Derived.Test.YtihnghnafpgdfabOpenTexts
import Derived.OpenShut
import Derived.Deep.DeepCutAuto
import Derived.Deep.CutBlock
namespace Go.Proofs.Ytihnghnafpgdfab
open Go.RowKit Go.BigFrame
set_option linter.unusedVariables false
set_option linter.unusedSimpArgs false

theorem texts_light {l : List ByteArray} {i : Nat} (h : ∀ j (hj : j < i) (h2 : j < l.length), l[j].size ≤ 40) (hi : l.length ≤ i) : ∀ s ∈ l, s.size ≤ 40 := fun s hs => by
  obtain ⟨j, hj, rfl⟩ := List.getElem_of_mem hs
  exact h j (by omega) hj

theorem read_up {d : Dk} {start many i : Nat} (hup : d.down = false) (hin : start + many ≤ d.now.length) (hi : i < many) : ∃ h : i < (regionL d.now start many).length, readD d ((start : Int) + (i : Int)) = ((regionL d.now start many)[i], 0) := by
  have hl := regionL_length hin
  refine ⟨by omega, ?_⟩
  have hn : start + i < d.now.length := by omega
  unfold readD
  rw [if_neg (by rw [hup]; decide), if_pos (by omega), show ((start : Int) + (i : Int)).toNat = start + i by omega]
  have := regionL_at (now := d.now) (from' := start) (many := many) (j := i)
  rw [if_pos hi, List.getElem?_eq_getElem (by omega), List.getElem?_eq_getElem hn] at this
  rw [Option.some.inj this]
  simp [hn]
theorem take_baL {R : List (List UInt8)} {i : Nat} (h : i < R.length) : (R.take (i + 1)).map baL = (R.take i).map baL ++ [baL R[i]] := by
  rw [List.take_succ_eq_append_getElem h, List.map_append]; rfl
theorem bytesOf_baL (R : List (List UInt8)) : bytesOf (R.map baL) = R := by
  unfold bytesOf
  rw [List.map_map]
  refine (List.map_congr_left (fun x _ => ?_)).trans (List.map_id R)
  exact baL_list x
theorem region_forty {d : Dk} {start many : Nat} (h : Forty d.now) : ∀ s ∈ (regionL d.now start many).map baL, s.size = 40 := by
  intro s hs
  obtain ⟨x, hx, rfl⟩ := List.mem_map.1 hs
  rw [baL_size]
  exact h x (List.mem_of_mem_drop (List.mem_of_mem_take hx))

set_option maxRecDepth 100000 in
set_option maxHeartbeats 8000000 in
theorem logSays_any (a : Option Addr) (cap : Nat) (l : List ByteArray) (n1 n2 n3 : Int) (a' : Option Addr) (cap' : Nat) (ac : List Ac) (w : World) (hs : Strs w a l) (hl : l.length ≤ maxLen) (hz : ∀ s ∈ l, s.size ≤ maxLen) (w1 : (Lit.int .i64 n1).wf = true) (w2 : (Lit.int .i64 n2).wf = true) (w3 : (Lit.int .i64 n3).wf = true) (hm : ac.length ≤ maxLen) (hc : ActCells w a' ac) :
    Calls Try.prog 8 #[.slice a l.length cap, .int .i64 n1, .int .i64 n2, .int .i64 n3, .slice a' ac.length cap'] w fun e w' => e = .returned (.bool true) ∧ Below w.heap.size w w' := by
  have HS : Hid (Strs w a l) := hs
  have HZ : Hid (∀ s ∈ l, s.size ≤ maxLen) := hz
  have HC : Hid (ActCells w a' ac) := hc
  have HM : Hid (ac.length ≤ maxLen) := hm
  have HL : Hid (l.length ≤ maxLen) := hl
  have r1 := bounds_i64 w1
  have r2 := bounds_i64 w2
  have r3 := bounds_i64 w3
  have hl63 : l.length ≤ 9223372036854775807 := by unfold maxLen at hl; omega
  clear hs hz hc hm hl w1 w2 w3
  go_enter Try.func8, Try.ntmps8
  go_wp2_with fail
  refine (logs_any w).mono ?_
  rintro e W1 ⟨rfl, hb⟩
  have HB1 : Hid (Below w.heap.size w W1) := hb
  clear hb
  by_cases h40 : 40 < l.length
  · have h40z : (40 : Int) < (l.length : Int) := by omega
    go_wp2
    go_ret
    exact ⟨rfl, HB1.out⟩
  have h40z : ¬ (40 : Int) < (l.length : Int) := by omega
  go_wp2_with fail
  refine (lightActs_any a' cap' ac 20 _ HM.out (by decide) (HC.out.below HB1.out)).mono ?_
  rintro e w2 ⟨⟨lb, rfl, hlb⟩, hw⟩
  rw [hw]
  clear hw w2
  cases lb
  · clear hlb
    go_wp2
    go_ret
    exact ⟨rfl, HB1.out⟩
  have HLA : Hid (LightA ac 20) := hlb rfl
  clear hlb
  by_cases hfirst : 1000000 < n3
  · go_wp2
    go_ret
    exact ⟨rfl, HB1.out⟩
  go_wp2_with fail
  go_loopg [12] (l.length + 1) (fun kx vi wr => ∃ i : Nat, vi = .int .i64 i ∧ i ≤ l.length ∧ l.length - i ≤ kx ∧ wr = W1 ∧ Hid (∀ j (hj : j < i) (h2 : j < l.length), l[j].size ≤ 40))
  case atStart => exact ⟨0, rfl, by omega, by omega, rfl, fun j hj => absurd hj (Nat.not_lt_zero _)⟩
  case round =>
    obtain ⟨i, rfl, hi, hix, rfl, HSM⟩ := hrel
    by_cases hlt : i < l.length
    · have hltz : (i : Int) < (l.length : Int) := by omega
      obtain ⟨sb, so, rfl, sc0⟩ := (HS.out.below HB1.out) i hlt
      have hsz : l[i].size ≤ maxLen := HZ.out _ (List.getElem_mem hlt)
      unfold maxLen at hsz
      by_cases h4 : 40 < l[i].size
      · have h4z : (40 : Int) < (l[i].size : Int) := by omega
        go_wp2
        go_ret
        exact ⟨rfl, HB1.out⟩
      · have h4z : ¬ (40 : Int) < (l[i].size : Int) := by omega
        go_wp2
        go_roundg (l.length - (i + 1))
        case measure => omega
        case rel =>
          refine ⟨i + 1, by go_num, by omega, Nat.le_refl _, rfl, fun j hj h2 => ?_⟩
          by_cases e : j = i
          · subst e; omega
          · exact HSM.out j (by omega) h2
    · have HT40 : Hid (∀ s ∈ l, s.size ≤ 40) := texts_light HSM.out (by omega)
      clear HSM
      obtain ⟨N, hN⟩ : ∃ N, N = max 1 l.length := ⟨_, rfl⟩
      have hN40 : N ≤ 40 := by omega
      have hN1 : 1 ≤ N := by omega
      have hNl : l.length ≤ N := by omega
      have hNz : max (1 : Int) (l.length : Int) = (N : Int) := by omega
      clear hN
      have HNZ : Hid _ := hNz
      clear hNz
      have KD : Hid _ := diskNew_good N wr hN1 (by omega)
      go_wp2_with fail
      rw [HNZ.out]
      refine Calls.mono KD.out ?_
      rintro e w2 ⟨B, g1, g2, rfl, hd, hb⟩
      have HD2 : Hid (DiskAt w2 ⟨wr.heap.size, B, g1, g2, .slice none 0 0⟩ (newD N)) := hd
      have HB2 : Hid (Below w.heap.size w w2) := HB1.out.trans (hb.mono HB1.out.size)
      have HLO : Hid (w.heap.size ≤ wr.heap.size) := HB1.out.size
      obtain ⟨lo, hlo⟩ : ∃ x, x = wr.heap.size := ⟨_, rfl⟩
      rw [← hlo] at HD2 HLO
      clear hd hb hlo HB1 HNZ KD
      go_wp2_with fail
      go_loopg [15] (l.length + 1) (fun kx vi wr => ∃ (i : Nat) (v : Value) (D : Dk), vi = .int .i64 i ∧ i ≤ l.length ∧ l.length - i ≤ kx ∧ Hid (DiskAt wr ⟨lo, B, g1, g2, v⟩ D) ∧ Hid (Free D N i) ∧ Hid (Below w.heap.size w wr))
      case atStart => exact ⟨0, _, newD N, rfl, by omega, by omega, HD2, free_new N, HB2⟩
      case round =>
        clear HD2 HB2
        obtain ⟨i, v, D, rfl, hi, hix, HD, HF, HB⟩ := hrel
        by_cases hlt : i < l.length
        · have hltz : (i : Int) < (l.length : Int) := by omega
          obtain ⟨sb, so, rfl, sc0⟩ := (HS.out.below HB.out) i hlt
          have hsz : l[i].size ≤ 40 := HT40.out _ (List.getElem_mem hlt)
          obtain ⟨e0, hfr⟩ := write_free (s := l[i]) HF.out (show i < N by omega) hsz
          have kw := diskWrite_any ⟨lo, B, g1, g2, v⟩ D (i : Int) l[i] wr HD.out (by unfold maxLen; omega) (by have := HF.out.wr; omega)
          rw [e0, errV_zero rfl] at kw
          have KW : Hid _ := kw
          have HFR : Hid _ := hfr
          clear kw hfr e0
          generalize writeD D (i : Int) l[i] = D' at *
          go_wp2_with fail
          refine Calls.mono KW.out ?_
          rintro e w5 ⟨rfl, v5, hd5, hn5⟩
          have HD5 : Hid (DiskAt w5 ⟨lo, B, g1, g2, v5⟩ D') := hd5
          have HB5 : Hid (Below w.heap.size w w5) := HB.out.trans ((hn5.low HD.out).mono HLO.out)
          clear hd5 hn5 KW
          go_wp2
          go_roundg (l.length - (i + 1))
          case measure => omega
          case rel => exact ⟨i + 1, v5, D', by go_num, by omega, Nat.le_refl _, HD5, HFR, HB5⟩
        · obtain ⟨p, hp⟩ : ∃ p : Dp, p = ⟨lo, B, g1, g2, v⟩ := ⟨_, rfl⟩
          have HPB : Hid (p.B = B) := by show _ = _; rw [hp]
          have HPL : Hid (w.heap.size ≤ p.lo) := by show _ ≤ _; rw [hp]; exact HLO.out
          rw [← hp] at HD
          have HF2 : Hid (Free D N 40) := ⟨HF.out.up, HF.out.left, by have := HF.out.wr; omega, HF.out.len⟩
          clear hp HF HLO
          have KS : Hid (Calls Try.prog 28 #[.pointer (some ⟨B, 0, none⟩)] wr fun e w' => e = .returned (.int .i64 N) ∧ w' = wr) := by
            have := sectors_any p D wr HD.out
            rw [HPB.out, HF2.out.len] at this
            exact this
          by_cases hbad : n1 < 0 ∨ n2 < 1 ∨ n3 < 1 ∨ (N : Int) - n1 < n2
          · have ko := logOpen_bad p D n1 n2 n3 wr HD.out r1 (by rw [HF2.out.len]; exact hbad)
            rw [HPB.out] at ko
            have KO : Hid _ := ko
            have ks := same_yes 1 wr (by decide) (by decide)
            have KSM : Hid _ := ks
            have HER : Hid (errV 1 = .iface 118 (.int .i64 1)) := errV_pos (by decide)
            rw [HER.out] at KO KSM
            clear ko ks
            have HBAD : Hid _ := hbad
            clear hbad
            by_cases h1 : n1 < 0
            · clear HBAD
              go_wp2_with fail
              refine Calls.mono KO.out ?_
              rintro e w5 ⟨rfl, hw⟩
              rw [hw]
              clear hw w5
              go_wp2_with fail
              refine Calls.mono KSM.out ?_
              rintro e w5 ⟨rfl, hw⟩
              rw [hw]
              clear hw w5
              go_wp2
              go_ret
              exact ⟨rfl, HB.out⟩
            · by_cases h2 : n2 < 1
              · clear HBAD
                go_wp2_with fail
                refine Calls.mono KO.out ?_
                rintro e w5 ⟨rfl, hw⟩
                rw [hw]
                clear hw w5
                go_wp2_with fail
                refine Calls.mono KSM.out ?_
                rintro e w5 ⟨rfl, hw⟩
                rw [hw]
                clear hw w5
                go_wp2
                go_ret
                exact ⟨rfl, HB.out⟩
              · by_cases h3 : (N : Int) < n2
                · clear HBAD
                  go_wp2_with fail
                  refine Calls.mono KO.out ?_
                  rintro e w5 ⟨rfl, hw⟩
                  rw [hw]
                  clear hw w5
                  go_wp2_with fail
                  refine Calls.mono KS.out ?_
                  rintro e w5 ⟨rfl, hw⟩
                  rw [hw]
                  clear hw w5
                  go_wp2_with fail
                  refine Calls.mono KSM.out ?_
                  rintro e w5 ⟨rfl, hw⟩
                  rw [hw]
                  clear hw w5
                  go_wp2
                  go_ret
                  exact ⟨rfl, HB.out⟩
                · by_cases h4 : (N : Int) - n2 < n1
                  · clear HBAD
                    go_wp2_with fail
                    refine Calls.mono KO.out ?_
                    rintro e w5 ⟨rfl, hw⟩
                    rw [hw]
                    clear hw w5
                    go_wp2_with fail
                    refine Calls.mono KS.out ?_
                    rintro e w5 ⟨rfl, hw⟩
                    rw [hw]
                    clear hw w5
                    go_wp2_with fail
                    refine Calls.mono KS.out ?_
                    rintro e w5 ⟨rfl, hw⟩
                    rw [hw]
                    clear hw w5
                    go_wp2_with fail
                    refine Calls.mono KSM.out ?_
                    rintro e w5 ⟨rfl, hw⟩
                    rw [hw]
                    clear hw w5
                    go_wp2
                    go_ret
                    exact ⟨rfl, HB.out⟩
                  · have h5 : n3 < 1 := by have := HBAD.out; omega
                    clear HBAD
                    go_wp2_with fail
                    refine Calls.mono KO.out ?_
                    rintro e w5 ⟨rfl, hw⟩
                    rw [hw]
                    clear hw w5
                    go_wp2_with fail
                    refine Calls.mono KS.out ?_
                    rintro e w5 ⟨rfl, hw⟩
                    rw [hw]
                    clear hw w5
                    go_wp2_with fail
                    refine Calls.mono KS.out ?_
                    rintro e w5 ⟨rfl, hw⟩
                    rw [hw]
                    clear hw w5
                    go_wp2_with fail
                    refine Calls.mono KSM.out ?_
                    rintro e w5 ⟨rfl, hw⟩
                    rw [hw]
                    clear hw w5
                    go_wp2
                    go_ret
                    exact ⟨rfl, HB.out⟩
          · have HGOOD : Hid _ := hbad
            obtain ⟨start, rfl⟩ : ∃ x : Nat, n1 = x := ⟨n1.toNat, by omega⟩
            obtain ⟨many, rfl⟩ : ∃ x : Nat, n2 = x := ⟨n2.toNat, by omega⟩
            obtain ⟨first, rfl⟩ : ∃ x : Nat, n3 = x := ⟨n3.toNat, by omega⟩
            have hm1 : 1 ≤ many := by omega
            have hf1 : 1 ≤ first := by omega
            have hf2 : first ≤ 1000000 := by omega
            have hin : start + many ≤ N := by omega
            clear hbad HGOOD
            have q1 : ¬ ((start : Int) < 0) := by omega
            have q2 : ¬ ((many : Int) < 1) := by omega
            have q3 : ¬ ((N : Int) < (many : Int)) := by omega
            have q6 : ¬ N < many := by omega
            have q4 : ¬ ((N : Int) - (many : Int) < (start : Int)) := by omega
            have q5 : ¬ ((first : Int) < 1) := by omega
            have KO : Hid (Calls Try.prog 52 #[.pointer (some ⟨B, 0, none⟩), .int .i64 start, .int .i64 many, .int .i64 first] wr (OpenEnd wr p D start many first)) := by
              have := logOpen_good p D start many first wr HD.out HF2.out.up hm1 hf1 (by omega) (by rw [HF2.out.len]; exact hin)
              rw [HPB.out] at this
              exact this
            go_wp2_with fail
            refine Calls.mono KO.out ?_
            rintro e w5 ⟨b, vd, vo, P, base, opn, rfl, hbw, hlog, hds, hP, hdk, hbe, hPl⟩
            obtain ⟨ga, gc, hv⟩ := row_shape hds.row
            subst hv
            have KS5 : Hid (Calls Try.prog 28 #[.pointer (some ⟨B, 0, none⟩)] w5 fun e w' => e = .returned (.int .i64 N) ∧ w' = w5) := by
              have := sectors_any p D w5 hdk
              rw [HPB.out, HF2.out.len] at this
              exact this
            have HOPEN : Hid (w.heap.size ≤ b ∧ LogAt w5 b ⟨p.B, start, many, first, (logOf rdC D.now start many first).2⟩ ∧ Deeds w.heap.size w5 ga gc P ∧ P.map (·.l) = (logOf rdC D.now start many first).1 ∧ DiskAt w5 p D ∧ Below w.heap.size w w5 ∧ P.length ≤ many) :=
              ⟨Nat.le_trans HB.out.size hbw, hlog, hds.deeds (parts_len hP (logOf_len (by rw [HF2.out.len]; exact hin) (by omega))), hP, hdk, HB.out.trans (hbe.mono HB.out.size), hPl⟩
            clear hbw hlog hds hP hdk hbe hPl KO KS HB HD
            go_wp2_with fail
            refine Calls.mono KS5.out ?_
            rintro e w6 ⟨rfl, hw⟩
            rw [hw]
            clear hw w6
            go_wp2_with fail
            refine Calls.mono KS5.out ?_
            rintro e w6 ⟨rfl, hw⟩
            rw [hw]
            clear hw w6 KS5
            go_wp2_with fail
            obtain ⟨i0, hif, hz0, hz1, hz2⟩ := info_parts Try.infoString
            go_loopg [19, 18] (many + 1) (fun kx vi v18 wr => ∃ i : Nat, vi = .int .i64 i ∧ i ≤ many ∧ many - i ≤ kx ∧ Hid (Below w5.heap.size w5 wr) ∧ Hid (OwnsS wr w5.heap.size v18 (((regionL D.now start many).take i).map baL)))
            case atStart => exact ⟨0, rfl, by omega, by omega, Below.refl _ _, World.ownsRow_nil _ _ _ _⟩
            case round =>
              obtain ⟨i, rfl, hi, hix, HBX, HON⟩ := hrel
              have hlen : (regionL D.now start many).length = many := regionL_length (by rw [HF2.out.len]; exact hin)
              have HLEN : Hid _ := hlen
              have hti : (((regionL D.now start many).take i).map baL).length = i := by simp [hlen]; omega
              have HTI : Hid _ := hti
              clear hlen hti
              obtain ⟨va, vc, hv⟩ := row_shape HON.out
              rw [HTI.out] at hv
              subst hv
              by_cases hlt : i < many
              · have hltz : (i : Int) < (many : Int) := by omega
                obtain ⟨hri, hrd⟩ := read_up (d := D) HF2.out.up (show start + many ≤ D.now.length by rw [HF2.out.len]; exact hin) hlt
                have kr := diskRead_any p D ((start : Int) + (i : Int)) wr (HOPEN.out.2.2.2.2.1.below HBX.out)
                rw [hrd, HPB.out, errV_zero rfl] at kr
                have KR : Hid _ := kr
                have HSN : Hid (((regionL D.now start many).take (i + 1)).map baL = ((regionL D.now start many).take i).map baL ++ [baL (regionL D.now start many)[i]]) := take_baL hri
                have HMO : Hid (∀ w4 v', w4.ownsRow w5.heap.size 9 1 v' (i + 1) ((((regionL D.now start many).take i).map baL).map Value.string ++ [.string (baL (regionL D.now start many)[i])]) → OwnsS w4 w5.heap.size v' (((regionL D.now start many).take (i + 1)).map baL)) := fun w4 v' h => by
                  rw [HSN.out]
                  refine OwnsS.snoc ?_
                  rw [HTI.out]
                  exact h
                have HRO : Hid (∀ o, (wr.alloc o).ownsRow w5.heap.size 9 1 (.slice va i vc) i ((((regionL D.now start many).take i).map baL).map Value.string)) := fun o => by
                  have h9 : World.ownsRow _ _ _ _ _ _ _ := HON.out
                  rw [HTI.out] at h9
                  exact ownsRow_far h9 (fun k hk => ((Below.refl wr.heap.size wr).alloc (Nat.le_refl _) o).block k (h9.lt k hk).2)
                have hbX : Hid (∀ o, Below w5.heap.size w5 (wr.alloc o)) := fun o => HBX.out.alloc HBX.out.size o
                clear kr hrd
                change Hid (Calls _ _ _ _ (fun e w' => e = .returned (.tuple #[.string (baL (regionL D.now start many)[i]), .nilIface]) ∧ w' = wr)) at KR
                generalize baL (regionL D.now start many)[i] = Z at *
                go_wp2_with fail
                refine Calls.mono KR.out ?_
                rintro e w6 ⟨rfl, hw⟩
                rw [hw]
                clear hw w6 KR
                go_wp2_with (at_builtin; refine wpList_append_own _ rfl _ _ 42 rfl w5.heap.size 9 i0 _ 1 16 (by kernel_rfl) hif hz0 hz1 hz2 rfl (by decide) (.slice va i vc) i ((((regionL D.now start many).take i).map baL).map Value.string) rfl (HRO.out _) ⟨wr.heap.size, 0, none⟩ 1 1 [.string Z] rfl rfl (cell_one_new _ _ _) (one_one _) (by unfold maxLen; omega) (by omega) (hbX.out _).size ?_; intro v' w4 hown4 hgrow4 hnil4; have HA : Hid _ := HMO.out _ _ hown4; have HB4 : Hid (Below w5.heap.size w5 w4) := (hbX.out _).grown hgrow4 (hbX.out _).size (fun k hk => ((HRO.out default).lt k hk).1); obtain ⟨xa, xc, rfl⟩ := row_shape hown4; clear hown4 hgrow4 hnil4)
                go_roundg (many - (i + 1))
                case measure => omega
                case rel => exact ⟨i + 1, by go_num, by omega, Nat.le_refl _, HB4, HA⟩
              · have hge : ¬ ((i : Int) < (many : Int)) := by omega
                have hie : i = many := by omega
                have KC : Hid (Calls Try.prog 53 #[.slice va i vc, .int .i64 first] wr (ClosedEnd wr ((regionL D.now start many).map baL) first)) := by
                  have hon := HON.out
                  rw [List.take_of_length_le (by rw [HLEN.out]; omega)] at hon
                  obtain ⟨ya, yc, hyv, hstr, -⟩ := OwnsS.texts hon
                  injection hyv with y1 y2 y3
                  subst y1
                  have hl2 : ((regionL D.now start many).map baL).length = i := by rw [List.length_map, HLEN.out, hie]
                  have := closedDeeds_any va vc ((regionL D.now start many).map baL) first wr (by rw [hl2]; omega) (by omega) hstr (region_forty HOPEN.out.2.2.2.2.1.snow)
                  rw [hl2] at this
                  exact this
                have HBW : Hid (Below w5.heap.size w5 wr) := HBX
                clear hie
                have HRL : Hid (bytesOf ((regionL D.now start many).map baL) = regionL D.now start many) := bytesOf_baL _
                go_wp2_with fail
                refine Calls.mono KC.out ?_
                rintro e w6 ⟨vd, vo2, Q, base2, opn2, rfl, hds, hQ, hbe, hQl⟩
                obtain ⟨wa, wc, hv⟩ := row_shape hds.row
                subst hv
                rw [HRL.out] at hQ ⊢
                have hQ2 : Q.map (·.l) = (logOf rdC D.now start many first).1 := hQ
                obtain ⟨u, hu⟩ : ∃ u, u = (logOf rdC D.now start many first).2 := ⟨_, rfl⟩
                have HLM : Hid (LsMid w w6 N start many first B b u 60 p D ga gc P wa wc Q) := by
                  obtain ⟨o1, o2, o3, o4, o5, o6, o7⟩ := HOPEN.out
                  have hb56 : Below w5.heap.size w5 w6 := HBW.out.trans (hbe.mono HBW.out.size)
                  rw [← hu] at o2
                  have hQlen : ((regionL D.now start many).map baL).length = many := by rw [List.length_map, HLEN.out]
                  refine ⟨o5.below hb56, HPB.out, HPL.out, ?_, o1, HF2.out, ?_, o3.calm (Calm.of_below hb56), hds.deeds (parts_len hQ2 (logOf_len (by rw [HF2.out.len]; exact hin) (by omega))), by rw [o4, hQ2], by omega, o6.trans (hb56.mono o6.size)⟩
                  · rw [HPB.out] at o2; exact o2.below hb56
                  · rw [hu, hQ2]
                have hu2 : (closedL rdC first (regionL D.now start many)).2 = u := hu.symm
                rw [hu2]
                clear hds hQ hQ2 hbe hQl hu hu2 HRL HBW HOPEN HON HTI HLEN HBX KC hlt hge HPB HPL HF2
                have h20 : ac.length ≤ 20 := HLA.out.1
                go_wp2_with fail
                go_loopg [24, 16, 17, 22, 23] (ac.length + 2) (fun kx vi v16 v17 v22 v23 wr => ∃ (i b u : Nat) (p : Dp) (d : Dk) (ga : Option Addr) (gc : Nat) (P : List PartC) (wa : Option Addr) (wc : Nat) (Q : List PartC), vi = .int .i64 i ∧ v16 = .pointer (some ⟨b, 0, none⟩) ∧ v17 = .slice ga P.length gc ∧ v22 = .slice wa Q.length wc ∧ v23 = .int .i64 u ∧ i ≤ ac.length ∧ ac.length - i ≤ kx ∧ Hid (LsMid w wr N start many first B b u (60 + i) p d ga gc P wa wc Q))
                case atStart => exact ⟨0, b, u, p, D, ga, gc, P, wa, wc, Q, rfl, rfl, rfl, rfl, rfl, by omega, by omega, HLM⟩
                case round =>
                  clear HLM
                  obtain ⟨i, b, u, p, d, ga, gc, P, wa, wc, Q, rfl, rfl, rfl, rfl, rfl, hi, hix, HR⟩ := hrel
                  have hum : u ≤ many := (HR.out.ok hin (by omega) (by omega)).used
                  have HSD : Hid (sameDL P Q = true) := (sameDL_iff P Q).2 HR.out.same
                  have KSD : Hid (Calls Try.prog 54 #[.slice ga P.length gc, .slice wa Q.length wc] wr fun e w' => e = .returned (.bool true) ∧ Below wr.heap.size wr w') := by
                    have h := sameDeeds_any ga wa gc wc P Q wr (by have := HR.out.lenP; have := HR.out.few; omega) (by have := HR.out.few; omega) HR.out.got.rows HR.out.want.rows
                    rw [HSD.out] at h
                    exact h.mono fun e w' ⟨he, n, hn⟩ => ⟨he, by rw [hn]; exact below_drewN (Below.refl _ _) n⟩
                  have KRM : Hid (∀ W, Below wr.heap.size wr W → Calls Try.prog 55 #[.pointer (some ⟨b, 0, none⟩)] W fun e w' => e = .returned (.int .i64 ((many : Int) - (u : Int))) ∧ Below wr.heap.size wr w') := fun W hb => by
                    have h := logRoom_any b ⟨B, start, many, first, u⟩ W (HR.out.log.below hb) (HR.out.ok hin (by omega) (by omega))
                    simp only at h
                    rw [show (((many - u : Nat) : Nat) : Int) = (many : Int) - (u : Int) by omega] at h
                    exact h.mono fun e w' ⟨he, n, hn⟩ => ⟨he, by rw [hn]; exact below_drewN hb n⟩
                  have KNX : Hid (∀ W, Below wr.heap.size wr W → Calls Try.prog 56 #[.pointer (some ⟨b, 0, none⟩)] W fun e w' => e = .returned (.int .i64 ((first : Int) + (many : Int))) ∧ Below wr.heap.size wr w') := fun W hb => by
                    have h := logNext_any b ⟨B, start, many, first, u⟩ W (HR.out.log.below hb) (HR.out.ok hin (by omega) (by omega))
                    exact h.mono fun e w' ⟨he, n, hn⟩ => ⟨he, by rw [hn]; exact below_drewN hb n⟩
                  have hile : (i : Int) ≤ (ac.length : Int) := by omega
                  go_wp2_with fail
                  refine Calls.mono KSD.out ?_
                  rintro e wx ⟨rfl, hb⟩
                  have HBa : Hid _ := hb
                  clear hb KSD
                  go_wp2_with fail
                  refine Calls.mono (KRM.out wx HBa.out) ?_
                  rintro e wy ⟨rfl, hb⟩
                  have HBb : Hid _ := hb
                  clear hb KRM HBa wx
                  go_wp2_with fail
                  refine Calls.mono (KNX.out wy HBb.out) ?_
                  rintro e w6 ⟨rfl, hb⟩
                  have HR6 : Hid (LsMid w w6 N start many first B b u (60 + i) p d ga gc P wa wc Q) := HR.out.go hb
                  clear hb KNX HBb wy HR
                  by_cases hlt : i < ac.length
                  · have hne : ((i : Int) == (ac.length : Int)) = false := by rw [beq_eq_false_iff_ne]; omega
                    obtain ⟨ab, ao, rfl, ⟨c0, c1, c2, c3, c4, c5⟩, ok⟩ := HC.out.below HR6.out.below i hlt
                    obtain ⟨ab0, ao0, e0, -, ok0⟩ := HC.out i hlt
                    have HCC : Hid (CC w ac[i].ca ac[i].cl) := ok0.cells.cc
                    have hx20 : ac[i].cl.length ≤ 20 := by have := (HLA.out.2 _ (List.getElem_mem hlt)).2.2.1; omega
                    clear ok ok0 e0
                    generalize ac[i] = x at *
                    obtain ⟨W, hW⟩ : ∃ W, W = w6.alloc (.cells #[.string x.kind, .string x.s, .string x.t, .int .i64 x.n, .int .u64 x.k, .slice x.ca x.cl.length x.cc] 26) := ⟨_, rfl⟩
                    have HRW : Hid (LsMid w W N start many first B b u (60 + i) p d ga gc P wa wc Q) := by
                      show LsMid _ _ _ _ _ _ _ _ _ _ _ _ _ _ _ _ _ _
                      rw [hW]
                      exact HR6.out.go ((Below.refl _ _).alloc (Nat.le_refl _) _)
                    have HBOX : Hid (W.heap[w6.heap.size]? = some (.cells #[.string x.kind, .string x.s, .string x.t, .int .i64 x.n, .int .u64 x.k, .slice x.ca x.cl.length x.cc] 26 (0, 0))) := by
                      show _ = _
                      rw [hW]
                      exact heap_alloc_new w6 _
                    have HWB : Hid (w6.heap.size < W.heap.size ∧ w.heap.size ≤ w6.heap.size) := by
                      refine ⟨?_, HR6.out.below.size⟩
                      rw [hW, World.size_alloc]; omega
                    clear HR6
                    cases hk : (x.kind.toList == [97, 100, 100])
                    · have KO : Hid (Calls Try.prog 52 #[.pointer (some ⟨B, 0, none⟩), .int .i64 start, .int .i64 many, .int .i64 first] W (OpenEnd W p d start many first)) := by
                        have := logOpen_good p d start many first W HRW.out.disk HRW.out.free.up hm1 hf1 (by omega) (by rw [HRW.out.free.len]; exact hin)
                        rw [HRW.out.pB] at this
                        exact this
                      go_wp2_with fail
                      rw [← hW]
                      refine Calls.mono KO.out ?_
                      rintro e w7 ⟨b', vd, vo, P', base, opn, rfl, hbw, hlog, hds, hP, hdk, hbe, hPl⟩
                      obtain ⟨va, vc, hv⟩ := row_shape hds.row
                      subst hv
                      have HR7 : Hid (LsMid w w7 N start many first B b' u (60 + (i + 1)) p d va vc P' wa wc Q) := (HRW.out.open hin (by omega) hbw hlog hds hP hdk hbe).more (by omega)
                      clear hbw hlog hds hP hdk hbe hPl KO HRW
                      go_wp2
                      go_roundg (ac.length - (i + 1))
                      case measure => omega
                      case rel => exact ⟨i + 1, b', u, p, d, va, vc, P', wa, wc, Q, by go_num, rfl, rfl, rfl, rfl, by omega, Nat.le_refl _, HR7⟩
                    · have hgo : LgOk ⟨B, start, many, first, u⟩ := HRW.out.ok hin (by omega) (by omega)
                      have KADD : Hid (∀ W', Below W.heap.size W W' → Calls Try.prog 57 #[.pointer (some ⟨b, 0, none⟩), .slice x.ca x.cl.length x.cc] W' fun e w' => e = .returned (errV (addD ⟨B, start, many, first, u⟩ d x.cl).2) ∧ ∃ v, AddAt W' w' b (addG ⟨B, start, many, first, u⟩ d x.cl) p v (addD ⟨B, start, many, first, u⟩ d x.cl).1) := fun W' hb => by
                        have hg := HRW.out.go hb
                        exact logAdd_any b ⟨B, start, many, first, u⟩ p d x.ca x.cc x.cl W' hg.log hgo hg.disk hg.pB.symm (HCC.out.below hg.below) (by omega) (by have := hg.free.wr; omega)
                      clear hgo
                      by_cases h14 : 14 < x.cl.length
                      · have h14z : (14 : Int) < (x.cl.length : Int) := by omega
                        have HAD : Hid (addD ⟨B, start, many, first, u⟩ d x.cl = (d, 2)) := by
                          show _ = _
                          unfold addD
                          rw [if_pos h14]
                        have HAG : Hid (addG ⟨B, start, many, first, u⟩ d x.cl = ⟨B, start, many, first, u⟩) := by show _ = _; unfold addG; rw [HAD.out]; exact if_neg (show ¬ (2 : Int) = 0 by decide)
                        have KAD : Hid (∀ W', Below W.heap.size W W' → Calls Try.prog 57 #[.pointer (some ⟨b, 0, none⟩), .slice x.ca x.cl.length x.cc] W' fun e w' => e = .returned (.iface 118 (.int .i64 2)) ∧ ∃ v, LsMid w w' N start many first B b u (60 + (i + 1)) { p with wv := v } d ga gc P wa wc Q) := fun W' hb => (KADD.out W' hb).mono fun e w' ⟨he, v, hat⟩ => by
                          rw [HAD.out, HAG.out] at hat
                          rw [HAD.out] at he
                          exact ⟨he.trans (congrArg Ending.returned (errV_pos (show ¬ (2 : Int) = 0 by decide))), v, ((HRW.out.go hb).same' hat).more (by omega)⟩
                        have ksm := fun W => same_yes 2 W (by decide) (by decide)
                        rw [errV_pos (show ¬ (2 : Int) = 0 by decide)] at ksm
                        have KSM : Hid (∀ W, Calls _ _ _ W _) := ksm
                        clear ksm KADD HAD HAG
                        go_wp2_with fail
                        rw [← hW]
                        clear hW
                        have a5 : W.cell? ⟨w6.heap.size, 5, none⟩ = some (.slice x.ca x.cl.length x.cc) := by rw [cell_block HBOX.out]; rfl
                        go_loopg [27, 26] 1 (fun kx vi v26 wr => vi = .int .i64 0 ∧ v26 = .int .i64 2 ∧ wr = W)
                        case atStart => exact ⟨rfl, rfl, rfl⟩
                        case round =>
                          obtain ⟨rfl, rfl, rfl⟩ := hrel
                          go_wp2_with fail
                          refine Calls.mono (KAD.out _ (Below.refl _ _)) ?_
                          rintro e w7 ⟨rfl, v, hat⟩
                          have HR7 : Hid _ := hat
                          clear hat KAD
                          go_wp2_with fail
                          refine Calls.mono (KSM.out _) ?_
                          rintro e w8 ⟨rfl, hw⟩
                          rw [hw]
                          clear hw w8 KSM
                          go_wp2
                          go_roundg (ac.length - (i + 1))
                          case measure => omega
                          case rel => exact ⟨i + 1, b, u, { p with wv := v }, d, ga, gc, P, wa, wc, Q, by go_num, rfl, rfl, rfl, rfl, by omega, Nat.le_refl _, HR7⟩
                      · have h14z : ¬ (14 : Int) < (x.cl.length : Int) := by omega
                        by_cases hroom : many - u < x.cl.length + 1
                        · have hrz : (many : Int) - (u : Int) < (x.cl.length : Int) + 1 := by omega
                          have HAD : Hid (addD ⟨B, start, many, first, u⟩ d x.cl = (d, 7)) := by
                            show _ = _
                            unfold addD
                            rw [if_neg h14, if_pos hroom]
                          have HAG : Hid (addG ⟨B, start, many, first, u⟩ d x.cl = ⟨B, start, many, first, u⟩) := by show _ = _; unfold addG; rw [HAD.out]; exact if_neg (show ¬ (7 : Int) = 0 by decide)
                          have KAD : Hid (∀ W', Below W.heap.size W W' → Calls Try.prog 57 #[.pointer (some ⟨b, 0, none⟩), .slice x.ca x.cl.length x.cc] W' fun e w' => e = .returned (.iface 118 (.int .i64 7)) ∧ ∃ v, LsMid w w' N start many first B b u (60 + (i + 1)) { p with wv := v } d ga gc P wa wc Q) := fun W' hb => (KADD.out W' hb).mono fun e w' ⟨he, v, hat⟩ => by
                            rw [HAD.out, HAG.out] at hat
                            rw [HAD.out] at he
                            exact ⟨he.trans (congrArg Ending.returned (errV_pos (show ¬ (7 : Int) = 0 by decide))), v, ((HRW.out.go hb).same' hat).more (by omega)⟩
                          have ksm := fun W => same_yes 7 W (by decide) (by decide)
                          rw [errV_pos (show ¬ (7 : Int) = 0 by decide)] at ksm
                          have KSM : Hid (∀ W, Calls _ _ _ W _) := ksm
                          clear ksm KADD HAD HAG
                          go_wp2_with fail
                          rw [← hW]
                          clear hW
                          have a5 : W.cell? ⟨w6.heap.size, 5, none⟩ = some (.slice x.ca x.cl.length x.cc) := by rw [cell_block HBOX.out]; rfl
                          go_loopg [27, 26] 1 (fun kx vi v26 wr => vi = .int .i64 0 ∧ v26 = .int .i64 7 ∧ wr = W)
                          case atStart => exact ⟨rfl, rfl, rfl⟩
                          case round =>
                            obtain ⟨rfl, rfl, rfl⟩ := hrel
                            by_cases hl0 : (0 : Int) < (x.cl.length : Int)
                            all_goals
                              go_wp2_with fail
                              refine Calls.mono (KAD.out _ (Below.refl _ _)) ?_
                              rintro e w7 ⟨rfl, v, hat⟩
                              have HR7 : Hid _ := hat
                              clear hat KAD
                              go_wp2_with fail
                              refine Calls.mono (KSM.out _) ?_
                              rintro e w8 ⟨rfl, hw⟩
                              rw [hw]
                              clear hw w8 KSM
                              go_wp2
                              go_roundg (ac.length - (i + 1))
                              case measure => omega
                              case rel => exact ⟨i + 1, b, u, { p with wv := v }, d, ga, gc, P, wa, wc, Q, by go_num, rfl, rfl, rfl, rfl, by omega, Nat.le_refl _, HR7⟩
                        · have hrz : ¬ (many : Int) - (u : Int) < (x.cl.length : Int) + 1 := by omega
                          have HC14 : Hid (¬ 14 < x.cl.length) := h14
                          have HROOM : Hid (¬ many - u < x.cl.length + 1) := hroom
                          have KCF : Hid (∀ (c : Ch) W', Calls Try.prog 46 #[c.v] W' fun e w' => e = .returned (.int .i64 (changeF c)) ∧ Below W'.heap.size W' w') := fun c W' => changeFault_any c W'
                          go_wp2_with fail
                          rw [← hW]
                          clear hW
                          have HB5 : Hid (∀ W', Below W.heap.size W W' → W'.cell? ⟨w6.heap.size, 5, none⟩ = some (.slice x.ca x.cl.length x.cc)) := fun W' hb => by
                            rw [cell_block ((hb.block _ HWB.out.1).trans HBOX.out)]; rfl
                          go_loopg [27, 26] (x.cl.length + 1) (fun kx vi v26 wr => ∃ (k : Nat) (f : Int), vi = .int .i64 k ∧ v26 = .int .i64 f ∧ k ≤ x.cl.length ∧ x.cl.length - k ≤ kx ∧ Hid (Below W.heap.size W wr) ∧ Hid ((¬ f = 0 ∧ f = faultL x.cl) ∨ (f = 0 ∧ ∀ j (hj : j < k) (h2 : j < x.cl.length), changeF x.cl[j] = 0)))
                          case atStart => exact ⟨0, 0, rfl, rfl, by omega, by omega, Below.refl _ _, .inr ⟨rfl, fun j hj => absurd hj (Nat.not_lt_zero _)⟩⟩
                          case round =>
                            obtain ⟨k, f, rfl, rfl, hk2, hkx2, HBK, HFF⟩ := hrel
                            have a5 := HB5.out wr HBK.out
                            by_cases hf : f = 0
                            · by_cases hkl : k < x.cl.length
                              · have hklz : (k : Int) < (x.cl.length : Int) := by omega
                                have HGD : Hid (∀ j (hj : j < k) (h2 : j < x.cl.length), changeF x.cl[j] = 0) := by
                                  rcases HFF.out with h | h
                                  · exact absurd hf h.1
                                  · exact h.2
                                obtain ⟨cb, co, ex, c0, c1, c2⟩ := (HCC.out.below (HRW.out.go HBK.out).below) k hkl
                                rw [ex] at a5
                                have HXK : Hid (∀ W', Calls Try.prog 46 #[(x.cl[k]).v] W' fun e w' => e = .returned (.int .i64 (changeF x.cl[k])) ∧ Below W'.heap.size W' w') := fun W' => KCF.out _ W'
                                have HNX : Hid ((¬ changeF x.cl[k] = 0 ∧ changeF x.cl[k] = faultL x.cl) ∨ (changeF x.cl[k] = 0 ∧ ∀ j (hj : j < k + 1) (h2 : j < x.cl.length), changeF x.cl[j] = 0)) := by
                                  by_cases h0 : changeF x.cl[k] = 0
                                  · refine .inr ⟨h0, fun j hj h2 => ?_⟩
                                    by_cases e : j = k
                                    · subst e; exact h0
                                    · exact HGD.out j (by omega) h2
                                  · exact .inl ⟨h0, (faultL_at hkl (fun j hj => HGD.out j hj (by omega)) h0).symm⟩
                                subst hf
                                clear HFF ex
                                generalize changeF x.cl[k] = fx at *
                                generalize x.cl[k] = y at *
                                go_wp2_with fail
                                refine Calls.mono (HXK.out _) ?_
                                rintro e w7 ⟨rfl, hb⟩
                                have HB7 : Hid (Below W.heap.size W w7) := HBK.out.trans (hb.mono HBK.out.size)
                                clear hb HXK
                                go_wp2
                                go_roundg (x.cl.length - (k + 1))
                                case measure => omega
                                case rel => exact ⟨k + 1, fx, by go_num, rfl, by omega, Nat.le_refl _, HB7, HNX⟩
                              · have hklz : ¬ (k : Int) < (x.cl.length : Int) := by omega
                                have HOK : Hid (faultL x.cl = 0) := by
                                  rcases HFF.out with h | h
                                  · exact absurd hf h.1
                                  · refine faultL_none (fun y hy => ?_)
                                    obtain ⟨j, hj, rfl⟩ := List.getElem_of_mem hy
                                    exact h.2 j (by omega) hj
                                have HRK : Hid (LsMid w wr N start many first B b u (60 + i) p d ga gc P wa wc Q) := HRW.out.go HBK.out
                                obtain ⟨z1, z2⟩ := HRK.out.adds hin (by omega) hf1 (by omega) HC14.out HROOM.out HOK.out
                                have ka := KADD.out wr HBK.out
                                rw [z1, z2, errV_zero rfl] at ka
                                have KA : Hid _ := ka
                                have k0 := fun W => same_yes 0 W (by decide) (by decide)
                                rw [errV_zero rfl] at k0
                                have K0 : Hid (∀ W, Calls _ _ _ W _) := k0
                                have HGROW : Hid (∀ w7 v w9 ya yc, AddAt wr w7 b ⟨B, start, many, first, u + x.cl.length + 1⟩ p v (addD ⟨B, start, many, first, u⟩ d x.cl).1 → Below w7.heap.size w7 w9 → w9.ownsRow w7.heap.size 24 1 (.slice ya (Q.length + 1) yc) (Q.length + 1) (Q.map PartC.v ++ [.slice x.ca x.cl.length x.cc]) → LsMid w w9 N start many first B b (u + x.cl.length + 1) (60 + i + 1) { p with wv := v } (addD ⟨B, start, many, first, u⟩ d x.cl).1 ya yc (Q ++ [⟨x.ca, x.cc, x.cl⟩]) ya yc (Q ++ [⟨x.ca, x.cc, x.cl⟩])) := fun w7 v w9 ya yc h1 h2 h3 =>
                                  HRK.out.grow (q := ⟨x.ca, x.cc, x.cl⟩) hin (by omega) hf1 (by omega) HC14.out HROOM.out HOK.out h1 h2 HCC.out h3
                                have HQ80 : Hid (Q.length ≤ 80) := by show _ ≤ _; have := HRK.out.few; omega
                                subst hf
                                clear HFF ka k0 z1 z2 KADD
                                go_wp2_with fail
                                refine Calls.mono KA.out ?_
                                rintro e w7 ⟨rfl, v, hat⟩
                                have HAT : Hid _ := hat
                                have HC7 : Hid (Calm w.heap.size wr w7) := addAt_calm hat HRK.out.disk HRK.out.log HRK.out.lo HRK.out.blo
                                have HD7 : Hid (Deeds w.heap.size w7 wa wc Q) := HRK.out.want.calm HC7.out
                                have HBX7 : Hid (∀ W', Below w7.heap.size w7 W' → W'.cell? ⟨w6.heap.size, 5, none⟩ = some (.slice x.ca x.cl.length x.cc)) := fun W' hb => by
                                  have e1 : wr.heap[w6.heap.size]? = some (.cells #[.string x.kind, .string x.s, .string x.t, .int .i64 x.n, .int .u64 x.k, .slice x.ca x.cl.length x.cc] 26 (0, 0)) := (HBK.out.block _ HWB.out.1).trans HBOX.out
                                  have hlt1 : w6.heap.size < wr.heap.size := Nat.lt_of_lt_of_le HWB.out.1 HBK.out.size
                                  have e2 := HC7.out.block w6.heap.size hlt1 (.inr ⟨_, _, _, e1, by decide⟩)
                                  have e3 := hb.block w6.heap.size (Nat.lt_of_lt_of_le hlt1 HC7.out.size)
                                  rw [cell_block (e3.trans (e2.trans e1))]; rfl
                                have a7 := HBX7.out w7 (Below.refl _ _)
                                clear hat KA a5
                                go_wp2_with fail
                                refine Calls.mono (K0.out _) ?_
                                rintro e w8 ⟨rfl, hw⟩
                                rw [hw]
                                clear hw w8 K0
                                have HQ1 : Hid (Q.length ≤ 1000) := Nat.le_trans HQ80.out (by decide)
                                have h63 : Q.length + 1 ≤ maxLen := by have := HQ80.out; unfold maxLen; omega
                                have hby : (Q.length + 1) * 24 ≤ 140737488355328 := by have := HQ80.out; omega
                                have HBd : Hid (Below w7.heap.size w7 w7.drew) := (Below.refl _ _).drew
                                have HBe : Hid (∀ o, Below w7.heap.size w7 (w7.drew.alloc o)) := fun o => (Below.refl _ _).drew.alloc (Nat.le_refl _) o
                                have HDX : Hid (∀ W', Below w7.heap.size w7 W' → Deeds w.heap.size W' wa wc Q) := fun W' h => HD7.out.calm (Calm.of_below h)
                                have HGR : Hid (∀ w9 ya yc, Below w7.heap.size w7 w9 → w9.ownsRow w7.heap.size 24 1 (.slice ya (Q.length + 1) yc) (Q.length + 1) (Q.map PartC.v ++ [.slice x.ca x.cl.length x.cc]) → LsMid w w9 N start many first B b (u + x.cl.length + 1) (60 + i + 1) { p with wv := v } (addD ⟨B, start, many, first, u⟩ d x.cl).1 ya yc (Q ++ [⟨x.ca, x.cc, x.cl⟩]) ya yc (Q ++ [⟨x.ca, x.cc, x.cl⟩])) := fun w9 ya yc h2 h3 => HGROW.out w7 v w9 ya yc HAT.out h2 h3
                                obtain ⟨j0, hjf, jz0, jz1, jz2⟩ := info_parts Try.infoChanges
                                go_wp2_with fail
                                go_region_law
                                  (first
                                    | (rw [if_pos (by rfl)]
                                       refine wp_append_new _ _ 88 rfl w7.heap.size 24 j0 _ 1 24 Try.underlying88 hjf jz0 jz1 jz2 rfl Nat.one_pos (.slice ya Q.length yc) Q.length (Q.map PartC.v) rfl (HO9.out.2 _) ⟨w9.heap.size, 0, none⟩ 1 1 [.slice x.ca x.cl.length x.cc] rfl rfl (cell_one_new _ _ _) (one_oneV _ _ _) h63 hby (HB9o.out _).size ?_
                                       intro v' w10 hown4 hgrow4 hnew4
                                       have HBz : Hid (Below w7.heap.size w7 w10) := copied_more (HB9o.out _) (HO9.out.2 _) hgrow4
                                       obtain ⟨xa, xc, rfl⟩ := row_shape hown4
                                       have HA : Hid _ := HGR.out w10 xa xc HBz.out hown4
                                       have hc10 := HBX7.out w10 HBz.out
                                       clear hown4 hgrow4 hnew4)
                                    | (rw [if_pos (by rfl)]
                                       refine wp_append_new _ _ 88 rfl w7.heap.size 24 j0 _ 1 24 Try.underlying88 hjf jz0 jz1 jz2 rfl Nat.one_pos (.slice ya Q.length yc) Q.length (Q.map PartC.v) rfl HO9.out.1 ⟨w7.heap.size, 0, none⟩ 1 1 [.slice x.ca x.cl.length x.cc] rfl rfl HCN.out (one_oneV _ _ _) h63 hby HB9.out.size ?_
                                       intro v' w10 hown4 hgrow4 hnew4
                                       have HBz : Hid (Below w7.heap.size w7 w10) := copied_more HB9.out HO9.out.1 hgrow4
                                       obtain ⟨xa, xc, rfl⟩ := row_shape hown4
                                       have HA : Hid _ := HGR.out w10 xa xc HBz.out hown4
                                       have hc10 := HBX7.out w10 HBz.out
                                       clear hown4 hgrow4 hnew4)
                                    | (rw [if_pos (by rfl)]
                                       refine wp_copyD (lo := w.heap.size) _ _ rfl w7.drew wa wc Q HQ1.out (HDX.out _ HBd.out) rfl rfl ?_
                                       intro v9 w9 ho9 hb9
                                       obtain ⟨ya, yc, rfl⟩ := row_shape ho9
                                       have HB9 : Hid (Below w7.heap.size w7 w9) := HBd.out.trans (hb9.mono HBd.out.size)
                                       have hc9 := HBX7.out w9 HB9.out
                                       have HO9 : Hid _ := copied_row ho9 HBd.out.size
                                       have HB9o : Hid (∀ o, Below w7.heap.size w7 (w9.alloc o)) := fun o => HB9.out.alloc HB9.out.size o
                                       clear ho9 hb9)
                                    | (rw [if_pos (by rfl)]
                                       refine wp_copyD (lo := w.heap.size) _ _ rfl (w7.drew.alloc _) wa wc Q HQ1.out (HDX.out _ (HBe.out _)) rfl rfl ?_
                                       intro v9 w9 ho9 hb9
                                       obtain ⟨ya, yc, rfl⟩ := row_shape ho9
                                       have HB9 : Hid (Below w7.heap.size w7 w9) := (HBe.out _).trans (hb9.mono (HBe.out _).size)
                                       have hc9 := HBX7.out w9 HB9.out
                                       have HO9 : Hid _ := copied_row ho9 (HBe.out _).size
                                       have HCN : Hid _ := below_cell_one hb9
                                       clear ho9 hb9))
                                all_goals
                                  go_wp2
                                  go_roundg (ac.length - (i + 1))
                                  case measure => omega
                                  case rel => exact ⟨i + 1, b, u + x.cl.length + 1, { p with wv := v }, _, _, _, _, _, _, _, by go_num, rfl, by rw [List.length_append]; rfl, by rw [List.length_append]; rfl, by go_num, by omega, Nat.le_refl _, HA⟩
                            · have HFA : Hid (f = faultL x.cl) := by
                                rcases HFF.out with h | h
                                · exact h.2
                                · exact absurd h.1 hf
                              have hfr := faultL_rng x.cl
                              rw [← HFA.out] at hfr
                              have HAD : Hid (addD ⟨B, start, many, first, u⟩ d x.cl = (d, f)) := by
                                show _ = _
                                unfold addD
                                rw [if_neg HC14.out, if_neg HROOM.out, ← HFA.out, if_pos hf]
                              have HAG : Hid (addG ⟨B, start, many, first, u⟩ d x.cl = ⟨B, start, many, first, u⟩) := by show _ = _; unfold addG; rw [HAD.out]; exact if_neg hf
                              have KAD : Hid (∀ W', Below W.heap.size W W' → Calls Try.prog 57 #[.pointer (some ⟨b, 0, none⟩), .slice x.ca x.cl.length x.cc] W' fun e w' => e = .returned (.iface 118 (.int .i64 f)) ∧ ∃ v, LsMid w w' N start many first B b u (60 + (i + 1)) { p with wv := v } d ga gc P wa wc Q) := fun W' hb => (KADD.out W' hb).mono fun e w' ⟨he, v, hat⟩ => by
                                rw [HAD.out, HAG.out] at hat
                                rw [HAD.out] at he
                                exact ⟨he.trans (congrArg Ending.returned (errV_pos hf)), v, ((HRW.out.go hb).same' hat).more (by omega)⟩
                              have ksm := fun W => same_yes f W hfr.1 hfr.2
                              rw [errV_pos hf] at ksm
                              have KSM : Hid (∀ W, Calls _ _ _ W _) := ksm
                              have hf0 : (f == 0) = false := by rw [beq_eq_false_iff_ne]; exact hf
                              clear ksm KADD HAD HAG hfr HFF HFA
                              by_cases hkl : (k : Int) < (x.cl.length : Int)
                              all_goals
                                go_wp2_with fail
                                refine Calls.mono (KAD.out _ HBK.out) ?_
                                rintro e w7 ⟨rfl, v, hat⟩
                                have HR7 : Hid _ := hat
                                clear hat KAD
                                go_wp2_with fail
                                refine Calls.mono (KSM.out _) ?_
                                rintro e w8 ⟨rfl, hw⟩
                                rw [hw]
                                clear hw w8 KSM
                                go_wp2
                                go_roundg (ac.length - (i + 1))
                                case measure => omega
                                case rel => exact ⟨i + 1, b, u, { p with wv := v }, d, ga, gc, P, wa, wc, Q, by go_num, rfl, rfl, rfl, rfl, by omega, Nat.le_refl _, HR7⟩
                  · have hne : ((i : Int) == (ac.length : Int)) = true := by rw [beq_iff_eq]; omega
                    go_wp2
                    go_ret
                    exact ⟨rfl, HR6.out.below⟩
end Go.Proofs.Ytihnghnafpgdfab
