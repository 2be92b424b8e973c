/-
  StoreSays: THE WALK.
-/
import Derived.Test.YtihnghnafpgdfabStores
import Derived.OpenShut
import Derived.Deep.DeepCutAuto
import Derived.Deep.CutBlock
namespace Go.Proofs.Ytihnghnafpgdfab
open Go.RowKit Go.BigFrame
set_option linter.unusedVariables false
set_option linter.unusedSimpArgs false

theorem SsMid.nums {w wr : World} {N b : Nat} {s : St} {g : Lg} {p : Dp} {d : Dk} {mb : Nat} {m : Ms} (h : SsMid w wr N b s g p d mb m) (hN : 42 ≤ N) (hN2 : N ≤ 60) : m.rows.length ≤ 12 ∧ m.used ≤ m.many ∧ m.many ≤ 60 := by
  have h1 := h.few hN
  rw [h.rows, h.used, h.many]
  exact ⟨h1.1, h1.2, by omega⟩
/-- Both stores have the same rows. -/
theorem sm_same {w wr : World} {N b : Nat} {s : St} {g : Lg} {p : Dp} {d : Dk} {mb : Nat} {m : Ms} {va : Option Addr} {vc : Nat} (h : SsMid w wr N b s g p d mb m) (hN : 42 ≤ N) (hN2 : N ≤ 60) (hc : CC wr va m.rows) :
    Calls Try.prog 48 #[.slice va m.rows.length vc, .slice m.ra m.rows.length m.rc] wr fun e w' => e = .returned (.bool true) ∧ SsMid w w' N b s g p d mb m := by
  have h12 := (h.nums hN hN2).1
  have k := sameChanges_any va m.ra vc m.rc m.rows m.rows wr (by omega) (by omega) hc h.ref.rows.cells
  rw [sameCL_self] at k
  refine k.mono ?_
  rintro e w' ⟨rfl, n, rfl⟩
  exact ⟨rfl, h.go (below_drewN (Below.refl _ _) n)⟩

set_option maxRecDepth 100000 in
set_option maxHeartbeats 8000000 in
theorem storeSays_any (n : Int) (a' : Option Addr) (cap' : Nat) (ac : List Ac) (w : World) (w1 : (Lit.int .i64 n).wf = true) (hm : ac.length ≤ maxLen) (hc : ActCells w a' ac) (hn : ∀ x ∈ ac, x.ca = none → x.cc = 0) :
    Calls Try.prog 9 #[.int .i64 n, .slice a' ac.length cap'] w fun e w' => e = .returned (.bool true) ∧ Below w.heap.size w w' := by
  have HC : Hid (ActCells w a' ac) := hc
  have HM : Hid (ac.length ≤ maxLen) := hm
  have HNIL : Hid (∀ x ∈ ac, x.ca = none → x.cc = 0) := hn
  have r1 := bounds_i64 w1
  clear hc hm hn w1
  go_enter Try.func9, Try.ntmps9
  go_wp2_with fail
  refine (stores_any w).mono ?_
  rintro e W1 ⟨rfl, hb⟩
  have HB1 : Hid (Below w.heap.size w W1) := hb
  clear hb
  go_wp2_with fail
  refine (lightActs_any a' cap' ac 40 _ HM.out (by decide) (HC.out.below HB1.out)).mono ?_
  rintro e w2 ⟨⟨lb, rfl, hlb⟩, hw⟩
  rw [hw]
  clear hw w2
  cases lb
  · clear hlb
    go_wp2
    go_ret
    exact ⟨rfl, HB1.out⟩
  have HLA : Hid (LightA ac 40) := hlb rfl
  clear hlb
  by_cases hbad : n < 1 ∨ 60 < n
  · have KN : Hid _ := diskNew_bad n W1 hbad
    have ks := same_yes 1 W1 (by decide) (by decide)
    rw [errV_pos (show ¬ (1 : Int) = 0 by decide)] at ks
    have KSM : Hid _ := ks
    have HBAD : Hid _ := hbad
    clear ks hbad
    go_wp2_with fail
    refine Calls.mono KN.out ?_
    rintro e w5 ⟨rfl, hw⟩
    rw [hw]
    clear hw w5 KN
    by_cases h1 : n < 1
    · clear HBAD
      go_wp2_with fail
      refine Calls.mono KSM.out ?_
      rintro e w5 ⟨rfl, hw⟩
      rw [hw]
      clear hw w5
      go_wp2
      go_ret
      exact ⟨rfl, HB1.out⟩
    · have h60 : 60 < n := by have := HBAD.out; omega
      clear HBAD
      go_wp2_with fail
      refine Calls.mono KSM.out ?_
      rintro e w5 ⟨rfl, hw⟩
      rw [hw]
      clear hw w5
      go_wp2
      go_ret
      exact ⟨rfl, HB1.out⟩
  obtain ⟨N, rfl⟩ : ∃ N : Nat, n = N := ⟨n.toNat, by omega⟩
  have hN1 : 1 ≤ N := by omega
  have hN60 : N ≤ 60 := by omega
  have hz1 : ¬ (N : Int) < 1 := by omega
  have hz60 : ¬ (60 : Int) < (N : Int) := by omega
  clear hbad r1
  have KD : Hid _ := diskNew_good N W1 hN1 hN60
  go_wp2_with fail
  refine Calls.mono KD.out ?_
  rintro e w2 ⟨B, g1, g2, rfl, hd, hb⟩
  obtain ⟨p, hp⟩ : ∃ p : Dp, p = ⟨W1.heap.size, B, g1, g2, .slice none 0 0⟩ := ⟨_, rfl⟩
  have hpB : p.B = B := by rw [hp]
  have HPL : Hid (w.heap.size ≤ p.lo) := by show _ ≤ _; rw [hp]; exact HB1.out.size
  rw [← hp] at hd
  have HD2 : Hid (DiskAt w2 p (newD N)) := hd
  have HB2 : Hid (Below w.heap.size w w2) := HB1.out.trans (hb.mono HB1.out.size)
  subst hpB
  clear hd hb hp KD HB1
  have KO : Hid _ := open_fresh p N w2 HD2.out hN1
  go_wp2_with fail
  refine Calls.mono KO.out ?_
  rintro e w3 ⟨rfl, hb⟩
  have HD3 : Hid (DiskAt w3 p (newD N)) := HD2.out.below hb
  have HB3 : Hid (Below w.heap.size w w3) := HB2.out.trans (hb.mono HB2.out.size)
  have k4 := same_yes 4 w3 (by decide) (by decide)
  rw [errV_pos (show ¬ (4 : Int) = 0 by decide)] at k4
  have K4 : Hid _ := k4
  clear hb k4 KO HD2 HB2
  go_wp2_with fail
  refine Calls.mono K4.out ?_
  rintro e w4 ⟨rfl, hw⟩
  rw [hw]
  clear hw w4 K4
  by_cases h42 : N < 42
  · have h42z : (N : Int) < 42 := by omega
    have KF : Hid _ := format_short p N w3 HD3.out h42
    go_wp2_with fail
    refine Calls.mono KF.out ?_
    rintro e w4 ⟨rfl, hb⟩
    have HB4 : Hid (Below w.heap.size w w4) := HB3.out.trans (hb.mono HPL.out)
    have k7 := same_yes 7 w4 (by decide) (by decide)
    rw [errV_pos (show ¬ (7 : Int) = 0 by decide)] at k7
    have K7 : Hid _ := k7
    clear hb k7
    go_wp2_with fail
    refine Calls.mono K7.out ?_
    rintro e w5 ⟨rfl, hw⟩
    rw [hw]
    clear hw w5
    go_wp2
    go_ret
    exact ⟨rfl, HB4.out⟩
  have h42z : ¬ (N : Int) < 42 := by omega
  have hN42 : 42 ≤ N := by omega
  have KF : Hid _ := format_new p N w3 HD3.out hN42 hN60
  go_wp2_with fail
  refine Calls.mono KF.out ?_
  rintro e w4 ⟨rfl, u, d, hd, hk, hb⟩
  have HB4 : Hid (Below w.heap.size w w4) := HB3.out.trans (hb.mono HPL.out)
  have KO : Hid _ := open_first (w := w) { p with wv := u } d N w4 hd hk hN42 HPL.out HB4.out
  clear hd hk hb KF HB3 HD3
  go_wp2_with fail
  refine Calls.mono KO.out ?_
  rintro e w5 ⟨b, s, g, rfl, hs, hr0, hu0⟩
  have HS5 : Hid (Sm w w5 N b s g { p with wv := u } d) := hs
  have HR0 : Hid (s.rows = [] ∧ g.used = 0) := ⟨hr0, hu0⟩
  clear hs hr0 hu0 KO HB4
  have hsub : (N : Int) - 26 = ((N - 26 : Nat) : Int) := by omega
  have hwr : IntKind.i64.wrap ((N : Int) - 26) = ((N - 26 : Nat) : Int) := by rw [hsub]; exact wrap_near (by omega)
  have HM0 : Hid (SsMid w (w5.alloc (.cells #[.slice none 0 0, .int .i64 0, .int .i64 ((N - 26 : Nat) : Int)] 102)) N b s g { p with wv := u } d w5.heap.size ⟨none, 0, [], 0, N - 26⟩) :=
    ⟨HS5.out.go ((Below.refl _ _).alloc (Nat.le_refl _) _), ⟨heap_alloc_new w5 _, ⟨fun i h => absurd h (Nat.not_lt_zero _), fun _ => rfl⟩, fun x hx => by cases hx⟩, HS5.out.below.size, HR0.out.1.symm, HR0.out.2.symm, rfl⟩
  have h40 : ac.length ≤ 40 := HLA.out.1
  have HSUB : Hid _ := hsub
  clear hsub HS5 HR0
  obtain ⟨mb, hmb⟩ : ∃ mb, mb = w5.heap.size := ⟨_, rfl⟩
  obtain ⟨B, hB⟩ : ∃ B, B = p.B := ⟨_, rfl⟩
  go_wp2_with fail
  rw [← hmb] at HM0 ⊢
  rw [← hB]
  go_loopg [12, 9] (ac.length + 2) (fun kx vi v7 wr => ∃ (i b : Nat) (s : St) (g : Lg) (p : Dp) (d : Dk) (m : Ms), vi = .int .i64 i ∧ v7 = .pointer (some ⟨b, 0, none⟩) ∧ i ≤ ac.length ∧ ac.length - i ≤ kx ∧ p.B = B ∧ Hid (SsMid w wr N b s g p d mb m))
  case atStart => exact ⟨0, b, s, g, { p with wv := u }, d, _, rfl, rfl, by omega, by omega, hB.symm, HM0⟩
  case round =>
    clear HM0 hmb hB
    obtain ⟨i, b, s, g, p, d, m, rfl, rfl, hi, hix, hpB, HR⟩ := hrel
    by_cases hlt : i < ac.length
    · have hltz : (i : Int) < (ac.length : Int) := by omega
      obtain ⟨ab, ao, rfl, ⟨c0, c1, c2, c3, c4, c5⟩, ok⟩ := HC.out.below HR.out.st.below i hlt
      obtain ⟨ab0, ao0, e0, -, ok0⟩ := HC.out i hlt
      have HCC : Hid (CC w ac[i].ca ac[i].cl) := ok0.cells.cc
      have hx20 : ac[i].cl.length ≤ 20 := by have := (HLA.out.2 _ (List.getElem_mem hlt)).2.2.1; omega
      have HXN : Hid (ac[i].ca = none → ac[i].cc = 0) := HNIL.out _ (List.getElem_mem hlt)
      clear ok ok0 e0
      generalize ac[i] = x at *
      obtain ⟨W, hW⟩ : ∃ W, W = wr.alloc (.cells #[.string x.kind, .string x.s, .string x.t, .int .i64 x.n, .int .u64 x.k, .slice x.ca x.cl.length x.cc] 26) := ⟨_, rfl⟩
      have HRW : Hid (SsMid w W N b s g p d mb m) := by
        show SsMid _ _ _ _ _ _ _ _ _ _
        rw [hW]
        exact HR.out.go ((Below.refl _ _).alloc (Nat.le_refl _) _)
      have HBOX : Hid (W.heap[wr.heap.size]? = some (.cells #[.string x.kind, .string x.s, .string x.t, .int .i64 x.n, .int .u64 x.k, .slice x.ca x.cl.length x.cc] 26 (0, 0))) := by
        show _ = _
        rw [hW]
        exact heap_alloc_new wr _
      clear HR
      cases hk : (x.kind.toList == [99, 111, 109, 109, 105, 116])
      · cases hk2 : (x.kind.toList == [115, 97, 118, 101])
        · have ko := sm_open HRW.out hN42 hN60
          rw [hpB] at ko
          have KO : Hid _ := ko
          clear ko
          go_wp2_with fail
          rw [← hW]
          refine Calls.mono KO.out ?_
          rintro e w7 ⟨b', s', g', rfl, hx⟩
          have HX : Hid (SsMid w w7 N b' s' g' p d mb m) := hx
          clear hx KO HRW hW HBOX
          have HXD : Hid (SsMid w w7.drew N b' s' g' p d mb m) := HX.out.go (Below.refl _ w7).drew
          have hnum := HX.out.nums hN42 hN60
          have hmz : (m.used : Int) ≤ (m.many : Int) ∧ (m.many : Int) ≤ 60 := by omega
          have hmw : IntKind.i64.wrap ((m.many : Int) - (m.used : Int)) = (m.many : Int) - (m.used : Int) := wrap_near (by omega)
          clear hnum
          go_wp2_with fail
          refine wp_ends ?_
          go_region_held3 (fun W => W.cell? ⟨mb, 0, none⟩ = some (.slice m.ra m.rows.length m.rc) ∧ W.cell? ⟨mb, 1, none⟩ = some (.int .i64 m.used) ∧ W.cell? ⟨mb, 2, none⟩ = some (.int .i64 m.many))
            (first | exact HXD.out.ref.cells | exact HXa.out.ref.cells | exact HXb.out.ref.cells | exact HXc.out.ref.cells)
            (first
              | (go_at_call 64
                 refine Calls.mono (sm_room HXD.out hN42 hN60) ?_
                 rintro e wr1 ⟨rfl, hx⟩
                 have HXa : Hid (SsMid w wr1 N b' s' g' p d mb m) := hx
                 clear hx)
              | (go_at_call 65
                 refine Calls.mono (sm_rows HXa.out) ?_
                 rintro e wr2 ⟨va, vc, rfl, hcc, hx⟩
                 have HXb : Hid (SsMid w wr2 N b' s' g' p d mb m) := hx
                 have HCB : Hid (CC wr2 va m.rows) := hcc
                 clear hx hcc)
              | (go_at_call 48
                 refine Calls.mono (sm_same (vc := vc) HXb.out hN42 hN60 HCB.out) ?_
                 rintro e wr3 ⟨rfl, hx⟩
                 have HXc : Hid (SsMid w wr3 N b' s' g' p d mb m) := hx
                 clear hx))
          all_goals
            simp only [EndsOnly]
            go_wp2
            go_roundg (ac.length - (i + 1))
            case measure => omega
            case rel => exact ⟨i + 1, b', s', g', p, d, m, by go_num, rfl, by omega, Nat.le_refl _, hpB, HXc⟩
        · have KV : Hid _ := sm_save HRW.out hN42 hN60
          go_wp2_with fail
          rw [← hW]
          refine Calls.mono KV.out ?_
          rintro e w7 ⟨rfl, s', g', p', d', hpB', hs', hm', hr', hu'⟩
          obtain ⟨w8, hw8⟩ : ∃ w8, w8 = w7.setCell ⟨mb, 1, none⟩ (.int .i64 0) := ⟨_, rfl⟩
          have hx8 := sm_put hs' hm' HRW.out.low (by rw [hr', HRW.out.rows]) hu' HRW.out.many
          rw [← hw8] at hx8
          have HX : Hid (SsMid w w8 N b s' g' p' d' mb ⟨m.ra, m.rc, m.rows, 0, m.many⟩) := hx8
          have HPB : Hid (p'.B = B) := hpB'.trans hpB
          obtain ⟨m0, m1, m2⟩ := hm'.cells
          have f1 := frozen_block hm'.blk 1
          clear hx8 hs' hm' hr' hu' hpB' KV HRW hW HBOX
          obtain ⟨m', hm'⟩ : ∃ m' : Ms, m' = ⟨m.ra, m.rc, m.rows, 0, m.many⟩ := ⟨_, rfl⟩
          rw [← hm'] at HX
          clear hm'
          have HXD : Hid (SsMid w w8.drew N b s' g' p' d' mb m') := HX.out.go (Below.refl _ w8).drew
          have hnum := HX.out.nums hN42 hN60
          have hmz : (m'.used : Int) ≤ (m'.many : Int) ∧ (m'.many : Int) ≤ 60 := by omega
          have hmw : IntKind.i64.wrap ((m'.many : Int) - (m'.used : Int)) = (m'.many : Int) - (m'.used : Int) := wrap_near (by omega)
          clear hnum
          go_wp2_with fail
          rw [← hw8]
          clear hw8 m0 m1 m2 f1
          refine wp_ends ?_
          go_region_held3 (fun W => W.cell? ⟨mb, 0, none⟩ = some (.slice m'.ra m'.rows.length m'.rc) ∧ W.cell? ⟨mb, 1, none⟩ = some (.int .i64 m'.used) ∧ W.cell? ⟨mb, 2, none⟩ = some (.int .i64 m'.many))
            (first | exact HXD.out.ref.cells | exact HXa.out.ref.cells | exact HXb.out.ref.cells | exact HXc.out.ref.cells)
            (first
              | (go_at_call 64
                 refine Calls.mono (sm_room HXD.out hN42 hN60) ?_
                 rintro e wr1 ⟨rfl, hx⟩
                 have HXa : Hid (SsMid w wr1 N b s' g' p' d' mb m') := hx
                 clear hx)
              | (go_at_call 65
                 refine Calls.mono (sm_rows HXa.out) ?_
                 rintro e wr2 ⟨va, vc, rfl, hcc, hx⟩
                 have HXb : Hid (SsMid w wr2 N b s' g' p' d' mb m') := hx
                 have HCB : Hid (CC wr2 va m'.rows) := hcc
                 clear hx hcc)
              | (go_at_call 48
                 refine Calls.mono (sm_same (vc := vc) HXb.out hN42 hN60 HCB.out) ?_
                 rintro e wr3 ⟨rfl, hx⟩
                 have HXc : Hid (SsMid w wr3 N b s' g' p' d' mb m') := hx
                 clear hx))
          all_goals
            simp only [EndsOnly]
            go_wp2
            go_roundg (ac.length - (i + 1))
            case measure => omega
            case rel => exact ⟨i + 1, b, s', g', p', d', m', by go_num, rfl, by omega, Nat.le_refl _, HPB.out, HXc⟩
      · have HRD : Hid (SsMid w W.drew N b s g p d mb m) := HRW.out.go (Below.refl _ W).drew
        have HBD : Hid (W.drew.heap[wr.heap.size]? = some (.cells #[.string x.kind, .string x.s, .string x.t, .int .i64 x.n, .int .u64 x.k, .slice x.ca x.cl.length x.cc] 26 (0, 0))) := HBOX.out
        have hx100 : x.cl.length ≤ 100 := by omega
        have KC : Hid _ := sm_commit HRD.out.st m hN42 hN60 HRD.out.rows HRD.out.used HRD.out.many x.ca x.cc x.cl (deed_in HCC.out HRD.out.st.below) HXN.out hx100
        have HFW : Hid _ := HRD.out.few hN42
        have HRNG : Hid _ := commitF_rng m x.cl
        have K62 : Hid (∀ w7, Turned w W.drew w7 N b s g p.B (commitF m x.cl) (appliedC s.rows x.cl) (commitU m x.cl) → MAt w7 mb m → Calls Try.prog 62 #[.pointer (some ⟨mb, 0, none⟩), .slice x.ca x.cl.length x.cc] w7 fun e w' => e = .returned (.int .i64 (commitF m x.cl)) ∧ Touch (fun k => k = mb) w7 w' ∧ ∃ s' g' p' d' m', p'.B = p.B ∧ SsMid w w' N b s' g' p' d' mb m') := fun w7 ht hm => sm_refcommit ht hm HRD.out.low hN42 hN60 HRD.out.rows HRD.out.used HRD.out.many HFW.out.1 HFW.out.2 HCC.out hx100
        have K27 : Hid (∀ W', Calls Try.prog 27 #[errV (commitF m x.cl), .int .i64 (commitF m x.cl)] W' fun e w' => e = .returned (.bool true) ∧ w' = W') := fun W' => same_yes (commitF m x.cl) W' HRNG.out.1 HRNG.out.2
        go_wp2_with fail
        rw [← hW]
        clear hW
        refine wp_ends ?_
        go_region_held3 (fun V => V.cell? ⟨wr.heap.size, 5, none⟩ = some (.slice x.ca x.cl.length x.cc))
          (first | exact act_five HBD.out | exact act_five HB7.out | exact act_five HB8.out)
          (first
            | (go_at_call 61
               refine Calls.mono KC.out ?_
               rintro e w7 ⟨rfl, htu, hlet⟩
               have HT7 : Hid (Turned w W.drew w7 N b s g p.B (commitF m x.cl) (appliedC s.rows x.cl) (commitU m x.cl)) := htu
               have HB7 : Hid (w7.heap[wr.heap.size]? = some (.cells #[.string x.kind, .string x.s, .string x.t, .int .i64 x.n, .int .u64 x.k, .slice x.ca x.cl.length x.cc] 26 (0, 0))) := let_act hlet HBD.out
               have HM7 : Hid (MAt w7 mb m) := HRD.out.ref.let' hlet
               clear htu hlet)
            | (go_at_call 62
               refine Calls.mono (K62.out _ HT7.out HM7.out) ?_
               rintro e w8 ⟨rfl, ht8, s', g', p', d', m', hpB', hx⟩
               have HX : Hid (SsMid w w8 N b s' g' p' d' mb m') := hx
               have HPB : Hid (p'.B = p.B) := hpB'
               have HB8 : Hid (w8.heap[wr.heap.size]? = some (.cells #[.string x.kind, .string x.s, .string x.t, .int .i64 x.n, .int .u64 x.k, .slice x.ca x.cl.length x.cc] 26 (0, 0))) := ref_act ht8 HM7.out HB7.out
               clear hx hpB' ht8)
            | (go_at_call 27
               refine Calls.mono (K27.out _) ?_
               rintro e w9 ⟨rfl, hw⟩
               rw [hw]
               clear hw w9))
        all_goals
          simp only [EndsOnly]
          clear KC HBD HRD HRW HBOX HB7 HB8 HM7 HT7 HFW HRNG K62 K27
          have HXD : Hid (SsMid w w8.drew N b s' g' p' d' mb m') := HX.out.go (Below.refl _ w8).drew
          have hnum := HX.out.nums hN42 hN60
          have hmz : (m'.used : Int) ≤ (m'.many : Int) ∧ (m'.many : Int) ≤ 60 := by omega
          have hmw : IntKind.i64.wrap ((m'.many : Int) - (m'.used : Int)) = (m'.many : Int) - (m'.used : Int) := wrap_near (by omega)
          clear hnum
          go_wp2_with fail
          refine wp_ends ?_
          go_region_held3 (fun W => W.cell? ⟨mb, 0, none⟩ = some (.slice m'.ra m'.rows.length m'.rc) ∧ W.cell? ⟨mb, 1, none⟩ = some (.int .i64 m'.used) ∧ W.cell? ⟨mb, 2, none⟩ = some (.int .i64 m'.many))
            (first | exact HXD.out.ref.cells | exact HXa.out.ref.cells | exact HXb.out.ref.cells | exact HXc.out.ref.cells)
            (first
              | (go_at_call 64
                 refine Calls.mono (sm_room HXD.out hN42 hN60) ?_
                 rintro e wr1 ⟨rfl, hx⟩
                 have HXa : Hid (SsMid w wr1 N b s' g' p' d' mb m') := hx
                 clear hx)
              | (go_at_call 65
                 refine Calls.mono (sm_rows HXa.out) ?_
                 rintro e wr2 ⟨va, vc, rfl, hcc, hx⟩
                 have HXb : Hid (SsMid w wr2 N b s' g' p' d' mb m') := hx
                 have HCB : Hid (CC wr2 va m'.rows) := hcc
                 clear hx hcc)
              | (go_at_call 48
                 refine Calls.mono (sm_same (vc := vc) HXb.out hN42 hN60 HCB.out) ?_
                 rintro e wr3 ⟨rfl, hx⟩
                 have HXc : Hid (SsMid w wr3 N b s' g' p' d' mb m') := hx
                 clear hx))
          all_goals
            simp only [EndsOnly]
            go_wp2
            go_roundg (ac.length - (i + 1))
            case measure => omega
            case rel => exact ⟨i + 1, b, s', g', p', d', m', by go_num, rfl, by omega, Nat.le_refl _, (HPB.out.trans hpB), HXc⟩
    · have hge : ¬ (i : Int) < (ac.length : Int) := by omega
      go_wp2
      go_ret
      exact ⟨rfl, HR.out.st.below⟩
end Go.Proofs.Ytihnghnafpgdfab
