/-
  TopCrash: THE WALK.
-/
import Derived.Test.YtihnghnafpgdfacTopCrashBase
import Derived.OpenShut
import Derived.Deep.DeepCutAuto
import Derived.Deep.CutBlock
namespace Go.Proofs.Ytihnghnafpgdfac
open Go.RowKit Go.BigFrame
set_option linter.unusedVariables false
set_option linter.unusedSimpArgs false

/-- Rows in memory that no store has. -/
structure RowC (w : World) (a : Option Addr) (c : Nat) (l : List Ch) : Prop where
  sl : SliceC w a c l
  kind : ∀ x, a = some x → ∃ C fr, w.heap[x.block]? = some (.cells C 66 fr)
theorem RowC.far {w w' : World} {a : Option Addr} {c : Nat} {l : List Ch} (h : RowC w a c l) (hk : ∀ (k : Nat) (C : Array Value) (fr : Nat × Nat), w.heap[k]? = some (.cells C 66 fr) → w'.heap[k]? = w.heap[k]?) : RowC w' a c l := by
  refine ⟨⟨fun i hi => ?_, h.sl.nil⟩, fun x hx => ?_⟩
  · obtain ⟨g, off, e, c0, c1, c2⟩ := h.sl.cells i hi
    obtain ⟨C, fr, hK⟩ := h.kind _ e
    have hK' : w'.heap[g]? = w.heap[g]? := hk _ _ _ hK
    exact ⟨g, off, e, by rw [World.cell?_of_block (w := w) (a := ⟨g, _, none⟩) hK']; exact c0, by rw [World.cell?_of_block (w := w) (a := ⟨g, _, none⟩) hK']; exact c1, by rw [World.cell?_of_block (w := w) (a := ⟨g, _, none⟩) hK']; exact c2⟩
  · obtain ⟨C, fr, hK⟩ := h.kind x hx
    exact ⟨C, fr, (hk _ _ _ hK).trans hK⟩
theorem RowC.let' {w w' : World} {a : Option Addr} {c : Nat} {l : List Ch} (h : RowC w a c l) (hl : Let w w') : RowC w' a c l := h.far (fun k C fr e => hl _ _ _ _ e (by decide))
theorem RowC.below {w w' : World} {a : Option Addr} {c : Nat} {l : List Ch} (h : RowC w a c l) (hb : Below w.heap.size w w') : RowC w' a c l := h.far (fun k C fr e => hb.block k (Array.getElem?_eq_some_iff.1 e).1)
theorem RowC.of {w : World} {lo : Nat} {a : Option Addr} {n c : Nat} {l : List Ch} (h : OwnsC w lo (.slice a n c) l) : RowC w a c l := by
  obtain ⟨a', c', e, hcc, hnil, -⟩ := OwnsC.files h
  injection e with e1 e2 e3
  exact ⟨⟨by rw [e1]; exact hcc, by rw [e1, e3]; exact hnil⟩, fun x hx => Lib.ownsRow_kind h x.block (by rw [hx]; rfl)⟩
theorem RowC.none (w : World) : RowC w none 0 [] := ⟨⟨fun i h => absurd h (Nat.not_lt_zero _), fun _ => rfl⟩, fun x hx => by cases hx⟩
/-- The document's rows, a deed more. -/
theorem applied_row {wr : World} {qa : Option Addr} {qc : Nat} {rows c : List Ch} {a : Option Addr} {cap : Nat} (h : RowC wr qa qc rows) (hr : rows.length ≤ 100) (hc : CC wr a c) (hl : c.length ≤ 100) :
    Calls Try.prog 14 #[.slice qa rows.length qc, .slice a c.length cap] wr fun e w' => ∃ va vc, e = .returned (.slice va (appliedC rows c).length vc) ∧ RowC w' va vc (appliedC rows c) ∧ Below wr.heap.size wr w' := by
  refine (applied_any qa a qc cap rows c wr hr hl h.sl hc).mono ?_
  rintro e w' ⟨v, rfl, ho, hb⟩
  obtain ⟨va, vc, hv, -⟩ := OwnsC.files ho
  subst hv
  exact ⟨va, vc, rfl, RowC.of ho, hb⟩
set_option maxRecDepth 100000 in
theorem number_nil (w : World) : Calls Try.prog 11 #[.nilIface] w fun e w' => e = .returned (.int .i64 0) ∧ w' = w := by
  go_enter Try.func11, Try.ntmps11
  go_wp2
  go_ret
  exact ⟨rfl, rfl⟩
theorem same_rows {w : World} {a a' : Option Addr} {c c' : Nat} {l m : List Ch} (h : RowC w a c l) (h' : RowC w a' c' m) (hl : l.length ≤ 1000) (hm : m.length ≤ 1000) :
    Calls Try.prog 18 #[.slice a l.length c, .slice a' m.length c'] w fun e w' => e = .returned (.bool (sameCL l m)) ∧ Below w.heap.size w w' := by
  refine (sameChanges_any a a' c c' l m w hl hm h.sl.cells h'.sl.cells).mono ?_
  rintro e w' ⟨rfl, n, rfl⟩
  exact ⟨rfl, below_drewN (Below.refl _ _) n⟩
/-- A store's rows. -/
theorem smg_rows {w wr : World} {N b : Nat} {s : St} {g : Lg} {p : Dp} {d : Dk} (h : SmG w wr N b s g p d) :
    Calls Try.prog 17 #[.pointer (some ⟨b, 0, none⟩)] wr fun e w' => ∃ va vc, e = .returned (.slice va s.rows.length vc) ∧ RowC w' va vc s.rows ∧ Below wr.heap.size wr w' ∧ SmG w w' N b s g p d := by
  refine (storeRows_any b s wr h.own.at' (by have := h.kept.rows.2.2; omega)).mono ?_
  rintro e w' ⟨v, rfl, ho, hb⟩
  obtain ⟨va, vc, hv, -⟩ := OwnsC.files ho
  subst hv
  exact ⟨va, vc, rfl, RowC.of ho, hb, h.go hb⟩

set_option maxRecDepth 100000 in
set_option maxHeartbeats 8000000 in
theorem topCrash_any (a : Option Addr) (cap : Nat) (l : List PartC) (n k : Int) (w : World) (hm : l.length ≤ maxLen) (hc : DeedCells w a l) (hn : ∀ q ∈ l, q.a = none → q.cap = 0) (wn : (Lit.int .i64 n).wf = true) (wk : (Lit.int .u64 k).wf = true) :
    Calls Try.prog 3 #[.slice a l.length cap, .int .i64 n, .int .u64 k] w fun e w' => e = .returned (.bool true) ∧ Below w.heap.size w w' := by
  have HC : Hid (DeedCells w a l) := hc
  have HM : Hid (l.length ≤ maxLen) := hm
  have HNIL : Hid (∀ q ∈ l, q.a = none → q.cap = 0) := hn
  have rn := bounds_i64 wn
  have rk := bounds_u64 wk
  obtain ⟨K, rfl⟩ : ∃ K : Nat, k = K := ⟨k.toNat, by omega⟩
  have hK : K < 18446744073709551616 := by omega
  clear hm hc hn wn wk rk
  go_enter Try.func3, Try.ntmps3
  go_wp2_with fail
  refine (kept_any w).mono ?_
  rintro e w1 ⟨rfl, hb⟩
  have HB1 : Hid (Below w.heap.size w w1) := hb
  clear hb
  go_wp2_with fail
  refine (storedC_any 50 w1 (by omega) (by omega)).mono ?_
  rintro e w2 ⟨p, d, b, s, g, rfl, hs, hr, hu, hcl⟩
  have HS2 : Hid (Sm w1 w2 50 b s g p d) := hs
  have HR2 : Hid (s.rows = [] ∧ g.used = 0 ∧ Clean d) := ⟨hr, hu, hcl⟩
  have HB2 : Hid (Below w.heap.size w w2) := HB1.out.trans (hs.below.mono HB1.out.size)
  clear hs hr hu hcl
  go_wp2_with fail
  refine (lightDeeds_any a cap l 20 _ HM.out (by decide) (HC.out.below HB2.out)).mono ?_
  rintro e w4 ⟨⟨lb, rfl, hlb⟩, hw⟩
  rw [hw]
  clear hw w4
  cases lb
  · clear hlb
    go_wp2
    go_ret
    exact ⟨rfl, HB2.out⟩
  have HLA : Hid (LightD l 20) := hlb rfl
  have h20 : l.length ≤ 20 := HLA.out.1
  clear hlb
  obtain ⟨f, hf⟩ : ∃ f, f = min (max n (-1)) 400 := ⟨_, rfl⟩
  have HFN : Hid (f = min (max n (-1)) 400) := hf
  have hfr : -1 ≤ f ∧ f ≤ 400 := by omega
  clear hf rn
  have KAR : Hid _ := arm_any p d f w2 (by omega) HS2.out.disk
  go_wp2_with fail
  rw [← HFN.out]
  refine Calls.mono KAR.out ?_
  rintro e w4 ⟨rfl, hd4, hn4⟩
  have HLM : Hid (SmA w w4 50 b s g p { d with left := f }) := by
    have ht := hn4.touch
    have hsm := HS2.out
    have hlo : w.heap.size ≤ p.lo := Nat.le_trans HB1.out.size hsm.lo
    have hcl := HR2.out.2.2
    exact ⟨hd4, hlo, (hsm.own.lower HB1.out.size).touch hsm.disk ht, hsm.dB, hsm.gf, hsm.kept.l, ⟨hcl.kept, hcl.wr, hcl.up⟩, HB2.out.trans (ht.below (fun k hk => by
      rcases hk with rfl | rfl | rfl | hk
      · exact Nat.le_trans hlo hsm.disk.lo1
      · exact Nat.le_trans hlo hsm.disk.lo2
      · exact Nat.le_trans hlo hsm.disk.lo3
      · exact Nat.le_trans hlo (hsm.disk.wr.lt k hk).1) HB2.out.size)⟩
  have HR0 : Hid (s.rows = []) := HR2.out.1
  clear hd4 hn4 KAR HFN HS2 HR2 HB2 HB1 hfr
  obtain ⟨B, hB⟩ : ∃ B, B = p.B := ⟨_, rfl⟩
  have HQ0 : Hid (RowC w4 none 0 s.rows) := by show RowC _ _ _ _; rw [HR0.out]; exact RowC.none _
  have HV0 : Hid ((Value.slice none 0 0) = .slice none s.rows.length 0) := by show _ = _; rw [HR0.out]; rfl
  go_wp2_with fail
  rw [← hB]
  go_loopg [12, 10, 11] (l.length + 1) (fun kx vi v10 v11 wr => ∃ (i : Nat) (s : St) (g : Lg) (p : Dp) (d : Dk) (qa : Option Addr) (qc : Nat), vi = .int .i64 i ∧ v10 = .slice qa s.rows.length qc ∧ v11 = .slice qa s.rows.length qc ∧ i ≤ l.length ∧ l.length - i ≤ kx ∧ p.B = B ∧ Hid (SmA w wr 50 b s g p d) ∧ Hid (RowC wr qa qc s.rows))
  case atStart => exact ⟨0, s, g, p, _, none, 0, rfl, HV0.out, HV0.out, by omega, by omega, hB.symm, HLM, HQ0⟩
  case round =>
    clear HLM HQ0 HV0 HR0 hB
    obtain ⟨i, s, g, p, d, qa, qc, rfl, rfl, rfl, hi, hix, hpB, HR, HQR⟩ := hrel
    by_cases hlt : i < l.length
    · have hltz : (i : Int) < (l.length : Int) := by omega
      have hmod : Int.tmod (i : Int) 5 = ((i % 5 : Nat) : Int) := rfl
      by_cases h5 : i % 5 = 4
      · have h5z : Int.tmod (i : Int) 5 = 4 := by rw [hmod, h5]; rfl
        clear hmod
        have KSV : Hid _ := sma_save HR.out (by omega) (by omega)
        go_wp2_with fail
        refine Calls.mono KSV.out ?_
        rintro e w6 ⟨hlet, hor⟩
        have HQ6 : Hid (RowC w6 qa qc s.rows) := HQR.out.let' hlet
        clear hlet KSV
        rcases hor with ⟨rfl, s', g', p', d', hpB', hsm, hrw⟩ | ⟨rfl, p', d', hgn⟩
        · have HS6 : Hid (SmA w w6 50 b s' g' p' d') := hsm
          have HPB : Hid (p'.B = B) := hpB'.trans hpB
          have HRW : Hid (s'.rows = s.rows) := hrw
          have KN0 : Hid _ := number_nil w6
          rw [← HRW.out] at HQ6 ⊢
          clear hsm hrw hpB' hpB HR HQR HRW
          go_wp2_with fail
          refine Calls.mono KN0.out ?_
          rintro e w8 ⟨rfl, hw⟩
          rw [hw]
          clear hw w8 KN0
          obtain ⟨wr, hwr⟩ : ∃ wr, wr = w6 := ⟨_, rfl⟩
          rw [← hwr] at HS6 HQ6 ⊢
          obtain ⟨s, hs⟩ : ∃ s, s = s' := ⟨_, rfl⟩
          rw [← hs] at HS6 HQ6 ⊢
          obtain ⟨p, hp⟩ : ∃ p, p = p' := ⟨_, rfl⟩
          rw [← hp] at HS6 HPB
          have HR : Hid (SmA w wr 50 b s g' p d') := HS6
          have HQR : Hid (RowC wr qa qc s.rows) := HQ6
          have hpB : p.B = B := HPB.out
          clear hwr hs hp HS6 HQ6 HPB
          have hs12 : s.rows.length ≤ 12 := HR.out.kept.rows.2.2
          obtain ⟨ab, ao, rfl, c0, hcc, hcl⟩ := (HC.out.below HR.out.below) i hlt
          obtain ⟨ab0, ao0, e0, c00, hcc0, hcl0⟩ := HC.out i hlt
          have HCC : Hid (CC w l[i].a l[i].l) := hcc0.cc
          have HLC : Hid (w.cell? ⟨ab, ao + i, none⟩ = some l[i].v) := by
            injection e0 with e0
            injection e0 with e1 e2
            subst e1 e2
            exact c00
          have hx14 : l[i].l.length ≤ 14 := by have := (HLA.out.2 _ (List.getElem_mem hlt)).1; omega
          have HXN : Hid (l[i].a = none → l[i].cap = 0) := HNIL.out _ (List.getElem_mem hlt)
          clear hcc hcl e0 c00 hcc0 hcl0
          obtain ⟨x, hx⟩ : ∃ x, x = l[i] := ⟨_, rfl⟩
          rw [← hx] at c0 HCC HLC hx14 HXN
          clear hx
          change wr.cell? ⟨ab, ao + i, none⟩ = some (.slice x.a x.l.length x.cap) at c0
          change Hid (w.cell? ⟨ab, ao + i, none⟩ = some (.slice x.a x.l.length x.cap)) at HLC
          have KCM : Hid _ := sma_commit HR.out (by omega) (by omega) x.a x.cap x.l HCC.out HXN.out (by omega)
          go_wp2_with fail
          refine Calls.mono KCM.out ?_
          rintro e w7 ⟨hlet, hor⟩
          have HQ7 : Hid (RowC w7 qa qc s.rows) := HQR.out.let' hlet
          clear c0 hlet KCM
          rcases hor with ⟨rfl, s', g', p', d', hpB', hsm, hrw⟩ | ⟨n7, rfl, hn0, hn8, hn1, hn2, s', g', p', d', hpB', hsm, hrw⟩ | ⟨rfl, p', d', hgn⟩
          · have HS7 : Hid (SmA w w7 50 b s' g' p' d') := hsm
            have HRW : Hid (s'.rows = appliedC s.rows x.l) := hrw
            have HPB : Hid (p'.B = B) := hpB'.trans hpB
            have c7 : w7.cell? ⟨ab, ao + i, none⟩ = some (.slice x.a x.l.length x.cap) := by rw [hsm.below.cell (World.block_lt_of_cell? _ _ HLC.out)]; exact HLC.out
            have KAP : Hid _ := applied_row (cap := x.cap) HQ7.out (Nat.le_trans hs12 (by decide)) (HCC.out.below hsm.below) (Nat.le_trans hx14 (by decide))
            clear hsm hrw hpB' HR HQR
            go_wp2_with fail
            refine Calls.mono KAP.out ?_
            rintro e w8 ⟨va, vc, rfl, hrow, hb8⟩
            have HS8 : Hid (SmA w w8 50 b s' g' p' d') := HS7.out.go hb8
            have HQ8 : Hid (RowC w8 va vc s'.rows) := by show RowC _ _ _ _; rw [HRW.out]; exact hrow
            have HLN : Hid ((appliedC s.rows x.l).length = s'.rows.length) := by show _ = _; rw [HRW.out]
            clear hrow hb8 KAP HS7 HQ7 c7
            rw [HLN.out]
            go_wp2
            go_roundg (l.length - (i + 1))
            case measure => omega
            case rel => exact ⟨i + 1, s', g', p', d', va, vc, by go_num, rfl, rfl, by omega, Nat.le_refl _, HPB.out, HS8, HQ8⟩
          · have HS7 : Hid (SmA w w7 50 b s' g' p' d') := hsm
            have HRW : Hid (s'.rows = s.rows) := hrw
            have HPB : Hid (p'.B = B) := hpB'.trans hpB
            have KNU : Hid _ := topNumber_any n7 w7 hn0 ⟨hn1, hn2⟩
            clear hsm hrw hpB' HR HQR
            rw [← HRW.out] at HQ7 ⊢
            go_wp2_with fail
            refine Calls.mono KNU.out ?_
            rintro e w8 ⟨rfl, hw⟩
            rw [hw]
            clear hw w8 KNU
            go_wp2
            go_roundg (l.length - (i + 1))
            case measure => omega
            case rel => exact ⟨i + 1, s', g', p', d', qa, qc, by go_num, rfl, rfl, by omega, Nat.le_refl _, HPB.out, HS7, HQ7⟩
          · rw [hpB] at hgn
            have HG7 : Hid (Gone w w7 50 B p' d' s.rows (appliedC s.rows x.l)) := hgn
            have c7 : w7.cell? ⟨ab, ao + i, none⟩ = some (.slice x.a x.l.length x.cap) := by rw [hgn.below.cell (World.block_lt_of_cell? _ _ HLC.out)]; exact HLC.out
            have KNU : Hid _ := topNumber_any 8 w7 (by decide) (by decide)
            have KAP : Hid _ := applied_row (cap := x.cap) HQ7.out (Nat.le_trans hs12 (by decide)) (HCC.out.below hgn.below) (Nat.le_trans hx14 (by decide))
            clear hgn HR HQR
            go_wp2_with fail
            refine Calls.mono KNU.out ?_
            rintro e w8 ⟨rfl, hw⟩
            rw [hw]
            clear hw w8 KNU
            go_wp2_with fail
            refine Calls.mono KAP.out ?_
            rintro e w8 ⟨la, lc, rfl, hrow, hb8⟩
            obtain ⟨R1, hR1⟩ : ∃ R1, R1 = s.rows := ⟨_, rfl⟩
            obtain ⟨R2, hR2⟩ : ∃ R2, R2 = appliedC s.rows x.l := ⟨_, rfl⟩
            rw [← hR2] at hrow HG7 ⊢
            rw [← hR1] at HG7 HQ7 ⊢
            have HGN : Hid (Gone w w8 50 B p' d' R1 R2) := ⟨HG7.out.disk.below hb8, HG7.out.pB, HG7.out.lo, HG7.out.few, HG7.out.fate, HG7.out.below.trans (hb8.mono HG7.out.below.size)⟩
            have HQ : Hid (RowC w8 qa qc R1) := HQ7.out.below hb8
            have HL : Hid (RowC w8 la lc R2) := hrow
            have HN1 : Hid (R1.length ≤ 1000) := by show _ ≤ _; rw [hR1]; omega
            have HN2 : Hid (R2.length ≤ 1000) := by show _ ≤ _; rw [hR2]; exact Nat.le_trans (applied_few' _ _) (by omega)
            clear hrow hb8 hR1 hR2 HG7 HQ7 KAP c7
            have KRS : Hid _ := gone_restart HGN.out K hK
            go_wp2_with fail
            refine Calls.mono KRS.out ?_
            rintro e z1 ⟨rfl, hlet, hbel, p1, d1, sd1, us1, R, hpb1, hlo1, hd1, hk1, hf1, hor⟩
            have HQ1 : Hid (RowC z1 qa qc R1) := HQ.out.let' hlet
            have HL1 : Hid (RowC z1 la lc R2) := HL.out.let' hlet
            have HOR : Hid (R = R1 ∨ R = R2) := hor
            have HR12 : Hid (R.length ≤ 12) := hk1.rows.2.2
            have ko := kg_open (w := w) p1 d1 50 sd1 us1 R hd1 hk1 hf1 (by omega) hlo1 hbel
            rw [hpb1] at ko
            have KO : Hid _ := ko
            have HPB1 : Hid (p1.B = B) := hpb1
            clear ko hlet hbel hpb1 hlo1 hd1 hk1 hf1 hor KRS HGN HQ HL
            go_wp2_with fail
            refine Calls.mono KO.out ?_
            rintro e z2 ⟨hb2, bx, sx, gx, rfl, hgx, hrx⟩
            have HQ2 : Hid (RowC z2 qa qc R1) := HQ1.out.below hb2
            have HL2 : Hid (RowC z2 la lc R2) := HL1.out.below hb2
            have kr := smg_rows hgx
            rw [hrx] at kr
            have KR : Hid _ := kr
            have HRX : Hid (sx.rows = R) := hrx
            clear kr hb2 hgx hrx KO HQ1 HL1
            go_wp2_with fail
            refine Calls.mono KR.out ?_
            rintro e z3 ⟨ga, gc, rfl, hg3, hb3, hgx⟩
            have HG3 : Hid (SmG w z3 50 bx sx gx p1 d1) := hgx
            have HGR : Hid (RowC z3 ga gc R) := hg3
            have HL3 : Hid (RowC z3 la lc R2) := HL2.out.below hb3
            have KS1 : Hid _ := same_rows hg3 (HQ2.out.below hb3) (Nat.le_trans HR12.out (by decide)) HN1.out
            clear hg3 hb3 hgx KR HQ2 HL2
            by_cases hq : R = R1
            · have ks := KS1.out
              rw [(sameCL_iff R R1).2 hq] at ks
              have KS : Hid _ := ks
              clear ks KS1 hq
              go_wp2_with fail
              refine Calls.mono KS.out ?_
              rintro e z4 ⟨rfl, hb4⟩
              have HG4 : Hid (SmG w z4 50 bx sx gx p1 d1) := HG3.out.go hb4
              have HGOT : Hid (RowC z4 ga gc R) := HGR.out.below hb4
              clear hb4 KS HG3 HGR HL3
              have KC1 : Hid _ := smg_commit HG4.out (by omega) (by omega)
              go_wp2_with fail
              refine Calls.mono KC1.out ?_
              rintro e z5 ⟨rfl, hlet, s5, g5, p5, d5, hb5, hg5, hr5⟩
              have HGO5 : Hid (RowC z5 ga gc R) := HGOT.out.let' hlet
              have HG5 : Hid (SmG w z5 50 bx s5 g5 p5 d5) := hg5
              have HX5 : Hid (p5.B = B ∧ s5.rows = R) := ⟨hb5.trans HPB1.out, hr5.trans HRX.out⟩
              clear hlet hb5 hg5 hr5 KC1 HG4 HGOT
              have KC2 : Hid _ := smg_save HG5.out (by omega) (by omega)
              go_wp2_with fail
              refine Calls.mono KC2.out ?_
              rintro e z6 ⟨rfl, hlet, s6, g6, p6, d6, hb6, hg6, hr6⟩
              have HGO6 : Hid (RowC z6 ga gc R) := HGO5.out.let' hlet
              have hpb6 : p6.B = B := hb6.trans HX5.out.1
              have hr6' : s6.rows = R := hr6.trans HX5.out.2
              have ko6 := kg_open (w := w) p6 d6 50 s6.side g6.used s6.rows hg6.disk hg6.kept hg6.free (by omega) hg6.lo hg6.below
              rw [hpb6, hr6'] at ko6
              have KO6 : Hid _ := ko6
              clear ko6 hlet hb6 hg6 hr6 hr6' hpb6 KC2 HG5 HX5 HGO5
              go_wp2_with fail
              refine Calls.mono KO6.out ?_
              rintro e z7 ⟨hb7, by', s7, g7, rfl, hg7, hr7⟩
              have HGO7 : Hid (RowC z7 ga gc R) := HGO6.out.below hb7
              have kr7 := smg_rows hg7
              rw [hr7] at kr7
              have KR7 : Hid _ := kr7
              clear kr7 hb7 hg7 hr7 KO6 HGO6
              go_wp2_with fail
              refine Calls.mono KR7.out ?_
              rintro e z8 ⟨ya, yc, rfl, hy8, hb8, hg8⟩
              have ks8 := same_rows hy8 (HGO7.out.below hb8) (Nat.le_trans HR12.out (by decide)) (Nat.le_trans HR12.out (by decide))
              rw [sameCL_self] at ks8
              have KS8 : Hid _ := ks8
              have HB8 : Hid (Below w.heap.size w z8) := hg8.below
              clear hy8 hb8 hg8 ks8 KR7 HGO7
              go_wp2_with fail
              refine Calls.mono KS8.out ?_
              rintro e z9 ⟨rfl, hb9⟩
              have HB9 : Hid (Below w.heap.size w z9) := HB8.out.trans (hb9.mono HB8.out.size)
              clear hb9 KS8 HB8
              go_wp2
              go_ret
              exact ⟨rfl, HB9.out⟩
            · have hsf : sameCL R R1 = false := by
                cases hb : sameCL R R1
                · rfl
                · exact absurd ((sameCL_iff R R1).1 hb) hq
              have hq2 : R = R2 := by rcases HOR.out with h | h; exact absurd h hq; exact h
              have ks := KS1.out
              rw [hsf] at ks
              have KS : Hid _ := ks
              have HQ22 : Hid (R = R2) := hq2
              clear ks KS1 hq hsf hq2
              go_wp2_with fail
              refine Calls.mono KS.out ?_
              rintro e z3b ⟨rfl, hb3b⟩
              have HG3b : Hid (SmG w z3b 50 bx sx gx p1 d1) := HG3.out.go hb3b
              have HGRb : Hid (RowC z3b ga gc R) := HGR.out.below hb3b
              have ks2 := same_rows HGRb.out (HL3.out.below hb3b) (Nat.le_trans HR12.out (by decide)) HN2.out
              rw [(sameCL_iff R R2).2 HQ22.out] at ks2
              have KS2 : Hid _ := ks2
              clear ks2 hb3b KS HG3 HGR HL3
              go_wp2_with fail
              refine Calls.mono KS2.out ?_
              rintro e z4 ⟨rfl, hb4⟩
              have HG4 : Hid (SmG w z4 50 bx sx gx p1 d1) := HG3b.out.go hb4
              have HGOT : Hid (RowC z4 ga gc R) := HGRb.out.below hb4
              clear hb4 KS2 HG3b HGRb
              have KC1 : Hid _ := smg_commit HG4.out (by omega) (by omega)
              go_wp2_with fail
              refine Calls.mono KC1.out ?_
              rintro e z5 ⟨rfl, hlet, s5, g5, p5, d5, hb5, hg5, hr5⟩
              have HGO5 : Hid (RowC z5 ga gc R) := HGOT.out.let' hlet
              have HG5 : Hid (SmG w z5 50 bx s5 g5 p5 d5) := hg5
              have HX5 : Hid (p5.B = B ∧ s5.rows = R) := ⟨hb5.trans HPB1.out, hr5.trans HRX.out⟩
              clear hlet hb5 hg5 hr5 KC1 HG4 HGOT
              have KC2 : Hid _ := smg_save HG5.out (by omega) (by omega)
              go_wp2_with fail
              refine Calls.mono KC2.out ?_
              rintro e z6 ⟨rfl, hlet, s6, g6, p6, d6, hb6, hg6, hr6⟩
              have HGO6 : Hid (RowC z6 ga gc R) := HGO5.out.let' hlet
              have hpb6 : p6.B = B := hb6.trans HX5.out.1
              have hr6' : s6.rows = R := hr6.trans HX5.out.2
              have ko6 := kg_open (w := w) p6 d6 50 s6.side g6.used s6.rows hg6.disk hg6.kept hg6.free (by omega) hg6.lo hg6.below
              rw [hpb6, hr6'] at ko6
              have KO6 : Hid _ := ko6
              clear ko6 hlet hb6 hg6 hr6 hr6' hpb6 KC2 HG5 HX5 HGO5
              go_wp2_with fail
              refine Calls.mono KO6.out ?_
              rintro e z7 ⟨hb7, by', s7, g7, rfl, hg7, hr7⟩
              have HGO7 : Hid (RowC z7 ga gc R) := HGO6.out.below hb7
              have kr7 := smg_rows hg7
              rw [hr7] at kr7
              have KR7 : Hid _ := kr7
              clear kr7 hb7 hg7 hr7 KO6 HGO6
              go_wp2_with fail
              refine Calls.mono KR7.out ?_
              rintro e z8 ⟨ya, yc, rfl, hy8, hb8, hg8⟩
              have ks8 := same_rows hy8 (HGO7.out.below hb8) (Nat.le_trans HR12.out (by decide)) (Nat.le_trans HR12.out (by decide))
              rw [sameCL_self] at ks8
              have KS8 : Hid _ := ks8
              have HB8 : Hid (Below w.heap.size w z8) := hg8.below
              clear hy8 hb8 hg8 ks8 KR7 HGO7
              go_wp2_with fail
              refine Calls.mono KS8.out ?_
              rintro e z9 ⟨rfl, hb9⟩
              have HB9 : Hid (Below w.heap.size w z9) := HB8.out.trans (hb9.mono HB8.out.size)
              clear hb9 KS8 HB8
              go_wp2
              go_ret
              exact ⟨rfl, HB9.out⟩
        · rw [hpB] at hgn
          have KN8 : Hid _ := topNumber_any 8 w6 (by decide) (by decide)
          have hs12 : s.rows.length ≤ 12 := HR.out.kept.rows.2.2
          obtain ⟨R1, hR1⟩ : ∃ R1, R1 = s.rows := ⟨_, rfl⟩
          rw [← hR1] at HQ6 hgn hs12 ⊢
          have HGN : Hid (Gone w w6 50 B p' d' R1 R1) := hgn
          have HQ : Hid (RowC w6 qa qc R1) := HQ6
          have HL : Hid (RowC w6 qa qc R1) := HQ6
          have HN1 : Hid (R1.length ≤ 1000) := Nat.le_trans hs12 (by decide)
          have HN2 : Hid (R1.length ≤ 1000) := Nat.le_trans hs12 (by decide)
          clear hgn HR HQR HQ6 hR1 hs12
          go_wp2_with fail
          refine Calls.mono KN8.out ?_
          rintro e w8 ⟨rfl, hw⟩
          rw [hw]
          clear hw w8 KN8
          have KRS : Hid _ := gone_restart HGN.out K hK
          go_wp2_with fail
          refine Calls.mono KRS.out ?_
          rintro e z1 ⟨rfl, hlet, hbel, p1, d1, sd1, us1, R, hpb1, hlo1, hd1, hk1, hf1, hor⟩
          have HQ1 : Hid (RowC z1 qa qc R1) := HQ.out.let' hlet
          have HL1 : Hid (RowC z1 qa qc R1) := HL.out.let' hlet
          have HOR : Hid (R = R1 ∨ R = R1) := hor
          have HR12 : Hid (R.length ≤ 12) := hk1.rows.2.2
          have ko := kg_open (w := w) p1 d1 50 sd1 us1 R hd1 hk1 hf1 (by omega) hlo1 hbel
          rw [hpb1] at ko
          have KO : Hid _ := ko
          have HPB1 : Hid (p1.B = B) := hpb1
          clear ko hlet hbel hpb1 hlo1 hd1 hk1 hf1 hor KRS HGN HQ HL
          go_wp2_with fail
          refine Calls.mono KO.out ?_
          rintro e z2 ⟨hb2, bx, sx, gx, rfl, hgx, hrx⟩
          have HQ2 : Hid (RowC z2 qa qc R1) := HQ1.out.below hb2
          have HL2 : Hid (RowC z2 qa qc R1) := HL1.out.below hb2
          have kr := smg_rows hgx
          rw [hrx] at kr
          have KR : Hid _ := kr
          have HRX : Hid (sx.rows = R) := hrx
          clear kr hb2 hgx hrx KO HQ1 HL1
          go_wp2_with fail
          refine Calls.mono KR.out ?_
          rintro e z3 ⟨ga, gc, rfl, hg3, hb3, hgx⟩
          have HG3 : Hid (SmG w z3 50 bx sx gx p1 d1) := hgx
          have HGR : Hid (RowC z3 ga gc R) := hg3
          have HL3 : Hid (RowC z3 qa qc R1) := HL2.out.below hb3
          have KS1 : Hid _ := same_rows hg3 (HQ2.out.below hb3) (Nat.le_trans HR12.out (by decide)) HN1.out
          clear hg3 hb3 hgx KR HQ2 HL2
          by_cases hq : R = R1
          · have ks := KS1.out
            rw [(sameCL_iff R R1).2 hq] at ks
            have KS : Hid _ := ks
            clear ks KS1 hq
            go_wp2_with fail
            refine Calls.mono KS.out ?_
            rintro e z4 ⟨rfl, hb4⟩
            have HG4 : Hid (SmG w z4 50 bx sx gx p1 d1) := HG3.out.go hb4
            have HGOT : Hid (RowC z4 ga gc R) := HGR.out.below hb4
            clear hb4 KS HG3 HGR HL3
            have KC1 : Hid _ := smg_commit HG4.out (by omega) (by omega)
            go_wp2_with fail
            refine Calls.mono KC1.out ?_
            rintro e z5 ⟨rfl, hlet, s5, g5, p5, d5, hb5, hg5, hr5⟩
            have HGO5 : Hid (RowC z5 ga gc R) := HGOT.out.let' hlet
            have HG5 : Hid (SmG w z5 50 bx s5 g5 p5 d5) := hg5
            have HX5 : Hid (p5.B = B ∧ s5.rows = R) := ⟨hb5.trans HPB1.out, hr5.trans HRX.out⟩
            clear hlet hb5 hg5 hr5 KC1 HG4 HGOT
            have KC2 : Hid _ := smg_save HG5.out (by omega) (by omega)
            go_wp2_with fail
            refine Calls.mono KC2.out ?_
            rintro e z6 ⟨rfl, hlet, s6, g6, p6, d6, hb6, hg6, hr6⟩
            have HGO6 : Hid (RowC z6 ga gc R) := HGO5.out.let' hlet
            have hpb6 : p6.B = B := hb6.trans HX5.out.1
            have hr6' : s6.rows = R := hr6.trans HX5.out.2
            have ko6 := kg_open (w := w) p6 d6 50 s6.side g6.used s6.rows hg6.disk hg6.kept hg6.free (by omega) hg6.lo hg6.below
            rw [hpb6, hr6'] at ko6
            have KO6 : Hid _ := ko6
            clear ko6 hlet hb6 hg6 hr6 hr6' hpb6 KC2 HG5 HX5 HGO5
            go_wp2_with fail
            refine Calls.mono KO6.out ?_
            rintro e z7 ⟨hb7, by', s7, g7, rfl, hg7, hr7⟩
            have HGO7 : Hid (RowC z7 ga gc R) := HGO6.out.below hb7
            have kr7 := smg_rows hg7
            rw [hr7] at kr7
            have KR7 : Hid _ := kr7
            clear kr7 hb7 hg7 hr7 KO6 HGO6
            go_wp2_with fail
            refine Calls.mono KR7.out ?_
            rintro e z8 ⟨ya, yc, rfl, hy8, hb8, hg8⟩
            have ks8 := same_rows hy8 (HGO7.out.below hb8) (Nat.le_trans HR12.out (by decide)) (Nat.le_trans HR12.out (by decide))
            rw [sameCL_self] at ks8
            have KS8 : Hid _ := ks8
            have HB8 : Hid (Below w.heap.size w z8) := hg8.below
            clear hy8 hb8 hg8 ks8 KR7 HGO7
            go_wp2_with fail
            refine Calls.mono KS8.out ?_
            rintro e z9 ⟨rfl, hb9⟩
            have HB9 : Hid (Below w.heap.size w z9) := HB8.out.trans (hb9.mono HB8.out.size)
            clear hb9 KS8 HB8
            go_wp2
            go_ret
            exact ⟨rfl, HB9.out⟩
          · have hsf : sameCL R R1 = false := by
              cases hb : sameCL R R1
              · rfl
              · exact absurd ((sameCL_iff R R1).1 hb) hq
            have hq2 : R = R1 := by rcases HOR.out with h | h; exact absurd h hq; exact h
            have ks := KS1.out
            rw [hsf] at ks
            have KS : Hid _ := ks
            have HQ22 : Hid (R = R1) := hq2
            clear ks KS1 hq hsf hq2
            go_wp2_with fail
            refine Calls.mono KS.out ?_
            rintro e z3b ⟨rfl, hb3b⟩
            have HG3b : Hid (SmG w z3b 50 bx sx gx p1 d1) := HG3.out.go hb3b
            have HGRb : Hid (RowC z3b ga gc R) := HGR.out.below hb3b
            have ks2 := same_rows HGRb.out (HL3.out.below hb3b) (Nat.le_trans HR12.out (by decide)) HN2.out
            rw [(sameCL_iff R R1).2 HQ22.out] at ks2
            have KS2 : Hid _ := ks2
            clear ks2 hb3b KS HG3 HGR HL3
            go_wp2_with fail
            refine Calls.mono KS2.out ?_
            rintro e z4 ⟨rfl, hb4⟩
            have HG4 : Hid (SmG w z4 50 bx sx gx p1 d1) := HG3b.out.go hb4
            have HGOT : Hid (RowC z4 ga gc R) := HGRb.out.below hb4
            clear hb4 KS2 HG3b HGRb
            have KC1 : Hid _ := smg_commit HG4.out (by omega) (by omega)
            go_wp2_with fail
            refine Calls.mono KC1.out ?_
            rintro e z5 ⟨rfl, hlet, s5, g5, p5, d5, hb5, hg5, hr5⟩
            have HGO5 : Hid (RowC z5 ga gc R) := HGOT.out.let' hlet
            have HG5 : Hid (SmG w z5 50 bx s5 g5 p5 d5) := hg5
            have HX5 : Hid (p5.B = B ∧ s5.rows = R) := ⟨hb5.trans HPB1.out, hr5.trans HRX.out⟩
            clear hlet hb5 hg5 hr5 KC1 HG4 HGOT
            have KC2 : Hid _ := smg_save HG5.out (by omega) (by omega)
            go_wp2_with fail
            refine Calls.mono KC2.out ?_
            rintro e z6 ⟨rfl, hlet, s6, g6, p6, d6, hb6, hg6, hr6⟩
            have HGO6 : Hid (RowC z6 ga gc R) := HGO5.out.let' hlet
            have hpb6 : p6.B = B := hb6.trans HX5.out.1
            have hr6' : s6.rows = R := hr6.trans HX5.out.2
            have ko6 := kg_open (w := w) p6 d6 50 s6.side g6.used s6.rows hg6.disk hg6.kept hg6.free (by omega) hg6.lo hg6.below
            rw [hpb6, hr6'] at ko6
            have KO6 : Hid _ := ko6
            clear ko6 hlet hb6 hg6 hr6 hr6' hpb6 KC2 HG5 HX5 HGO5
            go_wp2_with fail
            refine Calls.mono KO6.out ?_
            rintro e z7 ⟨hb7, by', s7, g7, rfl, hg7, hr7⟩
            have HGO7 : Hid (RowC z7 ga gc R) := HGO6.out.below hb7
            have kr7 := smg_rows hg7
            rw [hr7] at kr7
            have KR7 : Hid _ := kr7
            clear kr7 hb7 hg7 hr7 KO6 HGO6
            go_wp2_with fail
            refine Calls.mono KR7.out ?_
            rintro e z8 ⟨ya, yc, rfl, hy8, hb8, hg8⟩
            have ks8 := same_rows hy8 (HGO7.out.below hb8) (Nat.le_trans HR12.out (by decide)) (Nat.le_trans HR12.out (by decide))
            rw [sameCL_self] at ks8
            have KS8 : Hid _ := ks8
            have HB8 : Hid (Below w.heap.size w z8) := hg8.below
            clear hy8 hb8 hg8 ks8 KR7 HGO7
            go_wp2_with fail
            refine Calls.mono KS8.out ?_
            rintro e z9 ⟨rfl, hb9⟩
            have HB9 : Hid (Below w.heap.size w z9) := HB8.out.trans (hb9.mono HB8.out.size)
            clear hb9 KS8 HB8
            go_wp2
            go_ret
            exact ⟨rfl, HB9.out⟩
      · have h5z : ¬ Int.tmod (i : Int) 5 = 4 := by rw [hmod]; omega
        clear hmod
        have hs12 : s.rows.length ≤ 12 := HR.out.kept.rows.2.2
        obtain ⟨ab, ao, rfl, c0, hcc, hcl⟩ := (HC.out.below HR.out.below) i hlt
        obtain ⟨ab0, ao0, e0, c00, hcc0, hcl0⟩ := HC.out i hlt
        have HCC : Hid (CC w l[i].a l[i].l) := hcc0.cc
        have HLC : Hid (w.cell? ⟨ab, ao + i, none⟩ = some l[i].v) := by
          injection e0 with e0
          injection e0 with e1 e2
          subst e1 e2
          exact c00
        have hx14 : l[i].l.length ≤ 14 := by have := (HLA.out.2 _ (List.getElem_mem hlt)).1; omega
        have HXN : Hid (l[i].a = none → l[i].cap = 0) := HNIL.out _ (List.getElem_mem hlt)
        clear hcc hcl e0 c00 hcc0 hcl0
        obtain ⟨x, hx⟩ : ∃ x, x = l[i] := ⟨_, rfl⟩
        rw [← hx] at c0 HCC HLC hx14 HXN
        clear hx
        change wr.cell? ⟨ab, ao + i, none⟩ = some (.slice x.a x.l.length x.cap) at c0
        change Hid (w.cell? ⟨ab, ao + i, none⟩ = some (.slice x.a x.l.length x.cap)) at HLC
        have KCM : Hid _ := sma_commit HR.out (by omega) (by omega) x.a x.cap x.l HCC.out HXN.out (by omega)
        go_wp2_with fail
        refine Calls.mono KCM.out ?_
        rintro e w7 ⟨hlet, hor⟩
        have HQ7 : Hid (RowC w7 qa qc s.rows) := HQR.out.let' hlet
        clear c0 hlet KCM
        rcases hor with ⟨rfl, s', g', p', d', hpB', hsm, hrw⟩ | ⟨n7, rfl, hn0, hn8, hn1, hn2, s', g', p', d', hpB', hsm, hrw⟩ | ⟨rfl, p', d', hgn⟩
        · have HS7 : Hid (SmA w w7 50 b s' g' p' d') := hsm
          have HRW : Hid (s'.rows = appliedC s.rows x.l) := hrw
          have HPB : Hid (p'.B = B) := hpB'.trans hpB
          have c7 : w7.cell? ⟨ab, ao + i, none⟩ = some (.slice x.a x.l.length x.cap) := by rw [hsm.below.cell (World.block_lt_of_cell? _ _ HLC.out)]; exact HLC.out
          have KAP : Hid _ := applied_row (cap := x.cap) HQ7.out (Nat.le_trans hs12 (by decide)) (HCC.out.below hsm.below) (Nat.le_trans hx14 (by decide))
          clear hsm hrw hpB' HR HQR
          go_wp2_with fail
          refine Calls.mono KAP.out ?_
          rintro e w8 ⟨va, vc, rfl, hrow, hb8⟩
          have HS8 : Hid (SmA w w8 50 b s' g' p' d') := HS7.out.go hb8
          have HQ8 : Hid (RowC w8 va vc s'.rows) := by show RowC _ _ _ _; rw [HRW.out]; exact hrow
          have HLN : Hid ((appliedC s.rows x.l).length = s'.rows.length) := by show _ = _; rw [HRW.out]
          clear hrow hb8 KAP HS7 HQ7 c7
          rw [HLN.out]
          go_wp2
          go_roundg (l.length - (i + 1))
          case measure => omega
          case rel => exact ⟨i + 1, s', g', p', d', va, vc, by go_num, rfl, rfl, by omega, Nat.le_refl _, HPB.out, HS8, HQ8⟩
        · have HS7 : Hid (SmA w w7 50 b s' g' p' d') := hsm
          have HRW : Hid (s'.rows = s.rows) := hrw
          have HPB : Hid (p'.B = B) := hpB'.trans hpB
          have KNU : Hid _ := topNumber_any n7 w7 hn0 ⟨hn1, hn2⟩
          clear hsm hrw hpB' HR HQR
          rw [← HRW.out] at HQ7 ⊢
          go_wp2_with fail
          refine Calls.mono KNU.out ?_
          rintro e w8 ⟨rfl, hw⟩
          rw [hw]
          clear hw w8 KNU
          go_wp2
          go_roundg (l.length - (i + 1))
          case measure => omega
          case rel => exact ⟨i + 1, s', g', p', d', qa, qc, by go_num, rfl, rfl, by omega, Nat.le_refl _, HPB.out, HS7, HQ7⟩
        · rw [hpB] at hgn
          have HG7 : Hid (Gone w w7 50 B p' d' s.rows (appliedC s.rows x.l)) := hgn
          have c7 : w7.cell? ⟨ab, ao + i, none⟩ = some (.slice x.a x.l.length x.cap) := by rw [hgn.below.cell (World.block_lt_of_cell? _ _ HLC.out)]; exact HLC.out
          have KNU : Hid _ := topNumber_any 8 w7 (by decide) (by decide)
          have KAP : Hid _ := applied_row (cap := x.cap) HQ7.out (Nat.le_trans hs12 (by decide)) (HCC.out.below hgn.below) (Nat.le_trans hx14 (by decide))
          clear hgn HR HQR
          go_wp2_with fail
          refine Calls.mono KNU.out ?_
          rintro e w8 ⟨rfl, hw⟩
          rw [hw]
          clear hw w8 KNU
          go_wp2_with fail
          refine Calls.mono KAP.out ?_
          rintro e w8 ⟨la, lc, rfl, hrow, hb8⟩
          obtain ⟨R1, hR1⟩ : ∃ R1, R1 = s.rows := ⟨_, rfl⟩
          obtain ⟨R2, hR2⟩ : ∃ R2, R2 = appliedC s.rows x.l := ⟨_, rfl⟩
          rw [← hR2] at hrow HG7 ⊢
          rw [← hR1] at HG7 HQ7 ⊢
          have HGN : Hid (Gone w w8 50 B p' d' R1 R2) := ⟨HG7.out.disk.below hb8, HG7.out.pB, HG7.out.lo, HG7.out.few, HG7.out.fate, HG7.out.below.trans (hb8.mono HG7.out.below.size)⟩
          have HQ : Hid (RowC w8 qa qc R1) := HQ7.out.below hb8
          have HL : Hid (RowC w8 la lc R2) := hrow
          have HN1 : Hid (R1.length ≤ 1000) := by show _ ≤ _; rw [hR1]; omega
          have HN2 : Hid (R2.length ≤ 1000) := by show _ ≤ _; rw [hR2]; exact Nat.le_trans (applied_few' _ _) (by omega)
          clear hrow hb8 hR1 hR2 HG7 HQ7 KAP c7
          have KRS : Hid _ := gone_restart HGN.out K hK
          go_wp2_with fail
          refine Calls.mono KRS.out ?_
          rintro e z1 ⟨rfl, hlet, hbel, p1, d1, sd1, us1, R, hpb1, hlo1, hd1, hk1, hf1, hor⟩
          have HQ1 : Hid (RowC z1 qa qc R1) := HQ.out.let' hlet
          have HL1 : Hid (RowC z1 la lc R2) := HL.out.let' hlet
          have HOR : Hid (R = R1 ∨ R = R2) := hor
          have HR12 : Hid (R.length ≤ 12) := hk1.rows.2.2
          have ko := kg_open (w := w) p1 d1 50 sd1 us1 R hd1 hk1 hf1 (by omega) hlo1 hbel
          rw [hpb1] at ko
          have KO : Hid _ := ko
          have HPB1 : Hid (p1.B = B) := hpb1
          clear ko hlet hbel hpb1 hlo1 hd1 hk1 hf1 hor KRS HGN HQ HL
          go_wp2_with fail
          refine Calls.mono KO.out ?_
          rintro e z2 ⟨hb2, bx, sx, gx, rfl, hgx, hrx⟩
          have HQ2 : Hid (RowC z2 qa qc R1) := HQ1.out.below hb2
          have HL2 : Hid (RowC z2 la lc R2) := HL1.out.below hb2
          have kr := smg_rows hgx
          rw [hrx] at kr
          have KR : Hid _ := kr
          have HRX : Hid (sx.rows = R) := hrx
          clear kr hb2 hgx hrx KO HQ1 HL1
          go_wp2_with fail
          refine Calls.mono KR.out ?_
          rintro e z3 ⟨ga, gc, rfl, hg3, hb3, hgx⟩
          have HG3 : Hid (SmG w z3 50 bx sx gx p1 d1) := hgx
          have HGR : Hid (RowC z3 ga gc R) := hg3
          have HL3 : Hid (RowC z3 la lc R2) := HL2.out.below hb3
          have KS1 : Hid _ := same_rows hg3 (HQ2.out.below hb3) (Nat.le_trans HR12.out (by decide)) HN1.out
          clear hg3 hb3 hgx KR HQ2 HL2
          by_cases hq : R = R1
          · have ks := KS1.out
            rw [(sameCL_iff R R1).2 hq] at ks
            have KS : Hid _ := ks
            clear ks KS1 hq
            go_wp2_with fail
            refine Calls.mono KS.out ?_
            rintro e z4 ⟨rfl, hb4⟩
            have HG4 : Hid (SmG w z4 50 bx sx gx p1 d1) := HG3.out.go hb4
            have HGOT : Hid (RowC z4 ga gc R) := HGR.out.below hb4
            clear hb4 KS HG3 HGR HL3
            have KC1 : Hid _ := smg_commit HG4.out (by omega) (by omega)
            go_wp2_with fail
            refine Calls.mono KC1.out ?_
            rintro e z5 ⟨rfl, hlet, s5, g5, p5, d5, hb5, hg5, hr5⟩
            have HGO5 : Hid (RowC z5 ga gc R) := HGOT.out.let' hlet
            have HG5 : Hid (SmG w z5 50 bx s5 g5 p5 d5) := hg5
            have HX5 : Hid (p5.B = B ∧ s5.rows = R) := ⟨hb5.trans HPB1.out, hr5.trans HRX.out⟩
            clear hlet hb5 hg5 hr5 KC1 HG4 HGOT
            have KC2 : Hid _ := smg_save HG5.out (by omega) (by omega)
            go_wp2_with fail
            refine Calls.mono KC2.out ?_
            rintro e z6 ⟨rfl, hlet, s6, g6, p6, d6, hb6, hg6, hr6⟩
            have HGO6 : Hid (RowC z6 ga gc R) := HGO5.out.let' hlet
            have hpb6 : p6.B = B := hb6.trans HX5.out.1
            have hr6' : s6.rows = R := hr6.trans HX5.out.2
            have ko6 := kg_open (w := w) p6 d6 50 s6.side g6.used s6.rows hg6.disk hg6.kept hg6.free (by omega) hg6.lo hg6.below
            rw [hpb6, hr6'] at ko6
            have KO6 : Hid _ := ko6
            clear ko6 hlet hb6 hg6 hr6 hr6' hpb6 KC2 HG5 HX5 HGO5
            go_wp2_with fail
            refine Calls.mono KO6.out ?_
            rintro e z7 ⟨hb7, by', s7, g7, rfl, hg7, hr7⟩
            have HGO7 : Hid (RowC z7 ga gc R) := HGO6.out.below hb7
            have kr7 := smg_rows hg7
            rw [hr7] at kr7
            have KR7 : Hid _ := kr7
            clear kr7 hb7 hg7 hr7 KO6 HGO6
            go_wp2_with fail
            refine Calls.mono KR7.out ?_
            rintro e z8 ⟨ya, yc, rfl, hy8, hb8, hg8⟩
            have ks8 := same_rows hy8 (HGO7.out.below hb8) (Nat.le_trans HR12.out (by decide)) (Nat.le_trans HR12.out (by decide))
            rw [sameCL_self] at ks8
            have KS8 : Hid _ := ks8
            have HB8 : Hid (Below w.heap.size w z8) := hg8.below
            clear hy8 hb8 hg8 ks8 KR7 HGO7
            go_wp2_with fail
            refine Calls.mono KS8.out ?_
            rintro e z9 ⟨rfl, hb9⟩
            have HB9 : Hid (Below w.heap.size w z9) := HB8.out.trans (hb9.mono HB8.out.size)
            clear hb9 KS8 HB8
            go_wp2
            go_ret
            exact ⟨rfl, HB9.out⟩
          · have hsf : sameCL R R1 = false := by
              cases hb : sameCL R R1
              · rfl
              · exact absurd ((sameCL_iff R R1).1 hb) hq
            have hq2 : R = R2 := by rcases HOR.out with h | h; exact absurd h hq; exact h
            have ks := KS1.out
            rw [hsf] at ks
            have KS : Hid _ := ks
            have HQ22 : Hid (R = R2) := hq2
            clear ks KS1 hq hsf hq2
            go_wp2_with fail
            refine Calls.mono KS.out ?_
            rintro e z3b ⟨rfl, hb3b⟩
            have HG3b : Hid (SmG w z3b 50 bx sx gx p1 d1) := HG3.out.go hb3b
            have HGRb : Hid (RowC z3b ga gc R) := HGR.out.below hb3b
            have ks2 := same_rows HGRb.out (HL3.out.below hb3b) (Nat.le_trans HR12.out (by decide)) HN2.out
            rw [(sameCL_iff R R2).2 HQ22.out] at ks2
            have KS2 : Hid _ := ks2
            clear ks2 hb3b KS HG3 HGR HL3
            go_wp2_with fail
            refine Calls.mono KS2.out ?_
            rintro e z4 ⟨rfl, hb4⟩
            have HG4 : Hid (SmG w z4 50 bx sx gx p1 d1) := HG3b.out.go hb4
            have HGOT : Hid (RowC z4 ga gc R) := HGRb.out.below hb4
            clear hb4 KS2 HG3b HGRb
            have KC1 : Hid _ := smg_commit HG4.out (by omega) (by omega)
            go_wp2_with fail
            refine Calls.mono KC1.out ?_
            rintro e z5 ⟨rfl, hlet, s5, g5, p5, d5, hb5, hg5, hr5⟩
            have HGO5 : Hid (RowC z5 ga gc R) := HGOT.out.let' hlet
            have HG5 : Hid (SmG w z5 50 bx s5 g5 p5 d5) := hg5
            have HX5 : Hid (p5.B = B ∧ s5.rows = R) := ⟨hb5.trans HPB1.out, hr5.trans HRX.out⟩
            clear hlet hb5 hg5 hr5 KC1 HG4 HGOT
            have KC2 : Hid _ := smg_save HG5.out (by omega) (by omega)
            go_wp2_with fail
            refine Calls.mono KC2.out ?_
            rintro e z6 ⟨rfl, hlet, s6, g6, p6, d6, hb6, hg6, hr6⟩
            have HGO6 : Hid (RowC z6 ga gc R) := HGO5.out.let' hlet
            have hpb6 : p6.B = B := hb6.trans HX5.out.1
            have hr6' : s6.rows = R := hr6.trans HX5.out.2
            have ko6 := kg_open (w := w) p6 d6 50 s6.side g6.used s6.rows hg6.disk hg6.kept hg6.free (by omega) hg6.lo hg6.below
            rw [hpb6, hr6'] at ko6
            have KO6 : Hid _ := ko6
            clear ko6 hlet hb6 hg6 hr6 hr6' hpb6 KC2 HG5 HX5 HGO5
            go_wp2_with fail
            refine Calls.mono KO6.out ?_
            rintro e z7 ⟨hb7, by', s7, g7, rfl, hg7, hr7⟩
            have HGO7 : Hid (RowC z7 ga gc R) := HGO6.out.below hb7
            have kr7 := smg_rows hg7
            rw [hr7] at kr7
            have KR7 : Hid _ := kr7
            clear kr7 hb7 hg7 hr7 KO6 HGO6
            go_wp2_with fail
            refine Calls.mono KR7.out ?_
            rintro e z8 ⟨ya, yc, rfl, hy8, hb8, hg8⟩
            have ks8 := same_rows hy8 (HGO7.out.below hb8) (Nat.le_trans HR12.out (by decide)) (Nat.le_trans HR12.out (by decide))
            rw [sameCL_self] at ks8
            have KS8 : Hid _ := ks8
            have HB8 : Hid (Below w.heap.size w z8) := hg8.below
            clear hy8 hb8 hg8 ks8 KR7 HGO7
            go_wp2_with fail
            refine Calls.mono KS8.out ?_
            rintro e z9 ⟨rfl, hb9⟩
            have HB9 : Hid (Below w.heap.size w z9) := HB8.out.trans (hb9.mono HB8.out.size)
            clear hb9 KS8 HB8
            go_wp2
            go_ret
            exact ⟨rfl, HB9.out⟩
    · have hge : ¬ (i : Int) < (l.length : Int) := by omega
      have hs12 : s.rows.length ≤ 12 := HR.out.kept.rows.2.2
      have hgn := HR.out.gone s.rows
      rw [hpB] at hgn
      obtain ⟨R1, hR1⟩ : ∃ R1, R1 = s.rows := ⟨_, rfl⟩
      rw [← hR1] at HQR hgn hs12 ⊢
      have HGN : Hid (Gone w wr 50 B p d R1 R1) := hgn
      have HQ : Hid (RowC wr qa qc R1) := HQR
      have HL : Hid (RowC wr qa qc R1) := HQR
      have HN1 : Hid (R1.length ≤ 1000) := Nat.le_trans hs12 (by decide)
      have HN2 : Hid (R1.length ≤ 1000) := Nat.le_trans hs12 (by decide)
      clear hgn HR HQR hR1 hs12
      have KRS : Hid _ := gone_restart HGN.out K hK
      go_wp2_with fail
      refine Calls.mono KRS.out ?_
      rintro e z1 ⟨rfl, hlet, hbel, p1, d1, sd1, us1, R, hpb1, hlo1, hd1, hk1, hf1, hor⟩
      have HQ1 : Hid (RowC z1 qa qc R1) := HQ.out.let' hlet
      have HL1 : Hid (RowC z1 qa qc R1) := HL.out.let' hlet
      have HOR : Hid (R = R1 ∨ R = R1) := hor
      have HR12 : Hid (R.length ≤ 12) := hk1.rows.2.2
      have ko := kg_open (w := w) p1 d1 50 sd1 us1 R hd1 hk1 hf1 (by omega) hlo1 hbel
      rw [hpb1] at ko
      have KO : Hid _ := ko
      have HPB1 : Hid (p1.B = B) := hpb1
      clear ko hlet hbel hpb1 hlo1 hd1 hk1 hf1 hor KRS HGN HQ HL
      go_wp2_with fail
      refine Calls.mono KO.out ?_
      rintro e z2 ⟨hb2, bx, sx, gx, rfl, hgx, hrx⟩
      have HQ2 : Hid (RowC z2 qa qc R1) := HQ1.out.below hb2
      have HL2 : Hid (RowC z2 qa qc R1) := HL1.out.below hb2
      have kr := smg_rows hgx
      rw [hrx] at kr
      have KR : Hid _ := kr
      have HRX : Hid (sx.rows = R) := hrx
      clear kr hb2 hgx hrx KO HQ1 HL1
      go_wp2_with fail
      refine Calls.mono KR.out ?_
      rintro e z3 ⟨ga, gc, rfl, hg3, hb3, hgx⟩
      have HG3 : Hid (SmG w z3 50 bx sx gx p1 d1) := hgx
      have HGR : Hid (RowC z3 ga gc R) := hg3
      have HL3 : Hid (RowC z3 qa qc R1) := HL2.out.below hb3
      have KS1 : Hid _ := same_rows hg3 (HQ2.out.below hb3) (Nat.le_trans HR12.out (by decide)) HN1.out
      clear hg3 hb3 hgx KR HQ2 HL2
      by_cases hq : R = R1
      · have ks := KS1.out
        rw [(sameCL_iff R R1).2 hq] at ks
        have KS : Hid _ := ks
        clear ks KS1 hq
        go_wp2_with fail
        refine Calls.mono KS.out ?_
        rintro e z4 ⟨rfl, hb4⟩
        have HG4 : Hid (SmG w z4 50 bx sx gx p1 d1) := HG3.out.go hb4
        have HGOT : Hid (RowC z4 ga gc R) := HGR.out.below hb4
        clear hb4 KS HG3 HGR HL3
        have KC1 : Hid _ := smg_commit HG4.out (by omega) (by omega)
        go_wp2_with fail
        refine Calls.mono KC1.out ?_
        rintro e z5 ⟨rfl, hlet, s5, g5, p5, d5, hb5, hg5, hr5⟩
        have HGO5 : Hid (RowC z5 ga gc R) := HGOT.out.let' hlet
        have HG5 : Hid (SmG w z5 50 bx s5 g5 p5 d5) := hg5
        have HX5 : Hid (p5.B = B ∧ s5.rows = R) := ⟨hb5.trans HPB1.out, hr5.trans HRX.out⟩
        clear hlet hb5 hg5 hr5 KC1 HG4 HGOT
        have KC2 : Hid _ := smg_save HG5.out (by omega) (by omega)
        go_wp2_with fail
        refine Calls.mono KC2.out ?_
        rintro e z6 ⟨rfl, hlet, s6, g6, p6, d6, hb6, hg6, hr6⟩
        have HGO6 : Hid (RowC z6 ga gc R) := HGO5.out.let' hlet
        have hpb6 : p6.B = B := hb6.trans HX5.out.1
        have hr6' : s6.rows = R := hr6.trans HX5.out.2
        have ko6 := kg_open (w := w) p6 d6 50 s6.side g6.used s6.rows hg6.disk hg6.kept hg6.free (by omega) hg6.lo hg6.below
        rw [hpb6, hr6'] at ko6
        have KO6 : Hid _ := ko6
        clear ko6 hlet hb6 hg6 hr6 hr6' hpb6 KC2 HG5 HX5 HGO5
        go_wp2_with fail
        refine Calls.mono KO6.out ?_
        rintro e z7 ⟨hb7, by', s7, g7, rfl, hg7, hr7⟩
        have HGO7 : Hid (RowC z7 ga gc R) := HGO6.out.below hb7
        have kr7 := smg_rows hg7
        rw [hr7] at kr7
        have KR7 : Hid _ := kr7
        clear kr7 hb7 hg7 hr7 KO6 HGO6
        go_wp2_with fail
        refine Calls.mono KR7.out ?_
        rintro e z8 ⟨ya, yc, rfl, hy8, hb8, hg8⟩
        have ks8 := same_rows hy8 (HGO7.out.below hb8) (Nat.le_trans HR12.out (by decide)) (Nat.le_trans HR12.out (by decide))
        rw [sameCL_self] at ks8
        have KS8 : Hid _ := ks8
        have HB8 : Hid (Below w.heap.size w z8) := hg8.below
        clear hy8 hb8 hg8 ks8 KR7 HGO7
        go_wp2_with fail
        refine Calls.mono KS8.out ?_
        rintro e z9 ⟨rfl, hb9⟩
        have HB9 : Hid (Below w.heap.size w z9) := HB8.out.trans (hb9.mono HB8.out.size)
        clear hb9 KS8 HB8
        go_wp2
        go_ret
        exact ⟨rfl, HB9.out⟩
      · have hsf : sameCL R R1 = false := by
          cases hb : sameCL R R1
          · rfl
          · exact absurd ((sameCL_iff R R1).1 hb) hq
        have hq2 : R = R1 := by rcases HOR.out with h | h; exact absurd h hq; exact h
        have ks := KS1.out
        rw [hsf] at ks
        have KS : Hid _ := ks
        have HQ22 : Hid (R = R1) := hq2
        clear ks KS1 hq hsf hq2
        go_wp2_with fail
        refine Calls.mono KS.out ?_
        rintro e z3b ⟨rfl, hb3b⟩
        have HG3b : Hid (SmG w z3b 50 bx sx gx p1 d1) := HG3.out.go hb3b
        have HGRb : Hid (RowC z3b ga gc R) := HGR.out.below hb3b
        have ks2 := same_rows HGRb.out (HL3.out.below hb3b) (Nat.le_trans HR12.out (by decide)) HN2.out
        rw [(sameCL_iff R R1).2 HQ22.out] at ks2
        have KS2 : Hid _ := ks2
        clear ks2 hb3b KS HG3 HGR HL3
        go_wp2_with fail
        refine Calls.mono KS2.out ?_
        rintro e z4 ⟨rfl, hb4⟩
        have HG4 : Hid (SmG w z4 50 bx sx gx p1 d1) := HG3b.out.go hb4
        have HGOT : Hid (RowC z4 ga gc R) := HGRb.out.below hb4
        clear hb4 KS2 HG3b HGRb
        have KC1 : Hid _ := smg_commit HG4.out (by omega) (by omega)
        go_wp2_with fail
        refine Calls.mono KC1.out ?_
        rintro e z5 ⟨rfl, hlet, s5, g5, p5, d5, hb5, hg5, hr5⟩
        have HGO5 : Hid (RowC z5 ga gc R) := HGOT.out.let' hlet
        have HG5 : Hid (SmG w z5 50 bx s5 g5 p5 d5) := hg5
        have HX5 : Hid (p5.B = B ∧ s5.rows = R) := ⟨hb5.trans HPB1.out, hr5.trans HRX.out⟩
        clear hlet hb5 hg5 hr5 KC1 HG4 HGOT
        have KC2 : Hid _ := smg_save HG5.out (by omega) (by omega)
        go_wp2_with fail
        refine Calls.mono KC2.out ?_
        rintro e z6 ⟨rfl, hlet, s6, g6, p6, d6, hb6, hg6, hr6⟩
        have HGO6 : Hid (RowC z6 ga gc R) := HGO5.out.let' hlet
        have hpb6 : p6.B = B := hb6.trans HX5.out.1
        have hr6' : s6.rows = R := hr6.trans HX5.out.2
        have ko6 := kg_open (w := w) p6 d6 50 s6.side g6.used s6.rows hg6.disk hg6.kept hg6.free (by omega) hg6.lo hg6.below
        rw [hpb6, hr6'] at ko6
        have KO6 : Hid _ := ko6
        clear ko6 hlet hb6 hg6 hr6 hr6' hpb6 KC2 HG5 HX5 HGO5
        go_wp2_with fail
        refine Calls.mono KO6.out ?_
        rintro e z7 ⟨hb7, by', s7, g7, rfl, hg7, hr7⟩
        have HGO7 : Hid (RowC z7 ga gc R) := HGO6.out.below hb7
        have kr7 := smg_rows hg7
        rw [hr7] at kr7
        have KR7 : Hid _ := kr7
        clear kr7 hb7 hg7 hr7 KO6 HGO6
        go_wp2_with fail
        refine Calls.mono KR7.out ?_
        rintro e z8 ⟨ya, yc, rfl, hy8, hb8, hg8⟩
        have ks8 := same_rows hy8 (HGO7.out.below hb8) (Nat.le_trans HR12.out (by decide)) (Nat.le_trans HR12.out (by decide))
        rw [sameCL_self] at ks8
        have KS8 : Hid _ := ks8
        have HB8 : Hid (Below w.heap.size w z8) := hg8.below
        clear hy8 hb8 hg8 ks8 KR7 HGO7
        go_wp2_with fail
        refine Calls.mono KS8.out ?_
        rintro e z9 ⟨rfl, hb9⟩
        have HB9 : Hid (Below w.heap.size w z9) := HB8.out.trans (hb9.mono HB8.out.size)
        clear hb9 KS8 HB8
        go_wp2
        go_ret
        exact ⟨rfl, HB9.out⟩
end Go.Proofs.Ytihnghnafpgdfac
