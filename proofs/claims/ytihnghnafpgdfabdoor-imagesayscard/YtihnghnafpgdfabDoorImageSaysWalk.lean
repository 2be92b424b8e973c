/-
  ImageSays: THE WALK: it returns true, and writes nothing that was there.
-/
import Derived.Test.YtihnghnafpgdfabDoorTopRowsWalk
import Derived.Test.YtihnghnafpgdfabDoorImageQuiltOf
import Derived.Test.YtihnghnafpgdfabDoorImageRowsOf
import Derived.Test.YtihnghnafpgdfabDoorImageChangesB
import Derived.Deep.DeepCutAuto
namespace Go.Proofs.YtihnghnafpgdfabDoor
open Go Go.RowKit Go.BigFrame
set_option linter.unusedVariables false
set_option linter.unusedSimpArgs false

open Classical in
/-- What rows are read as: both answers. -/
noncomputable def imgR (rows : List Ch) : List Fi × Int × Int := if h : ∃ p : List Fi × Int, Img rows p.1 p.2 then (h.choose.1, h.choose.2, 0) else ([], 0, 4)
theorem imgR_img {rows : List Ch} {l : List Fi} {t : Int} (h : Img rows l t) : imgR rows = (l, t, 0) := by
  have hx : ∃ p : List Fi × Int, Img rows p.1 p.2 := ⟨(l, t), h⟩
  unfold imgR
  rw [dif_pos hx]
  obtain ⟨e1, e2⟩ := hx.choose_spec.inj h
  rw [e1, e2]
theorem imgR_no {rows : List Ch} (h : NoImg rows) : imgR rows = ([], 0, 4) := by
  unfold imgR
  rw [dif_neg (fun ⟨p, hp⟩ => h p.1 p.2 hp)]
theorem imgR_small (rows : List Ch) (h1 : rows.length ≤ 50) : (imgR rows).1.length ≤ 50 ∧ 0 ≤ (imgR rows).2.2 ∧ (imgR rows).2.2 ≤ 100 := by
  by_cases hx : ∃ p : List Fi × Int, Img rows p.1 p.2
  · obtain ⟨p, hp⟩ := hx
    have := hp.length
    rw [imgR_img hp]
    exact ⟨by simp only; omega, by simp, by simp⟩
  · rw [imgR_no (fun l t h => hx ⟨(l, t), h⟩)]
    exact ⟨by simp, by decide, by decide⟩
theorem parse_fn (pa : Option Addr) (ca : Nat) (rows : List Ch) (w : World) (h1 : rows.length ≤ 50) (hz : ∀ c ∈ rows, c.key.size ≤ 100 ∧ c.val.size ≤ 100) (hc : CC w pa rows) (hv : Vars w) :
    Calls Tryd.prog 13 #[.slice pa rows.length ca] w fun e w' => ∃ va vc, e = .returned (.tuple #[.agg #[.slice va (imgR rows).1.length vc, .int .i64 (imgR rows).2.1], errV (imgR rows).2.2]) ∧ Cells w' va (imgR rows).1 ∧ Below w.heap.size w w' := by
  refine (parse_any pa ca rows w h1 hz hc hv).mono ?_
  rintro e w' (⟨fs, t, va, vc, him, rfl, hcl, hb⟩ | ⟨hno, rfl, hb⟩)
  · rw [imgR_img him]
    exact ⟨va, vc, by rw [errV_zero rfl], hcl, hb⟩
  · rw [imgR_no hno]
    exact ⟨none, 0, rfl, Cells.nil _ _, hb⟩
theorem quiltOf_fn (pa : Option Addr) (ca : Nat) (rows : List Ch) (w : World) (h1 : rows.length ≤ 50) (hz : ∀ c ∈ rows, c.key.size ≤ 100 ∧ c.val.size ≤ 100) (hc : CC w pa rows) :
    Calls Tryd.prog 14 #[.slice pa rows.length ca] w fun e w' => ∃ va vc, e = .returned (.tuple #[.agg #[.slice va (imgR rows).1.length vc, .int .i64 (imgR rows).2.1], .int .i64 (imgR rows).2.2]) ∧ Cells w' va (imgR rows).1 ∧ Below w.heap.size w w' := by
  refine (quiltOf_any pa ca rows w (by omega) hz hc).mono ?_
  rintro e w' (⟨fs, t, va, vc, him, rfl, hcl, hb⟩ | ⟨hno, rfl, hb⟩)
  · rw [imgR_img him]
    exact ⟨va, vc, rfl, hcl, hb⟩
  · rw [imgR_no hno]
    exact ⟨none, 0, rfl, Cells.nil _ _, hb⟩
theorem chg_length : ∀ a b : List Ch, (chg a b).length ≤ a.length + b.length
  | [], [] => by rw [chg]; exact Nat.le_refl _
  | x :: a, [] => by rw [chg]; have := chg_length a []; simp at this ⊢; omega
  | [], y :: b => by rw [chg]; have := chg_length [] b; simp at this ⊢; omega
  | x :: a, y :: b => by
    rw [chg]
    split
    · have := chg_length a (y :: b); simp at this ⊢; omega
    · split
      · have := chg_length (x :: a) b; simp at this ⊢; omega
      · have := chg_length a b
        rw [List.length_append]
        split <;> simp <;> omega
termination_by a b => a.length + b.length
theorem ccLit (w : World) (c : Ch) : CC (w.alloc (.cells #[.string c.key, .string c.val, .bool c.gone] 41)) (some ⟨w.heap.size, 0, none⟩) [c] := by
  intro i hi
  have e : i = 0 := by simp at hi; omega
  subst e
  exact ⟨w.heap.size, 0, rfl, by simp, by simp, by simp⟩
theorem trow_one : trow 1 = ⟨⟨#[116, 117, 114, 110]⟩, ⟨#[48, 48, 48, 49]⟩, false⟩ := by
  have h : toldL 1 = [48, 48, 48, 49] := by
    have := toldL_t4 (n := 1) (by decide)
    rw [show ((1 : Nat) : Int) = 1 from rfl] at this
    rw [this]
    rfl
  unfold trow
  rw [h]
  rfl
set_option maxRecDepth 100000 in
set_option maxHeartbeats 2000000 in
theorem images_any (w : World) (hv : Vars w) : Calls Tryd.prog 6 #[] w fun e w' => e = .returned (.bool true) ∧ Below w.heap.size w w' := by
  have HV : Hid (Vars w) := hv
  clear hv
  go_enter Tryd.func6, Tryd.ntmps6
  go_wp2_with fail
  refine (new_any w).mono ?_
  rintro e w2 ⟨rfl, hb⟩
  have HB2 : Hid (Below w.heap.size w w2) := hb
  have KR0 : Hid _ := imageRows_any none 0 [] 1 w2 newQ_good (Cells.nil _ _) (HV.out.below HB2.out)
  clear hb
  go_wp2_with fail
  refine Calls.mono KR0.out ?_
  rintro e w3 ⟨pr, cr, rfl, hcc, _, _, hb⟩
  have HB3 : Hid (Below w.heap.size w w3) := HB2.out.trans (hb.mono HB2.out.size)
  have HCC : Hid (CC w3 pr (rowsL [] 1)) := hcc
  have KP0 : Hid _ := parse_rows pr cr [] 1 w3 newQ_good hcc (HV.out.below HB3.out)
  clear hb HB2 hcc KR0
  go_wp2_with fail
  refine Calls.mono KP0.out ?_
  rintro e w4 ⟨va, vc, rfl, _, hb⟩
  have HB4 : Hid (Below w.heap.size w w4) := HB3.out.trans (hb.mono HB3.out.size)
  have HC4 : Hid (CC w4 pr (rowsL [] 1)) := HCC.out.below hb
  clear hb HB3 KP0 HCC
  obtain ⟨W5, hW⟩ : ∃ x, x = w4.alloc (.cells #[.slice va 0 vc, .int .i64 1] 24) := ⟨_, rfl⟩
  have HB5 : Hid (Below w.heap.size w W5) := by rw [hW]; exact HB4.out.alloc HB4.out.size _
  have HX5 : Hid (QBox W5 w4.heap.size (.slice va 0 vc) 1) := by rw [hW]; exact QBox.new w4 _ 1 _
  have HC5 : Hid (CC W5 pr (rowsL [] 1)) := by rw [hW]; exact HC4.out.alloc _
  have KY := same_yes 0 W5 (by decide) (by decide)
  rw [errV_zero rfl] at KY
  have KYH : Hid _ := KY
  have HROW : Hid (rowsL [] 1 = [⟨⟨#[116, 117, 114, 110]⟩, ⟨#[48, 48, 48, 49]⟩, false⟩]) := by show [] ++ [trow 1] = _; rw [trow_one]; rfl
  have KS := sameChanges_any pr (some ⟨W5.heap.size, 0, none⟩) cr 1 (rowsL [] 1) [⟨⟨#[116, 117, 114, 110]⟩, ⟨#[48, 48, 48, 49]⟩, false⟩] (W5.alloc (.cells #[.string ⟨#[116, 117, 114, 110]⟩, .string ⟨#[48, 48, 48, 49]⟩, .bool false] 41)) (by rw [HROW.out]; decide) (by decide) (HC5.out.alloc _) (ccLit W5 ⟨⟨#[116, 117, 114, 110]⟩, ⟨#[48, 48, 48, 49]⟩, false⟩)
  rw [(sameCL_iff _ _).2 HROW.out] at KS
  have KSH : Hid _ := KS
  clear KY KS
  generalize rowsL [] 1 = R at *
  obtain ⟨x0, x1, _, _, xl, _⟩ := HX5.out
  go_wp2_with fail
  rw [← hW]
  clear hW HB4 HC4
  refine Calls.mono KYH.out ?_
  rintro e w6 ⟨rfl, hw⟩
  rw [hw]
  clear hw w6 KYH
  go_wp2_with fail
  refine Calls.mono KSH.out ?_
  rintro e w6 ⟨rfl, n6, hw⟩
  have HB6 : Hid (Below w.heap.size w w6) := by rw [hw]; exact below_drewN (HB5.out.alloc HB5.out.size _) _
  clear hw KSH
  go_wp2
  go_ret
  exact ⟨rfl, HB6.out⟩

set_option maxRecDepth 100000 in
set_option maxHeartbeats 8000000 in
theorem imageSays_any (a : Option Addr) (cap : Nat) (l : List Fi) (t : Int) (pr : Option Addr) (cr : Nat) (R : List Ch) (po : Option Addr) (co : Nat) (O : List Ch) (w : World)
    (hz : Sized l) (hs : Slice w a cap l) (hmr : R.length ≤ maxLen) (hcr : ChCells w pr R) (hlr : R.length ≤ cr) (hmo : O.length ≤ maxLen) (hco : ChCells w po O) (hlo : O.length ≤ co) (hv : Vars w) :
    Calls Tryd.prog 3 #[.agg #[.slice a l.length cap, .int .i64 t], .slice pr R.length cr, .slice po O.length co] w fun e w' => e = .returned (.bool true) ∧ Below w.heap.size w w' := by
  have HC : Hid (Cells w a l) := hs.cells
  have HZ : Hid (Sized l) := hz
  have HV : Hid (Vars w) := hv
  have HM : Hid (l.length ≤ maxLen) := Nat.le_trans hs.room hs.most
  have HCR : Hid (ChCells w pr R) := hcr
  have HCO : Hid (ChCells w po O) := hco
  have HMR : Hid (R.length ≤ maxLen) := hmr
  have HMO : Hid (O.length ≤ maxLen) := hmo
  clear hs hz hv hcr hco hmr hmo
  go_enter Tryd.func3, Tryd.ntmps3
  go_wp2_with fail
  obtain ⟨W1, hW⟩ : ∃ x, x = w.alloc (.cells #[.slice a l.length cap, .int .i64 t] 24) := ⟨_, rfl⟩
  have HB1 : Hid (Below w.heap.size w W1) := by rw [hW]; exact (Below.refl _ _).alloc (Nat.le_refl _) _
  have HQ1 : Hid (QBox W1 w.heap.size (.slice a l.length cap) t) := by rw [hW]; exact QBox.new w _ t _
  rw [← hW]
  clear hW
  refine (images_any W1 (HV.out.below HB1.out)).mono ?_
  rintro e w2 ⟨rfl, hb⟩
  have HB2 : Hid (Below w.heap.size w w2) := HB1.out.trans (hb.mono HB1.out.size)
  have HQ2 : Hid (QBox w2 w.heap.size (.slice a l.length cap) t) := HQ1.out.below hb HQ1.out.lt
  have KL : Hid _ := lightQuilt_any a cap l t w2 HM.out HZ.out (HC.out.below HB2.out)
  obtain ⟨q0, q1, _, _, ql, _⟩ := HQ2.out
  clear hb HB1 HQ1
  go_wp2_with fail
  refine Calls.mono KL.out ?_
  rintro e w3 ⟨rfl, hb⟩
  have HB3 : Hid (Below w.heap.size w w3) := HB2.out.trans (hb.mono HB2.out.size)
  have HQ3 : Hid (QBox w3 w.heap.size (.slice a l.length cap) t) := HQ2.out.below hb HQ2.out.lt
  clear hb HB2 HQ2 KL q0 q1 ql
  cases hla : lightF l
  · go_wp2
    go_ret
    exact ⟨rfl, HB3.out⟩
  obtain ⟨hla1, _⟩ := lightF_spec hla
  clear hla
  go_wp2_with fail
  refine (lightChanges_any pr cr R 20 _ HMR.out (HCR.out.below HB3.out)).mono ?_
  rintro e w4 ⟨⟨lb, rfl, hlb⟩, hw⟩
  rw [hw]
  clear hw w4
  cases lb
  · clear hlb
    go_wp2
    go_ret
    exact ⟨rfl, HB3.out⟩
  have HLR : Hid (LightC R 20) := hlb rfl
  clear hlb
  go_wp2_with fail
  refine (lightChanges_any po co O 20 _ HMO.out (HCO.out.below HB3.out)).mono ?_
  rintro e w4 ⟨⟨lb, rfl, hlb⟩, hw⟩
  rw [hw]
  clear hw w4
  cases lb
  · clear hlb
    go_wp2
    go_ret
    exact ⟨rfl, HB3.out⟩
  have HLO : Hid (LightC O 20) := hlb rfl
  clear hlb
  have keepH : Hid (∀ W, Below w3.heap.size w3 W → W.cell? ⟨w.heap.size, 0, none⟩ = some (.slice a l.length cap) ∧ W.cell? ⟨w.heap.size, 1, none⟩ = some (.int .i64 t)) := fun W h => by
    have h1 := HQ3.out.below h HQ3.out.lt
    exact ⟨h1.c0, h1.c1⟩
  have HEND : Hid (∀ W, Below w3.heap.size w3 W → Below w.heap.size w W) := fun W h => HB3.out.trans (h.mono HB3.out.size)
  go_wp2_with fail
  go_cut [42] (fun c wx => c = .bool false ∧ Below w3.heap.size w3 wx)
  case first =>
    by_cases hq : quiltF l t = 0
    · have HG : Hid (GoodQ l t) := goodQ_of hq
      have KQF : Hid (∀ W, Below w3.heap.size w3 W → Calls Tryd.prog 9 #[.agg #[.slice a l.length cap, .int .i64 t]] W fun e w' => e = .returned (.int .i64 0) ∧ Below W.heap.size W w') := fun W h => by
        have := quiltFault_any a cap l t W HM.out HZ.out ((HC.out.below HB3.out).below h)
        rw [hq] at this
        exact this
      have KRO : Hid (∀ W, Below w3.heap.size w3 W → Calls Tryd.prog 11 #[.agg #[.slice a l.length cap, .int .i64 t]] W (RowsOut W (rowsL l t))) := fun W h => imageRows_any a cap l t W HG.out ((HC.out.below HB3.out).below h) (HV.out.below (HEND.out W h))
      have KRF : Hid (∀ W, Below w3.heap.size w3 W → Calls Tryd.prog 12 #[.agg #[.slice a l.length cap, .int .i64 t]] W fun e w' => ∃ v, e = .returned v ∧ OwnsC w' W.heap.size v (rowsL l t) ∧ Below W.heap.size W w') := fun W h => rowsOf_any a cap l t W HG.out ((HC.out.below HB3.out).below h)
      have hR9 : (rowsL l t).length ≤ 1000 := by rw [rowsL_length]; omega
      clear hq
      generalize rowsL l t = L at *
      go_region_held3 (fun W => W.cell? ⟨w.heap.size, 0, none⟩ = some (.slice a l.length cap) ∧ W.cell? ⟨w.heap.size, 1, none⟩ = some (.int .i64 t))
        (first | exact keepH.out _ (Below.drew (Below.refl _ _)) | exact keepH.out _ HBd.out | exact keepH.out _ HBc.out | exact keepH.out _ HBb.out | exact keepH.out _ HBa.out)
        (first
          | (go_at_call 9
             refine Calls.mono (KQF.out _ (by repeat (first | exact Below.refl _ _ | refine Below.drew ?_ | refine below_drewN ?_ _))) ?_
             rintro e wa ⟨rfl, hb⟩
             have HBa : Hid (Below w3.heap.size w3 wa) := ⟨hb.os, hb.tape, hb.output, hb.size, hb.block⟩
             clear hb)
          | (go_at_call 11
             refine Calls.mono (KRO.out _ HBa.out) ?_
             rintro e wb ⟨p1, c1, rfl, hcc1, _, _, hb⟩
             have HBb : Hid (Below w3.heap.size w3 wb) := HBa.out.trans (hb.mono HBa.out.size)
             have HCb : Hid (CC wb p1 L) := hcc1
             clear hb hcc1)
          | (go_at_call 12
             refine Calls.mono (KRF.out _ HBb.out) ?_
             rintro e wc ⟨v2, rfl, ho, hb⟩
             obtain ⟨p2, c2, rfl, hcc2, _⟩ := OwnsC.files ho
             have HBc : Hid (Below w3.heap.size w3 wc) := HBb.out.trans (hb.mono HBb.out.size)
             have HCc : Hid (CC wc p1 L) := HCb.out.below hb
             have HCc2 : Hid (CC wc p2 L) := hcc2
             clear hb hcc2 ho)
          | (go_at_call 10
             refine (sameChanges_any p1 p2 c1 c2 L L _ hR9 hR9 HCc.out HCc2.out).mono ?_
             rintro e wd ⟨rfl, nd, hwd⟩
             rw [sameCL_self]
             have HBd : Hid (Below w3.heap.size w3 wd) := by rw [hwd]; exact below_drewN HBc.out _
             clear hwd))
      all_goals (try go_wp2_with fail)
      all_goals go_meet
      all_goals exact ⟨rfl, HBd.out⟩
    · have hq1 : (quiltF l t == 0) = false := by rw [beq_eq_false_iff_ne]; exact hq
      have hlow := quiltF_low l t
      have KQF : Hid (∀ p : Later w3, Calls Tryd.prog 9 #[.agg #[.slice a l.length cap, .int .i64 t]] p.W fun e w' => e = .returned (.int .i64 (quiltF l t)) ∧ Below p.W.heap.size p.W w') := fun p => quiltFault_any a cap l t p.W HM.out HZ.out ((HC.out.below HB3.out).below p.h)
      generalize quiltF l t = F at *
      clear hq
      obtain ⟨q0, q1⟩ := keepH.out w3 (Below.refl _ _)
      have some' := Later.ne w3
      have p0 := Later.cell q0
      have p1 := Later.cell q1
      clear q0 q1
      refine wp_region_later (by kernel_rfl) (by kernel_rfl) ?_
      repeat (go_big_quiet_step ((go_at_call 9; exact later_of _ (KQF.out _))))
      refine wpQuiet_nil ?_
      rintro _ ⟨p, rfl⟩
      have HBp : Hid (Below w3.heap.size w3 p.W) := p.h
      go_wp2_with fail
      go_meet
      exact ⟨rfl, HBp.out⟩
  case rest =>
    obtain ⟨rfl, hbc⟩ := hcut
    have HB5 : Hid (Below w.heap.size w wc) := HEND.out wc hbc
    clear hbc keepH HEND HB3 HQ3
    have KP : Hid _ := parse_fn pr cr R wc (by have := HLR.out.1; omega) (fun c hc => by have := HLR.out.2 c hc; omega) ((HCR.out.below HB5.out).cc) (HV.out.below HB5.out)
    have KQO : Hid (∀ W, Below w.heap.size w W → Calls Tryd.prog 14 #[.slice pr R.length cr] W fun e w' => ∃ va vc, e = .returned (.tuple #[.agg #[.slice va (imgR R).1.length vc, .int .i64 (imgR R).2.1], .int .i64 (imgR R).2.2]) ∧ Cells w' va (imgR R).1 ∧ Below W.heap.size W w') := fun W h => quiltOf_fn pr cr R W (by have := HLR.out.1; omega) (fun c hc => by have := HLR.out.2 c hc; omega) ((HCR.out.below h).cc)
    obtain ⟨hs1, hs2, hs3⟩ := imgR_small R (by have := HLR.out.1; omega)
    generalize (imgR R).1 = fs at *
    generalize (imgR R).2.1 = ft at *
    generalize (imgR R).2.2 = fn at *
    go_wp2_with fail
    refine Calls.mono KP.out ?_
    rintro e w6 ⟨va, vc, rfl, hcl, hb⟩
    have HB6 : Hid (Below w.heap.size w w6) := HB5.out.trans (hb.mono HB5.out.size)
    have HX6 : Hid (Cells w6 va fs) := hcl
    clear hb hcl KP HB5
    obtain ⟨W7, hW⟩ : ∃ x, x = w6.alloc (.cells #[.slice va fs.length vc, .int .i64 ft] 24) := ⟨_, rfl⟩
    have HB7 : Hid (Below w.heap.size w W7) := by rw [hW]; exact HB6.out.alloc HB6.out.size _
    have HX7 : Hid (QBox W7 w6.heap.size (.slice va fs.length vc) ft) := by rw [hW]; exact QBox.new w6 _ ft _
    have HF7 : Hid (Cells W7 va fs) := by rw [hW]; exact HX6.out.alloc _
    have KQ7 : Hid _ := KQO.out W7 HB7.out
    clear HB6 HX6 KQO
    go_wp2_with fail
    rw [← hW]
    clear hW
    refine Calls.mono KQ7.out ?_
    rintro e w8 ⟨vb, vd, rfl, hcl, hb⟩
    have HB8 : Hid (Below w.heap.size w w8) := HB7.out.trans (hb.mono HB7.out.size)
    have HX8 : Hid (QBox w8 w6.heap.size (.slice va fs.length vc) ft) := HX7.out.below hb HX7.out.lt
    have HF8 : Hid (Cells w8 va fs) := HF7.out.below hb
    have HG8 : Hid (Cells w8 vb fs) := hcl
    clear hb hcl KQ7 HB7 HX7 HF7
    go_wp2_with fail
    obtain ⟨W9, hW⟩ : ∃ x, x = w8.alloc (.cells #[.slice vb fs.length vd, .int .i64 ft] 24) := ⟨_, rfl⟩
    have HB9 : Hid (Below w.heap.size w W9) := by rw [hW]; exact HB8.out.alloc HB8.out.size _
    have HX9 : Hid (QBox W9 w6.heap.size (.slice va fs.length vc) ft) := by rw [hW]; exact HX8.out.alloc _
    have HY9 : Hid (QBox W9 w8.heap.size (.slice vb fs.length vd) ft) := by rw [hW]; exact QBox.new w8 _ ft _
    have HF9 : Hid (Cells W9 va fs) := by rw [hW]; exact HF8.out.alloc _
    have HG9 : Hid (Cells W9 vb fs) := by rw [hW]; exact HG8.out.alloc _
    rw [← hW]
    clear hW HB8 HX8 HF8 HG8
    have KY : Hid _ := same_yes fn W9 hs2 hs3
    have ksq := sameQuilt_any va vb vc vd fs fs ft ft W9 (by omega) (by omega) HF9.out HG9.out
    rw [show (sameL fs fs && (ft == ft)) = true by rw [(sameL_iff _ _).2 rfl]; simp] at ksq
    have KSQ : Hid _ := ksq
    obtain ⟨x0, x1, _, _, xl, _⟩ := HX9.out
    obtain ⟨y0, y1, _, _, yl, _⟩ := HY9.out
    clear ksq hs1 hs2 hs3
    refine Calls.mono KY.out ?_
    rintro e wy ⟨rfl, hw⟩
    rw [hw]
    clear hw wy KY
    go_wp2_with fail
    refine Calls.mono KSQ.out ?_
    rintro e WA ⟨rfl, hb⟩
    have HBA : Hid (Below w.heap.size w WA) := HB9.out.trans (hb.mono HB9.out.size)
    clear hb KSQ HX9 HY9 HF9 HG9 HB9 x0 x1 y0 y1 xl yl
    go_wp2_with fail
    go_loopg [12] (R.length + O.length + 1) (fun kx vi wr => ∃ i : Nat, vi = .int .i64 i ∧ 1 ≤ i ∧ R.length + O.length + 1 - i ≤ kx ∧ Hid (Below w.heap.size w wr))
    case atStart => exact ⟨1, rfl, by omega, by omega, HBA⟩
    case round =>
      obtain ⟨i, rfl, hi1, hkx, HW⟩ := hrel
      have hR20 : R.length ≤ 20 := by have := HLR.out.1; omega
      have hO20 : O.length ≤ 20 := by have := HLO.out.1; omega
      have some' := Later.ne wr
      obtain ⟨j, HJ⟩ : ∃ j, Hid (i = j + 1) := ⟨i - 1, show i = i - 1 + 1 by omega⟩
      have hji : j < i := by have := HJ.out; omega
      have hj1 : ((i : Int) - 1) = (j : Int) := by have := HJ.out; omega
      by_cases hltR : i < R.length
      · by_cases hltO : i < O.length
        · have hzR : (i : Int) < (R.length : Int) := by omega
          have hdR : decide ((i : Int) < (R.length : Int)) = true := decide_eq_true (by omega)
          have hjR : (j : Int) < (R.length : Int) := by omega
          obtain ⟨bR, offR, eR, cR0, cR1, cR2⟩ := ((HCR.out.below HW.out).cc) i hltR
          cases eR
          obtain ⟨_, _, e, dR0, dR1, dR2⟩ := ((HCR.out.below HW.out).cc) j (by omega)
          cases e
          have lRa := Later.cell cR0
          have lRb := Later.cell dR0
          clear cR0 cR1 cR2 dR0 dR1 dR2
          have hzO : (i : Int) < (O.length : Int) := by omega
          have hdO : decide ((i : Int) < (O.length : Int)) = true := decide_eq_true (by omega)
          have hjO : (j : Int) < (O.length : Int) := by omega
          obtain ⟨bO, offO, eO, cO0, cO1, cO2⟩ := ((HCO.out.below HW.out).cc) i hltO
          cases eO
          obtain ⟨_, _, e, dO0, dO1, dO2⟩ := ((HCO.out.below HW.out).cc) j (by omega)
          cases e
          have lOa := Later.cell cO0
          have lOb := Later.cell dO0
          clear cO0 cO1 cO2 dO0 dO1 dO2
          have hqR := leqB R[i].key (R[j]'(by omega)).key
          cases hlbR : ltB (R[j]'(by omega)).key R[i].key
          · rw [hlbR] at hqR
            simp only [Bool.not_false] at hqR
            clear hlbR
            go_wp2_with fail
            refine wp_region_later (by kernel_rfl) (by kernel_rfl) ?_
            repeat (go_big_quiet_step (fail))
            refine wpQuiet_nil ?_
            rintro _ ⟨p, rfl⟩
            have HBp : Hid (Below w.heap.size w p.W) := HW.out.trans (p.h.mono HW.out.size)
            go_wp2
            go_ret
            exact ⟨rfl, HBp.out⟩
          · rw [hlbR] at hqR
            simp only [Bool.not_true] at hqR
            clear hlbR
            have hqO := leqB O[i].key (O[j]'(by omega)).key
            cases hlbO : ltB (O[j]'(by omega)).key O[i].key
            · rw [hlbO] at hqO
              simp only [Bool.not_false] at hqO
              clear hlbO
              go_wp2_with fail
              refine wp_region_later (by kernel_rfl) (by kernel_rfl) ?_
              repeat (go_big_quiet_step (fail))
              refine wpQuiet_nil ?_
              rintro _ ⟨p, rfl⟩
              have HBp : Hid (Below w.heap.size w p.W) := HW.out.trans (p.h.mono HW.out.size)
              go_wp2
              go_ret
              exact ⟨rfl, HBp.out⟩
            · rw [hlbO] at hqO
              simp only [Bool.not_true] at hqO
              clear hlbO
              go_wp2_with fail
              refine wp_region_later (by kernel_rfl) (by kernel_rfl) ?_
              repeat (go_big_quiet_step (fail))
              refine wpQuiet_nil ?_
              rintro _ ⟨p, rfl⟩
              have HBp : Hid (Below w.heap.size w p.W) := HW.out.trans (p.h.mono HW.out.size)
              go_wp2
              go_roundg (R.length + O.length + 1 - (i + 1))
              case measure => omega
              case rel => exact ⟨i + 1, by go_num, by omega, Nat.le_refl _, HBp⟩
        · have hzR : (i : Int) < (R.length : Int) := by omega
          have hdR : decide ((i : Int) < (R.length : Int)) = true := decide_eq_true (by omega)
          have hjR : (j : Int) < (R.length : Int) := by omega
          obtain ⟨bR, offR, eR, cR0, cR1, cR2⟩ := ((HCR.out.below HW.out).cc) i hltR
          cases eR
          obtain ⟨_, _, e, dR0, dR1, dR2⟩ := ((HCR.out.below HW.out).cc) j (by omega)
          cases e
          have lRa := Later.cell cR0
          have lRb := Later.cell dR0
          clear cR0 cR1 cR2 dR0 dR1 dR2
          have hzO : ¬ (i : Int) < (O.length : Int) := by omega
          have hdO : decide ((i : Int) < (O.length : Int)) = false := decide_eq_false (by omega)
          have hqR := leqB R[i].key (R[j]'(by omega)).key
          cases hlbR : ltB (R[j]'(by omega)).key R[i].key
          · rw [hlbR] at hqR
            simp only [Bool.not_false] at hqR
            clear hlbR
            go_wp2_with fail
            refine wp_region_later (by kernel_rfl) (by kernel_rfl) ?_
            repeat (go_big_quiet_step (fail))
            refine wpQuiet_nil ?_
            rintro _ ⟨p, rfl⟩
            have HBp : Hid (Below w.heap.size w p.W) := HW.out.trans (p.h.mono HW.out.size)
            go_wp2
            go_ret
            exact ⟨rfl, HBp.out⟩
          · rw [hlbR] at hqR
            simp only [Bool.not_true] at hqR
            clear hlbR
            go_wp2_with fail
            refine wp_region_later (by kernel_rfl) (by kernel_rfl) ?_
            repeat (go_big_quiet_step (fail))
            refine wpQuiet_nil ?_
            rintro _ ⟨p, rfl⟩
            have HBp : Hid (Below w.heap.size w p.W) := HW.out.trans (p.h.mono HW.out.size)
            go_wp2
            go_roundg (R.length + O.length + 1 - (i + 1))
            case measure => omega
            case rel => exact ⟨i + 1, by go_num, by omega, Nat.le_refl _, HBp⟩
      · by_cases hltO : i < O.length
        · have hzR : ¬ (i : Int) < (R.length : Int) := by omega
          have hdR : decide ((i : Int) < (R.length : Int)) = false := decide_eq_false (by omega)
          have hzO : (i : Int) < (O.length : Int) := by omega
          have hdO : decide ((i : Int) < (O.length : Int)) = true := decide_eq_true (by omega)
          have hjO : (j : Int) < (O.length : Int) := by omega
          obtain ⟨bO, offO, eO, cO0, cO1, cO2⟩ := ((HCO.out.below HW.out).cc) i hltO
          cases eO
          obtain ⟨_, _, e, dO0, dO1, dO2⟩ := ((HCO.out.below HW.out).cc) j (by omega)
          cases e
          have lOa := Later.cell cO0
          have lOb := Later.cell dO0
          clear cO0 cO1 cO2 dO0 dO1 dO2
          have hqO := leqB O[i].key (O[j]'(by omega)).key
          cases hlbO : ltB (O[j]'(by omega)).key O[i].key
          · rw [hlbO] at hqO
            simp only [Bool.not_false] at hqO
            clear hlbO
            go_wp2_with fail
            refine wp_region_later (by kernel_rfl) (by kernel_rfl) ?_
            repeat (go_big_quiet_step (fail))
            refine wpQuiet_nil ?_
            rintro _ ⟨p, rfl⟩
            have HBp : Hid (Below w.heap.size w p.W) := HW.out.trans (p.h.mono HW.out.size)
            go_wp2
            go_ret
            exact ⟨rfl, HBp.out⟩
          · rw [hlbO] at hqO
            simp only [Bool.not_true] at hqO
            clear hlbO
            go_wp2_with fail
            refine wp_region_later (by kernel_rfl) (by kernel_rfl) ?_
            repeat (go_big_quiet_step (fail))
            refine wpQuiet_nil ?_
            rintro _ ⟨p, rfl⟩
            have HBp : Hid (Below w.heap.size w p.W) := HW.out.trans (p.h.mono HW.out.size)
            go_wp2
            go_roundg (R.length + O.length + 1 - (i + 1))
            case measure => omega
            case rel => exact ⟨i + 1, by go_num, by omega, Nat.le_refl _, HBp⟩
        · have hzR : ¬ (i : Int) < (R.length : Int) := by omega
          have hzO : ¬ (i : Int) < (O.length : Int) := by omega
          have KCH : Hid (∀ W, Below w.heap.size w W → Calls Tryd.prog 17 #[.slice pr R.length cr, .slice po O.length co] W fun e w' => ∃ v, e = .returned v ∧ OwnsC w' W.heap.size v (chg R O) ∧ Below W.heap.size W w') := fun W h => changes_any pr po cr co R O W (by omega) (by omega) ((HCR.out.below h).cc) ((HCO.out.below h).cc) hlr hlo
          have KCO : Hid (∀ W, Below w.heap.size w W → Calls Tryd.prog 18 #[.slice pr R.length cr, .slice po O.length co] W fun e w' => ∃ v, e = .returned v ∧ OwnsC w' W.heap.size v (chg R O) ∧ Below W.heap.size W w') := fun W h => changesOf_any pr po cr co R O W (by omega) (by omega) ((HCR.out.below h).cc) ((HCO.out.below h).cc)
          have hch : (chg R O).length ≤ 1000 := Nat.le_trans (chg_length R O) (by omega)
          clear some' hlr hlo
          generalize chg R O = X at *
          go_wp2_with fail
          refine Calls.mono (KCH.out _ HW.out) ?_
          rintro e wb ⟨v1, rfl, ho1, hb⟩
          obtain ⟨p1, c1, rfl, hcc1, _⟩ := OwnsC.files ho1
          have HBb : Hid (Below w.heap.size w wb) := HW.out.trans (hb.mono HW.out.size)
          have HCb : Hid (CC wb p1 X) := hcc1
          clear hb hcc1 ho1 KCH
          go_wp2_with fail
          refine Calls.mono (KCO.out _ HBb.out) ?_
          rintro e wd ⟨v2, rfl, ho2, hb⟩
          obtain ⟨p2, c2, rfl, hcc2, _⟩ := OwnsC.files ho2
          have HBd : Hid (Below w.heap.size w wd) := HBb.out.trans (hb.mono HBb.out.size)
          have ksc := sameChanges_any p1 p2 c1 c2 X X wd hch hch (HCb.out.below hb) hcc2
          rw [sameCL_self] at ksc
          have KSC : Hid _ := ksc
          clear hb hcc2 ho2 KCO ksc
          go_wp2_with fail
          refine Calls.mono KSC.out ?_
          rintro e we ⟨rfl, ne, hwe⟩
          have HBe : Hid (Below w.heap.size w we) := by rw [hwe]; exact below_drewN HBd.out _
          clear hwe KSC
          go_wp2
          go_ret
          exact ⟨rfl, HBe.out⟩
end Go.Proofs.YtihnghnafpgdfabDoor
