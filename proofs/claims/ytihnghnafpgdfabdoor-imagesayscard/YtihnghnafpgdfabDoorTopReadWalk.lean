/-
  TopRead: THE WALK: it returns true, and writes nothing that was there.
-/
import Derived.Test.YtihnghnafpgdfabDoorImageFine
namespace Go.Proofs.YtihnghnafpgdfabDoor
open Go Go.RowKit Go.BigFrame
set_option linter.unusedVariables false
set_option linter.unusedSimpArgs false

theorem Good.sized {l : List Fi} (h : Good l) : Sized l := fun f hf => by
  obtain ⟨h1, h2, _, _⟩ := fault_zero (h.each f hf)
  have := name_size h1
  unfold maxLen
  exact ⟨by omega, by omega⟩
theorem noImg_nil : NoImg [] := fun l t h => by
  have := h.length
  simp at this
theorem parse_nil (w : World) (hv : Vars w) : Calls Tryd.prog 13 #[.slice none 0 0] w fun e w' => e = .returned (.tuple #[.agg #[.slice none 0 0, .int .i64 0], .iface 59 (.int .i64 4)]) ∧ Below w.heap.size w w' := by
  refine (parse_any none 0 [] w (by decide) (fun c h => absurd h (by simp)) (CC.nil _ _) hv).mono ?_
  rintro e w' (⟨fs, t, va, vc, h, _⟩ | ⟨_, rfl, hb⟩)
  · exact absurd h (noImg_nil fs t)
  · exact ⟨by rw [errV_pos (by decide)], hb⟩

set_option maxRecDepth 100000 in
set_option maxHeartbeats 8000000 in
theorem topRead_any (pa : Option Addr) (ca : Nat) (l : List Ch) (w : World) (hm : l.length ≤ maxLen) (hc : ChCells w pa l) (hv : Vars w) :
    Calls Tryd.prog 5 #[.slice pa l.length ca] w fun e w' => e = .returned (.bool true) ∧ Below w.heap.size w w' := by
  have HC : Hid (ChCells w pa l) := hc
  have HM : Hid (l.length ≤ maxLen) := hm
  have HV : Hid (Vars w) := hv
  have KP0 : Hid _ := parse_nil w hv
  clear hc hm hv
  go_enter Tryd.func5, Tryd.ntmps5
  go_wp2_with fail
  refine Calls.mono KP0.out ?_
  rintro e w1 ⟨rfl, hb⟩
  have HB1 : Hid (Below w.heap.size w w1) := hb
  clear hb KP0
  go_wp2_with fail
  refine Calls.mono (number_any 4 _ (by decide) (by decide)) ?_
  rintro e w2 ⟨rfl, hw⟩
  rw [hw]
  clear hw w2
  go_wp2_with fail
  obtain ⟨W2, hW⟩ : ∃ x, x = w1.alloc (.cells #[.slice none 0 0, .int .i64 0] 24) := ⟨_, rfl⟩
  have HB2 : Hid (Below w.heap.size w W2) := by rw [hW]; exact HB1.out.alloc HB1.out.size _
  have HQ2 : Hid (QBox W2 w1.heap.size (.slice none 0 0) 0) := by rw [hW]; exact QBox.new w1 _ 0 _
  have HLO : Hid (w.heap.size ≤ w1.heap.size) := HB1.out.size
  rw [← hW]
  clear hW HB1
  refine (lightChanges_any pa ca l 20 _ HM.out (HC.out.below HB2.out)).mono ?_
  rintro e w2 ⟨⟨lb, rfl, hlb⟩, hw⟩
  rw [hw]
  clear hw w2
  cases lb
  · clear hlb
    go_wp2
    go_ret
    exact ⟨rfl, HB2.out⟩
  have HLC : Hid (LightC l 20) := hlb rfl
  clear hlb
  have KP : Hid _ := parse_any pa ca l W2 (by have := HLC.out.1; omega) (fun c hc => by have := HLC.out.2 c hc; omega) ((HC.out.below HB2.out).cc) (HV.out.below HB2.out)
  go_wp2_with fail
  refine Calls.mono KP.out ?_
  rintro e w3 (⟨fs, t, va, vc, himg, rfl, hcl, hb⟩ | ⟨hno, rfl, hb⟩)
  · have HIMG : Hid (Img l fs t) := himg
    have HCL : Hid (Cells w3 va fs) := hcl
    have HB3 : Hid (Below w.heap.size w w3) := HB2.out.trans (hb.mono HB2.out.size)
    have HSZ : Hid (Sized fs) := himg.good.files.sized
    have hf8 : fs.length ≤ 8 := himg.good.files.few
    have HQF : Hid (quiltF fs t = 0) := quiltF_of himg.good
    clear hb himg hcl KP HQ2
    obtain ⟨W4, hW⟩ : ∃ x, x = w3.alloc (.cells #[.slice va fs.length vc, .int .i64 t] 24) := ⟨_, rfl⟩
    have HB4 : Hid (Below w.heap.size w W4) := by rw [hW]; exact HB3.out.alloc HB3.out.size _
    have HQ4 : Hid (QBox W4 w3.heap.size (.slice va fs.length vc) t) := by rw [hW]; exact QBox.new w3 _ t _
    have HC4 : Hid (Cells W4 va fs) := by rw [hW]; exact HCL.out.alloc _
    have KF := quiltCheck_any va vc fs t W4 (by unfold maxLen; omega) HSZ.out HC4.out
    rw [HQF.out, errV_zero rfl] at KF
    have KFH : Hid _ := KF
    clear KF HCL HB3
    go_wp2_with fail
    rw [← hW]
    clear hW
    refine Calls.mono KFH.out ?_
    rintro e w5 ⟨rfl, hb⟩
    have HB5 : Hid (Below w.heap.size w w5) := HB4.out.trans (hb.mono HB4.out.size)
    have HC5 : Hid (Cells w5 va fs) := HC4.out.below hb
    obtain ⟨y0, y1, _, _, yl, _⟩ := HQ4.out.below hb HQ4.out.lt
    have KR : Hid _ := imageRows_any va vc fs t w5 HIMG.out.good HC5.out (HV.out.below HB5.out)
    clear hb KFH
    go_wp2_with fail
    refine Calls.mono KR.out ?_
    rintro e w6 ⟨pr, cr, rfl, hcc, _, _, hb6⟩
    have HB6 : Hid (Below w.heap.size w w6) := HB5.out.trans (hb6.mono HB5.out.size)
    have KS := sameChanges_any pr pa cr ca (rowsL fs t) l w6 (by rw [rowsL_length]; omega) (by have := HLC.out.1; omega) hcc ((HC.out.below HB6.out).cc)
    rw [(sameCL_iff _ _).2 HIMG.out.rows.symm] at KS
    have KSH : Hid _ := KS
    clear KS hb6 KR y0 y1 hcc
    go_wp2_with fail
    refine Calls.mono KSH.out ?_
    rintro e w7 ⟨rfl, n7, hw7⟩
    have HB7 : Hid (Below w.heap.size w w7) := by rw [hw7]; exact below_drewN HB6.out _
    clear hw7 KSH
    go_wp2
    go_ret
    exact ⟨rfl, HB7.out⟩
  · rw [errV_pos (by decide)]
    have HB3 : Hid (Below w.heap.size w w3) := HB2.out.trans (hb.mono HB2.out.size)
    clear hb hno KP HQ2
    have HB4 : Hid (Below w.heap.size w (w3.alloc (.cells #[.slice none 0 0, .int .i64 0] 24))) := HB3.out.alloc HB3.out.size _
    have KS := fun W => sameQuilt_any none none 0 0 [] [] 0 0 W (by decide) (by decide) (Cells.nil _ _) (Cells.nil _ _)
    have e1 : (sameL [] [] && ((0 : Int) == 0)) = true := by rw [(sameL_iff _ _).2 rfl]; rfl
    rw [e1] at KS
    have KSH : Hid (∀ W, Calls Tryd.prog 16 #[.agg #[.slice none 0 0, .int .i64 0], .agg #[.slice none 0 0, .int .i64 0]] W fun e w' => e = .returned (.bool true) ∧ Below W.heap.size W w') := KS
    clear KS e1
    go_wp2_with fail
    refine Calls.mono (KSH.out _) ?_
    rintro e w5 ⟨rfl, hb⟩
    have HB5 : Hid (Below w.heap.size w w5) := HB4.out.trans (hb.mono HB4.out.size)
    clear hb KSH
    go_wp2
    go_ret
    exact ⟨rfl, HB5.out⟩
end Go.Proofs.YtihnghnafpgdfabDoor
