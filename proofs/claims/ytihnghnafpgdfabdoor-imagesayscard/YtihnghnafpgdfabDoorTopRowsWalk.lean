/-
  TopRows: THE WALK: it returns true, and writes nothing that was there.
-/
import Derived.Test.YtihnghnafpgdfabDoorTopReadWalk
namespace Go.Proofs.YtihnghnafpgdfabDoor
open Go Go.RowKit Go.BigFrame
set_option linter.unusedVariables false
set_option linter.unusedSimpArgs false

theorem sizes_rows {l : List Fi} {t : Int} (h : GoodQ l t) : ∀ c ∈ rowsL l t, c.key.size ≤ 7 ∧ c.val.size ≤ 16 := by
  intro c hc
  unfold rowsL at hc
  rcases List.mem_append.1 hc with h1 | h1
  · obtain ⟨f, hf, rfl⟩ := List.mem_map.1 h1
    obtain ⟨k, hk, hk2⟩ := h.four f hf
    obtain ⟨hn, ht, _, _⟩ := fault_zero (h.files.each f hf)
    have hn6 := name_size hn
    refine ⟨?_, ?_⟩
    · show (kf ++ f.n).size ≤ 7
      rw [ByteArray.size_append]
      have : kf.size = 1 := rfl
      omega
    · rw [ba_size, frow_val hk hk2, List.length_append, t4_length, ← ba_size]
      omega
  · rw [List.mem_singleton.1 h1]
    obtain ⟨k, hk, _, hk2⟩ := h.turn
    refine ⟨by show kturn.size ≤ 7; decide, ?_⟩
    rw [ba_size, trow_val hk (show k < 10000 by omega), t4_length]
    decide
theorem fault_rows {l : List Fi} {t : Int} (h : GoodQ l t) (i : Nat) (hi : i < (rowsL l t).length) : changeF (rowsL l t)[i] = 0 := by
  have him : Img (rowsL l t) l t := ⟨h, rfl⟩
  have ho := him.ok i hi
  obtain ⟨h1, h2⟩ := sizes_rows h _ (List.getElem_mem hi)
  unfold changeF
  rw [if_neg (by rintro (e | ⟨e, _⟩); exact ho.key e; rw [ho.here] at e; cases e), if_neg (by omega)]
/-- Rows of a quilt are read as it. -/
theorem parse_rows (pa : Option Addr) (ca : Nat) (l : List Fi) (t : Int) (w : World) (h : GoodQ l t) (hc : CC w pa (rowsL l t)) (hv : Vars w) :
    Calls Tryd.prog 13 #[.slice pa (rowsL l t).length ca] w fun e w' => ∃ va vc, e = .returned (.tuple #[.agg #[.slice va l.length vc, .int .i64 t], .nilIface]) ∧ Cells w' va l ∧ Below w.heap.size w w' := by
  have him : Img (rowsL l t) l t := ⟨h, rfl⟩
  have h8 := h.files.few
  refine (parse_any pa ca (rowsL l t) w (by rw [rowsL_length]; omega) (fun c hc => by have := sizes_rows h c hc; omega) hc hv).mono ?_
  rintro e w' (⟨fs, s, va, vc, him2, rfl, hcl, hb⟩ | ⟨hno, _⟩)
  · obtain ⟨rfl, rfl⟩ := him2.inj him
    exact ⟨va, vc, rfl, hcl, hb⟩
  · exact absurd him (hno l t)
def RowsRise (R : List Ch) : Prop := ∀ i j (hi : i < R.length) (hj : j < R.length), j = i + 1 → ltB R[i].key R[j].key = true
theorem newQ_good : GoodQ [] 1 := ⟨⟨by decide, (fun f hf => by cases hf), (fun i h => by simp at h)⟩, by decide, by decide⟩
theorem fineI_good {l : List Fi} {t : Int} (h : (lightF l && (quiltF l t == 0)) = true) : GoodQ l t := by
  simp only [Bool.and_eq_true, beq_iff_eq] at h
  exact goodQ_of h.2

set_option maxRecDepth 100000 in
set_option maxHeartbeats 8000000 in
theorem topRows_any (a : Option Addr) (cap : Nat) (l : List Fi) (t : Int) (w : World) (hz : Sized l) (hs : Slice w a cap l) (hv : Vars w) :
    Calls Tryd.prog 4 #[.agg #[.slice a l.length cap, .int .i64 t]] w fun e w' => e = .returned (.bool true) ∧ Below w.heap.size w w' := by
  have HC : Hid (Cells w a l) := hs.cells
  have HZ : Hid (Sized l) := hz
  have HV : Hid (Vars w) := hv
  have HM : Hid (l.length ≤ maxLen) := Nat.le_trans hs.room hs.most
  clear hs hz hv
  go_enter Tryd.func4, Tryd.ntmps4
  go_wp2_with fail
  obtain ⟨W1, hW⟩ : ∃ x, x = w.alloc (.cells #[.slice a l.length cap, .int .i64 t] 24) := ⟨_, rfl⟩
  have HB1 : Hid (Below w.heap.size w W1) := by rw [hW]; exact (Below.refl _ _).alloc (Nat.le_refl _) _
  have HQ1 : Hid (QBox W1 w.heap.size (.slice a l.length cap) t) := by rw [hW]; exact QBox.new w _ t _
  rw [← hW]
  clear hW
  refine (new_any W1).mono ?_
  rintro e w2 ⟨rfl, hb⟩
  have HB2 : Hid (Below w.heap.size w w2) := HB1.out.trans (hb.mono HB1.out.size)
  have HQ2 : Hid (QBox w2 w.heap.size (.slice a l.length cap) t) := HQ1.out.below hb HQ1.out.lt
  have KR0 : Hid _ := imageRows_any none 0 [] 1 w2 newQ_good (Cells.nil _ _) (HV.out.below HB2.out)
  clear hb HB1 HQ1
  go_wp2_with fail
  refine Calls.mono KR0.out ?_
  rintro e w3 ⟨pr, cr, rfl, hcc, _, _, hb⟩
  have HB3 : Hid (Below w.heap.size w w3) := HB2.out.trans (hb.mono HB2.out.size)
  have HQ3 : Hid (QBox w3 w.heap.size (.slice a l.length cap) t) := HQ2.out.below hb HQ2.out.lt
  have KP0 : Hid _ := parse_rows pr cr [] 1 w3 newQ_good hcc (HV.out.below HB3.out)
  clear hb HB2 HQ2 hcc KR0
  go_wp2_with fail
  refine Calls.mono KP0.out ?_
  rintro e w4 ⟨va, vc, rfl, _, hb⟩
  have HB4 : Hid (Below w.heap.size w w4) := HB3.out.trans (hb.mono HB3.out.size)
  have HQ4 : Hid (QBox w4 w.heap.size (.slice a l.length cap) t) := HQ3.out.below hb HQ3.out.lt
  clear hb HB3 HQ3 KP0
  obtain ⟨W5, hW⟩ : ∃ x, x = w4.alloc (.cells #[.slice va 0 vc, .int .i64 1] 24) := ⟨_, rfl⟩
  have HB5 : Hid (Below w.heap.size w W5) := by rw [hW]; exact HB4.out.alloc HB4.out.size _
  have HQ5 : Hid (QBox W5 w.heap.size (.slice a l.length cap) t) := by rw [hW]; exact HQ4.out.alloc _
  have HX5 : Hid (QBox W5 w4.heap.size (.slice va 0 vc) 1) := by rw [hW]; exact QBox.new w4 _ 1 _
  have HLX : Hid (w.heap.size < w4.heap.size) := HQ4.out.lt
  have KF : Hid _ := fineQuilt_any a cap l t W5 HM.out HZ.out (HC.out.below HB5.out)
  obtain ⟨q0, q1, _, _, ql, _⟩ := HQ4.out
  clear HB4
  go_wp2_with fail
  rw [← hW]
  clear hW q0 q1 ql HQ4
  refine Calls.mono KF.out ?_
  rintro e w6 ⟨rfl, hb⟩
  have HB6 : Hid (Below w.heap.size w w6) := HB5.out.trans (hb.mono HB5.out.size)
  have HQ6 : Hid (QBox w6 w.heap.size (.slice a l.length cap) t) := HQ5.out.below hb HQ5.out.lt
  have HX6 : Hid (QBox w6 w4.heap.size (.slice va 0 vc) 1) := HX5.out.below hb HX5.out.lt
  clear hb KF HB5 HQ5 HX5
  cases hfine : (lightF l && (quiltF l t == 0)) with
  | false =>
    go_wp2
    go_ret
    exact ⟨rfl, HB6.out⟩
  | true =>
    have HG : Hid (GoodQ l t) := fineI_good hfine
    have hl8 : l.length ≤ 8 := HG.out.files.few
    have KR : Hid _ := imageRows_any a cap l t w6 HG.out (HC.out.below HB6.out) (HV.out.below HB6.out)
    obtain ⟨q0, q1, _, _, ql, _⟩ := HQ6.out
    clear hfine
    go_wp2_with fail
    refine Calls.mono KR.out ?_
    rintro e w7 ⟨pl, cl, rfl, hcc, hle, _, hb⟩
    have HB7 : Hid (Below w.heap.size w w7) := HB6.out.trans (hb.mono HB6.out.size)
    have HQ7 : Hid (QBox w7 w.heap.size (.slice a l.length cap) t) := HQ6.out.below hb HQ6.out.lt
    have HX7 : Hid (QBox w7 w4.heap.size (.slice va 0 vc) 1) := HX6.out.below hb HX6.out.lt
    have hR9 : (rowsL l t).length ≤ 9 := by rw [rowsL_length]; omega
    have HF : Hid (∀ i (hi : i < (rowsL l t).length), changeF (rowsL l t)[i] = 0 ∧ (rowsL l t)[i].gone = false) := fun i hi => ⟨fault_rows HG.out i hi, (Img.ok (⟨HG.out, rfl⟩ : Img (rowsL l t) l t) i hi).here⟩
    have HR : Hid (RowsRise (rowsL l t)) := fun i j hi hj e => by
      have := Img.rise (⟨HG.out, rfl⟩ : Img (rowsL l t) l t) j (by omega) hj
      have e9 : j - 1 = i := by omega
      simp only [e9] at this
      exact this
    have HCC : Hid (CC w7 pl (rowsL l t)) := hcc
    have HPR : Hid (∀ W, Below w7.heap.size w7 W → Calls Tryd.prog 13 #[.slice pl (rowsL l t).length cl] W fun e w' => ∃ va vc, e = .returned (.tuple #[.agg #[.slice va l.length vc, .int .i64 t], .nilIface]) ∧ Cells w' va l ∧ Below W.heap.size W w') := fun W h => parse_rows pl cl l t W HG.out (HCC.out.below h) (HV.out.below (HB7.out.trans (h.mono HB7.out.size)))
    clear hb KR q0 q1 ql HB6 HQ6 HX6 hcc
    generalize rowsL l t = R at *
    go_wp2_with fail
    go_loopg [6] (R.length + 1) (fun kx vi wr => ∃ i : Nat, vi = .int .i64 i ∧ i ≤ R.length ∧ R.length - i ≤ kx ∧ Hid (Below w7.heap.size w7 wr))
    case atStart => exact ⟨0, rfl, by omega, by omega, Below.refl _ _⟩
    case round =>
      obtain ⟨i, rfl, hi', hkx, HW⟩ := hrel
      by_cases hlt : i < R.length
      · obtain ⟨b, off, rfl, c0, c1, c2⟩ := HCC.out.below HW.out i hlt
        obtain ⟨hf0, hg0⟩ := HF.out i hlt
        rw [hg0] at c2
        have hbk : (i : Int) < (R.length : Int) := by omega
        have HKC : Hid (∀ p : Later wr, Calls Tryd.prog 21 #[.agg #[.string R[i].key, .string R[i].val, .bool false]] p.W fun e w' => e = .returned (.int .i64 0) ∧ Below p.W.heap.size p.W w') := fun p => by
          have := changeFault_gr R[i] p.W
          rw [hf0] at this
          refine Calls.mono (by have h9 : R[i].v = .agg #[.string R[i].key, .string R[i].val, .bool false] := by rw [← hg0]
                                rw [← h9]; exact this) ?_
          rintro e w' ⟨rfl, hgr⟩
          exact ⟨rfl, hgr.below⟩
        have some' := Later.ne wr
        have p0 := Later.cell c0
        have p1 := Later.cell c1
        have p2 := Later.cell c2
        clear c0 c1 c2 hf0 hg0
        rcases Nat.eq_zero_or_pos i with h0 | h0
        · have hd : decide ((0 : Int) < (i : Int)) = false := decide_eq_false (by omega)
          have hd' : decide (0 < i) = false := decide_eq_false (by omega)
          clear h0
          go_wp2_with fail
          refine wp_region_later (by kernel_rfl) (by kernel_rfl) ?_
          repeat (go_big_quiet_step ((go_at_call 21; exact later_of _ (HKC.out _))))
          refine wpQuiet_nil ?_
          rintro _ ⟨p, rfl⟩
          have HB9 : Hid (Below w7.heap.size w7 p.W) := HW.out.trans (p.h.mono HW.out.size)
          go_wp2
          go_roundg (R.length - (i + 1))
          case measure => omega
          case rel => exact ⟨i + 1, by go_num, hlt, Nat.le_refl _, HB9⟩
        · have hd : decide ((0 : Int) < (i : Int)) = true := decide_eq_true (by omega)
          have hd' : decide (0 < i) = true := decide_eq_true (by omega)
          obtain ⟨j, HJ⟩ : ∃ j, Hid (i = j + 1) := ⟨i - 1, show i = i - 1 + 1 by omega⟩
          have hj1 : ((i : Int) - 1) = (j : Int) := by have := HJ.out; omega
          have hj2 : j < R.length := by have := HJ.out; omega
          have hj3 : (j : Int) < (R.length : Int) := by omega
          obtain ⟨_, _, e, d0, d1, d2⟩ := HCC.out.below HW.out j hj2
          cases e
          have q0 := Later.cell d0
          have hlb := HR.out j i hj2 hlt HJ.out
          have hle2 : (Op.bytesLess R[i].key.toList R[j].key.toList || R[i].key.toList == R[j].key.toList) = false := by rw [leqB, hlb]; rfl
          clear h0 d0 d1 d2 hlb
          go_wp2_with fail
          refine wp_region_later (by kernel_rfl) (by kernel_rfl) ?_
          repeat (go_big_quiet_step ((go_at_call 21; exact later_of _ (HKC.out _))))
          refine wpQuiet_nil ?_
          rintro _ ⟨p, rfl⟩
          have HB9 : Hid (Below w7.heap.size w7 p.W) := HW.out.trans (p.h.mono HW.out.size)
          go_wp2
          go_roundg (R.length - (i + 1))
          case measure => omega
          case rel => exact ⟨i + 1, by go_num, hlt, Nat.le_refl _, HB9⟩
      · obtain ⟨q0, q1, _, _, ql, _⟩ := HQ7.out.below HW.out HQ7.out.lt
        obtain ⟨x0, x1, xf0, xf1, xl, _⟩ := HX7.out.below HW.out HX7.out.lt
        have KP : Hid _ := HPR.out wr HW.out
        go_wp2_with fail
        refine Calls.mono KP.out ?_
        rintro e w8 ⟨vb, vd, rfl, hcl, hb⟩
        have HB8 : Hid (Below w.heap.size w w8) := (HB7.out.trans (HW.out.mono HB7.out.size)).trans (hb.mono (Nat.le_trans HB7.out.size HW.out.size))
        have HQ8 : Hid (QBox w8 w.heap.size (.slice a l.length cap) t) := (HQ7.out.below HW.out HQ7.out.lt).below hb (Nat.lt_of_lt_of_le HQ7.out.lt HW.out.size)
        have HX8 : Hid (QBox w8 w4.heap.size (.slice va 0 vc) 1) := (HX7.out.below HW.out HX7.out.lt).below hb (Nat.lt_of_lt_of_le HX7.out.lt HW.out.size)
        have HCL : Hid (Cells w8 vb l) := hcl
        clear hb hcl KP q0 q1 ql x0 x1 xf0 xf1 xl
        obtain ⟨q0, q1, _, _, ql, _⟩ := HQ8.out
        obtain ⟨x0, x1, xf0, xf1, xl, _⟩ := HX8.out
        have hne : ¬ w.heap.size = w4.heap.size := by have := HLX.out; omega
        have ho := HX8.out.only
        have HC9 : Hid (Cells ((w8.setCell ⟨w4.heap.size, 0, none⟩ (.slice vb l.length vd)).setCell ⟨w4.heap.size, 1, none⟩ (.int .i64 t)) vb l) := (HCL.out.store ho).store (only_set ho (by decide))
        have HA9 : Hid (Cells ((w8.setCell ⟨w4.heap.size, 0, none⟩ (.slice vb l.length vd)).setCell ⟨w4.heap.size, 1, none⟩ (.int .i64 t)) a l) := ((HC.out.below HB8.out).store ho).store (only_set ho (by decide))
        have HB9 : Hid (Below w.heap.size w ((w8.setCell ⟨w4.heap.size, 0, none⟩ (.slice vb l.length vd)).setCell ⟨w4.heap.size, 1, none⟩ (.int .i64 t))) := (HB8.out.setCell (p := ⟨w4.heap.size, 0, none⟩) (Nat.le_of_lt HLX.out) _).setCell (p := ⟨w4.heap.size, 1, none⟩) (Nat.le_of_lt HLX.out) _
        have KS := sameQuilt_any vb a vd cap l l t t _ (by omega) (by omega) HC9.out HA9.out
        have e1 : (sameL l l && (t == t)) = true := by rw [(sameL_iff _ _).2 rfl]; simp
        rw [e1] at KS
        have KSH : Hid _ := KS
        clear KS e1 ho
        have hR12 : (R.length : Int) ≤ 12 := by omega
        go_wp2_with fail
        refine Calls.mono KSH.out ?_
        rintro e w10 ⟨rfl, hb⟩
        have HB10 : Hid (Below w.heap.size w w10) := HB9.out.trans (hb.mono HB9.out.size)
        clear hb KSH
        go_wp2
        go_ret
        exact ⟨rfl, HB10.out⟩
end Go.Proofs.YtihnghnafpgdfabDoor
