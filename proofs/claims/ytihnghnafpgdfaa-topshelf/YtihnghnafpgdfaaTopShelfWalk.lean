/-
  THE WALK OF TopShelf: it returns true, and writes nothing that was there.
-/
import Derived.Test.YtihnghnafpgdfaaShelfLaw
import Derived.Test.YtihnghnafpgdfaaGoodMem
namespace Go.Proofs.Ytihnghnafpgdfaa
open Go.RowKit
set_option linter.unusedVariables false
set_option linter.unusedSimpArgs false

def fe : Fi := ⟨⟨#[97]⟩, ⟨#[]⟩, 1⟩
theorem fe_good : fe.fault = 0 := by decide

/-- A file's box, to be read. -/
structure RBox (W : World) (B : Nat) (f : Fi) : Prop where
  c0 : W.cell? ⟨B, 0, none⟩ = some (.string f.n)
  c1 : W.cell? ⟨B, 1, none⟩ = some (.string f.t)
  c2 : W.cell? ⟨B, 2, none⟩ = some (.int .i64 f.k)
  lt : B < W.heap.size
theorem RBox.below {W W' : World} {B C : Nat} {f : Fi} (h : RBox W B f) (hb : Below C W W') (hC : B < C) : RBox W' B f :=
  ⟨by rw [hb.cell (p := ⟨B, 0, none⟩) hC]; exact h.c0, by rw [hb.cell (p := ⟨B, 1, none⟩) hC]; exact h.c1, by rw [hb.cell (p := ⟨B, 2, none⟩) hC]; exact h.c2, Nat.lt_of_lt_of_le h.lt hb.size⟩
theorem RBox.alloc {W : World} {B : Nat} {f : Fi} (h : RBox W B f) (o : Obj) : RBox (W.alloc o) B f :=
  h.below ((Below.refl _ _).alloc (Nat.le_refl _) o) h.lt
theorem RBox.new (W : World) (f : Fi) (ty : TypeId) : RBox (W.alloc (.cells #[.string f.n, .string f.t, .int .i64 f.k] ty)) W.heap.size f :=
  ⟨by simp [go_sem], by simp [go_sem], by simp [go_sem], by simp⟩

theorem sized_good {l : List Fi} (h : Good l) : Sized l := by
  intro f hf
  have := h.times hf
  have h6 := name_size this.1
  unfold maxLen
  exact ⟨by omega, by omega⟩

theorem putF_len_drop {l : List Fi} (hg : Good l) {name : ByteArray} (hh : hasF l name = true) : (dropF l name).length + 1 = l.length := by
  have := (hasF_name hh).1
  unfold dropF
  simp only [List.length_append, List.length_take, List.length_drop]
  omega

theorem putN_zero' {l : List Fi} {f : Fi} (h : putN l f = 0) : f.fault = 0 ∧ (hasF l f.n = false → l.length < 8) := by
  unfold putN at h
  by_cases hf : f.fault = 0
  · rw [if_neg (by simp [hf])] at h
    refine ⟨hf, fun hh => ?_⟩
    by_cases h8 : 8 ≤ l.length
    · rw [if_pos ⟨hh, h8⟩] at h; exact absurd h (by decide)
    · omega
  · rw [if_pos hf] at h; exact absurd h hf

set_option maxRecDepth 100000 in
set_option maxHeartbeats 8000000 in
theorem topShelf_any (a : Option Addr) (cap : Nat) (l : List Fi) (f : Fi) (name : ByteArray) (w : World) (hz : Sized l) (hs : Slice w a cap l) (hzf : f.n.size ≤ maxLen ∧ f.t.size ≤ maxLen) (hn : name.size ≤ maxLen) :
    Calls Try.prog 7 #[.slice a l.length cap, .agg #[.string f.n, .string f.t, .int .i64 f.k], .string name] w fun e w' => e = .returned (.bool true) ∧ Below w.heap.size w w' := by
  have hl : l.length ≤ maxLen := Nat.le_trans hs.room hs.most
  have hn' := hn
  unfold maxLen at hn'
  have HS : Hid (Slice w a cap l) := hs
  clear hs
  go_enter Try.func7, Try.ntmps7
  go_wp2_with fail
  refine (put_any none 0 [] fe _ ⟨by decide, by decide⟩ good_nil ⟨Cells.nil _ _, by simp, Nat.zero_le _, fun _ => rfl⟩).mono ?_
  rintro e w1 ⟨v, rfl, hown, hb⟩
  have e1 : putN [] fe = 0 := by simp [putN, fe_good]
  have e2 : putL [] fe = [fe] := by simp [putL, e1, putF, posF]
  rw [e1, errV_zero rfl]
  rw [e2] at hown
  obtain ⟨a1, cap1, rfl, _⟩ := hown.slice
  have HF1 : Hid (RBox w1 w.heap.size f) := (RBox.new w f _).below hb (by simp)
  have HB1 : Hid (Below w.heap.size w w1) := ((Below.refl _ _).alloc (Nat.le_refl _) _).trans (hb.mono (by simp))
  have HS1 : Hid (Slice w1 a cap l) := HS.out.below HB1.out
  clear hb hown e1 e2 HS
  have hone : lightF [f] = lightB f := by simp [lightF]
  have hzo : Sized [f] := by intro g hg; simp at hg; subst hg; exact hzf
  obtain ⟨x0, x1, x2, xl⟩ := HF1.out
  cases h1 : lightF l
  · go_wp2_with (go_at_call 20; refine (light_any a cap l _ hl hz HS1.out.cells).mono ?_; rintro e w' ⟨rfl, hw⟩; rw [hw, h1]; clear hw w')
    go_ret
    exact ⟨rfl, HB1.out⟩
  · go_wp2_with fail
    refine (light_any a cap l _ hl hz HS1.out.cells).mono ?_
    rintro e w' ⟨rfl, hw⟩
    rw [hw, h1]
    clear hw w'
    cases h2 : lightB f
    · go_wp2_with fail
      refine (light_any _ 1 [f] _ (by simp [maxLen]) hzo (Cells.one _ f _)).mono ?_
      rintro e w' ⟨rfl, hw⟩
      rw [hw, hone, h2]
      clear hw w'
      go_wp2
      go_ret
      exact ⟨rfl, HB1.out.alloc HB1.out.size _⟩
    · go_wp2_with fail
      refine (light_any _ 1 [f] _ (by simp [maxLen]) hzo (Cells.one _ f _)).mono ?_
      rintro e w' ⟨rfl, hw⟩
      rw [hw, hone, h2]
      clear hw w'
      by_cases h3 : 20 < name.size
      · go_wp2
        go_ret
        exact ⟨rfl, HB1.out.alloc HB1.out.size _⟩
      · go_wp2_with fail
        refine (shelfCheck_any a cap l _ hl hz (by exact HS1.out.cells.alloc _)).mono ?_
        rintro e w2 ⟨rfl, hb⟩
        have HF2 : Hid (RBox w2 w.heap.size f) := (HF1.out.alloc _).below hb (by simp; have := HF1.out.lt; omega)
        have HB2 : Hid (Below w.heap.size w w2) := (HB1.out.alloc HB1.out.size _).trans (hb.mono (by simp; have := HB1.out.size; omega))
        have HS2 : Hid (Slice w2 a cap l) := by
          have h := HS1.out.below ((Below.refl _ _).alloc (Nat.le_refl _) (.cells #[.string f.n, .string f.t, .int .i64 f.k] 23))
          exact h.below hb
        clear hb HF1 HB1 HS1 x0 x1 x2 xl hone hzo
        obtain ⟨x0, x1, x2, xl⟩ := HF2.out
        by_cases hg0 : filesF l = 0
        · rw [errV_zero hg0]
          have HG : Hid (Good l) := good_of_zero hg0
          clear hg0
          have hfew := HG.out.few
          go_wp2_with fail
          refine (put_any a cap l f _ hzf HG.out HS2.out).mono ?_
          rintro e w3 ⟨v, rfl, hown, hb⟩
          obtain ⟨am, capm, rfl, hsm⟩ := hown.slice
          have HF3 : Hid (RBox w3 w.heap.size f) := HF2.out.below hb HF2.out.lt
          have HB3 : Hid (Below w.heap.size w w3) := HB2.out.trans (hb.mono HB2.out.size)
          have HS3 : Hid (Slice w3 a cap l) := HS2.out.below hb
          have HM3 : Hid (Slice w3 am capm (putL l f)) := hsm
          clear hb hown hsm HF2 HB2 HS2 x0 x1 x2 xl
          obtain ⟨x0, x1, x2, xl⟩ := HF3.out
          by_cases hp : putN l f = 0
          · rw [errV_zero hp]
            obtain ⟨hff, h8⟩ := putN_zero' hp
            have e1 : putL l f = putF l f := by simp [putL, hp]
            rw [e1] at HM3
            rw [e1]
            have HGM : Hid (Good (putF l f)) := good_put HG.out hff h8
            have HGS : Hid (getF (putF l f) f.n = some f) := get_put_same HG.out HGM.out
            have HGO : Hid (¬ name = f.n → getF (putF l f) name = getF l name) := fun h => get_put_other HG.out HGM.out h
            have hml : (putF l f).length ≤ maxLen := by have := HGM.out.few; unfold maxLen; omega
            clear e1 hff h8 hp
            generalize putF l f = m at *
            go_wp2_with fail
            refine (get_any am capm m f.n _ HGM.out HM3.out.cells).mono ?_
            rintro e w4 ⟨rfl, hb⟩
            rw [HGS.out, getV_some]
            have HF4 : Hid (RBox w4 w.heap.size f) := HF3.out.below hb HF3.out.lt
            have HB4 : Hid (Below w.heap.size w w4) := HB3.out.trans (hb.mono HB3.out.size)
            have HS4 : Hid (Slice w4 a cap l) := HS3.out.below hb
            have HM4 : Hid (Slice w4 am capm m) := HM3.out.below hb
            clear hb HF3 HB3 HS3 HM3 x0 x1 x2 xl
            go_wp2_with fail
            refine (get_any a cap l name _ HG.out (by exact HS4.out.cells.alloc _)).mono ?_
            rintro e w5 ⟨rfl, hb⟩
            rw [getV_eq]
            generalize hgd : getD' (getF l name) = g
            generalize hgb : (getF l name).isSome = gb
            have HGD : Hid (getD' (getF l name) = g) := hgd
            have HGB : Hid ((getF l name).isSome = gb) := hgb
            have HF5 : Hid (RBox w5 w.heap.size f) := (HF4.out.alloc _).below hb (by simp; have := HF4.out.lt; omega)
            have HP5 : Hid (RBox w5 w4.heap.size f) := (RBox.new w4 f _).below hb (by simp)
            have HB5 : Hid (Below w.heap.size w w5) := (HB4.out.alloc HB4.out.size _).trans (hb.mono (by simp; have := HB4.out.size; omega))
            have HS5 : Hid (Slice w5 a cap l) := (HS4.out.below ((Below.refl _ _).alloc (Nat.le_refl _) _)).below hb
            have HM5 : Hid (Slice w5 am capm m) := (HM4.out.below ((Below.refl _ _).alloc (Nat.le_refl _) _)).below hb
            clear hb HF4 HB4 HS4 HM4 hgd hgb
            go_wp2_with fail
            refine (get_any am capm m name _ HGM.out (by exact HM5.out.cells.alloc _)).mono ?_
            rintro e w6 ⟨rfl, hb⟩
            rw [getV_eq]
            have HF6 : Hid (RBox w6 w.heap.size f) := (HF5.out.alloc _).below hb (by simp; have := HF5.out.lt; omega)
            have HP6 : Hid (RBox w6 w4.heap.size f) := (HP5.out.alloc _).below hb (by simp; have := HP5.out.lt; omega)
            have HX6 : Hid (RBox w6 w5.heap.size g) := (RBox.new w5 g _).below hb (by simp)
            have HB6 : Hid (Below w.heap.size w w6) := (HB5.out.alloc HB5.out.size _).trans (hb.mono (by simp; have := HB5.out.size; omega))
            have HS6 : Hid (Slice w6 a cap l) := (HS5.out.below ((Below.refl _ _).alloc (Nat.le_refl _) _)).below hb
            have HM6 : Hid (Slice w6 am capm m) := (HM5.out.below ((Below.refl _ _).alloc (Nat.le_refl _) _)).below hb
            clear hb HF5 HP5 HB5 HS5 HM5
            obtain ⟨x0, x1, x2, xl⟩ := HF6.out
            obtain ⟨p0, p1, p2, pl⟩ := HP6.out
            have hqf := fun w => run_neq_file f f w
            rw [(eqFi_iff f f).2 rfl] at hqf
            by_cases hnf : name = f.n
            · have hE : (name.toList == f.n.toList) = true := beqB_true hnf
              clear hnf HGO
              go_wp2_with fail
              refine (shelfCheck_any am capm m _ hml (sized_good HGM.out) (by exact HM6.out.cells.alloc _)).mono ?_
              rintro e w7 ⟨rfl, hb⟩
              rw [errV_zero (zero_of_good HGM.out)]
              have HF7 : Hid (RBox w7 w.heap.size f) := (HF6.out.alloc _).below hb (by simp; have := HF6.out.lt; omega)
              have HB7 : Hid (Below w.heap.size w w7) := (HB6.out.alloc HB6.out.size _).trans (hb.mono (by simp; have := HB6.out.size; omega))
              have HS7 : Hid (Slice w7 a cap l) := (HS6.out.below ((Below.refl _ _).alloc (Nat.le_refl _) _)).below hb
              clear hb x0 x1 x2 xl p0 p1 p2 pl
              obtain ⟨x0, x1, x2, xl⟩ := HF7.out
              go_wp2_with fail
              refine (drop_any a cap l name _ HG.out HS7.out).mono ?_
              rintro e u1 ⟨v, rfl, hown, hb⟩
              have HN1 := hown
              have HBU1 : Hid (Below w.heap.size w u1) := (HB7.out).trans (hb.mono (HB7.out).size)
              have HSU1 : Hid (Slice u1 a cap l) := (HS7.out).below hb
              clear hb hown
              cases hh : hasF l name
              · have e1 : dropN l name = 5 := by simp [dropN, hh]
                have e2 : dropL l name = [] := by simp [dropL, hh]
                rw [e2] at HN1
                obtain ⟨an, capn, rfl, hsn⟩ := HN1.slice
                rw [e1, errV_pos (by decide)]
                have HNU1 : Hid (Slice u1 an capn []) := hsn
                have HGN : Hid (getF l name = none) := getF_hasnt HG.out hh
                clear e1 e2 hsn HN1
                go_wp2_with fail
                refine (get_any a cap l name _ HG.out HSU1.out.cells).mono ?_
                rintro e u2 ⟨rfl, hb⟩
                rw [HGN.out, getV_none]
                have HBU2 : Hid (Below w.heap.size w u2) := HBU1.out.trans (hb.mono HBU1.out.size)
                have HNU2 : Hid (Slice u2 an capn []) := HNU1.out.below hb
                clear hb
                go_wp2_with fail
                refine (get_any an capn [] name _ good_nil (by exact HNU2.out.cells.alloc _)).mono ?_
                rintro e u3 ⟨rfl, hb⟩
                have e3 : getF [] name = none := rfl
                rw [e3, getV_none]
                have HBU3 : Hid (Below w.heap.size w u3) := (HBU2.out.alloc HBU2.out.size _).trans (hb.mono (by simp; have := HBU2.out.size; omega))
                clear hb e3
                go_wp2
                go_ret
                exact ⟨rfl, HBU3.out.alloc HBU3.out.size _⟩
              · have e1 : dropN l name = 0 := by simp [dropN, hh]
                have e2 : dropL l name = dropF l name := by simp [dropL, hh]
                rw [e2] at HN1
                obtain ⟨an, capn, rfl, hsn⟩ := HN1.slice
                rw [e1, errV_zero rfl]
                have HNU1 : Hid (Slice u1 an capn (dropF l name)) := hsn
                have HGD : Hid (Good (dropF l name)) := good_drop HG.out name
                have HGS : Hid ((getF l name).isSome = true) := by show _ = _; rw [getF_isSome HG.out, hh]
                have HGN : Hid (getF (dropF l name) name = none) := get_drop_same HG.out hh
                have hlen := putF_len_drop HG.out hh
                have hdl : (((dropF l name).length : Int) == (l.length : Int) - 1) = true := by rw [beq_iff_eq]; omega
                have hml : (dropF l name).length ≤ maxLen := by unfold maxLen; omega
                clear e1 e2 hsn HN1 hlen
                generalize dropF l name = dl at *
                go_wp2_with fail
                refine (get_any a cap l name _ HG.out HSU1.out.cells).mono ?_
                rintro e u2 ⟨rfl, hb⟩
                rw [getV_eq, HGS.out]
                have HBU2 : Hid (Below w.heap.size w u2) := HBU1.out.trans (hb.mono HBU1.out.size)
                have HNU2 : Hid (Slice u2 an capn dl) := HNU1.out.below hb
                clear hb
                go_wp2_with fail
                refine (get_any an capn dl name _ HGD.out (by exact HNU2.out.cells.alloc _)).mono ?_
                rintro e u3 ⟨rfl, hb⟩
                rw [HGN.out, getV_none]
                have HBU3 : Hid (Below w.heap.size w u3) := (HBU2.out.alloc HBU2.out.size _).trans (hb.mono (by simp; have := HBU2.out.size; omega))
                have HNU3 : Hid (Slice u3 an capn dl) := (HNU2.out.below ((Below.refl _ _).alloc (Nat.le_refl _) _)).below hb
                clear hb
                go_wp2_with fail
                refine (shelfCheck_any an capn dl _ hml (sized_good HGD.out) (by exact HNU3.out.cells.alloc _)).mono ?_
                rintro e u4 ⟨rfl, hb⟩
                rw [errV_zero (zero_of_good HGD.out)]
                have HBU4 : Hid (Below w.heap.size w u4) := (HBU3.out.alloc HBU3.out.size _).trans (hb.mono (by simp; have := HBU3.out.size; omega))
                clear hb
                go_wp2
                go_ret
                exact ⟨rfl, HBU4.out⟩
            · have hE : (name.toList == f.n.toList) = false := beqB_false hnf
              have hgo := HGO.out hnf
              rw [hgo, HGD.out, HGB.out]
              have hqg := fun w => run_neq_file g g w
              rw [(eqFi_iff g g).2 rfl] at hqg
              clear hnf HGO hgo
              go_wp2_with fail
              refine (shelfCheck_any am capm m _ hml (sized_good HGM.out) (by exact HM6.out.cells.alloc _)).mono ?_
              rintro e w7 ⟨rfl, hb⟩
              rw [errV_zero (zero_of_good HGM.out)]
              have HF7 : Hid (RBox w7 w.heap.size f) := (HF6.out.alloc _).below hb (by simp; have := HF6.out.lt; omega)
              have HX7 : Hid (RBox w7 w5.heap.size g) := (HX6.out.alloc _).below hb (by simp; have := HX6.out.lt; omega)
              have HY7 : Hid (RBox w7 w6.heap.size g) := (RBox.new w6 g _).below hb (by simp)
              have HB7 : Hid (Below w.heap.size w w7) := (HB6.out.alloc HB6.out.size _).trans (hb.mono (by simp; have := HB6.out.size; omega))
              have HS7 : Hid (Slice w7 a cap l) := (HS6.out.below ((Below.refl _ _).alloc (Nat.le_refl _) _)).below hb
              clear hb x0 x1 x2 xl p0 p1 p2 pl
              obtain ⟨x0, x1, x2, xl⟩ := HF7.out
              obtain ⟨g0, g1, g2, gl⟩ := HX7.out
              obtain ⟨q0, q1, q2, ql⟩ := HY7.out
              go_wp2_with fail
              refine (drop_any a cap l name _ HG.out HS7.out).mono ?_
              rintro e u1 ⟨v, rfl, hown, hb⟩
              have HN1 := hown
              have HBU1 : Hid (Below w.heap.size w u1) := (HB7.out).trans (hb.mono (HB7.out).size)
              have HSU1 : Hid (Slice u1 a cap l) := (HS7.out).below hb
              clear hb hown
              cases hh : hasF l name
              · have e1 : dropN l name = 5 := by simp [dropN, hh]
                have e2 : dropL l name = [] := by simp [dropL, hh]
                rw [e2] at HN1
                obtain ⟨an, capn, rfl, hsn⟩ := HN1.slice
                rw [e1, errV_pos (by decide)]
                have HNU1 : Hid (Slice u1 an capn []) := hsn
                have HGN : Hid (getF l name = none) := getF_hasnt HG.out hh
                clear e1 e2 hsn HN1
                go_wp2_with fail
                refine (get_any a cap l name _ HG.out HSU1.out.cells).mono ?_
                rintro e u2 ⟨rfl, hb⟩
                rw [HGN.out, getV_none]
                have HBU2 : Hid (Below w.heap.size w u2) := HBU1.out.trans (hb.mono HBU1.out.size)
                have HNU2 : Hid (Slice u2 an capn []) := HNU1.out.below hb
                clear hb
                go_wp2_with fail
                refine (get_any an capn [] name _ good_nil (by exact HNU2.out.cells.alloc _)).mono ?_
                rintro e u3 ⟨rfl, hb⟩
                have e3 : getF [] name = none := rfl
                rw [e3, getV_none]
                have HBU3 : Hid (Below w.heap.size w u3) := (HBU2.out.alloc HBU2.out.size _).trans (hb.mono (by simp; have := HBU2.out.size; omega))
                clear hb e3
                go_wp2
                go_ret
                exact ⟨rfl, HBU3.out.alloc HBU3.out.size _⟩
              · have e1 : dropN l name = 0 := by simp [dropN, hh]
                have e2 : dropL l name = dropF l name := by simp [dropL, hh]
                rw [e2] at HN1
                obtain ⟨an, capn, rfl, hsn⟩ := HN1.slice
                rw [e1, errV_zero rfl]
                have HNU1 : Hid (Slice u1 an capn (dropF l name)) := hsn
                have HGD : Hid (Good (dropF l name)) := good_drop HG.out name
                have HGS : Hid ((getF l name).isSome = true) := by show _ = _; rw [getF_isSome HG.out, hh]
                have HGN : Hid (getF (dropF l name) name = none) := get_drop_same HG.out hh
                have hlen := putF_len_drop HG.out hh
                have hdl : (((dropF l name).length : Int) == (l.length : Int) - 1) = true := by rw [beq_iff_eq]; omega
                have hml : (dropF l name).length ≤ maxLen := by unfold maxLen; omega
                clear e1 e2 hsn HN1 hlen
                generalize dropF l name = dl at *
                go_wp2_with fail
                refine (get_any a cap l name _ HG.out HSU1.out.cells).mono ?_
                rintro e u2 ⟨rfl, hb⟩
                rw [getV_eq, HGS.out]
                have HBU2 : Hid (Below w.heap.size w u2) := HBU1.out.trans (hb.mono HBU1.out.size)
                have HNU2 : Hid (Slice u2 an capn dl) := HNU1.out.below hb
                clear hb
                go_wp2_with fail
                refine (get_any an capn dl name _ HGD.out (by exact HNU2.out.cells.alloc _)).mono ?_
                rintro e u3 ⟨rfl, hb⟩
                rw [HGN.out, getV_none]
                have HBU3 : Hid (Below w.heap.size w u3) := (HBU2.out.alloc HBU2.out.size _).trans (hb.mono (by simp; have := HBU2.out.size; omega))
                have HNU3 : Hid (Slice u3 an capn dl) := (HNU2.out.below ((Below.refl _ _).alloc (Nat.le_refl _) _)).below hb
                clear hb
                go_wp2_with fail
                refine (shelfCheck_any an capn dl _ hml (sized_good HGD.out) (by exact HNU3.out.cells.alloc _)).mono ?_
                rintro e u4 ⟨rfl, hb⟩
                rw [errV_zero (zero_of_good HGD.out)]
                have HBU4 : Hid (Below w.heap.size w u4) := (HBU3.out.alloc HBU3.out.size _).trans (hb.mono (by simp; have := HBU3.out.size; omega))
                clear hb
                go_wp2
                go_ret
                exact ⟨rfl, HBU4.out⟩
          · rw [errV_pos hp]
            clear hp
            go_wp2_with fail
            refine (drop_any a cap l name _ HG.out HS3.out).mono ?_
            rintro e u1 ⟨v, rfl, hown, hb⟩
            have HN1 := hown
            have HBU1 : Hid (Below w.heap.size w u1) := (HB3.out).trans (hb.mono (HB3.out).size)
            have HSU1 : Hid (Slice u1 a cap l) := (HS3.out).below hb
            clear hb hown
            cases hh : hasF l name
            · have e1 : dropN l name = 5 := by simp [dropN, hh]
              have e2 : dropL l name = [] := by simp [dropL, hh]
              rw [e2] at HN1
              obtain ⟨an, capn, rfl, hsn⟩ := HN1.slice
              rw [e1, errV_pos (by decide)]
              have HNU1 : Hid (Slice u1 an capn []) := hsn
              have HGN : Hid (getF l name = none) := getF_hasnt HG.out hh
              clear e1 e2 hsn HN1
              go_wp2_with fail
              refine (get_any a cap l name _ HG.out HSU1.out.cells).mono ?_
              rintro e u2 ⟨rfl, hb⟩
              rw [HGN.out, getV_none]
              have HBU2 : Hid (Below w.heap.size w u2) := HBU1.out.trans (hb.mono HBU1.out.size)
              have HNU2 : Hid (Slice u2 an capn []) := HNU1.out.below hb
              clear hb
              go_wp2_with fail
              refine (get_any an capn [] name _ good_nil (by exact HNU2.out.cells.alloc _)).mono ?_
              rintro e u3 ⟨rfl, hb⟩
              have e3 : getF [] name = none := rfl
              rw [e3, getV_none]
              have HBU3 : Hid (Below w.heap.size w u3) := (HBU2.out.alloc HBU2.out.size _).trans (hb.mono (by simp; have := HBU2.out.size; omega))
              clear hb e3
              go_wp2
              go_ret
              exact ⟨rfl, HBU3.out.alloc HBU3.out.size _⟩
            · have e1 : dropN l name = 0 := by simp [dropN, hh]
              have e2 : dropL l name = dropF l name := by simp [dropL, hh]
              rw [e2] at HN1
              obtain ⟨an, capn, rfl, hsn⟩ := HN1.slice
              rw [e1, errV_zero rfl]
              have HNU1 : Hid (Slice u1 an capn (dropF l name)) := hsn
              have HGD : Hid (Good (dropF l name)) := good_drop HG.out name
              have HGS : Hid ((getF l name).isSome = true) := by show _ = _; rw [getF_isSome HG.out, hh]
              have HGN : Hid (getF (dropF l name) name = none) := get_drop_same HG.out hh
              have hlen := putF_len_drop HG.out hh
              have hdl : (((dropF l name).length : Int) == (l.length : Int) - 1) = true := by rw [beq_iff_eq]; omega
              have hml : (dropF l name).length ≤ maxLen := by unfold maxLen; omega
              clear e1 e2 hsn HN1 hlen
              generalize dropF l name = dl at *
              go_wp2_with fail
              refine (get_any a cap l name _ HG.out HSU1.out.cells).mono ?_
              rintro e u2 ⟨rfl, hb⟩
              rw [getV_eq, HGS.out]
              have HBU2 : Hid (Below w.heap.size w u2) := HBU1.out.trans (hb.mono HBU1.out.size)
              have HNU2 : Hid (Slice u2 an capn dl) := HNU1.out.below hb
              clear hb
              go_wp2_with fail
              refine (get_any an capn dl name _ HGD.out (by exact HNU2.out.cells.alloc _)).mono ?_
              rintro e u3 ⟨rfl, hb⟩
              rw [HGN.out, getV_none]
              have HBU3 : Hid (Below w.heap.size w u3) := (HBU2.out.alloc HBU2.out.size _).trans (hb.mono (by simp; have := HBU2.out.size; omega))
              have HNU3 : Hid (Slice u3 an capn dl) := (HNU2.out.below ((Below.refl _ _).alloc (Nat.le_refl _) _)).below hb
              clear hb
              go_wp2_with fail
              refine (shelfCheck_any an capn dl _ hml (sized_good HGD.out) (by exact HNU3.out.cells.alloc _)).mono ?_
              rintro e u4 ⟨rfl, hb⟩
              rw [errV_zero (zero_of_good HGD.out)]
              have HBU4 : Hid (Below w.heap.size w u4) := (HBU3.out.alloc HBU3.out.size _).trans (hb.mono (by simp; have := HBU3.out.size; omega))
              clear hb
              go_wp2
              go_ret
              exact ⟨rfl, HBU4.out⟩
        · rw [errV_pos hg0]
          go_wp2
          go_ret
          exact ⟨rfl, HB2.out⟩

end Go.Proofs.Ytihnghnafpgdfaa
