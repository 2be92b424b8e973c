/-
  THE WALK OF TopWrite: it returns true, and writes nothing that was there.
-/
import Derived.Test.YtihnghnafpgdfaaTopBase
namespace Go.Proofs.Ytihnghnafpgdfaa
open Go.RowKit
set_option linter.unusedVariables false
set_option linter.unusedSimpArgs false

set_option maxRecDepth 100000 in
set_option maxHeartbeats 8000000 in
theorem topWrite_any (a : Option Addr) (cap : Nat) (l : List Ac) (name text other : ByteArray) (w : World) (hm : l.length ≤ maxLen) (hs : ActCells w a l) (hname : name.size ≤ maxLen) (htext : text.size ≤ maxLen) (hother : other.size ≤ maxLen) :
    Calls Try.prog 9 #[.slice a l.length cap, .string name, .string text, .string other] w fun e w' => e = .returned (.bool true) ∧ Below w.heap.size w w' := by
  have HA : Hid (ActCells w a l) := hs
  clear hs
  have hname' := hname
  unfold maxLen at hname'
  have htext' := htext
  unfold maxLen at htext'
  have hother' := hother
  unfold maxLen at hother'
  go_enter Try.func9, Try.ntmps9
  go_wp2_with fail
  refine (began_any _).mono ?_
  rintro e w1 ⟨rfl, hb1⟩
  have HB1 : Hid (Below w.heap.size w w1) := hb1
  clear hb1
  go_wp2_with fail
  refine (grown_any a cap l _ hm (HA.out.below HB1.out)).mono ?_
  rintro e w2 ⟨ok, aq, capq, lq, tq, rfl, hsq, hb, hgq⟩
  have HB2 : Hid (Below w.heap.size w w2) := HB1.out.trans (hb.mono HB1.out.size)
  have HSQ : Hid (Slice w2 aq capq lq) := hsq
  clear hb hsq HB1 HA
  cases ok with
  | false =>
    go_wp2
    go_ret
    exact ⟨rfl, HB2.out.alloc HB2.out.size _⟩
  | true =>
    have HGQ : Hid (GoodQ lq tq) := (hgq rfl).1
    have HLO : Hid (Low lq tq 60) := (hgq rfl).2
    clear hgq
    have h8 := HGQ.out.files.few
    by_cases hg0 : 20 < name.size
    · go_wp2
      go_ret
      exact ⟨rfl, HB2.out.alloc HB2.out.size _⟩
    by_cases hg1 : 40 < text.size
    · go_wp2
      go_ret
      exact ⟨rfl, HB2.out.alloc HB2.out.size _⟩
    by_cases hg2 : 20 < other.size
    · go_wp2
      go_ret
      exact ⟨rfl, HB2.out.alloc HB2.out.size _⟩
    go_wp2_with fail
    refine (get_any aq capq lq name _ HGQ.out.files (by exact HSQ.out.cells.alloc _)).mono ?_
    rintro e w3 ⟨rfl, hb⟩
    have HQ3 : Hid (QBox w3 w2.heap.size (.slice aq lq.length capq) tq) := (QBox.new w2 _ tq _).below hb (by simp)
    have HB3 : Hid (Below w.heap.size w w3) := Below.on _ HB2.out HB2.out.size hb
    have HS3 : Hid (Slice w3 aq capq lq) := (HSQ.out.alloc _).below hb
    clear hb HSQ HB2
    rw [getV_eq]
    have hkf : 0 ≤ (getD' (getF lq name)).k ∧ (getD' (getF lq name)).k ≤ 60 := by
      cases hgf : getF lq name with
      | none => simp [getD']
      | some f => have h1 := HLO.out.2 f (getF_mem hgf).1; have h2 := HGQ.out.files.times (getF_mem hgf).1; simp only [getD']; omega
    have hwf : writeF lq name text = ⟨name, text, (getD' (getF lq name)).k + 1⟩ := rfl
    have HWG : Hid ((writeR lq tq name text).n = 0 → GoodQ (writeR lq tq name text).l (writeR lq tq name text).t ∧ getF (writeR lq tq name text).l name = some (writeF lq name text) ∧ ∀ other, ¬ other = name → getF (writeR lq tq name text).l other = getF lq other) := write_get HGQ.out
    rw [hwf] at HWG
    have hr := range_of_fine (write_fine HGQ.out name text)
    generalize getD' (getF lq name) = f at *
    generalize (getF lq name).isSome = fb at *
    clear hwf
    obtain ⟨hk0, hk1⟩ := hkf
    obtain ⟨x0, x1, xf0, xf1, xl, _⟩ := HQ3.out
    go_wp2_with fail
    refine (write_any aq capq lq tq name text _ HGQ.out (by exact HS3.out.alloc _) hname htext).mono ?_
    rintro e w4 ⟨ax, capx, rfl, hsx, hb⟩
    have HQ4 : Hid (QBox w4 w2.heap.size (.slice aq lq.length capq) tq) := (HQ3.out.alloc _).below hb (by simp; omega)
    have HF4 : Hid (BoxF w4 w3.heap.size f) := (BoxF.new w3 f _).below hb (by simp)
    have HB4 : Hid (Below w.heap.size w w4) := Below.on _ HB3.out HB3.out.size hb
    have HS4 : Hid (Slice w4 aq capq lq) := (HS3.out.alloc _).below hb
    have HX4 : Hid (Slice w4 ax capx (writeR lq tq name text).l) := hsx
    clear hb hsx HQ3 HB3 HS3 x0 x1 xf0 xf1 xl
    generalize writeR lq tq name text = r at *
    by_cases hz : r.n = 0
    · rw [errV_zero hz]
      obtain ⟨g1, g2, g3⟩ := HWG.out hz
      have HG1 : Hid (GoodQ r.l r.t) := g1
      have HG2 : Hid (getF r.l name = some ⟨name, text, f.k + 1⟩) := g2
      have HG3 : Hid (∀ other, ¬ other = name → getF r.l other = getF lq other) := g3
      clear g1 g2 g3 hz hr HWG
      go_wp2_with fail
      refine (get_any ax capx r.l name _ HG1.out.files (by exact HX4.out.cells.alloc _)).mono ?_
      rintro e w5 ⟨rfl, hb⟩
      rw [getV_eq, HG2.out]
      simp only [getD', Option.isSome_some]
      have HQ5 : Hid (QBox w5 w2.heap.size (.slice aq lq.length capq) tq) := (HQ4.out.alloc _).below hb (by simp; have := HQ4.out.lt; omega)
      have HF5 : Hid (BoxF w5 w3.heap.size f) := (HF4.out.alloc _).below hb (by simp; have := HF4.out.lt; omega)
      have HX5 : Hid (QBox w5 w4.heap.size (.slice ax r.l.length capx) r.t) := (QBox.new w4 _ r.t _).below hb (by simp)
      have HB5 : Hid (Below w.heap.size w w5) := Below.on _ HB4.out HB4.out.size hb
      have HS5 : Hid (Slice w5 aq capq lq) := (HS4.out.alloc _).below hb
      have HR5 : Hid (Slice w5 ax capx r.l) := (HX4.out.alloc _).below hb
      clear hb HQ4 HF4 HB4 HS4 HX4
      obtain ⟨x0, x1, xf0, xf1, xl, _⟩ := HQ5.out
      go_wp2_with fail
      refine (get_any aq capq lq other _ HGQ.out.files (by exact HS5.out.cells.alloc _)).mono ?_
      rintro e w6 ⟨rfl, hb⟩
      rw [getV_eq]
      have HF6 : Hid (BoxF w6 w3.heap.size f) := (HF5.out.alloc _).below hb (by simp; have := HF5.out.lt; omega)
      have HG6 : Hid (BoxF w6 w5.heap.size ⟨name, text, f.k + 1⟩) := (BoxF.new w5 ⟨name, text, f.k + 1⟩ _).below hb (by simp)
      have HX6 : Hid (QBox w6 w4.heap.size (.slice ax r.l.length capx) r.t) := (HX5.out.alloc _).below hb (by simp; have := HX5.out.lt; omega)
      have HB6 : Hid (Below w.heap.size w w6) := Below.on _ HB5.out HB5.out.size hb
      have HR6 : Hid (Slice w6 ax capx r.l) := (HR5.out.alloc _).below hb
      clear hb HQ5 HF5 HX5 HB5 HS5 HR5 x0 x1 xf0 xf1 xl
      obtain ⟨x0, x1, xf0, xf1, xl, _⟩ := HX6.out
      go_wp2_with fail
      refine (get_any ax capx r.l other _ HG1.out.files (by exact HR6.out.cells.alloc _)).mono ?_
      rintro e w7 ⟨rfl, hb⟩
      rw [getV_eq]
      have HF7 : Hid (BoxF w7 w3.heap.size f) := (HF6.out.alloc _).below hb (by simp; have := HF6.out.lt; omega)
      have HG7 : Hid (BoxF w7 w5.heap.size ⟨name, text, f.k + 1⟩) := (HG6.out.alloc _).below hb (by simp; have := HG6.out.lt; omega)
      have HA7 : Hid (BoxF w7 w6.heap.size (getD' (getF lq other))) := (BoxF.new w6 _ _).below hb (by simp)
      have HB7 : Hid (Below w.heap.size w w7) := Below.on _ HB6.out HB6.out.size hb
      clear hb HF6 HG6 HX6 HB6 HR6 x0 x1 xf0 xf1 xl
      obtain ⟨f0, f1, f2, fl⟩ := HF7.out
      obtain ⟨g0, g1, g2, gl⟩ := HG7.out
      by_cases hon : other = name
      · have hE : (other.toList == name.toList) = true := beqB_true hon
        go_wp2
        all_goals
          go_ret
          exact ⟨by first | rfl | simp, HB7.out.alloc HB7.out.size _⟩
      · have hE : (other.toList == name.toList) = false := beqB_false hon
        rw [HG3.out other hon]
        generalize getD' (getF lq other) = z at *
        generalize (getF lq other).isSome = zb at *
        have hqz := fun w => run_eql_file z z w
        rw [(eqFi_iff z z).2 rfl] at hqz
        obtain ⟨a0, a1, a2, al⟩ := HA7.out
        go_wp2
        all_goals
          go_ret
          exact ⟨by first | rfl | simp, HB7.out.alloc HB7.out.size _⟩
    · rw [errV_pos hz]
      go_wp2
      go_ret
      exact ⟨rfl, HB4.out.alloc HB4.out.size _⟩

end Go.Proofs.Ytihnghnafpgdfaa
