/-
  THE WALK OF TopFew: it returns true, and writes nothing that was there.
-/
import Derived.Test.YtihnghnafpgdfaaGrown
import Derived.Test.YtihnghnafpgdfaaTopPure
namespace Go.Proofs.Ytihnghnafpgdfaa
open Go.RowKit
set_option linter.unusedVariables false
set_option linter.unusedSimpArgs false

set_option maxRecDepth 100000 in
set_option maxHeartbeats 8000000 in
theorem topFew_any (a : Option Addr) (cap : Nat) (l : List Ac) (name text : ByteArray) (w : World) (hm : l.length ≤ maxLen) (hs : ActCells w a l) (hn : name.size ≤ maxLen) (hx : text.size ≤ maxLen) :
    Calls Try.prog 13 #[.slice a l.length cap, .string name, .string text] w fun e w' => e = .returned (.bool true) ∧ Below w.heap.size w w' := by
  have HA : Hid (ActCells w a l) := hs
  clear hs
  have hn' := hn
  have hx' := hx
  unfold maxLen at hn' hx'
  go_enter Try.func13, Try.ntmps13
  go_wp2_with fail
  refine (began_any _).mono ?_
  rintro e w1 ⟨rfl, hb1⟩
  have HB1 : Hid (Below w.heap.size w w1) := hb1
  clear hb1
  go_wp2_with fail
  refine (grown_any a cap l _ hm (HA.out.below HB1.out)).mono ?_
  rintro e w2 ⟨ok, aq, capq, lq, tq, rfl, hsq, hb, hgq⟩
  have HB2 : Hid (Below w.heap.size w w2) := HB1.out.trans (hb.mono HB1.out.size)
  have HSQ : Hid (Slice w2 aq capq lq) := hsq
  clear hb hsq HB1 HA
  cases ok with
  | false =>
    go_wp2
    go_ret
    exact ⟨rfl, HB2.out.alloc HB2.out.size _⟩
  | true =>
    have HGQ : Hid (GoodQ lq tq) := (hgq rfl).1
    have HLO : Hid (Low lq tq 60) := (hgq rfl).2
    clear hgq
    have h8 := HGQ.out.files.few
    by_cases hn20 : 20 < name.size
    · go_wp2
      go_ret
      exact ⟨rfl, HB2.out.alloc HB2.out.size _⟩
    · by_cases hx40 : 40 < text.size
      · go_wp2
        go_ret
        exact ⟨rfl, HB2.out.alloc HB2.out.size _⟩
      · go_wp2_with fail
        refine (get_any aq capq lq name _ HGQ.out.files (by exact HSQ.out.cells.alloc _)).mono ?_
        rintro e w3 ⟨rfl, hb⟩
        have HQ3 : Hid (QBox w3 w2.heap.size (.slice aq lq.length capq) tq) := (QBox.new w2 _ tq _).below hb (by simp)
        have HB3 : Hid (Below w.heap.size w w3) := (HB2.out.alloc HB2.out.size _).trans (hb.mono (by simp; have := HB2.out.size; omega))
        have HS3 : Hid (Slice w3 aq capq lq) := (HSQ.out.below ((Below.refl _ _).alloc (Nat.le_refl _) (.cells #[.slice aq lq.length capq, .int .i64 tq] 48))).below hb
        clear hb HSQ HB2
        obtain ⟨x0, x1, xf0, xf1, xl, _⟩ := HQ3.out
        rw [getV_eq]
        cases hgf : getF lq name with
        | none =>
          have HMANY : Hid (lq.length = 8 → ¬ (writeR lq tq name text).n = 0) := write_many HGQ.out text hgf
          have hr := range_of_fine (write_fine HGQ.out name text)
          clear hgf
          simp only [getD', Option.isSome_none]
          go_wp2_with fail
          refine (write_any aq capq lq tq name text _ HGQ.out (by exact HS3.out.below ((Below.refl _ _).alloc (Nat.le_refl _) _)) hn hx).mono ?_
          rintro e w4 ⟨ar, capr, rfl, hsr, hb⟩
          have HQ4 : Hid (QBox w4 w2.heap.size (.slice aq lq.length capq) tq) := (HQ3.out.alloc _).below hb (by simp; omega)
          have HB4 : Hid (Below w.heap.size w w4) := (HB3.out.alloc HB3.out.size _).trans (hb.mono (by simp; have := HB3.out.size; omega))
          clear hb hsr x0 x1 xf0 xf1 xl
          obtain ⟨x0, x1, xf0, xf1, xl, _⟩ := HQ4.out
          generalize writeR lq tq name text = r at *
          by_cases hl8 : lq.length = 8
          · rw [errV_pos (by have := HMANY.out hl8; omega)]
            go_wp2
            go_ret
            exact ⟨rfl, HB4.out.alloc HB4.out.size _⟩
          · go_wp2
            go_ret
            exact ⟨rfl, HB4.out.alloc HB4.out.size _⟩
        | some f =>
          have HTH : Hid ((writeR lq tq name text).n = 0 ↔ text.size ≤ 12) := write_there HGQ.out HLO.out text hgf
          have hr := range_of_fine (write_fine HGQ.out name text)
          clear hgf
          simp only [getD', Option.isSome_some]
          go_wp2_with fail
          refine (write_any aq capq lq tq name text _ HGQ.out (by exact HS3.out.below ((Below.refl _ _).alloc (Nat.le_refl _) _)) hn hx).mono ?_
          rintro e w4 ⟨ar, capr, rfl, hsr, hb⟩
          have HQ4 : Hid (QBox w4 w2.heap.size (.slice aq lq.length capq) tq) := (HQ3.out.alloc _).below hb (by simp; omega)
          have HB4 : Hid (Below w.heap.size w w4) := (HB3.out.alloc HB3.out.size _).trans (hb.mono (by simp; have := HB3.out.size; omega))
          clear hb hsr x0 x1 xf0 xf1 xl
          obtain ⟨x0, x1, xf0, xf1, xl, _⟩ := HQ4.out
          generalize writeR lq tq name text = r at *
          by_cases hx12 : text.size ≤ 12
          · rw [errV_zero (HTH.out.2 hx12)]
            go_wp2
            all_goals
              go_ret
              refine ⟨?_, HB4.out.alloc HB4.out.size _⟩
              have hd : ((text.size : Int) ≤ 12) = (text.size ≤ 12) := by simp; omega
              simp [hd, hx12]
          · rw [errV_pos (by have : ¬ r.n = 0 := fun h => hx12 (HTH.out.1 h); omega)]
            go_wp2
            all_goals
              go_ret
              refine ⟨?_, HB4.out.alloc HB4.out.size _⟩
              have hd : ((text.size : Int) ≤ 12) = (text.size ≤ 12) := by simp; omega
              simp [hd, hx12]

end Go.Proofs.Ytihnghnafpgdfaa
