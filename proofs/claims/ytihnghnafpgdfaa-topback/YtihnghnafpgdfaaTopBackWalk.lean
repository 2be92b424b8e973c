/-
  THE WALK OF TopBack: it returns true, and writes nothing that was there.
-/
import Derived.Test.YtihnghnafpgdfaaTopBase
namespace Go.Proofs.Ytihnghnafpgdfaa
open Go.RowKit
set_option linter.unusedVariables false
set_option linter.unusedSimpArgs false

set_option maxRecDepth 100000 in
set_option maxHeartbeats 8000000 in
theorem topBack_any (a : Option Addr) (cap : Nat) (l : List Ac) (na nb : ByteArray) (w : World) (hm : l.length ≤ maxLen) (hs : ActCells w a l) (hna : na.size ≤ maxLen) (hnb : nb.size ≤ maxLen) :
    Calls Try.prog 10 #[.slice a l.length cap, .string na, .string nb] w fun e w' => e = .returned (.bool true) ∧ Below w.heap.size w w' := by
  have HA : Hid (ActCells w a l) := hs
  clear hs
  have hna' := hna
  unfold maxLen at hna'
  have hnb' := hnb
  unfold maxLen at hnb'
  go_enter Try.func10, Try.ntmps10
  go_wp2_with fail
  refine (began_any _).mono ?_
  rintro e w1 ⟨rfl, hb1⟩
  have HB1 : Hid (Below w.heap.size w w1) := hb1
  clear hb1
  go_wp2_with fail
  refine (grown_any a cap l _ hm (HA.out.below HB1.out)).mono ?_
  rintro e w2 ⟨ok, aq, capq, lq, tq, rfl, hsq, hb, hgq⟩
  have HB2 : Hid (Below w.heap.size w w2) := HB1.out.trans (hb.mono HB1.out.size)
  have HSQ : Hid (Slice w2 aq capq lq) := hsq
  clear hb hsq HB1 HA
  cases ok with
  | false =>
    go_wp2
    go_ret
    exact ⟨rfl, HB2.out.alloc HB2.out.size _⟩
  | true =>
    have HGQ : Hid (GoodQ lq tq) := (hgq rfl).1
    have HLO : Hid (Low lq tq 60) := (hgq rfl).2
    clear hgq
    have h8 := HGQ.out.files.few
    by_cases hg0 : 20 < na.size
    · go_wp2
      go_ret
      exact ⟨rfl, HB2.out.alloc HB2.out.size _⟩
    by_cases hg1 : 20 < nb.size
    · go_wp2
      go_ret
      exact ⟨rfl, HB2.out.alloc HB2.out.size _⟩
    go_wp2_with fail
    refine (rename_any aq capq lq tq na nb _ HGQ.out (by exact HSQ.out.alloc _) hna hnb).mono ?_
    rintro e w3 ⟨ax, capx, rfl, hsx, hb⟩
    have HQ3 : Hid (QBox w3 w2.heap.size (.slice aq lq.length capq) tq) := (QBox.new w2 _ tq _).below hb (by simp)
    have HB3 : Hid (Below w.heap.size w w3) := Below.on _ HB2.out HB2.out.size hb
    have HS3 : Hid (Slice w3 aq capq lq) := (HSQ.out.alloc _).below hb
    have HX3 : Hid (Slice w3 ax capx (renameR lq tq na nb).l) := hsx
    clear hb hsx HSQ HB2
    have hr := range_of_fine (rename_fine HGQ.out na nb)
    have ht1 := HLO.out.1
    have ht0 := HGQ.out.low
    by_cases hz : (renameR lq tq na nb).n = 0
    · obtain ⟨g1, g2, g3⟩ := rename_back HGQ.out HLO.out hz
      rw [errV_zero hz]
      clear hz hr
      generalize renameR lq tq na nb = r at *
      have HG1 : Hid (GoodQ r.l r.t) := g1
      have HG2 : Hid (getF r.l na = none) := g2
      have HG3 : Hid (renameR r.l r.t nb na = ⟨lq, tq + 2, 0⟩) := g3
      clear g1 g2 g3
      go_wp2_with fail
      refine (get_any ax capx r.l na _ HG1.out.files (by exact HX3.out.cells.alloc _)).mono ?_
      rintro e w4 ⟨rfl, hb⟩
      rw [getV_eq, HG2.out]
      simp only [getD', Option.isSome_none]
      have HQ4 : Hid (QBox w4 w2.heap.size (.slice aq lq.length capq) tq) := (HQ3.out.alloc _).below hb (by simp; have := HQ3.out.lt; omega)
      have HY4 : Hid (QBox w4 w3.heap.size (.slice ax r.l.length capx) r.t) := (QBox.new w3 _ r.t _).below hb (by simp)
      have HB4 : Hid (Below w.heap.size w w4) := Below.on _ HB3.out HB3.out.size hb
      have HX4 : Hid (Slice w4 ax capx r.l) := (HX3.out.alloc _).below hb
      have HS4 : Hid (Slice w4 aq capq lq) := (HS3.out.alloc _).below hb
      clear hb HX3 HB3 HQ3 HS3
      obtain ⟨y0, y1, yf0, yf1, yl, _⟩ := HY4.out
      go_wp2_with fail
      refine (rename_any ax capx r.l r.t nb na _ HG1.out (by exact HX4.out.alloc _) hnb hna).mono ?_
      rintro e w5 ⟨ay, capy, rfl, hsy, hb⟩
      rw [HG3.out] at hsy ⊢
      rw [errV_zero rfl]
      have HQ5 : Hid (QBox w5 w2.heap.size (.slice aq lq.length capq) tq) := (HQ4.out.alloc _).below hb (by simp; have := HQ4.out.lt; omega)
      have HB5 : Hid (Below w.heap.size w w5) := Below.on _ HB4.out HB4.out.size hb
      have HS5 : Hid (Slice w5 aq capq lq) := (HS4.out.alloc _).below hb
      have HY5 : Hid (Slice w5 ay capy lq) := hsy
      clear hb hsy HX4 HB4 HQ4 HY4 HS4 y0 y1 yf0 yf1 yl
      obtain ⟨x0, x1, xf0, xf1, xl, _⟩ := HQ5.out
      have hE : IntKind.i64.wrap (tq + 2) = tq + 2 := by rw [IntKind.wrap_i64]; omega
      go_wp2_with fail
      refine (sameFiles_any ay aq capy capq lq lq _ (few_good HGQ.out.files) (few_good HGQ.out.files) (by exact HY5.out.cells.alloc _) (by exact HS5.out.cells.alloc _)).mono ?_
      rintro e w' ⟨rfl, n, hw⟩
      rw [hw, (sameL_iff lq lq).2 rfl]
      clear hw w'
      go_wp2
      all_goals
        go_ret
        refine ⟨by first | rfl | simp, ?_⟩
        exact below_drewN (HB5.out.alloc HB5.out.size _) _
    · rw [errV_pos hz]
      go_wp2
      go_ret
      exact ⟨rfl, HB3.out.alloc HB3.out.size _⟩

end Go.Proofs.Ytihnghnafpgdfaa
