/-
  THE WALK OF TopDropped: it returns true, and writes nothing that was there.
-/
import Derived.Test.YtihnghnafpgdfaaTopBase
namespace Go.Proofs.Ytihnghnafpgdfaa
open Go.RowKit
set_option linter.unusedVariables false
set_option linter.unusedSimpArgs false

set_option maxRecDepth 100000 in
set_option maxHeartbeats 8000000 in
theorem topDropped_any (a : Option Addr) (cap : Nat) (l : List Ac) (name : ByteArray) (w : World) (hm : l.length ≤ maxLen) (hs : ActCells w a l) (hname : name.size ≤ maxLen) :
    Calls Try.prog 12 #[.slice a l.length cap, .string name] w fun e w' => e = .returned (.bool true) ∧ Below w.heap.size w w' := by
  have HA : Hid (ActCells w a l) := hs
  clear hs
  have hname' := hname
  unfold maxLen at hname'
  go_enter Try.func12, Try.ntmps12
  go_wp2_with fail
  refine (began_any _).mono ?_
  rintro e w1 ⟨rfl, hb1⟩
  have HB1 : Hid (Below w.heap.size w w1) := hb1
  clear hb1
  go_wp2_with fail
  refine (grown_any a cap l _ hm (HA.out.below HB1.out)).mono ?_
  rintro e w2 ⟨ok, aq, capq, lq, tq, rfl, hsq, hb, hgq⟩
  have HB2 : Hid (Below w.heap.size w w2) := HB1.out.trans (hb.mono HB1.out.size)
  have HSQ : Hid (Slice w2 aq capq lq) := hsq
  clear hb hsq HB1 HA
  cases ok with
  | false =>
    go_wp2
    go_ret
    exact ⟨rfl, HB2.out.alloc HB2.out.size _⟩
  | true =>
    have HGQ : Hid (GoodQ lq tq) := (hgq rfl).1
    have HLO : Hid (Low lq tq 60) := (hgq rfl).2
    clear hgq
    have h8 := HGQ.out.files.few
    by_cases hg0 : 20 < name.size
    · go_wp2
      go_ret
      exact ⟨rfl, HB2.out.alloc HB2.out.size _⟩
    go_wp2_with fail
    refine (dropQ_any aq capq lq tq name _ HGQ.out (by exact HSQ.out.alloc _)).mono ?_
    rintro e w3 ⟨ax, capx, rfl, hsx, hb⟩
    have HQ3 : Hid (QBox w3 w2.heap.size (.slice aq lq.length capq) tq) := (QBox.new w2 _ tq _).below hb (by simp)
    have HB3 : Hid (Below w.heap.size w w3) := Below.on _ HB2.out HB2.out.size hb
    have HS3 : Hid (Slice w3 aq capq lq) := (HSQ.out.alloc _).below hb
    have HX3 : Hid (Slice w3 ax capx (dropR' lq tq name).l) := hsx
    clear hb hsx HSQ HB2
    obtain ⟨x0, x1, xf0, xf1, xl, _⟩ := HQ3.out
    have hr := range_of_fine (drop_fine HGQ.out name)
    by_cases hz : (dropR' lq tq name).n = 0
    · obtain ⟨g1, g2, g3, g4, g5, g6⟩ := drop_write HGQ.out HLO.out ⟨#[110, 101, 119]⟩ (by decide) hz
      rw [errV_zero hz]
      clear hz hr
      generalize dropR' lq tq name = r at *
      have HG1 : Hid (GoodQ r.l r.t) := g1
      have HG2 : Hid (getF r.l name = none) := g2
      have HG3 : Hid (GoodQ (writeR r.l r.t name ⟨#[110, 101, 119]⟩).l (writeR r.l r.t name ⟨#[110, 101, 119]⟩).t) := g3
      have HG4 : Hid ((writeR r.l r.t name ⟨#[110, 101, 119]⟩).n = 0) := g4
      have HG5 : Hid (getF (writeR r.l r.t name ⟨#[110, 101, 119]⟩).l name = some ⟨name, ⟨#[110, 101, 119]⟩, 1⟩) := g5
      have HG6 : Hid ((writeR r.l r.t name ⟨#[110, 101, 119]⟩).l.length = lq.length) := g6
      clear g1 g2 g3 g4 g5 g6
      go_wp2_with fail
      refine (get_any ax capx r.l name _ HG1.out.files (by exact HX3.out.cells.alloc _)).mono ?_
      rintro e w4 ⟨rfl, hb⟩
      rw [getV_eq, HG2.out]
      simp only [getD', Option.isSome_none]
      have HQ4 : Hid (QBox w4 w2.heap.size (.slice aq lq.length capq) tq) := (HQ3.out.alloc _).below hb (by simp; omega)
      have HY4 : Hid (QBox w4 w3.heap.size (.slice ax r.l.length capx) r.t) := (QBox.new w3 _ r.t _).below hb (by simp)
      have HB4 : Hid (Below w.heap.size w w4) := Below.on _ HB3.out HB3.out.size hb
      have HX4 : Hid (Slice w4 ax capx r.l) := (HX3.out.alloc _).below hb
      clear hb HX3 HB3 HQ3 HS3 x0 x1 xf0 xf1 xl
      obtain ⟨x0, x1, xf0, xf1, xl, _⟩ := HQ4.out
      obtain ⟨y0, y1, yf0, yf1, yl, _⟩ := HY4.out
      go_wp2_with fail
      refine (write_any ax capx r.l r.t name ⟨#[110, 101, 119]⟩ _ HG1.out (by exact HX4.out.alloc _) hname (by decide)).mono ?_
      rintro e w5 ⟨ay, capy, rfl, hsy, hb⟩
      rw [errV_zero HG4.out]
      have HQ5 : Hid (QBox w5 w2.heap.size (.slice aq lq.length capq) tq) := (HQ4.out.alloc _).below hb (by simp; omega)
      have HB5 : Hid (Below w.heap.size w w5) := Below.on _ HB4.out HB4.out.size hb
      have HY5 : Hid (Slice w5 ay capy (writeR r.l r.t name ⟨#[110, 101, 119]⟩).l) := hsy
      clear hb hsy HX4 HB4 HQ4 HY4 x0 x1 xf0 xf1 xl y0 y1 yf0 yf1 yl HG4
      generalize writeR r.l r.t name ⟨#[110, 101, 119]⟩ = s at *
      obtain ⟨x0, x1, xf0, xf1, xl, _⟩ := HQ5.out
      go_wp2_with fail
      refine (get_any ay capy s.l name _ HG3.out.files (by exact HY5.out.cells.alloc _)).mono ?_
      rintro e w6 ⟨rfl, hb⟩
      rw [getV_eq, HG5.out]
      simp only [getD', Option.isSome_some]
      have HQ6 : Hid (QBox w6 w2.heap.size (.slice aq lq.length capq) tq) := (HQ5.out.alloc _).below hb (by simp; omega)
      have HY6 : Hid (QBox w6 w5.heap.size (.slice ay s.l.length capy) s.t) := (QBox.new w5 _ s.t _).below hb (by simp)
      have HB6 : Hid (Below w.heap.size w w6) := Below.on _ HB5.out HB5.out.size hb
      clear hb HY5 HB5 HQ5 x0 x1 xf0 xf1 xl
      obtain ⟨x0, x1, xf0, xf1, xl, _⟩ := HQ6.out
      obtain ⟨y0, y1, yf0, yf1, yl, _⟩ := HY6.out
      have hlen : ((s.l.length : Int) == (lq.length : Int)) = true := by simp [HG6.out]
      go_wp2
      all_goals
        go_ret
        exact ⟨by first | rfl | simp [HG6.out], HB6.out.alloc HB6.out.size _⟩
    · obtain ⟨g1, g2⟩ := dropR_none HGQ.out HLO.out hz
      rw [errV_pos hz]
      generalize dropR' lq tq name = r at *
      have HG1 : Hid (getF lq name = none) := g1
      have HG2 : Hid (r.n = 5) := g2
      clear g1 g2
      go_wp2_with fail
      refine (get_any aq capq lq name _ HGQ.out.files (by exact HS3.out.cells.alloc _)).mono ?_
      rintro e w4 ⟨rfl, hb⟩
      rw [getV_eq, HG1.out]
      simp only [getD', Option.isSome_none]
      have HB4 : Hid (Below w.heap.size w w4) := Below.on _ HB3.out HB3.out.size hb
      clear hb HX3 HB3 HQ3 HS3 x0 x1 xf0 xf1 xl
      go_wp2_with (go_at_call 52; refine (number_any r.n _ hz hr).mono ?_; rintro e w' ⟨rfl, hw⟩; rw [hw, HG2.out]; clear hw w')
      all_goals
        go_ret
        exact ⟨rfl, HB4.out.alloc HB4.out.size _⟩

end Go.Proofs.Ytihnghnafpgdfaa
