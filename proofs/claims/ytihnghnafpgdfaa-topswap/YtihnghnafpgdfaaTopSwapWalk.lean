/-
  THE WALK OF TopSwap: it returns true, and writes nothing that was there.
-/
import Derived.Test.YtihnghnafpgdfaaTopBase
namespace Go.Proofs.Ytihnghnafpgdfaa
open Go.RowKit
set_option linter.unusedVariables false
set_option linter.unusedSimpArgs false

set_option maxRecDepth 100000 in
set_option maxHeartbeats 8000000 in
theorem topSwap_any (a : Option Addr) (cap : Nat) (l : List Ac) (na nb : ByteArray) (w : World) (hm : l.length ≤ maxLen) (hs : ActCells w a l) (hna : na.size ≤ maxLen) (hnb : nb.size ≤ maxLen) :
    Calls Try.prog 11 #[.slice a l.length cap, .string na, .string nb] w fun e w' => e = .returned (.bool true) ∧ Below w.heap.size w w' := by
  have HA : Hid (ActCells w a l) := hs
  clear hs
  have hna' := hna
  unfold maxLen at hna'
  have hnb' := hnb
  unfold maxLen at hnb'
  go_enter Try.func11, Try.ntmps11
  go_wp2_with fail
  refine (began_any _).mono ?_
  rintro e w1 ⟨rfl, hb1⟩
  have HB1 : Hid (Below w.heap.size w w1) := hb1
  clear hb1
  go_wp2_with fail
  refine (grown_any a cap l _ hm (HA.out.below HB1.out)).mono ?_
  rintro e w2 ⟨ok, aq, capq, lq, tq, rfl, hsq, hb, hgq⟩
  have HB2 : Hid (Below w.heap.size w w2) := HB1.out.trans (hb.mono HB1.out.size)
  have HSQ : Hid (Slice w2 aq capq lq) := hsq
  clear hb hsq HB1 HA
  cases ok with
  | false =>
    go_wp2
    go_ret
    exact ⟨rfl, HB2.out.alloc HB2.out.size _⟩
  | true =>
    have HGQ : Hid (GoodQ lq tq) := (hgq rfl).1
    have HLO : Hid (Low lq tq 60) := (hgq rfl).2
    clear hgq
    have h8 := HGQ.out.files.few
    by_cases hg0 : 20 < na.size
    · go_wp2
      go_ret
      exact ⟨rfl, HB2.out.alloc HB2.out.size _⟩
    by_cases hg1 : 20 < nb.size
    · go_wp2
      go_ret
      exact ⟨rfl, HB2.out.alloc HB2.out.size _⟩
    go_wp2_with fail
    refine (swap_any aq capq lq tq na nb _ HGQ.out (by exact HSQ.out.alloc _) hna hnb).mono ?_
    rintro e w3 ⟨ax, capx, rfl, hsx, hb⟩
    have HQ3 : Hid (QBox w3 w2.heap.size (.slice aq lq.length capq) tq) := (QBox.new w2 _ tq _).below hb (by simp)
    have HB3 : Hid (Below w.heap.size w w3) := Below.on _ HB2.out HB2.out.size hb
    have HS3 : Hid (Slice w3 aq capq lq) := (HSQ.out.alloc _).below hb
    have HX3 : Hid (Slice w3 ax capx (swapR lq tq na nb).l) := hsx
    clear hb hsx HSQ HB2
    by_cases hz : (swapR lq tq na nb).n = 0
    · have sw := (swapped_of HGQ.out hz).1
      have g1 := (swapped_of HGQ.out hz).2.1
      obtain ⟨y0, y1, y2, y3⟩ := swap_twice HGQ.out HLO.out hz
      rw [errV_zero hz]
      clear hz
      generalize swapR lq tq na nb = r at *
      have HG1 : Hid (GoodQ r.l r.t) := g1
      have HY0 : Hid ((swapR r.l r.t na nb).n = 0) := y0
      have HY1 : Hid ((swapR r.l r.t na nb).l.map Fi.n = lq.map Fi.n) := y1
      have HY2 : Hid ((swapR r.l r.t na nb).l.map Fi.t = lq.map Fi.t) := y2
      have HY3 : Hid (r.l.length = lq.length) := y3
      obtain ⟨f, g, h, k, q1, q2, q3, q4, t1, t2, _, _⟩ := sw.first
      have HP1 : Hid (getF lq na = some f) := q1
      have HP2 : Hid (getF lq nb = some g) := q2
      have HP3 : Hid (getF r.l na = some h) := q3
      have HP4 : Hid (getF r.l nb = some k) := q4
      have HT1 : Hid (h.t = g.t) := t1
      have HT2 : Hid (k.t = f.t) := t2
      clear g1 y0 y1 y2 y3 sw q1 q2 q3 q4 t1 t2
      obtain ⟨x0, x1, xf0, xf1, xl, _⟩ := HQ3.out
      go_wp2_with fail
      refine (get_any aq capq lq na _ HGQ.out.files (by exact HS3.out.cells.alloc _)).mono ?_
      rintro e w4 ⟨rfl, hb⟩
      rw [getV_eq, HP1.out]
      simp only [getD', Option.isSome_some]
      have HQ4 : Hid (QBox w4 w2.heap.size (.slice aq lq.length capq) tq) := (HQ3.out.alloc _).below hb (by simp; have := HQ3.out.lt; omega)
      have HR4 : Hid (QBox w4 w3.heap.size (.slice ax r.l.length capx) r.t) := (QBox.new w3 _ r.t _).below hb (by simp)
      have HB4 : Hid (Below w.heap.size w w4) := Below.on _ HB3.out HB3.out.size hb
      have HX4 : Hid (Slice w4 ax capx r.l) := (HX3.out.alloc _).below hb
      have HS4 : Hid (Slice w4 aq capq lq) := (HS3.out.alloc _).below hb
      clear hb HX3 HB3 HQ3 HS3 x0 x1 xf0 xf1 xl
      obtain ⟨x0, x1, xf0, xf1, xl, _⟩ := HQ4.out
      go_wp2_with fail
      refine (get_any aq capq lq nb _ HGQ.out.files (by exact HS4.out.cells.alloc _)).mono ?_
      rintro e w5 ⟨rfl, hb⟩
      rw [getV_eq, HP2.out]
      simp only [getD', Option.isSome_some]
      have HQ5 : Hid (QBox w5 w2.heap.size (.slice aq lq.length capq) tq) := (HQ4.out.alloc _).below hb (by simp; have := HQ4.out.lt; omega)
      have HR5 : Hid (QBox w5 w3.heap.size (.slice ax r.l.length capx) r.t) := (HR4.out.alloc _).below hb (by simp; have := HR4.out.lt; omega)
      have HF5 : Hid (BoxF w5 w4.heap.size f) := (BoxF.new w4 f _).below hb (by simp)
      have HB5 : Hid (Below w.heap.size w w5) := Below.on _ HB4.out HB4.out.size hb
      have HX5 : Hid (Slice w5 ax capx r.l) := (HX4.out.alloc _).below hb
      have HS5 : Hid (Slice w5 aq capq lq) := (HS4.out.alloc _).below hb
      clear hb HX4 HB4 HQ4 HR4 HS4 x0 x1 xf0 xf1 xl
      obtain ⟨x0, x1, xf0, xf1, xl, _⟩ := HR5.out
      go_wp2_with fail
      refine (get_any ax capx r.l na _ HG1.out.files (by exact HX5.out.cells.alloc _)).mono ?_
      rintro e w6 ⟨rfl, hb⟩
      rw [getV_eq, HP3.out]
      simp only [getD', Option.isSome_some]
      have HQ6 : Hid (QBox w6 w2.heap.size (.slice aq lq.length capq) tq) := (HQ5.out.alloc _).below hb (by simp; have := HQ5.out.lt; omega)
      have HR6 : Hid (QBox w6 w3.heap.size (.slice ax r.l.length capx) r.t) := (HR5.out.alloc _).below hb (by simp; have := HR5.out.lt; omega)
      have HF6 : Hid (BoxF w6 w4.heap.size f) := (HF5.out.alloc _).below hb (by simp; have := HF5.out.lt; omega)
      have HG6 : Hid (BoxF w6 w5.heap.size g) := (BoxF.new w5 g _).below hb (by simp)
      have HB6 : Hid (Below w.heap.size w w6) := Below.on _ HB5.out HB5.out.size hb
      have HX6 : Hid (Slice w6 ax capx r.l) := (HX5.out.alloc _).below hb
      have HS6 : Hid (Slice w6 aq capq lq) := (HS5.out.alloc _).below hb
      clear hb HX5 HB5 HQ5 HR5 HS5 HF5 x0 x1 xf0 xf1 xl
      obtain ⟨x0, x1, xf0, xf1, xl, _⟩ := HR6.out
      go_wp2_with fail
      refine (get_any ax capx r.l nb _ HG1.out.files (by exact HX6.out.cells.alloc _)).mono ?_
      rintro e w7 ⟨rfl, hb⟩
      rw [getV_eq, HP4.out]
      simp only [getD', Option.isSome_some]
      have HQ7 : Hid (QBox w7 w2.heap.size (.slice aq lq.length capq) tq) := (HQ6.out.alloc _).below hb (by simp; have := HQ6.out.lt; omega)
      have HR7 : Hid (QBox w7 w3.heap.size (.slice ax r.l.length capx) r.t) := (HR6.out.alloc _).below hb (by simp; have := HR6.out.lt; omega)
      have HF7 : Hid (BoxF w7 w4.heap.size f) := (HF6.out.alloc _).below hb (by simp; have := HF6.out.lt; omega)
      have HG7 : Hid (BoxF w7 w5.heap.size g) := (HG6.out.alloc _).below hb (by simp; have := HG6.out.lt; omega)
      have HH7 : Hid (BoxF w7 w6.heap.size h) := (BoxF.new w6 h _).below hb (by simp)
      have HB7 : Hid (Below w.heap.size w w7) := Below.on _ HB6.out HB6.out.size hb
      have HX7 : Hid (Slice w7 ax capx r.l) := (HX6.out.alloc _).below hb
      have HS7 : Hid (Slice w7 aq capq lq) := (HS6.out.alloc _).below hb
      clear hb HX6 HB6 HQ6 HR6 HS6 HF6 HG6 x0 x1 xf0 xf1 xl
      obtain ⟨x0, x1, xf0, xf1, xl, _⟩ := HQ7.out
      obtain ⟨r0, r1, rf0, rf1, rl, _⟩ := HR7.out
      obtain ⟨f0, f1, f2, fl⟩ := HF7.out
      obtain ⟨g0, g1, g2, gl⟩ := HG7.out
      obtain ⟨h0, h1, h2, hl⟩ := HH7.out
      have hE1 : (h.t.toList == g.t.toList) = true := beqB_true HT1.out
      have hE2 : (k.t.toList == f.t.toList) = true := beqB_true HT2.out
      have hE3 : ((r.l.length : Int) != (lq.length : Int)) = false := by simp [HY3.out]
      go_wp2_with fail
      refine (swap_any ax capx r.l r.t na nb _ HG1.out (by exact HX7.out.alloc _) hna hnb).mono ?_
      rintro e w8 ⟨ay, capy, rfl, hsy, hb⟩
      rw [errV_zero HY0.out]
      have HQ8 : Hid (QBox w8 w2.heap.size (.slice aq lq.length capq) tq) := (HQ7.out.alloc _).below hb (by simp; have := HQ7.out.lt; omega)
      have HB8 : Hid (Below w.heap.size w w8) := Below.on _ HB7.out HB7.out.size hb
      have HS8 : Hid (Slice w8 aq capq lq) := (HS7.out.alloc _).below hb
      have HZ8 : Hid (Slice w8 ay capy (swapR r.l r.t na nb).l) := hsy
      clear hb hsy HX7 HB7 HQ7 HR7 HS7 HF7 HG7 HH7 x0 x1 xf0 xf1 xl r0 r1 rf0 rf1 rl f0 f1 f2 fl g0 g1 g2 gl h0 h1 h2 hl hE1 hE2 hE3 HY0
      generalize swapR r.l r.t na nb = s at *
      have hsl : s.l.length = lq.length := by have := congrArg List.length HY1.out; simpa using this
      have HSL : Hid (s.l.length = lq.length) := hsl
      clear hsl
      obtain ⟨x0, x1, xf0, xf1, xl, _⟩ := HQ8.out
      go_wp2_with fail
      go_loopw [20] (fun i wr => ∃ k n : Nat, k ≤ lq.length ∧ i = .int .i64 k ∧ wr = (w8.alloc (.cells #[.slice ay s.l.length capy, .int .i64 s.t] 48)).drewN n) (fun i _ => lq.length - (intOf i).toNat)
      case atStart => exact ⟨0, 0, Nat.zero_le _, rfl, rfl⟩
      case round =>
        obtain ⟨k, n, hk, rfl, rfl⟩ := hrel
        by_cases hlt : k < lq.length
        · have hlt2 : k < s.l.length := by have := HSL.out; omega
          obtain ⟨b, off, rfl, c0, c1, c2⟩ := HS8.out.cells k hlt
          obtain ⟨b', off', rfl, d0, d1, d2⟩ := HZ8.out.cells k hlt2
          have en : s.l[k].n = lq[k].n := by
            have := List.getElem_of_eq HY1.out (i := k) (by simpa using hlt2)
            simpa using this
          have et : s.l[k].t = lq[k].t := by
            have := List.getElem_of_eq HY2.out (i := k) (by simpa using hlt2)
            simpa using this
          have hEn : (s.l[k].n.toList == lq[k].n.toList) = true := beqB_true en
          have hEt : (s.l[k].t.toList == lq[k].t.toList) = true := beqB_true et
          clear en et
          have hbl : b < w8.heap.size := World.block_lt_of_cell? _ _ c0
          have hbl' : b' < w8.heap.size := World.block_lt_of_cell? _ _ d0
          go_wp2
          go_quiet (fail)
          go_wp2
          exact ⟨⟨k + 1, _, by omega, by go_num, rfl⟩, by simp [intOf]; omega⟩
        · go_wp2
          go_ret
          refine ⟨rfl, ?_⟩
          exact below_drewN (HB8.out.alloc HB8.out.size _) _
    · rw [errV_pos hz]
      go_wp2
      go_ret
      exact ⟨rfl, HB3.out.alloc HB3.out.size _⟩

end Go.Proofs.Ytihnghnafpgdfaa
