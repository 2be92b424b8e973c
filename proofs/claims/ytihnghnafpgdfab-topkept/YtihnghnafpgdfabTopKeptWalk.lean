/-
  THE WALK OF TopKept: it returns true, and writes nothing that was there.
-/
import Derived.Test.YtihnghnafpgdfabTopBase
import Derived.Test.YtihnghnafpgdfabAppendCopy
namespace Go.Proofs.Ytihnghnafpgdfab
open Go.RowKit
set_option linter.unusedVariables false
set_option linter.unusedSimpArgs false

/-- An act's box, to be read. -/
structure BoxA (W : World) (B : Nat) (y : Ac) : Prop where
  c0 : W.cell? ⟨B, 0, none⟩ = some (.string y.kind)
  c1 : W.cell? ⟨B, 1, none⟩ = some (.string y.s)
  c2 : W.cell? ⟨B, 2, none⟩ = some (.string y.t)
  c3 : W.cell? ⟨B, 3, none⟩ = some (.int .i64 y.n)
  c4 : W.cell? ⟨B, 4, none⟩ = some (.int .u64 y.k)
  c5 : W.cell? ⟨B, 5, none⟩ = some (.slice y.ca y.cl.length y.cc)
  lt : B < W.heap.size
theorem BoxA.below {W W' : World} {B C : Nat} {y : Ac} (h : BoxA W B y) (hb : Below C W W') (hC : B < C) : BoxA W' B y :=
  ⟨by rw [hb.cell (p := ⟨B, 0, none⟩) hC]; exact h.c0, by rw [hb.cell (p := ⟨B, 1, none⟩) hC]; exact h.c1, by rw [hb.cell (p := ⟨B, 2, none⟩) hC]; exact h.c2, by rw [hb.cell (p := ⟨B, 3, none⟩) hC]; exact h.c3, by rw [hb.cell (p := ⟨B, 4, none⟩) hC]; exact h.c4, by rw [hb.cell (p := ⟨B, 5, none⟩) hC]; exact h.c5, Nat.lt_of_lt_of_le h.lt hb.size⟩
theorem BoxA.alloc {W : World} {B : Nat} {y : Ac} (h : BoxA W B y) (o : Obj) : BoxA (W.alloc o) B y :=
  h.below ((Below.refl _ _).alloc (Nat.le_refl _) o) h.lt
theorem BoxA.new (W : World) (y : Ac) (ty : TypeId) : BoxA (W.alloc (.cells #[.string y.kind, .string y.s, .string y.t, .int .i64 y.n, .int .u64 y.k, .slice y.ca y.cl.length y.cc] ty)) W.heap.size y :=
  ⟨by simp [go_sem], by simp [go_sem], by simp [go_sem], by simp [go_sem], by simp [go_sem], by simp [go_sem], by simp⟩
theorem AcOk.below {w w' : World} {y : Ac} (h : AcOk w y) (hb : Below w.heap.size w w') : AcOk w' y := ⟨h.kind, h.s, h.t, h.few, h.cells.below hb⟩
theorem ActCells.one {W : World} {B : Nat} {y : Ac} (h : BoxA W B y) (ok : AcOk W y) : ActCells W (some ⟨B, 0, none⟩) [y] := by
  intro i hi
  have e : i = 0 := by simp at hi; omega
  subst e
  exact ⟨B, 0, rfl, ⟨h.c0, h.c1, h.c2, h.c3, h.c4, h.c5⟩, ok⟩

set_option maxRecDepth 100000 in
set_option maxHeartbeats 4000000 in
theorem topKept_any (a : Option Addr) (cap : Nat) (l : List Ac) (y : Ac) (w : World) (hm : l.length ≤ maxLen) (hs : ActCells w a l) (hy : AcOk w y) :
    Calls Try.prog 3 #[.slice a l.length cap, y.v] w fun e w' => e = .returned (.bool true) ∧ Below w.heap.size w w' := by
  have HA : Hid (ActCells w a l) := hs
  have HY : Hid (AcOk w y) := hy
  clear hs hy
  go_enter Try.func3, Try.ntmps3
  go_wp2_with fail
  refine (began_any _).mono ?_
  rintro e w1 ⟨rfl, hb1⟩
  have HB1 : Hid (Below w.heap.size w w1) := ((Below.refl _ _).alloc (Nat.le_refl _) _).trans (hb1.mono (by simp))
  have HP1 : Hid (BoxA w1 w.heap.size y) := (BoxA.new w y _).below hb1 (by simp)
  clear hb1
  go_wp2_with fail
  refine (grown_any a cap l _ hm (HA.out.below HB1.out)).mono ?_
  rintro e w2 ⟨ok, aq, capq, lq, tq, rfl, hsq, hb, hgq⟩
  have HB2 : Hid (Below w.heap.size w w2) := HB1.out.trans (hb.mono HB1.out.size)
  have HP2 : Hid (BoxA w2 w.heap.size y) := HP1.out.below hb HP1.out.lt
  have HSQ : Hid (Slice w2 aq capq lq) := hsq
  clear hb hsq HB1 HA HP1
  cases ok with
  | false =>
    go_wp2
    go_ret
    exact ⟨rfl, HB2.out.alloc HB2.out.size _⟩
  | true =>
    have HGQ : Hid (GoodQ lq tq) := (hgq rfl).1
    clear hgq
    have h8 := HGQ.out.files.few
    obtain ⟨p0, p1, p2, p3, p4, p5, pl⟩ := HP2.out
    have hcells : ActCells ((w2.alloc (.cells #[.slice aq lq.length capq, .int .i64 tq] 30)).alloc (.cells #[.string y.kind, .string y.s, .string y.t, .int .i64 y.n, .int .u64 y.k, .slice y.ca y.cl.length y.cc] 26)) (some ⟨w2.heap.size + 1, 0, none⟩) [y] := by
      have h1 := BoxA.new (w2.alloc (.cells #[.slice aq lq.length capq, .int .i64 tq] 30)) y 26
      rw [World.size_alloc] at h1
      exact ActCells.one h1 (HY.out.below ((HB2.out.alloc HB2.out.size _).alloc (by simp; have := HB2.out.size; omega) _))
    have HCE := hcells
    have HCELLS : Hid (ActCells _ (some ⟨w2.heap.size + 1, 0, none⟩) [y]) := HCE
    clear hcells HCE
    go_wp2_with fail
    refine (lightActs_any (some ⟨w2.heap.size + 1, 0, none⟩) 1 [y] 1 _ (by simp [maxLen]) (by decide) HCELLS.out).mono ?_
    rintro e w' ⟨⟨lb, rfl, hlb⟩, hw⟩
    rw [hw]
    clear hw w'
    cases lb with
    | false =>
      clear hlb
      go_wp2
      go_ret
      exact ⟨rfl, (HB2.out.alloc HB2.out.size _).alloc (by simp; have := HB2.out.size; omega) _⟩
    | true =>
      obtain ⟨hs1, hs2⟩ := (hlb rfl).2 y (by simp)
      have hm1 : y.s.size ≤ maxLen := by unfold maxLen; omega
      have hm2 : y.t.size ≤ maxLen := by unfold maxLen; omega
      clear hlb hs1 hs2
      have HQW : Hid (QBox ((w2.alloc (.cells #[.slice aq lq.length capq, .int .i64 tq] 30)).alloc (.cells #[.string y.kind, .string y.s, .string y.t, .int .i64 y.n, .int .u64 y.k, .slice y.ca y.cl.length y.cc] 26)) w2.heap.size (.slice aq lq.length capq) tq) := (QBox.new w2 _ tq _).alloc _
      have HPW : Hid (BoxA ((w2.alloc (.cells #[.slice aq lq.length capq, .int .i64 tq] 30)).alloc (.cells #[.string y.kind, .string y.s, .string y.t, .int .i64 y.n, .int .u64 y.k, .slice y.ca y.cl.length y.cc] 26)) w.heap.size y) := (HP2.out.alloc _).alloc _
      have HSW : Hid (Slice ((w2.alloc (.cells #[.slice aq lq.length capq, .int .i64 tq] 30)).alloc (.cells #[.string y.kind, .string y.s, .string y.t, .int .i64 y.n, .int .u64 y.k, .slice y.ca y.cl.length y.cc] 26)) aq capq lq) := (HSQ.out.alloc _).alloc _
      have HBW : Hid (Below w.heap.size w ((w2.alloc (.cells #[.slice aq lq.length capq, .int .i64 tq] 30)).alloc (.cells #[.string y.kind, .string y.s, .string y.t, .int .i64 y.n, .int .u64 y.k, .slice y.ca y.cl.length y.cc] 26))) := (HB2.out.alloc HB2.out.size _).alloc (by simp; have := HB2.out.size; omega) _
      clear HB2 HP2 HSQ HCELLS p0 p1 p2 p3 p4 p5 pl
      generalize (w2.alloc (.cells #[.slice aq lq.length capq, .int .i64 tq] 30)).alloc (.cells #[.string y.kind, .string y.s, .string y.t, .int .i64 y.n, .int .u64 y.k, .slice y.ca y.cl.length y.cc] 26) = V at *
      obtain ⟨x0, x1, _, _, xl, _⟩ := HQW.out
      go_wp2_with (first
        | (at_builtin
           refine wpList_copy rfl _ _ rfl _ aq capq lq (by omega) HSW.out rfl rfl ?_
           intro v w3 hown hb
           obtain ⟨av, capv, rfl, hsv⟩ := hown.slice
           have HV3 : Hid (Slice w3 av capv lq) := hsv
           have HQ3 : Hid (QBox w3 w2.heap.size (.slice aq lq.length capq) tq) := HQW.out.below hb HQW.out.lt
           have HP3 : Hid (BoxA w3 w.heap.size y) := HPW.out.below hb HPW.out.lt
           have HS3 : Hid (Slice w3 aq capq lq) := HSW.out.below hb
           have HB3 : Hid (Below w.heap.size w w3) := HBW.out.trans (hb.mono HBW.out.size)
           obtain ⟨q0, q1, _, _, ql, _⟩ := HQ3.out
           obtain ⟨p0, p1, p2, p3, p4, p5, pl⟩ := HP3.out
           clear hown hb hsv)
        | (go_at_call 15
           refine (do_any aq capq lq tq y _ HGQ.out HS3.out hm1 hm2).mono ?_
           rintro e w4 ⟨a4, cap4, rfl, _, hb⟩
           have HV4 : Hid (Slice w4 av capv lq) := HV3.out.below hb
           have HQ4 : Hid (QBox w4 w2.heap.size (.slice aq lq.length capq) tq) := HQ3.out.below hb HQ3.out.lt
           have HS4 : Hid (Slice w4 aq capq lq) := HS3.out.below hb
           have HB4 : Hid (Below w.heap.size w w4) := HB3.out.trans (hb.mono HB3.out.size)
           obtain ⟨r0, r1, _, _, rl, _⟩ := HQ4.out
           clear hb)
        | (go_at_call 16
           refine (sameFiles_any aq av capq capv lq lq _ (few_good HGQ.out.files) (few_good HGQ.out.files) HS4.out.cells HV4.out.cells).mono ?_
           rintro e w' ⟨rfl, n, hw⟩
           rw [hw, (sameL_iff lq lq).2 rfl]
           clear hw w'))
      go_ret
      exact ⟨rfl, below_drewN HB4.out _⟩

end Go.Proofs.Ytihnghnafpgdfab
