/-
  THE WALKS OF began AND grown.
-/
import Derived.Test.YtihnghnafpgdfabDoLow
import Derived.Deep.RegionWith
namespace Go.Proofs.Ytihnghnafpgdfab
open Go.RowKit
set_option linter.unusedVariables false
set_option linter.unusedSimpArgs false

set_option maxRecDepth 100000 in
set_option maxHeartbeats 1000000 in
theorem began_any (w : World) : Calls Try.prog 12 #[] w fun e w' => e = .returned (.bool true) ∧ Below w.heap.size w w' := by
  go_enter Try.func12, Try.ntmps12
  go_wp2_with fail
  refine (new_any _).mono ?_
  rintro e w1 ⟨rfl, hb1⟩
  have HB1 : Hid (Below w.heap.size w w1) := hb1
  clear hb1
  go_wp2_with fail
  refine (write_any none 0 [] 1 ⟨#[97]⟩ ⟨#[120]⟩ _ new_good (noSlice _) (by decide) (by decide)).mono ?_
  rintro e w2 ⟨a, cap, rfl, hs, hb⟩
  have e1 : writeR [] 1 ⟨#[97]⟩ ⟨#[120]⟩ = ⟨[⟨⟨#[97]⟩, ⟨#[120]⟩, 1⟩], 2, 0⟩ := by
    have hw : writeF [] ⟨#[97]⟩ ⟨#[120]⟩ = ⟨⟨#[97]⟩, ⟨#[120]⟩, 1⟩ := rfl
    have hp : putN [] ⟨⟨#[97]⟩, ⟨#[120]⟩, 1⟩ = 0 := by have := fa_good; unfold fa at this; simp [putN, this]
    have hl : putL [] ⟨⟨#[97]⟩, ⟨#[120]⟩, 1⟩ = [⟨⟨#[97]⟩, ⟨#[120]⟩, 1⟩] := by simp [putL, hp, putF, posF]
    unfold writeR
    rw [hw, hp, hl]
    simp [nextR, turnR]
  rw [e1]
  rw [e1] at hs
  have HB2 : Hid (Below w.heap.size w w2) := HB1.out.trans (hb.mono HB1.out.size)
  obtain ⟨b, off, rfl, c0, c1, c2⟩ := hs.cells 0 (by simp)
  have hbl : b < w2.heap.size := World.block_lt_of_cell? _ _ c0
  have he : errV 0 = .nilIface := rfl
  simp only [List.getElem_cons_zero, Nat.zero_mul, Nat.add_zero] at c0 c1 c2
  simp only [he, List.length_cons, List.length_nil]
  clear hs hb e1 he HB1
  go_wp2
  go_ret
  refine ⟨rfl, ?_⟩
  exact HB2.out.alloc HB2.out.size _

theorem Below.undrew {B : Nat} {W w' : World} (h : Below B W.drew w') : Below B W w' := ⟨h.os, h.tape, h.output, h.size, h.block⟩

theorem QBox.other {W : World} {B C j : Nat} {v u : Value} {t : Int} (h : QBox W B v t) (hne : B ≠ C) : QBox (W.setCell ⟨C, j, none⟩ u) B v t := by
  have hh : (W.setCell ⟨C, j, none⟩ u).heap[B]? = W.heap[B]? := Below.heap_setCell W ⟨C, j, none⟩ u B hne
  exact ⟨by rw [World.cell?_of_block (a := ⟨B, 0, none⟩) hh]; exact h.c0, by rw [World.cell?_of_block (a := ⟨B, 1, none⟩) hh]; exact h.c1, by rw [World.frozen?_of_block (a := ⟨B, 0, none⟩) hh]; exact h.f0, by rw [World.frozen?_of_block (a := ⟨B, 1, none⟩) hh]; exact h.f1, by simpa using h.lt, fun o ho => by rw [World.cell?_of_block (a := ⟨B, o, none⟩) hh]; exact h.only o ho⟩
theorem QBox.stored {W : World} {B : Nat} {v v' : Value} {t t' : Int} (h : QBox W B v t) : QBox ((W.setCell ⟨B, 0, none⟩ v').setCell ⟨B, 1, none⟩ (.int .i64 t')) B v' t' := by
  have ho := only_set (u := .int .i64 t') (j := 1) (only_set (u := v') (j := 0) h.only (by decide)) (by decide)
  refine ⟨?_, ?_, ?_, ?_, ?_, ho⟩
  · simp [go_sem, h.c0, h.c1]
  · simp [go_sem, h.c0, h.c1]
  · simp [go_sem, h.f0, h.f1]
  · simp [go_sem, h.f0, h.f1]
  · simpa using h.lt
theorem QBox.other2 {W : World} {B C : Nat} {v u u' : Value} {t : Int} (h : QBox W B v t) (hne : B ≠ C) : QBox ((W.setCell ⟨C, 0, none⟩ u).setCell ⟨C, 1, none⟩ u') B v t := (h.other hne).other hne

/-- What grown answers. -/
def GrownEnd (w : World) (l : List Ac) (e : Ending) (w' : World) : Prop :=
  ∃ ok a cap lq tq, e = .returned (.tuple #[.agg #[.slice a lq.length cap, .int .i64 tq], .bool ok]) ∧ Slice w' a cap lq ∧ Below w.heap.size w w' ∧ (ok = true → GoodQ lq tq ∧ Low lq tq 60)

set_option maxRecDepth 100000 in
set_option maxHeartbeats 4000000 in
theorem grown_any (a : Option Addr) (cap : Nat) (l : List Ac) (w : World) (hl : l.length ≤ maxLen) (hc : ActCells w a l) :
    Calls Try.prog 13 #[.slice a l.length cap] w (GrownEnd w l) := by
  have HC : Hid (ActCells w a l) := hc
  have hl' := hl
  unfold maxLen at hl'
  clear hc
  go_enter Try.func13, Try.ntmps13
  go_wp2_with fail
  refine (lightActs_any a cap l 60 _ hl (by decide) (by exact HC.out.below ((Below.refl _ _).alloc (Nat.le_refl _) _))).mono ?_
  rintro e w' ⟨⟨lb, rfl, hlb⟩, hw⟩
  rw [hw]
  clear hw w'
  cases lb with
  | false =>
    clear hlb
    go_wp2
    refine bodyPost_ret (v := .tuple #[.agg #[.slice none 0 0, .int .i64 0], .bool false]) (by simp [results, Try.results13, go_sem]) rfl ⟨false, none, 0, [], 0, rfl, noSlice _, ?_, (fun h => by cases h)⟩
    exact (Below.refl _ _).alloc (Nat.le_refl _) _
  | true =>
    have hla := hlb rfl
    have HLA : Hid (LightA l 60) := hla
    clear hlb hla
    go_wp2_with fail
    refine (new_any _).mono ?_
    rintro e w1 ⟨rfl, hb1⟩
    have HR1 : Hid (QBox w1 w.heap.size (.slice none 0 0) 0) := (QBox.new w _ 0 _).below hb1 (by simp)
    have HB1 : Hid (Below w.heap.size w w1) := ((Below.refl _ _).alloc (Nat.le_refl _) _).trans (hb1.mono (by simp))
    have hsz1 : w.heap.size < w1.heap.size := HR1.out.lt
    clear hb1
    go_wp2_with fail
    go_loopw [5] (fun i wr => ∃ (k : Nat) (a' : Option Addr) (cap' : Nat) (lq : List Fi) (tq : Int), k ≤ l.length ∧ i = .int .i64 k ∧ QBox wr w1.heap.size (.slice a' lq.length cap') tq ∧ Slice wr a' cap' lq ∧ (GoodQ lq tq ∧ Low lq tq k) ∧ Below w.heap.size w wr ∧ QBox wr w.heap.size (.slice none 0 0) 0) (fun i _ => l.length - (intOf i).toNat)
    case atStart => exact ⟨0, none, 0, [], 1, Nat.zero_le _, rfl, QBox.new w1 _ 1 _, noSlice _, ⟨new_good, new_low⟩, HB1.out.alloc HB1.out.size _, HR1.out.alloc _⟩
    case round =>
      obtain ⟨k, a', cap', lq, tq, hk, rfl, hq, hs, ⟨hgq, hlow⟩, hb, hr⟩ := hrel
      have HQB : Hid (QBox wr w1.heap.size (.slice a' lq.length cap') tq) := hq
      have HSQ : Hid (Slice wr a' cap' lq) := hs
      have HGQ : Hid (GoodQ lq tq) := hgq
      have HLO : Hid (Low lq tq k) := hlow
      have HB : Hid (Below w.heap.size w wr) := hb
      have HR : Hid (QBox wr w.heap.size (.slice none 0 0) 0) := hr
      clear hq hs hgq hlow hb hr
      obtain ⟨x0, x1, xf0, xf1, xl, _⟩ := HQB.out
      by_cases hlt : k < l.length
      · obtain ⟨b, off, rfl, ⟨c0, c1, c2, c3, c4, c5⟩, ok⟩ := HC.out.below HB.out k hlt
        have hsz := HLA.out.2 l[k] (List.getElem_mem hlt)
        obtain ⟨hs1, hs2, _⟩ := hsz
        have hm1 : l[k].s.size ≤ maxLen := by unfold maxLen; omega
        have hm2 : l[k].t.size ≤ maxLen := by unfold maxLen; omega
        clear ok
        have hbl : b < wr.heap.size := World.block_lt_of_cell? _ _ c0
        go_wp2
        go_region_with (go_at_call 15
                        refine (do_any a' cap' lq tq l[k] _ HGQ.out (by refine HSQ.out.below ?_; repeat (first | exact Below.refl _ _ | refine Below.drew ?_ | refine below_drewN ?_ _ | refine Below.alloc ?_ (Nat.le_refl _) _)) hm1 hm2).mono ?_
                        rintro e w3 ⟨a3, cap3, rfl, hs3, hb3⟩
                        have hb4 := Below.undrew hb3
                        have hbW : Below wr.heap.size wr w3 := by
                          refine Below.trans ?_ (hb4.mono ?_)
                          · first | exact Below.refl _ _ | exact (Below.refl _ _).alloc (Nat.le_refl _) _
                          · simp
                        have HS3 : Hid (Slice w3 a3 cap3 (doR lq tq l[k]).l) := hs3
                        have HQ3 : Hid (QBox w3 w1.heap.size (.slice a' lq.length cap') tq) := HQB.out.below hbW HQB.out.lt
                        have HSO : Hid (Slice w3 a' cap' lq) := HSQ.out.below hbW
                        have HR3 : Hid (QBox w3 w.heap.size (.slice none 0 0) 0) := HR.out.below hbW HR.out.lt
                        have HB3 : Hid (Below w.heap.size w w3) := HB.out.trans (hbW.mono HB.out.size)
                        obtain ⟨z0, z1, zf0, zf1, zl, _⟩ := HQ3.out
                        have hwz : wr.heap.size ≤ w3.heap.size := hbW.size
                        try (have xb := (QBox.new wr (.slice none 0 0) 0 30).below hb4 (by simp)
                             have HX3 : Hid (QBox w3 wr.heap.size (.slice none 0 0) 0) := xb
                             obtain ⟨v0, v1, vf0, vf1, vl, _⟩ := xb)
                        clear hb3 hb4 hbW hs3)
        all_goals
          rcases do_good HGQ.out l[k] with ⟨hn0, hgood⟩ | ⟨hn0, _, _, _⟩
          · rw [errV_zero hn0]
            have HLR : Hid (Low (doR lq tq l[k]).l (doR lq tq l[k]).t (k + 1)) := do_low HGQ.out HLO.out l[k] hn0
            clear hn0
            have HGR : Hid (GoodQ (doR lq tq l[k]).l (doR lq tq l[k]).t) := hgood
            clear hgood
            generalize doR lq tq l[k] = r at *
            go_wp2
            refine ⟨⟨k + 1, a3, cap3, r.l, r.t, by omega, by go_num, ?_, ?_, ⟨HGR.out, HLR.out⟩, ?_, ?_⟩, by simp [intOf]; omega⟩
            · first
                | exact (HQ3.out.stored).alloc _
                | exact (HQ3.out.other2 (by omega : w1.heap.size ≠ wr.heap.size)).stored
            · first
                | exact (HS3.out.store2 HQ3.out.only _ _).below ((Below.refl _ _).alloc (Nat.le_refl _) _)
                | exact (HS3.out.store2 HX3.out.only _ _).store2 (HQ3.out.other2 (by omega : w1.heap.size ≠ wr.heap.size)).only _ _
            · repeat (first | exact HB3.out | exact HB3.out.alloc HB3.out.size _ | refine Below.setCell ?_ (Nat.le_of_lt hsz1) _ | refine Below.setCell ?_ (Nat.le_of_lt (Nat.lt_trans hsz1 xl)) _ | refine Below.alloc ?_ (by simp; have := HB3.out.size; omega) _)
            · first
                | exact (HR3.out.other2 (by omega : w.heap.size ≠ w1.heap.size)).alloc _
                | exact (HR3.out.other2 (by omega : w.heap.size ≠ wr.heap.size)).other2 (by omega : w.heap.size ≠ w1.heap.size)
          · rw [errV_pos (by omega)]
            clear hn0
            generalize doR lq tq l[k] = r at *
            go_wp2
            refine ⟨⟨k + 1, a', cap', lq, tq, by omega, by go_num, ?_, ?_, ⟨HGQ.out, HLO.out.more (Nat.le_succ _)⟩, ?_, ?_⟩, by simp [intOf]; omega⟩
            · first
                | exact HQ3.out.alloc _
                | exact HQ3.out.other2 (by omega : w1.heap.size ≠ wr.heap.size)
            · first
                | exact HSO.out.below ((Below.refl _ _).alloc (Nat.le_refl _) _)
                | exact HSO.out.store2 HX3.out.only _ _
            · repeat (first | exact HB3.out | exact HB3.out.alloc HB3.out.size _ | refine Below.setCell ?_ (Nat.le_of_lt hsz1) _ | refine Below.setCell ?_ (Nat.le_of_lt (Nat.lt_trans hsz1 xl)) _ | refine Below.alloc ?_ (by simp; have := HB3.out.size; omega) _)
            · first
                | exact HR3.out.alloc _
                | exact HR3.out.other2 (by omega : w.heap.size ≠ wr.heap.size)
      · obtain ⟨y0, y1, yf0, yf1, yl, _⟩ := HR.out
        go_wp2
        refine bodyPost_ret (v := .tuple #[.agg #[.slice a' lq.length cap', .int .i64 tq], .bool true]) (by simp [results, Try.results13, go_sem, y0, y1, yl]) rfl ⟨true, a', cap', lq, tq, rfl, ?_, ?_, fun _ => ⟨HGQ.out, HLO.out.more (Nat.le_trans hk HLA.out.1)⟩⟩
        · exact HSQ.out.store2 HR.out.only _ _
        · exact (HB.out.setCell (Nat.le_refl _) _).setCell (Nat.le_refl _) _

end Go.Proofs.Ytihnghnafpgdfab
