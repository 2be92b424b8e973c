/-
  THE WALK OF TopGood: it returns true, and writes nothing that was there.
-/
import Derived.Test.YtihnghnafpgdfaaTopBase
import Derived.Deep.RegionWith
namespace Go.Proofs.Ytihnghnafpgdfaa
open Go.RowKit
set_option linter.unusedVariables false
set_option linter.unusedSimpArgs false

theorem quiltF_good {l : List Fi} {t : Int} (h : GoodQ l t) : quiltF l t = 0 := by
  unfold quiltF
  have h1 := h.low
  have h2 := h.high
  rw [if_neg (by simp [zero_of_good h.files]), if_neg (by omega)]

theorem good_sized {l : List Fi} (h : Good l) : Sized l := by
  intro f hf
  have := h.times hf
  have h6 := name_size this.1
  unfold maxLen
  exact ⟨by omega, by omega⟩

/-- A round's world, behind the act. -/
structure Acted (w : World) (B : Nat) (a' : Option Addr) (cap' : Nat) (lq : List Fi) (tq : Int) (a3 : Option Addr) (cap3 : Nat) (r : Res) (V : World) (X : Nat) : Prop where
  q : QBox V B (.slice a' lq.length cap') tq
  x : QBox V X (.slice a3 r.l.length cap3) r.t
  s : Slice V a3 cap3 r.l
  o : Slice V a' cap' lq
  b : Below w.heap.size w V
  ne : B ≠ X
theorem Acted.below {w : World} {B : Nat} {a' : Option Addr} {cap' : Nat} {lq : List Fi} {tq : Int} {a3 : Option Addr} {cap3 : Nat} {r : Res} {V W : World} {X : Nat} (h : Acted w B a' cap' lq tq a3 cap3 r V X) (hb : Below V.heap.size V W) : Acted w B a' cap' lq tq a3 cap3 r W X :=
  ⟨h.q.below hb h.q.lt, h.x.below hb h.x.lt, h.s.below hb, h.o.below hb, h.b.trans (hb.mono h.b.size), h.ne⟩

/-- The four kinds, and none. -/
theorem kinds (x : Ac) : (x.kind.toList == [119, 114, 105, 116, 101]) = true ∧ knownB x = true ∨ (x.kind.toList == [119, 114, 105, 116, 101]) = false ∧ ((x.kind.toList == [100, 114, 111, 112]) = true ∧ knownB x = true ∨ (x.kind.toList == [100, 114, 111, 112]) = false ∧
    ((x.kind.toList == [110, 97, 109, 101]) = true ∧ knownB x = true ∨ (x.kind.toList == [110, 97, 109, 101]) = false ∧ ((x.kind.toList == [115, 119, 97, 112]) = true ∧ knownB x = true ∨ (x.kind.toList == [115, 119, 97, 112]) = false))) := by
  have e : ∀ d : ByteArray, (x.kind.toList == d.toList) = true → x.kind = d := fun d h => toList_inj (by simpa using h)
  have e1 : (⟨#[119, 114, 105, 116, 101]⟩ : ByteArray).toList = [119, 114, 105, 116, 101] := by rw [ByteArray.toList_eq]
  have e2 : (⟨#[100, 114, 111, 112]⟩ : ByteArray).toList = [100, 114, 111, 112] := by rw [ByteArray.toList_eq]
  have e3 : (⟨#[110, 97, 109, 101]⟩ : ByteArray).toList = [110, 97, 109, 101] := by rw [ByteArray.toList_eq]
  have e4 : (⟨#[115, 119, 97, 112]⟩ : ByteArray).toList = [115, 119, 97, 112] := by rw [ByteArray.toList_eq]
  cases h1 : (x.kind.toList == [119, 114, 105, 116, 101])
  · right
    refine ⟨rfl, ?_⟩
    cases h2 : (x.kind.toList == [100, 114, 111, 112])
    · right
      refine ⟨rfl, ?_⟩
      cases h3 : (x.kind.toList == [110, 97, 109, 101])
      · right
        refine ⟨rfl, ?_⟩
        cases h4 : (x.kind.toList == [115, 119, 97, 112])
        · right; rfl
        · left; refine ⟨rfl, ?_⟩; simp [knownB, e _ (by rw [e4]; exact h4)]
      · left; refine ⟨rfl, ?_⟩; simp [knownB, e _ (by rw [e3]; exact h3)]
    · left; refine ⟨rfl, ?_⟩; simp [knownB, e _ (by rw [e2]; exact h2)]
  · left; refine ⟨rfl, ?_⟩; simp [knownB, e _ (by rw [e1]; exact h1)]

set_option maxRecDepth 100000 in
set_option maxHeartbeats 8000000 in
theorem topGood_any (a : Option Addr) (cap : Nat) (l : List Ac) (w : World) (hm : l.length ≤ maxLen) (hs : ActCells w a l) :
    Calls Try.prog 8 #[.slice a l.length cap] w fun e w' => e = .returned (.bool true) ∧ Below w.heap.size w w' := by
  have HC : Hid (ActCells w a l) := hs
  have hl' := hm
  unfold maxLen at hl'
  clear hs
  go_enter Try.func8, Try.ntmps8
  go_wp2_with fail
  refine (began_any _).mono ?_
  rintro e w1 ⟨rfl, hb1⟩
  have HB1 : Hid (Below w.heap.size w w1) := hb1
  clear hb1
  go_wp2_with fail
  refine (lightActs_any a cap l 60 _ hm (by decide) (HC.out.below HB1.out)).mono ?_
  rintro e w' ⟨⟨lb, rfl, hlb⟩, hw⟩
  rw [hw]
  clear hw w'
  cases lb with
  | false =>
    clear hlb
    go_wp2
    go_ret
    exact ⟨rfl, HB1.out⟩
  | true =>
    have HLA : Hid (LightA l 60) := hlb rfl
    clear hlb
    go_wp2_with fail
    refine (new_any _).mono ?_
    rintro e w2 ⟨rfl, hb⟩
    have HB2 : Hid (Below w.heap.size w w2) := HB1.out.trans (hb.mono HB1.out.size)
    clear hb HB1
    go_wp2_with fail
    go_loopw [5] (fun i wr => ∃ (k : Nat) (a' : Option Addr) (cap' : Nat) (lq : List Fi) (tq : Int), k ≤ l.length ∧ i = .int .i64 k ∧ QBox wr w2.heap.size (.slice a' lq.length cap') tq ∧ Slice wr a' cap' lq ∧ GoodQ lq tq ∧ Below w.heap.size w wr) (fun i _ => l.length - (intOf i).toNat)
    case atStart => exact ⟨0, none, 0, [], 1, Nat.zero_le _, rfl, QBox.new w2 _ 1 _, noSlice _, new_good, HB2.out.alloc HB2.out.size _⟩
    case round =>
      obtain ⟨k, a', cap', lq, tq, hk, rfl, hq, hs, hgq, hb⟩ := hrel
      have HQB : Hid (QBox wr w2.heap.size (.slice a' lq.length cap') tq) := hq
      have HSQ : Hid (Slice wr a' cap' lq) := hs
      have HGQ : Hid (GoodQ lq tq) := hgq
      have HB : Hid (Below w.heap.size w wr) := hb
      clear hq hs hgq hb
      obtain ⟨x0, x1, xf0, xf1, xl, _⟩ := HQB.out
      by_cases hlt : k < l.length
      · obtain ⟨b, off, rfl, ⟨c0, c1, c2, c3, c4, c5⟩, ok⟩ := HC.out.below HB.out k hlt
        obtain ⟨hs1, hs2, _⟩ := HLA.out.2 l[k] (List.getElem_mem hlt)
        have hm1 : l[k].s.size ≤ maxLen := by unfold maxLen; omega
        have hm2 : l[k].t.size ≤ maxLen := by unfold maxLen; omega
        clear ok hs1 hs2
        have hbl : b < wr.heap.size := World.block_lt_of_cell? _ _ c0
        go_wp2
        go_region_with (go_at_call 38
                        refine (do_any a' cap' lq tq l[k] _ HGQ.out (by refine HSQ.out.below ?_; repeat (first | exact Below.refl _ _ | refine Below.drew ?_ | refine below_drewN ?_ _ | refine Below.alloc ?_ (Nat.le_refl _) _)) hm1 hm2).mono ?_
                        rintro e w3 ⟨a3, cap3, rfl, hs3, hb3⟩
                        have hb4 := Below.undrew hb3
                        have hbW : Below wr.heap.size wr w3 := by
                          refine Below.trans ?_ (hb4.mono ?_)
                          · first | exact Below.refl _ _ | exact (Below.refl _ _).alloc (Nat.le_refl _) _
                          · simp
                        have HS3 : Hid (Slice w3 a3 cap3 (doR lq tq l[k]).l) := hs3
                        have HQ3 : Hid (QBox w3 w2.heap.size (.slice a' lq.length cap') tq) := HQB.out.below hbW HQB.out.lt
                        have HSO : Hid (Slice w3 a' cap' lq) := HSQ.out.below hbW
                        have HB3 : Hid (Below w.heap.size w w3) := HB.out.trans (hbW.mono HB.out.size)
                        obtain ⟨z0, z1, zf0, zf1, zl, _⟩ := HQ3.out
                        have hwz : wr.heap.size ≤ w3.heap.size := hbW.size
                        try (have xb := (QBox.new wr (.slice none 0 0) 0 48).below hb4 (by simp)
                             have HX3 : Hid (QBox w3 wr.heap.size (.slice none 0 0) 0) := xb
                             obtain ⟨v0, v1, vf0, vf1, vl, _⟩ := xb)
                        clear hb3 hb4 hbW hs3)
        all_goals
          first
            | (have F : Acted w w2.heap.size a' cap' lq tq a3 cap3 (doR lq tq l[k]) ((w3.setCell ⟨wr.heap.size, 0, none⟩ (.slice a3 (doR lq tq l[k]).l.length cap3)).setCell ⟨wr.heap.size, 1, none⟩ (.int .i64 (doR lq tq l[k]).t)) wr.heap.size :=
                 ⟨HQ3.out.other2 (by omega : w2.heap.size ≠ wr.heap.size), HX3.out.stored, HS3.out.store2 HX3.out.only _ _, HSO.out.store2 HX3.out.only _ _, (HB3.out.setCell HB.out.size _).setCell HB.out.size _, by omega⟩
               generalize (w3.setCell ⟨wr.heap.size, 0, none⟩ (.slice a3 (doR lq tq l[k]).l.length cap3)).setCell ⟨wr.heap.size, 1, none⟩ (.int .i64 (doR lq tq l[k]).t) = V at F ⊢
               have HF : Hid (Acted w w2.heap.size a' cap' lq tq a3 cap3 (doR lq tq l[k]) V wr.heap.size) := F
               clear F HX3 v0 v1 vf0 vf1 vl)
            | (have F : Acted w w2.heap.size a' cap' lq tq a3 cap3 (doR lq tq l[k]) (w3.alloc (.cells #[.slice a3 (doR lq tq l[k]).l.length cap3, .int .i64 (doR lq tq l[k]).t] 48)) w3.heap.size :=
                 ⟨HQ3.out.alloc _, QBox.new w3 _ _ _, HS3.out.alloc _, HSO.out.alloc _, HB3.out.alloc HB3.out.size _, by omega⟩
               generalize w3.alloc (.cells #[.slice a3 (doR lq tq l[k]).l.length cap3, .int .i64 (doR lq tq l[k]).t] 48) = V at F ⊢
               have HF : Hid (Acted w w2.heap.size a' cap' lq tq a3 cap3 (doR lq tq l[k]) V w3.heap.size) := F
               clear F)
          clear HS3 HQ3 HSO HB3 z0 z1 zf0 zf1 zl hwz
          clear HQB HSQ HB x0 x1 xf0 xf1 c0 c1 c2 c3 c4 c5
          have hfine := do_fine HGQ.out l[k]
          have hgood := do_good HGQ.out l[k]
          have ht0 := HGQ.out.low
          have ht9 := HGQ.out.high
          generalize doR lq tq l[k] = r at *
          rcases hgood with ⟨hn0, hg⟩ | ⟨hn0, _, e1, e2⟩
          · have HG : Hid (GoodQ r.l r.t) := hg
            have HTT : Hid (knownB l[k] = true → r.t = tq + 1) := by
              intro hk
              rcases hfine with (⟨_, _, h⟩ | ⟨h, _, _, _⟩) | ⟨h, _⟩
              · exact h
              · omega
              · rw [h] at hk; cases hk
            rw [errV_zero hn0]
            clear hfine hn0 hg
            obtain ⟨b2, off2, eb, ⟨c0, c1, c2, c3, c4, c5⟩, _⟩ := HC.out.below HF.out.b k hlt
            cases eb
            rcases kinds l[k] with ⟨k1, kk⟩ | ⟨k1, ⟨k2, kk⟩ | ⟨k2, ⟨k3, kk⟩ | ⟨k3, ⟨k4, kk⟩ | k4⟩⟩⟩
            all_goals
              try (have ett := HTT.out kk
                   have hE1 : (r.t != tq + 1) = false := by simp [ett]
                   clear ett kk)
              clear HTT
              obtain ⟨x0, x1, xf0, xf1, xl', _⟩ := HF.out.x
              go_wp2_with fail
              refine (quiltCheck_any a3 cap3 r.l r.t _ (by have := HG.out.files.few; unfold maxLen; omega) (good_sized HG.out.files) HF.out.s.cells).mono ?_
              rintro e U ⟨rfl, hbU⟩
              rw [errV_zero (quiltF_good HG.out)]
              have HU := HF.out.below hbU
              have HFU : Hid (Acted w w2.heap.size a' cap' lq tq a3 cap3 r U _) := HU
              clear hbU HU x0 x1 xf0 xf1 xl'
              obtain ⟨x0, x1, xf0, xf1, xl', _⟩ := HFU.out.x
              obtain ⟨y0, y1, yf0, yf1, yl', _⟩ := HFU.out.q
              have hne := HFU.out.ne
              go_wp2
              refine ⟨⟨k + 1, a3, cap3, r.l, r.t, by omega, by go_num, ?_, ?_, HG.out, ?_⟩, by simp [intOf]; omega⟩
              · exact HFU.out.q.stored
              · exact HFU.out.s.store2 HFU.out.q.only _ _
              · exact (HFU.out.b.setCell HB2.out.size _).setCell HB2.out.size _
          · have hsame : (sameL r.l [] && (r.t == 0)) = true := by rw [e1, e2]; rfl
            have hrl : r.l.length ≤ 1000 := by rw [e1]; decide
            rw [errV_pos (by omega)]
            clear hfine hn0 e1 e2
            obtain ⟨x0, x1, xf0, xf1, xl', _⟩ := HF.out.x
            go_wp2_with fail
            refine (sameQuilt_any a3 none cap3 0 r.l [] r.t 0 _ hrl (by decide) HF.out.s.cells (Cells.nil _ _)).mono ?_
            rintro e U ⟨rfl, hbU⟩
            rw [hsame]
            have HU := HF.out.below hbU
            have HFU : Hid (Acted w w2.heap.size a' cap' lq tq a3 cap3 r U _) := HU
            clear hbU HU x0 x1 xf0 xf1 xl'
            go_wp2
            exact ⟨⟨k + 1, a', cap', lq, tq, by omega, by go_num, HFU.out.q, HFU.out.o, HGQ.out, HFU.out.b⟩, by simp [intOf]; omega⟩
      · go_wp2
        go_ret
        exact ⟨rfl, HB.out⟩

end Go.Proofs.Ytihnghnafpgdfaa
