/-
  THE WALK OF QuiltSays: it returns true, and writes nothing that was there.
-/
import Derived.Test.YtihnghnafpgdfaaDoneRef
import Derived.Test.YtihnghnafpgdfaaQuiltSame
import Derived.Test.YtihnghnafpgdfaaQuiltFs
import Derived.Deep.RegionWith
import Derived.Deep.DeepCutAuto
import Derived.Deep.RegionHeld3
namespace Go.Proofs.Ytihnghnafpgdfaa
open Go.RowKit
set_option linter.unusedVariables false
set_option linter.unusedSimpArgs false

/-- A round's world: the quilt and the other one, of one content. -/
structure Round (w : World) (Q M : Nat) (aq : Option Addr) (capq : Nat) (am : Option Addr) (capm : Nat) (l : List Fi) (t : Int) (V : World) : Prop where
  q : QBox V Q (.slice aq l.length capq) t
  m : QBox V M (.slice am l.length capm) t
  sq : Slice V aq capq l
  sm : Slice V am capm l
  b : Below w.heap.size w V
  ne : Q ≠ M
  qge : w.heap.size ≤ Q
  mge : w.heap.size ≤ M
theorem Round.below {w : World} {Q M : Nat} {aq : Option Addr} {capq : Nat} {am : Option Addr} {capm : Nat} {l : List Fi} {t : Int} {V W : World} (h : Round w Q M aq capq am capm l t V) (hb : Below V.heap.size V W) : Round w Q M aq capq am capm l t W :=
  ⟨h.q.below hb h.q.lt, h.m.below hb h.m.lt, h.sq.below hb, h.sm.below hb, h.b.trans (hb.mono h.b.size), h.ne, h.qge, h.mge⟩
theorem Round.alloc {w : World} {Q M : Nat} {aq : Option Addr} {capq : Nat} {am : Option Addr} {capm : Nat} {l : List Fi} {t : Int} {V : World} (h : Round w Q M aq capq am capm l t V) (o : Obj) : Round w Q M aq capq am capm l t (V.alloc o) :=
  h.below ((Below.refl _ _).alloc (Nat.le_refl _) o)
theorem Round.store {w : World} {Q M X : Nat} {aq : Option Addr} {capq : Nat} {am : Option Addr} {capm : Nat} {l : List Fi} {t : Int} {V : World} (h : Round w Q M aq capq am capm l t V) (only : ∀ o, 2 ≤ o → V.cell? ⟨X, o, none⟩ = none) (hX : w.heap.size ≤ X) (hq : Q ≠ X) (hm : M ≠ X) (u v : Value) :
    Round w Q M aq capq am capm l t ((V.setCell ⟨X, 0, none⟩ u).setCell ⟨X, 1, none⟩ v) :=
  ⟨h.q.other2 hq, h.m.other2 hm, h.sq.store2 only _ _, h.sm.store2 only _ _, (h.b.setCell hX _).setCell hX _, h.ne, h.qge, h.mge⟩
theorem Round.turned {w : World} {Q M : Nat} {aq : Option Addr} {capq : Nat} {am : Option Addr} {capm : Nat} {l : List Fi} {t : Int} {V : World} (h : Round w Q M aq capq am capm l t V) {a3 : Option Addr} {cap3 : Nat} {a4 : Option Addr} {cap4 : Nat} {l' : List Fi} {t' : Int} (h3 : Slice V a3 cap3 l') (h4 : Slice V a4 cap4 l') :
    Round w Q M a3 cap3 a4 cap4 l' t' ((((V.setCell ⟨Q, 0, none⟩ (.slice a3 l'.length cap3)).setCell ⟨Q, 1, none⟩ (.int .i64 t')).setCell ⟨M, 0, none⟩ (.slice a4 l'.length cap4)).setCell ⟨M, 1, none⟩ (.int .i64 t')) := by
  have hm := h.m.other2 (u := .slice a3 l'.length cap3) (u' := .int .i64 t') (Ne.symm h.ne)
  exact ⟨h.q.stored.other2 h.ne, hm.stored, (h3.store2 h.q.only _ _).store2 hm.only _ _, (h4.store2 h.q.only _ _).store2 hm.only _ _, (((h.b.setCell h.qge _).setCell h.qge _).setCell h.mge _).setCell h.mge _, h.ne, h.qge, h.mge⟩

set_option maxRecDepth 100000 in
set_option maxHeartbeats 8000000 in
theorem quiltSays_any (a : Option Addr) (cap : Nat) (lq : List Fi) (tq : Int) (a' : Option Addr) (cap' : Nat) (lo : List Fi) (tk : Int) (al : Option Addr) (capl : Nat) (l : List Ac) (w : World)
    (hz : Sized lq) (hs : Slice w a cap lq) (hz' : Sized lo) (hs' : Slice w a' cap' lo) (hm : l.length ≤ maxLen) (hc : ActCells w al l) :
    Calls Try.prog 5 #[.agg #[.slice a lq.length cap, .int .i64 tq], .agg #[.slice a' lo.length cap', .int .i64 tk], .slice al l.length capl] w fun e w' => e = .returned (.bool true) ∧ Below w.heap.size w w' := by
  have HS : Hid (Slice w a cap lq) := hs
  have HS' : Hid (Slice w a' cap' lo) := hs'
  have HC : Hid (ActCells w al l) := hc
  have hl1 : lq.length ≤ maxLen := Nat.le_trans hs.room hs.most
  have hl2 : lo.length ≤ maxLen := Nat.le_trans hs'.room hs'.most
  have hl' := hm
  unfold maxLen at hl'
  clear hs hs' hc
  go_enter Try.func5, Try.ntmps5
  go_wp2_with fail
  refine (quilts_any _).mono ?_
  rintro e w1 ⟨rfl, hb⟩
  have HB1 : Hid (Below w.heap.size w w1) := (((Below.refl _ _).alloc (Nat.le_refl _) _).alloc (by simp) _).trans (hb.mono (by simp; omega))
  have HQ1 : Hid (QBox w1 w.heap.size (.slice a lq.length cap) tq) := ((QBox.new w _ tq _).alloc _).below hb (by simp; omega)
  have HO1 : Hid (QBox w1 (w.heap.size + 1) (.slice a' lo.length cap') tk) := by
    have := QBox.new (w.alloc (.cells #[.slice a lq.length cap, .int .i64 tq] 48)) (.slice a' lo.length cap') tk 48
    rw [World.size_alloc] at this
    exact this.below hb (by simp)
  clear hb
  obtain ⟨x0, x1, xf0, xf1, xl, _⟩ := HQ1.out
  go_wp2_with fail
  refine (lightQuilt_any a cap lq tq _ hl1 hz (HS.out.below HB1.out).cells).mono ?_
  rintro e w2 ⟨rfl, hb⟩
  have HB2 : Hid (Below w.heap.size w w2) := HB1.out.trans (hb.mono HB1.out.size)
  have HQ2 : Hid (QBox w2 w.heap.size (.slice a lq.length cap) tq) := HQ1.out.below hb HQ1.out.lt
  have HO2 : Hid (QBox w2 (w.heap.size + 1) (.slice a' lo.length cap') tk) := HO1.out.below hb HO1.out.lt
  clear hb HB1 HQ1 HO1 x0 x1 xf0 xf1 xl
  cases hla : lightF lq
  · go_wp2
    go_ret
    exact ⟨rfl, HB2.out⟩
  obtain ⟨hla1, _⟩ := lightF_spec hla
  clear hla
  obtain ⟨y0, y1, yf0, yf1, yl, _⟩ := HO2.out
  go_wp2_with fail
  refine (lightQuilt_any a' cap' lo tk _ hl2 hz' (HS'.out.below HB2.out).cells).mono ?_
  rintro e w3 ⟨rfl, hb⟩
  have HB3 : Hid (Below w.heap.size w w3) := HB2.out.trans (hb.mono HB2.out.size)
  have HQ3 : Hid (QBox w3 w.heap.size (.slice a lq.length cap) tq) := HQ2.out.below hb HQ2.out.lt
  have HO3 : Hid (QBox w3 (w.heap.size + 1) (.slice a' lo.length cap') tk) := HO2.out.below hb HO2.out.lt
  clear hb HB2 HQ2 HO2 y0 y1 yf0 yf1 yl
  cases hlb : lightF lo
  · go_wp2
    go_ret
    exact ⟨rfl, HB3.out⟩
  obtain ⟨hlb1, _⟩ := lightF_spec hlb
  clear hlb
  go_wp2_with fail
  refine (lightActs_any al capl l 60 _ hm (by decide) (HC.out.below HB3.out)).mono ?_
  rintro e w' ⟨⟨lb, rfl, hlb⟩, hw⟩
  rw [hw]
  clear hw w'
  cases lb with
  | false =>
    clear hlb
    go_wp2
    go_ret
    exact ⟨rfl, HB3.out⟩
  | true =>
    have HLA : Hid (LightA l 60) := hlb rfl
    clear hlb
    have hqr := quiltF_range lq tq
    have kc := fun W (h : Below w3.heap.size w3 W) => quiltCheck_any a cap lq tq W hl1 hz ((HS.out.below HB3.out).below h).cells
    have kf := fun W (h : Below w3.heap.size w3 W) => quiltFault_any a cap lq tq W hl1 hz ((HS.out.below HB3.out).below h).cells
    have ks := fun W (h : Below w3.heap.size w3 W) => quiltSame_any a a' cap cap' lq lo tq tk W (by omega) (by omega) ((HS.out.below HB3.out).below h).cells ((HS'.out.below HB3.out).below h).cells
    have kr := fun W (h : Below w3.heap.size w3 W) => sameQuilt_any a a' cap cap' lq lo tq tk W (by omega) (by omega) ((HS.out.below HB3.out).below h).cells ((HS'.out.below HB3.out).below h).cells
    have keepS : ∀ W, Below w3.heap.size w3 W → (W.cell? ⟨w.heap.size, 0, none⟩ = some (.slice a lq.length cap) ∧ W.cell? ⟨w.heap.size, 1, none⟩ = some (.int .i64 tq) ∧ W.cell? ⟨w.heap.size + 1, 0, none⟩ = some (.slice a' lo.length cap') ∧ W.cell? ⟨w.heap.size + 1, 1, none⟩ = some (.int .i64 tk) ∧ Hid (Below w3.heap.size w3 W)) := by
      intro W h
      have h1 := HQ3.out.below h HQ3.out.lt
      have h2 := HO3.out.below h HO3.out.lt
      exact ⟨h1.c0, h1.c1, h2.c0, h2.c1, h⟩
    generalize hsb : (sameL lq lo && (tq == tk)) = sb at *
    have hsbb : (sb != sb) = false := by cases sb <;> rfl
    clear hsb
    have kcH : Hid (∀ W, Below w3.heap.size w3 W → Calls Try.prog 33 _ W _) := kc
    have kfH : Hid (∀ W, Below w3.heap.size w3 W → Calls Try.prog 34 _ W _) := kf
    have ksH : Hid (∀ W, Below w3.heap.size w3 W → Calls Try.prog 35 _ W _) := ks
    have krH : Hid (∀ W, Below w3.heap.size w3 W → Calls Try.prog 36 _ W _) := kr
    have keepH : Hid (∀ W, Below w3.heap.size w3 W → _) := keepS
    clear kc kf ks kr keepS
    go_wp2_with fail
    go_cut [47] (fun c wx => c = .bool false ∧ Below w3.heap.size w3 wx)
    case first =>
      go_region_held3 (fun W => W.cell? ⟨w.heap.size, 0, none⟩ = some (.slice a lq.length cap) ∧ W.cell? ⟨w.heap.size, 1, none⟩ = some (.int .i64 tq) ∧ W.cell? ⟨w.heap.size + 1, 0, none⟩ = some (.slice a' lo.length cap') ∧ W.cell? ⟨w.heap.size + 1, 1, none⟩ = some (.int .i64 tk) ∧ Hid (Below w3.heap.size w3 W))
        (first | exact keepH.out _ (Below.drew (Below.refl _ _)) | exact keepH.out _ hbW.out)
        (first
          | (go_at_call 33
             refine (kcH.out _ (‹_ ∧ _ ∧ _ ∧ _ ∧ Hid (Below w3.heap.size w3 _)›).2.2.2.2.out).mono ?_
             rintro e wa ⟨rfl, hb⟩
             have hbW : Hid (Below w3.heap.size w3 wa) := Below.trans (‹_ ∧ _ ∧ _ ∧ _ ∧ Hid (Below w3.heap.size w3 _)›).2.2.2.2.out (hb.mono (‹_ ∧ _ ∧ _ ∧ _ ∧ Hid (Below w3.heap.size w3 _)›).2.2.2.2.out.size)
             clear hb)
          | (go_at_call 34
             refine (kfH.out _ (‹_ ∧ _ ∧ _ ∧ _ ∧ Hid (Below w3.heap.size w3 _)›).2.2.2.2.out).mono ?_
             rintro e wb ⟨rfl, hb⟩
             have hbW : Hid (Below w3.heap.size w3 wb) := Below.trans (‹_ ∧ _ ∧ _ ∧ _ ∧ Hid (Below w3.heap.size w3 _)›).2.2.2.2.out (hb.mono (‹_ ∧ _ ∧ _ ∧ _ ∧ Hid (Below w3.heap.size w3 _)›).2.2.2.2.out.size)
             clear hb)
          | (go_at_call 15
             refine (same_yes (quiltF lq tq) _ hqr.1 hqr.2).mono ?_
             rintro e wc' ⟨rfl, hw⟩
             rw [hw]
             have hbW : Hid (Below w3.heap.size w3 _) := (‹_ ∧ _ ∧ _ ∧ _ ∧ Hid (Below w3.heap.size w3 _)›).2.2.2.2
             clear hw wc')
          | (go_at_call 35
             refine (ksH.out _ (‹_ ∧ _ ∧ _ ∧ _ ∧ Hid (Below w3.heap.size w3 _)›).2.2.2.2.out).mono ?_
             rintro e wd ⟨rfl, hb⟩
             have hbW : Hid (Below w3.heap.size w3 wd) := Below.trans (‹_ ∧ _ ∧ _ ∧ _ ∧ Hid (Below w3.heap.size w3 _)›).2.2.2.2.out (hb.mono (‹_ ∧ _ ∧ _ ∧ _ ∧ Hid (Below w3.heap.size w3 _)›).2.2.2.2.out.size)
             clear hb)
          | (go_at_call 36
             refine (krH.out _ (‹_ ∧ _ ∧ _ ∧ _ ∧ Hid (Below w3.heap.size w3 _)›).2.2.2.2.out).mono ?_
             rintro e we ⟨rfl, hb⟩
             have hbW : Hid (Below w3.heap.size w3 we) := Below.trans (‹_ ∧ _ ∧ _ ∧ _ ∧ Hid (Below w3.heap.size w3 _)›).2.2.2.2.out (hb.mono (‹_ ∧ _ ∧ _ ∧ _ ∧ Hid (Below w3.heap.size w3 _)›).2.2.2.2.out.size)
             clear hb))
      all_goals (go_wp2_with fail; go_meet; exact ⟨rfl, hbW.out⟩)
    case rest =>
      obtain ⟨rfl, hbc⟩ := hcut
      have HB4 : Hid (Below w.heap.size w wc) := HB3.out.trans (hbc.mono HB3.out.size)
      have HQ4 : Hid (QBox wc w.heap.size (.slice a lq.length cap) tq) := HQ3.out.below hbc HQ3.out.lt
      clear hbc HB3 HQ3 HO3 kcH kfH ksH krH keepH hsbb
      obtain ⟨x0, x1, xf0, xf1, xl, _⟩ := HQ4.out
      go_wp2_with fail
      refine (quiltFault_any a cap lq tq _ hl1 hz (HS.out.below HB4.out).cells).mono ?_
      rintro e w5 ⟨rfl, hb⟩
      have HB5 : Hid (Below w.heap.size w w5) := HB4.out.trans (hb.mono HB4.out.size)
      have HQ5 : Hid (QBox w5 w.heap.size (.slice a lq.length cap) tq) := HQ4.out.below hb HQ4.out.lt
      have HS5 : Hid (Slice w5 a cap lq) := HS.out.below HB5.out
      clear hb HB4 HQ4 x0 x1 xf0 xf1 xl HS HS'
      obtain ⟨x0, x1, xf0, xf1, xl, _⟩ := HQ5.out
      by_cases hz0 : quiltF lq tq = 0
      · have HGL : Hid (GoodQ lq tq) := good_of_quiltF hz0
        rw [hz0]
        clear hz0 hqr
        have HST : Hid (Round w w.heap.size w5.heap.size a cap a cap lq tq (w5.alloc (.cells #[.slice a lq.length cap, .int .i64 tq] 48))) :=
          ⟨HQ5.out.alloc _, QBox.new w5 _ tq _, HS5.out.alloc _, HS5.out.alloc _, HB5.out.alloc HB5.out.size _, by have := HQ5.out.lt; omega, Nat.le_refl _, HB5.out.size⟩
        go_wp2_with fail
        go_loopw [9] (fun i wr => ∃ (k : Nat) (aq : Option Addr) (capq : Nat) (am : Option Addr) (capm : Nat) (lr : List Fi) (tr : Int), k ≤ l.length ∧ i = .int .i64 k ∧ GoodQ lr tr ∧ Round w w.heap.size w5.heap.size aq capq am capm lr tr wr) (fun i _ => l.length - (intOf i).toNat)
        case atStart => exact ⟨0, _, _, _, _, _, _, Nat.zero_le _, rfl, HGL.out, HST.out⟩
        case round =>
          obtain ⟨k, aq, capq, am, capm, lr, tr, hk, rfl, hg, hrd⟩ := hrel
          have HG : Hid (GoodQ lr tr) := hg
          have HRD : Hid (Round w w.heap.size w5.heap.size aq capq am capm lr tr wr) := hrd
          clear hg hrd
          by_cases hlt : k < l.length
          · obtain ⟨b, off, rfl, ⟨c0, c1, c2, c3, c4, c5⟩, ok⟩ := HC.out.below HRD.out.b k hlt
            obtain ⟨hs1, hs2, _⟩ := HLA.out.2 l[k] (List.getElem_mem hlt)
            have hm1 : l[k].s.size ≤ maxLen := by unfold maxLen; omega
            have hm2 : l[k].t.size ≤ maxLen := by unfold maxLen; omega
            clear ok hs1 hs2
            have hbl : b < wr.heap.size := World.block_lt_of_cell? _ _ c0
            obtain ⟨x0, x1, xf0, xf1, xl, _⟩ := HRD.out.q
            have hfine := do_good HG.out l[k]
            have HFI : Hid (((doR lr tr l[k]).n = 0 ∧ GoodQ (doR lr tr l[k]).l (doR lr tr l[k]).t) ∨ (0 < (doR lr tr l[k]).n ∧ (doR lr tr l[k]).n ≤ 100 ∧ (doR lr tr l[k]).l = [] ∧ (doR lr tr l[k]).t = 0)) := hfine
            clear hfine
            go_wp2_with fail
            go_cut [10, 11] (fun px pe wx => ∃ X a3 cap3, px = .pointer (some ⟨X, 0, none⟩) ∧ pe = errV (doR lr tr l[k]).n ∧ Round w w.heap.size w5.heap.size aq capq am capm lr tr wx ∧ QBox wx X (.slice a3 (doR lr tr l[k]).l.length cap3) (doR lr tr l[k]).t ∧ Slice wx a3 cap3 (doR lr tr l[k]).l ∧ w.heap.size ≠ X ∧ w5.heap.size ≠ X)
            case first =>
              go_region_with (go_at_call 38
                              refine (do_any aq capq lr tr l[k] _ HG.out (by refine HRD.out.sq.below ?_; repeat (first | exact Below.refl _ _ | refine Below.drew ?_ | refine below_drewN ?_ _ | refine Below.alloc ?_ (Nat.le_refl _) _)) hm1 hm2).mono ?_
                              rintro e v3 ⟨a3, cap3, rfl, hs3, hb3⟩
                              have hb4 := Below.undrew hb3
                              have hbW : Below wr.heap.size wr v3 := by
                                refine Below.trans ?_ (hb4.mono ?_)
                                · first | exact Below.refl _ _ | exact (Below.refl _ _).alloc (Nat.le_refl _) _
                                · simp
                              have HS3 : Hid (Slice v3 a3 cap3 (doR lr tr l[k]).l) := hs3
                              have HRD3 : Hid (Round w w.heap.size w5.heap.size aq capq am capm lr tr v3) := HRD.out.below hbW
                              obtain ⟨z0, z1, zf0, zf1, zl, _⟩ := HRD3.out.q
                              have hwz : wr.heap.size ≤ v3.heap.size := hbW.size
                              try (have xb := (QBox.new wr (.slice none 0 0) 0 48).below hb4 (by simp)
                                   have HX3 : Hid (QBox v3 wr.heap.size (.slice none 0 0) 0) := xb
                                   obtain ⟨v0, v1, vf0, vf1, vl, _⟩ := xb)
                              clear hb3 hb4 hbW hs3)
              all_goals (try go_wp2_with fail)
              all_goals go_meet
              all_goals
                have hq1 := HRD.out.q.lt
                have hq2 := HRD.out.m.lt
                have hq3 := HRD.out.b.size
                first
                  | exact ⟨wr.heap.size, a3, cap3, rfl, rfl, HRD3.out.store HX3.out.only hq3 (by omega) (by omega) _ _, HX3.out.stored, HS3.out.store2 HX3.out.only _ _, by omega, by omega⟩
                  | exact ⟨v3.heap.size, a3, cap3, rfl, rfl, HRD3.out.alloc _, QBox.new v3 _ _ _, HS3.out.alloc _, by omega, by omega⟩
            case rest =>
              obtain ⟨X, a3, cap3, rfl, rfl, h1, h2, h3, hnx, hmx⟩ := hcut
              have HV : Hid (Round w w.heap.size w5.heap.size aq capq am capm lr tr wc) := h1
              have HXV : Hid (QBox wc X (.slice a3 (doR lr tr l[k]).l.length cap3) (doR lr tr l[k]).t) := h2
              have HSV : Hid (Slice wc a3 cap3 (doR lr tr l[k]).l) := h3
              clear h1 h2 h3 c0 c1 c2 c3 c4 c5 x0 x1 xf0 xf1 xl hbl HRD
              obtain ⟨b2, off2, eb, ⟨c0, c1, c2, c3, c4, c5⟩, _⟩ := HC.out.below HV.out.b k hlt
              cases eb
              have hbl : b < wc.heap.size := World.block_lt_of_cell? _ _ c0
              obtain ⟨x0, x1, xf0, xf1, xl, _⟩ := HV.out.m
              go_wp2_with fail
              go_cut [12, 13] (fun py pf wx => ∃ Y a4 cap4, py = .pointer (some ⟨Y, 0, none⟩) ∧ pf = .int .i64 (doR lr tr l[k]).n ∧ Round w w.heap.size w5.heap.size aq capq am capm lr tr wx ∧ QBox wx X (.slice a3 (doR lr tr l[k]).l.length cap3) (doR lr tr l[k]).t ∧ Slice wx a3 cap3 (doR lr tr l[k]).l ∧ QBox wx Y (.slice a4 (doR lr tr l[k]).l.length cap4) (doR lr tr l[k]).t ∧ Slice wx a4 cap4 (doR lr tr l[k]).l ∧ w.heap.size ≠ Y ∧ w5.heap.size ≠ Y)
              case first =>
                go_region_with (go_at_call 39
                                refine (doneRef_any am capm lr tr l[k] _ HG.out (by refine HV.out.sm.below ?_; repeat (first | exact Below.refl _ _ | refine Below.drew ?_ | refine below_drewN ?_ _ | refine Below.alloc ?_ (Nat.le_refl _) _)) hm1 hm2).mono ?_
                                rintro e v3 ⟨a4, cap4, rfl, hs3, hb3⟩
                                have hb4 := Below.undrew hb3
                                have hbW : Below wc.heap.size wc v3 := by
                                  refine Below.trans ?_ (hb4.mono ?_)
                                  · first | exact Below.refl _ _ | exact (Below.refl _ _).alloc (Nat.le_refl _) _
                                  · simp
                                have HS3 : Hid (Slice v3 a4 cap4 (doR lr tr l[k]).l) := hs3
                                have HRD3 : Hid (Round w w.heap.size w5.heap.size aq capq am capm lr tr v3) := HV.out.below hbW
                                have HXV3 : Hid (QBox v3 X (.slice a3 (doR lr tr l[k]).l.length cap3) (doR lr tr l[k]).t) := HXV.out.below hbW HXV.out.lt
                                have HSV3 : Hid (Slice v3 a3 cap3 (doR lr tr l[k]).l) := HSV.out.below hbW
                                obtain ⟨z0, z1, zf0, zf1, zl, _⟩ := HRD3.out.m
                                have hwz : wc.heap.size ≤ v3.heap.size := hbW.size
                                try (have xb := (QBox.new wc (.slice none 0 0) 0 48).below hb4 (by simp)
                                     have HX3 : Hid (QBox v3 wc.heap.size (.slice none 0 0) 0) := xb
                                     obtain ⟨v0, v1, vf0, vf1, vl, _⟩ := xb)
                                clear hb3 hb4 hbW hs3)
                all_goals (try go_wp2_with fail)
                all_goals go_meet
                all_goals
                  have hq1 := HV.out.q.lt
                  have hq2 := HV.out.m.lt
                  have hq3 := HV.out.b.size
                  have hq4 := HXV.out.lt
                  first
                    | exact ⟨wc.heap.size, a4, cap4, rfl, rfl, HRD3.out.store HX3.out.only hq3 (by omega) (by omega) _ _, HXV3.out.other2 (by omega : X ≠ wc.heap.size), HSV3.out.store2 HX3.out.only _ _, HX3.out.stored, HS3.out.store2 HX3.out.only _ _, by omega, by omega⟩
                    | exact ⟨v3.heap.size, a4, cap4, rfl, rfl, HRD3.out.alloc _, HXV3.out.alloc _, HSV3.out.alloc _, QBox.new v3 _ _ _, HS3.out.alloc _, by omega, by omega⟩
              case rest =>
                obtain ⟨Y, a4, cap4, rfl, rfl, h1, h2, h3, h4, h5, hny, hmy⟩ := hcut
                clear HV HXV HSV x0 x1 xf0 xf1 xl c0 c1 c2 c3 c4 c5 hbl
                have HW : Hid (Round w w.heap.size w5.heap.size aq capq am capm lr tr wc) := h1
                have HXB : Hid (QBox wc X (.slice a3 (doR lr tr l[k]).l.length cap3) (doR lr tr l[k]).t) := h2
                have HXS : Hid (Slice wc a3 cap3 (doR lr tr l[k]).l) := h3
                have HYB : Hid (QBox wc Y (.slice a4 (doR lr tr l[k]).l.length cap4) (doR lr tr l[k]).t) := h4
                have HYS : Hid (Slice wc a4 cap4 (doR lr tr l[k]).l) := h5
                clear h1 h2 h3 h4 h5
                have hrl : (doR lr tr l[k]).l.length ≤ 1000 := by
                  rcases HFI.out with ⟨_, h⟩ | ⟨_, _, h, _⟩
                  · exact few_good h.files
                  · rw [h]; decide
                have hrn : 0 ≤ (doR lr tr l[k]).n ∧ (doR lr tr l[k]).n ≤ 100 := by
                  rcases HFI.out with ⟨h, _⟩ | ⟨h1, h2, _, _⟩ <;> omega
                have HGN : Hid ((doR lr tr l[k]).n = 0 → GoodQ (doR lr tr l[k]).l (doR lr tr l[k]).t) := by
                  intro h0
                  rcases HFI.out with ⟨_, h⟩ | ⟨h, _, _, _⟩
                  · exact h
                  · omega
                clear HFI
                generalize doR lr tr l[k] = r at *
                have hsame : (sameL r.l r.l && (r.t == r.t)) = true := by rw [(sameL_iff r.l r.l).2 rfl]; simp
                obtain ⟨x0, x1, xf0, xf1, xl, _⟩ := HXB.out
                obtain ⟨y0, y1, yf0, yf1, yl, _⟩ := HYB.out
                go_wp2_with fail
                refine (same_yes r.n _ hrn.1 hrn.2).mono ?_
                rintro e w' ⟨rfl, hw⟩
                rw [hw]
                clear hw w'
                go_wp2_with fail
                refine (sameQuilt_any a3 a4 cap3 cap4 r.l r.l r.t r.t _ hrl hrl HXS.out.cells HYS.out.cells).mono ?_
                rintro e U ⟨rfl, hb⟩
                rw [hsame]
                have HU : Hid (Round w w.heap.size w5.heap.size aq capq am capm lr tr U) := HW.out.below hb
                have HXU : Hid (QBox U X (.slice a3 r.l.length cap3) r.t) := HXB.out.below hb HXB.out.lt
                have HXT : Hid (Slice U a3 cap3 r.l) := HXS.out.below hb
                have HYU : Hid (QBox U Y (.slice a4 r.l.length cap4) r.t) := HYB.out.below hb HYB.out.lt
                have HYT : Hid (Slice U a4 cap4 r.l) := HYS.out.below hb
                clear hb HW HXB HXS HYB HYS x0 x1 xf0 xf1 xl y0 y1 yf0 yf1 yl
                obtain ⟨x0, x1, xf0, xf1, xl, _⟩ := HXU.out
                obtain ⟨y0, y1, yf0, yf1, yl, _⟩ := HYU.out
                obtain ⟨q0, q1, qf0, qf1, ql, _⟩ := HU.out.q
                obtain ⟨m0, m1, mf0, mf1, ml, _⟩ := HU.out.m
                have hqm := HU.out.ne
                by_cases hz9 : r.n = 0
                · have hE9 : (r.n == 0) = true := by simp [hz9]
                  have HGR : Hid (GoodQ r.l r.t) := HGN.out hz9
                  clear hz9 hrn
                  go_wp2
                  go_roundw
                  case rel => exact ⟨k + 1, a3, cap3, a4, cap4, r.l, r.t, by omega, by go_num, HGR.out, HU.out.turned HXT.out HYT.out⟩
                  all_goals (first | omega | (simp [intOf]; omega))
                · have hE9 : (r.n == 0) = false := by simp [hz9]
                  clear hz9 hrn
                  go_wp2
                  go_roundw
                  case rel => exact ⟨k + 1, aq, capq, am, capm, lr, tr, by omega, by go_num, HG.out, HU.out⟩
                  all_goals (first | omega | (simp [intOf]; omega))
          · go_wp2
            go_ret
            exact ⟨rfl, HRD.out.b⟩
      · have hpos : 0 < quiltF lq tq := by omega
        have hmax : quiltF lq tq ≤ 100 := by omega
        generalize quiltF lq tq = qf at *
        clear hz0 hqr
        go_wp2_with fail
        refine (new_any _).mono ?_
        rintro e w6 ⟨rfl, hb⟩
        have HB6 : Hid (Below w.heap.size w w6) := HB5.out.trans (hb.mono HB5.out.size)
        have HQ6 : Hid (QBox w6 w.heap.size (.slice a lq.length cap) tq) := HQ5.out.below hb HQ5.out.lt
        clear hb x0 x1 xf0 xf1 xl
        obtain ⟨x0, x1, xf0, xf1, xl, _⟩ := HQ6.out
        have HGL : Hid (GoodQ [] 1) := new_good
        have HST : Hid (Round w w.heap.size w6.heap.size none 0 none 0 [] 1 (((w6.setCell ⟨w.heap.size, 0, none⟩ (.slice none 0 0)).setCell ⟨w.heap.size, 1, none⟩ (.int .i64 1)).alloc (.cells #[.slice none 0 0, .int .i64 1] 48))) := by
          have hq : QBox ((w6.setCell ⟨w.heap.size, 0, none⟩ (.slice none 0 0)).setCell ⟨w.heap.size, 1, none⟩ (.int .i64 1)) w.heap.size (.slice none 0 0) 1 := HQ6.out.stored
          have hn := QBox.new ((w6.setCell ⟨w.heap.size, 0, none⟩ (.slice none 0 0)).setCell ⟨w.heap.size, 1, none⟩ (.int .i64 1)) (.slice none 0 0) 1 48
          have e : ((w6.setCell ⟨w.heap.size, 0, none⟩ (.slice none 0 0)).setCell ⟨w.heap.size, 1, none⟩ (.int .i64 1)).heap.size = w6.heap.size := by simp
          rw [e] at hn
          exact ⟨hq.alloc _, hn, noSlice _, noSlice _, ((HB6.out.setCell (Nat.le_refl _) _).setCell (Nat.le_refl _) _).alloc (by simp; have := HB6.out.size; omega) _, by have := HQ6.out.lt; omega, Nat.le_refl _, HB6.out.size⟩
        go_wp2_with fail
        go_loopw [9] (fun i wr => ∃ (k : Nat) (aq : Option Addr) (capq : Nat) (am : Option Addr) (capm : Nat) (lr : List Fi) (tr : Int), k ≤ l.length ∧ i = .int .i64 k ∧ GoodQ lr tr ∧ Round w w.heap.size w6.heap.size aq capq am capm lr tr wr) (fun i _ => l.length - (intOf i).toNat)
        case atStart => exact ⟨0, _, _, _, _, _, _, Nat.zero_le _, rfl, HGL.out, HST.out⟩
        case round =>
          obtain ⟨k, aq, capq, am, capm, lr, tr, hk, rfl, hg, hrd⟩ := hrel
          have HG : Hid (GoodQ lr tr) := hg
          have HRD : Hid (Round w w.heap.size w6.heap.size aq capq am capm lr tr wr) := hrd
          clear hg hrd
          by_cases hlt : k < l.length
          · obtain ⟨b, off, rfl, ⟨c0, c1, c2, c3, c4, c5⟩, ok⟩ := HC.out.below HRD.out.b k hlt
            obtain ⟨hs1, hs2, _⟩ := HLA.out.2 l[k] (List.getElem_mem hlt)
            have hm1 : l[k].s.size ≤ maxLen := by unfold maxLen; omega
            have hm2 : l[k].t.size ≤ maxLen := by unfold maxLen; omega
            clear ok hs1 hs2
            have hbl : b < wr.heap.size := World.block_lt_of_cell? _ _ c0
            obtain ⟨x0, x1, xf0, xf1, xl, _⟩ := HRD.out.q
            have hfine := do_good HG.out l[k]
            have HFI : Hid (((doR lr tr l[k]).n = 0 ∧ GoodQ (doR lr tr l[k]).l (doR lr tr l[k]).t) ∨ (0 < (doR lr tr l[k]).n ∧ (doR lr tr l[k]).n ≤ 100 ∧ (doR lr tr l[k]).l = [] ∧ (doR lr tr l[k]).t = 0)) := hfine
            clear hfine
            go_wp2_with fail
            go_cut [10, 11] (fun px pe wx => ∃ X a3 cap3, px = .pointer (some ⟨X, 0, none⟩) ∧ pe = errV (doR lr tr l[k]).n ∧ Round w w.heap.size w6.heap.size aq capq am capm lr tr wx ∧ QBox wx X (.slice a3 (doR lr tr l[k]).l.length cap3) (doR lr tr l[k]).t ∧ Slice wx a3 cap3 (doR lr tr l[k]).l ∧ w.heap.size ≠ X ∧ w6.heap.size ≠ X)
            case first =>
              go_region_with (go_at_call 38
                              refine (do_any aq capq lr tr l[k] _ HG.out (by refine HRD.out.sq.below ?_; repeat (first | exact Below.refl _ _ | refine Below.drew ?_ | refine below_drewN ?_ _ | refine Below.alloc ?_ (Nat.le_refl _) _)) hm1 hm2).mono ?_
                              rintro e v3 ⟨a3, cap3, rfl, hs3, hb3⟩
                              have hb4 := Below.undrew hb3
                              have hbW : Below wr.heap.size wr v3 := by
                                refine Below.trans ?_ (hb4.mono ?_)
                                · first | exact Below.refl _ _ | exact (Below.refl _ _).alloc (Nat.le_refl _) _
                                · simp
                              have HS3 : Hid (Slice v3 a3 cap3 (doR lr tr l[k]).l) := hs3
                              have HRD3 : Hid (Round w w.heap.size w6.heap.size aq capq am capm lr tr v3) := HRD.out.below hbW
                              obtain ⟨z0, z1, zf0, zf1, zl, _⟩ := HRD3.out.q
                              have hwz : wr.heap.size ≤ v3.heap.size := hbW.size
                              try (have xb := (QBox.new wr (.slice none 0 0) 0 48).below hb4 (by simp)
                                   have HX3 : Hid (QBox v3 wr.heap.size (.slice none 0 0) 0) := xb
                                   obtain ⟨v0, v1, vf0, vf1, vl, _⟩ := xb)
                              clear hb3 hb4 hbW hs3)
              all_goals (try go_wp2_with fail)
              all_goals go_meet
              all_goals
                have hq1 := HRD.out.q.lt
                have hq2 := HRD.out.m.lt
                have hq3 := HRD.out.b.size
                first
                  | exact ⟨wr.heap.size, a3, cap3, rfl, rfl, HRD3.out.store HX3.out.only hq3 (by omega) (by omega) _ _, HX3.out.stored, HS3.out.store2 HX3.out.only _ _, by omega, by omega⟩
                  | exact ⟨v3.heap.size, a3, cap3, rfl, rfl, HRD3.out.alloc _, QBox.new v3 _ _ _, HS3.out.alloc _, by omega, by omega⟩
            case rest =>
              obtain ⟨X, a3, cap3, rfl, rfl, h1, h2, h3, hnx, hmx⟩ := hcut
              have HV : Hid (Round w w.heap.size w6.heap.size aq capq am capm lr tr wc) := h1
              have HXV : Hid (QBox wc X (.slice a3 (doR lr tr l[k]).l.length cap3) (doR lr tr l[k]).t) := h2
              have HSV : Hid (Slice wc a3 cap3 (doR lr tr l[k]).l) := h3
              clear h1 h2 h3 c0 c1 c2 c3 c4 c5 x0 x1 xf0 xf1 xl hbl HRD
              obtain ⟨b2, off2, eb, ⟨c0, c1, c2, c3, c4, c5⟩, _⟩ := HC.out.below HV.out.b k hlt
              cases eb
              have hbl : b < wc.heap.size := World.block_lt_of_cell? _ _ c0
              obtain ⟨x0, x1, xf0, xf1, xl, _⟩ := HV.out.m
              go_wp2_with fail
              go_cut [12, 13] (fun py pf wx => ∃ Y a4 cap4, py = .pointer (some ⟨Y, 0, none⟩) ∧ pf = .int .i64 (doR lr tr l[k]).n ∧ Round w w.heap.size w6.heap.size aq capq am capm lr tr wx ∧ QBox wx X (.slice a3 (doR lr tr l[k]).l.length cap3) (doR lr tr l[k]).t ∧ Slice wx a3 cap3 (doR lr tr l[k]).l ∧ QBox wx Y (.slice a4 (doR lr tr l[k]).l.length cap4) (doR lr tr l[k]).t ∧ Slice wx a4 cap4 (doR lr tr l[k]).l ∧ w.heap.size ≠ Y ∧ w6.heap.size ≠ Y)
              case first =>
                go_region_with (go_at_call 39
                                refine (doneRef_any am capm lr tr l[k] _ HG.out (by refine HV.out.sm.below ?_; repeat (first | exact Below.refl _ _ | refine Below.drew ?_ | refine below_drewN ?_ _ | refine Below.alloc ?_ (Nat.le_refl _) _)) hm1 hm2).mono ?_
                                rintro e v3 ⟨a4, cap4, rfl, hs3, hb3⟩
                                have hb4 := Below.undrew hb3
                                have hbW : Below wc.heap.size wc v3 := by
                                  refine Below.trans ?_ (hb4.mono ?_)
                                  · first | exact Below.refl _ _ | exact (Below.refl _ _).alloc (Nat.le_refl _) _
                                  · simp
                                have HS3 : Hid (Slice v3 a4 cap4 (doR lr tr l[k]).l) := hs3
                                have HRD3 : Hid (Round w w.heap.size w6.heap.size aq capq am capm lr tr v3) := HV.out.below hbW
                                have HXV3 : Hid (QBox v3 X (.slice a3 (doR lr tr l[k]).l.length cap3) (doR lr tr l[k]).t) := HXV.out.below hbW HXV.out.lt
                                have HSV3 : Hid (Slice v3 a3 cap3 (doR lr tr l[k]).l) := HSV.out.below hbW
                                obtain ⟨z0, z1, zf0, zf1, zl, _⟩ := HRD3.out.m
                                have hwz : wc.heap.size ≤ v3.heap.size := hbW.size
                                try (have xb := (QBox.new wc (.slice none 0 0) 0 48).below hb4 (by simp)
                                     have HX3 : Hid (QBox v3 wc.heap.size (.slice none 0 0) 0) := xb
                                     obtain ⟨v0, v1, vf0, vf1, vl, _⟩ := xb)
                                clear hb3 hb4 hbW hs3)
                all_goals (try go_wp2_with fail)
                all_goals go_meet
                all_goals
                  have hq1 := HV.out.q.lt
                  have hq2 := HV.out.m.lt
                  have hq3 := HV.out.b.size
                  have hq4 := HXV.out.lt
                  first
                    | exact ⟨wc.heap.size, a4, cap4, rfl, rfl, HRD3.out.store HX3.out.only hq3 (by omega) (by omega) _ _, HXV3.out.other2 (by omega : X ≠ wc.heap.size), HSV3.out.store2 HX3.out.only _ _, HX3.out.stored, HS3.out.store2 HX3.out.only _ _, by omega, by omega⟩
                    | exact ⟨v3.heap.size, a4, cap4, rfl, rfl, HRD3.out.alloc _, HXV3.out.alloc _, HSV3.out.alloc _, QBox.new v3 _ _ _, HS3.out.alloc _, by omega, by omega⟩
              case rest =>
                obtain ⟨Y, a4, cap4, rfl, rfl, h1, h2, h3, h4, h5, hny, hmy⟩ := hcut
                clear HV HXV HSV x0 x1 xf0 xf1 xl c0 c1 c2 c3 c4 c5 hbl
                have HW : Hid (Round w w.heap.size w6.heap.size aq capq am capm lr tr wc) := h1
                have HXB : Hid (QBox wc X (.slice a3 (doR lr tr l[k]).l.length cap3) (doR lr tr l[k]).t) := h2
                have HXS : Hid (Slice wc a3 cap3 (doR lr tr l[k]).l) := h3
                have HYB : Hid (QBox wc Y (.slice a4 (doR lr tr l[k]).l.length cap4) (doR lr tr l[k]).t) := h4
                have HYS : Hid (Slice wc a4 cap4 (doR lr tr l[k]).l) := h5
                clear h1 h2 h3 h4 h5
                have hrl : (doR lr tr l[k]).l.length ≤ 1000 := by
                  rcases HFI.out with ⟨_, h⟩ | ⟨_, _, h, _⟩
                  · exact few_good h.files
                  · rw [h]; decide
                have hrn : 0 ≤ (doR lr tr l[k]).n ∧ (doR lr tr l[k]).n ≤ 100 := by
                  rcases HFI.out with ⟨h, _⟩ | ⟨h1, h2, _, _⟩ <;> omega
                have HGN : Hid ((doR lr tr l[k]).n = 0 → GoodQ (doR lr tr l[k]).l (doR lr tr l[k]).t) := by
                  intro h0
                  rcases HFI.out with ⟨_, h⟩ | ⟨h, _, _, _⟩
                  · exact h
                  · omega
                clear HFI
                generalize doR lr tr l[k] = r at *
                have hsame : (sameL r.l r.l && (r.t == r.t)) = true := by rw [(sameL_iff r.l r.l).2 rfl]; simp
                obtain ⟨x0, x1, xf0, xf1, xl, _⟩ := HXB.out
                obtain ⟨y0, y1, yf0, yf1, yl, _⟩ := HYB.out
                go_wp2_with fail
                refine (same_yes r.n _ hrn.1 hrn.2).mono ?_
                rintro e w' ⟨rfl, hw⟩
                rw [hw]
                clear hw w'
                go_wp2_with fail
                refine (sameQuilt_any a3 a4 cap3 cap4 r.l r.l r.t r.t _ hrl hrl HXS.out.cells HYS.out.cells).mono ?_
                rintro e U ⟨rfl, hb⟩
                rw [hsame]
                have HU : Hid (Round w w.heap.size w6.heap.size aq capq am capm lr tr U) := HW.out.below hb
                have HXU : Hid (QBox U X (.slice a3 r.l.length cap3) r.t) := HXB.out.below hb HXB.out.lt
                have HXT : Hid (Slice U a3 cap3 r.l) := HXS.out.below hb
                have HYU : Hid (QBox U Y (.slice a4 r.l.length cap4) r.t) := HYB.out.below hb HYB.out.lt
                have HYT : Hid (Slice U a4 cap4 r.l) := HYS.out.below hb
                clear hb HW HXB HXS HYB HYS x0 x1 xf0 xf1 xl y0 y1 yf0 yf1 yl
                obtain ⟨x0, x1, xf0, xf1, xl, _⟩ := HXU.out
                obtain ⟨y0, y1, yf0, yf1, yl, _⟩ := HYU.out
                obtain ⟨q0, q1, qf0, qf1, ql, _⟩ := HU.out.q
                obtain ⟨m0, m1, mf0, mf1, ml, _⟩ := HU.out.m
                have hqm := HU.out.ne
                by_cases hz9 : r.n = 0
                · have hE9 : (r.n == 0) = true := by simp [hz9]
                  have HGR : Hid (GoodQ r.l r.t) := HGN.out hz9
                  clear hz9 hrn
                  go_wp2
                  go_roundw
                  case rel => exact ⟨k + 1, a3, cap3, a4, cap4, r.l, r.t, by omega, by go_num, HGR.out, HU.out.turned HXT.out HYT.out⟩
                  all_goals (first | omega | (simp [intOf]; omega))
                · have hE9 : (r.n == 0) = false := by simp [hz9]
                  clear hz9 hrn
                  go_wp2
                  go_roundw
                  case rel => exact ⟨k + 1, aq, capq, am, capm, lr, tr, by omega, by go_num, HG.out, HU.out⟩
                  all_goals (first | omega | (simp [intOf]; omega))
          · go_wp2
            go_ret
            exact ⟨rfl, HRD.out.b⟩

end Go.Proofs.Ytihnghnafpgdfaa
