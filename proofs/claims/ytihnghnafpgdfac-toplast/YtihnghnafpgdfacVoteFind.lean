/-
  THE WALKS OF vote.Of's CLOSURE, slices.IndexFunc AND slices.ContainsFunc AT COPIES.
-/
import Derived.Test.YtihnghnafpgdfacVoteWrongOf
namespace Go.Proofs.Ytihnghnafpgdfac
open Go.RowKit
set_option linter.unusedVariables false
set_option linter.unusedSimpArgs false

/-- A copy in its box. -/
structure CoBox (w : World) (b : Nat) (x : Co) : Prop where
  c0 : w.cell? ⟨b, 0, none⟩ = some (.bool x.is)
  c1 : w.cell? ⟨b, 1, none⟩ = some (.slice x.a x.l.length x.cap)
  c2 : w.cell? ⟨b, 2, none⟩ = some (.int .i64 x.t)
theorem CoBox.lt {w : World} {b : Nat} {x : Co} (h : CoBox w b x) : b < w.heap.size := World.block_lt_of_cell? _ _ h.c0
theorem CoBox.below {w w' : World} {b : Nat} {x : Co} (h : CoBox w b x) (hb : Below w.heap.size w w') : CoBox w' b x :=
  ⟨by rw [hb.cell h.lt]; exact h.c0, by rw [hb.cell h.lt]; exact h.c1, by rw [hb.cell h.lt]; exact h.c2⟩
/-- Copies, one behind the other. -/
def CoCells (w : World) (b off : Nat) (cs : List Co) : Prop :=
  ∀ i (h : i < cs.length), (w.cell? ⟨b, off + i * 3, none⟩ = some (.bool cs[i].is) ∧ w.cell? ⟨b, off + i * 3 + 1, none⟩ = some (.slice cs[i].a cs[i].l.length cs[i].cap) ∧ w.cell? ⟨b, off + i * 3 + 2, none⟩ = some (.int .i64 cs[i].t)) ∧ CoOk w cs[i]
theorem CoCells.below {w w' : World} {b off : Nat} {cs : List Co} (h : CoCells w b off cs) (hb : Below w.heap.size w w') : CoCells w' b off cs := by
  intro i hi
  obtain ⟨⟨c0, c1, c2⟩, ok⟩ := h i hi
  exact ⟨⟨by rw [hb.cell (World.block_lt_of_cell? _ _ c0)]; exact c0, by rw [hb.cell (World.block_lt_of_cell? _ _ c1)]; exact c1, by rw [hb.cell (World.block_lt_of_cell? _ _ c2)]; exact c2⟩, ok.below hb⟩

set_option maxRecDepth 100000 in
set_option maxHeartbeats 1000000 in
theorem ofSame_any (x o : Co) (b : Nat) (w : World) (hb : CoBox w b x) (hx : CoOk w x) (ho : CoOk w o) :
    Calls Try.prog 50 #[o.v, .pointer (some ⟨b, 0, none⟩)] w fun e w' => e = .returned (.bool (sameCo x o)) ∧ Below w.heap.size w w' := by
  obtain ⟨c0, c1, c2⟩ := hb
  have hlt := World.block_lt_of_cell? _ _ c0
  have hbw : Below w.heap.size w (w.alloc (Obj.cells #[.bool o.is, .slice o.a o.l.length o.cap, .int .i64 o.t] 48)) := (Below.refl _ _).alloc (Nat.le_refl _) _
  have hcon := voteSame_any x o _ (hx.below hbw) (ho.below hbw)
  have HCON : Hid _ := hcon
  have HBW : Hid _ := hbw
  clear hcon hbw hx ho
  go_enter Try.func50, Try.ntmps50
  go_wp2_with fail
  refine Calls.mono HCON.out ?_
  rintro _ w1 ⟨rfl, hb1⟩
  have HB1 : Hid (Below w.heap.size w w1) := Below.trans HBW.out (hb1.mono (by simp))
  clear hb1 HCON
  go_wp2
  go_ret
  exact ⟨rfl, HB1.out⟩

set_option maxRecDepth 100000 in
set_option maxHeartbeats 1000000 in
theorem indexFunc_any (x : Co) (cs : List Co) (b B off cap : Nat) (w : World) (hl : cs.length ≤ 100) (hb : CoBox w b x) (hx : CoOk w x) (hc : CoCells w B off cs) :
    Calls Try.prog 75 #[.slice (some ⟨B, off, none⟩) cs.length cap, .func (.func 50) #[] #[.pointer (some ⟨b, 0, none⟩)]] w fun e w' => (∃ k : Int, e = .returned (.int .i64 k) ∧ -1 ≤ k ∧ k ≤ 1000 ∧ decide (0 ≤ k) = cs.any (sameCo x)) ∧ Below w.heap.size w w' := by
  have HBX : Hid (CoBox w b x) := hb
  have HX : Hid (CoOk w x) := hx
  have HC : Hid (CoCells w B off cs) := hc
  clear hb hx hc
  go_enter Try.func75, Try.ntmps75
  go_wp2_with fail
  go_loopg [8] (cs.length + 1) (fun kx vi wr => ∃ k : Nat, vi = .int .i64 k ∧ k ≤ cs.length ∧ cs.length - k ≤ kx ∧ Hid (Below w.heap.size w wr) ∧ Hid (∀ j (h : j < cs.length), j < k → sameCo x cs[j] = false))
  case atStart => exact ⟨0, rfl, Nat.zero_le _, by omega, Below.refl _ _, fun j h h2 => absurd h2 (Nat.not_lt_zero _)⟩
  case round =>
    obtain ⟨k, rfl, hk, hkx, HB, HN⟩ := hrel
    by_cases hlt : k < cs.length
    · have hltz : (k : Int) < (cs.length : Int) := by omega
      obtain ⟨⟨c0, c1, c2⟩, ok⟩ := HC.out.below HB.out k hlt
      have kc := fun W (h : Below wr.heap.size wr W) => ofSame_any x cs[k] b W ((HBX.out.below HB.out).below h) ((HX.out.below HB.out).below h) (ok.below h)
      have kcH : Hid (∀ W, Below wr.heap.size wr W → Calls Try.prog 50 _ W _) := kc
      clear kc ok
      cases hs : sameCo x cs[k]
      · have HS : Hid (sameCo x cs[k] = false) := hs
        go_wp2_with fail
        refine Calls.mono (kcH.out _ (Below.refl _ _)) ?_
        rintro _ w2 ⟨rfl, hb2⟩
        rw [hs]
        have HB2 : Hid (Below w.heap.size w w2) := HB.out.trans (hb2.mono HB.out.size)
        clear hb2 kcH c0 c1 c2 hs
        go_wp2
        go_roundg (cs.length - (k + 1))
        case measure => omega
        case rel =>
          refine ⟨k + 1, by go_num, by omega, Nat.le_refl _, HB2, (show Hid _ from fun j h h2 => ?_)⟩
          rcases Nat.lt_or_ge j k with h3 | h3
          · exact HN.out j h h3
          · have e : j = k := by omega
            subst e
            exact HS.out
      · have HS : Hid (cs.any (sameCo x) = true) := by
          show _ = _
          rw [List.any_eq_true]
          exact ⟨cs[k], List.getElem_mem hlt, hs⟩
        go_wp2_with fail
        refine Calls.mono (kcH.out _ (Below.refl _ _)) ?_
        rintro _ w2 ⟨rfl, hb2⟩
        rw [hs]
        have HB2 : Hid (Below w.heap.size w w2) := HB.out.trans (hb2.mono HB.out.size)
        clear hb2 kcH c0 c1 c2 hs
        go_wp2
        go_ret
        exact ⟨⟨k, rfl, by omega, by omega, by rw [HS.out]; exact decide_eq_true (by omega)⟩, HB2.out⟩
    · go_wp2
      go_ret
      refine ⟨⟨-1, rfl, by omega, by omega, ?_⟩, HB.out⟩
      have e : cs.any (sameCo x) = false := by
        rw [List.any_eq_false]
        intro o ho
        obtain ⟨j, hj, rfl⟩ := List.getElem_of_mem ho
        rw [HN.out j hj (by omega)]
        simp
      rw [e]
      rfl

set_option maxRecDepth 100000 in
set_option maxHeartbeats 1000000 in
theorem containsFunc_any (x : Co) (cs : List Co) (b B off cap : Nat) (w : World) (hl : cs.length ≤ 100) (hb : CoBox w b x) (hx : CoOk w x) (hc : CoCells w B off cs) :
    Calls Try.prog 49 #[.slice (some ⟨B, off, none⟩) cs.length cap, .func (.func 50) #[] #[.pointer (some ⟨b, 0, none⟩)]] w fun e w' => e = .returned (.bool (cs.any (sameCo x))) ∧ Below w.heap.size w w' := by
  have HCON : Hid _ := indexFunc_any x cs b B off cap w hl hb hx hc
  clear hb hx hc
  go_enter Try.func49, Try.ntmps49
  go_wp2_with fail
  refine Calls.mono HCON.out ?_
  rintro _ w2 ⟨⟨k, rfl, h1, h2, h3⟩, hb2⟩
  have HB2 : Hid (Below w.heap.size w w2) := hb2
  have H3 : Hid (decide (0 ≤ k) = cs.any (sameCo x)) := h3
  clear hb2 h3 HCON
  go_wp2
  go_ret
  exact ⟨ret_bool H3.out, HB2.out⟩
end Go.Proofs.Ytihnghnafpgdfac
