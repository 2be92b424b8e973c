/-
  THE DOCUMENT's STORE: Commit.
-/
import Derived.Test.YtihnghnafpgdfabStoreAt
import Derived.Test.YtihnghnafpgdfabRowApplied
namespace Go.Proofs.Ytihnghnafpgdfab
open Go.RowKit Go.BigFrame
set_option linter.unusedVariables false
set_option linter.unusedSimpArgs false

structure Ms where
  ra : Option Addr
  rc : Nat
  rows : List Ch
  used : Nat
  many : Nat
structure MAt (w : World) (b : Nat) (m : Ms) : Prop where
  blk : w.heap[b]? = some (.cells #[.slice m.ra m.rows.length m.rc, .int .i64 m.used, .int .i64 m.many] 102 (0, 0))
  rows : SliceC w m.ra m.rc m.rows
  kind : ∀ x, m.ra = some x → ∃ C fr, w.heap[x.block]? = some (.cells C 73 fr)
theorem MAt.far {w w' : World} {b : Nat} {m : Ms} (h : MAt w b m) (hb : w'.heap[b]? = w.heap[b]?) (hk : ∀ (k : Nat) (C : Array Value) (fr : Nat × Nat), w.heap[k]? = some (.cells C 73 fr) → w'.heap[k]? = w.heap[k]?) : MAt w' b m := by
  refine ⟨hb.trans h.blk, ⟨fun i hi => ?_, h.rows.nil⟩, fun x hx => ?_⟩
  · obtain ⟨g, off, e, c0, c1, c2⟩ := h.rows.cells i hi
    obtain ⟨C, fr, hK⟩ := h.kind _ e
    have hK' : w'.heap[g]? = w.heap[g]? := hk _ _ _ hK
    exact ⟨g, off, e, by rw [World.cell?_of_block (w := w) (a := ⟨g, _, none⟩) hK']; exact c0, by rw [World.cell?_of_block (w := w) (a := ⟨g, _, none⟩) hK']; exact c1, by rw [World.cell?_of_block (w := w) (a := ⟨g, _, none⟩) hK']; exact c2⟩
  · obtain ⟨C, fr, hK⟩ := h.kind x hx
    exact ⟨C, fr, (hk _ _ _ hK).trans hK⟩
theorem MAt.below {w w' : World} {b : Nat} {m : Ms} (h : MAt w b m) (hb : Below w.heap.size w w') : MAt w' b m :=
  h.far (hb.block b (Array.getElem?_eq_some_iff.1 h.blk).1) (fun k C fr hk => hb.block k (Array.getElem?_eq_some_iff.1 hk).1)
theorem MAt.cells {w : World} {b : Nat} {m : Ms} (h : MAt w b m) : w.cell? ⟨b, 0, none⟩ = some (.slice m.ra m.rows.length m.rc) ∧ w.cell? ⟨b, 1, none⟩ = some (.int .i64 m.used) ∧ w.cell? ⟨b, 2, none⟩ = some (.int .i64 m.many) :=
  ⟨by rw [cell_block h.blk]; rfl, by rw [cell_block h.blk]; rfl, by rw [cell_block h.blk]; rfl⟩
/-- What the document's Commit answers, and how many sectors are used then. -/
def commitF (m : Ms) (c : List Ch) : Int := if 14 < c.length then 2 else if faultL c ≠ 0 then faultL c else if 12 < (appliedC m.rows c).length ∨ m.many < c.length + 1 then 7 else 0
def commitU (m : Ms) (c : List Ch) : Nat := (if m.many - m.used < c.length + 1 then 0 else m.used) + c.length + 1

theorem MAt.put {w : World} {b u lo : Nat} {m : Ms} {va : Option Addr} {vc : Nat} {rows : List Ch} (h : MAt w b m) (ho : OwnsC w lo (.slice va rows.length vc) rows) (hlo : b < lo) (hnil : va = none → vc = 0) :
    MAt ((w.setCell ⟨b, 1, none⟩ (.int .i64 u)).setCell ⟨b, 0, none⟩ (.slice va rows.length vc)) b ⟨va, vc, rows, u, m.many⟩ ∧ MAt (((w.setCell ⟨b, 1, none⟩ (.int .i64 0)).setCell ⟨b, 1, none⟩ (.int .i64 u)).setCell ⟨b, 0, none⟩ (.slice va rows.length vc)) b ⟨va, vc, rows, u, m.many⟩ := by
  have hne : (Value.slice va rows.length vc).ownBlock ≠ some b := fun e => by have := (ho.lt b e).1; omega
  have go : ∀ W : World, OwnsC W lo (.slice va rows.length vc) rows → SliceC W va vc rows := fun W hW => by
    obtain ⟨a, cap, e, hcc, -⟩ := OwnsC.files hW
    injection e with e1 e2 e3
    subst e1
    exact ⟨hcc, hnil⟩
  have b1 := heap_set (w := w) h.blk 1 (.int .i64 u)
  have b2 := heap_set (w := w) h.blk 1 (.int .i64 0)
  have kd : ∀ W : World, OwnsC W lo (.slice va rows.length vc) rows → ∀ x, va = some x → ∃ C fr, W.heap[x.block]? = some (.cells C 73 fr) := fun W hW x hx => Lib.ownsRow_kind hW x.block (by rw [hx]; rfl)
  have o1 : OwnsC ((w.setCell ⟨b, 1, none⟩ (.int .i64 u)).setCell ⟨b, 0, none⟩ (.slice va rows.length vc)) lo (.slice va rows.length vc) rows := ownsRow_setCell_other (ownsRow_setCell_other ho hne _) hne _
  have o2 : OwnsC (((w.setCell ⟨b, 1, none⟩ (.int .i64 0)).setCell ⟨b, 1, none⟩ (.int .i64 u)).setCell ⟨b, 0, none⟩ (.slice va rows.length vc)) lo (.slice va rows.length vc) rows := ownsRow_setCell_other (ownsRow_setCell_other (ownsRow_setCell_other ho hne _) hne _) hne _
  exact ⟨⟨heap_set (w := w.setCell ⟨b, 1, none⟩ (.int .i64 u)) b1 0 _, go _ o1, kd _ o1⟩, ⟨heap_set (w := (w.setCell ⟨b, 1, none⟩ (.int .i64 0)).setCell ⟨b, 1, none⟩ (.int .i64 u)) (heap_set (w := w.setCell ⟨b, 1, none⟩ (.int .i64 0)) b2 1 _) 0 _, go _ o2, kd _ o2⟩⟩
theorem touch_set {w W : World} {b : Nat} (h : Touch (fun k => k = b) w W) (i : Nat) (v : Value) : Touch (fun k => k = b) w (W.setCell ⟨b, i, none⟩ v) :=
  ⟨h.os, h.tape, h.output, by rw [World.size_setCell]; exact h.size, fun k hk hn => by rw [Below.heap_setCell W ⟨b, i, none⟩ v k hn]; exact h.block k hk hn⟩

set_option maxRecDepth 100000 in
set_option maxHeartbeats 4000000 in
theorem refCommit_any (b : Nat) (m : Ms) (a : Option Addr) (cap : Nat) (c : List Ch) (w : World) (h : MAt w b m) (hc : CC w a c) (hl : c.length ≤ 100) (hr : m.rows.length ≤ 12) (hm : m.many ≤ 60) (hu : m.used ≤ m.many) :
    Calls Try.prog 62 #[.pointer (some ⟨b, 0, none⟩), .slice a c.length cap] w fun e w' => e = .returned (.int .i64 (commitF m c)) ∧ Touch (fun k => k = b) w w' ∧ ((¬ commitF m c = 0 ∧ MAt w' b m) ∨ (commitF m c = 0 ∧ ∃ ra rc, MAt w' b ⟨ra, rc, appliedC m.rows c, commitU m c, m.many⟩)) := by
  have HM : Hid (MAt w b m) := h
  have HC : Hid (CC w a c) := hc
  by_cases h14 : 14 < c.length
  · have h14z : (14 : Int) < (c.length : Int) := by omega
    have HF : Hid (commitF m c = 2) := by show _ = _; unfold commitF; rw [if_pos h14]
    clear h hc
    go_enter Try.func62, Try.ntmps62
    go_wp2
    go_ret
    rw [HF.out]
    exact ⟨rfl, Touch.refl _ _, .inl ⟨by decide, HM.out⟩⟩
  have h14z : ¬ (14 : Int) < (c.length : Int) := by omega
  have HC14 : Hid (¬ 14 < c.length) := h14
  clear h hc
  go_enter Try.func62, Try.ntmps62
  go_wp2_with fail
  go_loopg [5] (c.length + 1) (fun kx vi wr => ∃ i : Nat, vi = .int .i64 i ∧ i ≤ c.length ∧ c.length - i ≤ kx ∧ Hid (Below w.heap.size w wr) ∧ Hid (∀ j (hj : j < i) (h2 : j < c.length), changeF c[j] = 0))
  case atStart => exact ⟨0, rfl, by omega, by omega, Below.refl _ _, fun j hj => absurd hj (Nat.not_lt_zero _)⟩
  case round =>
    obtain ⟨i, rfl, hi, hix, HB, HG⟩ := hrel
    by_cases hlt : i < c.length
    · have hltz : (i : Int) < (c.length : Int) := by omega
      obtain ⟨cb, co, rfl, c0, c1, c2⟩ := (HC.out.below HB.out) i hlt
      obtain ⟨x, hx⟩ : ∃ x, x = c[i] := ⟨_, rfl⟩
      rw [← hx] at c0 c1 c2
      have HX : Hid (x = c[i]) := hx
      clear hx
      have KF : Hid _ := changeFault_any x wr
      have hrg := changeF_rng x
      by_cases hf : changeF x = 0
      · rw [hf] at KF
        have HNX : Hid (∀ j (hj : j < i + 1) (h2 : j < c.length), changeF c[j] = 0) := fun j hj h2 => by
          by_cases e : j = i
          · subst e; rw [← HX.out]; exact hf
          · exact HG.out j (by omega) h2
        clear hrg hf
        go_wp2_with fail
        refine Calls.mono KF.out ?_
        rintro e w2 ⟨rfl, hb⟩
        have HB2 : Hid (Below w.heap.size w w2) := HB.out.trans (hb.mono HB.out.size)
        clear hb KF
        go_wp2
        go_roundg (c.length - (i + 1))
        case measure => omega
        case rel => exact ⟨i + 1, by go_num, by omega, Nat.le_refl _, HB2, HNX⟩
      · have HFL : Hid (faultL c = changeF x) := by
          show _ = _
          rw [HX.out]
          exact faultL_at hlt (fun j hj => HG.out j hj (by omega)) (by rw [← HX.out]; exact hf)
        have HCF : Hid (commitF m c = changeF x) := by show _ = _; unfold commitF; rw [if_neg HC14.out, HFL.out, if_pos hf]
        have hpos : 0 < changeF x := by omega
        generalize changeF x = f at *
        go_wp2_with fail
        refine Calls.mono KF.out ?_
        rintro e w2 ⟨rfl, hb⟩
        have HB2 : Hid (Below w.heap.size w w2) := HB.out.trans (hb.mono HB.out.size)
        clear hb KF
        go_wp2
        go_ret
        rw [HCF.out]
        exact ⟨rfl, Touch.of_below HB2.out, .inl ⟨hf, HM.out.below HB2.out⟩⟩
    · have hge : ¬ (i : Int) < (c.length : Int) := by omega
      have HOK : Hid (faultL c = 0) := by
        refine faultL_none (fun y hy => ?_)
        obtain ⟨j, hj, rfl⟩ := List.getElem_of_mem hy
        exact HG.out j (by omega) hj
      have HMR : Hid (MAt wr b m) := HM.out.below HB.out
      obtain ⟨c0, c1, c2⟩ := HMR.out.cells
      have KA : Hid _ := applied_any m.ra a m.rc cap m.rows c wr (by omega) (by omega) HMR.out.rows (HC.out.below HB.out)
      clear HG hlt
      go_wp2_with fail
      refine Calls.mono KA.out ?_
      rintro e w2 ⟨v, rfl, ho, hb⟩
      obtain ⟨va, vc, hv, hcc, hnil, -⟩ := OwnsC.files ho
      subst hv
      have HO : Hid (OwnsC w2 wr.heap.size (.slice va (appliedC m.rows c).length vc) (appliedC m.rows c)) := ho
      have HNIL : Hid (va = none → vc = 0) := hnil
      have HB2 : Hid (Below w.heap.size w w2) := HB.out.trans (hb.mono HB.out.size)
      have HM2 : Hid (MAt w2 b m) := HMR.out.below hb
      have HBLT : Hid (b < wr.heap.size) := (Array.getElem?_eq_some_iff.1 HMR.out.blk).1
      clear ho hcc hnil hb KA c0 c1 c2
      obtain ⟨c0, c1, c2⟩ := HM2.out.cells
      have f1 := frozen_block HM2.out.blk 1
      have f0 := frozen_block HM2.out.blk 0
      obtain ⟨n, hn⟩ : ∃ n, n = (appliedC m.rows c).length := ⟨_, rfl⟩
      have HN : Hid (n = (appliedC m.rows c).length) := hn
      rw [← hn] at HO ⊢
      clear hn
      have HT2 : Hid (Touch (fun k => k = b) w w2) := Touch.of_below HB2.out
      by_cases h12 : 12 < n
      · have h12z : (12 : Int) < (n : Int) := by omega
        have HF : Hid (commitF m c = 7) := by show _ = _; unfold commitF; rw [if_neg HC14.out, if_neg (by simpa using HOK.out), if_pos (.inl (by rw [← HN.out]; exact h12))]
        go_wp2
        go_ret
        rw [HF.out]
        exact ⟨rfl, HT2.out, .inl ⟨by decide, HM2.out⟩⟩
      have h12z : ¬ (12 : Int) < (n : Int) := by omega
      by_cases hmany : m.many < c.length + 1
      · have hmz : (m.many : Int) < (c.length : Int) + 1 := by omega
        have HF : Hid (commitF m c = 7) := by show _ = _; unfold commitF; rw [if_neg HC14.out, if_neg (by simpa using HOK.out), if_pos (.inr hmany)]
        go_wp2
        go_ret
        rw [HF.out]
        exact ⟨rfl, HT2.out, .inl ⟨by decide, HM2.out⟩⟩
      have hmz : ¬ (m.many : Int) < (c.length : Int) + 1 := by omega
      have HF : Hid (commitF m c = 0) := by show _ = _; unfold commitF; rw [if_neg HC14.out, if_neg (by simpa using HOK.out), if_neg (by rw [← HN.out]; omega)]
      have HPUT : Hid (∀ W : World, W.heap = w2.heap → ∀ u : Nat, MAt ((W.setCell ⟨b, 1, none⟩ (.int .i64 u)).setCell ⟨b, 0, none⟩ (.slice va n vc)) b ⟨va, vc, appliedC m.rows c, u, m.many⟩ ∧ MAt (((W.setCell ⟨b, 1, none⟩ (.int .i64 0)).setCell ⟨b, 1, none⟩ (.int .i64 u)).setCell ⟨b, 0, none⟩ (.slice va n vc)) b ⟨va, vc, appliedC m.rows c, u, m.many⟩) := fun W hW u => by
        rw [HN.out]
        have h1 : MAt W b m := HM2.out.far (by rw [hW]) (fun _ _ _ _ => by rw [hW])
        have h2 : OwnsC W wr.heap.size (.slice va (appliedC m.rows c).length vc) (appliedC m.rows c) := by
          have := HO.out
          rw [HN.out] at this
          exact ownsRow_far this (fun k _ => by rw [hW])
        exact h1.put (u := u) h2 HBLT.out HNIL.out
      by_cases hroom : m.many - m.used < c.length + 1
      · have hrz : (m.many : Int) - (m.used : Int) < (c.length : Int) + 1 := by omega
        have HU : Hid (commitU m c = c.length + 1) := by show _ = _; unfold commitU; rw [if_pos hroom]; omega
        go_wp2_with fail
        go_quiet (fail)
        go_wp2
        go_ret
        rw [HF.out, HU.out]
        have e : ((c.length + 1 : Nat) : Int) = (c.length : Int) + 1 := by omega
        have hp := (HPUT.out (w2.drewN nq) rfl (c.length + 1)).2
        rw [e] at hp
        exact ⟨rfl, touch_set (touch_set (touch_set (HT2.out.trans (Touch.of_below (below_drewN (Below.refl _ _) nq))) 1 _) 1 _) 0 _, .inr ⟨rfl, va, vc, hp⟩⟩
      · have hrz : ¬ (m.many : Int) - (m.used : Int) < (c.length : Int) + 1 := by omega
        have HU : Hid (commitU m c = m.used + c.length + 1) := by show _ = _; unfold commitU; rw [if_neg hroom]
        go_wp2_with fail
        go_quiet (fail)
        go_wp2
        go_ret
        rw [HF.out, HU.out]
        have e : ((m.used + c.length + 1 : Nat) : Int) = (m.used : Int) + (c.length : Int) + 1 := by omega
        have hp := (HPUT.out (w2.drewN nq) rfl (m.used + c.length + 1)).1
        rw [e] at hp
        exact ⟨rfl, touch_set (touch_set (HT2.out.trans (Touch.of_below (below_drewN (Below.refl _ _) nq))) 1 _) 0 _, .inr ⟨rfl, va, vc, hp⟩⟩
end Go.Proofs.Ytihnghnafpgdfab
