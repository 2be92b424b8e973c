/-
  THE WALK OF THE DOCUMENT's ANSWER TO J1.
-/
import Derived.Test.YtihnghnafpgdfacVoted
import Derived.Deep.RegionHeld3
import Derived.BigQuiet
namespace Go.Proofs.Ytihnghnafpgdfac
open Go.RowKit
set_option linter.unusedVariables false
set_option linter.unusedSimpArgs false

def at3 (x y z : Co) : Nat → Co
  | 0 => x
  | 1 => y
  | _ => z
def ThreeAt (w : World) (b : Nat) (c : Nat → Co) : Prop :=
  ∀ i, i < 3 → (w.cell? ⟨b, i * 3, none⟩ = some (.bool (c i).is) ∧ w.cell? ⟨b, i * 3 + 1, none⟩ = some (.slice (c i).a (c i).l.length (c i).cap) ∧ w.cell? ⟨b, i * 3 + 2, none⟩ = some (.int .i64 (c i).t))
theorem ThreeAt.below {w w' : World} {b : Nat} {c : Nat → Co} (h : ThreeAt w b c) {B : Nat} (hb : Below B w w') (hB : b < B) : ThreeAt w' b c := fun i hi => by
  obtain ⟨h0, h1, h2⟩ := h i hi
  exact ⟨by rw [hb.cell hB]; exact h0, by rw [hb.cell hB]; exact h1, by rw [hb.cell hB]; exact h2⟩
theorem ThreeAt.of {w : World} {b : Nat} {x y z : Co} (h : NineBox w b x y z) : ThreeAt w b (at3 x y z) := fun i hi => by
  match i, hi with
  | 0, _ => exact ⟨h.x0, h.x1, h.x2⟩
  | 1, _ => exact ⟨h.y0, h.y1, h.y2⟩
  | 2, _ => exact ⟨h.z0, h.z1, h.z2⟩
def VotedEnd (o : Option Co) (e : Ending) : Prop := match o with
  | some c => e = .returned (.tuple #[c.q, .int .i64 0])
  | none => e = .returned (.tuple #[.agg #[.slice none 0 0, .int .i64 0], .int .i64 4])
/-- None ahead of k has a fellow behind it; k has none ahead of j. -/
def LoneTo (c : Nat → Co) (k j : Nat) : Prop := (∀ i, i < k → ∀ m, i < m → m < 3 → ¬ ((c i).is = true ∧ sameCo (c i) (c m) = true)) ∧ ∀ m, k < m → m < j → ¬ ((c k).is = true ∧ sameCo (c k) (c m) = true)

theorem lone_lone {x y z : Co} {k j : Nat} (h : LoneTo (at3 x y z) k j) : (0 < k → ¬ (x.is = true ∧ [y, z].any (sameCo x) = true)) ∧ (1 < k → ¬ (y.is = true ∧ [z].any (sameCo y) = true)) := by
  refine ⟨fun h0 ⟨h1, h2⟩ => ?_, fun h0 ⟨h1, h2⟩ => ?_⟩
  · simp at h2
    rcases h2 with h2 | h2
    · exact h.1 0 h0 1 (by omega) (by omega) ⟨h1, h2⟩
    · exact h.1 0 h0 2 (by omega) (by omega) ⟨h1, h2⟩
  · simp at h2
    exact h.1 1 h0 2 (by omega) (by omega) ⟨h1, h2⟩
theorem voted_at {x y z : Co} {k j : Nat} (h : LoneTo (at3 x y z) k j) (hkj : k < j) (hj : j < 3) (h1 : (at3 x y z k).is = true) (h2 : sameCo (at3 x y z k) (at3 x y z j) = true) : votedC x y z = some (at3 x y z k) := by
  obtain ⟨l1, l2⟩ := lone_lone h
  by_cases h0 : k = 0
  · subst h0
    have hj2 : j = 1 ∨ j = 2 := by omega
    rcases hj2 with rfl | rfl
    · exact votedC_x ⟨h1, by simp only [List.any_cons, List.any_nil]; rw [show sameCo x y = true from h2]; rfl⟩
    · exact votedC_x ⟨h1, by simp only [List.any_cons, List.any_nil]; rw [show sameCo x z = true from h2]; cases sameCo x y <;> rfl⟩
  · have hk : k = 1 := by omega
    subst hk
    have hj2 : j = 2 := by omega
    subst hj2
    exact votedC_y (l1 (by omega)) ⟨h1, by simp only [List.any_cons, List.any_nil]; rw [show sameCo y z = true from h2]; rfl⟩
theorem lone_next {c : Nat → Co} {k j : Nat} (h : LoneTo c k j) (hn : ¬ ((c k).is = true ∧ sameCo (c k) (c j) = true)) : LoneTo c k (j + 1) := by
  refine ⟨h.1, fun m h1 h2 => ?_⟩
  by_cases hm : m = j
  · subst hm; exact hn
  · exact h.2 m h1 (by omega)
theorem lone_row {c : Nat → Co} {k j : Nat} (h : LoneTo c k j) (hj : 3 ≤ j) : LoneTo c (k + 1) (k + 1 + 1) := by
  refine ⟨fun i hi m h1 h2 => ?_, fun m h1 h2 => absurd h2 (by omega)⟩
  by_cases hk : i = k
  · subst hk; exact h.2 m h1 (by omega)
  · exact h.1 i (by omega) m h1 h2
/-- Which one is the best of the first so many. -/
def BestIs (x y z : Co) (k : Nat) (m : Int) : Prop := (m = -1 ∧ (bestTo x y z k).is = false) ∨ ∃ j : Nat, m = j ∧ j < 3 ∧ bestTo x y z k = at3 x y z j ∧ (at3 x y z j).is = true
theorem bestTo_succ (x y z : Co) {k : Nat} (h : k < 3) : bestTo x y z (k + 1) = better (bestTo x y z k) (at3 x y z k) := by
  match k, h with
  | 0, _ => rfl
  | 1, _ => rfl
  | 2, _ => rfl

set_option maxRecDepth 100000 in
set_option maxHeartbeats 4000000 in
theorem voted_any (x y z : Co) (w : World) (hx : CoOk w x) (hy : CoOk w y) (hz : CoOk w z) :
    Calls Try.prog 22 #[threeV x y z] w fun e w' => VotedEnd (votedC x y z) e ∧ Below w.heap.size w w' := by
  have HOK : Hid (∀ i, CoOk w (at3 x y z i)) := fun i => by unfold at3; split <;> assumption
  clear hx hy hz
  go_enter Try.func22, Try.ntmps22
  go_wp2_with fail
  obtain ⟨w0, hw0⟩ : ∃ u, u = ((w.alloc (Obj.cells #[Value.bool x.is, Value.slice x.a x.l.length x.cap, Value.int IntKind.i64 x.t, Value.bool y.is, Value.slice y.a y.l.length y.cap, Value.int IntKind.i64 y.t, Value.bool z.is, Value.slice z.a z.l.length z.cap, Value.int IntKind.i64 z.t] 49)).alloc
    (Obj.cells #[Value.slice none 0 0, Value.int IntKind.i64 0] 46)) := ⟨_, rfl⟩
  have HB0 : Hid (Below w.heap.size w w0) := by rw [hw0]; exact ((Below.refl _ _).alloc (Nat.le_refl _) _).alloc (by simp) _
  have HZ0 : Hid (w0.heap.size = w.heap.size + 2) := by rw [hw0]; show _ = _; simp
  have HT : Hid (ThreeAt w0 w.heap.size (at3 x y z)) := by
    rw [hw0]
    exact ThreeAt.of ((NineBox.new w x y z _).below ((Below.refl _ _).alloc (Nat.le_refl _) _) (by simp))
  have HQ0 : Hid (QBox w0 (w.heap.size + 1) (.slice none 0 0) 0) := by
    have := QBox.new (w.alloc (Obj.cells #[Value.bool x.is, Value.slice x.a x.l.length x.cap, Value.int IntKind.i64 x.t, Value.bool y.is, Value.slice y.a y.l.length y.cap, Value.int IntKind.i64 y.t, Value.bool z.is, Value.slice z.a z.l.length z.cap, Value.int IntKind.i64 z.t] 49)) (.slice none 0 0) 0 46
    rw [World.size_alloc] at this
    rw [hw0]; exact this
  rw [← hw0]
  clear hw0
  go_loopg [4] 4 (fun kx vi wr => ∃ k : Nat, vi = .int .i64 k ∧ k ≤ 3 ∧ 3 - k ≤ kx ∧ Hid (LoneTo (at3 x y z) k (k + 1)) ∧ Hid (Below (w.heap.size + 2) w0 wr))
  case atStart => exact ⟨0, rfl, by omega, by omega, ⟨fun i h => absurd h (Nat.not_lt_zero _), fun m h1 h2 => absurd h2 (by omega)⟩, Below.refl _ _⟩
  case round =>
    obtain ⟨k, rfl, hk, hkx, HL, HB⟩ := hrel
    by_cases hlt : k < 3
    · have hltz : (k : Int) < 3 := by omega
      have HBW : Hid (Below w.heap.size w wr) := HB0.out.trans (HB.out.mono (by omega))
      go_wp2_with fail
      go_loopg [5] 4 (fun kx vi wi => ∃ j : Nat, vi = .int .i64 j ∧ k < j ∧ j ≤ 3 ∧ 3 - j ≤ kx ∧ Hid (LoneTo (at3 x y z) k j) ∧ Hid (Below (w.heap.size + 2) w0 wi))
      case atStart => exact ⟨k + 1, by go_num, by omega, by omega, by omega, HL, HB⟩
      case round =>

        obtain ⟨j, rfl, hkj, hj, hjx, HM, HBI⟩ := hrel
        have hzw := HZ0.out
        have hzi := HBI.out.size
        have HBWI : Hid (Below w.heap.size w wr) := HB0.out.trans (HBI.out.mono (by omega))
        by_cases hjt : j < 3
        · have hjz : (j : Int) < 3 := by omega
          have kc := fun W (h : Below wr.heap.size wr W) => sameCopy_any (at3 x y z k) (at3 x y z j) W ((HOK.out k).below (HBWI.out.trans (h.mono HBWI.out.size))) ((HOK.out j).below (HBWI.out.trans (h.mono HBWI.out.size)))
          have keepH : Hid (∀ W, Below wr.heap.size wr W → (W.cell? ⟨w.heap.size, k * 3, none⟩ = some (.bool (at3 x y z k).is) ∧ W.cell? ⟨w.heap.size, k * 3 + 1, none⟩ = some (.slice (at3 x y z k).a (at3 x y z k).l.length (at3 x y z k).cap) ∧ W.cell? ⟨w.heap.size, k * 3 + 2, none⟩ = some (.int .i64 (at3 x y z k).t) ∧ W.cell? ⟨w.heap.size, j * 3, none⟩ = some (.bool (at3 x y z j).is) ∧ W.cell? ⟨w.heap.size, j * 3 + 1, none⟩ = some (.slice (at3 x y z j).a (at3 x y z j).l.length (at3 x y z j).cap) ∧ W.cell? ⟨w.heap.size, j * 3 + 2, none⟩ = some (.int .i64 (at3 x y z j).t) ∧ Hid (Below wr.heap.size wr W))) := fun W h => by
            have h1 : Below (w.heap.size + 2) w0 W := HBI.out.trans (h.mono (by omega))
            have h2 := HT.out.below h1 (by omega)
            obtain ⟨a0, a1, a2⟩ := h2 k hlt
            obtain ⟨b0, b1, b2⟩ := h2 j hjt
            exact ⟨a0, a1, a2, b0, b1, b2, h⟩
          generalize hck : at3 x y z k = ck at *
          generalize hcj : at3 x y z j = cj at *
          cases hs : sameCo ck cj
          · rw [hs] at kc
            have kcH : Hid (∀ W, Below wr.heap.size wr W → Calls Try.prog 26 _ W _) := kc
            clear kc
            go_wp2_with fail
            go_region_held3 (fun W => W.cell? ⟨w.heap.size, k * 3, none⟩ = some (.bool ck.is) ∧ W.cell? ⟨w.heap.size, k * 3 + 1, none⟩ = some (.slice ck.a ck.l.length ck.cap) ∧ W.cell? ⟨w.heap.size, k * 3 + 2, none⟩ = some (.int .i64 ck.t) ∧ W.cell? ⟨w.heap.size, j * 3, none⟩ = some (.bool cj.is) ∧ W.cell? ⟨w.heap.size, j * 3 + 1, none⟩ = some (.slice cj.a cj.l.length cj.cap) ∧ W.cell? ⟨w.heap.size, j * 3 + 2, none⟩ = some (.int .i64 cj.t) ∧ Hid (Below wr.heap.size wr W))
              (first | exact keepH.out _ (Below.drew (Below.refl _ _)) | exact keepH.out _ hbW.out)
              (first
                | (go_at_call 26
                   refine (kcH.out _ (‹_ ∧ _ ∧ _ ∧ _ ∧ _ ∧ _ ∧ Hid (Below wr.heap.size wr _)›).2.2.2.2.2.2.out).mono ?_
                   rintro e wa ⟨rfl, hb⟩
                   have hbW : Hid (Below wr.heap.size wr wa) := Below.trans (‹_ ∧ _ ∧ _ ∧ _ ∧ _ ∧ _ ∧ Hid (Below wr.heap.size wr _)›).2.2.2.2.2.2.out (hb.mono (‹_ ∧ _ ∧ _ ∧ _ ∧ _ ∧ _ ∧ Hid (Below wr.heap.size wr _)›).2.2.2.2.2.2.out.size)
                   clear hb))
            have HB2 : Hid (Below (w.heap.size + 2) w0 wa) := HBI.out.trans (hbW.out.mono (by omega))
            have HN : Hid (LoneTo (at3 x y z) k (j + 1)) := lone_next HM.out (by rw [hck, hcj, hs]; exact fun h => by cases h.2)
            rename_i hHeld
            clear hHeld
            obtain ⟨a0, a1, a2, -, -, -, -⟩ := keepH.out _ hbW.out
            clear kcH keepH hs
            rcases Bool.eq_false_or_eq_true ck.is with hc | hc
            all_goals
              rw [hc] at a0
              go_wp2
              go_roundg (3 - (j + 1))
              case measure => omega
              case rel => exact ⟨j + 1, by go_num, by omega, by omega, Nat.le_refl _, HN, HB2⟩
          · rw [hs] at kc
            have kcH : Hid (∀ W, Below wr.heap.size wr W → Calls Try.prog 26 _ W _) := kc
            clear kc
            go_wp2_with fail
            go_region_held3 (fun W => W.cell? ⟨w.heap.size, k * 3, none⟩ = some (.bool ck.is) ∧ W.cell? ⟨w.heap.size, k * 3 + 1, none⟩ = some (.slice ck.a ck.l.length ck.cap) ∧ W.cell? ⟨w.heap.size, k * 3 + 2, none⟩ = some (.int .i64 ck.t) ∧ W.cell? ⟨w.heap.size, j * 3, none⟩ = some (.bool cj.is) ∧ W.cell? ⟨w.heap.size, j * 3 + 1, none⟩ = some (.slice cj.a cj.l.length cj.cap) ∧ W.cell? ⟨w.heap.size, j * 3 + 2, none⟩ = some (.int .i64 cj.t) ∧ Hid (Below wr.heap.size wr W))
              (first | exact keepH.out _ (Below.drew (Below.refl _ _)) | exact keepH.out _ hbW.out)
              (first
                | (go_at_call 26
                   refine (kcH.out _ (‹_ ∧ _ ∧ _ ∧ _ ∧ _ ∧ _ ∧ Hid (Below wr.heap.size wr _)›).2.2.2.2.2.2.out).mono ?_
                   rintro e wa ⟨rfl, hb⟩
                   have hbW : Hid (Below wr.heap.size wr wa) := Below.trans (‹_ ∧ _ ∧ _ ∧ _ ∧ _ ∧ _ ∧ Hid (Below wr.heap.size wr _)›).2.2.2.2.2.2.out (hb.mono (‹_ ∧ _ ∧ _ ∧ _ ∧ _ ∧ _ ∧ Hid (Below wr.heap.size wr _)›).2.2.2.2.2.2.out.size)
                   clear hb))
            have HB2 : Hid (Below (w.heap.size + 2) w0 wa) := HBI.out.trans (hbW.out.mono (by omega))
            rename_i hHeld
            clear hHeld
            obtain ⟨a0, a1, a2, -, -, -, -⟩ := keepH.out _ hbW.out
            clear kcH keepH
            rcases Bool.eq_false_or_eq_true ck.is with hc | hc
            · rw [hc] at a0
              have HV : Hid (votedC x y z = some ck) := by
                have h := voted_at HM.out hkj hjt (by rw [hck]; exact hc) (by rw [hck, hcj]; exact hs)
                rw [hck] at h
                exact h
              have HQ2 : Hid (QBox wa (w.heap.size + 1) (.slice none 0 0) 0) := HQ0.out.below HB2.out (by omega)
              have HW2 : Hid (Below w.heap.size w wa) := HB0.out.trans (HB2.out.mono (by omega))
              obtain ⟨q0, q1, qf0, qf1, ql, _⟩ := HQ2.out
              clear hs hc HQ2
              go_wp2
              try simp only [Exit.inBlock, Exit.then]
              refine bodyPost_ret (v := .tuple #[ck.q, .int .i64 0]) (by simp [results, Try.results22, go_sem, q0, q1, qf0, qf1, ql]) rfl ⟨?_, (HW2.out.setCell (by simp) _).setCell (by simp) _⟩
              rw [HV.out]
              exact rfl
            · rw [hc] at a0
              have HN : Hid (LoneTo (at3 x y z) k (j + 1)) := lone_next HM.out (by rw [hck, hc]; exact fun h => by cases h.1)
              clear hs
              go_wp2
              go_roundg (3 - (j + 1))
              case measure => omega
              case rel => exact ⟨j + 1, by go_num, by omega, by omega, Nat.le_refl _, HN, HB2⟩
        · have HN : Hid (LoneTo (at3 x y z) (k + 1) (k + 1 + 1)) := lone_row HM.out (by omega)
          go_wp2
          go_roundg (3 - (k + 1))
          case measure => omega
          case rel => exact ⟨k + 1, by go_num, by omega, Nat.le_refl _, HN, HBI⟩
    · obtain ⟨l1, l2⟩ := lone_lone HL.out
      have HL1 : Hid _ := l1 (by omega)
      have HL2 : Hid _ := l2 (by omega)
      have hzw := HZ0.out
      have hzr := HB.out.size
      have HT1 : Hid (ThreeAt wr w.heap.size (at3 x y z)) := HT.out.below HB.out (by omega)
      have HW1 : Hid (Below w.heap.size w wr) := HB0.out.trans (HB.out.mono (by omega))
      have HQ1 : Hid (QBox wr (w.heap.size + 1) (.slice none 0 0) 0) := HQ0.out.below HB.out (by omega)
      clear l1 l2 HL HT HQ0 HB HB0 HZ0
      obtain ⟨wz, hwz⟩ : ∃ u, u = wr := ⟨_, rfl⟩
      rw [← hwz] at HT1 HW1 HQ1
      rw [← hwz]
      clear hwz
      go_wp2_with fail
      go_loopg [7, 8] 4 (fun kx vb vi wi => ∃ (i n : Nat) (m : Int), vi = .int .i64 i ∧ vb = .int .i64 m ∧ wi = wz.drewN n ∧ i ≤ 3 ∧ 3 - i ≤ kx ∧ Hid (BestIs x y z i m))
      case atStart => exact ⟨0, 0, -1, rfl, rfl, rfl, by omega, by omega, .inl ⟨rfl, rfl⟩⟩
      case round =>
        obtain ⟨i, n, m, rfl, rfl, rfl, hi, hix, HS⟩ := hrel
        by_cases hi3 : i < 3
        · have hiz : (i : Int) < 3 := by omega
          obtain ⟨c0, c1, c2⟩ := HT1.out i hi3
          have HE : Hid _ := bestTo_succ x y z hi3
          rcases HS.out with ⟨rfl, hn⟩ | ⟨j, rfl, hj, hg, hgi⟩
          · have HN : Hid _ := hn
            clear hn
            rcases Bool.eq_false_or_eq_true (at3 x y z i).is with hc | hc
            · have HNX : Hid (BestIs x y z (i + 1) i) := .inr ⟨i, rfl, hi3, by rw [HE.out]; exact better_new hc (.inl HN.out), hc⟩
              rw [hc] at c0
              clear hc
              go_wp2_with fail
              go_quiet (fail)
              go_wp2
              go_roundg (3 - (i + 1))
              case measure => omega
              case rel => exact ⟨i + 1, _, i, by go_num, rfl, rfl, by omega, Nat.le_refl _, HNX⟩
            · have HNX : Hid (BestIs x y z (i + 1) (-1)) := .inl ⟨rfl, by rw [HE.out, better_none hc]; exact HN.out⟩
              rw [hc] at c0
              clear hc
              go_wp2_with fail
              go_quiet (fail)
              go_wp2
              go_roundg (3 - (i + 1))
              case measure => omega
              case rel => exact ⟨i + 1, _, -1, by go_num, rfl, rfl, by omega, Nat.le_refl _, HNX⟩
          · have HG : Hid _ := hg
            have HGI : Hid _ := hgi
            obtain ⟨d0, d1, d2⟩ := HT1.out j hj
            have hjz : (j : Int) < 3 := by omega
            have hjd : decide ((j : Int) < 0) = false := decide_eq_false (by omega)
            clear hg hgi
            rcases Bool.eq_false_or_eq_true (at3 x y z i).is with hc | hc
            · rw [hc] at c0
              have HC : Hid _ := hc
              clear hc
              by_cases ht : (at3 x y z j).t < (at3 x y z i).t
              · have HNX : Hid (BestIs x y z (i + 1) i) := .inr ⟨i, rfl, hi3, by rw [HE.out]; exact better_new HC.out (.inr (by rw [HG.out]; exact ht)), HC.out⟩
                go_wp2_with fail
                go_quiet (fail)
                go_wp2
                go_roundg (3 - (i + 1))
                case measure => omega
                case rel => exact ⟨i + 1, _, i, by go_num, rfl, rfl, by omega, Nat.le_refl _, HNX⟩
              · have HNX : Hid (BestIs x y z (i + 1) j) := .inr ⟨j, rfl, hj, by rw [HE.out, HG.out]; exact better_old (by rintro (h | h); rw [HGI.out] at h; cases h; exact ht h), HGI.out⟩
                go_wp2_with fail
                go_quiet (fail)
                go_wp2
                go_roundg (3 - (i + 1))
                case measure => omega
                case rel => exact ⟨i + 1, _, j, by go_num, rfl, rfl, by omega, Nat.le_refl _, HNX⟩
            · have HNX : Hid (BestIs x y z (i + 1) j) := .inr ⟨j, rfl, hj, by rw [HE.out, better_none hc]; exact HG.out, HGI.out⟩
              rw [hc] at c0
              clear hc
              go_wp2_with fail
              go_quiet (fail)
              go_wp2
              go_roundg (3 - (i + 1))
              case measure => omega
              case rel => exact ⟨i + 1, _, j, by go_num, rfl, rfl, by omega, Nat.le_refl _, HNX⟩
        · obtain ⟨q0, q1, qf0, qf1, ql, -⟩ := HQ1.out
          have hi4 : i = 3 := by omega
          rcases HS.out with ⟨rfl, hn⟩ | ⟨j, rfl, hj, hg, hgi⟩
          · have HV : Hid (votedC x y z = none) := votedC_none HL1.out HL2.out (g := bestTo x y z i) (by rw [hi4]; rfl) hn
            clear hn
            go_wp2
            try simp only [Exit.inBlock, Exit.then]
            refine bodyPost_ret (v := .tuple #[.agg #[.slice none 0 0, .int .i64 0], .int .i64 4]) (by simp [results, Try.results22, go_sem, q0, q1, qf0, qf1, ql]) rfl ⟨?_, ((below_drewN HW1.out _).setCell (by simp) _).setCell (by simp) _⟩
            rw [HV.out]
            exact rfl
          · have HV : Hid (votedC x y z = some (at3 x y z j)) := by
              have h := votedC_best HL1.out HL2.out (g := bestTo x y z i) (by rw [hi4]; rfl) (by rw [hg]; exact hgi)
              rw [hg] at h
              exact h
            obtain ⟨d0, d1, d2⟩ := HT1.out j hj
            have hjz : (j : Int) < 3 := by omega
            have hjd : decide ((j : Int) < 0) = false := decide_eq_false (by omega)
            clear hg hgi
            go_wp2
            try simp only [Exit.inBlock, Exit.then]
            refine bodyPost_ret (v := .tuple #[(at3 x y z j).q, .int .i64 0]) (by simp [results, Try.results22, go_sem, q0, q1, qf0, qf1, ql]) rfl ⟨?_, ((below_drewN HW1.out _).setCell (by simp) _).setCell (by simp) _⟩
            rw [HV.out]
            exact rfl
end Go.Proofs.Ytihnghnafpgdfac
