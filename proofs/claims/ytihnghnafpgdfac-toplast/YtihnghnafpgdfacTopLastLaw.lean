/-
  THE WALK OF TopLast ITSELF.
-/
import Derived.Test.YtihnghnafpgdfacTopLastWalk
import Derived.Test.YtihnghnafpgdfacTopBase
namespace Go.Proofs.Ytihnghnafpgdfac
open Go.RowKit Go.BigFrame
set_option linter.unusedVariables false
set_option linter.unusedSimpArgs false

theorem lone_flip {x y : Co} (h : ¬ (y.is = true ∧ sameCo y x = true)) : ¬ (x.is = true ∧ sameCo x y = true) := fun ⟨h1, h2⟩ => h ⟨((sameCo_spec h1).1 h2).1, by rw [sameCo_comm]; exact h2⟩
theorem none_closed : votedC noCo noCo noCo = none := by kernel_rfl

set_option maxRecDepth 100000 in
set_option maxHeartbeats 4000000 in
theorem topLast_any (x y z : Co) (w : World) (hx : CoIn w x) (hy : CoIn w y) (hz : CoIn w z) :
    Calls Try.prog 6 #[threeV x y z] w fun e w' => e = .returned (.bool true) ∧ Below w.heap.size w w' := by
  have HIN : Hid (∀ i, CoIn w (at3 x y z i)) := fun i => by unfold at3; split <;> assumption
  clear hx hy hz
  go_enter Try.func6, Try.ntmps6
  go_wp2_with fail
  refine (voteOf_any noCo noCo noCo _ (ok_none _ _ _) (ok_none _ _ _) (ok_none _ _ _)).mono ?_
  rintro e w1 ⟨he, hb⟩
  rw [none_closed] at he
  obtain rfl : e = .returned (.tuple #[.agg #[.slice none 0 0, .int .i64 0], errV 4]) := he
  have HB1 : Hid (Below w.heap.size w w1) := Below.on _ (Below.refl _ _) (Nat.le_refl _) hb
  have HN1 : Hid (NineBox w1 w.heap.size x y z) := (NineBox.new w x y z _).below hb (by simp)
  have hs1 : w.heap.size < w1.heap.size := by have := hb.size; simp at this; omega
  clear hb
  go_wp2_with fail
  refine (number_any 4 _ (by decide) (by decide)).mono ?_
  rintro e w2 ⟨rfl, hw⟩
  rw [hw]
  clear hw w2
  obtain ⟨w0, hw0⟩ : ∃ u, u = w1.alloc (Obj.cells #[Value.slice none 0 0, Value.int IntKind.i64 0] 46) := ⟨_, rfl⟩
  rw [← hw0]
  have HB0 : Hid (Below w.heap.size w w0) := by rw [hw0]; exact HB1.out.alloc HB1.out.size _
  have hs0 : w.heap.size < w0.heap.size := by rw [hw0]; simp; omega
  have HT : Hid (ThreeAt w0 w.heap.size (at3 x y z)) := by rw [hw0]; exact ThreeAt.of (HN1.out.below ((Below.refl _ _).alloc (Nat.le_refl _) _) hs1)
  have HN0 : Hid (NineBox w0 w.heap.size x y z) := by rw [hw0]; exact HN1.out.below ((Below.refl _ _).alloc (Nat.le_refl _) _) hs1
  clear hw0 HB1 HN1 hs1
  go_wp2_with fail
  go_loopg [5] 4 (fun kx vi wr => ∃ k : Nat, vi = .int .i64 k ∧ k ≤ 3 ∧ 3 - k ≤ kx ∧ Hid (LoneUp (at3 x y z) k 0) ∧ Hid (∀ i, i < k → lightF (at3 x y z i).l = true) ∧ Hid (Below w0.heap.size w0 wr))
  case atStart => exact ⟨0, rfl, by omega, by omega, ⟨fun i h => absurd h (Nat.not_lt_zero _), fun m h1 => absurd h1 (Nat.not_lt_zero _)⟩, fun i h => absurd h (Nat.not_lt_zero _), Below.refl _ _⟩
  case round =>
    obtain ⟨k, rfl, hk, hkx, HL, HLI, HB⟩ := hrel
    have HW : Hid (Below w.heap.size w wr) := HB0.out.trans (HB.out.mono HB0.out.size)
    have HTW : Hid (ThreeAt wr w.heap.size (at3 x y z)) := HT.out.below HB.out hs0
    have hsr : w0.heap.size ≤ wr.heap.size := HB.out.size
    by_cases hlt : k < 3
    · have hltz : (k : Int) < 3 := by omega
      obtain ⟨c0, c1, c2⟩ := HTW.out k hlt
      go_wp2_with fail
      refine (lightQuilt_any _ _ _ _ _ (HIN.out k).long (HIN.out k).sized ((HIN.out k).below HW.out).slice.cells).mono ?_
      rintro e w3 ⟨rfl, hb⟩
      have HB3 : Hid (Below w0.heap.size w0 w3) := HB.out.trans (hb.mono hsr)
      clear hb c0 c1 c2
      cases hlk : lightF (at3 x y z k).l
      · go_wp2
        go_ret
        exact ⟨rfl, HB0.out.trans (HB3.out.mono HB0.out.size)⟩
      have HLI2 : Hid (∀ i, i < k + 1 → lightF (at3 x y z i).l = true) := fun i hi => by
        rcases Nat.lt_or_ge i k with h3 | h3
        · exact HLI.out i h3
        · have e : i = k := by omega
          subst e; exact hlk
      clear hlk HLI HTW HW
      go_wp2_with fail
      go_loopg [6] 4 (fun kx vi wi => ∃ j : Nat, vi = .int .i64 j ∧ j ≤ k ∧ 3 - j ≤ kx ∧ Hid (LoneUp (at3 x y z) k j) ∧ Hid (Below w0.heap.size w0 wi))
      case atStart => exact ⟨0, by go_num, by omega, by omega, HL, HB3⟩
      case round =>
        obtain ⟨j, rfl, hj, hjx, HM, HBI⟩ := hrel
        have hsi : w0.heap.size ≤ wr.heap.size := HBI.out.size
        have HWI : Hid (Below w.heap.size w wr) := HB0.out.trans (HBI.out.mono HB0.out.size)
        have HTI : Hid (ThreeAt wr w.heap.size (at3 x y z)) := HT.out.below HBI.out hs0
        by_cases hjt : j < k
        · have hjz : (j : Int) < (k : Int) := by omega
          have hj3 : (j : Int) < 3 := by omega
          obtain ⟨c0, c1, c2⟩ := HTI.out k hlt
          obtain ⟨d0, d1, d2⟩ := HTI.out j (by omega)
          have some' := Later.ne wr
          have p0 := Later.cell c0
          have p1 := Later.cell c1
          have p2 := Later.cell c2
          have q0 := Later.cell d0
          have q1 := Later.cell d1
          have q2 := Later.cell d2
          have HKC : Hid (∀ p : Later wr, Calls Try.prog 25 #[(at3 x y z k).v, (at3 x y z j).v] p.W fun e w' => e = .returned (.bool (sameCo (at3 x y z k) (at3 x y z j))) ∧ Below p.W.heap.size p.W w') := fun p =>
            voteSame_any _ _ _ (((HIN.out k).ok (HLI2.out k (by omega))).below (HWI.out.trans (p.h.mono HWI.out.size))) (((HIN.out j).ok (HLI2.out j (by omega))).below (HWI.out.trans (p.h.mono HWI.out.size)))
          clear c0 c1 c2 d0 d1 d2
          rcases Bool.eq_false_or_eq_true (at3 x y z k).is with hi | hi
          · have HI : Hid _ := hi
            have hv : (at3 x y z k).v = .agg #[.bool true, .slice (at3 x y z k).a (at3 x y z k).l.length (at3 x y z k).cap, .int .i64 (at3 x y z k).t] := by rw [Co.v, hi]
            rw [hi] at p0
            have HKC2 := HKC.out
            rw [hv] at HKC2
            have HKC3 : Hid _ := HKC2
            clear HKC HKC2 hi hv
            have HNX : Hid (sameCo (at3 x y z k) (at3 x y z j) = false → LoneUp (at3 x y z) k (j + 1)) := fun h => loneUp_next HM.out (by rw [h]; exact fun h => by cases h.2)
            cases hs : sameCo (at3 x y z k) (at3 x y z j)
            · rw [hs] at HKC3
              have HNX2 : Hid _ := HNX.out hs
              clear hs HNX
              go_wp2_with fail
              refine wp_region_later (by kernel_rfl) (by kernel_rfl) ?_
              repeat (go_big_quiet_step ((go_at_call 25; exact later_of _ (HKC3.out _))))
              refine wpQuiet_nil ?_
              rintro _ ⟨p, rfl⟩
              go_wp2
              go_roundg (3 - (j + 1))
              case measure => omega
              case rel => exact ⟨j + 1, by go_num, by omega, Nat.le_refl _, HNX2, HBI.out.trans (p.h.mono hsi)⟩
            · rw [hs] at HKC3
              clear hs HNX
              go_wp2_with fail
              refine wp_region_later (by kernel_rfl) (by kernel_rfl) ?_
              repeat (go_big_quiet_step ((go_at_call 25; exact later_of _ (HKC3.out _))))
              refine wpQuiet_nil ?_
              rintro _ ⟨p, rfl⟩
              go_wp2
              go_ret
              exact ⟨rfl, HWI.out.trans (p.h.mono HWI.out.size)⟩
          · have HNX : Hid (LoneUp (at3 x y z) k (j + 1)) := loneUp_next HM.out (by rw [hi]; exact fun h => by cases h.1)
            rw [hi] at p0
            clear hi HKC
            go_wp2_with fail
            refine wp_region_later (by kernel_rfl) (by kernel_rfl) ?_
            repeat (go_big_quiet_step (fail))
            refine wpQuiet_nil ?_
            rintro _ ⟨p, rfl⟩
            go_wp2
            go_roundg (3 - (j + 1))
            case measure => omega
            case rel => exact ⟨j + 1, by go_num, by omega, Nat.le_refl _, HNX, HBI.out.trans (p.h.mono hsi)⟩
        · have e : j = k := by omega
          subst e
          have HN : Hid (LoneUp (at3 x y z) (j + 1) 0) := loneUp_row HM.out
          go_wp2
          go_roundg (3 - (j + 1))
          case measure => omega
          case rel => exact ⟨j + 1, by go_num, by omega, Nat.le_refl _, HN, HLI2, HBI⟩
    · have e : k = 3 := by omega
      have L10 := HL.out.1 1 (by omega) 0 (by omega)
      have L20 := HL.out.1 2 (by omega) 0 (by omega)
      have L21 := HL.out.1 2 (by omega) 1 (by omega)
      have hxy : ¬ (x.is = true ∧ sameCo x y = true) := lone_flip L10
      have hxz : ¬ (x.is = true ∧ sameCo x z = true) := lone_flip L20
      have hyz : ¬ (y.is = true ∧ sameCo y z = true) := lone_flip L21
      have hlast := last_votes hxy hxz hyz
      have HWR : Hid (∀ (g : Co) a cap, g.is = true → (g = x ∨ g = y ∨ g = z) → (wrongL x y z (rightC a cap g.l g.t)).length = 2) := fun g a cap hg h => wrong_two a cap hg hxy hxz hyz h
      have HOK : Hid (∀ i, i < 3 → CoOk w (at3 x y z i)) := fun i hi => (HIN.out i).ok (HLI.out i (by omega))
      clear L10 L20 L21 hxy hxz hyz HL HLI HIN
      have HNR : Hid (NineBox wr w.heap.size x y z) := HN0.out.below HB.out hs0
      obtain ⟨nx0, nx1, nx2, ny0, ny1, ny2, nz0, nz1, nz2⟩ := HNR.out
      go_wp2_with fail
      refine (voteOf_any x y z _ ((HOK.out 0 (by omega)).below HW.out) ((HOK.out 1 (by omega)).below HW.out) ((HOK.out 2 (by omega)).below HW.out)).mono ?_
      rintro e4 w4 ⟨he, hb⟩
      have HN4 : Hid (NineBox w4 w.heap.size x y z) := HNR.out.below hb (by omega)
      have HB4 : Hid (Below w.heap.size w w4) := HW.out.trans (hb.mono HW.out.size)
      have hs4 : w.heap.size < w4.heap.size := by have := hb.size; omega
      clear nx0 nx1 nx2 ny0 ny1 ny2 nz0 nz1 nz2 hb HNR
      rcases hlast with ⟨hv, ix, iy, iz⟩ | ⟨g, hv, hg, hgw, tx, ty, tz⟩
      · rw [hv] at he
        obtain rfl : e4 = .returned (.tuple #[.agg #[.slice none 0 0, .int .i64 0], errV 4]) := he
        have HN5 := HN4.out
        obtain ⟨nx0, nx1, nx2, ny0, ny1, ny2, nz0, nz1, nz2⟩ := HN5
        rw [ix] at nx0
        rw [iy] at ny0
        rw [iz] at nz0
        clear hv ix iy iz
        rw [errV_pos (n := 4) (by decide)]
        go_wp2
        go_ret
        exact ⟨rfl, HB4.out.alloc HB4.out.size _⟩
      · rw [hv] at he
        obtain ⟨a', c', rfl, hs'⟩ := he
        have HT3 : Hid (∀ i, i < 3 → (at3 x y z i).is = true → (at3 x y z i).t ≤ g.t) := fun i hi h => by
          match i, hi with
          | 0, _ => exact tx h
          | 1, _ => exact ty h
          | 2, _ => exact tz h
        have HWR2 : Hid _ := HWR.out g a' c' hg hgw
        have HF : Hid _ := found_all hg hgw (a := a') (cap := c')
        have HGF : Hid (g.l.length ≤ 100) := by
          have h3 : ∀ i, i < 3 → (at3 x y z i).l.length ≤ 100 := fun i hi => (HOK.out i hi).few
          rcases hgw with e | e | e
          · rw [e]; exact h3 0 (by omega)
          · rw [e]; exact h3 1 (by omega)
          · rw [e]; exact h3 2 (by omega)
        have HS4 : Hid (Slice w4 a' c' g.l) := hs'
        clear hs' hv hg hgw tx ty tz HWR
        obtain ⟨gl, hgl⟩ : ∃ u, u = g.l := ⟨_, rfl⟩
        obtain ⟨gt, hgt⟩ : ∃ u, u = g.t := ⟨_, rfl⟩
        rw [← hgl] at HS4 HWR2 HF HGF
        rw [← hgt] at HWR2 HF HT3
        rw [← hgl, ← hgt]
        clear hgl hgt
        obtain ⟨W, hW⟩ : ∃ u, u = w4.alloc (Obj.cells #[.slice a' gl.length c', .int .i64 gt] 46) := ⟨_, rfl⟩
        have HBW : Hid (Below w.heap.size w W) := by rw [hW]; exact HB4.out.alloc HB4.out.size _
        have HNW : Hid (NineBox W w.heap.size x y z) := by rw [hW]; exact HN4.out.below ((Below.refl _ _).alloc (Nat.le_refl _) _) hs4
        have HQW : Hid (QBox W w4.heap.size (.slice a' gl.length c') gt) := by rw [hW]; exact QBox.new w4 _ _ _
        have HSW : Hid (Slice W a' c' gl) := by rw [hW]; exact HS4.out.alloc _
        have hsW : w.heap.size < W.heap.size := by rw [hW]; simp; omega
        go_upto_region 18 with fail
        rw [← hW]
        clear hW HB4 HN4 HS4 hs4 HW HB HTW HB0 HT HN0
        go_wp2_with fail
        go_loopg [8, 9] 4 (fun kx vb vi wi => ∃ (i : Nat), vi = .int .i64 i ∧ vb = .bool (foundTo (at3 x y z) ⟨true, a', c', gl, gt⟩ i) ∧ i ≤ 3 ∧ 3 - i ≤ kx ∧ Hid (Below W.heap.size W wi))
        case atStart => exact ⟨0, rfl, rfl, by omega, by omega, Below.refl _ _⟩
        case round =>
          obtain ⟨i, rfl, rfl, hi, hix, HBi⟩ := hrel
          have hsi : W.heap.size ≤ wr.heap.size := HBi.out.size
          have HQi : Hid (QBox wr w4.heap.size (.slice a' gl.length c') gt) := HQW.out.below HBi.out HQW.out.lt
          have HNi : Hid (NineBox wr w.heap.size x y z) := HNW.out.below HBi.out hsW
          have HSi : Hid (Slice wr a' c' gl) := HSW.out.below HBi.out
          have HWi : Hid (Below w.heap.size w wr) := HBW.out.trans (HBi.out.mono HBW.out.size)
          have some' := Later.ne wr
          obtain ⟨q0, q1, f0, f1, ql, -⟩ := HQi.out
          by_cases hi3 : i < 3
          · have hiz : (i : Int) < 3 := by omega
            obtain ⟨c0, c1, c2⟩ := (ThreeAt.of HNi.out) i hi3
            have HE : Hid _ := foundTo_succ (at3 x y z) ⟨true, a', c', gl, gt⟩ i
            have p0 := Later.cell c0
            have p1 := Later.cell c1
            have p2 := Later.cell c2
            have r0 := Later.cell q0
            have r1 := Later.cell q1
            have HT3i : Hid _ := HT3.out i hi3
            have f3 := (HOK.out i hi3).few
            have fg := HGF.out
            have HKC : Hid (∀ p : Later wr, Calls Try.prog 24 #[.agg #[.slice (at3 x y z i).a (at3 x y z i).l.length (at3 x y z i).cap, .int .i64 (at3 x y z i).t], .agg #[.slice a' gl.length c', .int .i64 gt]] p.W fun e w' => e = .returned (.bool (sameL (at3 x y z i).l gl && ((at3 x y z i).t == gt))) ∧ Below p.W.heap.size p.W w') := fun p =>
              sameQuilt_any _ _ _ _ _ _ _ _ _ (by omega) (by omega) ((HOK.out i hi3).below (HWi.out.trans (p.h.mono HWi.out.size))).slice.cells (HSi.out.below p.h).cells
            generalize hci : at3 x y z i = ci at *
            generalize foundTo (at3 x y z) ⟨true, a', c', gl, gt⟩ i = fd at *
            clear c0 c1 c2 q0 q1 f0 f1 ql
            rcases Bool.eq_false_or_eq_true ci.is with hc | hc
            · have hle : decide (gt < ci.t) = false := decide_eq_false (by have := HT3i.out hc; omega)
              have HC : Hid _ := hc
              rw [hc] at p0
              clear hc
              go_wp2_with fail
              refine wp_region_later (by kernel_rfl) (by kernel_rfl) ?_
              repeat (go_big_quiet_step (fail))
              refine wpQuiet_nil ?_
              rintro _ ⟨p, rfl⟩
              obtain ⟨W2, hW2⟩ : ∃ u, u = p.W := ⟨_, rfl⟩
              have h2 : Hid (Below wr.heap.size wr W2) := by rw [hW2]; exact p.h
              have P0 := p0 p
              have P1 := p1 p
              have P2 := p2 p
              have R0 := r0 p
              have R1 := r1 p
              rw [← hW2] at P0 P1 P2 R0 R1
              rw [← hW2]
              clear hW2 p p0 p1 p2 r0 r1 some'
              have some' := Later.ne W2
              have p0 := Later.cell P0
              have p1 := Later.cell P1
              have p2 := Later.cell P2
              have r0 := Later.cell R0
              have r1 := Later.cell R1
              clear P0 P1 P2 R0 R1
              cases fd
              · have HKC2 : Hid (∀ q : Later W2, _) := fun q => HKC.out ⟨q.W, h2.out.trans (q.h.mono h2.out.size)⟩
                generalize hsm : (sameL ci.l gl && (ci.t == gt)) = sm at *
                go_wp2_with fail
                refine wp_region_later (by kernel_rfl) (by kernel_rfl) ?_
                repeat (go_big_quiet_step ((go_at_call 24; exact later_of _ (HKC2.out _))))
                refine wpQuiet_nil ?_
                rintro _ ⟨p, rfl⟩
                go_wp2
                go_roundg (3 - (i + 1))
                case measure => omega
                case rel => exact ⟨i + 1, by go_num, by rw [HE.out, HC.out, ← hsm]; rfl, by omega, Nat.le_refl _, HBi.out.trans ((h2.out.trans (p.h.mono h2.out.size)).mono hsi)⟩
              · skip
                go_wp2_with fail
                refine wp_region_later (by kernel_rfl) (by kernel_rfl) ?_
                repeat (go_big_quiet_step (fail))
                refine wpQuiet_nil ?_
                rintro _ ⟨p, rfl⟩
                go_wp2
                go_roundg (3 - (i + 1))
                case measure => omega
                case rel => exact ⟨i + 1, by go_num, by rw [HE.out]; rfl, by omega, Nat.le_refl _, HBi.out.trans ((h2.out.trans (p.h.mono h2.out.size)).mono hsi)⟩
            · have HC : Hid _ := hc
              rw [hc] at p0
              clear hc
              go_wp2_with fail
              refine wp_region_later (by kernel_rfl) (by kernel_rfl) ?_
              repeat (go_big_quiet_step (fail))
              refine wpQuiet_nil ?_
              rintro _ ⟨p, rfl⟩
              obtain ⟨W2, hW2⟩ : ∃ u, u = p.W := ⟨_, rfl⟩
              have h2 : Hid (Below wr.heap.size wr W2) := by rw [hW2]; exact p.h
              have P0 := p0 p
              have P1 := p1 p
              have P2 := p2 p
              have R0 := r0 p
              have R1 := r1 p
              rw [← hW2] at P0 P1 P2 R0 R1
              rw [← hW2]
              clear hW2 p p0 p1 p2 r0 r1 some'
              have some' := Later.ne W2
              have p0 := Later.cell P0
              have p1 := Later.cell P1
              have p2 := Later.cell P2
              have r0 := Later.cell R0
              have r1 := Later.cell R1
              clear P0 P1 P2 R0 R1
              cases fd
              · skip
                go_wp2_with fail
                refine wp_region_later (by kernel_rfl) (by kernel_rfl) ?_
                repeat (go_big_quiet_step (fail))
                refine wpQuiet_nil ?_
                rintro _ ⟨p, rfl⟩
                go_wp2
                go_roundg (3 - (i + 1))
                case measure => omega
                case rel => exact ⟨i + 1, by go_num, by rw [HE.out, HC.out]; rfl, by omega, Nat.le_refl _, HBi.out.trans ((h2.out.trans (p.h.mono h2.out.size)).mono hsi)⟩
              · skip
                go_wp2_with fail
                refine wp_region_later (by kernel_rfl) (by kernel_rfl) ?_
                repeat (go_big_quiet_step (fail))
                refine wpQuiet_nil ?_
                rintro _ ⟨p, rfl⟩
                go_wp2
                go_roundg (3 - (i + 1))
                case measure => omega
                case rel => exact ⟨i + 1, by go_num, by rw [HE.out]; rfl, by omega, Nat.le_refl _, HBi.out.trans ((h2.out.trans (p.h.mono h2.out.size)).mono hsi)⟩
          · have e3 : i = 3 := by omega
            have hfd : foundTo (at3 x y z) ⟨true, a', c', gl, gt⟩ i = true := by rw [e3]; exact HF.out
            rw [hfd]
            obtain ⟨nx0, nx1, nx2, ny0, ny1, ny2, nz0, nz1, nz2⟩ := HNi.out
            clear hfd e3
            go_wp2_with fail
            refine (wrong_any x y z a' c' gl gt _ ((HOK.out 0 (by omega)).below HWi.out) ((HOK.out 1 (by omega)).below HWi.out) ((HOK.out 2 (by omega)).below HWi.out) ⟨HSi.out, HGF.out⟩).mono ?_
            rintro e5 w5 ⟨v, rfl, ho, hb⟩
            obtain ⟨a2, c2, rfl, -⟩ := OwnsN.nums ho
            have HB5 : Hid (Below w.heap.size w w5) := HWi.out.trans (hb.mono HWi.out.size)
            rw [HWR2.out]
            clear ho hb
            go_wp2
            go_ret
            exact ⟨rfl, HB5.out⟩
end Go.Proofs.Ytihnghnafpgdfac
