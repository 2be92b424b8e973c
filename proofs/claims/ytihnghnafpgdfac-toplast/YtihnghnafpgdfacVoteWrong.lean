/-
  THE WALKS OF vote.Wrong AND OF THE DOCUMENT's ANSWER TO J2.
-/
import Derived.Test.YtihnghnafpgdfacVoteBase
import Derived.Deep.LoopGhost
namespace Go.Proofs.Ytihnghnafpgdfac
open Go.RowKit
set_option linter.unusedVariables false
set_option linter.unusedSimpArgs false

/-- Three copies, one behind the other in a block. -/
abbrev threeV (x y z : Co) : Value := .agg #[.bool x.is, .slice x.a x.l.length x.cap, .int .i64 x.t, .bool y.is, .slice y.a y.l.length y.cap, .int .i64 y.t, .bool z.is, .slice z.a z.l.length z.cap, .int .i64 z.t]
def rightC (a : Option Addr) (cap : Nat) (l : List Fi) (t : Int) : Co := ⟨true, a, cap, l, t⟩
def wrongL (x y z q : Co) : List Int := (if sameCo x q = true then [] else [0]) ++ ((if sameCo y q = true then [] else [1]) ++ (if sameCo z q = true then [] else [2]))

/-- .. of the first so many. -/
def wrongTo (x y z q : Co) : Nat → List Int
  | 0 => []
  | 1 => if sameCo x q = true then [] else [0]
  | 2 => (if sameCo x q = true then [] else [0]) ++ (if sameCo y q = true then [] else [1])
  | _ => wrongL x y z q
theorem wrongTo_len (x y z q : Co) (k : Nat) : (wrongTo x y z q k).length ≤ 3 := by
  unfold wrongTo
  split
  · simp
  · split <;> simp
  · split <;> split <;> simp
  · unfold wrongL
    split <;> split <;> split <;> simp
theorem OwnsN.below {w w' : World} {B : Nat} {v : Value} {l : List Int} (h : OwnsN w B v l) (hb : Below w.heap.size w w') : OwnsN w' B v l :=
  rowFar h fun g hg => hb.block g (h.lt g hg).2
theorem OwnsN.snoc {w : World} {B : Nat} {v : Value} {l : List Int} {k : Int} (h : w.ownsRow B 3 1 v (l.length + 1) (l.map (Value.int .i64) ++ [.int .i64 k])) : OwnsN w B v (l ++ [k]) := by
  show World.ownsRow _ _ _ _ _ _ _
  rw [List.map_append, List.length_append]
  exact h
theorem OwnsN.base {w : World} {B B' : Nat} {v : Value} {l : List Int} (h : OwnsN w B v l) (hb : B' ≤ B) : OwnsN w B' v l := by
  refine ⟨h.1, ?_⟩
  rcases h.2 with h0 | ⟨g, cap, cur, e, hg, rest⟩
  · exact .inl h0
  · exact .inr ⟨g, cap, cur, e, by omega, rest⟩
theorem cell_one_newN (w : World) (a : Value) (t : TypeId) : ∀ j u, [a][j]? = some u → (w.alloc (.cells #[a] t)).cell? ((⟨w.heap.size, 0, none⟩ : Addr).add j) = some u := by
  intro j u hj
  match j, hj with
  | 0, hj => simp at hj; subst hj; simp [Addr.add]
  | j + 1, hj => simp at hj
/-- The copy that is right, in its box. -/
structure RightBox (w0 : World) (b : Nat) (q : Co) : Prop where
  c0 : w0.cell? ⟨b, 0, none⟩ = some (.bool q.is)
  c1 : w0.cell? ⟨b, 1, none⟩ = some (.slice q.a q.l.length q.cap)
  c2 : w0.cell? ⟨b, 2, none⟩ = some (.int .i64 q.t)
theorem rightBox_new (W : World) (q : Co) (hq : q.is = true) (b : Nat) (T : TypeId) (hb : b = W.heap.size) : RightBox (W.alloc (Obj.cells #[.bool true, .slice q.a q.l.length q.cap, .int .i64 q.t] T)) b q := by
  subst hb
  exact ⟨by rw [hq]; simp, by simp, by simp⟩
theorem index3_0 (x y z : Co) (w : World) : (Instr.index 49 (threeV x y z) (.int .i64 0)).run Try.prog w = .ok x.v w := by kernel_rfl
theorem index3_1 (x y z : Co) (w : World) : (Instr.index 49 (threeV x y z) (.int .i64 1)).run Try.prog w = .ok y.v w := by kernel_rfl
theorem index3_2 (x y z : Co) (w : World) : (Instr.index 49 (threeV x y z) (.int .i64 2)).run Try.prog w = .ok z.v w := by kernel_rfl
theorem RightBox.cells {w0 : World} {b : Nat} {q : Co} (h : RightBox w0 b q) (w : World) (hb : Below (b + 1) w0 w) : w.cell? ⟨b, 0, none⟩ = some (.bool q.is) ∧ w.cell? ⟨b, 1, none⟩ = some (.slice q.a q.l.length q.cap) ∧ w.cell? ⟨b, 2, none⟩ = some (.int .i64 q.t) :=
  ⟨by rw [hb.cell (by simp)]; exact h.c0, by rw [hb.cell (by simp)]; exact h.c1, by rw [hb.cell (by simp)]; exact h.c2⟩
theorem Try.infoInt : (Try.prog.info? 3).map (fun i => (i.zero, i.size, i.bytes)) = some (some (.int .i64 0), 1, 8) := by kernel_rfl

set_option maxRecDepth 100000 in
set_option maxHeartbeats 4000000 in
theorem wrong_any (x y z : Co) (a : Option Addr) (cap : Nat) (l : List Fi) (t : Int) (w : World) (hx : CoOk w x) (hy : CoOk w y) (hz : CoOk w z) (hq : CoOk w (rightC a cap l t)) :
    Calls Try.prog 28 #[threeV x y z, .agg #[.slice a l.length cap, .int .i64 t]] w fun e w' => ∃ v, e = .returned v ∧ OwnsN w' w.heap.size v (wrongL x y z (rightC a cap l t)) ∧ Below w.heap.size w w' := by
  obtain ⟨i0, hi, hz0, hz1, hz2'⟩ := info_parts Try.infoInt
  have HX : Hid (CoOk w x) := hx
  have HY : Hid (CoOk w y) := hy
  have HZ : Hid (CoOk w z) := hz
  have HQ : Hid (CoOk w (rightC a cap l t)) := hq
  clear hx hy hz hq
  go_enter Try.func28, Try.ntmps28
  go_wp2_with fail
  obtain ⟨w0, hw0⟩ : ∃ u, u = (((w.alloc (Obj.cells #[Value.bool x.is, Value.slice x.a x.l.length x.cap, Value.int IntKind.i64 x.t, Value.bool y.is, Value.slice y.a y.l.length y.cap, Value.int IntKind.i64 y.t, Value.bool z.is, Value.slice z.a z.l.length z.cap, Value.int IntKind.i64 z.t] 49)).alloc
    (Obj.cells #[Value.slice a l.length cap, Value.int IntKind.i64 t] 46)).alloc (Obj.cells #[Value.bool true, Value.slice a l.length cap, Value.int IntKind.i64 t] 48)) := ⟨_, rfl⟩
  have HB0 : Hid (Below w.heap.size w w0) := by rw [hw0]; exact (((Below.refl _ _).alloc (Nat.le_refl _) _).alloc (by simp) _).alloc (by simp; omega) _
  have HZ0 : Hid (w0.heap.size = w.heap.size + 3) := by rw [hw0]; show _ = _; simp
  have HR : Hid (RightBox w0 (w.heap.size + 1 + 1) (rightC a cap l t)) := by rw [hw0]; exact rightBox_new _ (rightC a cap l t) rfl _ _ (by simp)
  rw [← hw0]
  clear hw0
  go_loopg [6, 12] 4 (fun kx vp vi wr => ∃ k : Nat, vi = .int .i64 k ∧ k ≤ 3 ∧ 3 - k ≤ kx ∧ Hid (OwnsN wr (w.heap.size + 3) vp (wrongTo x y z (rightC a cap l t) k)) ∧ Hid (Below (w.heap.size + 3) w0 wr))
  case atStart => exact ⟨0, rfl, by omega, by omega, World.ownsRow_nil _ _ _ _, Below.refl _ _⟩
  case round =>
    obtain ⟨k, rfl, hk, hkx, HO, HB⟩ := hrel
    have HBW : Hid (Below w.heap.size w wr) := HB0.out.trans (HB.out.mono (by omega))
    have hzw := HZ0.out
    by_cases h0 : k = 0
    · subst h0
      have hidx := index3_0 x y z
      have hcon := voteSame_any x (rightC a cap l t) (wr.alloc (Obj.cells #[.bool x.is, .slice x.a x.l.length x.cap, .int .i64 x.t] 48)) (HX.out.below (HBW.out.alloc HBW.out.size _)) (HQ.out.below (HBW.out.alloc HBW.out.size _))
      have HCON : Hid _ := hcon
      clear hcon
      obtain ⟨r0, r1, r2⟩ := HR.out.cells wr HB.out
      simp only [rightC] at r0 r1 r2
      have hzr := HB.out.size
      have hzr2 : w.heap.size + 1 + 1 < wr.heap.size := by omega
      cases hs : sameCo x (rightC a cap l t)
      · go_wp2_with fail
        refine Calls.mono HCON.out ?_
        rintro _ w2 ⟨rfl, hb2⟩
        rw [hs]
        have HB2 : Hid (Below (w.heap.size + 3) w0 w2) := (HB.out.alloc (by omega) _).trans (hb2.mono (by simp; omega))
        have HO2 : Hid (OwnsN w2 (w.heap.size + 3) u6 (wrongTo x y z (rightC a cap l t) 0)) := OwnsN.below (HO.out.alloc _) hb2
        have hz2 := HB2.out.size
        clear hb2 HCON
        go_wp2_with (at_builtin; refine wpList_append_own _ rfl _ _ 59 rfl (w.heap.size + 3) 3 i0 _ 1 8 Try.underlying59 hi hz0 hz1 hz2' rfl (by decide) _ _ _ rfl (HO2.out.alloc _) ⟨w2.heap.size, 0, none⟩ 1 1 [.int .i64 0] rfl rfl (cell_one_newN _ _ _) (by intro u hu; simp at hu; subst hu; rfl) (by unfold maxLen; have := wrongTo_len x y z (rightC a cap l t) 0; omega) (by have := wrongTo_len x y z (rightC a cap l t) 0; omega) (by simp; omega) ?_; intro v3 w3 hown3 hgrow3 hnil3)
        go_wp2
        go_roundg (3 - (0 + 1))
        case measure => omega
        case rel =>
          refine ⟨0 + 1, by go_num, by omega, Nat.le_refl _, ?_, (HB2.out.alloc (by omega) _).grown hgrow3 (by simp; omega) (fun q hq => (HO2.out.lt q hq).1)⟩
          show OwnsN _ _ _ _
          have e : wrongTo x y z (rightC a cap l t) (0 + 1) = wrongTo x y z (rightC a cap l t) 0 ++ [0] := by simp [wrongTo, wrongL, hs]
          rw [e]
          exact OwnsN.snoc hown3
      · go_wp2_with fail
        refine Calls.mono HCON.out ?_
        rintro _ w2 ⟨rfl, hb2⟩
        rw [hs]
        have HB2 : Hid (Below (w.heap.size + 3) w0 w2) := (HB.out.alloc (by omega) _).trans (hb2.mono (by simp; omega))
        have HO2 : Hid (OwnsN w2 (w.heap.size + 3) u6 (wrongTo x y z (rightC a cap l t) 0)) := OwnsN.below (HO.out.alloc _) hb2
        clear hb2 HCON
        go_wp2
        go_roundg (3 - (0 + 1))
        case measure => omega
        case rel =>
          refine ⟨0 + 1, by go_num, by omega, Nat.le_refl _, ?_, HB2⟩
          have e : wrongTo x y z (rightC a cap l t) (0 + 1) = wrongTo x y z (rightC a cap l t) 0 := by simp [wrongTo, wrongL, hs]
          rw [e]
          exact HO2
    · by_cases h1 : k = 1
      · subst h1
        have hidx := index3_1 x y z
        have hcon := voteSame_any y (rightC a cap l t) (wr.alloc (Obj.cells #[.bool y.is, .slice y.a y.l.length y.cap, .int .i64 y.t] 48)) (HY.out.below (HBW.out.alloc HBW.out.size _)) (HQ.out.below (HBW.out.alloc HBW.out.size _))
        have HCON : Hid _ := hcon
        clear hcon
        obtain ⟨r0, r1, r2⟩ := HR.out.cells wr HB.out
        simp only [rightC] at r0 r1 r2
        have hzr := HB.out.size
        have hzr2 : w.heap.size + 1 + 1 < wr.heap.size := by omega
        cases hs : sameCo y (rightC a cap l t)
        · go_wp2_with fail
          refine Calls.mono HCON.out ?_
          rintro _ w2 ⟨rfl, hb2⟩
          rw [hs]
          have HB2 : Hid (Below (w.heap.size + 3) w0 w2) := (HB.out.alloc (by omega) _).trans (hb2.mono (by simp; omega))
          have HO2 : Hid (OwnsN w2 (w.heap.size + 3) u6 (wrongTo x y z (rightC a cap l t) 1)) := OwnsN.below (HO.out.alloc _) hb2
          have hz2 := HB2.out.size
          clear hb2 HCON
          go_wp2_with (at_builtin; refine wpList_append_own _ rfl _ _ 59 rfl (w.heap.size + 3) 3 i0 _ 1 8 Try.underlying59 hi hz0 hz1 hz2' rfl (by decide) _ _ _ rfl (HO2.out.alloc _) ⟨w2.heap.size, 0, none⟩ 1 1 [.int .i64 1] rfl rfl (cell_one_newN _ _ _) (by intro u hu; simp at hu; subst hu; rfl) (by unfold maxLen; have := wrongTo_len x y z (rightC a cap l t) 1; omega) (by have := wrongTo_len x y z (rightC a cap l t) 1; omega) (by simp; omega) ?_; intro v3 w3 hown3 hgrow3 hnil3)
          go_wp2
          go_roundg (3 - (1 + 1))
          case measure => omega
          case rel =>
            refine ⟨1 + 1, by go_num, by omega, Nat.le_refl _, ?_, (HB2.out.alloc (by omega) _).grown hgrow3 (by simp; omega) (fun q hq => (HO2.out.lt q hq).1)⟩
            show OwnsN _ _ _ _
            have e : wrongTo x y z (rightC a cap l t) (1 + 1) = wrongTo x y z (rightC a cap l t) 1 ++ [1] := by simp [wrongTo, wrongL, hs]
            rw [e]
            exact OwnsN.snoc hown3
        · go_wp2_with fail
          refine Calls.mono HCON.out ?_
          rintro _ w2 ⟨rfl, hb2⟩
          rw [hs]
          have HB2 : Hid (Below (w.heap.size + 3) w0 w2) := (HB.out.alloc (by omega) _).trans (hb2.mono (by simp; omega))
          have HO2 : Hid (OwnsN w2 (w.heap.size + 3) u6 (wrongTo x y z (rightC a cap l t) 1)) := OwnsN.below (HO.out.alloc _) hb2
          clear hb2 HCON
          go_wp2
          go_roundg (3 - (1 + 1))
          case measure => omega
          case rel =>
            refine ⟨1 + 1, by go_num, by omega, Nat.le_refl _, ?_, HB2⟩
            have e : wrongTo x y z (rightC a cap l t) (1 + 1) = wrongTo x y z (rightC a cap l t) 1 := by simp [wrongTo, wrongL, hs]
            rw [e]
            exact HO2
      · by_cases h2 : k = 2
        · subst h2
          have hidx := index3_2 x y z
          have hcon := voteSame_any z (rightC a cap l t) (wr.alloc (Obj.cells #[.bool z.is, .slice z.a z.l.length z.cap, .int .i64 z.t] 48)) (HZ.out.below (HBW.out.alloc HBW.out.size _)) (HQ.out.below (HBW.out.alloc HBW.out.size _))
          have HCON : Hid _ := hcon
          clear hcon
          obtain ⟨r0, r1, r2⟩ := HR.out.cells wr HB.out
          simp only [rightC] at r0 r1 r2
          have hzr := HB.out.size
          have hzr2 : w.heap.size + 1 + 1 < wr.heap.size := by omega
          cases hs : sameCo z (rightC a cap l t)
          · go_wp2_with fail
            refine Calls.mono HCON.out ?_
            rintro _ w2 ⟨rfl, hb2⟩
            rw [hs]
            have HB2 : Hid (Below (w.heap.size + 3) w0 w2) := (HB.out.alloc (by omega) _).trans (hb2.mono (by simp; omega))
            have HO2 : Hid (OwnsN w2 (w.heap.size + 3) u6 (wrongTo x y z (rightC a cap l t) 2)) := OwnsN.below (HO.out.alloc _) hb2
            have hz2 := HB2.out.size
            clear hb2 HCON
            go_wp2_with (at_builtin; refine wpList_append_own _ rfl _ _ 59 rfl (w.heap.size + 3) 3 i0 _ 1 8 Try.underlying59 hi hz0 hz1 hz2' rfl (by decide) _ _ _ rfl (HO2.out.alloc _) ⟨w2.heap.size, 0, none⟩ 1 1 [.int .i64 2] rfl rfl (cell_one_newN _ _ _) (by intro u hu; simp at hu; subst hu; rfl) (by unfold maxLen; have := wrongTo_len x y z (rightC a cap l t) 2; omega) (by have := wrongTo_len x y z (rightC a cap l t) 2; omega) (by simp; omega) ?_; intro v3 w3 hown3 hgrow3 hnil3)
            go_wp2
            go_roundg (3 - (2 + 1))
            case measure => omega
            case rel =>
              refine ⟨2 + 1, by go_num, by omega, Nat.le_refl _, ?_, (HB2.out.alloc (by omega) _).grown hgrow3 (by simp; omega) (fun q hq => (HO2.out.lt q hq).1)⟩
              show OwnsN _ _ _ _
              have e : wrongTo x y z (rightC a cap l t) (2 + 1) = wrongTo x y z (rightC a cap l t) 2 ++ [2] := by simp [wrongTo, wrongL, hs]
              rw [e]
              exact OwnsN.snoc hown3
          · go_wp2_with fail
            refine Calls.mono HCON.out ?_
            rintro _ w2 ⟨rfl, hb2⟩
            rw [hs]
            have HB2 : Hid (Below (w.heap.size + 3) w0 w2) := (HB.out.alloc (by omega) _).trans (hb2.mono (by simp; omega))
            have HO2 : Hid (OwnsN w2 (w.heap.size + 3) u6 (wrongTo x y z (rightC a cap l t) 2)) := OwnsN.below (HO.out.alloc _) hb2
            clear hb2 HCON
            go_wp2
            go_roundg (3 - (2 + 1))
            case measure => omega
            case rel =>
              refine ⟨2 + 1, by go_num, by omega, Nat.le_refl _, ?_, HB2⟩
              have e : wrongTo x y z (rightC a cap l t) (2 + 1) = wrongTo x y z (rightC a cap l t) 2 := by simp [wrongTo, wrongL, hs]
              rw [e]
              exact HO2
        · have h3 : k = 3 := by omega
          subst h3
          go_wp2
          go_ret
          exact ⟨_, rfl, HO.out.base (by omega), HBW.out⟩
end Go.Proofs.Ytihnghnafpgdfac
