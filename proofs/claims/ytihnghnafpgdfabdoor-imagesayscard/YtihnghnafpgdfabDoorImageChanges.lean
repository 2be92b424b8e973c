/-
  CHANGES FROM ROWS TO OTHERS: the document's answer to E3.
-/
import Derived.Test.YtihnghnafpgdfabDoorRowSame
import Derived.Test.YtihnghnafpgdfabDoorRowApplied
namespace Go.Proofs.YtihnghnafpgdfabDoor
open Go.RowKit Go.BigFrame
set_option linter.unusedVariables false
set_option linter.unusedSimpArgs false

def goneC (c : Ch) : Ch := ⟨c.key, ⟨#[]⟩, true⟩
/-- What is gone, and what is new or another one. -/
def chg : List Ch → List Ch → List Ch
  | [], [] => []
  | x :: a, [] => goneC x :: chg a []
  | [], y :: b => y :: chg [] b
  | x :: a, y :: b => if ltB x.key y.key = true then goneC x :: chg a (y :: b) else if ltB y.key x.key = true then y :: chg (x :: a) b else (if eqCh x y = true then [] else [y]) ++ chg a b
termination_by a b => a.length + b.length
theorem chg_end {a b : List Ch} {i k : Nat} (hi : ¬ i < a.length) (hk : ¬ k < b.length) : chg (a.drop i) (b.drop k) = [] := by
  rw [List.drop_eq_nil_of_le (by omega), List.drop_eq_nil_of_le (by omega), chg]
theorem chg_gone {a b : List Ch} {i k : Nat} (hi : i < a.length) (h : ¬ k < b.length) : chg (a.drop i) (b.drop k) = goneC a[i] :: chg (a.drop (i + 1)) (b.drop k) := by
  have e : b.drop k = [] := List.drop_eq_nil_of_le (by omega)
  rw [List.drop_eq_getElem_cons hi, e, chg]
theorem chg_lt {a b : List Ch} {i k : Nat} (hi : i < a.length) (hk : k < b.length) (h : ltB a[i].key b[k].key = true) : chg (a.drop i) (b.drop k) = goneC a[i] :: chg (a.drop (i + 1)) (b.drop k) := by
  conv => lhs; rw [List.drop_eq_getElem_cons hi, List.drop_eq_getElem_cons hk, chg, if_pos h]
  rw [← List.drop_eq_getElem_cons hk]
theorem chg_new {a b : List Ch} {i k : Nat} (hi : ¬ i < a.length) (hk : k < b.length) : chg (a.drop i) (b.drop k) = b[k] :: chg (a.drop i) (b.drop (k + 1)) := by
  have e : a.drop i = [] := List.drop_eq_nil_of_le (by omega)
  rw [List.drop_eq_getElem_cons hk, e, chg]
theorem chg_gt {a b : List Ch} {i k : Nat} (hi : i < a.length) (hk : k < b.length) (h : ltB a[i].key b[k].key = false) (h2 : ltB b[k].key a[i].key = true) : chg (a.drop i) (b.drop k) = b[k] :: chg (a.drop i) (b.drop (k + 1)) := by
  conv => lhs; rw [List.drop_eq_getElem_cons hi, List.drop_eq_getElem_cons hk, chg, if_neg (by rw [h]; decide), if_pos h2]
  rw [← List.drop_eq_getElem_cons hi]
theorem chg_both {a b : List Ch} {i k : Nat} (hi : i < a.length) (hk : k < b.length) (h : ltB a[i].key b[k].key = false) (h2 : ltB b[k].key a[i].key = false) : chg (a.drop i) (b.drop k) = (if eqCh a[i] b[k] = true then [] else [b[k]]) ++ chg (a.drop (i + 1)) (b.drop (k + 1)) := by
  rw [List.drop_eq_getElem_cons hi, List.drop_eq_getElem_cons hk, chg, if_neg (by rw [h]; decide), if_neg (by rw [h2]; decide)]

set_option maxRecDepth 100000 in
set_option maxHeartbeats 4000000 in
theorem changesOf_any (pa pb : Option Addr) (ca cb : Nat) (a b : List Ch) (w : World) (h1 : a.length ≤ 100) (h2 : b.length ≤ 100) (ha : CC w pa a) (hb : CC w pb b) :
    Calls Tryd.prog 18 #[.slice pa a.length ca, .slice pb b.length cb] w fun e w' => ∃ v, e = .returned v ∧ OwnsC w' w.heap.size v (chg a b) ∧ Below w.heap.size w w' := by
  obtain ⟨i0, hi, hz0, hz1, hz2⟩ := info_parts Tryd.infoChange
  have HA : Hid (CC w pa a) := ha
  have HB : Hid (CC w pb b) := hb
  clear ha hb
  go_enter Tryd.func18, Tryd.ntmps18
  go_wp2_with fail
  go_loopg [6, 7, 5] (a.length + b.length + 1) (fun kx vi vk vo wr => ∃ (i k : Nat) (out : List Ch), vi = .int .i64 i ∧ vk = .int .i64 k ∧ i ≤ a.length ∧ k ≤ b.length ∧ a.length - i + (b.length - k) ≤ kx ∧ Hid (chg a b = out ++ chg (a.drop i) (b.drop k)) ∧ out.length ≤ i + k ∧ Hid (OwnsC wr w.heap.size vo out) ∧ Hid (Below w.heap.size w wr))
  case atStart => exact ⟨0, 0, [], rfl, rfl, Nat.zero_le _, Nat.zero_le _, by omega, (by show _ = _; simp), by simp, World.ownsRow_nil _ _ _ _, Below.refl _ _⟩
  case round =>
    obtain ⟨i, k, out, rfl, rfl, hia', hkb', hkx, HS, hol, HN0, HW0⟩ := hrel
    obtain ⟨W0, rfl⟩ : ∃ x, x = wr := ⟨wr, rfl⟩
    have hol200 : out.length ≤ 200 := by omega
    by_cases hia : i < a.length
    · have hiz : (i : Int) < (a.length : Int) := by omega
      have hiq : ((i : Int) == (a.length : Int)) = false := by rw [beq_eq_false_iff_ne]; omega
      by_cases hkb : k < b.length
      · have hkz : (k : Int) < (b.length : Int) := by omega
        have hkq : ((k : Int) == (b.length : Int)) = false := by rw [beq_eq_false_iff_ne]; omega
        obtain ⟨pa, oa, epa, c0, c1, c2⟩ := HA.out.below HW0.out i hia
        cases epa
        obtain ⟨pb, ob, epb, d0, d1, d2⟩ := HB.out.below HW0.out k hkb
        cases epb
        cases hl1 : ltB a[i].key b[k].key with
        | true =>
          have hq0 := HW0.out.size
          go_wp2_with fail
          go_quiet (fail)
          have HW1 : Hid (Below w.heap.size w (W0.drewN nq)) := below_drewN HW0.out _
          have HN1 : Hid (OwnsC (W0.drewN nq) w.heap.size u5 out) := HN0.out.drewN _
          clear HW0 HN0 c0 c1 c2 d0 d1 d2
          generalize W0.drewN nq = W1 at HW1 HN1 ⊢
          obtain ⟨pa, oa, epa, c0, c1, c2⟩ := HA.out.below HW1.out i hia
          cases epa
          obtain ⟨pb, ob, epb, d0, d1, d2⟩ := HB.out.below HW1.out k hkb
          cases epb
          have HS9 : Hid (chg a b = (out ++ [goneC a[i]]) ++ chg (a.drop (i + 1)) (b.drop k)) := by
            show _ = _
            rw [HS.out, chg_lt hia hkb hl1, List.append_assoc]
            rfl
          have hq9 := HW1.out.size
          go_wp2_with (at_builtin; refine wpList_append_own _ rfl _ _ 25 rfl w.heap.size 41 i0 _ 3 40 Tryd.underlying25 hi hz0 hz1 hz2 rfl (by decide) _ _ _ rfl (HN1.out.alloc _) ⟨W1.heap.size, 0, none⟩ 1 1 [.string a[i].key, .string ⟨#[]⟩, .bool true] rfl rfl (cell_three_new _ _ _ _ _) (threeC_one (goneC a[i])) (by unfold maxLen; omega) (by omega) (by simp; omega) ?_; intro v9 W9 hown9 hgrow9 hnil9)
          have HW9 : Hid (Below w.heap.size w W9) := (HW1.out.alloc (by omega) _).grown hgrow9 (by simp; omega) (fun q hq => (HN1.out.lt q hq).1)
          have HN9 : Hid (OwnsC W9 w.heap.size v9 (out ++ [goneC a[i]])) := OwnsC.snoc hown9
          clear hown9 hgrow9 hnil9 HW1 HN1
          go_wp2
          go_roundg (a.length - i + (b.length - k) - 1)
          case measure => omega
          case rel => exact ⟨i + 1, k, out ++ [goneC a[i]], by go_num, by go_num, by omega, by omega, by omega, HS9, (by first | omega | (simp; omega)), HN9, HW9⟩
        | false =>
          cases hl2 : ltB b[k].key a[i].key with
          | true =>
            have hq0 := HW0.out.size
            go_wp2_with fail
            go_quiet (fail)
            have HW1 : Hid (Below w.heap.size w (W0.drewN nq)) := below_drewN HW0.out _
            have HN1 : Hid (OwnsC (W0.drewN nq) w.heap.size u5 out) := HN0.out.drewN _
            clear HW0 HN0 c0 c1 c2 d0 d1 d2
            generalize W0.drewN nq = W1 at HW1 HN1 ⊢
            obtain ⟨pa, oa, epa, c0, c1, c2⟩ := HA.out.below HW1.out i hia
            cases epa
            obtain ⟨pb, ob, epb, d0, d1, d2⟩ := HB.out.below HW1.out k hkb
            cases epb
            have hq1 := HW1.out.size
            go_wp2_with fail
            go_quiet (fail)
            have HW2 : Hid (Below w.heap.size w (W1.drewN nq)) := below_drewN HW1.out _
            have HN2 : Hid (OwnsC (W1.drewN nq) w.heap.size u5 out) := HN1.out.drewN _
            clear HW1 HN1 c0 c1 c2 d0 d1 d2
            generalize W1.drewN nq = W2 at HW2 HN2 ⊢
            obtain ⟨pa, oa, epa, c0, c1, c2⟩ := HA.out.below HW2.out i hia
            cases epa
            obtain ⟨pb, ob, epb, d0, d1, d2⟩ := HB.out.below HW2.out k hkb
            cases epb
            have HS9 : Hid (chg a b = (out ++ [b[k]]) ++ chg (a.drop (i)) (b.drop (k + 1))) := by
              show _ = _
              rw [HS.out, chg_gt hia hkb hl1 hl2, List.append_assoc]
              rfl
            have hq9 := HW2.out.size
            go_wp2_with (at_builtin; refine wpList_append_own _ rfl _ _ 25 rfl w.heap.size 41 i0 _ 3 40 Tryd.underlying25 hi hz0 hz1 hz2 rfl (by decide) _ _ _ rfl (HN2.out.alloc _) ⟨W2.heap.size, 0, none⟩ 1 1 [.string b[k].key, .string b[k].val, .bool b[k].gone] rfl rfl (cell_three_new _ _ _ _ _) (threeC_one b[k]) (by unfold maxLen; omega) (by omega) (by simp; omega) ?_; intro v9 W9 hown9 hgrow9 hnil9)
            have HW9 : Hid (Below w.heap.size w W9) := (HW2.out.alloc (by omega) _).grown hgrow9 (by simp; omega) (fun q hq => (HN2.out.lt q hq).1)
            have HN9 : Hid (OwnsC W9 w.heap.size v9 (out ++ [b[k]])) := OwnsC.snoc hown9
            clear hown9 hgrow9 hnil9 HW2 HN2
            go_wp2
            go_roundg (a.length - i + (b.length - k) - 1)
            case measure => omega
            case rel => exact ⟨i, k + 1, out ++ [b[k]], by go_num, by go_num, by omega, by omega, by omega, HS9, (by first | omega | (simp; omega)), HN9, HW9⟩
          | false =>
            have hq := fun w => run_neq_change a[i] b[k] w
            cases he : eqCh a[i] b[k] with
            | true =>
              have hq0 := HW0.out.size
              go_wp2_with fail
              go_quiet (fail)
              have HW1 : Hid (Below w.heap.size w (W0.drewN nq)) := below_drewN HW0.out _
              have HN1 : Hid (OwnsC (W0.drewN nq) w.heap.size u5 out) := HN0.out.drewN _
              clear HW0 HN0 c0 c1 c2 d0 d1 d2
              generalize W0.drewN nq = W1 at HW1 HN1 ⊢
              obtain ⟨pa, oa, epa, c0, c1, c2⟩ := HA.out.below HW1.out i hia
              cases epa
              obtain ⟨pb, ob, epb, d0, d1, d2⟩ := HB.out.below HW1.out k hkb
              cases epb
              have hq1 := HW1.out.size
              go_wp2_with fail
              go_quiet (fail)
              have HW2 : Hid (Below w.heap.size w (W1.drewN nq)) := below_drewN HW1.out _
              have HN2 : Hid (OwnsC (W1.drewN nq) w.heap.size u5 out) := HN1.out.drewN _
              clear HW1 HN1 c0 c1 c2 d0 d1 d2
              generalize W1.drewN nq = W2 at HW2 HN2 ⊢
              obtain ⟨pa, oa, epa, c0, c1, c2⟩ := HA.out.below HW2.out i hia
              cases epa
              obtain ⟨pb, ob, epb, d0, d1, d2⟩ := HB.out.below HW2.out k hkb
              cases epb
              have hq2 := HW2.out.size
              go_wp2_with fail
              go_quiet (fail)
              have HW3 : Hid (Below w.heap.size w (W2.drewN nq)) := below_drewN HW2.out _
              have HN3 : Hid (OwnsC (W2.drewN nq) w.heap.size u5 out) := HN2.out.drewN _
              clear HW2 HN2 c0 c1 c2 d0 d1 d2
              generalize W2.drewN nq = W3 at HW3 HN3 ⊢
              obtain ⟨pa, oa, epa, c0, c1, c2⟩ := HA.out.below HW3.out i hia
              cases epa
              obtain ⟨pb, ob, epb, d0, d1, d2⟩ := HB.out.below HW3.out k hkb
              cases epb
              have HS9 : Hid (chg a b = out ++ chg (a.drop (i + 1)) (b.drop (k + 1))) := by
                show _ = _
                rw [HS.out, chg_both hia hkb hl1 hl2, if_pos he]
                rfl
              go_wp2
              go_roundg (a.length - i + (b.length - k) - 2)
              case measure => omega
              case rel => exact ⟨i + 1, k + 1, out, by go_num, by go_num, by omega, by omega, by omega, HS9, (by first | omega | (simp; omega)), HN3, HW3⟩
            | false =>
              have hq0 := HW0.out.size
              go_wp2_with fail
              go_quiet (fail)
              have HW1 : Hid (Below w.heap.size w (W0.drewN nq)) := below_drewN HW0.out _
              have HN1 : Hid (OwnsC (W0.drewN nq) w.heap.size u5 out) := HN0.out.drewN _
              clear HW0 HN0 c0 c1 c2 d0 d1 d2
              generalize W0.drewN nq = W1 at HW1 HN1 ⊢
              obtain ⟨pa, oa, epa, c0, c1, c2⟩ := HA.out.below HW1.out i hia
              cases epa
              obtain ⟨pb, ob, epb, d0, d1, d2⟩ := HB.out.below HW1.out k hkb
              cases epb
              have hq1 := HW1.out.size
              go_wp2_with fail
              go_quiet (fail)
              have HW2 : Hid (Below w.heap.size w (W1.drewN nq)) := below_drewN HW1.out _
              have HN2 : Hid (OwnsC (W1.drewN nq) w.heap.size u5 out) := HN1.out.drewN _
              clear HW1 HN1 c0 c1 c2 d0 d1 d2
              generalize W1.drewN nq = W2 at HW2 HN2 ⊢
              obtain ⟨pa, oa, epa, c0, c1, c2⟩ := HA.out.below HW2.out i hia
              cases epa
              obtain ⟨pb, ob, epb, d0, d1, d2⟩ := HB.out.below HW2.out k hkb
              cases epb
              have hq2 := HW2.out.size
              go_wp2_with fail
              go_quiet (fail)
              have HW3 : Hid (Below w.heap.size w (W2.drewN nq)) := below_drewN HW2.out _
              have HN3 : Hid (OwnsC (W2.drewN nq) w.heap.size u5 out) := HN2.out.drewN _
              clear HW2 HN2 c0 c1 c2 d0 d1 d2
              generalize W2.drewN nq = W3 at HW3 HN3 ⊢
              obtain ⟨pa, oa, epa, c0, c1, c2⟩ := HA.out.below HW3.out i hia
              cases epa
              obtain ⟨pb, ob, epb, d0, d1, d2⟩ := HB.out.below HW3.out k hkb
              cases epb
              have HS9 : Hid (chg a b = (out ++ [b[k]]) ++ chg (a.drop (i + 1)) (b.drop (k + 1))) := by
                show _ = _
                rw [HS.out, chg_both hia hkb hl1 hl2, if_neg (by rw [he]; decide), List.append_assoc]
              have hq9 := HW3.out.size
              go_wp2_with (at_builtin; refine wpList_append_own _ rfl _ _ 25 rfl w.heap.size 41 i0 _ 3 40 Tryd.underlying25 hi hz0 hz1 hz2 rfl (by decide) _ _ _ rfl (HN3.out.alloc _) ⟨W3.heap.size, 0, none⟩ 1 1 [.string b[k].key, .string b[k].val, .bool b[k].gone] rfl rfl (cell_three_new _ _ _ _ _) (threeC_one b[k]) (by unfold maxLen; omega) (by omega) (by simp; omega) ?_; intro v9 W9 hown9 hgrow9 hnil9)
              have HW9 : Hid (Below w.heap.size w W9) := (HW3.out.alloc (by omega) _).grown hgrow9 (by simp; omega) (fun q hq => (HN3.out.lt q hq).1)
              have HN9 : Hid (OwnsC W9 w.heap.size v9 (out ++ [b[k]])) := OwnsC.snoc hown9
              clear hown9 hgrow9 hnil9 HW3 HN3
              go_wp2
              go_roundg (a.length - i + (b.length - k) - 2)
              case measure => omega
              case rel => exact ⟨i + 1, k + 1, out ++ [b[k]], by go_num, by go_num, by omega, by omega, by omega, HS9, (by first | omega | (simp; omega)), HN9, HW9⟩
      · have hkq : ((k : Int) == (b.length : Int)) = true := by rw [beq_iff_eq]; omega
        have hkz : ¬ (k : Int) < (b.length : Int) := by omega
        obtain ⟨pa, oa, epa, c0, c1, c2⟩ := HA.out.below HW0.out i hia
        cases epa
        have hq0 := HW0.out.size
        go_wp2_with fail
        go_quiet (fail)
        have HW1 : Hid (Below w.heap.size w (W0.drewN nq)) := below_drewN HW0.out _
        have HN1 : Hid (OwnsC (W0.drewN nq) w.heap.size u5 out) := HN0.out.drewN _
        clear HW0 HN0 c0 c1 c2 
        generalize W0.drewN nq = W1 at HW1 HN1 ⊢
        obtain ⟨pa, oa, epa, c0, c1, c2⟩ := HA.out.below HW1.out i hia
        cases epa
        have HS9 : Hid (chg a b = (out ++ [goneC a[i]]) ++ chg (a.drop (i + 1)) (b.drop k)) := by
          show _ = _
          rw [HS.out, chg_gone hia hkb, List.append_assoc]
          rfl
        have hq9 := HW1.out.size
        go_wp2_with (at_builtin; refine wpList_append_own _ rfl _ _ 25 rfl w.heap.size 41 i0 _ 3 40 Tryd.underlying25 hi hz0 hz1 hz2 rfl (by decide) _ _ _ rfl (HN1.out.alloc _) ⟨W1.heap.size, 0, none⟩ 1 1 [.string a[i].key, .string ⟨#[]⟩, .bool true] rfl rfl (cell_three_new _ _ _ _ _) (threeC_one (goneC a[i])) (by unfold maxLen; omega) (by omega) (by simp; omega) ?_; intro v9 W9 hown9 hgrow9 hnil9)
        have HW9 : Hid (Below w.heap.size w W9) := (HW1.out.alloc (by omega) _).grown hgrow9 (by simp; omega) (fun q hq => (HN1.out.lt q hq).1)
        have HN9 : Hid (OwnsC W9 w.heap.size v9 (out ++ [goneC a[i]])) := OwnsC.snoc hown9
        clear hown9 hgrow9 hnil9 HW1 HN1
        go_wp2
        go_roundg (a.length - i + (b.length - k) - 1)
        case measure => omega
        case rel => exact ⟨i + 1, k, out ++ [goneC a[i]], by go_num, by go_num, by omega, by omega, by omega, HS9, (by first | omega | (simp; omega)), HN9, HW9⟩
    · have hiz : ¬ (i : Int) < (a.length : Int) := by omega
      have hiq : ((i : Int) == (a.length : Int)) = true := by rw [beq_iff_eq]; omega
      by_cases hkb : k < b.length
      · have hkz : (k : Int) < (b.length : Int) := by omega
        have hkq : ((k : Int) == (b.length : Int)) = false := by rw [beq_eq_false_iff_ne]; omega
        obtain ⟨pb, ob, epb, d0, d1, d2⟩ := HB.out.below HW0.out k hkb
        cases epb
        have hq0 := HW0.out.size
        go_wp2_with fail
        go_quiet (fail)
        have HW1 : Hid (Below w.heap.size w (W0.drewN nq)) := below_drewN HW0.out _
        have HN1 : Hid (OwnsC (W0.drewN nq) w.heap.size u5 out) := HN0.out.drewN _
        clear HW0 HN0 d0 d1 d2
        generalize W0.drewN nq = W1 at HW1 HN1 ⊢
        obtain ⟨pb, ob, epb, d0, d1, d2⟩ := HB.out.below HW1.out k hkb
        cases epb
        have hq1 := HW1.out.size
        go_wp2_with fail
        go_quiet (fail)
        have HW2 : Hid (Below w.heap.size w (W1.drewN nq)) := below_drewN HW1.out _
        have HN2 : Hid (OwnsC (W1.drewN nq) w.heap.size u5 out) := HN1.out.drewN _
        clear HW1 HN1 d0 d1 d2
        generalize W1.drewN nq = W2 at HW2 HN2 ⊢
        obtain ⟨pb, ob, epb, d0, d1, d2⟩ := HB.out.below HW2.out k hkb
        cases epb
        have HS9 : Hid (chg a b = (out ++ [b[k]]) ++ chg (a.drop (i)) (b.drop (k + 1))) := by
          show _ = _
          rw [HS.out, chg_new hia hkb, List.append_assoc]
          rfl
        have hq9 := HW2.out.size
        go_wp2_with (at_builtin; refine wpList_append_own _ rfl _ _ 25 rfl w.heap.size 41 i0 _ 3 40 Tryd.underlying25 hi hz0 hz1 hz2 rfl (by decide) _ _ _ rfl (HN2.out.alloc _) ⟨W2.heap.size, 0, none⟩ 1 1 [.string b[k].key, .string b[k].val, .bool b[k].gone] rfl rfl (cell_three_new _ _ _ _ _) (threeC_one b[k]) (by unfold maxLen; omega) (by omega) (by simp; omega) ?_; intro v9 W9 hown9 hgrow9 hnil9)
        have HW9 : Hid (Below w.heap.size w W9) := (HW2.out.alloc (by omega) _).grown hgrow9 (by simp; omega) (fun q hq => (HN2.out.lt q hq).1)
        have HN9 : Hid (OwnsC W9 w.heap.size v9 (out ++ [b[k]])) := OwnsC.snoc hown9
        clear hown9 hgrow9 hnil9 HW2 HN2
        go_wp2
        go_roundg (a.length - i + (b.length - k) - 1)
        case measure => omega
        case rel => exact ⟨i, k + 1, out ++ [b[k]], by go_num, by go_num, by omega, by omega, by omega, HS9, (by first | omega | (simp; omega)), HN9, HW9⟩
      · have hkz : ¬ (k : Int) < (b.length : Int) := by omega
        have HE : Hid (out = chg a b) := by show _ = _; rw [HS.out, chg_end hia hkb, List.append_nil]
        go_wp2
        go_ret
        rw [← HE.out]
        exact ⟨_, rfl, HN0.out, HW0.out⟩
end Go.Proofs.YtihnghnafpgdfabDoor
