/-
  THE WALK OF THE DOCUMENT's ANSWER TO G3.
-/
import Derived.Test.YtihnghnafpgdfacRowParse
import Derived.Test.YtihnghnafpgdfacRowPure
namespace Go.Proofs.Ytihnghnafpgdfac
open Go.RowKit
set_option linter.unusedVariables false
set_option linter.unusedSimpArgs false

theorem le_of_eq_len {nx m : List Ch} {k : Nat} (h : nx.length ≤ 2 * k) (h2 : m.length ≤ nx.length + 2) : m.length ≤ 2 * (k + 1) := by omega
theorem CC.off {w : World} {b off : Nat} {l : List Ch} (h : CC w (some ⟨b, off, none⟩) l) (i : Nat) (hi : i < l.length) : w.cell? ⟨b, off + i * 3, none⟩ = some (.string l[i].key) ∧ w.cell? ⟨b, off + i * 3 + 1, none⟩ = some (.string l[i].val) ∧ w.cell? ⟨b, off + i * 3 + 2, none⟩ = some (.bool l[i].gone) := by
  obtain ⟨b', off', e, c0, c1, c2⟩ := h i hi
  cases e
  exact ⟨c0, c1, c2⟩
theorem layC_step (c : Ch) (b : Bool) (l : List Ch) (k : Nat) (h : k < l.length) : layC c b (l.drop k) = (if b = false ∧ ltB l[k].key c.key = false then [c] else []) ++ ((if sameK c.key l[k] = true then [] else [l[k]]) ++ layC c (b || !ltB l[k].key c.key) (l.drop (k + 1))) := by
  rw [List.drop_eq_getElem_cons h, layC]
theorem layC_length (c : Ch) : ∀ (b : Bool) (l : List Ch), (layC c b l).length ≤ l.length + 1
  | b, [] => by rw [layC]; split <;> simp
  | true, o :: l => by
    have := layC_length c true l
    rw [layC]
    simp only [Bool.true_or, Bool.true_eq_false, false_and, if_false, List.nil_append, List.length_append]
    split <;> simp <;> omega
  | false, o :: l => by
    rw [layC]
    cases h : ltB o.key c.key
    · have := List.length_filter_le (fun o => !sameK c.key o) l
      simp only [true_and, if_true, Bool.false_or, Bool.not_false, List.length_append]
      rw [layC_true]
      split <;> simp <;> omega
    · have := layC_length c false l
      simp only [Bool.true_eq_false, and_false, if_false, Bool.false_or, Bool.not_true, List.nil_append, List.length_append]
      split <;> simp <;> omega
theorem appliedC_take (rows l : List Ch) (k : Nat) (h : k < l.length) : appliedC rows (l.take (k + 1)) = layC l[k] l[k].gone (appliedC rows (l.take k)) := by
  unfold appliedC
  rw [takeSucc l k h, List.foldl_append]
  rfl

set_option maxRecDepth 100000 in
set_option maxHeartbeats 4000000 in
theorem applied_any (a a' : Option Addr) (cap cap' : Nat) (rows l : List Ch) (w : World) (h1 : rows.length ≤ 100) (h2 : l.length ≤ 100) (hr : SliceC w a cap rows) (hl : CC w a' l) :
    Calls Try.prog 14 #[.slice a rows.length cap, .slice a' l.length cap'] w fun e w' => ∃ v, e = .returned v ∧ OwnsC w' w.heap.size v (appliedC rows l) ∧ Below w.heap.size w w' := by
  obtain ⟨i0, hi, hz0, hz1, hz2⟩ := info_parts Try.infoChange
  have HR : Hid (SliceC w a cap rows) := hr
  have HL : Hid (CC w a' l) := hl
  clear hr hl
  go_enter Try.func14, Try.ntmps14
  go_wp2_with (at_builtin; refine wpListC_copy rfl _ _ rfl _ a cap rows h1 HR.out rfl rfl ?_; intro v0 w0 hown0 hb0)
  have HB0 : Hid (Below w.heap.size w w0) := hb0
  have HO0 : Hid (OwnsC w0 w.heap.size v0 rows) := hown0
  clear hown0 hb0
  go_wp2_with fail
  go_loopg [5, 6] (l.length + 1) (fun kx vo vi wr => ∃ (i : Nat) (out : List Ch), vi = .int .i64 i ∧ i ≤ l.length ∧ l.length - i ≤ kx ∧ Hid (appliedC rows (l.take i) = out) ∧ Hid (out.length ≤ 100 + i) ∧ Hid (OwnsC wr w.heap.size vo out) ∧ Hid (Below w.heap.size w wr))
  case atStart => exact ⟨0, rows, rfl, Nat.zero_le _, by omega, (by show _ = _; rfl), (by show _ ≤ _; omega), HO0, HB0⟩
  case round =>
    clear HO0 HB0
    obtain ⟨i, out, rfl, hil, hkx, HA, HOL, HO, HB⟩ := hrel
    by_cases hlt : i < l.length
    · have hltz : (i : Int) < (l.length : Int) := by omega
      have hbz := HB.out.size
      obtain ⟨b, off, rfl, c0, c1, c2⟩ := HL.out.below HB.out i hlt
      have hbl : b < wr.heap.size := World.block_lt_of_cell? _ _ c0
      obtain ⟨po, co, rfl, hco, hco2, _⟩ := HO.out.files
      obtain ⟨wo, rfl⟩ : ∃ x, x = wr := ⟨wr, rfl⟩
      have HLW : Hid (CC wo (some ⟨b, off, none⟩) l) := HL.out.below HB.out
      have HCO : Hid (CC wo po out) := hco
      have hol : out.length ≤ 200 := Nat.le_trans HOL.out (by omega)
      clear hco hco2 c1
      go_wp2_with fail
      go_loopg [7, 8, 9] (out.length + 1) (fun kx vn vl vk wr => ∃ (k : Nat) (nx : List Ch) (laid : Bool), vk = .int .i64 k ∧ vl = .bool laid ∧ k ≤ out.length ∧ out.length - k ≤ kx ∧ Hid (layC l[i] l[i].gone out = nx ++ layC l[i] laid (out.drop k)) ∧ Hid (nx.length ≤ 2 * k) ∧ Hid (OwnsC wr wo.heap.size vn nx) ∧ Hid (Below wo.heap.size wo wr))
      case atStart => exact ⟨0, [], l[i].gone, rfl, rfl, Nat.zero_le _, by omega, (by show _ = _; simp), Nat.zero_le _, World.ownsRow_nil _ _ _ _, Below.refl _ _⟩
      case round =>
        clear c0 c2
        obtain ⟨k, nx, laid, rfl, rfl, hkl, hkx2, HLY, HNL, HN0, HW0⟩ := hrel
        obtain ⟨W0, rfl⟩ : ∃ x, x = wr := ⟨wr, rfl⟩
        have hnl : nx.length ≤ 400 := Nat.le_trans HNL.out (by omega)
        by_cases hk1 : k < out.length
        · have hkz : (k : Int) < (out.length : Int) := by omega
          cases laid with
          | true =>
            by_cases hsk : out[k].key = l[i].key
            · have hne : (out[k].key.toList == l[i].key.toList) = true := beqB_true hsk
              have hsk : sameK l[i].key out[k] = true := hne
              have HS : Hid (layC l[i] l[i].gone out = nx ++ layC l[i] true (out.drop (k + 1))) := by
                show _ = _
                rw [HLY.out, layC_step l[i] true out k hk1]
                simp [hsk]
              obtain ⟨c0, c1, c2⟩ := CC.off (HLW.out.below HW0.out) i hlt
              obtain ⟨bo, oo, epo, d0, d1, d2⟩ := HCO.out.below HW0.out k hk1
              cases epo
              have hq0 := HW0.out.size
              go_wp2_with fail
              go_quiet (fail)
              have HW1 : Hid (Below wo.heap.size wo (W0.drewN nq)) := below_drewN HW0.out _
              have HN1 : Hid (OwnsC (W0.drewN nq) wo.heap.size u7 (nx)) := HN0.out.drewN _
              clear HW0 HN0 c0 c1 c2 d0 d1 d2
              generalize W0.drewN nq = W1 at HW1 HN1 ⊢
              obtain ⟨c0, c1, c2⟩ := CC.off (HLW.out.below HW1.out) i hlt
              obtain ⟨bo, oo, epo, d0, d1, d2⟩ := HCO.out.below HW1.out k hk1
              cases epo
              have hq1 := HW1.out.size
              go_wp2_with fail
              go_quiet (fail)
              have HW2 : Hid (Below wo.heap.size wo (W1.drewN nq)) := below_drewN HW1.out _
              have HN2 : Hid (OwnsC (W1.drewN nq) wo.heap.size u7 (nx)) := HN1.out.drewN _
              clear HW1 HN1 c0 c1 c2 d0 d1 d2
              generalize W1.drewN nq = W2 at HW2 HN2 ⊢
              go_wp2
              go_roundg (out.length - (k + 1))
              case measure => omega
              case rel => exact ⟨k + 1, nx, true, by go_num, rfl, by omega, Nat.le_refl _, HS, le_of_eq_len HNL.out (by simp), HN2, HW2⟩
            · have hne : (out[k].key.toList == l[i].key.toList) = false := beqB_false hsk
              have hsk : sameK l[i].key out[k] = false := hne
              have HS : Hid (layC l[i] l[i].gone out = nx ++ [out[k]] ++ layC l[i] true (out.drop (k + 1))) := by
                show _ = _
                rw [HLY.out, layC_step l[i] true out k hk1]
                simp [hsk]
              obtain ⟨c0, c1, c2⟩ := CC.off (HLW.out.below HW0.out) i hlt
              obtain ⟨bo, oo, epo, d0, d1, d2⟩ := HCO.out.below HW0.out k hk1
              cases epo
              have hq0 := HW0.out.size
              go_wp2_with fail
              go_quiet (fail)
              have HW1 : Hid (Below wo.heap.size wo (W0.drewN nq)) := below_drewN HW0.out _
              have HN1 : Hid (OwnsC (W0.drewN nq) wo.heap.size u7 (nx)) := HN0.out.drewN _
              clear HW0 HN0 c0 c1 c2 d0 d1 d2
              generalize W0.drewN nq = W1 at HW1 HN1 ⊢
              obtain ⟨c0, c1, c2⟩ := CC.off (HLW.out.below HW1.out) i hlt
              obtain ⟨bo, oo, epo, d0, d1, d2⟩ := HCO.out.below HW1.out k hk1
              cases epo
              have hq1 := HW1.out.size
              go_wp2_with fail
              go_quiet (fail)
              have HW2 : Hid (Below wo.heap.size wo (W1.drewN nq)) := below_drewN HW1.out _
              have HN2 : Hid (OwnsC (W1.drewN nq) wo.heap.size u7 (nx)) := HN1.out.drewN _
              clear HW1 HN1 c0 c1 c2 d0 d1 d2
              generalize W1.drewN nq = W2 at HW2 HN2 ⊢
              obtain ⟨c0, c1, c2⟩ := CC.off (HLW.out.below HW2.out) i hlt
              obtain ⟨bo, oo, epo, d0, d1, d2⟩ := HCO.out.below HW2.out k hk1
              cases epo
              have hq2 := HW2.out.size
              go_wp2_with (at_builtin; refine wpList_append_own _ rfl _ _ 30 rfl wo.heap.size 66 i0 _ 3 40 Try.underlying30 hi hz0 hz1 hz2 rfl (by decide) _ _ _ rfl (HN2.out.alloc _) ⟨W2.heap.size, 0, none⟩ 1 1 [.string out[k].key, .string out[k].val, .bool out[k].gone] rfl rfl (cell_three_new _ _ _ _ _) (threeC_one out[k]) (by unfold maxLen; omega) (by omega) (by simp; omega) ?_; intro v3 W3 hown3 hgrow3 hnil3)
              have HW3 : Hid (Below wo.heap.size wo W3) := (HW2.out.alloc (by omega) _).grown hgrow3 (by simp; omega) (fun q hq => (HN2.out.lt q hq).1)
              have HN3 : Hid (OwnsC W3 wo.heap.size v3 (nx ++ [out[k]])) := OwnsC.snoc hown3
              clear hown3 hgrow3 hnil3 HW2 HN2 c0 c1 c2 d0 d1 d2
              go_wp2
              go_roundg (out.length - (k + 1))
              case measure => omega
              case rel => exact ⟨k + 1, nx ++ [out[k]], true, by go_num, rfl, by omega, Nat.le_refl _, HS, le_of_eq_len HNL.out (by simp), HN3, HW3⟩
          | false =>
            have hle := leqB l[i].key out[k].key
            cases hlo : ltB out[k].key l[i].key with
            | true =>
              have hne : (out[k].key.toList == l[i].key.toList) = false := beqB_false (fun e => by rw [e, ltB_irrefl] at hlo; cases hlo)
              have hsk : sameK l[i].key out[k] = false := hne
              rw [hlo] at hle
              simp only [Bool.not_true] at hle
              have HS : Hid (layC l[i] l[i].gone out = nx ++ [out[k]] ++ layC l[i] false (out.drop (k + 1))) := by
                show _ = _
                rw [HLY.out, layC_step l[i] false out k hk1]
                simp [hsk, hlo]
              obtain ⟨c0, c1, c2⟩ := CC.off (HLW.out.below HW0.out) i hlt
              obtain ⟨bo, oo, epo, d0, d1, d2⟩ := HCO.out.below HW0.out k hk1
              cases epo
              have hq0 := HW0.out.size
              go_wp2_with fail
              go_quiet (fail)
              have HW1 : Hid (Below wo.heap.size wo (W0.drewN nq)) := below_drewN HW0.out _
              have HN1 : Hid (OwnsC (W0.drewN nq) wo.heap.size u7 (nx)) := HN0.out.drewN _
              clear HW0 HN0 c0 c1 c2 d0 d1 d2
              generalize W0.drewN nq = W1 at HW1 HN1 ⊢
              obtain ⟨c0, c1, c2⟩ := CC.off (HLW.out.below HW1.out) i hlt
              obtain ⟨bo, oo, epo, d0, d1, d2⟩ := HCO.out.below HW1.out k hk1
              cases epo
              have hq1 := HW1.out.size
              go_wp2_with fail
              go_quiet (fail)
              have HW2 : Hid (Below wo.heap.size wo (W1.drewN nq)) := below_drewN HW1.out _
              have HN2 : Hid (OwnsC (W1.drewN nq) wo.heap.size u7 (nx)) := HN1.out.drewN _
              clear HW1 HN1 c0 c1 c2 d0 d1 d2
              generalize W1.drewN nq = W2 at HW2 HN2 ⊢
              obtain ⟨c0, c1, c2⟩ := CC.off (HLW.out.below HW2.out) i hlt
              obtain ⟨bo, oo, epo, d0, d1, d2⟩ := HCO.out.below HW2.out k hk1
              cases epo
              have hq2 := HW2.out.size
              go_wp2_with (at_builtin; refine wpList_append_own _ rfl _ _ 30 rfl wo.heap.size 66 i0 _ 3 40 Try.underlying30 hi hz0 hz1 hz2 rfl (by decide) _ _ _ rfl (HN2.out.alloc _) ⟨W2.heap.size, 0, none⟩ 1 1 [.string out[k].key, .string out[k].val, .bool out[k].gone] rfl rfl (cell_three_new _ _ _ _ _) (threeC_one out[k]) (by unfold maxLen; omega) (by omega) (by simp; omega) ?_; intro v3 W3 hown3 hgrow3 hnil3)
              have HW3 : Hid (Below wo.heap.size wo W3) := (HW2.out.alloc (by omega) _).grown hgrow3 (by simp; omega) (fun q hq => (HN2.out.lt q hq).1)
              have HN3 : Hid (OwnsC W3 wo.heap.size v3 (nx ++ [out[k]])) := OwnsC.snoc hown3
              clear hown3 hgrow3 hnil3 HW2 HN2 c0 c1 c2 d0 d1 d2
              go_wp2
              go_roundg (out.length - (k + 1))
              case measure => omega
              case rel => exact ⟨k + 1, nx ++ [out[k]], false, by go_num, rfl, by omega, Nat.le_refl _, HS, le_of_eq_len HNL.out (by simp), HN3, HW3⟩
            | false =>
              rw [hlo] at hle
              simp only [Bool.not_false] at hle
              by_cases hsk : out[k].key = l[i].key
              · have hne : (out[k].key.toList == l[i].key.toList) = true := beqB_true hsk
                have hsk : sameK l[i].key out[k] = true := hne
                have HS : Hid (layC l[i] l[i].gone out = nx ++ [l[i]] ++ layC l[i] true (out.drop (k + 1))) := by
                  show _ = _
                  rw [HLY.out, layC_step l[i] false out k hk1]
                  simp [hsk, hlo]
                obtain ⟨c0, c1, c2⟩ := CC.off (HLW.out.below HW0.out) i hlt
                obtain ⟨bo, oo, epo, d0, d1, d2⟩ := HCO.out.below HW0.out k hk1
                cases epo
                have hq0 := HW0.out.size
                go_wp2_with fail
                go_quiet (fail)
                have HW1 : Hid (Below wo.heap.size wo (W0.drewN nq)) := below_drewN HW0.out _
                have HN1 : Hid (OwnsC (W0.drewN nq) wo.heap.size u7 (nx)) := HN0.out.drewN _
                clear HW0 HN0 c0 c1 c2 d0 d1 d2
                generalize W0.drewN nq = W1 at HW1 HN1 ⊢
                obtain ⟨c0, c1, c2⟩ := CC.off (HLW.out.below HW1.out) i hlt
                obtain ⟨bo, oo, epo, d0, d1, d2⟩ := HCO.out.below HW1.out k hk1
                cases epo
                have hq1 := HW1.out.size
                go_wp2_with (at_builtin; refine wpList_append_own _ rfl _ _ 30 rfl wo.heap.size 66 i0 _ 3 40 Try.underlying30 hi hz0 hz1 hz2 rfl (by decide) _ _ _ rfl (HN1.out.alloc _) ⟨W1.heap.size, 0, none⟩ 1 1 [.string l[i].key, .string l[i].val, .bool l[i].gone] rfl rfl (cell_three_new _ _ _ _ _) (threeC_one l[i]) (by unfold maxLen; omega) (by omega) (by simp; omega) ?_; intro v2 W2 hown2 hgrow2 hnil2)
                have HW2 : Hid (Below wo.heap.size wo W2) := (HW1.out.alloc (by omega) _).grown hgrow2 (by simp; omega) (fun q hq => (HN1.out.lt q hq).1)
                have HN2 : Hid (OwnsC W2 wo.heap.size v2 (nx ++ [l[i]])) := OwnsC.snoc hown2
                clear hown2 hgrow2 hnil2 HW1 HN1 c0 c1 c2 d0 d1 d2
                obtain ⟨c0, c1, c2⟩ := CC.off (HLW.out.below HW2.out) i hlt
                obtain ⟨bo, oo, epo, d0, d1, d2⟩ := HCO.out.below HW2.out k hk1
                cases epo
                have hq2 := HW2.out.size
                go_wp2_with fail
                go_quiet (fail)
                have HW3 : Hid (Below wo.heap.size wo (W2.drewN nq)) := below_drewN HW2.out _
                have HN3 : Hid (OwnsC (W2.drewN nq) wo.heap.size v2 (nx ++ [l[i]])) := HN2.out.drewN _
                clear HW2 HN2 c0 c1 c2 d0 d1 d2
                generalize W2.drewN nq = W3 at HW3 HN3 ⊢
                go_wp2
                go_roundg (out.length - (k + 1))
                case measure => omega
                case rel => exact ⟨k + 1, nx ++ [l[i]], true, by go_num, rfl, by omega, Nat.le_refl _, HS, le_of_eq_len HNL.out (by simp), HN3, HW3⟩
              · have hne : (out[k].key.toList == l[i].key.toList) = false := beqB_false hsk
                have hsk : sameK l[i].key out[k] = false := hne
                have HS : Hid (layC l[i] l[i].gone out = nx ++ [l[i]] ++ [out[k]] ++ layC l[i] true (out.drop (k + 1))) := by
                  show _ = _
                  rw [HLY.out, layC_step l[i] false out k hk1]
                  simp [hsk, hlo]
                obtain ⟨c0, c1, c2⟩ := CC.off (HLW.out.below HW0.out) i hlt
                obtain ⟨bo, oo, epo, d0, d1, d2⟩ := HCO.out.below HW0.out k hk1
                cases epo
                have hq0 := HW0.out.size
                go_wp2_with fail
                go_quiet (fail)
                have HW1 : Hid (Below wo.heap.size wo (W0.drewN nq)) := below_drewN HW0.out _
                have HN1 : Hid (OwnsC (W0.drewN nq) wo.heap.size u7 (nx)) := HN0.out.drewN _
                clear HW0 HN0 c0 c1 c2 d0 d1 d2
                generalize W0.drewN nq = W1 at HW1 HN1 ⊢
                obtain ⟨c0, c1, c2⟩ := CC.off (HLW.out.below HW1.out) i hlt
                obtain ⟨bo, oo, epo, d0, d1, d2⟩ := HCO.out.below HW1.out k hk1
                cases epo
                have hq1 := HW1.out.size
                go_wp2_with (at_builtin; refine wpList_append_own _ rfl _ _ 30 rfl wo.heap.size 66 i0 _ 3 40 Try.underlying30 hi hz0 hz1 hz2 rfl (by decide) _ _ _ rfl (HN1.out.alloc _) ⟨W1.heap.size, 0, none⟩ 1 1 [.string l[i].key, .string l[i].val, .bool l[i].gone] rfl rfl (cell_three_new _ _ _ _ _) (threeC_one l[i]) (by unfold maxLen; omega) (by omega) (by simp; omega) ?_; intro v2 W2 hown2 hgrow2 hnil2)
                have HW2 : Hid (Below wo.heap.size wo W2) := (HW1.out.alloc (by omega) _).grown hgrow2 (by simp; omega) (fun q hq => (HN1.out.lt q hq).1)
                have HN2 : Hid (OwnsC W2 wo.heap.size v2 (nx ++ [l[i]])) := OwnsC.snoc hown2
                clear hown2 hgrow2 hnil2 HW1 HN1 c0 c1 c2 d0 d1 d2
                obtain ⟨c0, c1, c2⟩ := CC.off (HLW.out.below HW2.out) i hlt
                obtain ⟨bo, oo, epo, d0, d1, d2⟩ := HCO.out.below HW2.out k hk1
                cases epo
                have hq2 := HW2.out.size
                go_wp2_with fail
                go_quiet (fail)
                have HW3 : Hid (Below wo.heap.size wo (W2.drewN nq)) := below_drewN HW2.out _
                have HN3 : Hid (OwnsC (W2.drewN nq) wo.heap.size v2 (nx ++ [l[i]])) := HN2.out.drewN _
                clear HW2 HN2 c0 c1 c2 d0 d1 d2
                generalize W2.drewN nq = W3 at HW3 HN3 ⊢
                obtain ⟨c0, c1, c2⟩ := CC.off (HLW.out.below HW3.out) i hlt
                obtain ⟨bo, oo, epo, d0, d1, d2⟩ := HCO.out.below HW3.out k hk1
                cases epo
                have hq3 := HW3.out.size
                go_wp2_with (at_builtin; refine wpList_append_own _ rfl _ _ 30 rfl wo.heap.size 66 i0 _ 3 40 Try.underlying30 hi hz0 hz1 hz2 rfl (by decide) _ _ _ rfl (HN3.out.alloc _) ⟨W3.heap.size, 0, none⟩ 1 1 [.string out[k].key, .string out[k].val, .bool out[k].gone] rfl rfl (cell_three_new _ _ _ _ _) (threeC_one out[k]) (by unfold maxLen; simp; omega) (by simp; omega) (by simp; omega) ?_; intro v4 W4 hown4 hgrow4 hnil4)
                have HW4 : Hid (Below wo.heap.size wo W4) := (HW3.out.alloc (by omega) _).grown hgrow4 (by simp; omega) (fun q hq => (HN3.out.lt q hq).1)
                have HN4 : Hid (OwnsC W4 wo.heap.size v4 (nx ++ [l[i]] ++ [out[k]])) := OwnsC.snoc hown4
                clear hown4 hgrow4 hnil4 HW3 HN3 c0 c1 c2 d0 d1 d2
                go_wp2
                go_roundg (out.length - (k + 1))
                case measure => omega
                case rel => exact ⟨k + 1, nx ++ [l[i]] ++ [out[k]], true, by go_num, rfl, by omega, Nat.le_refl _, HS, le_of_eq_len HNL.out (by simp), HN4, HW4⟩
        · have HLE : Hid (layC l[i] l[i].gone out = nx ++ (if laid = true then [] else [l[i]])) := by
            show _ = _
            rw [HLY.out, List.drop_eq_nil_of_le (by omega), layC]
          have HLL : Hid ((layC l[i] l[i].gone out).length ≤ out.length + 1) := layC_length _ _ _
          have HAP : Hid (appliedC rows (l.take (i + 1)) = layC l[i] l[i].gone out) := by show _ = _; rw [appliedC_take rows l i hlt, HA.out]
          obtain ⟨c0, c1, c2⟩ := CC.off (HLW.out.below HW0.out) i hlt
          have hz00 := HW0.out.size
          cases laid with
          | true =>
            go_wp2
            go_roundg (l.length - (i + 1))
            case measure => omega
            case rel => exact ⟨i + 1, nx, by go_num, by omega, Nat.le_refl _, (by show _ = _; rw [HAP.out, HLE.out]; simp), (by have h3 := HLL.out; have h4 := HOL.out; rw [HLE.out] at h3; simp at h3; show _ ≤ _; omega), HN0.out.base hbz, HB.out.trans (HW0.out.mono hbz)⟩
          | false =>
            go_wp2_with (at_builtin; refine wpList_append_own _ rfl _ _ 30 rfl wo.heap.size 66 i0 _ 3 40 Try.underlying30 hi hz0 hz1 hz2 rfl (by decide) _ _ _ rfl (HN0.out.alloc _) ⟨W0.heap.size, 0, none⟩ 1 1 [.string l[i].key, .string l[i].val, .bool l[i].gone] rfl rfl (cell_three_new _ _ _ _ _) (threeC_one l[i]) (by unfold maxLen; omega) (by omega) (by simp; omega) ?_; intro v1 W1 hown1 hgrow1 hnil1)
            have HW1 : Hid (Below wo.heap.size wo W1) := (HW0.out.alloc (by omega) _).grown hgrow1 (by simp; omega) (fun q hq => (HN0.out.lt q hq).1)
            have HN1 : Hid (OwnsC W1 wo.heap.size v1 (nx ++ [l[i]])) := OwnsC.snoc hown1
            go_wp2
            go_roundg (l.length - (i + 1))
            case measure => omega
            case rel => exact ⟨i + 1, nx ++ [l[i]], by go_num, by omega, Nat.le_refl _, (by show _ = _; rw [HAP.out, HLE.out]; simp), (by have h3 := HLL.out; have h4 := HOL.out; rw [HLE.out] at h3; simp at h3; show _ ≤ _; simp; omega), HN1.out.base hbz, HB.out.trans (HW1.out.mono hbz)⟩
    · go_wp2
      go_ret
      have h := HO.out
      rw [← HA.out, takeAll l i (by omega)] at h
      exact ⟨_, rfl, h, HB.out⟩
end Go.Proofs.Ytihnghnafpgdfac
