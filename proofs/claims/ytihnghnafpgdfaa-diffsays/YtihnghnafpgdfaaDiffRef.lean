/-
  THE WALK OF THE DOCUMENT's ANSWER TO D1.
-/
import Derived.Test.YtihnghnafpgdfaaDiffWalks
namespace Go.Proofs.Ytihnghnafpgdfaa
open Go.RowKit
set_option linter.unusedVariables false
set_option linter.unusedSimpArgs false

theorem diff_stepA {l m : List Fi} {i k : Nat} (hi : i < l.length) (h : k = m.length ∨ ∃ hk : k < m.length, ltB l[i].n m[k].n = true) : diffL (l.drop i) (m.drop k) = l[i].n :: diffL (l.drop (i + 1)) (m.drop k) := by
  rw [List.drop_eq_getElem_cons hi]
  rcases h with rfl | ⟨hk, h⟩
  · rw [List.drop_eq_nil_of_le (Nat.le_refl _), diffL]
  · rw [List.drop_eq_getElem_cons hk, diffL, if_pos h]
theorem diff_stepB {l m : List Fi} {i k : Nat} (hk : k < m.length) (h : i = l.length ∨ ∃ hi : i < l.length, ltB l[i].n m[k].n = false ∧ ltB m[k].n l[i].n = true) : diffL (l.drop i) (m.drop k) = m[k].n :: diffL (l.drop i) (m.drop (k + 1)) := by
  rw [List.drop_eq_getElem_cons hk]
  rcases h with rfl | ⟨hi, h1, h2⟩
  · rw [List.drop_eq_nil_of_le (Nat.le_refl _), diffL]
  · rw [List.drop_eq_getElem_cons hi, diffL, if_neg (by rw [h1]; simp), if_pos h2]
theorem diff_stepE {l m : List Fi} {i k : Nat} (hi : i < l.length) (hk : k < m.length) (h1 : ltB l[i].n m[k].n = false) (h2 : ltB m[k].n l[i].n = false) : diffL (l.drop i) (m.drop k) = (if eqFi l[i] m[k] = true then [] else [l[i].n]) ++ diffL (l.drop (i + 1)) (m.drop (k + 1)) := by
  rw [List.drop_eq_getElem_cons hi, List.drop_eq_getElem_cons hk, diffL, if_neg (by rw [h1]; simp), if_neg (by rw [h2]; simp)]
  split <;> simp

set_option maxRecDepth 100000 in
set_option maxHeartbeats 1000000 in
theorem diffOf_any (a a' : Option Addr) (cap cap' : Nat) (l m : List Fi) (t s : Int) (w : World) (hl : Good l) (hm : Good m) (hc : Cells w a l) (hc' : Cells w a' m) :
    Calls Try.prog 45 #[.agg #[.slice a l.length cap, .int .i64 t], .agg #[.slice a' m.length cap', .int .i64 s]] w fun e w' => ∃ v, e = .returned v ∧ OwnsS w' w.heap.size v (diffL l m) ∧ Below w.heap.size w w' := by
  obtain ⟨i0, hi, hz0, hz1, hz2⟩ := info_parts Try.infoString
  obtain ⟨W, hW⟩ : ∃ W, W = (w.alloc (.cells #[.slice a l.length cap, .int .i64 t] 48)).alloc (.cells #[.slice a' m.length cap', .int .i64 s] 48) := ⟨_, rfl⟩
  have hWz : W.heap.size = w.heap.size + 2 := by rw [hW]; simp
  have HBW : Hid (Below w.heap.size w W) := by rw [hW]; exact ((Below.refl _ _).alloc (Nat.le_refl _) _).alloc (by simp) _
  have HC : Hid (Cells W a l) := hc.below HBW.out
  have HC' : Hid (Cells W a' m) := hc'.below HBW.out
  have HQA : Hid (QBox W w.heap.size (.slice a l.length cap) t) := by rw [hW]; exact (QBox.new _ _ _ _).alloc _
  have HQB : Hid (QBox W (w.heap.size + 1) (.slice a' m.length cap') s) := by
    rw [hW]
    have := QBox.new (w.alloc (.cells #[.slice a l.length cap, .int .i64 t] 48)) (.slice a' m.length cap') s 48
    rwa [World.size_alloc] at this
  have h8 := hl.few
  have h8' := hm.few
  clear hc hc' hl hm
  go_enter Try.func45, Try.ntmps45
  go_wp2_with fail
  rw [← hW]
  clear hW
  go_loopw [5, 6, 7] (fun v i k wr => ∃ (p q : Nat) (L : List ByteArray), p ≤ l.length ∧ q ≤ m.length ∧ i = .int .i64 p ∧ k = .int .i64 q ∧ L.length ≤ p + q ∧ L ++ diffL (l.drop p) (m.drop q) = diffL l m ∧ OwnsS wr W.heap.size v L ∧ Below W.heap.size W wr) (fun _ i k _ => l.length + m.length - (intOf i).toNat - (intOf k).toNat)
  case atStart => exact ⟨0, 0, [], Nat.zero_le _, Nat.zero_le _, rfl, rfl, Nat.zero_le _, rfl, World.ownsRow_nil _ _ _ _, Below.refl _ _⟩
  case round =>
    obtain ⟨p, q, L, hp, hq, rfl, rfl, hlen, hL, hown, hb⟩ := hrel
    have HB : Hid (Below W.heap.size W wr) := hb
    have hsz := hb.size
    clear hb
    have HOWN : Hid (OwnsS wr W.heap.size u5 L) := hown
    have HL : Hid (L ++ diffL (l.drop p) (m.drop q) = diffL l m) := hL
    clear hown hL
    have HQA1 : Hid (QBox wr w.heap.size (.slice a l.length cap) t) := HQA.out.below HB.out HQA.out.lt
    have HQB1 : Hid (QBox wr (w.heap.size + 1) (.slice a' m.length cap') s) := HQB.out.below HB.out HQB.out.lt
    obtain ⟨x0, x1, xf0, xf1, xl, _⟩ := HQA1.out
    obtain ⟨y0, y1, yf0, yf1, yl, _⟩ := HQB1.out
    by_cases hpl : p < l.length
    · obtain ⟨b, off, rfl, c0, c1, c2⟩ := HC.out.below HB.out p hpl
      have hbl : b < wr.heap.size := World.block_lt_of_cell? _ _ c0
      have hd1 : decide ((p : Int) < (l.length : Int)) = true := by simp; omega
      have hd3 : ((p : Int) == (l.length : Int)) = false := by simp; omega
      by_cases hqm : q < m.length
      · obtain ⟨b', off', rfl, d0, d1, d2⟩ := HC'.out.below HB.out q hqm
        have hbl' : b' < wr.heap.size := World.block_lt_of_cell? _ _ d0
        have hd2 : ((q : Int) == (m.length : Int)) = false := by simp; omega
        cases hb1 : ltB l[p].n m[q].n
        · cases hb2 : ltB m[q].n l[p].n
          · have hst := diff_stepE hpl hqm hb1 hb2
            have hqf := fun w => run_neq_file l[p] m[q] w
            cases he : eqFi l[p] m[q]
            · rw [he] at hst
              have HS : Hid (diffL (l.drop p) (m.drop q) = [l[p].n] ++ diffL (l.drop (p + 1)) (m.drop (q + 1))) := hst
              clear hst
              go_wp2_with fail
              go_quiet (fail)
              go_wp2_with fail
              go_quiet (fail)
              go_wp2_with fail
              go_quiet (fail)
              go_wp2_with (at_builtin; refine wpList_append_own _ rfl _ _ 65 rfl W.heap.size 9 i0 _ 1 16 Try.underlying65 hi hz0 hz1 hz2 rfl (by decide) _ _ _ rfl (World.ownsRow.alloc (w := wr.drewN _) HOWN.out _) ⟨wr.heap.size, 0, none⟩ 1 1 [.string l[p].n] rfl rfl (cell_one_new (wr.drewN _) (.string l[p].n) 9) (one_one l[p].n) (by unfold maxLen; omega) (by omega) (by simp; omega) ?_; intro v' w3 hown' hgrow3 hnil3)
              refine ⟨⟨p + 1, q + 1, L ++ [_], by omega, by omega, by go_num, by go_num, by simp; omega, ?_, OwnsS.snoc hown', ?_⟩, by simp [intOf]; omega⟩
              · rw [← HL.out, HS.out]; simp
              · exact ((below_drewN HB.out _).alloc HB.out.size _).grown hgrow3 (by simp; omega) (fun q hq => (HOWN.out.lt q hq).1)
            · rw [he] at hst
              have HS : Hid (diffL (l.drop p) (m.drop q) = diffL (l.drop (p + 1)) (m.drop (q + 1))) := hst
              clear hst
              go_wp2_with fail
              go_quiet (fail)
              go_wp2_with fail
              go_quiet (fail)
              go_wp2_with fail
              go_quiet (fail)
              go_wp2
              refine ⟨⟨p + 1, q + 1, L, by omega, by omega, by go_num, by go_num, by omega, ?_, HOWN.out, below_drewN HB.out _⟩, by simp [intOf]; omega⟩
              rw [← HL.out, HS.out]
          · have HS : Hid (diffL (l.drop p) (m.drop q) = m[q].n :: diffL (l.drop p) (m.drop (q + 1))) := diff_stepB hqm (.inr ⟨hpl, hb1, hb2⟩)
            go_wp2_with fail
            go_quiet (fail)
            go_wp2_with fail
            go_quiet (fail)
            go_wp2_with (at_builtin; refine wpList_append_own _ rfl _ _ 65 rfl W.heap.size 9 i0 _ 1 16 Try.underlying65 hi hz0 hz1 hz2 rfl (by decide) _ _ _ rfl (World.ownsRow.alloc (w := wr.drewN _) HOWN.out _) ⟨wr.heap.size, 0, none⟩ 1 1 [.string m[q].n] rfl rfl (cell_one_new (wr.drewN _) (.string m[q].n) 9) (one_one m[q].n) (by unfold maxLen; omega) (by omega) (by simp; omega) ?_; intro v' w3 hown' hgrow3 hnil3)
            refine ⟨⟨p, q + 1, L ++ [_], by omega, by omega, by go_num, by go_num, by simp; omega, ?_, OwnsS.snoc hown', ?_⟩, by simp [intOf]; omega⟩
            · rw [← HL.out, HS.out]; simp
            · exact ((below_drewN HB.out _).alloc HB.out.size _).grown hgrow3 (by simp; omega) (fun q hq => (HOWN.out.lt q hq).1)
        · have HS : Hid (diffL (l.drop p) (m.drop q) = l[p].n :: diffL (l.drop (p + 1)) (m.drop q)) := diff_stepA hpl (.inr ⟨hqm, hb1⟩)
          go_wp2_with fail
          go_quiet (fail)
          go_wp2_with (at_builtin; refine wpList_append_own _ rfl _ _ 65 rfl W.heap.size 9 i0 _ 1 16 Try.underlying65 hi hz0 hz1 hz2 rfl (by decide) _ _ _ rfl (World.ownsRow.alloc (w := wr.drewN _) HOWN.out _) ⟨wr.heap.size, 0, none⟩ 1 1 [.string l[p].n] rfl rfl (cell_one_new (wr.drewN _) (.string l[p].n) 9) (one_one l[p].n) (by unfold maxLen; omega) (by omega) (by simp; omega) ?_; intro v' w3 hown' hgrow3 hnil3)
          refine ⟨⟨p + 1, q, L ++ [_], by omega, by omega, by go_num, by go_num, by simp; omega, ?_, OwnsS.snoc hown', ?_⟩, by simp [intOf]; omega⟩
          · rw [← HL.out, HS.out]; simp
          · exact ((below_drewN HB.out _).alloc HB.out.size _).grown hgrow3 (by simp; omega) (fun q hq => (HOWN.out.lt q hq).1)
      · have HS : Hid (diffL (l.drop p) (m.drop q) = l[p].n :: diffL (l.drop (p + 1)) (m.drop q)) := diff_stepA hpl (.inl (by omega))
        have hd2 : ((q : Int) == (m.length : Int)) = true := by simp; omega
        go_wp2_with fail
        go_quiet (fail)
        go_wp2_with (at_builtin; refine wpList_append_own _ rfl _ _ 65 rfl W.heap.size 9 i0 _ 1 16 Try.underlying65 hi hz0 hz1 hz2 rfl (by decide) _ _ _ rfl (World.ownsRow.alloc (w := wr.drewN _) HOWN.out _) ⟨wr.heap.size, 0, none⟩ 1 1 [.string l[p].n] rfl rfl (cell_one_new (wr.drewN _) (.string l[p].n) 9) (one_one l[p].n) (by unfold maxLen; omega) (by omega) (by simp; omega) ?_; intro v' w3 hown' hgrow3 hnil3)
        refine ⟨⟨p + 1, q, L ++ [_], by omega, by omega, by go_num, by go_num, by simp; omega, ?_, OwnsS.snoc hown', ?_⟩, by simp [intOf]; omega⟩
        · rw [← HL.out, HS.out]; simp
        · exact ((below_drewN HB.out _).alloc HB.out.size _).grown hgrow3 (by simp; omega) (fun q hq => (HOWN.out.lt q hq).1)
    · have hd1 : decide ((p : Int) < (l.length : Int)) = false := by simp; omega
      have hd3 : ((p : Int) == (l.length : Int)) = true := by simp; omega
      by_cases hqm : q < m.length
      · obtain ⟨b', off', rfl, d0, d1, d2⟩ := HC'.out.below HB.out q hqm
        have hbl' : b' < wr.heap.size := World.block_lt_of_cell? _ _ d0
        have hd2 : ((q : Int) == (m.length : Int)) = false := by simp; omega
        have HS : Hid (diffL (l.drop p) (m.drop q) = m[q].n :: diffL (l.drop p) (m.drop (q + 1))) := diff_stepB hqm (.inl (by omega))
        go_wp2_with fail
        go_quiet (fail)
        go_wp2_with fail
        go_quiet (fail)
        go_wp2_with (at_builtin; refine wpList_append_own _ rfl _ _ 65 rfl W.heap.size 9 i0 _ 1 16 Try.underlying65 hi hz0 hz1 hz2 rfl (by decide) _ _ _ rfl (World.ownsRow.alloc (w := wr.drewN _) HOWN.out _) ⟨wr.heap.size, 0, none⟩ 1 1 [.string m[q].n] rfl rfl (cell_one_new (wr.drewN _) (.string m[q].n) 9) (one_one m[q].n) (by unfold maxLen; omega) (by omega) (by simp; omega) ?_; intro v' w3 hown' hgrow3 hnil3)
        refine ⟨⟨p, q + 1, L ++ [_], by omega, by omega, by go_num, by go_num, by simp; omega, ?_, OwnsS.snoc hown', ?_⟩, by simp [intOf]; omega⟩
        · rw [← HL.out, HS.out]; simp
        · exact ((below_drewN HB.out _).alloc HB.out.size _).grown hgrow3 (by simp; omega) (fun q hq => (HOWN.out.lt q hq).1)
      · have HFIN : Hid (L = diffL l m) := by
          have := HL.out
          rw [List.drop_eq_nil_of_le (by omega), List.drop_eq_nil_of_le (by omega)] at this
          rw [diffL, List.append_nil] at this
          exact this
        go_wp2
        go_ret
        refine ⟨_, rfl, ?_, HBW.out.trans (HB.out.mono (by omega))⟩
        rw [← HFIN.out]
        exact OwnsS.mono HOWN.out (by omega)

end Go.Proofs.Ytihnghnafpgdfaa
