/-
  THE WALKS OF shelf.Get AND WHAT IT CALLS: a file's place is found by a closure; and of the document's answer to B1.
-/
import Derived.Test.YtihnghnafpgdfabShelfBase
import Derived.Test.YtihnghnafpgdfabPosn
namespace Go.Proofs.Ytihnghnafpgdfab
open Go.RowKit
set_option linter.unusedVariables false
set_option linter.unusedSimpArgs false

/-- The closure: is the file at i not below the name? -/
theorem less_any (i : Nat) (a : Option Addr) (cap : Nat) (l : List Fi) (name : ByteArray) (bl bn : Nat) (w : World) (hlen : l.length ≤ maxLen) (h1 : w.cell? ⟨bl, 0, none⟩ = some (.slice a l.length cap)) (h2 : w.cell? ⟨bn, 0, none⟩ = some (.string name)) (hi : i < l.length) (hc : Cells w a l) :
    Calls Try.prog 133 #[.int .i64 i, .pointer (some ⟨bl, 0, none⟩), .pointer (some ⟨bn, 0, none⟩)] w fun e w' => e = .returned (.bool (!ltB l[i].n name)) ∧ ∃ n, w' = w.drewN n := by
  unfold maxLen at hlen
  obtain ⟨b, off, rfl, c0, c1, c2⟩ := hc i hi
  clear hc
  go_enter Try.func133, Try.ntmps133
  go_wp2
  go_quiet (fail)
  go_wp2
  go_ret
  exact ⟨rfl, _, rfl⟩

set_option maxHeartbeats 1000000 in
theorem search_any (a : Option Addr) (cap : Nat) (l : List Fi) (name : ByteArray) (bl bn : Nat) (w : World) (hlen : l.length ≤ 1000) (h1 : w.cell? ⟨bl, 0, none⟩ = some (.slice a l.length cap)) (h2 : w.cell? ⟨bn, 0, none⟩ = some (.string name)) (hc : Cells w a l) (hm : Mono l name) :
    Calls Try.prog 132 #[.int .i64 l.length, .func (.func 133) #[] #[.pointer (some ⟨bl, 0, none⟩), .pointer (some ⟨bn, 0, none⟩)]] w fun e w' => e = .returned (.int .i64 (posF l name)) ∧ ∃ n, w' = w.drewN n := by
  have HC : Hid (Cells w a l) := hc
  have HM : Hid (Mono l name) := hm
  have H1 : Hid (w.cell? ⟨bl, 0, none⟩ = some (.slice a l.length cap)) := h1
  have H2 : Hid (w.cell? ⟨bn, 0, none⟩ = some (.string name)) := h2
  clear hc hm h1 h2
  go_enter Try.func132, Try.ntmps132
  go_wp2_with fail
  go_loopw [5, 6] (fun u v wr => ∃ i j q : Nat, i ≤ j ∧ j ≤ l.length ∧ u = .int .i64 i ∧ v = .int .i64 j ∧ wr = w.drewN q ∧ (∀ k (h : k < l.length), k < i → ltB l[k].n name = true) ∧ (∀ k (h : k < l.length), j ≤ k → ltB l[k].n name = false)) (fun u v _ => (intOf v).toNat - (intOf u).toNat)
  case atStart => exact ⟨0, l.length, 0, Nat.zero_le _, Nat.le_refl _, rfl, rfl, rfl, fun k h h' => absurd h' (Nat.not_lt_zero _), fun k h h' => absurd h (by omega)⟩
  case round =>
    obtain ⟨i, j, q, hij, hj, rfl, rfl, rfl, hlo, hhi⟩ := hrel
    have HLO : Hid (∀ k (h : k < l.length), k < i → ltB l[k].n name = true) := hlo
    have HHI : Hid (∀ k (h : k < l.length), j ≤ k → ltB l[k].n name = false) := hhi
    clear hlo hhi
    by_cases hlt : i < j
    · have hh : ((i : Int) + (j : Int)) / 2 = (((i + j) / 2 : Nat) : Int) := by omega
      have hm1 : i ≤ (i + j) / 2 := by omega
      have hm2 : (i + j) / 2 < j := by omega
      generalize (i + j) / 2 = m at hh hm1 hm2
      have HH : Hid (((i : Int) + (j : Int)) / 2 = (m : Int)) := hh
      clear hh
      have hml : m < l.length := by omega
      cases hb : ltB l[m].n name
      · go_wp2_with fail
        rw [HH.out]
        refine (less_any m a cap l name bl bn _ (by unfold maxLen; omega) (by simpa using H1.out) (by simpa using H2.out) hml (by exact HC.out.drewN q)).mono ?_
        rintro e w' ⟨rfl, q', rfl⟩
        rw [hb]
        go_wp2
        refine ⟨⟨i, m, _, by omega, by omega, rfl, rfl, rfl, HLO.out, fun k hk hmk => HM.out m k hml hk hmk hb⟩, by simp [intOf]; omega⟩
      · go_wp2_with fail
        rw [HH.out]
        refine (less_any m a cap l name bl bn _ (by unfold maxLen; omega) (by simpa using H1.out) (by simpa using H2.out) hml (by exact HC.out.drewN q)).mono ?_
        rintro e w' ⟨rfl, q', rfl⟩
        rw [hb]
        go_wp2
        refine ⟨⟨m + 1, j, _, by omega, by omega, by go_num, rfl, rfl, fun k hk hmk => ?_, HHI.out⟩, by simp [intOf]; omega⟩
        cases hbk : ltB l[k].n name
        · rw [HM.out k m hk hml (by omega) hbk] at hb
          exact absurd hb (by simp)
        · rfl
    · go_wp2
      go_ret
      have e : i = j := by omega
      subst e
      exact ⟨ret_int (by rw [posF_eq hj HLO.out HHI.out]), _, rfl⟩

set_option maxHeartbeats 1000000 in
theorem place_any (a : Option Addr) (cap : Nat) (l : List Fi) (name : ByteArray) (w : World) (hlen : l.length ≤ 1000) (hc : Cells w a l) (hm : Mono l name) :
    Calls Try.prog 106 #[.slice a l.length cap, .string name] w fun e w' => e = .returned (.tuple #[.int .i64 (posF l name), .bool (hasF l name)]) ∧ Below w.heap.size w w' := by
  have HC : Hid (Cells w a l) := hc
  have HM : Hid (Mono l name) := hm
  clear hc hm
  have hp := posF_le l name
  by_cases hlt : posF l name < l.length
  · have hhas : hasF l name = (l[posF l name].n.toList == name.toList) := by unfold hasF; rw [List.getElem?_eq_getElem hlt]
    have Hhas : Hid (hasF l name = (l[posF l name].n.toList == name.toList)) := hhas
    clear hhas
    generalize hpos : posF l name = r at *
    have HPOS : Hid (posF l name = r) := hpos
    clear hpos
    obtain ⟨b, off, rfl, c0, c1, c2⟩ := HC.out r hlt
    have hbl : b < w.heap.size := World.block_lt_of_cell? _ _ c0
    have hd : decide ((r : Int) < (l.length : Int)) = true := by simp; omega
    have hd' : decide (r < l.length) = true := by simp; omega
    go_enter Try.func106, Try.ntmps106
    go_wp2_with fail
    refine (search_any (some ⟨b, off, none⟩) cap l name _ _ _ hlen (by simp [go_sem]) (by simp [go_sem]) (by exact ((HC.out.alloc _).alloc _)) HM.out).mono ?_
    rintro e w' ⟨rfl, q, rfl⟩
    rw [HPOS.out]
    go_wp2
    go_quiet (fail)
    go_wp2
    go_ret2
    refine ⟨by rw [Hhas.out]; rfl, ?_⟩
    repeat (first | exact Below.refl _ _ | refine below_drewN ?_ _ | refine Below.drew ?_ | refine Below.alloc ?_ (by simp; try omega) _)
  · have hhas : hasF l name = false := by unfold hasF; rw [List.getElem?_eq_none (by omega)]
    have Hhas : Hid (hasF l name = false) := hhas
    clear hhas
    generalize hpos : posF l name = r at *
    have HPOS : Hid (posF l name = r) := hpos
    clear hpos
    have hd : decide ((r : Int) < (l.length : Int)) = false := by simp; omega
    have hd' : decide (r < l.length) = false := by simp; omega
    go_enter Try.func106, Try.ntmps106
    go_wp2_with fail
    refine (search_any a cap l name _ _ _ hlen (by simp [go_sem]) (by simp [go_sem]) (by exact ((HC.out.alloc _).alloc _)) HM.out).mono ?_
    rintro e w' ⟨rfl, q, rfl⟩
    rw [HPOS.out]
    go_wp2
    go_quiet (fail)
    go_wp2
    go_ret2
    refine ⟨by rw [Hhas.out]; rfl, ?_⟩
    repeat (first | exact Below.refl _ _ | refine below_drewN ?_ _ | refine Below.drew ?_ | refine Below.alloc ?_ (by simp; try omega) _)

def getV : Option Fi → Value
  | some f => .tuple #[.agg #[.string f.n, .string f.t, .int .i64 f.k], .bool true]
  | none => .tuple #[.agg #[.string ⟨#[]⟩, .string ⟨#[]⟩, .int .i64 0], .bool false]

end Go.Proofs.Ytihnghnafpgdfab
