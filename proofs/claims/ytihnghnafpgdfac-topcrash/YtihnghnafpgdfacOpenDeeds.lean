/-
  DEEDS THAT CAME IN, OPENED; whether they are light.
-/
import Derived.Test.YtihnghnafpgdfacOpenRows
import Derived.Test.YtihnghnafpgdfacRowParse
namespace Go.Proofs.Ytihnghnafpgdfac
open Go.RowKit Go.Deep Go.ChangeShapes Go.WideShapes
set_option linter.unusedVariables false
set_option linter.unusedSimpArgs false

def DeedCells (w : World) (a : Option Addr) (P : List PartC) : Prop :=
  ∀ i (h : i < P.length), ∃ b off, a = some ⟨b, off, none⟩ ∧ w.cell? ⟨b, off + i, none⟩ = some P[i].v ∧ ChCells w P[i].a P[i].l ∧ P[i].l.length ≤ maxLen
theorem DeedCells.below {w w' : World} {a : Option Addr} {P : List PartC} (h : DeedCells w a P) (hb : Below w.heap.size w w') : DeedCells w' a P := by
  intro i hi
  obtain ⟨b, off, e, h1, h2, h3⟩ := h i hi
  exact ⟨b, off, e, by rw [hb.cell (World.block_lt_of_cell? _ _ h1)]; exact h1, h2.below hb, h3⟩
section
variable {H : Type} {enc : TypeId × Value → H} {w : World} {base : Nat} {spare : Nat → Bool} {held : Bool}
def CellsDeed (w : World) (a : Addr) (i : Nat) (f : PartC) : Prop := w.cell? (a.add i) = some f.v ∧ ChCells w f.a f.l ∧ f.l.length ≤ maxLen
theorem open_deeds {fuel : Nat} {cs : List Value} {x : DataW H × List MemPlace} (h : DataW.trod enc Try.prog w base spare held fuel 22 cs = some x) :
    ∃ (a : Option Addr) (cap : Nat) (l : List PartC), cs = [.slice a l.length cap] ∧ l.length ≤ maxLen ∧ DeedCells w a l := by
  rcases open_slice Try.underlying22 h with ⟨rfl, _⟩ | ⟨a, len, cap, m, n, D, Pl, rfl, hb, hl, hm, hmm, _, hx⟩
  · exact ⟨none, 0, [], rfl, Nat.zero_le _, (fun i h => absurd h (Nat.not_lt_zero _))⟩
  · have hlm : len ≤ m := by rw [hmm]; split <;> omega
    have each : ∀ i, i < len → ∃ f : PartC, CellsDeed w a i f := by
      intro i hi
      obtain ⟨cs', h1, h2⟩ := hx i (by omega)
      rw [cellsChanges] at h1
      obtain ⟨fa, fc, fl, rfl, ok, hfl⟩ := open_changes h2
      obtain ⟨_, hlen, hcell⟩ := World.cells?_some h1
      refine ⟨⟨fa, fc, fl⟩, ?_, ok, hfl⟩
      have := hcell 0 (by decide); rw [add_add] at this; simpa [PartC.v] using this
    have gather : ∀ n, n ≤ len → ∃ l : List PartC, l.length = n ∧ ∀ i (h : i < l.length), CellsDeed w a i l[i] := by
      intro n
      induction n with
      | zero => intro _; exact ⟨[], rfl, fun i h => absurd h (Nat.not_lt_zero _)⟩
      | succ n ih =>
        intro hn
        obtain ⟨l, hll, hc⟩ := ih (by omega)
        obtain ⟨f, hf⟩ := each n (by omega)
        refine ⟨l ++ [f], by simp [hll], ?_⟩
        intro i hi
        simp only [List.length_append, List.length_cons, List.length_nil] at hi
        by_cases hin : i < l.length
        · rw [List.getElem_append_left hin]; exact hc i hin
        · have e : i = l.length := by omega
          subst e
          rw [List.getElem_append_right (Nat.le_refl _)]
          simp only [Nat.sub_self, List.getElem_cons_zero]
          rw [hll]
          exact hf
    obtain ⟨l, hll, hc⟩ := gather len (Nat.le_refl _)
    refine ⟨some a, cap, l, by rw [hll], by omega, ?_⟩
    intro i hi
    obtain ⟨b, off, spot⟩ := a
    have hspot : spot = none := by
      have h0 := (hc 0 (by omega)).1
      have := World.cell?_spot h0
      simpa [Addr.add] using this
    subst hspot
    obtain ⟨h0, h1, h2⟩ := hc i hi
    have hadd : ∀ j, (⟨b, off, none⟩ : Addr).add j = ⟨b, off + j, none⟩ := by intro j; unfold Addr.add; split <;> simp_all
    rw [hadd] at h0
    exact ⟨b, off, rfl, h0, h1, h2⟩
end
def LightD (P : List PartC) (most : Nat) : Prop := P.length ≤ most ∧ ∀ q ∈ P, LightC q.l 14
def LightDEnd (P : List PartC) (most : Nat) (e : Ending) : Prop := ∃ b, e = .returned (.bool b) ∧ (b = true → LightD P most)
set_option maxRecDepth 100000 in
set_option maxHeartbeats 1000000 in
theorem lightDeeds_any (a : Option Addr) (cap : Nat) (P : List PartC) (most : Nat) (w : World) (hl : P.length ≤ maxLen) (hmo : most ≤ 1000) (hc : DeedCells w a P) :
    Calls Try.prog 9 #[.slice a P.length cap, .int .i64 most] w fun e w' => LightDEnd P most e ∧ w' = w := by
  unfold maxLen at hl
  have HC : Hid (DeedCells w a P) := hc
  clear hc
  by_cases hm : most < P.length
  · have hmz : (most : Int) < (P.length : Int) := by omega
    go_enter Try.func9, Try.ntmps9
    go_wp2
    go_ret
    exact ⟨⟨false, rfl, fun h => by cases h⟩, rfl⟩
  · have hmz : ¬ (most : Int) < (P.length : Int) := by omega
    go_enter Try.func9, Try.ntmps9
    go_wp2_with fail
    go_loopg [5] (P.length + 1) (fun kx vi wr => ∃ i : Nat, vi = .int .i64 i ∧ i ≤ P.length ∧ P.length - i ≤ kx ∧ wr = w ∧ Hid (∀ j (hj : j < i) (h : j < P.length), LightC P[j].l 14))
    case atStart => exact ⟨0, rfl, by omega, by omega, rfl, fun j hj => absurd hj (Nat.not_lt_zero _)⟩
    case round =>
      obtain ⟨i, rfl, hi, hix, rfl, HA⟩ := hrel
      by_cases hlt : i < P.length
      · have hltz : (i : Int) < (P.length : Int) := by omega
        obtain ⟨b, off, rfl, c0, hcc, hcl⟩ := HC.out i hlt
        have KL : Hid (Calls Try.prog 33 #[P[i].v, .int .i64 14] wr fun e w' => LightEnd P[i].l 14 e ∧ w' = wr) := lightChanges_any P[i].a P[i].cap P[i].l 14 wr hcl hcc
        clear hcc hcl
        go_wp2_with fail
        refine Calls.mono KL.out ?_
        rintro e w2 ⟨⟨lb, rfl, hlb⟩, hw⟩
        rw [hw]
        clear hw w2 KL
        cases lb
        · clear hlb
          go_wp2
          go_ret
          exact ⟨⟨false, rfl, fun h => by cases h⟩, rfl⟩
        · have HLB : Hid (LightC P[i].l 14) := hlb rfl
          clear hlb
          go_wp2
          go_roundg (P.length - (i + 1))
          case measure => omega
          case rel =>
            refine ⟨i + 1, by go_num, by omega, Nat.le_refl _, rfl, fun j hj h => ?_⟩
            by_cases e : j = i
            · subst e; exact HLB.out
            · exact HA.out j (by omega) h
      · go_wp2
        go_ret
        refine ⟨⟨true, rfl, fun _ => ⟨by omega, fun q hq => ?_⟩⟩, rfl⟩
        obtain ⟨j, hj, rfl⟩ := List.getElem_of_mem hq
        exact HA.out j (by omega) hj
end Go.Proofs.Ytihnghnafpgdfac
