/-
  COPIES: what one is, and when two are the same; vote.Same, SameCopy, quilt.Clone, SameNumbers.
-/
import Derived.Test.YtihnghnafpgdfacQuiltSame
import Derived.Test.YtihnghnafpgdfacQuiltClone
import Derived.Deep.RegionWith
namespace Go.Proofs.Ytihnghnafpgdfac
open Go.RowKit
set_option linter.unusedVariables false
set_option linter.unusedSimpArgs false

/-- A copy: is there one, its files, and its turn. -/
structure Co where
  is : Bool
  a : Option Addr
  cap : Nat
  l : List Fi
  t : Int
abbrev Co.v (c : Co) : Value := .agg #[.bool c.is, .slice c.a c.l.length c.cap, .int .i64 c.t]
abbrev Co.q (c : Co) : Value := .agg #[.slice c.a c.l.length c.cap, .int .i64 c.t]
structure CoOk (w : World) (c : Co) : Prop where
  slice : Slice w c.a c.cap c.l
  few : c.l.length ≤ 100
theorem CoOk.below {w w' : World} {c : Co} (h : CoOk w c) (hb : Below w.heap.size w w') : CoOk w' c := ⟨h.slice.below hb, h.few⟩
/-- The same quilt? -/
def sameQ (x y : Co) : Bool := sameL x.l y.l && (x.t == y.t)
def sameCo (x y : Co) : Bool := if x.is = true ∧ y.is = true then sameQ x y else x.is == y.is

set_option maxRecDepth 100000 in
set_option maxHeartbeats 1000000 in
theorem voteSame_any (x y : Co) (w : World) (hx : CoOk w x) (hy : CoOk w y) :
    Calls Try.prog 25 #[x.v, y.v] w fun e w' => e = .returned (.bool (sameCo x y)) ∧ Below w.heap.size w w' := by
  have HX : Hid (CoOk w x) := hx
  have HY : Hid (CoOk w y) := hy
  clear hx hy
  cases h1 : x.is
  · cases h2 : y.is
    all_goals
      have HS : Hid (sameCo x y = (x.is == y.is)) := by show _ = _; simp [sameCo, h1]
      rw [HS.out, h1, h2]
      go_enter Try.func25, Try.ntmps25
      go_wp2
      go_ret
      exact ⟨rfl, by repeat (first | exact Below.refl _ _ | refine below_drewN ?_ _ | refine Below.drew ?_ | refine Below.alloc ?_ (by simp; try omega) _)⟩
  · cases h2 : y.is
    · have HS : Hid (sameCo x y = (x.is == y.is)) := by show _ = _; simp [sameCo, h2]
      rw [HS.out, h1, h2]
      go_enter Try.func25, Try.ntmps25
      go_wp2
      go_ret
      exact ⟨rfl, by repeat (first | exact Below.refl _ _ | refine below_drewN ?_ _ | refine Below.drew ?_ | refine Below.alloc ?_ (by simp; try omega) _)⟩
    · have HS : Hid (sameCo x y = sameQ x y) := by show _ = _; simp [sameCo, h1, h2]
      rw [HS.out]
      have f1 := HX.out.few
      have f2 := HY.out.few
      go_enter Try.func25, Try.ntmps25
      go_wp2_with fail
      refine (quiltSame_any x.a y.a x.cap y.cap x.l y.l x.t y.t _ (by omega) (by omega) (by exact ((HX.out.slice.cells.alloc _).alloc _)) (by exact ((HY.out.slice.cells.alloc _).alloc _))).mono ?_
      rintro e w1 ⟨rfl, hb⟩
      have HB : Hid (Below w.heap.size w w1) := (((Below.refl _ _).alloc (Nat.le_refl _) _).alloc (by simp) _).trans (hb.mono (by simp; omega))
      clear hb
      go_wp2
      go_ret
      exact ⟨rfl, HB.out⟩

set_option maxRecDepth 100000 in
set_option maxHeartbeats 1000000 in
theorem sameCopy_any (x y : Co) (w : World) (hx : CoOk w x) (hy : CoOk w y) :
    Calls Try.prog 26 #[x.v, y.v] w fun e w' => e = .returned (.bool (sameCo x y)) ∧ Below w.heap.size w w' := by
  have HX : Hid (CoOk w x) := hx
  have HY : Hid (CoOk w y) := hy
  clear hx hy
  cases h1 : x.is
  · cases h2 : y.is
    all_goals
      have HS : Hid (sameCo x y = (x.is == y.is)) := by show _ = _; simp [sameCo, h1]
      rw [HS.out, h1, h2]
      go_enter Try.func26, Try.ntmps26
      go_wp2
      go_ret
      exact ⟨rfl, by repeat (first | exact Below.refl _ _ | refine below_drewN ?_ _ | refine Below.drew ?_ | refine Below.alloc ?_ (by simp; try omega) _)⟩
  · cases h2 : y.is
    · have HS : Hid (sameCo x y = (x.is == y.is)) := by show _ = _; simp [sameCo, h2]
      rw [HS.out, h1, h2]
      go_enter Try.func26, Try.ntmps26
      go_wp2
      go_ret
      exact ⟨rfl, by repeat (first | exact Below.refl _ _ | refine below_drewN ?_ _ | refine Below.drew ?_ | refine Below.alloc ?_ (by simp; try omega) _)⟩
    · have HS : Hid (sameCo x y = sameQ x y) := by show _ = _; simp [sameCo, h1, h2]
      rw [HS.out]
      have f1 := HX.out.few
      have f2 := HY.out.few
      go_enter Try.func26, Try.ntmps26
      go_wp2_with fail
      refine (sameQuilt_any x.a y.a x.cap y.cap x.l y.l x.t y.t _ (by omega) (by omega) (by exact ((HX.out.slice.cells.alloc _).alloc _)) (by exact ((HY.out.slice.cells.alloc _).alloc _))).mono ?_
      rintro e w1 ⟨rfl, hb⟩
      have HB : Hid (Below w.heap.size w w1) := (((Below.refl _ _).alloc (Nat.le_refl _) _).alloc (by simp) _).trans (hb.mono (by simp; omega))
      clear hb
      go_wp2
      go_ret
      exact ⟨rfl, HB.out⟩

theorem rowFar {w w' : World} {B : Nat} {e : TypeId} {size : Nat} {v : Value} {n : Nat} {xs : List Value} (h : w.ownsRow B e size v n xs) (hk : ∀ g, v.ownBlock = some g → w'.heap[g]? = w.heap[g]?) : w'.ownsRow B e size v n xs := by
  refine ⟨h.1, ?_⟩
  rcases h.2 with h0 | ⟨g, cap, cur, e, hg, hh, rest⟩
  · exact .inl h0
  · exact .inr ⟨g, cap, cur, e, hg, by rw [hk g (by rw [e]; rfl)]; exact hh, rest⟩
/-- Two cells of a block that lies lower are stored. -/
theorem Owns.over {w : World} {b : Nat} {v : Value} {l : List Fi} (h : Owns w (b + 1) v l) (y : Value) : Owns ((w.setCell ⟨b, 0, none⟩ v).setCell ⟨b, 1, none⟩ y) (b + 1) v l :=
  rowFar h fun g hg => by
    have hge := (h.lt g hg).1
    rw [Below.heap_setCell _ _ _ _ (by show g ≠ b; omega), Below.heap_setCell _ _ _ _ (by show g ≠ b; omega)]
set_option maxRecDepth 100000 in
set_option maxHeartbeats 1000000 in
theorem quiltClone_any (x : Co) (w : World) (hx : CoOk w x) :
    Calls Try.prog 51 #[x.q] w fun e w' => ∃ a cap, e = .returned (.agg #[.slice a x.l.length cap, .int .i64 x.t]) ∧ Owns w' w.heap.size (.slice a x.l.length cap) x.l ∧ Below w.heap.size w w' := by
  have HX : Hid (CoOk w x) := hx
  clear hx
  go_enter Try.func51, Try.ntmps51
  have hfew := HX.out.few
  go_wp2_with fail
  go_region_with (go_at_call 76
                  refine (clone_any x.a x.cap x.l _ (by omega) (by refine HX.out.slice.below ?_; repeat (first | exact Below.refl _ _ | refine Below.drew ?_ | refine below_drewN ?_ _ | refine Below.alloc ?_ (by simp; try omega) _))).mono ?_
                  rintro e w3 ⟨v, rfl, hown, hb⟩
                  have hb4 := Below.undrew hb
                  obtain ⟨cc, cf⟩ := bcell' hb4
                  have z1 := cc w.heap.size 1 (by simp; omega)
                  have y0 := cc (w.heap.size + 1) 0 (by simp)
                  have y1 := cc (w.heap.size + 1) 1 (by simp)
                  have g0 := cf (w.heap.size + 1) 0 (by simp)
                  have g1 := cf (w.heap.size + 1) 1 (by simp)
                  simp at z1 y0 y1 g0 g1
                  have HB3 : Hid (Below w.heap.size w w3) := (((Below.refl _ _).alloc (Nat.le_refl _) _).alloc (by simp) _).trans (hb4.mono (by simp; omega))
                  obtain ⟨p3, cap3, e3, _⟩ := hown.slice
                  subst e3
                  have HO3 : Hid (Owns w3 (w.heap.size + 1 + 1) (.slice p3 x.l.length cap3) x.l) := by have h := hown; simp only [World.size_drew, World.size_alloc] at h; exact h
                  have hz3 := hb4.size
                  simp only [World.size_alloc] at hz3
                  have hz4 : w.heap.size + 1 < w3.heap.size := by omega
                  clear hb hb4 cc cf hown hz3)
  all_goals
    go_wp2
    refine bodyPost_ret (v := .agg #[.slice p3 x.l.length cap3, .int .i64 x.t]) (by simp [results, Try.results51, go_sem, y0, y1, g0, g1, hz4]) rfl ⟨p3, cap3, rfl, (Owns.over HO3.out (.int .i64 x.t)).base (by omega), ?_⟩
    exact (HB3.out.setCell (by simp) _).setCell (by simp) _

/-- Numbers in memory of one's own. -/
abbrev OwnsN (w : World) (base : Nat) (v : Value) (l : List Int) : Prop := w.ownsRow base 3 1 v l.length (l.map (Value.int .i64))
/-- The cells of a slice's elements hold these numbers. -/
def Nums (w : World) (a : Option Addr) (l : List Int) : Prop :=
  ∀ i (h : i < l.length), ∃ b off, a = some ⟨b, off, none⟩ ∧ w.cell? ⟨b, off + i, none⟩ = some (.int .i64 l[i])
theorem Nums.below {w w' : World} {a : Option Addr} {l : List Int} (h : Nums w a l) (hb : Below w.heap.size w w') : Nums w' a l := by
  intro i hi
  obtain ⟨b, off, rfl, c0⟩ := h i hi
  exact ⟨b, off, rfl, by rw [hb.cell (World.block_lt_of_cell? _ _ c0)]; exact c0⟩
theorem OwnsN.nums {w : World} {base : Nat} {v : Value} {l : List Int} (h : OwnsN w base v l) : ∃ a cap, v = .slice a l.length cap ∧ Nums w a l := by
  rcases h.2 with ⟨rfl, h0⟩ | ⟨g, cap, cur, rfl, hb, hg, hn, hm, hs, ht⟩
  · have e : l = [] := List.eq_nil_of_length_eq_zero h0
    subst e
    exact ⟨none, 0, rfl, fun i h => absurd h (Nat.not_lt_zero _)⟩
  · refine ⟨some ⟨g, 0, none⟩, cap, rfl, ?_⟩
    intro i hi
    refine ⟨g, 0, rfl, ?_⟩
    rw [h.cellAt (0 + i) (by omega), Nat.zero_add]
    simp [hi]
set_option maxRecDepth 100000 in
set_option maxHeartbeats 1000000 in
theorem sameNumbers_self (a a' : Option Addr) (cap cap' : Nat) (l : List Int) (w : World) (hl : l.length ≤ 1000) (hc : Nums w a l) (hc' : Nums w a' l) :
    Calls Try.prog 27 #[.slice a l.length cap, .slice a' l.length cap'] w fun e w' => e = .returned (.bool true) ∧ ∃ n, w' = w.drewN n := by
  have HC : Hid (Nums w a l) := hc
  have HC' : Hid (Nums w a' l) := hc'
  clear hc hc'
  have hne : ((l.length : Int) != (l.length : Int)) = false := by simp
  go_enter Try.func27, Try.ntmps27
  go_wp2_with fail
  go_loopw [5] (fun i wr => ∃ k n : Nat, k ≤ l.length ∧ i = .int .i64 k ∧ wr = w.drewN n) (fun i _ => l.length - (intOf i).toNat)
  case atStart => exact ⟨0, 0, Nat.zero_le _, rfl, rfl⟩
  case round =>
    obtain ⟨k, n, hk, rfl, rfl⟩ := hrel
    by_cases hlt : k < l.length
    · obtain ⟨b, off, rfl, c0⟩ := HC.out k hlt
      obtain ⟨b', off', rfl, d0⟩ := HC'.out k hlt
      have hq : (l[k] != l[k]) = false := by simp
      go_wp2
      try go_quiet (fail)
      all_goals go_wp2
      exact ⟨⟨k + 1, _, by omega, by go_num, rfl⟩, by simp [intOf]; omega⟩
    · go_wp2
      go_ret
      exact ⟨rfl, n, rfl⟩
end Go.Proofs.Ytihnghnafpgdfac
