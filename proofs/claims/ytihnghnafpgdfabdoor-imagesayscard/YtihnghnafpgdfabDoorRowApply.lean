/-
  THE WALK OF row.Apply.
-/
import Derived.Test.YtihnghnafpgdfabDoorRowParse
import Derived.Test.YtihnghnafpgdfabDoorRowPure
import Derived.Test.YtihnghnafpgdfabDoorStableAll
namespace Go.Proofs.YtihnghnafpgdfabDoor
open Go.RowKit Go.Lib Go.Sort
set_option linter.unusedVariables false
set_option linter.unusedSimpArgs false

def compareB (x y : ByteArray) : Int := if ltB x y = true then -1 else if ltB y x = true then 1 else 0

theorem isNaN_any (x : ByteArray) (w : World) : Calls Tryd.prog 39 #[.string x] w fun e w' => e = .returned (.bool false) ∧ w' = w := by
  go_enter Tryd.func39, Tryd.ntmps39
  go_wp2
  go_ret
  exact ⟨ret_bool (by simp), rfl⟩

set_option maxRecDepth 100000 in
theorem compare_any (x y : ByteArray) (w : World) : Calls Tryd.prog 29 #[.string x, .string y] w fun e w' => e = .returned (.int .i64 (compareB x y)) ∧ w' = w := by
  cases h1 : ltB x y
  · cases h2 : ltB y x
    · have HR : Hid (compareB x y = 0) := by show _ = _; unfold compareB; rw [h1, h2]; rfl
      have he : (x.toList == y.toList) = true := beqB_true (ltB_tri h1 h2)
      unfold ltB at h1 h2
      go_enter Tryd.func29, Tryd.ntmps29
      go_wp2_with (go_at_call 39; refine (isNaN_any _ _).mono ?_; rintro e w' ⟨rfl, rfl⟩)
      go_ret
      exact ⟨ret_int HR.out.symm, rfl⟩
    · have HR : Hid (compareB x y = 1) := by show _ = _; unfold compareB; rw [h1, h2]; rfl
      have he : (x.toList == y.toList) = false := beqB_false (fun e => by rw [e, ltB_irrefl] at h2; cases h2)
      unfold ltB at h1 h2
      go_enter Tryd.func29, Tryd.ntmps29
      go_wp2_with (go_at_call 39; refine (isNaN_any _ _).mono ?_; rintro e w' ⟨rfl, rfl⟩)
      go_ret
      exact ⟨ret_int HR.out.symm, rfl⟩
  · have HR : Hid (compareB x y = -1) := by show _ = _; unfold compareB; rw [h1]; rfl
    unfold ltB at h1
    go_enter Tryd.func29, Tryd.ntmps29
    go_wp2_with (go_at_call 39; refine (isNaN_any _ _).mono ?_; rintro e w' ⟨rfl, rfl⟩)
    go_ret
    exact ⟨ret_int HR.out.symm, rfl⟩

def cfC (x y : Ch) : Int := compareB x.key y.key
theorem ltOf_cfC : ltOf cfC = ltC := by
  funext x y
  unfold ltOf cfC compareB ltC
  cases h1 : ltB x.key y.key
  · cases h2 : ltB y.key x.key <;> simp
  · simp

/-- The cells of an own row are an array's, as the sort's kit has them. -/
theorem flatK_at (l : List Ch) (t : Nat) (ht : t < l.length * 3) : (flatC l)[t]? = some (flatK encC 3 l.toArray)[t]! := by
  obtain ⟨f0, f1, f2⟩ := flatC_at l (t / 3) (by omega)
  rw [get_flatK encC 3 l.toArray t (by simpa using ht), getElem!_pos l.toArray (t / 3) (by simp; omega)]
  have h3 : t % 3 = 0 ∨ t % 3 = 1 ∨ t % 3 = 2 := by omega
  rcases h3 with h | h | h
  · rw [h, show (flatC l)[t]? = (flatC l)[t / 3 * 3]? by congr 1; omega, f0]
    simp [encC]
  · rw [h, show (flatC l)[t]? = (flatC l)[t / 3 * 3 + 1]? by congr 1; omega, f1]
    simp [encC]
  · rw [h, show (flatC l)[t]? = (flatC l)[t / 3 * 3 + 2]? by congr 1; omega, f2]
    simp [encC]
theorem OwnsC.holds {w : World} {base : Nat} {v : Value} {l : List Ch} (h : OwnsC w base v l) (hl : 0 < l.length) : ∃ g cap, v = .slice (some ⟨g, 0, none⟩) l.length cap ∧ HoldsK encC 3 w g 0 l.toArray ∧ g < w.heap.size ∧ base ≤ g := by
  rcases h.2 with ⟨rfl, h0⟩ | ⟨g, cap, cur, rfl, hb, hg, hn, hm, hs, ht⟩
  · omega
  · refine ⟨g, cap, rfl, ?_, (Array.getElem?_eq_some_iff.1 hg).1, hb⟩
    intro t ht
    rw [size_flatK] at ht
    simp only [List.size_toArray] at ht
    refine ⟨?_, by simp [World.frozen?, hg]⟩
    rw [h.cellAt (0 + t) (by omega), Nat.zero_add, flatK_at l t ht]
    rfl
/-- A row that the sort's kit holds, as cells of a slice. -/
theorem holds_cc {w : World} {g : Nat} {d : Array Ch} (h : HoldsK encC 3 w g 0 d) : CC w (some ⟨g, 0, none⟩) d.toList := by
  intro i hi
  have hi' : i < d.size := by simpa using hi
  have c0 := (h.cell hi' (c := 0) (by omega)).1
  have c1 := (h.cell hi' (c := 1) (by omega)).1
  have c2 := (h.cell hi' (c := 2) (by omega)).1
  rw [getElem!_pos d i hi'] at c0 c1 c2
  exact ⟨g, 0, rfl, c0, c1, c2⟩
theorem SWK.below {w0 W : World} {g : Nat} {d : Array Ch} {B : Nat} {w : World} (h : SWK encC 3 w0 g 0 d W) (hb : Below B w w0) (hg : B ≤ g) (hgs : g < w0.heap.size) : Below B w W := by
  have hsz := h.le
  obtain ⟨n, os, rfl⟩ := h
  refine hb.trans ⟨?_, ?_, ?_, hsz, fun k hk => ?_⟩
  · rfl
  · rfl
  · rfl
  · have h1 : k < w0.heap.size := by omega
    show (w0.heap.modify g _ ++ os)[k]? = _
    rw [Array.getElem?_append_left (by simp; exact h1), Array.getElem?_modify, if_neg (by omega)]

theorem CC.over {w w' : World} {g : Nat} {l : List Ch} (h : CC w (some ⟨g, 0, none⟩) l) (hb : Below (g + 1) w w') : CC w' (some ⟨g, 0, none⟩) l := by
  intro i hi
  obtain ⟨b, off, e, c0, c1, c2⟩ := h i hi
  cases e
  exact ⟨g, 0, rfl, by rw [hb.cell (by simp)]; exact c0, by rw [hb.cell (by simp)]; exact c1, by rw [hb.cell (by simp)]; exact c2⟩
theorem CC.at0 {w : World} {g : Nat} {l : List Ch} (h : CC w (some ⟨g, 0, none⟩) l) (i : Nat) (hi : i < l.length) : w.cell? ⟨g, i * 3, none⟩ = some (.string l[i].key) ∧ w.cell? ⟨g, i * 3 + 1, none⟩ = some (.string l[i].val) ∧ w.cell? ⟨g, i * 3 + 2, none⟩ = some (.bool l[i].gone) := by
  obtain ⟨b, off, e, c0, c1, c2⟩ := h i hi
  cases e
  rw [Nat.zero_add] at c0 c1 c2
  exact ⟨c0, c1, c2⟩
theorem keepLast_step (S : List Ch) (k : Nat) (h : k < S.length) : keepLast (S.drop k) = (if (endsRun S[k] (S.drop (k + 1)) && !S[k].gone) = true then [S[k]] else []) ++ keepLast (S.drop (k + 1)) := by
  rw [List.drop_eq_getElem_cons h, keepLast]

/-- Nothing is sorted. -/
theorem sortStable_none (p : Option Addr) (cap : Nat) (fv : Value) (w : World) :
    Calls Tryd.prog 27 #[.slice p 0 cap, fv] w fun e w' => e = .returned (.tuple #[]) ∧ w' = w := by
  have h1 : Calls Tryd.prog 52 #[.slice p 0 cap, .int .i64 0, .int .i64 0, fv] w fun e w' => e = .returned (.tuple #[]) ∧ w' = w := by
    go_enter Tryd.func52, Tryd.ntmps52
    go_wp2_with fail
    go_loopg [8] 1 (fun kx v wr => v = .int .i64 1 ∧ wr = w)
    case atStart => exact ⟨rfl, rfl⟩
    case round =>
      obtain ⟨rfl, rfl⟩ := hrel
      go_wp2
      go_end0
      exact ⟨rfl, rfl⟩
  have h2 : Calls Tryd.prog 38 #[.slice p 0 cap, .int .i64 0, fv] w fun e w' => e = .returned (.tuple #[]) ∧ w' = w := by
    have H1 : Hid _ := h1
    clear h1
    go_enter Tryd.func38, Tryd.ntmps38
    go_wp2_with fail
    go_loopg [7, 8] 1 (fun kx va vb wr => va = .int .i64 0 ∧ vb = .int .i64 20 ∧ wr = w)
    case atStart => exact ⟨rfl, rfl, rfl⟩
    case round =>
      obtain ⟨rfl, rfl, rfl⟩ := hrel
      go_wp2_with fail
      refine Calls.mono H1.out ?_
      rintro _ w2 ⟨rfl, rfl⟩
      go_wp2_with fail
      go_loopg [6] 1 (fun kx vs wr => vs = .int .i64 20 ∧ wr = w2)
      case atStart => exact ⟨rfl, rfl⟩
      case round =>
        obtain ⟨rfl, rfl⟩ := hrel
        go_wp2
        go_end0
        exact ⟨rfl, rfl⟩
  have H2 : Hid _ := h2
  clear h1 h2
  go_enter Tryd.func27, Tryd.ntmps27
  go_wp2_with fail
  refine Calls.mono H2.out ?_
  rintro _ w2 ⟨rfl, rfl⟩
  go_wp2
  go_end0
  exact ⟨rfl, rfl⟩

end Go.Proofs.YtihnghnafpgdfabDoor
