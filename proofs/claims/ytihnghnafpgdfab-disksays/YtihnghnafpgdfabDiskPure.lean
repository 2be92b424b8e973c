/-
  A DISK AS LISTS: what is laid, and what may be there behind a fall.
-/
import Derived.Test.YtihnghnafpgdfabDiskWrite
import Derived.Test.YtihnghnafpgdfabDiskRestart
namespace Go.Proofs.Ytihnghnafpgdfab
set_option linter.unusedVariables false

/-- Each sector is as it was kept, or as one of these Writes has it. -/
def May (wr : List Wr) (kept k : List (List UInt8)) : Prop := k.length = kept.length ∧ ∀ j, k[j]? = kept[j]? ∨ ∃ x ∈ wr, x.spot = j ∧ k[j]? = some x.data
theorem May.refl (wr : List Wr) (kept : List (List UInt8)) : May wr kept kept := ⟨rfl, fun j => .inl rfl⟩
theorem keptBy_may (keep : Nat) : ∀ (wr : List Wr) (k : List (List UInt8)), May wr k (keptBy keep wr k)
  | [], k => May.refl _ _
  | x :: l, k => by
    obtain ⟨h1, h2⟩ := keptBy_may keep l (if bitSet keep x.bit = true then k.set x.spot x.data else k)
    refine ⟨?_, fun j => ?_⟩
    · rw [keptBy, h1]; split <;> simp
    · rw [keptBy]
      rcases h2 j with h | ⟨y, hy, e, h⟩
      · rw [h]
        split
        · by_cases e : x.spot = j
          · subst e
            by_cases hl : x.spot < k.length
            · exact .inr ⟨x, by simp, rfl, by simp [hl]⟩
            · exact .inl (by simp [hl])
          · exact .inl (by simp [e])
        · exact .inl rfl
      · exact .inr ⟨y, List.mem_cons_of_mem _ hy, e, h⟩

/-- Sectors laid one behind the other. -/
def laidL (now : List (List UInt8)) (at' : Nat) : List (List UInt8) → List (List UInt8)
  | [] => now
  | s :: r => laidL (now.set at' s) (at' + 1) r
theorem laidL_length : ∀ (l : List (List UInt8)) (now : List (List UInt8)) (a : Nat), (laidL now a l).length = now.length
  | [], _, _ => rfl
  | s :: r, now, a => by rw [laidL, laidL_length r]; simp
theorem laidL_at : ∀ (l : List (List UInt8)) (now : List (List UInt8)) (a j : Nat), a + l.length ≤ now.length → (laidL now a l)[j]? = if a ≤ j ∧ j < a + l.length then l[j - a]? else now[j]?
  | [], now, a, j, h => by
    rw [laidL, if_neg]
    simp <;> omega
  | s :: r, now, a, j, h => by
    simp only [List.length_cons] at h
    rw [laidL, laidL_at r (now.set a s) (a + 1) j (by simp; omega)]
    by_cases h1 : a + 1 ≤ j ∧ j < a + 1 + r.length
    · rw [if_pos h1, if_pos (by simp; omega)]
      obtain ⟨i, rfl⟩ : ∃ i, j = a + 1 + i := ⟨j - (a + 1), by omega⟩
      rw [show a + 1 + i - (a + 1) = i by omega, show a + 1 + i - a = i + 1 by omega, List.getElem?_cons_succ]
    · rw [if_neg h1]
      by_cases h2 : j = a
      · subst h2
        rw [if_pos (by simp)]
        simp [show j < now.length by omega]
      · rw [if_neg (by simp; omega), List.getElem?_set_ne (Ne.symm h2)]

/-- A disk that has kept all that is written, and isn't down. -/
structure Clean (d : Dk) : Prop where
  kept : d.kept = d.now
  wr : d.wr = []
  up : d.down = false
/-- A disk that fell: what stands there when it is up again is one of these. -/
structure Fell (d : Dk) (S : List (List UInt8) → Prop) : Prop where
  down : d.down = true
  may : ∀ keep, S (keptBy keep d.wr d.kept)
/-- Writes, one behind the other, till one fails. -/
def writesD : Dk → Nat → List ByteArray → Dk × Int
  | d, _, [] => (d, 0)
  | d, a, s :: r => if writeN d a s = 0 then writesD (writeD d a s) (a + 1) r else (writeD d a s, writeN d a s)
/-- Writes, and a Flush. -/
def layD (d : Dk) (a : Nat) (l : List ByteArray) : Dk × Int :=
  if (writesD d a l).2 = 0 then (flushD (writesD d a l).1, stepN (writesD d a l).1) else writesD d a l
def Mixed (now : List (List UInt8)) (a : Nat) (l : List (List UInt8)) (k : List (List UInt8)) : Prop :=
  k.length = now.length ∧ ∀ j, k[j]? = now[j]? ∨ a ≤ j ∧ j < a + l.length ∧ k[j]? = l[j - a]?

theorem stepN_cases (d : Dk) (h : d.down = false) : (stepN d = 8 ∧ d.left = 0 ∧ stepD d = { d with down := true }) ∨ (stepN d = 0 ∧ d.left ≠ 0 ∧ (stepD d).now = d.now ∧ (stepD d).kept = d.kept ∧ (stepD d).wr = d.wr ∧ (stepD d).bit = d.bit ∧ (stepD d).down = false ∧ (stepD d).left = if 0 < d.left then d.left - 1 else d.left) := by
  unfold stepN stepD
  by_cases h0 : d.left = 0
  · exact .inl (by simp [h0])
  · refine .inr ?_
    by_cases h1 : 0 < d.left
    · simp [h, h0, h1]
    · simp [h, h0, h1]

/-- What an open row of Writes has come to. -/
structure Midway (d0 d : Dk) (a : Nat) (l : List (List UInt8)) : Prop where
  kept : d.kept = d0.kept
  up : d.down = false
  now : d.now = laidL d0.now a l
  wr : d.wr.length = d0.wr.length + l.length ∧ ∀ x ∈ d.wr, x ∈ d0.wr ∨ a ≤ x.spot ∧ x.spot < a + l.length ∧ l[x.spot - a]? = some x.data

theorem pad_len {s : ByteArray} (h : s.size ≤ 40) : (padD s).length = 40 := by
  have e : s.data.toList.length = s.size := by simp
  simp [padD]; omega
theorem writesD_any : ∀ (l : List ByteArray) (d : Dk) (a : Nat), d.down = false → a + l.length ≤ d.now.length → (∀ s ∈ l, s.size ≤ 40) →
    ((writesD d a l).2 = 0 ∧ Midway d (writesD d a l).1 a (l.map padD) ∧ (d.left < 0 → (writesD d a l).1.left = d.left)) ∨
    ((writesD d a l).2 = 8 ∧ 0 ≤ d.left ∧ (writesD d a l).1.down = true ∧ (writesD d a l).1.kept = d.kept ∧ ∀ x ∈ (writesD d a l).1.wr, x ∈ d.wr ∨ a ≤ x.spot ∧ x.spot < a + l.length ∧ (l.map padD)[x.spot - a]? = some x.data)
  | [], d, a, hd, _, _ => .inl ⟨rfl, ⟨rfl, hd, rfl, by simp [writesD], fun x hx => .inl hx⟩, fun _ => rfl⟩
  | s :: r, d, a, hd, hl, hs => by
    simp only [List.length_cons] at hl
    have hgood : ¬ (¬ (0 ≤ (a : Int) ∧ (a : Int) < (d.now.length : Int)) ∨ 40 < s.size) := by
      have := hs s (by simp)
      omega
    have e1 : writeN d a s = stepN d := by unfold writeN; rw [if_neg hgood]
    rcases stepN_cases d hd with ⟨h8, hl0, hst⟩ | ⟨h0, hl0, hnow, hkept, hwr, hbit, hdn, hleft⟩
    · right
      have e2 : writeD d a s = stepD d := by unfold writeD; rw [if_neg hgood, if_neg (by rw [h8]; decide)]
      have e3 : writesD d a (s :: r) = (stepD d, 8) := by rw [writesD, e1, if_neg (by rw [h8]; decide), e2, h8]
      rw [e3, hst]
      exact ⟨rfl, by omega, rfl, rfl, fun x hx => .inl hx⟩
    · have e2 : writeD d a s = { stepD d with now := d.now.set a (padD s), wr := d.wr ++ [⟨a, d.bit, padD s⟩], bit := (d.bit + 1) % 64 } := by unfold writeD; rw [if_neg hgood, if_pos h0]; rfl
      have e3 : writesD d a (s :: r) = writesD (writeD d a s) (a + 1) r := by rw [writesD, e1, if_pos h0]
      have hwl : (writeD d a s).left = if 0 < d.left then d.left - 1 else d.left := by rw [e2]; exact hleft
      rw [e3]
      rcases writesD_any r (writeD d a s) (a + 1) (by rw [e2]; exact hdn) (by rw [e2]; simp; omega) (fun x hx => hs x (List.mem_cons_of_mem _ hx)) with ⟨k0, km, kl⟩ | ⟨k8, kf, kd, kk, kw⟩
      · left
        refine ⟨k0, ⟨?_, km.up, ?_, ?_, ?_⟩, fun hneg => ?_⟩
        · rw [km.kept, e2]; exact hkept
        · rw [km.now, e2]; rfl
        · rw [km.wr.1, e2]; simp; omega
        · intro x hx
          rcases km.wr.2 x hx with h | ⟨h1, h2, h3⟩
          · rw [e2] at h
            simp at h
            rcases h with h | h
            · exact .inl h
            · subst h
              exact .inr ⟨Nat.le_refl _, by simp, by simp⟩
          · refine .inr ⟨by omega, by simp at h2 ⊢; omega, ?_⟩
            rw [show x.spot - a = (x.spot - (a + 1)) + 1 by omega]
            simpa using h3
        · rw [kl (by rw [hwl, if_neg (by omega)]; exact hneg), hwl, if_neg (by omega)]
      · right
        refine ⟨k8, by rw [hwl] at kf; split at kf <;> omega, kd, by rw [kk, e2]; exact hkept, fun x hx => ?_⟩
        rcases kw x hx with h | ⟨h1, h2, h3⟩
        · rw [e2] at h
          simp at h
          rcases h with h | h
          · exact .inl h
          · subst h
            exact .inr ⟨Nat.le_refl _, by simp, by simp⟩
        · refine .inr ⟨by omega, by simp at h2 ⊢; omega, ?_⟩
          rw [show x.spot - a = (x.spot - (a + 1)) + 1 by omega]
          simpa using h3

theorem may_mixed {wr : List Wr} {now k : List (List UInt8)} {a : Nat} {l : List (List UInt8)} (h : May wr now k) (hw : ∀ x ∈ wr, a ≤ x.spot ∧ x.spot < a + l.length ∧ l[x.spot - a]? = some x.data) : Mixed now a l k :=
  ⟨h.1, fun j => by
    rcases h.2 j with e | ⟨x, hx, rfl, e⟩
    · exact .inl e
    · obtain ⟨h1, h2, h3⟩ := hw x hx
      exact .inr ⟨h1, h2, by rw [e, h3]⟩⟩

/-- All is laid, and kept; or the disk fell, and some of it is there. -/
theorem layD_any (d : Dk) (a : Nat) (l : List ByteArray) (hc : Clean d) (hl : a + l.length ≤ d.now.length) (hs : ∀ s ∈ l, s.size ≤ 40) :
    ((layD d a l).2 = 0 ∧ Clean (layD d a l).1 ∧ (layD d a l).1.now = laidL d.now a (l.map padD) ∧ (d.left < 0 → (layD d a l).1.left = d.left)) ∨
    ((layD d a l).2 = 8 ∧ 0 ≤ d.left ∧ Fell (layD d a l).1 (Mixed d.now a (l.map padD))) := by
  unfold layD
  rcases writesD_any l d a hc.up hl hs with ⟨k0, km, kl⟩ | ⟨k8, kf, kd, kk, kw⟩
  · rw [if_pos k0]
    rcases stepN_cases _ km.up with ⟨h8, hl0, hst⟩ | ⟨h0, hl0, hnow, hkept, hwr, hbit, hdn, hleft⟩
    · right
      have e : flushD (writesD d a l).1 = stepD (writesD d a l).1 := by unfold flushD; rw [if_neg (by rw [h8]; decide)]
      have hneg : ¬ d.left < 0 := fun h => by have := kl h; omega
      simp only [e, hst]
      refine ⟨h8, by omega, ⟨rfl, fun keep => ?_⟩⟩
      show Mixed _ _ _ (keptBy keep (writesD d a l).1.wr (writesD d a l).1.kept)
      have := keptBy_may keep (writesD d a l).1.wr (writesD d a l).1.kept
      rw [km.kept, hc.kept] at this
      rw [km.kept, hc.kept]
      refine may_mixed this (fun x hx => ?_)
      rcases km.wr.2 x hx with h | h
      · rw [hc.wr] at h; simp at h
      · exact h
    · left
      have e : flushD (writesD d a l).1 = { stepD (writesD d a l).1 with kept := (writesD d a l).1.now, wr := [], bit := 0 } := by unfold flushD; rw [if_pos h0]
      simp only [e]
      refine ⟨h0, ⟨?_, rfl, hdn⟩, ?_, fun hneg => ?_⟩
      · exact hnow.symm
      · rw [← km.now]; exact hnow
      · show (stepD (writesD d a l).1).left = d.left
        rw [hleft, kl hneg, if_neg (by omega)]
  · right
    rw [if_neg (by rw [k8]; decide)]
    refine ⟨k8, kf, ⟨kd, fun keep => ?_⟩⟩
    have := keptBy_may keep (writesD d a l).1.wr (writesD d a l).1.kept
    rw [kk, hc.kept] at this
    rw [kk, hc.kept]
    refine may_mixed this (fun x hx => ?_)
    rcases kw x hx with h | h
    · rw [hc.wr] at h; simp at h
    · simpa using h
theorem restartD_clean (d : Dk) (keep : Nat) : Clean (restartD d keep) := ⟨rfl, rfl, rfl⟩
theorem Clean.restart {d : Dk} (h : Clean d) (keep : Nat) : (restartD d keep).now = d.now := by
  show keptBy keep d.wr d.kept = d.now
  rw [h.wr, h.kept]; rfl
end Go.Proofs.Ytihnghnafpgdfab
