/-
  A DISK AND THE DOCUMENT's: they go on alike. And the closed fact that a sector is kept.
-/
import Derived.Test.YtihnghnafpgdfabRefRestart
import Derived.Test.YtihnghnafpgdfabRefNew
import Derived.Test.YtihnghnafpgdfabDiskRestart
namespace Go.Proofs.Ytihnghnafpgdfab
open Go.RowKit
set_option linter.unusedVariables false
set_option linter.unusedSimpArgs false

/-- Both have the same; the fuse is told otherwise while it is up. -/
structure Agree (d e : Dk) (n k : Nat) : Prop where
  now : e.now = d.now
  kept : e.kept = d.kept
  wr : e.wr = d.wr
  bit : e.bit = d.bit
  down : e.down = d.down
  left : d.down = false → e.left = max d.left (-1)
  bits : ∀ i (h : i < d.wr.length), d.wr[i].bit = i % 64
  next : d.bit = d.wr.length % 64
  many : d.now.length = n
  few : d.wr.length ≤ k
theorem Agree.stepN {d e : Dk} {n k : Nat} (h : Agree d e n k) : stepN e = stepN d := by
  unfold Go.Proofs.Ytihnghnafpgdfab.stepN
  rw [h.down]
  cases hd : d.down
  · have := h.left hd
    by_cases h0 : d.left = 0
    · have h1 : e.left = 0 := by omega
      simp [h0, h1]
    · have h1 : ¬ e.left = 0 := by omega
      simp [h0, h1]
  · simp
theorem Agree.step {d e : Dk} {n k : Nat} (h : Agree d e n k) : Agree (stepD d) (stepE e) n k := by
  unfold stepD stepE
  rw [h.down]
  cases hd : d.down
  · have hl := h.left hd
    by_cases h0 : d.left = 0
    · have h1 : e.left = 0 := by omega
      simp only [Bool.false_eq_true, if_false, h0, h1, or_true, if_true]
      exact ⟨h.now, h.kept, h.wr, h.bit, rfl, (fun h => by cases h), h.bits, h.next, h.many, h.few⟩
    · have h1 : ¬ e.left = 0 := by omega
      simp only [Bool.false_eq_true, if_false, h0, h1, or_false]
      by_cases hp : 0 < d.left
      · have h2 : 0 < e.left := by omega
        rw [if_pos hp, if_pos h2]
        exact ⟨h.now, h.kept, h.wr, h.bit, (by first | rfl | exact h.down), (fun _ => by show e.left - 1 = max (d.left - 1) (-1); omega), h.bits, h.next, h.many, h.few⟩
      · have h2 : ¬ 0 < e.left := by omega
        rw [if_neg hp, if_neg h2]
        exact h
  · simp only [true_or, if_true]
    exact ⟨h.now, h.kept, h.wr, h.bit, by rw [h.down]; exact hd, (fun h => by cases h), h.bits, h.next, h.many, h.few⟩
theorem Agree.more {d e : Dk} {n k : Nat} (h : Agree d e n k) : Agree d e n (k + 1) := ⟨h.now, h.kept, h.wr, h.bit, h.down, h.left, h.bits, h.next, h.many, Nat.le_succ_of_le h.few⟩
theorem Agree.writeN {d e : Dk} {n k : Nat} (h : Agree d e n k) (i : Int) (s : ByteArray) : writeN e i s = writeN d i s := by
  unfold Go.Proofs.Ytihnghnafpgdfab.writeN
  rw [h.now, h.stepN]
theorem stepD_same (d : Dk) : (stepD d).now = d.now ∧ (stepD d).kept = d.kept ∧ (stepD d).wr = d.wr ∧ (stepD d).bit = d.bit := by
  unfold stepD; split
  · simp
  · split <;> simp
theorem Agree.write {d e : Dk} {n k : Nat} (h : Agree d e n k) (i : Int) (s : ByteArray) : Agree (writeD d i s) (writeE e i s) n (k + 1) := by
  unfold writeD writeE
  rw [h.now, h.stepN]
  have hs := h.step
  obtain ⟨a1, a2, a3, a4⟩ := stepD_same d
  obtain ⟨b1, b2, b3, b4⟩ := stepE_same e
  split
  · exact h.more
  · split
    · refine ⟨rfl, hs.kept, by rw [h.wr, h.bit], by rw [h.bit], hs.down, hs.left, ?_, ?_, by simpa using h.many, by have := h.few; simp; omega⟩
      · intro j hj
        simp only [List.length_append, List.length_singleton] at hj
        by_cases hlt : j < d.wr.length
        · rw [List.getElem_append_left hlt]; exact h.bits j hlt
        · have e0 : j = d.wr.length := by omega
          subst e0
          rw [List.getElem_append_right (Nat.le_refl _)]
          simp [h.next]
      · have := h.next
        simp only [List.length_append, List.length_singleton]
        omega
    · exact hs.more
theorem Agree.flush {d e : Dk} {n k : Nat} (h : Agree d e n k) : Agree (flushD d) (flushE e) n (k + 1) := by
  unfold flushD flushE
  rw [h.stepN]
  have hs := h.step
  obtain ⟨a1, a2, a3, a4⟩ := stepD_same d
  split
  · refine ⟨hs.now, h.now, rfl, rfl, hs.down, hs.left, fun i hi => by simp at hi, by simp, ?_, Nat.zero_le _⟩
    show (stepD d).now.length = n
    rw [a1]; exact h.many
  · exact hs.more
theorem keptBy_len (keep : Nat) : ∀ (l : List Wr) (K : List (List UInt8)), (keptBy keep l K).length = K.length
  | [], K => rfl
  | x :: l, K => by rw [keptBy, keptBy_len keep l]; split <;> simp
theorem Agree.restart {d e : Dk} {n k : Nat} (h : Agree d e n k) (keep : Nat) (hl : d.kept.length = d.now.length) : Agree (restartD d keep) (restartD e keep) n (k + 1) := by
  unfold restartD
  rw [h.wr, h.kept]
  refine ⟨rfl, rfl, rfl, rfl, rfl, fun _ => rfl, fun i hi => by simp at hi, rfl, ?_, Nat.zero_le _⟩
  show (keptBy keep d.wr d.kept).length = n
  rw [keptBy_len, hl]; exact h.many
theorem Agree.arm {d e : Dk} {n k : Nat} (h : Agree d e n k) (m : Int) : Agree { d with left := m } { e with left := max m (-1) } n (k + 1) :=
  ⟨h.now, h.kept, h.wr, h.bit, h.down, fun _ => rfl, h.bits, h.next, h.many, Nat.le_succ_of_le h.few⟩
theorem Agree.read {d e : Dk} {n k : Nat} (h : Agree d e n k) (i : Int) : readD e i = readD d i := by
  unfold readD
  rw [h.down, h.now]
theorem newD_agree (n : Nat) : Agree (newD n) (newD n) n 0 := ⟨rfl, rfl, rfl, rfl, rfl, fun _ => rfl, fun i hi => by simp [newD] at hi, rfl, by simp [newD, noughts], Nat.le_refl _⟩

def xy : ByteArray := ⟨#[120, 121]⟩
def spun1 : Dk := writeD (newD 3) 1 xy
def spun2 : Dk := flushD spun1
def spun3 : Dk := restartD spun2 0
theorem spun_n1 : writeN (newD 3) 1 xy = 0 := by kernel_rfl
theorem spun_n2 : stepN spun1 = 0 := by kernel_rfl
theorem spun_r : readD spun3 1 = (padD xy, 0) := by kernel_rfl
theorem spun_len : spun3.now.length = 3 := by kernel_rfl

set_option maxRecDepth 100000 in
set_option maxHeartbeats 2000000 in
theorem spins_any (w : World) : Calls Try.prog 24 #[] w fun e w' => e = .returned (.bool true) ∧ Below w.heap.size w w' := by
  go_enter Try.func24, Try.ntmps24
  go_wp2_with fail
  refine (diskNew_good 3 w (by omega) (by omega)).mono ?_
  rintro e w1 ⟨B, gn, gk, rfl, hd, hb⟩
  have HD1 : Hid _ := hd
  have HB1 : Hid _ := hb
  clear hd hb
  go_wp2_with fail
  refine (diskWrite_any _ (newD 3) 1 xy w1 HD1.out (by unfold maxLen xy; decide) (by decide)).mono ?_
  rintro e w2 ⟨rfl, v, hd, hn⟩
  rw [spun_n1, errV_zero rfl]
  have HB2 : Hid (Below w.heap.size w w2) := HB1.out.trans (hn.low HD1.out)
  have HD2 : Hid (DiskAt w2 _ spun1) := hd
  clear hd hn HD1 HB1
  go_wp2_with fail
  refine (diskFlush_any _ spun1 w2 HD2.out).mono ?_
  rintro e w3 ⟨rfl, hd, hn⟩
  rw [spun_n2, errV_zero rfl]
  have HB3 : Hid (Below w.heap.size w w3) := HB2.out.trans (hn.low HD2.out)
  have e3 : flushP ⟨w.heap.size, B, gn, gk, v⟩ spun1 = ⟨w.heap.size, B, gn, gk, .slice none 0 0⟩ := by unfold flushP; rw [if_pos spun_n2]
  rw [e3] at hd
  have HD3 : Hid (DiskAt w3 _ spun2) := hd
  clear hd hn HD2 HB2 e3
  go_wp2_with fail
  refine (diskRestart_any _ spun2 0 w3 HD3.out (by decide) (by decide)).mono ?_
  rintro e w4 ⟨rfl, hd, hn⟩
  have HB4 : Hid (Below w.heap.size w w4) := HB3.out.trans (hn.low HD3.out)
  have HD4 : Hid (DiskAt w4 _ spun3) := hd
  clear hd hn HD3 HB3
  go_wp2_with fail
  have kr := diskRead_any _ spun3 1 w4 HD4.out
  rw [spun_r] at kr
  refine Calls.mono kr ?_
  rintro e w5 ⟨rfl, hw⟩
  rw [hw, errV_zero rfl]
  clear hw w5 kr
  have k0 := fun W => same_yes 0 W (by decide) (by decide)
  rw [errV_zero rfl] at k0
  have K0 : Hid (∀ W, Calls _ _ _ W _) := k0
  clear k0
  have hz40 : (⟨(padD xy).toArray⟩ : ByteArray).size = 40 := by kernel_rfl
  have hx2 : ((⟨(padD xy).toArray⟩ : ByteArray).extract 0 2) = ⟨#[120, 121]⟩ := by kernel_rfl
  generalize (⟨(padD xy).toArray⟩ : ByteArray) = S at *
  go_wp2_with fail
  refine Calls.mono (K0.out _) ?_
  rintro e w6 ⟨rfl, hw⟩
  rw [hw]
  clear hw w6
  go_wp2_with fail
  refine Calls.mono (K0.out _) ?_
  rintro e w6 ⟨rfl, hw⟩
  rw [hw]
  clear hw w6
  go_wp2_with fail
  refine Calls.mono (K0.out _) ?_
  rintro e w6 ⟨rfl, hw⟩
  rw [hw]
  clear hw w6
  have ks := sectors_any _ spun3 w4 HD4.out
  rw [spun_len] at ks
  have KS : Hid _ := ks
  clear ks
  go_wp2_with fail
  refine Calls.mono KS.out ?_
  rintro e w6 ⟨rfl, hw⟩
  rw [hw]
  clear hw w6
  go_wp2
  go_ret
  exact ⟨rfl, HB4.out⟩
end Go.Proofs.Ytihnghnafpgdfab
