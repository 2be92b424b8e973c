/-
  THE WALKS OF PACKAGE row, AND OF THE DOCUMENT's ANSWER TO CHAPTER 7: Check, Bytes, Parse.
-/
import Derived.Test.YtihnghnafpgdfabRowBase
import Derived.Laws.IdiomStrings
import Derived.Shelf.SlSortCmp.KitK
namespace Go.Proofs.Ytihnghnafpgdfab
open Go.RowKit
set_option linter.unusedVariables false
set_option linter.unusedSimpArgs false

abbrev Ch.v (c : Ch) : Value := .agg #[.string c.key, .string c.val, .bool c.gone]
/-- What G1 says of a change, by a number. -/
def changeF (c : Ch) : Int := if c.key.size = 0 ∨ c.gone = true ∧ ¬ c.val.size = 0 then 3 else if 8 < c.key.size ∨ 16 < c.val.size then 2 else 0
theorem changeF_rng (c : Ch) : 0 ≤ changeF c ∧ changeF c ≤ 100 := by unfold changeF; split <;> (try split) <;> omega
theorem empty_of_size {s : ByteArray} (h : s.size = 0) : s = ⟨#[]⟩ := by
  have : s.data = #[] := Array.eq_empty_of_size_eq_zero h
  cases s; simp_all

theorem changeF_3 {c : Ch} (h : c.key.size = 0 ∨ c.gone = true ∧ ¬ c.val.size = 0) : changeF c = 3 := by unfold changeF; rw [if_pos h]
theorem changeF_2 {c : Ch} (h1 : ¬ c.key.size = 0) (h2 : ¬ (c.gone = true ∧ ¬ c.val.size = 0)) (h3 : 8 < c.key.size ∨ 16 < c.val.size) : changeF c = 2 := by
  unfold changeF
  rw [if_neg (by rintro (h | h); exact h1 h; exact h2 h), if_pos h3]
theorem changeF_0 {c : Ch} (h1 : ¬ c.key.size = 0) (h2 : ¬ (c.gone = true ∧ ¬ c.val.size = 0)) (h3 : ¬ 8 < c.key.size) (h4 : ¬ 16 < c.val.size) : changeF c = 0 := by
  unfold changeF
  rw [if_neg (by rintro (h | h); exact h1 h; exact h2 h), if_neg (by omega)]
theorem changeF_good {c : Ch} (h : changeF c = 0) : ¬ c.key.size = 0 ∧ (c.gone = true → c.val.size = 0) ∧ c.key.size ≤ 8 ∧ c.val.size ≤ 16 := by
  unfold changeF at h
  split at h
  · omega
  · split at h
    · omega
    · rename_i h1 h2
      refine ⟨fun e => h1 (.inl e), fun e => ?_, by omega, by omega⟩
      by_cases e2 : c.val.size = 0
      · exact e2
      · exact absurd (.inr ⟨e, e2⟩) h1

set_option maxRecDepth 100000 in
set_option maxHeartbeats 1000000 in
theorem rowCheck_any (c : Ch) (w : World) :
    Calls Try.prog 45 #[c.v] w fun e w' => e = .returned (errV (changeF c)) ∧ Below w.heap.size w w' := by
  obtain ⟨key, val, gone⟩ := c
  by_cases k0 : key.size = 0
  · have HF : Hid (changeF ⟨key, val, gone⟩ = 3) := changeF_3 (.inl k0)
    have e0 := empty_of_size k0
    subst e0
    go_enter Try.func45, Try.ntmps45
    go_wp2
    go_ret
    exact ⟨by rw [HF.out]; rfl, by repeat (first | exact Below.refl _ _ | refine Below.drew ?_ | refine Below.alloc ?_ (by simp) _)⟩
  · have hne : key.toList.isEmpty = false := isEmpty_false key k0
    by_cases v0 : val.size = 0
    · have e0 := empty_of_size v0
      by_cases k8 : 8 < key.size
      · have HF : Hid (changeF ⟨key, val, gone⟩ = 2) := changeF_2 k0 (fun h => h.2 v0) (.inl k8)
        subst e0
        cases gone
        all_goals
          go_enter Try.func45, Try.ntmps45
          go_wp2
          go_ret
          exact ⟨by rw [HF.out]; rfl, by repeat (first | exact Below.refl _ _ | refine Below.drew ?_ | refine Below.alloc ?_ (by simp) _)⟩
      · have HF : Hid (changeF ⟨key, val, gone⟩ = 0) := changeF_0 k0 (fun h => h.2 v0) k8 (by show ¬ 16 < val.size; omega)
        subst e0
        cases gone
        all_goals
          go_enter Try.func45, Try.ntmps45
          go_wp2
          go_ret
          exact ⟨by rw [HF.out]; rfl, by repeat (first | exact Below.refl _ _ | refine Below.drew ?_ | refine Below.alloc ?_ (by simp) _)⟩
    · have hnv : val.toList.isEmpty = false := isEmpty_false val v0
      cases gone
      · by_cases k8 : 8 < key.size
        · have HF : Hid (changeF ⟨key, val, false⟩ = 2) := changeF_2 k0 (fun h => by cases h.1) (.inl k8)
          go_enter Try.func45, Try.ntmps45
          go_wp2
          go_ret
          exact ⟨by rw [HF.out]; rfl, by repeat (first | exact Below.refl _ _ | refine Below.drew ?_ | refine Below.alloc ?_ (by simp) _)⟩
        · by_cases v16 : 16 < val.size
          · have HF : Hid (changeF ⟨key, val, false⟩ = 2) := changeF_2 k0 (fun h => by cases h.1) (.inr v16)
            go_enter Try.func45, Try.ntmps45
            go_wp2
            go_ret
            exact ⟨by rw [HF.out]; rfl, by repeat (first | exact Below.refl _ _ | refine Below.drew ?_ | refine Below.alloc ?_ (by simp) _)⟩
          · have HF : Hid (changeF ⟨key, val, false⟩ = 0) := changeF_0 k0 (fun h => by cases h.1) k8 v16
            go_enter Try.func45, Try.ntmps45
            go_wp2
            go_ret
            exact ⟨by rw [HF.out]; rfl, by repeat (first | exact Below.refl _ _ | refine Below.drew ?_ | refine Below.alloc ?_ (by simp) _)⟩
      · have HF : Hid (changeF ⟨key, val, true⟩ = 3) := changeF_3 (.inr ⟨rfl, v0⟩)
        go_enter Try.func45, Try.ntmps45
        go_wp2
        go_ret
        exact ⟨by rw [HF.out]; rfl, by repeat (first | exact Below.refl _ _ | refine Below.drew ?_ | refine Below.alloc ?_ (by simp) _)⟩

set_option maxRecDepth 100000 in
set_option maxHeartbeats 1000000 in
theorem changeFault_any (c : Ch) (w : World) :
    Calls Try.prog 46 #[c.v] w fun e w' => e = .returned (.int .i64 (changeF c)) ∧ Below w.heap.size w w' := by
  obtain ⟨key, val, gone⟩ := c
  by_cases k0 : key.size = 0
  · have HF : Hid (changeF ⟨key, val, gone⟩ = 3) := changeF_3 (.inl k0)
    have e0 := empty_of_size k0
    subst e0
    go_enter Try.func46, Try.ntmps46
    go_wp2
    go_ret
    exact ⟨by rw [HF.out]; rfl, by repeat (first | exact Below.refl _ _ | refine Below.drew ?_ | refine Below.alloc ?_ (by simp) _)⟩
  · have hne : key.toList.isEmpty = false := isEmpty_false key k0
    by_cases v0 : val.size = 0
    · have e0 := empty_of_size v0
      by_cases k8 : 8 < key.size
      · have HF : Hid (changeF ⟨key, val, gone⟩ = 2) := changeF_2 k0 (fun h => h.2 v0) (.inl k8)
        subst e0
        cases gone
        all_goals
          go_enter Try.func46, Try.ntmps46
          go_wp2
          go_ret
          exact ⟨by rw [HF.out]; rfl, by repeat (first | exact Below.refl _ _ | refine Below.drew ?_ | refine Below.alloc ?_ (by simp) _)⟩
      · have HF : Hid (changeF ⟨key, val, gone⟩ = 0) := changeF_0 k0 (fun h => h.2 v0) k8 (by show ¬ 16 < val.size; omega)
        subst e0
        cases gone
        all_goals
          go_enter Try.func46, Try.ntmps46
          go_wp2
          go_ret
          exact ⟨by rw [HF.out]; rfl, by repeat (first | exact Below.refl _ _ | refine Below.drew ?_ | refine Below.alloc ?_ (by simp) _)⟩
    · have hnv : val.toList.isEmpty = false := isEmpty_false val v0
      cases gone
      · by_cases k8 : 8 < key.size
        · have HF : Hid (changeF ⟨key, val, false⟩ = 2) := changeF_2 k0 (fun h => by cases h.1) (.inl k8)
          go_enter Try.func46, Try.ntmps46
          go_wp2
          go_ret
          exact ⟨by rw [HF.out]; rfl, by repeat (first | exact Below.refl _ _ | refine Below.drew ?_ | refine Below.alloc ?_ (by simp) _)⟩
        · by_cases v16 : 16 < val.size
          · have HF : Hid (changeF ⟨key, val, false⟩ = 2) := changeF_2 k0 (fun h => by cases h.1) (.inr v16)
            go_enter Try.func46, Try.ntmps46
            go_wp2
            go_ret
            exact ⟨by rw [HF.out]; rfl, by repeat (first | exact Below.refl _ _ | refine Below.drew ?_ | refine Below.alloc ?_ (by simp) _)⟩
          · have HF : Hid (changeF ⟨key, val, false⟩ = 0) := changeF_0 k0 (fun h => by cases h.1) k8 v16
            go_enter Try.func46, Try.ntmps46
            go_wp2
            go_ret
            exact ⟨by rw [HF.out]; rfl, by repeat (first | exact Below.refl _ _ | refine Below.drew ?_ | refine Below.alloc ?_ (by simp) _)⟩
      · have HF : Hid (changeF ⟨key, val, true⟩ = 3) := changeF_3 (.inr ⟨rfl, v0⟩)
        go_enter Try.func46, Try.ntmps46
        go_wp2
        go_ret
        exact ⟨by rw [HF.out]; rfl, by repeat (first | exact Below.refl _ _ | refine Below.drew ?_ | refine Below.alloc ?_ (by simp) _)⟩

/-- The bytes of a change. -/
def goneB (c : Ch) : UInt8 := if c.gone = true then 1 else 0
def bytesC (c : Ch) : List UInt8 := goneB c :: UInt8.ofNat c.key.size :: (c.key.toList ++ c.val.toList)

theorem two_bytes (w : World) (n : Nat) (b : UInt8) (bi : Int) (hb : bi = (b.toNat : Int)) (hn : n < 256) (T : TypeId) : ∀ j (hj : j < [b, UInt8.ofNat n].length), (w.alloc (Obj.cells #[.int .u8 bi, .int .u8 n] T)).cell? ((⟨w.heap.size, 0, none⟩ : Addr).add j) = some (.int .u8 ([b, UInt8.ofNat n][j].toNat : Int)) := by
  intro j hj
  match j, hj with
  | 0, _ => subst hb; simp [Addr.add]
  | 1, _ =>
    have : (UInt8.ofNat n).toNat = n := by simp; omega
    simp [Addr.add, this]
theorem bytes_join (a b : UInt8) (x y : ByteArray) : (⟨#[a, b]⟩ : ByteArray) ++ x ++ y = ⟨(a :: b :: (x.toList ++ y.toList)).toArray⟩ := by
  rw [ByteArray.toList_eq, ByteArray.toList_eq]
  apply ByteArray.ext
  simp [ByteArray.data_append]
theorem ret_text {a b : ByteArray} (h : a = b) (v : Value) : Ending.returned (.tuple #[.string a, v]) = .returned (.tuple #[.string b, v]) := by rw [h]

set_option maxRecDepth 100000 in
set_option maxHeartbeats 1000000 in
theorem rowBytes_any (c : Ch) (w : World) :
    Calls Try.prog 41 #[c.v] w fun e w' => e = .returned (.tuple #[.string (if changeF c = 0 then ⟨(bytesC c).toArray⟩ else ⟨#[]⟩), errV (changeF c)]) ∧ Below w.heap.size w w' := by
  by_cases hf : changeF c = 0
  · obtain ⟨g1, g2, g3, g4⟩ := changeF_good hf
    have HF : Hid (changeF c = 0) := hf
    clear hf
    cases hg : c.gone
    · have HG : Hid (c.gone = false) := hg
      have hcon := rowCheck_any c (w.alloc (Obj.cells #[Value.string c.key, Value.string c.val, Value.bool false] 73))
      rw [HF.out, errV_zero rfl, Ch.v, hg] at hcon
      go_enter Try.func41, Try.ntmps41
      go_wp2_with fail
      refine Calls.mono hcon ?_
      rintro _ w1 ⟨rfl, hb⟩
      have HB : Hid (Below w.heap.size w w1) := ((Below.refl _ _).alloc (Nat.le_refl _) _).trans (hb.mono (by simp))
      have hsz := hb.size
      obtain ⟨cc, cf⟩ := bcell' hb
      simp only [World.size_alloc] at hsz
      have c0 := cc w.heap.size 0 (by simp)
      have c1 := cc w.heap.size 1 (by simp)
      have c2 := cc w.heap.size 2 (by simp)
      simp at c0 c1 c2
      have hcv := run_convert_bytes_back (P := Try.prog) (w1.alloc (Obj.cells #[.int .u8 0, .int .u8 c.key.size] 5)) 130 9 5 ⟨w1.heap.size, 0, none⟩ 2 [0, UInt8.ofNat c.key.size] (by kernel_rfl) (by kernel_rfl) (by kernel_rfl) (two_bytes w1 c.key.size 0 0 rfl (by omega) 5)
      simp only [List.length_cons, List.length_nil] at hcv
      have hlt : w.heap.size < w1.heap.size := by omega
      clear hb hcon cc cf hg
      go_wp2
      go_ret2
      refine ⟨?_, (HB.out.alloc HB.out.size _)⟩
      try rw [HF.out]
      try rw [if_pos rfl]
      rw [errV_zero rfl]
      exact ret_text (by unfold bytesC goneB; rw [HG.out]; exact bytes_join _ _ _ _) _
    · have HG : Hid (c.gone = true) := hg
      have hcon := rowCheck_any c (w.alloc (Obj.cells #[Value.string c.key, Value.string c.val, Value.bool true] 73))
      rw [HF.out, errV_zero rfl, Ch.v, hg] at hcon
      go_enter Try.func41, Try.ntmps41
      go_wp2_with fail
      refine Calls.mono hcon ?_
      rintro _ w1 ⟨rfl, hb⟩
      have HB : Hid (Below w.heap.size w w1) := ((Below.refl _ _).alloc (Nat.le_refl _) _).trans (hb.mono (by simp))
      have hsz := hb.size
      obtain ⟨cc, cf⟩ := bcell' hb
      simp only [World.size_alloc] at hsz
      have c0 := cc w.heap.size 0 (by simp)
      have c1 := cc w.heap.size 1 (by simp)
      have c2 := cc w.heap.size 2 (by simp)
      simp at c0 c1 c2
      have hcv := run_convert_bytes_back (P := Try.prog) (w1.alloc (Obj.cells #[.int .u8 1, .int .u8 c.key.size] 5)) 130 9 5 ⟨w1.heap.size, 0, none⟩ 2 [1, UInt8.ofNat c.key.size] (by kernel_rfl) (by kernel_rfl) (by kernel_rfl) (two_bytes w1 c.key.size 1 1 rfl (by omega) 5)
      simp only [List.length_cons, List.length_nil] at hcv
      have hlt : w.heap.size < w1.heap.size := by omega
      clear hb hcon cc cf hg
      go_wp2
      go_ret2
      refine ⟨?_, (HB.out.alloc HB.out.size _)⟩
      try rw [HF.out]
      try rw [if_pos rfl]
      rw [errV_zero rfl]
      exact ret_text (by unfold bytesC goneB; rw [HG.out]; exact bytes_join _ _ _ _) _
  · have HF : Hid (¬ changeF c = 0) := hf
    have HE : Hid (errV (changeF c) = .iface 118 (.int .i64 (changeF c))) := errV_pos hf
    have hcon := rowCheck_any c (w.alloc (Obj.cells #[Value.string c.key, Value.string c.val, Value.bool c.gone] 73))
    rw [HE.out] at hcon
    clear hf
    go_enter Try.func41, Try.ntmps41
    go_wp2_with fail
    refine Calls.mono hcon ?_
    rintro _ w1 ⟨rfl, hb⟩
    have HB : Hid (Below w.heap.size w w1) := ((Below.refl _ _).alloc (Nat.le_refl _) _).trans (hb.mono (by simp))
    clear hb hcon
    go_wp2
    go_ret2
    refine ⟨?_, HB.out⟩
    first | rw [if_neg HF.out, HE.out] | rw [HE.out]
    rfl

set_option maxRecDepth 100000 in
set_option maxHeartbeats 1000000 in
theorem changeBytes_any (c : Ch) (w : World) :
    Calls Try.prog 42 #[c.v] w fun e w' => e = .returned (.tuple #[.string (if changeF c = 0 then ⟨(bytesC c).toArray⟩ else ⟨#[]⟩), .int .i64 (changeF c)]) ∧ Below w.heap.size w w' := by
  by_cases hf : changeF c = 0
  · obtain ⟨g1, g2, g3, g4⟩ := changeF_good hf
    have HF : Hid (changeF c = 0) := hf
    clear hf
    cases hg : c.gone
    · have HG : Hid (c.gone = false) := hg
      have hcon := changeFault_any c (w.alloc (Obj.cells #[Value.string c.key, Value.string c.val, Value.bool false] 73))
      rw [HF.out, Ch.v, hg] at hcon
      go_enter Try.func42, Try.ntmps42
      go_wp2_with fail
      refine Calls.mono hcon ?_
      rintro _ w1 ⟨rfl, hb⟩
      have HB : Hid (Below w.heap.size w w1) := ((Below.refl _ _).alloc (Nat.le_refl _) _).trans (hb.mono (by simp))
      have hsz := hb.size
      obtain ⟨cc, cf⟩ := bcell' hb
      simp only [World.size_alloc] at hsz
      have c0 := cc w.heap.size 0 (by simp)
      have c1 := cc w.heap.size 1 (by simp)
      have c2 := cc w.heap.size 2 (by simp)
      simp at c0 c1 c2
      have hcv := run_convert_bytes_back (P := Try.prog) (w1.alloc (Obj.cells #[.int .u8 0, .int .u8 c.key.size] 5)) 130 9 5 ⟨w1.heap.size, 0, none⟩ 2 [0, UInt8.ofNat c.key.size] (by kernel_rfl) (by kernel_rfl) (by kernel_rfl) (two_bytes w1 c.key.size 0 0 rfl (by omega) 5)
      simp only [List.length_cons, List.length_nil] at hcv
      have hlt : w.heap.size < w1.heap.size := by omega
      clear hb hcon cc cf hg
      go_wp2
      go_ret2
      refine ⟨?_, (HB.out.alloc HB.out.size _)⟩
      try rw [HF.out]
      try rw [if_pos rfl]
      exact ret_text (by unfold bytesC goneB; rw [HG.out]; exact bytes_join _ _ _ _) _
    · have HG : Hid (c.gone = true) := hg
      have hcon := changeFault_any c (w.alloc (Obj.cells #[Value.string c.key, Value.string c.val, Value.bool true] 73))
      rw [HF.out, Ch.v, hg] at hcon
      go_enter Try.func42, Try.ntmps42
      go_wp2_with fail
      refine Calls.mono hcon ?_
      rintro _ w1 ⟨rfl, hb⟩
      have HB : Hid (Below w.heap.size w w1) := ((Below.refl _ _).alloc (Nat.le_refl _) _).trans (hb.mono (by simp))
      have hsz := hb.size
      obtain ⟨cc, cf⟩ := bcell' hb
      simp only [World.size_alloc] at hsz
      have c0 := cc w.heap.size 0 (by simp)
      have c1 := cc w.heap.size 1 (by simp)
      have c2 := cc w.heap.size 2 (by simp)
      simp at c0 c1 c2
      have hcv := run_convert_bytes_back (P := Try.prog) (w1.alloc (Obj.cells #[.int .u8 1, .int .u8 c.key.size] 5)) 130 9 5 ⟨w1.heap.size, 0, none⟩ 2 [1, UInt8.ofNat c.key.size] (by kernel_rfl) (by kernel_rfl) (by kernel_rfl) (two_bytes w1 c.key.size 1 1 rfl (by omega) 5)
      simp only [List.length_cons, List.length_nil] at hcv
      have hlt : w.heap.size < w1.heap.size := by omega
      clear hb hcon cc cf hg
      go_wp2
      go_ret2
      refine ⟨?_, (HB.out.alloc HB.out.size _)⟩
      try rw [HF.out]
      try rw [if_pos rfl]
      exact ret_text (by unfold bytesC goneB; rw [HG.out]; exact bytes_join _ _ _ _) _
  · have HF : Hid (¬ changeF c = 0) := hf
    have hpos : (0 : Int) < changeF c := by have := (changeF_rng c).1; omega
    have hcon := changeFault_any c (w.alloc (Obj.cells #[Value.string c.key, Value.string c.val, Value.bool c.gone] 73))
    clear hf
    go_enter Try.func42, Try.ntmps42
    go_wp2_with fail
    refine Calls.mono hcon ?_
    rintro _ w1 ⟨rfl, hb⟩
    have HB : Hid (Below w.heap.size w w1) := ((Below.refl _ _).alloc (Nat.le_refl _) _).trans (hb.mono (by simp))
    clear hb hcon
    go_wp2
    go_ret2
    refine ⟨?_, HB.out⟩
    try rw [if_neg HF.out]
    rfl

end Go.Proofs.Ytihnghnafpgdfab
