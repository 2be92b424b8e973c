/-
  THE WALKS OF shelf.Get AND OF SameFiles.
-/
import Derived.Test.YtihnghnafpgdfabShelfGet
namespace Go.Proofs.Ytihnghnafpgdfab
open Go.RowKit
set_option linter.unusedVariables false
set_option linter.unusedSimpArgs false

set_option maxRecDepth 100000 in
set_option maxHeartbeats 1000000 in
theorem get_any (a : Option Addr) (cap : Nat) (l : List Fi) (name : ByteArray) (w : World) (hg : Good l) (hc : Cells w a l) :
    Calls Try.prog 71 #[.slice a l.length cap, .string name] w fun e w' => e = .returned (getV (getF l name)) ∧ Below w.heap.size w w' := by
  have HC : Hid (Cells w a l) := hc
  have h8 := hg.few
  have HG : Hid (Good l) := hg
  clear hc hg
  cases hh : hasF l name
  · have hget := getF_hasnt HG.out hh
    rw [hget]
    clear hget
    have HH : Hid (hasF l name = false) := hh
    clear hh
    go_enter Try.func71, Try.ntmps71
    go_wp2_with fail
    refine (place_any a cap l name _ (by omega) (by exact HC.out.alloc _) (HG.out.mono name)).mono ?_
    rintro e w1 ⟨rfl, hb⟩
    rw [HH.out]
    have hz : w.heap.size < w1.heap.size := by have := hb.size; simp at this; omega
    obtain ⟨hcc, hff⟩ := bcell' hb
    have hb' : Below w.heap.size w w1 := ((Below.refl _ _).alloc (Nat.le_refl _) _).trans (hb.mono (by simp))
    have HB : Hid (Below w.heap.size w w1) := hb'
    clear hb hb'
    go_wp2
    refine bodyPost_ret (v := .tuple #[.agg #[.string ⟨#[]⟩, .string ⟨#[]⟩, .int .i64 0], .bool false]) (by simp [results, Try.results71, go_sem, hcc, hz]) rfl ⟨rfl, ?_⟩
    exact ((HB.out.setCell (Nat.le_refl _) _).setCell (Nat.le_refl _) _).setCell (Nat.le_refl _) _
  · obtain ⟨hp, hnm⟩ := hasF_name hh
    clear hnm
    have hget := getF_has HG.out hh hp
    rw [hget]
    clear hget
    have HH : Hid (hasF l name = true) := hh
    clear hh
    obtain ⟨b, off, rfl, c0, c1, c2⟩ := HC.out _ hp
    have hbl : b < w.heap.size := World.block_lt_of_cell? _ _ c0
    go_enter Try.func71, Try.ntmps71
    go_wp2_with fail
    refine (place_any _ cap l name _ (by omega) (by exact HC.out.alloc _) (HG.out.mono name)).mono ?_
    rintro e w1 ⟨rfl, hb⟩
    rw [HH.out]
    have hz : w.heap.size < w1.heap.size := by have := hb.size; simp at this; omega
    obtain ⟨hcc, hff⟩ := bcell' hb
    have hb' : Below w.heap.size w w1 := ((Below.refl _ _).alloc (Nat.le_refl _) _).trans (hb.mono (by simp))
    have HB : Hid (Below w.heap.size w w1) := hb'
    clear hb hb'
    go_wp2
    refine bodyPost_ret (v := .tuple #[.agg #[.string l[posF l name].n, .string l[posF l name].t, .int .i64 l[posF l name].k], .bool true]) (by simp [results, Try.results71, go_sem, hcc, hz]) rfl ⟨rfl, ?_⟩
    exact ((HB.out.setCell (Nat.le_refl _) _).setCell (Nat.le_refl _) _).setCell (Nat.le_refl _) _

theorem stood : Try.prog.stoodInHeld 41 = false := by kernel_rfl
theorem run_equal_file (a b c d : ByteArray) (k j : Int) (w : World) : (Op.equalIn 10000 41 (.agg #[.string a, .string b, .int .i64 k]) (.agg #[.string c, .string d, .int .i64 j])).run Try.prog w = .ok ((a.toList == c.toList) && ((b.toList == d.toList) && (k == j))) w := by
  have h := run_equalIn_agg (P := Try.prog) w 9999 41 #[.string a, .string b, .int .i64 k] #[.string c, .string d, .int .i64 j] (by kernel_rfl) stood
  rw [h]
  simp [go_sem, Op.eqFields, Program.fieldsOf, Try.underlying41]
  by_cases h1 : a.toList = c.toList <;> by_cases h2 : b.toList = d.toList <;> by_cases h3 : k = j <;> simp [h1, h2, h3]

/-- Are two files the same? -/
def eqFi (f g : Fi) : Bool := (f.n.toList == g.n.toList) && ((f.t.toList == g.t.toList) && (f.k == g.k))
theorem eqFi_iff (f g : Fi) : eqFi f g = true ↔ f = g := by
  constructor
  · intro h
    simp only [eqFi, Bool.and_eq_true, beq_iff_eq] at h
    exact Fi.ext' (toList_inj h.1) (toList_inj h.2.1) h.2.2
  · rintro rfl
    simp [eqFi]
theorem run_neq_file (f g : Fi) (w : World) : (binOp .neq 41 (.agg #[.string f.n, .string f.t, .int .i64 f.k]) (.agg #[.string g.n, .string g.t, .int .i64 g.k])).run Try.prog w = .ok (.bool (!eqFi f g)) w := by
  rw [run_neq_struct, run_equal_file]; rfl
theorem run_eql_file (f g : Fi) (w : World) : (binOp .eql 41 (.agg #[.string f.n, .string f.t, .int .i64 f.k]) (.agg #[.string g.n, .string g.t, .int .i64 g.k])).run Try.prog w = .ok (.bool (eqFi f g)) w := by
  rw [run_eql_struct, run_equal_file]; rfl
def sameL (l m : List Fi) : Bool := decide (l.length = m.length) && (List.range l.length).all (fun i => match l[i]?, m[i]? with | some f, some g => eqFi f g | _, _ => false)
theorem sameL_iff (l m : List Fi) : sameL l m = true ↔ l = m := by
  constructor
  · intro h
    simp only [sameL, Bool.and_eq_true, decide_eq_true_eq, List.all_eq_true, List.mem_range] at h
    apply List.ext_getElem h.1
    intro i h1 h2
    have := h.2 i h1
    rw [List.getElem?_eq_getElem h1, List.getElem?_eq_getElem h2] at this
    exact (eqFi_iff _ _).1 this
  · rintro rfl
    simp only [sameL, decide_true, Bool.true_and, List.all_eq_true, List.mem_range]
    intro i h1
    rw [List.getElem?_eq_getElem h1]
    exact (eqFi_iff _ _).2 rfl
theorem sameL_self (l : List Fi) : sameL l l = true := (sameL_iff l l).2 rfl
theorem sameL_len {l m : List Fi} (h : ¬ l.length = m.length) : sameL l m = false := by
  rw [Bool.eq_false_iff]; intro e; exact h (by rw [(sameL_iff l m).1 e])
theorem sameL_at {l m : List Fi} {k : Nat} (h1 : k < l.length) (h2 : k < m.length) (h : eqFi l[k] m[k] = false) : sameL l m = false := by
  rw [Bool.eq_false_iff]; intro e
  have := (sameL_iff l m).1 e
  subst this
  rw [(eqFi_iff _ _).2 rfl] at h
  exact absurd h (by simp)
theorem sameL_all {l m : List Fi} (hl : l.length = m.length) (h : ∀ i (h1 : i < l.length) (h2 : i < m.length), eqFi l[i] m[i] = true) : sameL l m = true := by
  rw [sameL_iff]
  apply List.ext_getElem hl
  intro i h1 h2
  exact (eqFi_iff _ _).1 (h i h1 h2)

set_option maxRecDepth 100000 in
set_option maxHeartbeats 1000000 in
theorem sameFiles_any (a a' : Option Addr) (cap cap' : Nat) (l m : List Fi) (w : World) (hl : l.length ≤ 1000) (hm : m.length ≤ 1000) (hc : Cells w a l) (hc' : Cells w a' m) :
    Calls Try.prog 16 #[.slice a l.length cap, .slice a' m.length cap'] w fun e w' => e = .returned (.bool (sameL l m)) ∧ ∃ n, w' = w.drewN n := by
  have HC : Hid (Cells w a l) := hc
  have HC' : Hid (Cells w a' m) := hc'
  clear hc hc'
  by_cases hlen : l.length = m.length
  · have hne : ((l.length : Int) != (m.length : Int)) = false := by simp [hlen]
    have HL : Hid (l.length = m.length) := hlen
    clear hlen
    go_enter Try.func16, Try.ntmps16
    go_wp2_with fail
    go_loopw [5] (fun i wr => ∃ k n : Nat, k ≤ l.length ∧ i = .int .i64 k ∧ wr = w.drewN n ∧ ∀ i (h1 : i < l.length) (h2 : i < m.length), i < k → eqFi l[i] m[i] = true) (fun i _ => l.length - (intOf i).toNat)
    case atStart => exact ⟨0, 0, Nat.zero_le _, rfl, rfl, fun i h1 h2 h => absurd h (Nat.not_lt_zero _)⟩
    case round =>
      obtain ⟨k, n, hk, rfl, rfl, hall⟩ := hrel
      have Hall : Hid (∀ i (h1 : i < l.length) (h2 : i < m.length), i < k → eqFi l[i] m[i] = true) := hall
      clear hall
      by_cases hlt : k < l.length
      · have hlt2 : k < m.length := by have := HL.out; omega
        obtain ⟨b, off, rfl, c0, c1, c2⟩ := HC.out k hlt
        obtain ⟨b', off', rfl, d0, d1, d2⟩ := HC'.out k hlt2
        have hq := fun w => run_neq_file l[k] m[k] w
        cases he : eqFi l[k] m[k]
        · go_wp2
          go_quiet (fail)
          go_wp2
          go_ret
          exact ⟨ret_bool (sameL_at hlt hlt2 he).symm, n + nq, by simp⟩
        · go_wp2
          go_quiet (fail)
          go_wp2
          refine ⟨⟨k + 1, _, by omega, by go_num, rfl, fun i h1 h2 h => ?_⟩, by simp [intOf]; omega⟩
          rcases Nat.lt_or_ge i k with h3 | h3
          · exact Hall.out i h1 h2 h3
          · have e : i = k := by omega
            subst e
            exact he
      · go_wp2
        go_ret
        exact ⟨ret_bool (sameL_all HL.out (fun i h1 h2 => Hall.out i h1 h2 (by omega))).symm, n, rfl⟩
  · have hne : ((l.length : Int) != (m.length : Int)) = true := by rw [bne_iff_ne]; omega
    go_enter Try.func16, Try.ntmps16
    go_wp2
    go_ret
    exact ⟨ret_bool (sameL_len hlen).symm, 0, rfl⟩

end Go.Proofs.Ytihnghnafpgdfab
