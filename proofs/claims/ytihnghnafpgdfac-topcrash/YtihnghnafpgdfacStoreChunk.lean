/-
  BYTES IN PIECES OF A SECTOR: slices.Chunk, and the function that it hands back.
-/
import Derived.Test.YtihnghnafpgdfacRangeBox
import Derived.Test.YtihnghnafpgdfacStoreText
import Derived.Sort.LoopGhostIn
namespace Go.Proofs.Ytihnghnafpgdfac
open Go Go.RowKit Go.BigFrame
set_option linter.unusedVariables false
set_option linter.unusedSimpArgs false
attribute [local go_sem] Oper.semAt_some

/-- A region comes to its end. -/
def EndsOnly (K : Act → World → Prop) : Exit → Act → World → Prop
  | .normal, a, w => K a w
  | _, _, _ => False
theorem wp_ends {P : Program} {c : Code} {K : Act → World → Prop} {Q : Exit → Act → World → Prop} {a : Act} {w : World} (h : c.wp P (EndsOnly K) a w) : c.wp P (Exit.then K Q) a w :=
  wp_mono h (fun e a w h => by cases e <;> first | exact h | exact h.elim)
theorem range_succ' (i : Nat) : List.range i ++ [i] = List.range (i + 1) := by rw [List.range_succ]
theorem range_prefix {i k : Nat} (h : i ≤ k) : List.range i <+: List.range k := by
  refine ⟨(List.range k).drop i, ?_⟩
  have : List.range i = (List.range k).take i := by rw [List.take_range, Nat.min_eq_left h]
  rw [this, List.take_append_drop]
theorem range_at {pre : List Nat} {x k : Nat} (h : pre ++ [x] <+: List.range k) : pre = List.range x ∧ x < k := by
  have hl := h.length_le
  rw [List.length_append, List.length_range] at hl
  have e := List.prefix_iff_eq_take.1 h
  rw [List.take_range, List.length_append, Nat.min_eq_left (by simpa using hl), List.length_singleton, List.range_succ] at e
  obtain ⟨e1, e2⟩ := List.append_inj' e rfl
  have e3 : x = pre.length := by simpa using e2
  refine ⟨by rw [e3]; exact e1, ?_⟩
  simp at hl; omega

set_option maxRecDepth 100000 in
set_option maxHeartbeats 2000000 in
theorem chunk1_stops (n Bs Bn g : Nat) (hn : 1 ≤ n) (k C : Nat) (hk : k ≤ 1000) (hC : 40 * k ≤ C) (w : World) :
    SeqBox n Try.prog 80 #[.pointer (some ⟨Bs, 0, none⟩), .pointer (some ⟨Bn, 0, none⟩)] (fun i : Nat => #[Value.slice (some ⟨g, 40 * i, none⟩) 40 40]) (fun b => b = Bs ∨ b = Bn)
      (fun W => W.heap[Bs]? = some (.cells #[.slice (some ⟨g, 0, none⟩) (40 * k) C] 109 (0, 0)) ∧ W.heap[Bn]? = some (.cells #[.int .i64 40] 3 (0, 0))) (fun xs => xs = List.range k) (fun pre => pre <+: List.range k) w := fun l J Jx W hG hW hJ hJx hY h0 => by
  have HY : Hid _ := hY
  have HJ : Hid _ := hJ
  obtain ⟨g1, g2⟩ := hG
  obtain ⟨N, hN⟩ : ∃ N, N = 40 * k := ⟨_, rfl⟩
  rw [← hN] at g1 hC
  have HN : Hid (N = 40 * k) := hN
  have hN4 : N ≤ 40000 := by omega
  clear hY hJ hJx hN
  refine callsIn_of_wp Try.func80 rfl trivial ?_ rfl
  simp only [Try.ntmps80, List.size_toArray, List.length_cons, List.length_nil, Nat.reduceAdd, Nat.reduceSub, Array.replicate_succ, Array.replicate_zero, List.push_toArray, List.append_toArray, List.nil_append, List.cons_append]
  gi_wp2
  gi_loopg [4] (k + 1) (fun kx vi wr => ∃ i j : Nat, vi = .int .i64 j ∧ i ≤ k ∧ k - i ≤ kx ∧ Hid (j = 40 * i) ∧ j ≤ N ∧ Hid (wr.heap[Bs]? = some (.cells #[.slice (some ⟨g, 0, none⟩) N C] 109 (0, 0)) ∧ wr.heap[Bn]? = some (.cells #[.int .i64 40] 3 (0, 0))) ∧ Hid (J (List.range i) wr))
  case atStart => exact ⟨0, 0, rfl, by omega, by omega, rfl, by omega, ⟨g1, g2⟩, h0⟩
  case round =>
    obtain ⟨i, j, rfl, hi, hix, HJJ, hjn, HB, HJI⟩ := hrel
    have cs : wr.cell? ⟨Bs, 0, none⟩ = some (.slice (some ⟨g, 0, none⟩) N C) := by rw [cell_block HB.out.1]; rfl
    have cn : wr.cell? ⟨Bn, 0, none⟩ = some (.int .i64 40) := by rw [cell_block HB.out.2]; rfl
    by_cases hlt : i < k
    · have hjlt : (j : Int) < (N : Int) := by have := HJJ.out; have := HN.out; omega
      have hj40 : j + 40 ≤ N := by have := HJJ.out; have := HN.out; omega
      have hmin : min (40 : Int) ((N - j : Nat) : Int) = 40 := by omega
      have hto : ((j : Int) + 40).toNat = j + 40 := by omega
      gi_wp2
      refine wpIn_wide.2 ?_
      go_quiet (fail)
      have hgr : wr.grownBy (wr.drewN nq) none := ⟨rfl, rfl, rfl, Nat.le_refl _, fun _ _ _ => rfl⟩
      obtain ⟨fn, tmps, assign, body, hyy, hR⟩ := HY.out (List.range i) i (wr.drewN nq) (HJ.out.grow _ _ _ HJI.out hgr) (by rw [range_succ']; exact range_prefix hlt)
      rw [← HJJ.out] at hyy
      rw [range_succ'] at hR
      have HR : Hid _ := hR
      clear hR
      gi_wp2
      refine RoundIn.mono HR.out ?_
      rintro e W3 (⟨rfl, hj3, hb3⟩ | ⟨rfl, hx3⟩)
      · have HJ3 : Hid (J (List.range (i + 1)) W3) := hj3
        have HB3 : Hid (W3.heap[Bs]? = some (.cells #[.slice (some ⟨g, 0, none⟩) N C] 109 (0, 0)) ∧ W3.heap[Bn]? = some (.cells #[.int .i64 40] 3 (0, 0))) := ⟨(hb3 Bs (.inl rfl)).trans HB.out.1, (hb3 Bn (.inr rfl)).trans HB.out.2⟩
        have cn3 : W3.cell? ⟨Bn, 0, none⟩ = some (.int .i64 40) := by rw [cell_block HB3.out.2]; rfl
        clear hj3 hb3
        gi_wp2
        gi_roundg (k - (i + 1))
        case measure => omega
        case rel => exact ⟨i + 1, j + 40, by go_num, by omega, Nat.le_refl _, (by show _ = _; rw [HJJ.out]; omega), by omega, HB3, HJ3⟩
      · have HX3 : Hid (Jx (List.range (i + 1)) W3) := hx3
        clear hx3
        gi_wp2
        refine bodyPost_ret (results_none rfl _ _ _) rfl ?_
        exact ⟨⟨_, rfl⟩, .inr ⟨_, range_prefix hlt, HX3.out⟩⟩
    · have e : i = k := by omega
      have hge : ¬ (j : Int) < (N : Int) := by have := HJJ.out; have := HN.out; omega
      have HJK : Hid (J (List.range k) wr) := by rw [← e]; exact HJI.out
      gi_wp2
      go_end0
      first | exact ⟨⟨_, rfl⟩, .inl ⟨_, rfl, HJK.out⟩⟩ | exact ⟨⟨_, rfl⟩, .inl HJK.out⟩

set_option maxRecDepth 100000 in
theorem chunk_any (v : Value) (hv : ∃ a n c, v = .slice a n c) (w : World) :
    Calls Try.prog 58 #[v, .int .i64 40] w fun e w' => e = .returned (.func (.func 80) #[] #[.pointer (some ⟨w.heap.size, 0, none⟩), .pointer (some ⟨w.heap.size + 1, 0, none⟩)]) ∧ w' = (w.alloc (.cells #[v] 109 (0, 0))).alloc (.cells #[.int .i64 40] 3 (0, 0)) := by
  obtain ⟨a, n, c, rfl⟩ := hv
  go_enter Try.func58, Try.ntmps58
  go_wp2
  go_ret
  exact ⟨rfl, rfl⟩
end Go.Proofs.Ytihnghnafpgdfac
