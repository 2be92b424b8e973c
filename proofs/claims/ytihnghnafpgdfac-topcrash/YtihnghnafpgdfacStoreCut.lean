/-
  A TEXT OF SECTORS IS CUT: cut, and the function that it hands back.
-/
import Derived.Test.YtihnghnafpgdfacRangeBox
import Derived.Test.YtihnghnafpgdfacStoreText
import Derived.Sort.LoopGhostIn
namespace Go.Proofs.Ytihnghnafpgdfac
open Go Go.RowKit Go.BigFrame
set_option linter.unusedVariables false
set_option linter.unusedSimpArgs false
attribute [local go_sem] Oper.semAt_some

/-- What is cut out of a text that begins with a sector. -/
def cutOf (t : ByteArray) : ByteArray := t.extract 1 (min (1 + (byteAt t 0 : Int)) 40).toNat
/-- What is behind i sectors. -/
def restT (T : ByteArray) (i : Nat) : ByteArray := T.extract (40 * i) T.size
def cutL (T : ByteArray) (k : Nat) : List ByteArray := (List.range k).map fun i => cutOf (restT T i)
theorem cutL_length (T : ByteArray) (k : Nat) : (cutL T k).length = k := by simp [cutL]
theorem cutL_succ (T : ByteArray) (i : Nat) : cutL T (i + 1) = cutL T i ++ [cutOf (restT T i)] := by simp [cutL, List.range_succ]
theorem restT_size {T : ByteArray} {k i : Nat} (h : T.size = 40 * k) (hi : i ≤ k) : (restT T i).size = 40 * (k - i) := by
  unfold restT
  rw [ByteArray.size_extract]
  omega
theorem restT_next {T : ByteArray} {k i : Nat} (h : T.size = 40 * k) (hi : i < k) : (restT T i).extract 40 (restT T i).size = restT T (i + 1) := by
  rw [restT_size h (by omega)]
  unfold restT
  rw [ByteArray.extract_extract]
  congr 1 <;> omega
theorem cutL_prefix (T : ByteArray) {i k : Nat} (h : i ≤ k) : cutL T i <+: cutL T k := by
  refine ⟨(cutL T k).drop i, ?_⟩
  have : cutL T i = (cutL T k).take i := by
    unfold cutL
    rw [← List.map_take, List.take_range, Nat.min_eq_left h]
  rw [this, List.take_append_drop]

set_option maxRecDepth 100000 in
set_option maxHeartbeats 2000000 in
theorem cut1_stops (n B : Nat) (hn : 1 ≤ n) (T : ByteArray) (k : Nat) (hT : T.size = 40 * k) (hk : k ≤ 1000) (w : World) :
    SeqBox n Try.prog 115 #[.pointer (some ⟨B, 0, none⟩)] (fun s : ByteArray => #[Value.string s]) (fun b => b = B) (fun W => W.heap[B]? = some (.cells #[.string T] 9 (0, 0))) (fun xs => xs = cutL T k) (fun pre => pre <+: cutL T k) w := fun l J Jx W hG hW hJ hJx hY h0 => by
  have HY : Hid _ := hY
  have HJ : Hid _ := hJ
  have HT : Hid (T.size = 40 * k) := hT
  clear hY hJ hJx hT
  refine callsIn_of_wp Try.func115 rfl trivial ?_ rfl
  simp only [Try.ntmps115, List.size_toArray, List.length_cons, List.length_nil, Nat.reduceAdd, Nat.reduceSub, Array.replicate_succ, Array.replicate_zero, List.push_toArray, List.append_toArray, List.nil_append, List.cons_append]
  gi_wp2
  gi_loopg [3] (k + 1) (fun kx v3 wr => ∃ i : Nat, i ≤ k ∧ k - i ≤ kx ∧ Hid (wr.heap[B]? = some (.cells #[.string (restT T i)] 9 (0, 0))) ∧ Hid (J (cutL T i) wr))
  case atStart => exact ⟨0, by omega, by omega, by show _ = _; rw [hG]; unfold restT; simp, h0⟩
  case round =>
    obtain ⟨i, hi, hix, HB, HJI⟩ := hrel
    obtain ⟨t, ht⟩ : ∃ t, t = restT T i := ⟨_, rfl⟩
    have HTI : Hid (t = restT T i) := ht
    rw [← ht] at HB
    have hts : t.size = 40 * (k - i) := by rw [ht]; exact restT_size HT.out hi
    clear ht
    have hcell : wr.cell? ⟨B, 0, none⟩ = some (.string t) := by rw [cell_block HB.out]; rfl
    by_cases hlt : i < k
    · have hne : t.toList.isEmpty = false := by
        rw [List.isEmpty_eq_false_iff]
        intro e
        have h1 : t.toList.length = 0 := by rw [e]; rfl
        rw [ba_toList, ba_len] at h1
        omega
      have hge : 40 ≤ t.size := by omega
      have hle : t.size ≤ 40000 := by omega
      clear hts
      have b0 := byteAt_eq (s := t) (i := 0) (by omega)
      have l0 := byteAt_lt t 0
      obtain ⟨fn, tmps, assign, body, hyy, hR⟩ := HY.out (cutL T i) (t.extract 1 (min (1 + (byteAt t 0 : Int)) 40).toNat) wr HJI.out (by rw [show cutL T i ++ [t.extract 1 (min (1 + (byteAt t 0 : Int)) 40).toNat] = cutL T (i + 1) by rw [cutL_succ, ← HTI.out]; rfl]; exact cutL_prefix T hlt)
      have HNX : Hid (cutL T i ++ [t.extract 1 (min (1 + (byteAt t 0 : Int)) 40).toNat] = cutL T (i + 1)) := by
        show _ = _
        rw [cutL_succ, ← HTI.out]; rfl
      rw [HNX.out] at hR
      have HR : Hid _ := hR
      clear hR
      gi_wp2
      refine RoundIn.mono HR.out ?_
      rintro e W3 (⟨rfl, hj3, hb3⟩ | ⟨rfl, hx3⟩)
      · have HJ3 : Hid (J (cutL T (i + 1)) W3) := hj3
        have hb3' : W3.heap[B]? = some (.cells #[.string t] 9 (0, 0)) := (hb3 B rfl).trans HB.out
        have HB3 : Hid (W3.heap[B]? = some (.cells #[.string t] 9 (0, 0))) := hb3'
        have hcell3 : W3.cell? ⟨B, 0, none⟩ = some (.string t) := by rw [cell_block hb3']; rfl
        have hfr3 := frozen_block hb3' 0
        have HN : Hid (t.extract 40 t.size = restT T (i + 1)) := by show _ = _; rw [HTI.out]; exact restT_next HT.out hlt
        clear hj3 hb3 hb3'
        gi_wp2
        gi_roundg (k - (i + 1))
        case measure => omega
        case rel =>
          refine ⟨i + 1, by omega, Nat.le_refl _, ?_, HJ.out.box _ _ _ _ rfl HJ3.out⟩
          have := heap_set HB3.out 0 (.string (t.extract 40 t.size))
          rw [HN.out] at this ⊢
          exact this
      · have HX3 : Hid (Jx (cutL T (i + 1)) W3) := hx3
        clear hx3
        gi_wp2
        refine bodyPost_ret (results_none rfl _ _ _) rfl ?_
        exact ⟨⟨_, rfl⟩, .inr ⟨_, cutL_prefix T hlt, HX3.out⟩⟩
    · have e : i = k := by omega
      subst e
      have he : t.toList = [] := List.eq_nil_of_length_eq_zero (by rw [ba_toList, ba_len]; omega)
      gi_wp2
      go_end0
      exact ⟨⟨_, rfl⟩, .inl ⟨_, rfl, HJI.out⟩⟩

set_option maxRecDepth 100000 in
theorem storeCut_any (T : ByteArray) (w : World) :
    Calls Try.prog 109 #[.string T] w fun e w' => e = .returned (.func (.func 115) #[] #[.pointer (some ⟨w.heap.size, 0, none⟩)]) ∧ w' = w.alloc (.cells #[.string T] 9 (0, 0)) := by
  go_enter Try.func109, Try.ntmps109
  go_wp2
  go_ret
  exact ⟨rfl, rfl⟩
end Go.Proofs.Ytihnghnafpgdfac
