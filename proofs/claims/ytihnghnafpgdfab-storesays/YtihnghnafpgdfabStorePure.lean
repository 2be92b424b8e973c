/-
  A STORE ON A DISK, AS LISTS: what is read of what was laid.
-/
import Derived.Test.YtihnghnafpgdfabStoreCommit
namespace Go.Proofs.Ytihnghnafpgdfab
set_option linter.unusedVariables false
set_option linter.unusedSimpArgs false

theorem byteAt_baL (l : List UInt8) (i : Nat) : byteAt (baL l) i = (l.getD i 0).toNat := by unfold byteAt; rw [baL_list]
theorem appliedC_nil {rows : List Ch} (h : Rowed rows) : appliedC [] rows = rows :=
  Rowed.ext (applied_rowed Rowed.nil) h (fun k => by
    rw [applied_look k Rowed.nil, h.lastK k]
    have e : look ([] : List Ch) k = none := rfl
    rw [e, Option.or_none, h.alive_look k])
theorem readAll_bytes : ∀ {rows : List Ch}, (∀ c ∈ rows, changeF c = 0) → readAll (rows.map fun c => baL (bytesC c)) = some rows
  | [], _ => rfl
  | c :: r, h => by
    have e : readC (baL (bytesC c)) = some c := rdC_bytesC (h c (by simp))
    simp only [List.map_cons, readAll, e, readAll_bytes (rows := r) (fun x hx => h x (List.mem_cons_of_mem _ hx))]
    rfl
theorem textL_drop {rows : List Ch} (h : ∀ c ∈ rows, changeF c = 0) {i : Nat} (hi : i < rows.length) : (textL rows).drop (40 * i) = rowL rows[i] ++ textL (rows.drop (i + 1)) := by
  have e : textL rows = textL (rows.take i) ++ (rowL rows[i] ++ textL (rows.drop (i + 1))) := by
    have hs : rows.take i ++ rows[i] :: rows.drop (i + 1) = rows := by rw [← List.drop_eq_getElem_cons hi, List.take_append_drop]
    have := congrArg textL hs
    rw [← this]
    unfold textL
    simp only [List.map_append, List.map_cons, List.flatten_append, List.flatten_cons]
  have hl : (textL (rows.take i)).length = 40 * i := by
    rw [textL_length (fun c hc => h c (List.mem_of_mem_take hc)), List.length_take]; omega
  rw [e, ← hl, List.drop_left]
theorem cutL_text {rows : List Ch} (h : ∀ c ∈ rows, changeF c = 0) : cutL (baL (textL rows)) rows.length = rows.map fun c => baL (bytesC c) := by
  apply List.ext_getElem
  · simp [cutL]
  · intro i h1 h2
    have hi : i < rows.length := by simpa [cutL] using h1
    simp only [cutL, List.getElem_map, List.getElem_range]
    have hbl := bytesC_len (h rows[i] (List.getElem_mem hi))
    have hs : (baL (textL rows)).size = 40 * rows.length := by rw [baL_size, textL_length h]; omega
    have hl : (restT (baL (textL rows)) i).data.toList = rowL rows[i] ++ textL (rows.drop (i + 1)) := by
      unfold restT
      rw [extract_list, baL_list, ← textL_drop h hi, List.take_of_length_le]
      rw [List.length_drop, hs, textL_length h]
      omega
    have hb : byteAt (restT (baL (textL rows)) i) 0 = (bytesC rows[i]).length := by
      unfold byteAt
      rw [hl]
      simp [rowL]
      omega
    unfold cutOf
    rw [hb, show (min (1 + ((bytesC rows[i]).length : Int)) 40).toNat = 1 + (bytesC rows[i]).length by omega]
    apply ByteArray.ext
    apply Array.ext'
    rw [extract_list, hl, baL_list]
    have e : rowL rows[i] ++ textL (rows.drop (i + 1)) = UInt8.ofNat (bytesC rows[i]).length :: (bytesC rows[i] ++ (List.replicate (39 - (bytesC rows[i]).length) 0 ++ textL (rows.drop (i + 1)))) := by simp [rowL]
    rw [e, List.drop_one, List.tail_cons, show 1 + (bytesC rows[i]).length - 1 = (bytesC rows[i]).length by omega, List.take_left]
theorem parseT_text {rows : List Ch} (hr : Rowed rows) (h : ∀ c ∈ rows, changeF c = 0) : parseT (baL (textL rows)) rows.length = some rows := by
  unfold parseT
  rw [cutL_text h, readAll_bytes h]
  simp only
  rw [if_pos]
  exact ⟨by rw [appliedC_nil hr]; exact sameCL_self rows, by rw [baL_list]; simp⟩
theorem pad40_at {l : List UInt8} {i : Nat} (h : i < l.length) : (pad40 l).getD i 0 = l.getD i 0 := by
  unfold pad40
  rw [List.getD_eq_getElem?_getD, List.getD_eq_getElem?_getD, List.getElem?_append_left h]
/-- A side that was laid is read. -/
theorem whOf_laid {d : Dk} {i : Nat} {rows : List Ch} (hi : i ≤ 1) (hr : Rowed rows) (h : ∀ c ∈ rows, changeF c = 0) (h12 : rows.length ≤ 12) (hhead : d.now[i]? = some (pad40 (headL i (baL (textL rows)))))
    (hrows : ∀ j, j < rows.length → d.now[2 + i * 12 + j]? = (rows.map rowL)[j]?) : whOf d i = some rows := by
  have hs : (baL (textL rows)).size = 40 * rows.length := by rw [baL_size, textL_length h]; omega
  have e1 : headS d i = pad40 (headL i (baL (textL rows))) := by unfold headS; rw [List.getD_eq_getElem?_getD, hhead]; rfl
  have e2 : headC d i = rows.length := by
    unfold headC
    rw [byteAt_baL, e1, pad40_at (by rw [headL_length]; omega)]
    have : (headL i (baL (textL rows))).getD 11 0 = UInt8.ofNat ((baL (textL rows)).size / 40) := rfl
    rw [this, hs]
    simp
    omega
  have e3 : regionL d.now (2 + i * 12) rows.length = rows.map rowL := by
    apply List.ext_getElem?
    intro j
    rw [regionL_at]
    by_cases hj : j < rows.length
    · rw [if_pos hj, hrows j hj]
    · rw [if_neg hj, List.getElem?_eq_none (by rw [List.length_map]; omega)]
  have e4 : sideT d i = baL (textL rows) := by unfold sideT; rw [e2, e3]; rfl
  unfold whOf
  rw [if_pos, e4, e2, parseT_text hr h]
  refine ⟨by rw [e2]; exact h12, ?_⟩
  rw [e4, e1]
  exact List.isPrefixOf_iff_prefix.2 ⟨_, rfl⟩
/-- A blank head names no rows. -/
theorem whOf_blank {d : Dk} {i : Nat} (h : d.now[i]? = some blank) : whOf d i = none := by
  have e1 : headS d i = blank := by unfold headS; rw [List.getD_eq_getElem?_getD, h]; rfl
  unfold whOf
  rw [if_neg]
  rintro ⟨-, h2⟩
  rw [e1] at h2
  have e : headL i (sideT d i) = 112 :: (headL i (sideT d i)).tail := rfl
  rw [e] at h2
  simp [blank, List.replicate_succ, List.isPrefixOf] at h2
theorem whOf_congr {d d' : Dk} {i : Nat} (hi : i ≤ 1) (h : ∀ j, j < 26 → d'.now[j]? = d.now[j]?) : whOf d' i = whOf d i := by
  have e1 : headS d' i = headS d i := by unfold headS; rw [List.getD_eq_getElem?_getD, List.getD_eq_getElem?_getD, h i (by omega)]
  have e2 : headC d' i = headC d i := by unfold headC; rw [e1]
  by_cases h12 : headC d i ≤ 12
  · have e3 : sideT d' i = sideT d i := by
      unfold sideT
      rw [e2]
      congr 2
      apply List.ext_getElem?
      intro j
      rw [regionL_at, regionL_at]
      split
      · exact h _ (by have := Nat.mul_le_mul hi (Nat.le_refl 12); omega)
      · rfl
    have e4 : HeadOk d' i ↔ HeadOk d i := by unfold HeadOk; rw [e1, e2, e3]
    unfold whOf
    by_cases hh : HeadOk d i
    · rw [if_pos hh, if_pos (e4.2 hh), e3, e2]
    · rw [if_neg hh, if_neg (fun x => hh (e4.1 x))]
  · unfold whOf
    rw [if_neg (fun x => h12 (by rw [← e2]; exact x.1)), if_neg (fun x => h12 x.1)]
/-- Another number stands in the log's first sector: no deed is there. -/
theorem closedL_other {C : Type} (rd : List UInt8 → Option C) {first : Nat} {s : List UInt8} {r : List (List UInt8)} (h : secOf first s = none) : closedL rd first (s :: r) = ([], 0) := by
  unfold closedL
  simp [runL, stepL, h]
theorem secOf_other {n m : Nat} {s : List UInt8} (h : ¬ secOf n s = none) (hn : n < 4294967296) (hm : m < 4294967296) (hne : n ≠ m) : secOf m s = none := by
  unfold secOf at h ⊢
  split at h
  · rename_i hc
    rw [if_neg]
    rintro ⟨h1, -⟩
    rw [hc.1] at h1
    exact hne (leB_inj (by simpa using hn) (by simpa using hm) h1)
  · exact absurd rfl h
theorem closedL_used {C : Type} (rd : List UInt8 → Option C) {first : Nat} {l : List (List UInt8)} (h : 0 < (closedL rd first l).2) : ∃ s r, l = s :: r ∧ ¬ secOf first s = none := by
  cases l with
  | nil => simp [closedL, runL] at h
  | cons s r =>
    refine ⟨s, r, rfl, fun hn => ?_⟩
    rw [closedL_other rd hn] at h
    exact absurd h (by simp)
theorem closedL_zero {C : Type} (rd : List UInt8 → Option C) {first : Nat} {l : List (List UInt8)} (h : (closedL rd first l).2 = 0) : (closedL rd first l).1 = [] := by
  rcases runL_mark rd first l 0 ⟨[], [], 0⟩ with ⟨h1, h2, h3⟩ | ⟨j, hj, hjl, h1, h2⟩
  · exact h2
  · have e : (closedL rd first l).2 = 0 + j := h1
    omega
end Go.Proofs.Ytihnghnafpgdfab
