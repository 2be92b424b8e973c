/-
  WHAT A DISK KEEPS OF A STORE, from act to act.
-/
import Derived.Test.YtihnghnafpgdfabStorePure
import Derived.Test.YtihnghnafpgdfabLogSaysBase
import Derived.Test.YtihnghnafpgdfabStoreRef
namespace Go.Proofs.Ytihnghnafpgdfab
open Go Go.RowKit Go.BigFrame
set_option linter.unusedVariables false
set_option linter.unusedSimpArgs false

structure Kept (N : Nat) (d : Dk) (side used : Nat) (rows : List Ch) : Prop where
  free : Free d N 0
  sd : side ≤ 1
  said : ∃ rows0 D, whOf d side = some rows0 ∧ logAtD d side = (D, used) ∧ foldRows rows0 D = some rows
  blank : d.now[1 - side]? = some blank
theorem lays_free {d : Dk} {N a : Nat} {l : List ByteArray} (h : Free d N 0) (hl : a + l.length ≤ N) (hs : ∀ s ∈ l, s.size ≤ 40) :
    (layD d a l).2 = 0 ∧ Free (layD d a l).1 N 0 ∧ ∀ j, (layD d a l).1.now[j]? = if a ≤ j ∧ j < a + l.length then (l.map padD)[j - a]? else d.now[j]? := by
  obtain ⟨k1, k2, k3, k4, k5, k6⟩ := layD_free d a l h.up h.left (by rw [h.len]; exact hl) hs
  refine ⟨k1, ⟨k3, by rw [k4]; exact h.left, by rw [k5]; simp, by rw [k2, laidL_length]; exact h.len⟩, fun j => ?_⟩
  rw [k2, laidL_at _ _ _ _ (by rw [List.length_map, h.len]; exact hl), List.length_map]
theorem lay_free {d : Dk} {N a : Nat} {s : ByteArray} (h : Free d N 0) (hl : a < N) (hs : s.size ≤ 40) :
    (layD d a [s]).2 = 0 ∧ Free (layD d a [s]).1 N 0 ∧ ∀ j, (layD d a [s]).1.now[j]? = if j = a then some (padD s) else d.now[j]? := by
  obtain ⟨k1, k2, k3⟩ := lays_free (a := a) (l := [s]) h (by simp; omega) (by intro x hx; simp at hx; rw [hx]; exact hs)
  refine ⟨k1, k2, fun j => ?_⟩
  rw [k3 j]
  by_cases hj : j = a
  · subst hj
    rw [if_pos ⟨Nat.le_refl _, by simp⟩, if_pos rfl]
    simp
  · rw [if_neg (by simp; omega), if_neg hj]
/-- The log of another number is empty. -/
theorem logAt_none {d : Dk} {side : Nat} {s : List UInt8} (h26 : 26 < d.now.length) (hs : d.now[26]? = some s) (h : secOf (firstOf d side) s = none) : logAtD d side = ([], 0) := by
  unfold logAtD logOf
  have h0 : (regionL d.now 26 (d.now.length - 26))[0]? = some s := by rw [regionL_at, if_pos (by omega)]; exact hs
  cases hr : regionL d.now 26 (d.now.length - 26) with
  | nil => rw [hr] at h0; simp at h0
  | cons x r =>
    rw [hr] at h0
    simp at h0
    subst h0
    exact closedL_other _ h
theorem firstOf_len {d d' : Dk} {side : Nat} (h : d'.now.length = d.now.length) : firstOf d' side = firstOf d side := by unfold firstOf; rw [h]
theorem logAt_congr {d d' : Dk} {side : Nat} (hl : d'.now.length = d.now.length) (h : ∀ j, 26 ≤ j → d'.now[j]? = d.now[j]?) : logAtD d' side = logAtD d side := by
  unfold logAtD firstOf logOf
  rw [hl]
  congr 1
  apply List.ext_getElem?
  intro j
  rw [regionL_at, regionL_at]
  split
  · exact h _ (by omega)
  · rfl
theorem foldRows_rowed : ∀ {D : List (List Ch)} {r rows : List Ch}, Rowed r → (∀ c ∈ r, changeF c = 0) → r.length ≤ 12 → (∀ l ∈ D, ∀ c ∈ l, changeF c = 0) → foldRows r D = some rows → Rowed rows ∧ (∀ c ∈ rows, changeF c = 0) ∧ rows.length ≤ 12
  | [], r, rows, h1, h2, h3, _, h => by
    simp only [foldRows] at h
    cases h
    exact ⟨h1, h2, h3⟩
  | c :: D, r, rows, h1, h2, h3, h4, h => by
    simp only [foldRows] at h
    split at h
    · cases h
    · rename_i h12
      exact foldRows_rowed (applied_rowed h1) (applied_ok h2 (h4 c (by simp))) (by omega) (fun l hl => h4 l (by simp [hl])) h
theorem foldRows_snoc : ∀ {D : List (List Ch)} {r rows c : List Ch}, foldRows r D = some rows → (appliedC rows c).length ≤ 12 → foldRows r (D ++ [c]) = some (appliedC rows c)
  | [], r, rows, c, h, h12 => by
    simp only [foldRows] at h
    cases h
    simp only [List.nil_append, foldRows]
    rw [if_neg (by omega)]
  | x :: D, r, rows, c, h, h12 => by
    simp only [List.cons_append, foldRows] at h ⊢
    split at h
    · cases h
    · rename_i hx
      rw [if_neg hx]
      exact foldRows_snoc h h12
theorem Kept.rows {N side used : Nat} {d : Dk} {rows : List Ch} (h : Kept N d side used rows) : Rowed rows ∧ (∀ c ∈ rows, changeF c = 0) ∧ rows.length ≤ 12 := by
  obtain ⟨r0, D, h1, h2, h3⟩ := h.said
  obtain ⟨a, b, c⟩ := whOf_rows h1
  refine foldRows_rowed a b c (fun l hl x hx => ?_) h3
  have e : D = (logAtD d side).1 := by rw [h2]
  rw [e] at hl
  exact (logOf_ok rdC rdC_ok l hl).1 x hx
theorem Kept.used {N side used : Nat} {d : Dk} {rows : List Ch} (h : Kept N d side used rows) (hN : 42 ≤ N) : used ≤ N - 26 := by
  obtain ⟨r0, D, h1, h2, h3⟩ := h.said
  have := logOf_le rdC (now := d.now) (from' := 26) (many := d.now.length - 26) (first := firstOf d side) (by rw [h.free.len]; omega)
  unfold logAtD at h2
  rw [h2, h.free.len] at this
  exact this
theorem Kept.opens {N side used : Nat} {d : Dk} {rows : List Ch} (h : Kept N d side used rows) : openD d = some (side, rows, used) := by
  obtain ⟨r0, D, h1, h2, h3⟩ := h.said
  have hs := h.sd
  have hx : laidX (whOf d) = some (side, r0) := by
    unfold laidX
    rcases (by omega : side = 0 ∨ side = 1) with rfl | rfl
    · rw [whOf_blank h.blank, h1]
    · rw [h1]
  unfold openD
  rw [hx]
  simp only
  rw [h2]
  simp only
  rw [h3]
theorem newD_at {N j : Nat} (h : j < N) : (newD N).now[j]? = some blank := by
  show (noughts N)[j]? = _
  rw [noughts_blank]
  simp [h]
theorem kept_format {N : Nat} (hN : 42 ≤ N) (hN2 : N ≤ 60) : (formatD (newD N)).2 = 0 ∧ Kept N (formatD (newD N)).1 1 0 [] := by
  have hl : (newD N).now.length = N := (free_new N).len
  have e : formatD (newD N) = seqD (newD N) formL := by unfold formatD; rw [if_neg (by omega)]
  rw [e]
  have hz : (⟨#[]⟩ : ByteArray).size ≤ 40 := by decide
  have hh : (baL (headL 1 ⟨#[]⟩)).size ≤ 40 := by rw [baL_size, headL_length]; omega
  obtain ⟨a1, a2, a3⟩ := lay_free (a := 0) (free_new N) (by omega) hz
  obtain ⟨b1, b2, b3⟩ := lay_free (a := 1) a2 (by omega) hz
  obtain ⟨c1, c2, c3⟩ := lay_free (a := 26) b2 (by omega) hz
  obtain ⟨d1, d2, d3⟩ := lay_free (a := 1) c2 (by omega) hh
  have eq : seqD (newD N) formL = ((layD (layD (layD (layD (newD N) 0 [⟨#[]⟩]).1 1 [⟨#[]⟩]).1 26 [⟨#[]⟩]).1 1 [baL (headL 1 ⟨#[]⟩)]).1, 0) := by
    unfold formL
    simp only [seqD]
    rw [if_pos a1, if_pos b1, if_pos c1, if_pos d1]
  rw [eq]
  have pb : padD ⟨#[]⟩ = Go.Proofs.Ytihnghnafpgdfab.blank := by decide
  rw [pb] at a3 b3 c3
  refine ⟨rfl, d2, by omega, ⟨[], [], ?_, ?_, rfl⟩, ?_⟩
  · refine whOf_laid (by omega) Rowed.nil (by intro c hc; cases hc) (by simp) ?_ (by intro j hj; simp at hj)
    rw [d3, if_pos rfl, padD_baL]
    try rfl
  · refine logAt_none (by rw [d2.len]; omega) (s := Go.Proofs.Ytihnghnafpgdfab.blank) ?_ (secOf_blank ?_)
    · rw [d3, if_neg (by omega), c3, if_pos rfl]
    · unfold firstOf; omega
  · rw [d3, if_neg (by omega), c3, if_neg (by omega), b3, if_neg (by omega), a3, if_pos rfl]
theorem pad40_full {l : List UInt8} (h : l.length = 40) : pad40 l = l := by unfold pad40; rw [h]; simp
theorem pieces_rows {rows : List Ch} (h : ∀ c ∈ rows, changeF c = 0) : (piecesT (baL (textL rows)) rows.length).map padD = rows.map rowL := by
  apply List.ext_getElem
  · simp [piecesT]
  · intro i h1 h2
    have hi : i < rows.length := by simpa [piecesT] using h1
    simp only [piecesT, List.getElem_map, List.getElem_range]
    have hl := rowL_length (h rows[i] (List.getElem_mem hi))
    have e : pieceL (baL (textL rows)) i = rowL rows[i] := by
      unfold pieceL
      rw [baL_list, textL_drop h hi, ← hl, List.take_left]
    rw [padD_baL, e, pad40_full hl]
/-- Rows are laid on a side: its head says them, the other one is blank. -/
theorem layT_free {d : Dk} {N i : Nat} {rows : List Ch} (h : Free d N 0) (hN : 42 ≤ N) (hi : i ≤ 1) (hr : Rowed rows) (hc : ∀ c ∈ rows, changeF c = 0) (h12 : rows.length ≤ 12) :
    (layT d i (baL (textL rows)) rows.length).2 = 0 ∧ Free (layT d i (baL (textL rows)) rows.length).1 N 0 ∧ whOf (layT d i (baL (textL rows)) rows.length).1 i = some rows ∧ (layT d i (baL (textL rows)) rows.length).1.now[1 - i]? = some Go.Proofs.Ytihnghnafpgdfab.blank ∧ ∀ j, 26 ≤ j → (layT d i (baL (textL rows)) rows.length).1.now[j]? = d.now[j]? := by
  obtain ⟨T, hT⟩ : ∃ T, T = baL (textL rows) := ⟨_, rfl⟩
  have hpl : (piecesT T rows.length).length = rows.length := piecesT_length _ _
  have hsz : ∀ s ∈ piecesT T rows.length, s.size ≤ 40 := by
    intro s hs
    unfold piecesT at hs
    obtain ⟨j, hj, rfl⟩ := List.mem_map.1 hs
    rw [baL_size]
    unfold pieceL
    rw [List.length_take]
    omega
  have hi12 : i * 12 ≤ 12 := by omega
  obtain ⟨a1, a2, a3⟩ := lays_free (a := 2 + i * 12) h (by rw [hpl]; omega) hsz
  obtain ⟨b1, b2, b3⟩ := lay_free (a := i) (s := baL (headL i T)) a2 (by omega) (by rw [baL_size, headL_length]; omega)
  obtain ⟨c1, c2, c3⟩ := lay_free (a := 1 - i) (s := ⟨#[]⟩) b2 (by omega) (by decide)
  have pb : padD ⟨#[]⟩ = Go.Proofs.Ytihnghnafpgdfab.blank := by decide
  rw [pb] at c3
  rw [← hT]
  have eq : layT d i T rows.length = ((layD (layD (layD d (2 + i * 12) (piecesT T rows.length)).1 i [baL (headL i T)]).1 (1 - i) [⟨#[]⟩]).1, 0) := by
    unfold layT
    rw [if_pos a1]
    simp only [seqD]
    rw [if_pos b1, if_pos c1]
  rw [eq]
  refine ⟨rfl, c2, ?_, ?_, ?_⟩
  · refine whOf_laid hi hr hc h12 ?_ ?_
    · show (layD _ _ _).1.now[i]? = _
      rw [c3, if_neg (by omega), b3, if_pos rfl, padD_baL, hT]
    · intro j hj
      show (layD _ _ _).1.now[_]? = _
      rw [c3, if_neg (by omega), b3, if_neg (by omega), a3, hpl, if_pos (by omega), hT, pieces_rows hc]
      congr 1
      omega
  · show (layD _ _ _).1.now[_]? = _
    rw [c3, if_pos rfl]
  · intro j hj
    show (layD _ _ _).1.now[_]? = _
    rw [c3, if_neg (by omega), b3, if_neg (by omega), a3, hpl, if_neg (by omega)]
theorem kept_save {N : Nat} {d : Dk} {s : St} {g : Lg} (hk : Kept N d s.side g.used s.rows) (hN : 42 ≤ N) (hN2 : N ≤ 60) (hm : g.many = N - 26) :
    (saveD d s g).2 = 0 ∧ Kept N (saveD d s g).1 (sideTo d s g) 0 s.rows := by
  obtain ⟨q1, q2, q3⟩ := hk.rows
  have hs := hk.sd
  have hlen := hk.free.len
  have hi : sideTo d s g ≤ 1 := by unfold sideTo; split <;> omega
  obtain ⟨a1, a2, a3, a4, a5⟩ := layT_free hk.free hN hi q1 q2 q3
  refine ⟨a1, a2, hi, ⟨s.rows, [], a3, ?_, rfl⟩, a4⟩
  obtain ⟨r0, D, h1, h2, h3⟩ := hk.said
  have hcong : logAtD (saveD d s g).1 (sideTo d s g) = logAtD d (sideTo d s g) := logAt_congr (by rw [show (saveD d s g).1.now.length = N from a2.len, hlen]) a5
  rw [hcong]
  have hu := hk.used hN
  by_cases h0 : g.used = 0
  · have e : sideTo d s g = s.side := by unfold sideTo; rw [if_neg (by omega)]
    rw [e, h2, h0]
    have hz : (closedL rdC (firstOf d s.side) (regionL d.now 26 (d.now.length - 26))).2 = 0 := by
      have : (logAtD d s.side).2 = 0 := by rw [h2]; exact h0
      exact this
    have := closedL_zero rdC hz
    have hD : D = [] := by
      have e2 : D = (logAtD d s.side).1 := by rw [h2]
      rw [e2]; exact this
    rw [hD]
  · have e : sideTo d s g = 1 - s.side := by unfold sideTo; rw [if_pos (by omega)]
    rw [e]
    have hp : 0 < (closedL rdC (firstOf d s.side) (regionL d.now 26 (d.now.length - 26))).2 := by
      have : (logAtD d s.side).2 = g.used := by rw [h2]
      unfold logAtD logOf at this
      omega
    obtain ⟨x, r, hx, hno⟩ := closedL_used rdC hp
    have h26 : d.now[26]? = some x := by
      have := regionL_at (now := d.now) (from' := 26) (many := d.now.length - 26) (j := 0)
      rw [hx, if_pos (by omega)] at this
      simpa using this.symm
    refine logAt_none (by omega) h26 (secOf_other hno ?_ ?_ ?_)
    all_goals
      unfold firstOf
      rw [hlen]
      rcases (by omega : s.side = 0 ∨ s.side = 1) with e | e <;> rw [e] <;> simp <;> omega
theorem addD_low {g : Lg} {d : Dk} {N : Nat} {c : List Ch} (hf : Free d N 0) (hin : g.start + g.many ≤ N) (hu : g.used ≤ g.many) (h14 : ¬ 14 < c.length) (hroom : ¬ g.many - g.used < c.length + 1) (hok : faultL c = 0) :
    ∀ j, j < g.start → (addD g d c).1.now[j]? = d.now[j]? := by
  intro j hj
  unfold addD
  rw [if_neg h14, if_neg hroom, if_neg (by simpa using hok)]
  obtain ⟨m, hm⟩ : ∃ m, m = min (c.length + 2) (g.many - g.used) := ⟨_, rfl⟩
  rw [← hm]
  obtain ⟨a1, a2, a3⟩ := lays_free (a := g.start + g.used) (l := List.replicate m ⟨#[]⟩) hf (by simp; omega) (by intro s hs; rw [List.eq_of_mem_replicate hs]; decide)
  rw [if_neg (by simpa using a1)]
  obtain ⟨b1, b2, b3⟩ := lays_free (a := g.start + g.used) (l := deedT g.first g.used c c.length) a2 (by rw [deedT_length]; omega) (deedT_small _ _ _ _ (faultL_all hok))
  rw [b3, if_neg (by omega), a3, if_neg (by omega)]
theorem kept_add {N : Nat} {d : Dk} {side used B : Nat} {rows c : List Ch} (hk : Kept N d side used rows) (hN : 42 ≤ N) (hN2 : N ≤ 60) (h14 : ¬ 14 < c.length) (hroom : ¬ N - 26 - used < c.length + 1) (hok : faultL c = 0) (h12 : (appliedC rows c).length ≤ 12) :
    (addD ⟨B, 26, N - 26, firstOf d side, used⟩ d c).2 = 0 ∧ Kept N (addD ⟨B, 26, N - 26, firstOf d side, used⟩ d c).1 side (used + c.length + 1) (appliedC rows c) := by
  obtain ⟨r0, D, h1, h2, h3⟩ := hk.said
  have hs := hk.sd
  have hlen := hk.free.len
  have hu := hk.used hN
  have hfirst : 1 ≤ firstOf d side ∧ firstOf d side ≤ 4000000 := by
    unfold firstOf
    rw [hlen]
    rcases (by omega : side = 0 ∨ side = 1) with e | e <;> rw [e] <;> simp <;> omega
  obtain ⟨a1, a2, a3, a4, a5, a6⟩ := addD_free (g := ⟨B, 26, N - 26, firstOf d side, used⟩) (d := d) (c := c) (D := D) ⟨by simp only; omega, hfirst.2, hu⟩ hfirst.1 (by simp only; omega) hk.free.up hk.free.left h14 hroom hok (by
    have := h2
    unfold logAtD at this
    rw [hlen] at this
    exact this)
  have low := addD_low (g := ⟨B, 26, N - 26, firstOf d side, used⟩) (c := c) hk.free (by simp only; omega) hu h14 hroom hok
  refine ⟨a1, ⟨a2, by rw [a3]; exact hk.free.left, by rw [a4]; simp, by rw [a5]; exact hlen⟩, hs, ⟨r0, D ++ [c], ?_, ?_, foldRows_snoc h3 h12⟩, ?_⟩
  · rw [whOf_congr hs low]; exact h1
  · unfold logAtD
    rw [firstOf_len a5, a5, hlen]
    exact a6
  · rw [low (1 - side) (show 1 - side < 26 by omega)]; exact hk.blank
/-- What Commit comes to, if no fuse is lit. -/
theorem kept_commit {N : Nat} {d : Dk} {s : St} {g : Lg} {c : List Ch} {m : Ms} (hk : Kept N d s.side g.used s.rows) (hN : 42 ≤ N) (hN2 : N ≤ 60) (hg : g = ⟨g.dB, 26, N - 26, firstOf d s.side, g.used⟩) (hm1 : m.rows = s.rows) (hm2 : m.used = g.used) (hm3 : m.many = N - 26) :
    (commitC d s g c).e = commitF m c ∧ ∃ side used, Kept N (commitC d s g c).d side used (commitC d s g c).rows ∧ (commitC d s g c).side = side ∧ (commitC d s g c).g = ⟨g.dB, 26, N - 26, firstOf (commitC d s g c).d side, used⟩ ∧
      ((¬ commitF m c = 0 ∧ used = g.used ∧ (commitC d s g c).rows = s.rows) ∨ (commitF m c = 0 ∧ used = commitU m c ∧ (commitC d s g c).rows = appliedC s.rows c)) := by
  have hlen := hk.free.len
  have hu := hk.used hN
  have hgm : g.many = N - 26 := by rw [hg]
  unfold commitF commitC
  rw [hm1, hm3, hlen]
  by_cases h14 : 14 < c.length
  · rw [if_pos h14, if_pos h14]
    exact ⟨rfl, s.side, g.used, hk, rfl, hg, .inl ⟨by omega, rfl, rfl⟩⟩
  rw [if_neg h14, if_neg h14]
  by_cases hf : faultL c = 0
  case neg =>
    rw [if_pos hf, if_pos hf]
    exact ⟨rfl, s.side, g.used, hk, rfl, hg, .inl ⟨hf, rfl, rfl⟩⟩
  have hff : ¬ ¬ faultL c = 0 := fun x => x hf
  rw [if_neg hff, if_neg hff]
  by_cases hr : 12 < (appliedC s.rows c).length ∨ N - 26 < c.length + 1
  · rw [if_pos hr, if_pos hr]
    exact ⟨rfl, s.side, g.used, hk, rfl, hg, .inl ⟨by omega, rfl, rfl⟩⟩
  rw [if_neg hr, if_neg hr]
  have h12 : (appliedC s.rows c).length ≤ 12 := by omega
  unfold commitU
  rw [hm2, hm3, hgm]
  by_cases hroom : N - 26 - g.used < c.length + 1
  · rw [if_pos hroom, if_pos hroom]
    obtain ⟨a1, a2⟩ := kept_save hk hN hN2 hgm
    rw [if_pos a1]
    have hlen2 := a2.free.len
    obtain ⟨b1, b2⟩ := kept_add (B := g.dB) (c := c) a2 hN hN2 h14 (by omega) hf h12
    have hsg : savedG d s g = ⟨g.dB, 26, N - 26, firstOf (saveD d s g).1 (sideTo d s g), 0⟩ := by
      unfold savedG
      rw [hlen, firstOf_len (d := d) (d' := (saveD d s g).1) (by rw [hlen2, hlen])]
    rw [hsg]
    unfold addC
    rw [if_pos b1]
    refine ⟨rfl, _, _, b2, rfl, ?_, .inr ⟨rfl, rfl, rfl⟩⟩
    have e : firstOf (addD ⟨g.dB, 26, N - 26, firstOf (saveD d s g).1 (sideTo d s g), 0⟩ (saveD d s g).1 c).1 (sideTo d s g) = firstOf (saveD d s g).1 (sideTo d s g) := firstOf_len (by rw [b2.free.len, hlen2])
    show addG _ _ _ = Lg.mk _ _ _ (firstOf (addD ⟨g.dB, 26, N - 26, firstOf (saveD d s g).1 (sideTo d s g), 0⟩ (saveD d s g).1 c).1 (sideTo d s g)) _
    unfold addG
    rw [if_pos b1, e]
  · rw [if_neg hroom, if_neg hroom]
    obtain ⟨b1, b2⟩ := kept_add (B := g.dB) (c := c) hk hN hN2 h14 hroom hf h12
    rw [← hg] at b1 b2
    unfold addC
    rw [if_pos b1]
    refine ⟨rfl, _, _, b2, rfl, ?_, .inr ⟨rfl, rfl, rfl⟩⟩
    show addG _ _ _ = _
    unfold addG
    rw [if_pos b1]
    have e : firstOf (addD g d c).1 s.side = g.first := by
      rw [firstOf_len (d := d) (by rw [b2.free.len, hlen])]
      rw [hg]
    rw [e, hg]
end Go.Proofs.Ytihnghnafpgdfab
