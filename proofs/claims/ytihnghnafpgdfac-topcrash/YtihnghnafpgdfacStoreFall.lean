/-
  WHAT A FALL LEAVES OF A STORE.
-/
import Derived.Test.YtihnghnafpgdfacStoreKeeps
import Derived.Test.YtihnghnafpgdfacTopLogBase
namespace Go.Proofs.Ytihnghnafpgdfac
open Go Go.RowKit Go.BigFrame
set_option linter.unusedVariables false
set_option linter.unusedSimpArgs false

/-- A disk that has these sectors. -/
def dk (L : List (List UInt8)) : Dk := ⟨L, L, [], 0, -1, false⟩
theorem whOf_now (d : Dk) (i : Nat) : whOf d i = whOf (dk d.now) i := rfl
theorem logAt_now (d : Dk) (i : Nat) : logAtD d i = logAtD (dk d.now) i := rfl
/-- Sectors of a store, one head alone. -/
structure KeptL (N : Nat) (L : List (List UInt8)) (side used : Nat) (rows : List Ch) : Prop where
  len : L.length = N
  sd : side ≤ 1
  said : ∃ rows0 D, whOf (dk L) side = some rows0 ∧ logAtD (dk L) side = (D, used) ∧ foldRows rows0 D = some rows
  blank : L[1 - side]? = some blank
/-- Sectors of a store, whatever heads are there. -/
structure KeptG (N : Nat) (L : List (List UInt8)) (side used : Nat) (rows : List Ch) : Prop where
  len : L.length = N
  sd : side ≤ 1
  said : ∃ rows0 D, laidX (whOf (dk L)) = some (side, rows0) ∧ logAtD (dk L) side = (D, used) ∧ foldRows rows0 D = some rows
theorem KeptL.g {N side used : Nat} {L : List (List UInt8)} {rows : List Ch} (h : KeptL N L side used rows) : KeptG N L side used rows := by
  obtain ⟨r0, D, h1, h2, h3⟩ := h.said
  have hs := h.sd
  refine ⟨h.len, h.sd, r0, D, ?_, h2, h3⟩
  unfold laidX
  rcases (by omega : side = 0 ∨ side = 1) with rfl | rfl
  · have hb : (dk L).now[1]? = some Go.Proofs.Ytihnghnafpgdfac.blank := h.blank
    rw [whOf_blank hb, h1]
  · rw [h1]
theorem KeptG.opens {N side used : Nat} {L : List (List UInt8)} {rows : List Ch} (h : KeptG N L side used rows) : openD (dk L) = some (side, rows, used) := by
  obtain ⟨r0, D, h1, h2, h3⟩ := h.said
  unfold openD
  rw [h1]
  simp only
  rw [h2]
  simp only
  rw [h3]
theorem Kept.l {N side used : Nat} {d : Dk} {rows : List Ch} (h : Kept N d side used rows) : KeptL N d.now side used rows := ⟨h.free.len, h.sd, h.said, h.blank⟩
theorem KeptL.kept {N side used : Nat} {d : Dk} {rows : List Ch} (h : KeptL N d.now side used rows) (hf : Free d N 0) : Kept N d side used rows := ⟨hf, h.sd, h.said, h.blank⟩
/-- A side is read from its head and its rows alone. -/
theorem whOf_side {d d' : Dk} {i : Nat} (h : ∀ j, j = i ∨ (2 + i * 12 ≤ j ∧ j < 14 + i * 12) → d'.now[j]? = d.now[j]?) : whOf d' i = whOf d i := by
  have e1 : headS d' i = headS d i := by unfold headS; rw [List.getD_eq_getElem?_getD, List.getD_eq_getElem?_getD, h i (.inl rfl)]
  have e2 : headC d' i = headC d i := by unfold headC; rw [e1]
  by_cases h12 : headC d i ≤ 12
  · have e3 : sideT d' i = sideT d i := by
      unfold sideT
      rw [e2]
      congr 2
      apply List.ext_getElem?
      intro j
      rw [regionL_at, regionL_at]
      split
      · exact h _ (.inr (by omega))
      · rfl
    have e4 : HeadOk d' i ↔ HeadOk d i := by unfold HeadOk; rw [e1, e2, e3]
    unfold whOf
    by_cases hh : HeadOk d i
    · rw [if_pos hh, if_pos (e4.2 hh), e3, e2]
    · rw [if_neg hh, if_neg (fun x => hh (e4.1 x))]
  · unfold whOf
    rw [if_neg (fun x => h12 (by rw [← e2]; exact x.1)), if_neg (fun x => h12 x.1)]
theorem flat_inj : ∀ {l m : List (List UInt8)}, (∀ x ∈ l, x.length = 40) → (∀ x ∈ m, x.length = 40) → l.flatten = m.flatten → l = m
  | [], [], _, _, _ => rfl
  | [], y :: m, _, h2, h => by
    have := congrArg List.length h
    have hy := h2 y (by simp)
    simp at this
    omega
  | x :: l, [], h1, _, h => by
    have := congrArg List.length h
    have hx := h1 x (by simp)
    simp at this
    rw [this.1] at hx
    simp at hx
  | x :: l, y :: m, h1, h2, h => by
    simp only [List.flatten_cons] at h
    obtain ⟨e1, e2⟩ := List.append_inj h (by rw [h1 x (by simp), h2 y (by simp)])
    rw [e1, flat_inj (fun z hz => h1 z (by simp [hz])) (fun z hz => h2 z (by simp [hz])) e2]
/-- What lies on a side that is read: its rows. -/
theorem region_rows {d : Dk} {i : Nat} {rows : List Ch} (hF : Forty d.now) (h : whOf d i = some rows) (hl : 2 + i * 12 + 12 ≤ d.now.length) : ∀ j, j < rows.length → d.now[2 + i * 12 + j]? = (rows.map rowL)[j]? := by
  unfold whOf at h
  split at h
  · rename_i hh
    obtain ⟨h1, h2, h3, h4⟩ := parseT_rows h
    have hc := hh.1
    unfold sideT at h4
    rw [baL_list] at h4
    have e : rows.map rowL = regionL d.now (2 + i * 12) (headC d i) := flat_inj (fun x hx => by obtain ⟨c, hc, rfl⟩ := List.mem_map.1 hx; exact rowL_length (h2 c hc)) (fun x hx => hF x (List.mem_of_mem_drop (List.mem_of_mem_take hx))) h4
    intro j hj
    rw [e, regionL_at, if_pos (by omega)]
  · cases h
/-- One sector is laid, or it isn't. -/
theorem mixed_one {now k : List (List UInt8)} {a : Nat} {x : List UInt8} (h : Mixed now a [x] k) (ha : a < now.length) : k = now ∨ (k.length = now.length ∧ ∀ j, k[j]? = if j = a then some x else now[j]?) := by
  by_cases hk : k[a]? = some x
  · refine .inr ⟨h.1, fun j => ?_⟩
    by_cases hj : j = a
    · subst hj; rw [if_pos rfl]; exact hk
    · rw [if_neg hj]
      rcases h.2 j with e | ⟨e1, e2, -⟩
      · exact e
      · simp at e2; omega
  · left
    apply List.ext_getElem?
    intro j
    rcases h.2 j with e | ⟨e1, e2, e3⟩
    · exact e
    · simp at e2
      have : j = a := by omega
      subst this
      simp at e3
      exact absurd e3 hk
theorem laid_one {now : List (List UInt8)} {a : Nat} {x : List UInt8} (ha : a < now.length) : (laidL now a [x]).length = now.length ∧ ∀ j, (laidL now a [x])[j]? = if j = a then some x else now[j]? := by
  refine ⟨laidL_length _ _ _, fun j => ?_⟩
  rw [laidL_at _ _ _ _ (by simp; omega)]
  by_cases hj : j = a
  · subst hj; rw [if_pos ⟨Nat.le_refl _, by simp⟩, if_pos rfl]; simp
  · rw [if_neg (by simp; omega), if_neg hj]
theorem KeptL.rows {N side used : Nat} {L : List (List UInt8)} {rows : List Ch} (h : KeptL N L side used rows) : Rowed rows ∧ (∀ c ∈ rows, changeF c = 0) ∧ rows.length ≤ 12 := by
  obtain ⟨r0, D, h1, h2, h3⟩ := h.said
  obtain ⟨a, b, c⟩ := whOf_rows h1
  refine foldRows_rowed a b c (fun l hl x hx => ?_) h3
  have e : D = (logAtD (dk L) side).1 := by rw [h2]
  rw [e] at hl
  exact (logOf_ok rdC rdC_ok l hl).1 x hx
theorem KeptL.usedLe {N side used : Nat} {L : List (List UInt8)} {rows : List Ch} (h : KeptL N L side used rows) (hN : 42 ≤ N) : used ≤ N - 26 := by
  obtain ⟨r0, D, h1, h2, h3⟩ := h.said
  have := logOf_le rdC (now := L) (from' := 26) (many := L.length - 26) (first := firstOf (dk L) side) (by rw [h.len]; omega)
  have h2' : logOf rdC L 26 (L.length - 26) (firstOf (dk L) side) = (D, used) := h2
  rw [h2', h.len] at this
  exact this
/-- The same log, and an empty one: what the rows of a whole side come to. -/
theorem KeptL.none {N side : Nat} {L : List (List UInt8)} {rows : List Ch} (h : KeptL N L side 0 rows) : whOf (dk L) side = some rows ∧ logAtD (dk L) side = ([], 0) := by
  obtain ⟨r0, D, h1, h2, h3⟩ := h.said
  have hz : (closedL rdC (firstOf (dk L) side) (regionL L 26 (L.length - 26))).2 = 0 := by
    have : (logAtD (dk L) side).2 = 0 := by rw [h2]
    exact this
  have hD : D = [] := by
    have e2 : D = (logAtD (dk L) side).1 := by rw [h2]
    rw [e2]; exact closedL_zero rdC hz
  subst hD
  simp only [foldRows] at h3
  cases h3
  exact ⟨h1, h2⟩
/-- Beside a log with deeds the other side's is empty. -/
theorem KeptL.other {N side used : Nat} {L : List (List UInt8)} {rows : List Ch} (h : KeptL N L side used rows) (hN : 42 ≤ N) (hN2 : N ≤ 60) (hu : ¬ used = 0) : logAtD (dk L) (1 - side) = ([], 0) := by
  obtain ⟨r0, D, h1, h2, h3⟩ := h.said
  have hs := h.sd
  have hl : (dk L).now.length = N := h.len
  have hp : 0 < (closedL rdC (firstOf (dk L) side) (regionL (dk L).now 26 ((dk L).now.length - 26))).2 := by
    have : (logAtD (dk L) side).2 = used := by rw [h2]
    unfold logAtD logOf at this
    omega
  obtain ⟨x, r, hx, hno⟩ := closedL_used rdC hp
  have h26 : (dk L).now[26]? = some x := by
    have := regionL_at (now := (dk L).now) (from' := 26) (many := (dk L).now.length - 26) (j := 0)
    rw [hx, if_pos (by omega)] at this
    simpa using this.symm
  refine logAt_none (by omega) h26 (secOf_other hno ?_ ?_ ?_)
  all_goals
    unfold firstOf
    rw [hl]
    rcases (by omega : side = 0 ∨ side = 1) with e | e <;> rw [e] <;> simp <;> omega
/-- Sectors with the same heads and log, and the same rows of the side that counts. -/
theorem KeptL.same {N side used : Nat} {L k : List (List UInt8)} {rows : List Ch} (h : KeptL N L side used rows) (hl : k.length = L.length) (h1 : k[1 - side]? = L[1 - side]?) (h2 : ∀ j, j = side ∨ (2 + side * 12 ≤ j ∧ j < 14 + side * 12) → k[j]? = L[j]?) (h3 : ∀ j, 26 ≤ j → k[j]? = L[j]?) : KeptL N k side used rows := by
  obtain ⟨r0, D, e1, e2, e3⟩ := h.said
  exact ⟨by rw [hl]; exact h.len, h.sd, ⟨r0, D, by rw [whOf_side (d := dk L) (d' := dk k) h2]; exact e1, by rw [logAt_congr (d := dk L) (d' := dk k) hl h3]; exact e2, e3⟩, by rw [h1]; exact h.blank⟩
/-- Rows are laid on a side: what stands there then, and what may stand there behind a fall. -/
theorem rows_laying {N side used i : Nat} {d : Dk} {k : List (List UInt8)} {rows : List Ch} (h : KeptL N d.now side used rows) (hF : Forty d.now) (hN : 42 ≤ N) (hi : (i = side ∧ used = 0) ∨ (i = 1 - side ∧ ¬ used = 0)) (hk : Mixed d.now (2 + i * 12) (rows.map rowL) k) :
    KeptL N k side used rows := by
  obtain ⟨q1, q2, q3⟩ := h.rows
  have hs := h.sd
  have hlen := h.len
  have out : ∀ j, ¬ (2 + i * 12 ≤ j ∧ j < 2 + i * 12 + rows.length) → k[j]? = d.now[j]? := fun j hj => by
    rcases hk.2 j with e | ⟨e1, e2, -⟩
    · exact e
    · rw [List.length_map] at e2; exact absurd ⟨e1, e2⟩ hj
  rcases hi with ⟨rfl, rfl⟩ | ⟨rfl, hu⟩
  · have hw := h.none.1
    have hreg := region_rows (d := d) hF hw (by omega)
    have e : k = d.now := by
      apply List.ext_getElem?
      intro j
      rcases hk.2 j with e | ⟨e1, e2, e3⟩
      · exact e
      · rw [List.length_map] at e2
        rw [e3, ← hreg (j - (2 + i * 12)) (by omega)]
        congr 1
        omega
    rw [e]
    exact h
  · have h2 : (1 - side) * 12 + side * 12 = 12 := by rcases (by omega : side = 0 ∨ side = 1) with e | e <;> rw [e]
    have h3 : (1 - side) * 12 ≤ 12 := by omega
    refine h.same hk.1 (out _ (by omega)) (fun j hj => out j ?_) (fun j hj => out j (by omega))
    rcases (by omega : side = 0 ∨ side = 1) with e | e <;> subst e <;> simp at hj ⊢ <;> omega
/-- A side's head is there, and its rows; of the other side all is as it was. -/
theorem head_laid {N side used i : Nat} {L k : List (List UInt8)} {rows : List Ch} (h : KeptL N L side used rows) (hN : 42 ≤ N) (hN2 : N ≤ 60) (hi : (i = side ∧ used = 0) ∨ (i = 1 - side ∧ ¬ used = 0)) (hrow : ∀ j, j < rows.length → L[2 + i * 12 + j]? = (rows.map rowL)[j]?)
    (hlen : k.length = L.length) (hk : ∀ j, k[j]? = if j = i then some (pad40 (headL i (baL (textL rows)))) else L[j]?) :
    whOf (dk k) i = some rows ∧ logAtD (dk k) i = ([], 0) ∧ ∃ side used, KeptG N k side used rows := by
  obtain ⟨q1, q2, q3⟩ := h.rows
  have hs := h.sd
  have hi1 : i ≤ 1 := by omega
  have hw : whOf (dk k) i = some rows := by
    refine whOf_laid hi1 q1 q2 q3 ?_ ?_
    · show k[i]? = _
      rw [hk, if_pos rfl]
    · intro j hj
      show k[_]? = _
      rw [hk, if_neg (by omega)]
      exact hrow j hj
  have hcong : ∀ n, logAtD (dk k) n = logAtD (dk L) n := fun n => logAt_congr (d := dk L) (d' := dk k) hlen (fun j hj => by
    show k[j]? = L[j]?
    rw [hk, if_neg (by omega)])
  have hlog : logAtD (dk k) i = ([], 0) := by
    rw [hcong]
    rcases hi with ⟨rfl, rfl⟩ | ⟨rfl, hu⟩
    · exact h.none.2
    · exact h.other hN hN2 hu
  refine ⟨hw, hlog, ?_⟩
  have hlk : k.length = N := by rw [hlen]; exact h.len
  by_cases hone : i = 1
  · refine ⟨1, 0, hlk, by omega, rows, [], ?_, by rw [← hone]; exact hlog, rfl⟩
    unfold laidX
    rw [← hone, hw]
  · have h0 : i = 0 := by omega
    rcases hi with ⟨e, hu⟩ | ⟨e, hu⟩
    · have hb : (dk k).now[1]? = some Go.Proofs.Ytihnghnafpgdfac.blank := by
        show k[1]? = _
        rw [hk, if_neg (by omega)]
        have := h.blank
        rw [← e, h0] at this
        exact this
      have hlog0 : logAtD (dk k) 0 = ([], 0) := by have := hlog; rw [h0] at this; exact this
      refine ⟨0, 0, hlk, by omega, rows, [], ?_, hlog0, rfl⟩
      unfold laidX
      rw [whOf_blank hb]
      simp only
      rw [h0] at hw
      rw [hw]
    · have hs1 : side = 1 := by omega
      obtain ⟨r0, D, e1, e2, e3⟩ := h.said
      refine ⟨side, used, hlk, hs, r0, D, ?_, by rw [hcong]; exact e2, e3⟩
      have hw1 : whOf (dk k) 1 = some r0 := by
        rw [whOf_side (d := dk L) (d' := dk k) (fun j hj => by
          show k[j]? = L[j]?
          rw [hk, if_neg (by omega)]), ← hs1]
        exact e1
      unfold laidX
      rw [hw1, hs1]
/-- What Checkpoint comes to: all is laid, or the disk fell, and the rows are there. -/
theorem save_cases {N : Nat} {d : Dk} {s : St} {g : Lg} (hk : KeptL N d.now s.side g.used s.rows) (hc : Clean d) (hF : Forty d.now) (hN : 42 ≤ N) (hN2 : N ≤ 60) (hm : g.many = N - 26) :
    ((saveD d s g).2 = 0 ∧ Clean (saveD d s g).1 ∧ KeptL N (saveD d s g).1.now (sideTo d s g) 0 s.rows) ∨
    ((saveD d s g).2 = 8 ∧ (saveD d s g).1.wr.length ≤ 100 ∧ Fell (saveD d s g).1 (fun k => ∃ side used, KeptG N k side used s.rows)) := by
  obtain ⟨q1, q2, q3⟩ := hk.rows
  have hs := hk.sd
  have hlen := hk.len
  have hu := hk.usedLe hN
  obtain ⟨i, hi⟩ : ∃ i, i = sideTo d s g := ⟨_, rfl⟩
  have hside : (i = s.side ∧ g.used = 0) ∨ (i = 1 - s.side ∧ ¬ g.used = 0) := by
    rw [hi]
    unfold sideTo
    rw [hlen]
    split <;> omega
  have hi1 : i ≤ 1 := by omega
  have hi12 : i * 12 ≤ 12 := by omega
  unfold saveD
  rw [← hi]
  clear hi
  obtain ⟨T, hT⟩ : ∃ T, T = baL (textL s.rows) := ⟨_, rfl⟩
  have hpl : (piecesT T s.rows.length).length = s.rows.length := piecesT_length _ _
  have hpr : (piecesT T s.rows.length).map padD = s.rows.map rowL := by rw [hT]; exact pieces_rows q2
  have hsz : ∀ x ∈ piecesT T s.rows.length, x.size ≤ 40 := by
    intro x hx
    unfold piecesT at hx
    obtain ⟨j, hj, rfl⟩ := List.mem_map.1 hx
    rw [baL_size]
    unfold pieceL
    rw [List.length_take]
    omega
  have pb : padD ⟨#[]⟩ = Go.Proofs.Ytihnghnafpgdfac.blank := by decide
  have w1 := layD_len2 d (2 + i * 12) (piecesT T s.rows.length)
  rw [hc.wr, hpl] at w1
  rw [← hT]
  unfold layT
  rcases layD_any d (2 + i * 12) (piecesT T s.rows.length) hc (by rw [hpl]; omega) hsz with ⟨a1, a2, a3, -⟩ | ⟨a1, -, a3⟩
  case inr =>
    right
    rw [if_neg (by rw [a1]; decide)]
    refine ⟨a1, by simp at w1; omega, a3.down, fun keep => ?_⟩
    have := a3.may keep
    rw [hpr] at this
    exact ⟨_, _, (rows_laying hk hF hN hside this).g⟩
  rw [if_pos a1]
  simp only [seqD]
  rw [hpr] at a3
  generalize (layD d (2 + i * 12) (piecesT T s.rows.length)).1 = d1 at *
  have hk1 : KeptL N d1.now s.side g.used s.rows := by
    rw [a3]
    exact rows_laying hk hF hN hside (mixed_all _ _ _ (by rw [List.length_map]; omega))
  have hlen1 := hk1.len
  have hrow : ∀ j, j < s.rows.length → d1.now[2 + i * 12 + j]? = (s.rows.map rowL)[j]? := fun j hj => by
    rw [a3, laidL_at _ _ _ _ (by rw [List.length_map]; omega), if_pos (by rw [List.length_map]; omega)]
    congr 1
    omega
  have w2 := layD_len2 d1 i [baL (headL i T)]
  rw [a2.wr] at w2
  rcases layD_any d1 i [baL (headL i T)] a2 (by simp; omega) (by intro x hx; simp at hx; rw [hx, baL_size, headL_length]; omega) with ⟨b1, b2, b3, -⟩ | ⟨b1, -, b3⟩
  case inr =>
    right
    rw [if_neg (by rw [b1]; decide)]
    refine ⟨b1, by simp at w2; omega, b3.down, fun keep => ?_⟩
    have := b3.may keep
    simp only [List.map_cons, List.map_nil, padD_baL] at this
    rcases mixed_one this (by omega) with e | ⟨e1, e2⟩
    · rw [e]; exact ⟨_, _, hk1.g⟩
    · exact (head_laid hk1 hN hN2 hside hrow e1 (by rw [← hT]; exact e2)).2.2
  rw [if_pos b1]
  simp only [List.map_cons, List.map_nil, padD_baL] at b3
  generalize (layD d1 i [baL (headL i T)]).1 = d2 at *
  obtain ⟨x1, x2⟩ := laid_one (now := d1.now) (a := i) (x := pad40 (headL i T)) (by omega)
  rw [← b3] at x1 x2
  rw [hT] at x2
  obtain ⟨y1, y2, y3⟩ := head_laid hk1 hN hN2 hside hrow x1 x2
  have hlen2 : d2.now.length = N := by rw [x1]; exact hlen1
  have last : ∀ k : List (List UInt8), k.length = d2.now.length → (∀ j, k[j]? = if j = 1 - i then some Go.Proofs.Ytihnghnafpgdfac.blank else d2.now[j]?) → KeptL N k i 0 s.rows := fun k z1 z2 => by
    refine ⟨by rw [z1]; exact hlen2, hi1, ⟨s.rows, [], ?_, ?_, rfl⟩, by rw [z2, if_pos rfl]⟩
    · rw [whOf_side (d := dk d2.now) (d' := dk k) (fun j hj => by
        show k[j]? = d2.now[j]?
        rw [z2, if_neg (by omega)])]
      exact y1
    · rw [logAt_congr (d := dk d2.now) (d' := dk k) z1 (fun j hj => by
        show k[j]? = d2.now[j]?
        rw [z2, if_neg (by omega)])]
      exact y2
  have w3 := layD_len2 d2 (1 - i) [⟨#[]⟩]
  rw [b2.wr] at w3
  rcases layD_any d2 (1 - i) [⟨#[]⟩] b2 (by simp; omega) (by intro x hx; simp at hx; rw [hx]; decide) with ⟨c1, c2, c3, -⟩ | ⟨c1, -, c3⟩
  case inr =>
    right
    rw [if_neg (by rw [c1]; decide)]
    refine ⟨c1, by simp at w3; omega, c3.down, fun keep => ?_⟩
    have := c3.may keep
    simp only [List.map_cons, List.map_nil, pb] at this
    rcases mixed_one this (by omega) with e | ⟨e1, e2⟩
    · rw [e]; exact y3
    · exact ⟨_, _, (last _ e1 e2).g⟩
  left
  rw [if_pos c1]
  simp only [List.map_cons, List.map_nil, pb] at c3
  refine ⟨rfl, c2, ?_⟩
  obtain ⟨z1, z2⟩ := laid_one (now := d2.now) (a := 1 - i) (x := Go.Proofs.Ytihnghnafpgdfac.blank) (by omega)
  exact last _ (by rw [c3]; exact z1) (by rw [c3]; exact z2)
/-- What Add comes to: the deed is there, or the disk fell, and it is there or not. -/
theorem add_cases {N : Nat} {d : Dk} {side used B : Nat} {rows c : List Ch} (hk : KeptL N d.now side used rows) (hc : Clean d) (hN : 42 ≤ N) (hN2 : N ≤ 60) (h14 : ¬ 14 < c.length) (hroom : ¬ N - 26 - used < c.length + 1) (hok : faultL c = 0) (h12 : (appliedC rows c).length ≤ 12) :
    ((addD ⟨B, 26, N - 26, firstOf d side, used⟩ d c).2 = 0 ∧ Clean (addD ⟨B, 26, N - 26, firstOf d side, used⟩ d c).1 ∧ KeptL N (addD ⟨B, 26, N - 26, firstOf d side, used⟩ d c).1.now side (used + c.length + 1) (appliedC rows c)) ∨
    ((addD ⟨B, 26, N - 26, firstOf d side, used⟩ d c).2 = 8 ∧ (addD ⟨B, 26, N - 26, firstOf d side, used⟩ d c).1.wr.length ≤ 100 ∧ Fell (addD ⟨B, 26, N - 26, firstOf d side, used⟩ d c).1 (fun k => ∃ side used, KeptG N k side used rows ∨ KeptG N k side used (appliedC rows c))) := by
  obtain ⟨r0, D, h1, h2, h3⟩ := hk.said
  have hs := hk.sd
  have hlen := hk.len
  have hu := hk.usedLe hN
  have hfirst : 1 ≤ firstOf d side ∧ firstOf d side ≤ 4000000 := by
    unfold firstOf
    rw [hlen]
    rcases (by omega : side = 0 ∨ side = 1) with e | e <;> rw [e] <;> simp <;> omega
  have hlog : logOf rdC d.now 26 (N - 26) (firstOf d side) = (D, used) := by
    have h2' : logOf rdC d.now 26 (d.now.length - 26) (firstOf d side) = (D, used) := h2
    rw [hlen] at h2'
    exact h2'
  -- what stands there with this log, and all below as it was
  have get : ∀ (k : List (List UInt8)) (u : Nat) (D' : List (List Ch)) (R : List Ch), k.length = N → (∀ j, j < 26 → k[j]? = d.now[j]?) → logOf rdC k 26 (N - 26) (firstOf d side) = (D', u) → foldRows r0 D' = some R → KeptL N k side u R := fun k u D' R z1 z2 z3 z4 => by
    refine ⟨z1, hs, ⟨r0, D', ?_, ?_, z4⟩, by rw [z2 _ (by omega)]; exact hk.blank⟩
    · rw [whOf_congr (d := dk d.now) (d' := dk k) hs z2]; exact h1
    · show logOf rdC k 26 (k.length - 26) (firstOf (dk k) side) = _
      rw [firstOf_len (d := d) (d' := dk k) (by show k.length = _; rw [z1, hlen]), z1]
      exact z3
  generalize firstOf d side = first at *
  have hcg : ∀ x ∈ c, rdC (bytesC x) = some x ∧ (bytesC x).length ≤ 33 := fun x hx => ⟨rdC_bytesC (faultL_all hok x hx), by have := bytesC_len (faultL_all hok x hx); omega⟩
  have hb : padD ⟨#[]⟩ = Go.Proofs.Ytihnghnafpgdfac.blank := by decide
  unfold addD
  rw [if_neg h14, if_neg (show ¬ N - 26 - used < c.length + 1 from hroom), if_neg (by simpa using hok)]
  obtain ⟨m, hm⟩ : ∃ m, m = min (c.length + 2) (N - 26 - used) := ⟨_, rfl⟩
  rw [← hm]
  have hsm : ∀ s ∈ List.replicate m (⟨#[]⟩ : ByteArray), s.size ≤ 40 := by intro s hs; rw [List.eq_of_mem_replicate hs]; decide
  have w1 := layD_len2 d (26 + used) (List.replicate m ⟨#[]⟩)
  rw [hc.wr, List.length_replicate] at w1
  have low : ∀ (now k : List (List UInt8)) (l : List (List UInt8)), Mixed now (26 + used) l k → ∀ j, j < 26 → k[j]? = now[j]? := fun now k l hx j hj => by
    rcases hx.2 j with e | ⟨e, -⟩
    · exact e
    · omega
  rcases layD_any d (26 + used) (List.replicate m ⟨#[]⟩) hc (by simp; omega) hsm with ⟨k1, k2, k3, -⟩ | ⟨k1, -, k3⟩
  case inr =>
    right
    rw [if_pos (by rw [k1]; decide)]
    refine ⟨k1, Nat.le_trans w1 (by simp; omega), k3.down, fun keep => ?_⟩
    have hx := k3.may keep
    rw [List.map_replicate, hb] at hx
    exact ⟨_, _, .inl (get _ _ _ _ (by rw [hx.1]; exact hlen) (low _ _ _ hx) (log_blanking rdC (firstOk hfirst.1 (by omega)) (by omega) (by omega) (by omega) hlog hx) h3).g⟩
  rw [if_neg (by simpa using k1)]
  rw [List.map_replicate, hb] at k3
  have hl1 : (layD d (26 + used) (List.replicate m ⟨#[]⟩)).1.now.length = N := by rw [k3, laidL_length]; exact hlen
  have low1 : ∀ j, j < 26 → (layD d (26 + used) (List.replicate m ⟨#[]⟩)).1.now[j]? = d.now[j]? := by
    rw [k3]
    exact low _ _ _ (mixed_all _ _ _ (by simp; omega))
  have w2 := layD_len2 (layD d (26 + used) (List.replicate m ⟨#[]⟩)).1 (26 + used) (deedT first used c c.length)
  rw [k2.wr, deedT_length] at w2
  rcases layD_any (layD d (26 + used) (List.replicate m ⟨#[]⟩)).1 (26 + used) (deedT first used c c.length) k2 (by rw [hl1, deedT_length]; omega) (deedT_small _ _ _ _ (faultL_all hok)) with ⟨q1, q2, q3, -⟩ | ⟨q1, -, q3⟩
  · left
    refine ⟨q1, q2, get _ _ _ _ (by rw [q3, laidL_length]; exact hl1) (fun j hj => ?_) ?_ (foldRows_snoc h3 h12)⟩
    · rw [q3, low _ _ _ (mixed_all _ _ _ (by rw [List.length_map, deedT_length, hl1]; omega)) j hj]
      exact low1 j hj
    · rw [q3, k3, deedT_pad]
      exact log_laid rdC (firstOk hfirst.1 (by omega)) (by omega) (by omega) hm (by omega) hlog hcg
  · right
    refine ⟨q1, Nat.le_trans w2 (by simp; omega), q3.down, fun keep => ?_⟩
    have hx := q3.may keep
    have hlow := low _ _ _ hx
    have hxl := hx.1
    rw [k3, deedT_pad] at hx
    rcases log_laying rdC (firstOk hfirst.1 (by omega)) (by omega) (by omega) hm (by omega) hlog hcg hx with h | h
    · exact ⟨_, _, .inl (get _ _ _ _ (by rw [hxl]; exact hl1) (fun j hj => by rw [hlow j hj]; exact low1 j hj) h h3).g⟩
    · exact ⟨_, _, .inr (get _ _ _ _ (by rw [hxl]; exact hl1) (fun j hj => by rw [hlow j hj]; exact low1 j hj) h (foldRows_snoc h3 h12)).g⟩
/-- A deed that is refused. -/
def refused (d : Dk) (rows c : List Ch) : Prop := 14 < c.length ∨ ¬ faultL c = 0 ∨ 12 < (appliedC rows c).length ∨ d.now.length - 26 < c.length + 1
/-- What Commit comes to: it is refused, and nothing turns; the deed is there; or the disk fell, and it is there or not. -/
theorem commit_cases {N : Nat} {d : Dk} {s : St} {g : Lg} {c : List Ch} (hk : KeptL N d.now s.side g.used s.rows) (hc : Clean d) (hF : Forty d.now) (hN : 42 ≤ N) (hN2 : N ≤ 60) (hg : g = ⟨g.dB, 26, N - 26, firstOf d s.side, g.used⟩) :
    (¬ (commitC d s g c).e = 0 ∧ ¬ (commitC d s g c).e = 8 ∧ 0 ≤ (commitC d s g c).e ∧ (commitC d s g c).e ≤ 100 ∧ commitC d s g c = .stay d (commitC d s g c).e s g) ∨
    ((commitC d s g c).e = 0 ∧ Clean (commitC d s g c).d ∧ (commitC d s g c).rows = appliedC s.rows c ∧ KeptL N (commitC d s g c).d.now (commitC d s g c).side (commitC d s g c).g.used (appliedC s.rows c) ∧ (commitC d s g c).g = ⟨g.dB, 26, N - 26, firstOf (commitC d s g c).d (commitC d s g c).side, (commitC d s g c).g.used⟩) ∨
    ((commitC d s g c).e = 8 ∧ (commitC d s g c).d.wr.length ≤ 100 ∧ Fell (commitC d s g c).d (fun k => ∃ side used, KeptG N k side used s.rows ∨ KeptG N k side used (appliedC s.rows c))) := by
  have hlen := hk.len
  have hu := hk.usedLe hN
  have hgm : g.many = N - 26 := by rw [hg]
  unfold commitC
  by_cases h14 : 14 < c.length
  · rw [if_pos h14]
    exact .inl ⟨(show ¬ (2 : Int) = 0 by decide), (show ¬ (2 : Int) = 8 by decide), (show (0 : Int) ≤ 2 by decide), (show (2 : Int) ≤ 100 by decide), rfl⟩
  rw [if_neg h14]
  by_cases hf : faultL c = 0
  case neg =>
    rw [if_pos hf]
    have h2 := faultL_two c
    exact .inl ⟨hf, (show ¬ faultL c = 8 by omega), (show 0 ≤ faultL c by omega), (show faultL c ≤ 100 by omega), rfl⟩
  have hff : ¬ ¬ faultL c = 0 := fun x => x hf
  rw [if_neg hff]
  by_cases hr : 12 < (appliedC s.rows c).length ∨ d.now.length - 26 < c.length + 1
  · rw [if_pos hr]
    exact .inl ⟨(show ¬ (7 : Int) = 0 by decide), (show ¬ (7 : Int) = 8 by decide), (show (0 : Int) ≤ 7 by decide), (show (7 : Int) ≤ 100 by decide), rfl⟩
  rw [if_neg hr]
  right
  have h12 : (appliedC s.rows c).length ≤ 12 := by omega
  have fell : ∀ {R : Dk × Int} {P : List (List UInt8) → Prop}, Fell R.1 P → (∀ k, P k → ∃ side used, KeptG N k side used s.rows ∨ KeptG N k side used (appliedC s.rows c)) → Fell R.1 (fun k => ∃ side used, KeptG N k side used s.rows ∨ KeptG N k side used (appliedC s.rows c)) := fun h hP => ⟨h.down, fun keep => hP _ (h.may keep)⟩
  by_cases hroom : g.many - g.used < c.length + 1
  · rw [if_pos hroom]
    rcases save_cases (g := g) hk hc hF hN hN2 hgm with ⟨a1, a2, a3⟩ | ⟨a1, a2, a3⟩
    case inr =>
      rw [if_neg (by rw [a1]; decide)]
      exact .inr ⟨a1, a2, fell (R := saveD d s g) a3 (fun k ⟨sd, us, h⟩ => ⟨sd, us, .inl h⟩)⟩
    rw [if_pos a1]
    have hlen2 := a3.len
    have hsg : savedG d s g = ⟨g.dB, 26, N - 26, firstOf (saveD d s g).1 (sideTo d s g), 0⟩ := by
      unfold savedG
      rw [hlen, firstOf_len (d := d) (d' := (saveD d s g).1) (by rw [hlen2, hlen])]
    rw [hsg]
    unfold addC
    rcases add_cases (B := g.dB) (c := c) a3 a2 hN hN2 h14 (by omega) hf h12 with ⟨b1, b2, b3⟩ | ⟨b1, b2, b3⟩
    · left
      rw [if_pos b1]
      have e : firstOf (addD ⟨g.dB, 26, N - 26, firstOf (saveD d s g).1 (sideTo d s g), 0⟩ (saveD d s g).1 c).1 (sideTo d s g) = firstOf (saveD d s g).1 (sideTo d s g) := firstOf_len (by rw [b3.len, hlen2])
      have eg : addG ⟨g.dB, 26, N - 26, firstOf (saveD d s g).1 (sideTo d s g), 0⟩ (saveD d s g).1 c = ⟨g.dB, 26, N - 26, firstOf (saveD d s g).1 (sideTo d s g), 0 + c.length + 1⟩ := by unfold addG; rw [if_pos b1]
      rw [eg]
      refine ⟨rfl, b2, rfl, b3, ?_⟩
      show Lg.mk _ _ _ _ _ = Lg.mk _ _ _ (firstOf (addD ⟨g.dB, 26, N - 26, firstOf (saveD d s g).1 (sideTo d s g), 0⟩ (saveD d s g).1 c).1 (sideTo d s g)) _
      rw [e]
    · right
      rw [if_neg (by rw [b1]; decide)]
      exact ⟨b1, b2, b3⟩
  · rw [if_neg hroom]
    have hroom' : ¬ N - 26 - g.used < c.length + 1 := by rw [← hgm]; exact hroom
    unfold addC
    have key := add_cases (B := g.dB) (c := c) hk hc hN hN2 h14 hroom' hf h12
    rw [← hg] at key
    rcases key with ⟨b1, b2, b3⟩ | ⟨b1, b2, b3⟩
    · left
      rw [if_pos b1]
      have e : firstOf (addD g d c).1 s.side = g.first := by
        rw [firstOf_len (d := d) (by rw [b3.len, hlen])]
        rw [hg]
      have eg : addG g d c = { g with used := g.used + c.length + 1 } := by unfold addG; rw [if_pos b1]
      rw [eg]
      refine ⟨rfl, b2, rfl, b3, ?_⟩
      show Lg.mk _ _ _ _ _ = Lg.mk _ _ _ (firstOf (addD g d c).1 s.side) _
      rw [e]
      have e1 : g.start = 26 := by rw [hg]
      rw [e1, hgm]
    · right
      rw [if_neg (by rw [b1]; decide)]
      exact ⟨b1, b2, b3⟩
end Go.Proofs.Ytihnghnafpgdfac
