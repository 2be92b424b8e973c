/-
  A STORE IS OPENED: whole, laid and Open, by what the disk has.
-/
import Derived.Test.YtihnghnafpgdfabStoreParse
import Derived.Test.YtihnghnafpgdfabStoreAt
namespace Go.Proofs.Ytihnghnafpgdfab
open Go Go.RowKit Go.BigFrame
set_option linter.unusedVariables false
set_option linter.unusedSimpArgs false

instance (d : Dk) (i : Nat) : Decidable (HeadOk d i) := by unfold HeadOk; infer_instance
/-- What a side has. -/
def whOf (d : Dk) (i : Nat) : Option (List Ch) := if HeadOk d i then parseT (sideT d i) (headC d i) else none
theorem parseT_rows {T : ByteArray} {k : Nat} {rows : List Ch} (h : parseT T k = some rows) : Rowed rows ∧ (∀ c ∈ rows, changeF c = 0) ∧ rows.length = k ∧ textL rows = T.data.toList := by
  unfold parseT at h
  cases hr : readAll (cutL T k) with
  | none => rw [hr] at h; cases h
  | some l =>
    rw [hr] at h
    simp only at h
    split at h
    · rename_i hc
      cases h
      obtain ⟨h1, h2⟩ := readAll_ok hr
      have e := (sameCL_iff _ _).1 hc.1
      refine ⟨by rw [← e]; exact applied_rowed Rowed.nil, h1, by rw [h2, cutL_length], by simpa using hc.2⟩
    · cases h
theorem whOf_rows {d : Dk} {i : Nat} {rows : List Ch} (h : whOf d i = some rows) : Rowed rows ∧ (∀ c ∈ rows, changeF c = 0) ∧ rows.length ≤ 12 := by
  unfold whOf at h
  split at h
  · rename_i hh
    obtain ⟨h1, h2, h3, -⟩ := parseT_rows h
    exact ⟨h1, h2, by rw [h3]; exact hh.1⟩
  · cases h
theorem sideT_40 {d : Dk} {i : Nat} (hF : Forty d.now) (h42 : 42 ≤ d.now.length) (hi : i ≤ 1) (hc : headC d i ≤ 12) : (sideT d i).size = 40 * headC d i := by
  unfold sideT
  rw [baL_size, flat_len (R := regionL d.now (2 + i * 12) (headC d i)) (fun x hx => hF x (List.mem_of_mem_drop (List.mem_of_mem_take hx))), regionL_length (by omega)]
  omega
theorem whole_says (p : Dp) (d : Dk) (i : Nat) (w W : World) (h : DiskAt w p d) (hup : d.down = false) (h42 : 42 ≤ d.now.length) (hi : i ≤ 1) (hb : Below w.heap.size w W) :
    Calls Try.prog 122 #[.pointer (some ⟨p.B, 0, none⟩), .int .i64 i] W (WholeSays w (whOf d i) W) := by
  refine (storeWhole_any p d i W (fun e w' => WholeSays w (whOf d i) W e w') (h.below hb) hup h42 hi ?_ ?_).mono (fun e w' h => h)
  · intro W' hb' hno
    exact ⟨hb', .inl ⟨by unfold whOf; rw [if_neg hno], rfl⟩⟩
  · intro hok W' hb'
    refine (storeParse_any (sideT d i) (headC d i) (sideT_40 h.snow h42 hi hok.1) hok.1 W').mono ?_
    rintro e w' ⟨hbl, hor⟩
    have ew : whOf d i = parseT (sideT d i) (headC d i) := by unfold whOf; rw [if_pos hok]
    rcases hor with ⟨hno, rfl⟩ | ⟨rows, va, vc, hyes, rfl, ho⟩
    · exact ⟨_, _, _, _, rfl, hb'.trans (hbl.mono hb'.size), .inl ⟨by rw [ew, hno], rfl⟩⟩
    · exact ⟨_, _, _, _, rfl, hb'.trans (hbl.mono hb'.size), .inr ⟨rows, va, vc, by rw [ew, hyes], rfl, OwnsC.base ho hb'.size⟩⟩
theorem laid_says (p : Dp) (d : Dk) (w : World) (h : DiskAt w p d) (hup : d.down = false) (h42 : 42 ≤ d.now.length) :
    Calls Try.prog 93 #[.pointer (some ⟨p.B, 0, none⟩)] w fun e w' => LaidSays w (whOf d) e w' :=
  storeLaid_any p d w (whOf d) h hup h42 (fun i hi W hb => whole_says p d i w W h hup h42 hi hb)
theorem laidX_some {wh : Nat → Option (List Ch)} {side : Nat} {rows : List Ch} (h : laidX wh = some (side, rows)) : side ≤ 1 ∧ wh side = some rows := by
  unfold laidX at h
  split at h
  · rename_i r hr; cases h; exact ⟨Nat.le_refl _, hr⟩
  · split at h
    · rename_i r hr; cases h; exact ⟨by omega, hr⟩
    · cases h

/-- Rows, and what becomes of them by deeds; none: too many. -/
def foldRows : List Ch → List (List Ch) → Option (List Ch)
  | r, [] => some r
  | r, c :: l => if 12 < (appliedC r c).length then none else foldRows (appliedC r c) l
def firstOf (d : Dk) (side : Nat) : Nat := 1 + (1 - side) * (d.now.length - 26)
def logAtD (d : Dk) (side : Nat) : List (List Ch) × Nat := logOf rdC d.now 26 (d.now.length - 26) (firstOf d side)
/-- What Open finds: the side, the rows, how many sectors of the log are taken. -/
def openD (d : Dk) : Option (Nat × List Ch × Nat) := match laidX (whOf d) with
  | none => none
  | some (side, rows) => match foldRows rows (logAtD d side).1 with
    | none => none
    | some r => some (side, r, (logAtD d side).2)
/-- A store in memory, with its log. -/
structure StoreOwn (w : World) (lo b : Nat) (s : St) (g : Lg) : Prop where
  at' : StoreAt w b s
  own : OwnsC w lo (.slice s.ra s.rows.length s.rc) s.rows
  log : LogAt w s.lb g
  low : lo ≤ b ∧ lo ≤ s.lb
section
variable {C : Type} (rd : List UInt8 → Option C)
/-- What is closed was read, and is no longer than what there is. -/
theorem runL_ok {Q : C → Prop} (hq : ∀ t c, rd t = some c → Q c) (first : Nat) : ∀ (l : List (List UInt8)) (i : Nat) (st : Pl C), (∀ D ∈ st.deeds, (∀ c ∈ D, Q c) ∧ D.length ≤ i) → ((∀ c ∈ st.opn, Q c) ∧ st.opn.length ≤ i) → ∀ D ∈ (runL rd first i st l).deeds, (∀ c ∈ D, Q c) ∧ D.length ≤ i + l.length
  | [], i, st, h1, h2, D, hD => by simpa using h1 D (by simpa [runL] using hD)
  | s :: r, i, st, h1, h2, D, hD => by
    cases hs : stepL rd first i st s with
    | none =>
      rw [runL, hs] at hD
      obtain ⟨a, b⟩ := h1 D hD
      exact ⟨a, by simp; omega⟩
    | some st' =>
      rw [runL, hs] at hD
      have key : (∀ D ∈ st'.deeds, (∀ c ∈ D, Q c) ∧ D.length ≤ i + 1) ∧ ((∀ c ∈ st'.opn, Q c) ∧ st'.opn.length ≤ i + 1) := by
        unfold stepL at hs
        split at hs
        · cases hs
        · split at hs
          · injection hs with hs
            subst hs
            refine ⟨fun D hD => ?_, by simp, by simp⟩
            rcases List.mem_append.1 hD with h | h
            · obtain ⟨a, b⟩ := h1 D h; exact ⟨a, by omega⟩
            · simp at h; subst h; exact ⟨h2.1, by omega⟩
          · split at hs
            · split at hs
              · rename_i c hc
                injection hs with hs
                subst hs
                refine ⟨fun D hD => by obtain ⟨a, b⟩ := h1 D hD; exact ⟨a, by omega⟩, fun x hx => ?_, by simp; omega⟩
                rcases List.mem_append.1 hx with h | h
                · exact h2.1 x h
                · simp at h; subst h; exact hq _ _ hc
              · cases hs
            · cases hs
      obtain ⟨a, b⟩ := runL_ok hq first r (i + 1) st' key.1 key.2 D hD
      exact ⟨a, by simp; omega⟩
theorem logOf_ok {Q : C → Prop} (hq : ∀ t c, rd t = some c → Q c) {now : List (List UInt8)} {from' many first : Nat} : ∀ D ∈ (logOf rd now from' many first).1, (∀ c ∈ D, Q c) ∧ D.length ≤ many := fun D hD => by
  obtain ⟨a, b⟩ := runL_ok rd hq first (regionL now from' many) 0 ⟨[], [], 0⟩ (by simp) (by simp) D hD
  have h2 : (regionL now from' many).length ≤ many := by simp [regionL]; omega
  exact ⟨a, by omega⟩
end
theorem rdC_ok : ∀ t c, rdC t = some c → changeF c = 0 := fun t c h => by
  unfold rdC readC at h
  split at h
  · cases h
  · split at h
    · rename_i h3; cases h; exact h3
    · cases h
theorem ds_below {w w' : World} {lo base : Nat} {vd vo : Value} {P : List PartC} {opn : List Ch} (h : DS w lo base vd vo P opn) (hb : Below w.heap.size w w') : DS w' lo base vd vo P opn :=
  h.far hb.size (fun k C T fr _ hk _ => hb.block k (Array.getElem?_eq_some_iff.1 hk).1)
theorem row_slice {w : World} {base : Nat} {T : TypeId} {size n : Nat} {v : Value} {xs : List Value} (h : w.ownsRow base T size v n xs) : ∃ a cap, v = .slice a n cap := by
  rcases h.2 with ⟨rfl, h0⟩ | ⟨g, cap, cur, rfl, _⟩
  · subst h0; exact ⟨_, _, rfl⟩
  · exact ⟨_, _, rfl⟩
/-- One deed among those that were read. -/
theorem ds_at {w : World} {lo base : Nat} {a : Option Addr} {cap : Nat} {vo : Value} {P : List PartC} {opn : List Ch} (h : DS w lo base (.slice a P.length cap) vo P opn) {i : Nat} (hi : i < P.length) :
    ∃ b off, a = some ⟨b, off, none⟩ ∧ w.cell? ⟨b, off + i, none⟩ = some (.slice P[i].a P[i].l.length P[i].cap) ∧ SliceC w P[i].a P[i].cap P[i].l := by
  have hp := h.parts P[i] (List.getElem_mem hi)
  obtain ⟨a', c', e, hcc, hnil, -⟩ := OwnsC.files (l := P[i].l) hp
  unfold PartC.v at e
  injection e with e1 e2 e3
  have hs : SliceC w P[i].a P[i].cap P[i].l := ⟨by rw [e1]; exact hcc, by rw [e1, e3]; exact hnil⟩
  rcases h.row.2 with ⟨e, h0⟩ | ⟨g, cap', cur, e, hB, hg, hn, hm, hcs, ht⟩
  · omega
  · injection e with e1' e2' e3'
    subst e1'
    refine ⟨g, 0, rfl, ?_, hs⟩
    have := h.row.cellAt (0 + i) (by omega)
    rw [Nat.zero_add] at this ⊢
    rw [this]
    rw [List.getElem?_map, List.getElem?_eq_getElem hi]
    rfl
end Go.Proofs.Ytihnghnafpgdfab
