/-
  THE WALKS OF slices.Grow AND slices.Concat AT FILES: the library's own text.
-/
import Derived.Test.YtihnghnafpgdfabShelfBase
import Derived.Lib.AppendZerosOnto
import Derived.Deep.LoopGhost
import Derived.Laws.AppendOwnNone
namespace Go.Proofs.Ytihnghnafpgdfab
open Go.RowKit
set_option linter.unusedVariables false
set_option linter.unusedSimpArgs false

theorem Try.infoFile : (Try.prog.info? 41).map (fun i => (i.zero, i.size, i.bytes)) = some (some (.agg #[.string ⟨#[]⟩, .string ⟨#[]⟩, .int .i64 0]), 3, 40) := by kernel_rfl

/-- The cells of files, one behind the other. -/
def flat : List Fi → List Value
  | [] => []
  | f :: r => .string f.n :: .string f.t :: .int .i64 f.k :: flat r

theorem flat_length : ∀ l : List Fi, (flat l).length = l.length * 3
  | [] => rfl
  | f :: r => by simp only [flat, List.length_cons, flat_length r]; omega
theorem flat_append : ∀ l m : List Fi, flat (l ++ m) = flat l ++ flat m
  | [], m => rfl
  | f :: r, m => by simp only [List.cons_append, flat, flat_append r m]
theorem flat_one : ∀ l : List Fi, ∀ u ∈ flat l, u.oneCell' = true
  | [], u, h => by simp [flat] at h
  | f :: r, u, h => by
    simp only [flat, List.mem_cons] at h
    rcases h with rfl | rfl | rfl | h
    · rfl
    · rfl
    · rfl
    · exact flat_one r u h
theorem flat_at : ∀ (l : List Fi) (i : Nat) (h : i < l.length), (flat l)[i * 3]? = some (.string l[i].n) ∧ (flat l)[i * 3 + 1]? = some (.string l[i].t) ∧ (flat l)[i * 3 + 2]? = some (.int .i64 l[i].k)
  | f :: r, 0, h => by simp [flat]
  | f :: r, i + 1, h => by
    have ih := flat_at r i (by simpa using h)
    simp only [flat, List.getElem_cons_succ]
    rw [show (i + 1) * 3 = i * 3 + 1 + 1 + 1 by omega]
    simpa [Nat.add_assoc] using ih

/-- What a slice's cells give, one by one. -/
theorem Cells.flat {w : World} {b off : Nat} {l : List Fi} (h : Cells w (some ⟨b, off, none⟩) l) : ∀ j u, (flat l)[j]? = some u → w.cell? ((⟨b, off, none⟩ : Addr).add j) = some u := by
  intro j u hu
  have hj : j < (Go.Proofs.Ytihnghnafpgdfab.flat l).length := by
    rcases Nat.lt_or_ge j (Go.Proofs.Ytihnghnafpgdfab.flat l).length with h1 | h1
    · exact h1
    · rw [List.getElem?_eq_none h1] at hu; exact absurd hu (by simp)
  rw [flat_length] at hj
  obtain ⟨b', off', e, c0, c1, c2⟩ := h (j / 3) (by omega)
  cases e
  obtain ⟨f0, f1, f2⟩ := flat_at l (j / 3) (by omega)
  have hadd : (⟨b, off, none⟩ : Addr).add j = ⟨b, off + j, none⟩ := by unfold Addr.add; split <;> simp_all
  rw [hadd]
  have h3 : j = j / 3 * 3 ∨ j = j / 3 * 3 + 1 ∨ j = j / 3 * 3 + 2 := by omega
  rcases h3 with h3 | h3 | h3
  · rw [h3, f0] at hu
    rw [h3, ← hu]
    exact c0
  · rw [h3, f1] at hu
    rw [h3, ← hu, ← Nat.add_assoc]
    exact c1
  · rw [h3, f2] at hu
    rw [h3, ← hu, ← Nat.add_assoc]
    exact c2

/-- Files in memory of one's own. -/
abbrev Owns (w : World) (base : Nat) (v : Value) (l : List Fi) : Prop := w.ownsRow base 41 3 v l.length (flat l)

theorem Owns.files {w : World} {base : Nat} {v : Value} {l : List Fi} (h : Owns w base v l) : ∃ a cap, v = .slice a l.length cap ∧ Cells w a l ∧ (a = none → cap = 0) ∧ cap ≤ maxLen ∧ l.length ≤ cap ∧ (∀ x, a = some x → base ≤ x.block ∧ x.off = 0 ∧ x.spot = none) := by
  rcases h.2 with ⟨rfl, h0⟩ | ⟨g, cap, cur, rfl, hb, hg, hn, hm, hs, ht⟩
  · have e : l = [] := List.eq_nil_of_length_eq_zero h0
    subst e
    exact ⟨none, 0, rfl, Cells.nil _ _, fun _ => rfl, Nat.zero_le _, Nat.le_refl _, fun x hx => by cases hx⟩
  · refine ⟨some ⟨g, 0, none⟩, cap, rfl, ?_, (fun h => by cases h), hm, hn, (fun x hx => by cases hx; exact ⟨hb, rfl, rfl⟩)⟩
    intro i hi
    obtain ⟨f0, f1, f2⟩ := flat_at l i hi
    refine ⟨g, 0, rfl, ?_, ?_, ?_⟩
    · rw [h.cellAt (0 + i * 3) (by omega), Nat.zero_add]; exact f0
    · rw [h.cellAt (0 + i * 3 + 1) (by omega), Nat.zero_add]; exact f1
    · rw [h.cellAt (0 + i * 3 + 2) (by omega), Nat.zero_add]; exact f2

theorem zeros_size (z : Array Value) (n : Nat) : (Builtin.zeroCells z n).size = n * z.size := by simp [Builtin.zeroCells]

set_option maxRecDepth 100000 in
set_option maxHeartbeats 1000000 in
theorem grow_any (n : Nat) (w : World) (hn : n ≤ 1000) :
    Calls Try.prog 146 #[.slice none 0 0, .int .i64 n] w fun e w' => ∃ v, e = .returned v ∧ Owns w' w.heap.size v [] ∧ Below w.heap.size w w' := by
  by_cases h0 : n = 0
  · subst h0
    go_enter Try.func146, Try.ntmps146
    go_wp2
    go_ret
    exact ⟨_, rfl, World.ownsRow_nil _ _ _ _, Below.refl _ _⟩
  · obtain ⟨i0, hi, hz0, hz1, hz2⟩ := info_parts Try.infoFile
    have hpos : (0 : Int) < (n : Int) := by omega
    have hby : Try.t41.bytes = 40 := by kernel_rfl
    have hns : Builtin.nextslicecap n 0 = n := nextslicecap_zero (by omega)
    have hge := grownCap_ge w n 0 41
    have hle := grownCap_le_maxLen w n 0 41 (by unfold maxLen; omega)
    have HGE : Hid (n ≤ grownCap w n 0 41) := hge
    have HLE : Hid (grownCap w n 0 41 ≤ maxLen) := hle
    clear hge hle
    go_enter Try.func146, Try.ntmps146
    go_wp2
    go_ret
    refine ⟨_, rfl, ?_, (Below.refl _ _).drew.alloc (Nat.le_refl _) _⟩
    refine World.ownsRow_made w.drew _ _ (Nat.le_refl _) HLE.out ?_
    have h1 := HGE.out
    simp only [grownCap] at h1
    simp [zeros_size]
    omega

/-- A piece that is joined: a slice, and what it holds. -/
structure Part where
  a : Option Addr
  cap : Nat
  l : List Fi

def Part.v (p : Part) : Value := .slice p.a p.l.length p.cap
def joined (P : List Part) : List Fi := P.flatMap (fun p => p.l)

/-- The pieces lie in a row of slices, each with its files, none in memory from B on. -/
def Parts (w : World) (B : Nat) (P : List Part) : Prop :=
  ∀ i (h : i < P.length), w.cell? ⟨B, i, none⟩ = some (.slice P[i].a P[i].l.length P[i].cap) ∧ Cells w P[i].a P[i].l ∧ (P[i].a = none → P[i].cap = 0) ∧ (∀ x, P[i].a = some x → P[i].l = [] ∨ x.spot = none)

theorem Parts.below {w w' : World} {B : Nat} {P : List Part} (h : Parts w B P) (hb : Below w.heap.size w w') : Parts w' B P := by
  intro i hi
  obtain ⟨h1, h2, h3, h4⟩ := h i hi
  exact ⟨by rw [hb.cell (World.block_lt_of_cell? _ _ h1)]; exact h1, h2.below hb, h3, h4⟩

def lens : List Part → Nat
  | [] => 0
  | p :: r => p.l.length + lens r
theorem lens_snoc : ∀ (P : List Part) (k : Nat) (h : k < P.length), lens (P.take (k + 1)) = lens (P.take k) + P[k].l.length
  | p :: r, 0, h => by simp [lens]
  | p :: r, k + 1, h => by
    have := lens_snoc r k (by simpa using h)
    simp only [List.take_succ_cons, lens, List.getElem_cons_succ, this]
    omega
theorem lens_le : ∀ (P : List Part) (k : Nat), lens (P.take k) ≤ lens P
  | [], k => by simp [lens]
  | p :: r, 0 => by simp [lens]
  | p :: r, k + 1 => by
    have := lens_le r k
    simp only [List.take_succ_cons, lens]
    omega
theorem joined_length : ∀ P : List Part, (joined P).length = lens P
  | [] => rfl
  | p :: r => by
    have := joined_length r
    simp only [joined, List.flatMap_cons, List.length_append, lens] at *
    omega
theorem joined_snoc (P : List Part) (k : Nat) (h : k < P.length) : joined (P.take (k + 1)) = joined (P.take k) ++ P[k].l := by
  unfold joined
  rw [takeSucc P k h, List.flatMap_append]
  simp only [List.flatMap_cons, List.flatMap_nil, List.append_nil]

set_option maxRecDepth 100000 in
set_option maxHeartbeats 1000000 in
theorem concat_any (B m : Nat) (P : List Part) (w : World) (hm : P.length = m) (hfew : P.length ≤ 10) (hlen : lens P ≤ 1000) (hp : Parts w B P) :
    Calls Try.prog 113 #[.slice (some ⟨B, 0, none⟩) m m] w fun e w' => ∃ v, e = .returned v ∧ Owns w' w.heap.size v (joined P) ∧ Below w.heap.size w w' := by
  obtain ⟨i0, hi, hz0, hz1, hz2⟩ := info_parts Try.infoFile
  have HP : Hid (Parts w B P) := hp
  clear hp
  subst hm
  go_enter Try.func113, Try.ntmps113
  go_wp2_with fail
  go_loop [3, 11] (fun s i => ∃ k : Nat, k ≤ P.length ∧ i = .int .i64 k ∧ s = .int .i64 (lens (P.take k))) (fun _ i => P.length - (intOf i).toNat)
  case atStart => exact ⟨0, Nat.zero_le _, rfl, rfl⟩
  case round =>
    obtain ⟨k, hk, rfl, rfl⟩ := hrel
    have hl1 := lens_le P k
    by_cases hlt : k < P.length
    · obtain ⟨c0, _, _, _⟩ := HP.out k hlt
      have hl2 := lens_le P (k + 1)
      have hsn := lens_snoc P k hlt
      have HSN : Hid (lens (P.take (k + 1)) = lens (P.take k) + P[k].l.length) := hsn
      have hl3 : lens (P.take k) + P[k].l.length ≤ 1000 := by omega
      clear hsn hl2
      go_wp2
      exact ⟨⟨k + 1, by omega, by go_num, by rw [HSN.out]; go_num⟩, by simp [intOf]; omega⟩
    · go_wp2_with fail
      refine (grow_any (lens (P.take k)) w (by omega)).mono ?_
      rintro e w1 ⟨v, rfl, hown, hb⟩
      have X : Aside (Owns w1 w.heap.size v [] ∧ Below w.heap.size w w1) := ⟨hown, hb⟩
      clear hown hb
      go_wp2_with fail
      go_loopw [6, 27] (fun v i wr => ∃ j : Nat, j ≤ P.length ∧ i = .int .i64 j ∧ Owns wr w.heap.size v (joined (P.take j)) ∧ Below w.heap.size w wr) (fun _ i _ => P.length - (intOf i).toNat)
      case atStart => exact ⟨0, Nat.zero_le _, rfl, X.out.1, X.out.2⟩
      case round =>
        obtain ⟨j, hj, rfl, hown, hb⟩ := hrel
        have HB : Hid (Below w.heap.size w wr) := hb
        have hsz := hb.size
        clear hb
        have hjl : (joined (P.take j)).length ≤ 1000 := by rw [joined_length]; have := lens_le P j; omega
        by_cases hltj : j < P.length
        · obtain ⟨c0, hcl, hnone, hspot⟩ := HP.out.below HB.out j hltj
          have hjs := joined_snoc P j hltj
          have HJS : Hid (joined (P.take (j + 1)) = joined (P.take j) ++ P[j].l) := hjs
          have hl2 : P[j].l.length ≤ 1000 := by have h1 := lens_snoc P j hltj; have h2 := lens_le P (j + 1); omega
          clear hjs
          generalize P[j].a = pa at *
          generalize P[j].cap = pc at *
          generalize P[j].l = pl at *
          cases pa with
          | none =>
            have e : pl = [] := by
              cases pl with
              | nil => rfl
              | cons f r => obtain ⟨_, _, e, _⟩ := hcl 0 (by simp); cases e
            subst e
            have e := hnone rfl
            subst e
            clear hcl hnone hspot
            have HOWN : Hid (Owns wr w.heap.size u6 (joined (P.take j))) := hown
            clear hown
            go_wp2_with (at_builtin; refine wpList_append_own_none rfl _ _ 28 rfl w.heap.size 41 i0 3 Try.underlying28 hi _ _ _ rfl HOWN.out rfl ?_)
            refine ⟨⟨j + 1, by omega, by go_num, ?_, HB.out⟩, by simp [intOf]; omega⟩
            rw [HJS.out, List.append_nil]
            exact HOWN.out
          | some x =>
            have hcells : ∀ q u, (flat pl)[q]? = some u → wr.cell? (x.add q) = some u := by
              rcases hspot x rfl with rfl | hsp
              · intro q u hu; simp [flat] at hu
              · obtain ⟨xb, xo, xs⟩ := x
                simp at hsp
                subst hsp
                exact hcl.flat
            have HCL : Hid (∀ q u, (flat pl)[q]? = some u → wr.cell? (x.add q) = some u) := hcells
            clear hcells hcl hnone hspot
            have HOWN : Hid (Owns wr w.heap.size u6 (joined (P.take j))) := hown
            clear hown
            go_wp2_with (at_builtin; refine (wpList_append_own _ rfl _ _ 28 rfl w.heap.size 41 i0 _ 3 40 Try.underlying28 hi hz0 hz1 hz2 rfl (by decide) _ _ _ rfl HOWN.out x pl.length pc (flat pl) rfl (flat_length _) HCL.out (flat_one _) (by unfold maxLen; omega) (by omega) (by omega) ?_); intro v' w3 hown' hgrow3 hnil3)
            refine ⟨⟨j + 1, by omega, by go_num, ?_, ?_⟩, by simp [intOf]; omega⟩
            · rw [HJS.out]
              show World.ownsRow _ _ _ _ _ _ _
              rw [flat_append, List.length_append]
              exact hown'
            · exact HB.out.grown hgrow3 hsz (fun q hq => (HOWN.out.lt q hq).1)
        · go_wp2
          go_ret
          rw [takeAll P j (by omega)] at hown
          exact ⟨_, rfl, hown, HB.out⟩

theorem Cells.take {w : World} {a : Option Addr} {l : List Fi} (h : Cells w a l) (p : Nat) : Cells w a (l.take p) := by
  intro i hi
  simp only [List.length_take] at hi
  obtain ⟨b, off, e, c0, c1, c2⟩ := h i (by omega)
  exact ⟨b, off, e, by simpa using c0, by simpa using c1, by simpa using c2⟩

theorem Cells.drop {w : World} {x : Addr} {l : List Fi} (h : Cells w (some x) l) (p : Nat) : Cells w (some (x.add (p * 3))) (l.drop p) := by
  intro i hi
  simp only [List.length_drop] at hi
  obtain ⟨b, off, e, c0, c1, c2⟩ := h (p + i) (by omega)
  cases e
  refine ⟨b, off + p * 3, ?_, ?_, ?_, ?_⟩
  · unfold Addr.add; split <;> simp_all
  · rw [show off + p * 3 + i * 3 = off + (p + i) * 3 by omega]; simpa using c0
  · rw [show off + p * 3 + i * 3 + 1 = off + (p + i) * 3 + 1 by omega]; simpa using c1
  · rw [show off + p * 3 + i * 3 + 2 = off + (p + i) * 3 + 2 by omega]; simpa using c2

theorem Cells.one (w : World) (f : Fi) (t : TypeId) : Cells (w.alloc (.cells #[.string f.n, .string f.t, .int .i64 f.k] t)) (some ⟨w.heap.size, 0, none⟩) [f] := by
  intro i hi
  have e : i = 0 := by simp at hi; exact hi
  subst e
  exact ⟨w.heap.size, 0, rfl, by simp [go_sem], by simp [go_sem], by simp [go_sem]⟩

/-- A piece is as it should be. -/
structure PartOk (w : World) (p : Part) : Prop where
  cells : Cells w p.a p.l
  nil : p.a = none → p.cap = 0
  spot : ∀ x, p.a = some x → p.l = [] ∨ x.spot = none

theorem Cells.spot {w : World} {a : Option Addr} {l : List Fi} (h : Cells w a l) : ∀ x, a = some x → l = [] ∨ x.spot = none := by
  intro x hx
  cases l with
  | nil => exact .inl rfl
  | cons f r =>
    obtain ⟨b, off, e, _⟩ := h 0 (by simp)
    rw [hx] at e
    cases e
    exact .inr rfl

theorem parts3 {W : World} {B : Nat} {p q r : Part} (c0 : W.cell? ⟨B, 0, none⟩ = some p.v) (c1 : W.cell? ⟨B, 1, none⟩ = some q.v) (c2 : W.cell? ⟨B, 2, none⟩ = some r.v) (hp : PartOk W p) (hq : PartOk W q) (hr : PartOk W r) : Parts W B [p, q, r] := by
  intro i hi
  have h : i = 0 ∨ i = 1 ∨ i = 2 := by simp at hi; omega
  rcases h with rfl | rfl | rfl
  · exact ⟨c0, hp.cells, hp.nil, hp.spot⟩
  · exact ⟨c1, hq.cells, hq.nil, hq.spot⟩
  · exact ⟨c2, hr.cells, hr.nil, hr.spot⟩

theorem parts2 {W : World} {B : Nat} {p q : Part} (c0 : W.cell? ⟨B, 0, none⟩ = some p.v) (c1 : W.cell? ⟨B, 1, none⟩ = some q.v) (hp : PartOk W p) (hq : PartOk W q) : Parts W B [p, q] := by
  intro i hi
  have h : i = 0 ∨ i = 1 := by simp at hi; omega
  rcases h with rfl | rfl
  · exact ⟨c0, hp.cells, hp.nil, hp.spot⟩
  · exact ⟨c1, hq.cells, hq.nil, hq.spot⟩

theorem Owns.base {w : World} {B B' : Nat} {v : Value} {l : List Fi} (h : Owns w B v l) (hb : B' ≤ B) : Owns w B' v l := by
  refine ⟨h.1, ?_⟩
  rcases h.2 with h0 | ⟨g, cap, cur, e, hg, rest⟩
  · exact .inl h0
  · exact .inr ⟨g, cap, cur, e, by omega, rest⟩

end Go.Proofs.Ytihnghnafpgdfab
