/-
  THE WALKS OF shelf.Get AND WHAT IT CALLS: a file's place is found by a closure; and of the document's answer to B1.
  THE WALKS OF slices.Grow AND slices.Concat AT FILES: the library's own text.
  THE WALKS OF THE DOCUMENT's ANSWER TO B2.
  THE WALKS OF shelf.Check AND OF THE DOCUMENT's ANSWER TO B3.
  THE WALKS OF shelf.Get AND OF SameFiles.
  THE WALK OF shelf.Drop.
-/
import Derived.Test.YtihnghnafpgdfabDoorShelfBase
import Derived.Lib.AppendZerosOnto
import Derived.Deep.LoopGhost
import Derived.Laws.AppendOwnNone
import Derived.Deep.RegionWith
namespace Go.Proofs.YtihnghnafpgdfabDoor
open Go.RowKit
set_option linter.unusedVariables false
set_option linter.unusedSimpArgs false

def getV : Option Fi → Value
  | some f => .tuple #[.agg #[.string f.n, .string f.t, .int .i64 f.k], .bool true]
  | none => .tuple #[.agg #[.string ⟨#[]⟩, .string ⟨#[]⟩, .int .i64 0], .bool false]

end Go.Proofs.YtihnghnafpgdfabDoor
namespace Go.Proofs.YtihnghnafpgdfabDoor
open Go.RowKit
set_option linter.unusedVariables false
set_option linter.unusedSimpArgs false

theorem Tryd.infoFile : (Tryd.prog.info? 53).map (fun i => (i.zero, i.size, i.bytes)) = some (some (.agg #[.string ⟨#[]⟩, .string ⟨#[]⟩, .int .i64 0]), 3, 40) := by kernel_rfl

/-- The cells of files, one behind the other. -/
def flat : List Fi → List Value
  | [] => []
  | f :: r => .string f.n :: .string f.t :: .int .i64 f.k :: flat r

theorem flat_length : ∀ l : List Fi, (flat l).length = l.length * 3
  | [] => rfl
  | f :: r => by simp only [flat, List.length_cons, flat_length r]; omega
theorem flat_append : ∀ l m : List Fi, flat (l ++ m) = flat l ++ flat m
  | [], m => rfl
  | f :: r, m => by simp only [List.cons_append, flat, flat_append r m]
theorem flat_one : ∀ l : List Fi, ∀ u ∈ flat l, u.oneCell' = true
  | [], u, h => by simp [flat] at h
  | f :: r, u, h => by
    simp only [flat, List.mem_cons] at h
    rcases h with rfl | rfl | rfl | h
    · rfl
    · rfl
    · rfl
    · exact flat_one r u h
theorem flat_at : ∀ (l : List Fi) (i : Nat) (h : i < l.length), (flat l)[i * 3]? = some (.string l[i].n) ∧ (flat l)[i * 3 + 1]? = some (.string l[i].t) ∧ (flat l)[i * 3 + 2]? = some (.int .i64 l[i].k)
  | f :: r, 0, h => by simp [flat]
  | f :: r, i + 1, h => by
    have ih := flat_at r i (by simpa using h)
    simp only [flat, List.getElem_cons_succ]
    rw [show (i + 1) * 3 = i * 3 + 1 + 1 + 1 by omega]
    simpa [Nat.add_assoc] using ih

/-- What a slice's cells give, one by one. -/
theorem Cells.flat {w : World} {b off : Nat} {l : List Fi} (h : Cells w (some ⟨b, off, none⟩) l) : ∀ j u, (flat l)[j]? = some u → w.cell? ((⟨b, off, none⟩ : Addr).add j) = some u := by
  intro j u hu
  have hj : j < (Go.Proofs.YtihnghnafpgdfabDoor.flat l).length := by
    rcases Nat.lt_or_ge j (Go.Proofs.YtihnghnafpgdfabDoor.flat l).length with h1 | h1
    · exact h1
    · rw [List.getElem?_eq_none h1] at hu; exact absurd hu (by simp)
  rw [flat_length] at hj
  obtain ⟨b', off', e, c0, c1, c2⟩ := h (j / 3) (by omega)
  cases e
  obtain ⟨f0, f1, f2⟩ := flat_at l (j / 3) (by omega)
  have hadd : (⟨b, off, none⟩ : Addr).add j = ⟨b, off + j, none⟩ := by unfold Addr.add; split <;> simp_all
  rw [hadd]
  have h3 : j = j / 3 * 3 ∨ j = j / 3 * 3 + 1 ∨ j = j / 3 * 3 + 2 := by omega
  rcases h3 with h3 | h3 | h3
  · rw [h3, f0] at hu
    rw [h3, ← hu]
    exact c0
  · rw [h3, f1] at hu
    rw [h3, ← hu, ← Nat.add_assoc]
    exact c1
  · rw [h3, f2] at hu
    rw [h3, ← hu, ← Nat.add_assoc]
    exact c2

/-- Files in memory of one's own. -/
abbrev Owns (w : World) (base : Nat) (v : Value) (l : List Fi) : Prop := w.ownsRow base 53 3 v l.length (flat l)

theorem Owns.files {w : World} {base : Nat} {v : Value} {l : List Fi} (h : Owns w base v l) : ∃ a cap, v = .slice a l.length cap ∧ Cells w a l ∧ (a = none → cap = 0) ∧ cap ≤ maxLen ∧ l.length ≤ cap ∧ (∀ x, a = some x → base ≤ x.block ∧ x.off = 0 ∧ x.spot = none) := by
  rcases h.2 with ⟨rfl, h0⟩ | ⟨g, cap, cur, rfl, hb, hg, hn, hm, hs, ht⟩
  · have e : l = [] := List.eq_nil_of_length_eq_zero h0
    subst e
    exact ⟨none, 0, rfl, Cells.nil _ _, fun _ => rfl, Nat.zero_le _, Nat.le_refl _, fun x hx => by cases hx⟩
  · refine ⟨some ⟨g, 0, none⟩, cap, rfl, ?_, (fun h => by cases h), hm, hn, (fun x hx => by cases hx; exact ⟨hb, rfl, rfl⟩)⟩
    intro i hi
    obtain ⟨f0, f1, f2⟩ := flat_at l i hi
    refine ⟨g, 0, rfl, ?_, ?_, ?_⟩
    · rw [h.cellAt (0 + i * 3) (by omega), Nat.zero_add]; exact f0
    · rw [h.cellAt (0 + i * 3 + 1) (by omega), Nat.zero_add]; exact f1
    · rw [h.cellAt (0 + i * 3 + 2) (by omega), Nat.zero_add]; exact f2

theorem zeros_size (z : Array Value) (n : Nat) : (Builtin.zeroCells z n).size = n * z.size := by simp [Builtin.zeroCells]

/-- A piece that is joined: a slice, and what it holds. -/
structure Part where
  a : Option Addr
  cap : Nat
  l : List Fi

def Part.v (p : Part) : Value := .slice p.a p.l.length p.cap
def joined (P : List Part) : List Fi := P.flatMap (fun p => p.l)

/-- The pieces lie in a row of slices, each with its files, none in memory from B on. -/
def Parts (w : World) (B : Nat) (P : List Part) : Prop :=
  ∀ i (h : i < P.length), w.cell? ⟨B, i, none⟩ = some (.slice P[i].a P[i].l.length P[i].cap) ∧ Cells w P[i].a P[i].l ∧ (P[i].a = none → P[i].cap = 0) ∧ (∀ x, P[i].a = some x → P[i].l = [] ∨ x.spot = none)

theorem Parts.below {w w' : World} {B : Nat} {P : List Part} (h : Parts w B P) (hb : Below w.heap.size w w') : Parts w' B P := by
  intro i hi
  obtain ⟨h1, h2, h3, h4⟩ := h i hi
  exact ⟨by rw [hb.cell (World.block_lt_of_cell? _ _ h1)]; exact h1, h2.below hb, h3, h4⟩

def lens : List Part → Nat
  | [] => 0
  | p :: r => p.l.length + lens r
theorem lens_snoc : ∀ (P : List Part) (k : Nat) (h : k < P.length), lens (P.take (k + 1)) = lens (P.take k) + P[k].l.length
  | p :: r, 0, h => by simp [lens]
  | p :: r, k + 1, h => by
    have := lens_snoc r k (by simpa using h)
    simp only [List.take_succ_cons, lens, List.getElem_cons_succ, this]
    omega
theorem lens_le : ∀ (P : List Part) (k : Nat), lens (P.take k) ≤ lens P
  | [], k => by simp [lens]
  | p :: r, 0 => by simp [lens]
  | p :: r, k + 1 => by
    have := lens_le r k
    simp only [List.take_succ_cons, lens]
    omega
theorem joined_length : ∀ P : List Part, (joined P).length = lens P
  | [] => rfl
  | p :: r => by
    have := joined_length r
    simp only [joined, List.flatMap_cons, List.length_append, lens] at *
    omega
theorem joined_snoc (P : List Part) (k : Nat) (h : k < P.length) : joined (P.take (k + 1)) = joined (P.take k) ++ P[k].l := by
  unfold joined
  rw [takeSucc P k h, List.flatMap_append]
  simp only [List.flatMap_cons, List.flatMap_nil, List.append_nil]

theorem Cells.take {w : World} {a : Option Addr} {l : List Fi} (h : Cells w a l) (p : Nat) : Cells w a (l.take p) := by
  intro i hi
  simp only [List.length_take] at hi
  obtain ⟨b, off, e, c0, c1, c2⟩ := h i (by omega)
  exact ⟨b, off, e, by simpa using c0, by simpa using c1, by simpa using c2⟩

theorem Cells.drop {w : World} {x : Addr} {l : List Fi} (h : Cells w (some x) l) (p : Nat) : Cells w (some (x.add (p * 3))) (l.drop p) := by
  intro i hi
  simp only [List.length_drop] at hi
  obtain ⟨b, off, e, c0, c1, c2⟩ := h (p + i) (by omega)
  cases e
  refine ⟨b, off + p * 3, ?_, ?_, ?_, ?_⟩
  · unfold Addr.add; split <;> simp_all
  · rw [show off + p * 3 + i * 3 = off + (p + i) * 3 by omega]; simpa using c0
  · rw [show off + p * 3 + i * 3 + 1 = off + (p + i) * 3 + 1 by omega]; simpa using c1
  · rw [show off + p * 3 + i * 3 + 2 = off + (p + i) * 3 + 2 by omega]; simpa using c2

theorem Cells.one (w : World) (f : Fi) (t : TypeId) : Cells (w.alloc (.cells #[.string f.n, .string f.t, .int .i64 f.k] t)) (some ⟨w.heap.size, 0, none⟩) [f] := by
  intro i hi
  have e : i = 0 := by simp at hi; exact hi
  subst e
  exact ⟨w.heap.size, 0, rfl, by simp [go_sem], by simp [go_sem], by simp [go_sem]⟩

/-- A piece is as it should be. -/
structure PartOk (w : World) (p : Part) : Prop where
  cells : Cells w p.a p.l
  nil : p.a = none → p.cap = 0
  spot : ∀ x, p.a = some x → p.l = [] ∨ x.spot = none

theorem Cells.spot {w : World} {a : Option Addr} {l : List Fi} (h : Cells w a l) : ∀ x, a = some x → l = [] ∨ x.spot = none := by
  intro x hx
  cases l with
  | nil => exact .inl rfl
  | cons f r =>
    obtain ⟨b, off, e, _⟩ := h 0 (by simp)
    rw [hx] at e
    cases e
    exact .inr rfl

theorem parts3 {W : World} {B : Nat} {p q r : Part} (c0 : W.cell? ⟨B, 0, none⟩ = some p.v) (c1 : W.cell? ⟨B, 1, none⟩ = some q.v) (c2 : W.cell? ⟨B, 2, none⟩ = some r.v) (hp : PartOk W p) (hq : PartOk W q) (hr : PartOk W r) : Parts W B [p, q, r] := by
  intro i hi
  have h : i = 0 ∨ i = 1 ∨ i = 2 := by simp at hi; omega
  rcases h with rfl | rfl | rfl
  · exact ⟨c0, hp.cells, hp.nil, hp.spot⟩
  · exact ⟨c1, hq.cells, hq.nil, hq.spot⟩
  · exact ⟨c2, hr.cells, hr.nil, hr.spot⟩

theorem parts2 {W : World} {B : Nat} {p q : Part} (c0 : W.cell? ⟨B, 0, none⟩ = some p.v) (c1 : W.cell? ⟨B, 1, none⟩ = some q.v) (hp : PartOk W p) (hq : PartOk W q) : Parts W B [p, q] := by
  intro i hi
  have h : i = 0 ∨ i = 1 := by simp at hi; omega
  rcases h with rfl | rfl
  · exact ⟨c0, hp.cells, hp.nil, hp.spot⟩
  · exact ⟨c1, hq.cells, hq.nil, hq.spot⟩

theorem Owns.base {w : World} {B B' : Nat} {v : Value} {l : List Fi} (h : Owns w B v l) (hb : B' ≤ B) : Owns w B' v l := by
  refine ⟨h.1, ?_⟩
  rcases h.2 with h0 | ⟨g, cap, cur, e, hg, rest⟩
  · exact .inl h0
  · exact .inr ⟨g, cap, cur, e, by omega, rest⟩

end Go.Proofs.YtihnghnafpgdfabDoor
namespace Go.Proofs.YtihnghnafpgdfabDoor
open Go.RowKit
set_option linter.unusedVariables false
set_option linter.unusedSimpArgs false

theorem getV_none : getV none = .tuple #[.agg #[.string ⟨#[]⟩, .string ⟨#[]⟩, .int .i64 0], .bool false] := rfl
theorem getV_some (f : Fi) : getV (some f) = .tuple #[.agg #[.string f.n, .string f.t, .int .i64 f.k], .bool true] := rfl

theorem cell_three_new (w : World) (a b c : Value) (t : TypeId) : ∀ j u, [a, b, c][j]? = some u → (w.alloc (.cells #[a, b, c] t)).cell? ((⟨w.heap.size, 0, none⟩ : Addr).add j) = some u := by
  intro j u hj
  match j, hj with
  | 0, hj => simp at hj; subst hj; simp [Addr.add]
  | 1, hj => simp at hj; subst hj; simp [Addr.add]
  | 2, hj => simp at hj; subst hj; simp [Addr.add]
  | j + 3, hj => simp at hj

theorem three_one (f : Fi) : ∀ u ∈ [Value.string f.n, .string f.t, .int .i64 f.k], u.oneCell' = true := by
  intro u hu
  simp at hu
  rcases hu with rfl | rfl | rfl <;> rfl

theorem Owns.snoc {w : World} {B : Nat} {v : Value} {l : List Fi} {f : Fi} (h : w.ownsRow B 53 3 v (l.length + 1) (flat l ++ [.string f.n, .string f.t, .int .i64 f.k])) : Owns w B v (l ++ [f]) := by
  show World.ownsRow _ _ _ _ _ _ _
  rw [flat_append, List.length_append]
  exact h

theorem Owns.drewN {w : World} {B : Nat} {v : Value} {l : List Fi} (h : Owns w B v l) (n : Nat) : Owns (w.drewN n) B v l := h

theorem dropR_snoc (l : List Fi) (name : ByteArray) (k : Nat) (h : k < l.length) : dropR (l.take (k + 1)) name = dropR (l.take k) name ++ (if (l[k].n.toList == name.toList) = true then [] else [l[k]]) := by
  unfold dropR
  rw [takeSucc l k h, List.filter_append]
  cases he : l[k].n.toList == name.toList <;> simp [he]

/-- What the loop of PutFile makes of the rest, with a list made so far, and whether the file is laid. -/
def putS (f : Fi) : List Fi → Bool → List Fi → List Fi
  | out, laid, [] => if laid = true then out else out ++ [f]
  | out, laid, g :: r => putS f ((if laid = false ∧ ltB g.n f.n = false then out ++ [f] else out) ++ (if g.n = f.n then [] else [g])) (laid || !ltB g.n f.n) r

theorem putS_eq (f : Fi) : ∀ (l out : List Fi) (laid : Bool), putS f out laid l = out ++ putR f laid l
  | [], out, laid => by cases laid <;> simp [putS, putR]
  | g :: r, out, laid => by
    simp only [putS, putR]
    rw [putS_eq f r]
    cases laid <;> cases ltB g.n f.n <;> by_cases hn : g.n = f.n <;> simp [hn]

theorem putS_step (f : Fi) (l out : List Fi) (laid : Bool) (k : Nat) (h : k < l.length) : putS f out laid (l.drop k) = putS f ((if laid = false ∧ ltB l[k].n f.n = false then out ++ [f] else out) ++ (if l[k].n = f.n then [] else [l[k]])) (laid || !ltB l[k].n f.n) (l.drop (k + 1)) := by
  rw [List.drop_eq_getElem_cons h]; rfl

end Go.Proofs.YtihnghnafpgdfabDoor
namespace Go.Proofs.YtihnghnafpgdfabDoor
open Go.RowKit
set_option linter.unusedVariables false
set_option linter.unusedSimpArgs false

theorem bcell {W w1 : World} (hb : Below W.heap.size W w1) : (∀ b o, b < W.heap.size → w1.cell? ⟨b, o, none⟩ = W.cell? ⟨b, o, none⟩) ∧ (∀ b o, b < W.heap.size → w1.frozen? ⟨b, o, none⟩ = W.frozen? ⟨b, o, none⟩) :=
  ⟨fun b o h => hb.cell (p := ⟨b, o, none⟩) h, fun b o h => hb.frozen (p := ⟨b, o, none⟩) h⟩

theorem fault_next {l : List Fi} {k : Nat} (h : ∀ i, i < k → faultAt l i = 0) (hk : faultAt l k = 0) : ∀ i, i < k + 1 → faultAt l i = 0 := by
  intro i hi
  rcases Nat.lt_or_ge i k with h1 | h1
  · exact h i h1
  · have e : i = k := by omega
    subst e
    exact hk

theorem faultAt_prev {l : List Fi} {k j : Nat} (hk : k < l.length) (hj : j < l.length) (e : k = j + 1) (hf : l[k].fault = 0) : faultAt l k = if ltB l[j].n l[k].n = true then 0 else 3 := by
  subst e
  exact faultAt_succ hk hf

set_option maxHeartbeats 1000000 in
theorem filesFault_any (a : Option Addr) (cap : Nat) (l : List Fi) (w : World) (hl : l.length ≤ maxLen) (hz : Sized l) (hc : Cells w a l) :
    Calls Tryd.prog 25 #[.slice a l.length cap] w fun e w' => e = .returned (.int .i64 (filesF l)) ∧ Below w.heap.size w w' := by
  unfold maxLen at hl
  have HC : Hid (Cells w a l) := hc
  have HZ : Hid (Sized l) := hz
  clear hc hz
  by_cases h8 : 8 < l.length
  · have e : filesF l = 2 := filesF_many h8
    rw [e]
    clear e
    go_enter Tryd.func25, Tryd.ntmps25
    go_wp2
    go_ret
    exact ⟨rfl, Below.refl _ _⟩
  · go_enter Tryd.func25, Tryd.ntmps25
    go_wp2_with fail
    go_loopw [3] (fun i wr => ∃ k : Nat, k ≤ l.length ∧ i = .int .i64 k ∧ Below w.heap.size w wr ∧ ∀ i, i < k → faultAt l i = 0) (fun i _ => l.length - (intOf i).toNat)
    case atStart => exact ⟨0, Nat.zero_le _, rfl, Below.refl _ _, fun i hi => absurd hi (Nat.not_lt_zero _)⟩
    case round =>
      obtain ⟨k, hk, rfl, hb, hall⟩ := hrel
      have HB : Hid (Below w.heap.size w wr) := hb
      have Hall : Hid (∀ i, i < k → faultAt l i = 0) := hall
      clear hall hb
      by_cases hlt : k < l.length
      · obtain ⟨b, off, rfl, c0, c1, c2⟩ := HC.out.below HB.out k hlt
        obtain ⟨z1, z2⟩ := HZ.out.at hlt
        have hbl : b < wr.heap.size := World.block_lt_of_cell? _ _ c0
        have hr : 0 ≤ fileF l[k].n.data.toList l[k].t.data.toList l[k].k := l[k].fault_range.1
        by_cases hf : 0 < fileF l[k].n.data.toList l[k].t.data.toList l[k].k
        · go_wp2_with (go_at_call 35; refine (fileFault_any _ _ _ _ z1 z2).mono ?_; rintro e w' ⟨rfl, rfl⟩)
          go_ret
          have hne : l[k].fault ≠ 0 := by unfold Fi.fault; omega
          have e : filesF l = fileF l[k].n.data.toList l[k].t.data.toList l[k].k := by
            rw [filesF_some (by omega) hlt Hall.out (by rw [faultAt_own hlt hne]; exact hne), faultAt_own hlt hne]; rfl
          exact ⟨ret_int e.symm, HB.out.alloc (HB.out.size) _⟩
        · have hzero : l[k].fault = 0 := by unfold Fi.fault; omega
          have HF : Hid (l[k].fault = 0) := hzero
          clear hzero
          by_cases hk0 : k = 0
          · have hd : decide ((0 : Int) < (k : Int)) = false := by simp [hk0]
            have hd' : decide (0 < k) = false := by simp [hk0]
            have hfa : faultAt l k = 0 := by subst hk0; exact faultAt_zero hlt HF.out
            have HFA : Hid (faultAt l k = 0) := hfa
            clear hk0 hfa
            go_wp2_with (go_at_call 35; refine (fileFault_any _ _ _ _ z1 z2).mono ?_; rintro e w' ⟨rfl, rfl⟩)
            go_quiet (fail)
            go_wp2
            exact ⟨⟨k + 1, by omega, by go_num, below_drewN (HB.out.alloc HB.out.size _) _, fault_next Hall.out HFA.out⟩, by simp [intOf]; omega⟩
          · have hd : decide ((0 : Int) < (k : Int)) = true := by simp; omega
            have hd' : decide (0 < k) = true := by simp; omega
            obtain ⟨j, HJ⟩ : ∃ j, Hid (k = j + 1) := ⟨k - 1, show k = k - 1 + 1 by omega⟩
            have hj1 : ((k : Int) - 1) = (j : Int) := by have := HJ.out; omega
            have hj2 : j < l.length := by have := HJ.out; omega
            clear hk0
            obtain ⟨_, _, e, d0, d1, d2⟩ := HC.out.below HB.out j hj2
            cases e
            have hfa := faultAt_prev hlt hj2 HJ.out HF.out
            cases hlb : ltB l[j].n l[k].n
            · have hle : (Op.bytesLess l[k].n.toList l[j].n.toList || l[k].n.toList == l[j].n.toList) = true := by rw [leqB, hlb]; rfl
              rw [hlb] at hfa
              have HFA : Hid (faultAt l k = 3) := hfa
              clear hfa hlb
              go_wp2_with (go_at_call 35; refine (fileFault_any _ _ _ _ z1 z2).mono ?_; rintro e w' ⟨rfl, rfl⟩)
              go_quiet (fail)
              go_wp2
              go_ret
              exact ⟨ret_int (by rw [filesF_some (by omega) hlt Hall.out (by rw [HFA.out]; decide), HFA.out]), below_drewN (HB.out.alloc HB.out.size _) _⟩
            · have hle : (Op.bytesLess l[k].n.toList l[j].n.toList || l[k].n.toList == l[j].n.toList) = false := by rw [leqB, hlb]; rfl
              rw [hlb] at hfa
              have HFA : Hid (faultAt l k = 0) := hfa
              clear hfa hlb
              go_wp2_with (go_at_call 35; refine (fileFault_any _ _ _ _ z1 z2).mono ?_; rintro e w' ⟨rfl, rfl⟩)
              go_quiet (fail)
              go_wp2
              exact ⟨⟨k + 1, by omega, by go_num, below_drewN (HB.out.alloc HB.out.size _) _, fault_next Hall.out HFA.out⟩, by simp [intOf]; omega⟩
      · go_wp2
        go_ret
        exact ⟨ret_int (filesF_none (by omega) (fun i hi => Hall.out i (by omega))).symm, HB.out⟩

set_option maxHeartbeats 1000000 in
theorem shelfCheck_any (a : Option Addr) (cap : Nat) (l : List Fi) (w : World) (hl : l.length ≤ maxLen) (hz : Sized l) (hc : Cells w a l) :
    Calls Tryd.prog 34 #[.slice a l.length cap] w fun e w' => e = .returned (errV (filesF l)) ∧ Below w.heap.size w w' := by
  unfold maxLen at hl
  have HC : Hid (Cells w a l) := hc
  have HZ : Hid (Sized l) := hz
  clear hc hz
  by_cases h8 : 8 < l.length
  · have e : filesF l = 2 := filesF_many h8
    rw [e]
    clear e
    go_enter Tryd.func34, Tryd.ntmps34
    go_wp2
    go_ret
    exact ⟨rfl, Below.refl _ _⟩
  · go_enter Tryd.func34, Tryd.ntmps34
    go_wp2_with fail
    go_loopw [12] (fun i wr => ∃ k : Nat, k ≤ l.length ∧ i = .int .i64 k ∧ Below w.heap.size w wr ∧ ∀ i, i < k → faultAt l i = 0) (fun i _ => l.length - (intOf i).toNat)
    case atStart => exact ⟨0, Nat.zero_le _, rfl, Below.refl _ _, fun i hi => absurd hi (Nat.not_lt_zero _)⟩
    case round =>
      obtain ⟨k, hk, rfl, hb, hall⟩ := hrel
      have HB : Hid (Below w.heap.size w wr) := hb
      have Hall : Hid (∀ i, i < k → faultAt l i = 0) := hall
      clear hall hb
      by_cases hlt : k < l.length
      · obtain ⟨b, off, rfl, c0, c1, c2⟩ := HC.out.below HB.out k hlt
        obtain ⟨z1, z2⟩ := HZ.out.at hlt
        have hbl : b < wr.heap.size := World.block_lt_of_cell? _ _ c0
        have hr : 0 ≤ fileF l[k].n.data.toList l[k].t.data.toList l[k].k := l[k].fault_range.1
        by_cases hf : 0 < fileF l[k].n.data.toList l[k].t.data.toList l[k].k
        · have he : errV (fileF l[k].n.data.toList l[k].t.data.toList l[k].k) = .iface 59 (.int .i64 (fileF l[k].n.data.toList l[k].t.data.toList l[k].k)) := by unfold errV; rw [if_neg (by omega)]
          go_wp2_with (go_at_call 43; refine (check_any _ _ _ _ z1 z2).mono ?_; rintro e w' ⟨rfl, rfl⟩)
          go_ret
          have hne : l[k].fault ≠ 0 := by unfold Fi.fault; omega
          have e : filesF l = fileF l[k].n.data.toList l[k].t.data.toList l[k].k := by
            rw [filesF_some (by omega) hlt Hall.out (by rw [faultAt_own hlt hne]; exact hne), faultAt_own hlt hne]; rfl
          exact ⟨by rw [e, he]; rfl, (HB.out.alloc HB.out.size _).alloc (by simp; have := HB.out.size; omega) _⟩
        · have hzero : l[k].fault = 0 := by unfold Fi.fault; omega
          have HF : Hid (l[k].fault = 0) := hzero
          have he : errV (fileF l[k].n.data.toList l[k].t.data.toList l[k].k) = .nilIface := by unfold errV; rw [if_pos (by omega)]
          clear hzero
          by_cases hk0 : k = 0
          · have hd : decide ((0 : Int) < (k : Int)) = false := by simp [hk0]
            have hd' : decide (0 < k) = false := by simp [hk0]
            have hfa : faultAt l k = 0 := by subst hk0; exact faultAt_zero hlt HF.out
            have HFA : Hid (faultAt l k = 0) := hfa
            clear hk0 hfa
            go_wp2_with (go_at_call 43; refine (check_any _ _ _ _ z1 z2).mono ?_; rintro e w' ⟨rfl, rfl⟩)
            go_quiet (fail)
            go_wp2
            exact ⟨⟨k + 1, by omega, by go_num, below_drewN ((HB.out.alloc HB.out.size _).alloc (by simp; have := HB.out.size; omega) _) _, fault_next Hall.out HFA.out⟩, by simp [intOf]; omega⟩
          · have hd : decide ((0 : Int) < (k : Int)) = true := by simp; omega
            have hd' : decide (0 < k) = true := by simp; omega
            obtain ⟨j, HJ⟩ : ∃ j, Hid (k = j + 1) := ⟨k - 1, show k = k - 1 + 1 by omega⟩
            have hj1 : ((k : Int) - 1) = (j : Int) := by have := HJ.out; omega
            have hj2 : j < l.length := by have := HJ.out; omega
            clear hk0
            obtain ⟨_, _, e, d0, d1, d2⟩ := HC.out.below HB.out j hj2
            cases e
            have hfa := faultAt_prev hlt hj2 HJ.out HF.out
            cases hlb : ltB l[j].n l[k].n
            · have hle : (Op.bytesLess l[k].n.toList l[j].n.toList || l[k].n.toList == l[j].n.toList) = true := by rw [leqB, hlb]; rfl
              rw [hlb] at hfa
              have HFA : Hid (faultAt l k = 3) := hfa
              clear hfa hlb
              go_wp2_with (go_at_call 43; refine (check_any _ _ _ _ z1 z2).mono ?_; rintro e w' ⟨rfl, rfl⟩)
              go_quiet (fail)
              go_wp2
              go_ret
              exact ⟨by rw [filesF_some (by omega) hlt Hall.out (by rw [HFA.out]; decide), HFA.out]; rfl, below_drewN ((HB.out.alloc HB.out.size _).alloc (by simp; have := HB.out.size; omega) _) _⟩
            · have hle : (Op.bytesLess l[k].n.toList l[j].n.toList || l[k].n.toList == l[j].n.toList) = false := by rw [leqB, hlb]; rfl
              rw [hlb] at hfa
              have HFA : Hid (faultAt l k = 0) := hfa
              clear hfa hlb
              go_wp2_with (go_at_call 43; refine (check_any _ _ _ _ z1 z2).mono ?_; rintro e w' ⟨rfl, rfl⟩)
              go_quiet (fail)
              go_wp2
              exact ⟨⟨k + 1, by omega, by go_num, below_drewN ((HB.out.alloc HB.out.size _).alloc (by simp; have := HB.out.size; omega) _) _, fault_next Hall.out HFA.out⟩, by simp [intOf]; omega⟩
      · go_wp2
        go_ret
        exact ⟨by rw [filesF_none (by omega) (fun i hi => Hall.out i (by omega))]; rfl, HB.out⟩

end Go.Proofs.YtihnghnafpgdfabDoor
namespace Go.Proofs.YtihnghnafpgdfabDoor
open Go.RowKit
set_option linter.unusedVariables false
set_option linter.unusedSimpArgs false

theorem stood : Tryd.prog.stoodInHeld 53 = false := by kernel_rfl
theorem run_equal_file (a b c d : ByteArray) (k j : Int) (w : World) : (Op.equalIn 10000 53 (.agg #[.string a, .string b, .int .i64 k]) (.agg #[.string c, .string d, .int .i64 j])).run Tryd.prog w = .ok ((a.toList == c.toList) && ((b.toList == d.toList) && (k == j))) w := by
  have h := run_equalIn_agg (P := Tryd.prog) w 9999 53 #[.string a, .string b, .int .i64 k] #[.string c, .string d, .int .i64 j] (by kernel_rfl) stood
  rw [h]
  simp [go_sem, Op.eqFields, Program.fieldsOf, Tryd.underlying53]
  by_cases h1 : a.toList = c.toList <;> by_cases h2 : b.toList = d.toList <;> by_cases h3 : k = j <;> simp [h1, h2, h3]

/-- Are two files the same? -/
def eqFi (f g : Fi) : Bool := (f.n.toList == g.n.toList) && ((f.t.toList == g.t.toList) && (f.k == g.k))
theorem eqFi_iff (f g : Fi) : eqFi f g = true ↔ f = g := by
  constructor
  · intro h
    simp only [eqFi, Bool.and_eq_true, beq_iff_eq] at h
    exact Fi.ext' (toList_inj h.1) (toList_inj h.2.1) h.2.2
  · rintro rfl
    simp [eqFi]
theorem run_neq_file (f g : Fi) (w : World) : (binOp .neq 53 (.agg #[.string f.n, .string f.t, .int .i64 f.k]) (.agg #[.string g.n, .string g.t, .int .i64 g.k])).run Tryd.prog w = .ok (.bool (!eqFi f g)) w := by
  rw [run_neq_struct, run_equal_file]; rfl
theorem run_eql_file (f g : Fi) (w : World) : (binOp .eql 53 (.agg #[.string f.n, .string f.t, .int .i64 f.k]) (.agg #[.string g.n, .string g.t, .int .i64 g.k])).run Tryd.prog w = .ok (.bool (eqFi f g)) w := by
  rw [run_eql_struct, run_equal_file]; rfl
def sameL (l m : List Fi) : Bool := decide (l.length = m.length) && (List.range l.length).all (fun i => match l[i]?, m[i]? with | some f, some g => eqFi f g | _, _ => false)
theorem sameL_iff (l m : List Fi) : sameL l m = true ↔ l = m := by
  constructor
  · intro h
    simp only [sameL, Bool.and_eq_true, decide_eq_true_eq, List.all_eq_true, List.mem_range] at h
    apply List.ext_getElem h.1
    intro i h1 h2
    have := h.2 i h1
    rw [List.getElem?_eq_getElem h1, List.getElem?_eq_getElem h2] at this
    exact (eqFi_iff _ _).1 this
  · rintro rfl
    simp only [sameL, decide_true, Bool.true_and, List.all_eq_true, List.mem_range]
    intro i h1
    rw [List.getElem?_eq_getElem h1]
    exact (eqFi_iff _ _).2 rfl
theorem sameL_self (l : List Fi) : sameL l l = true := (sameL_iff l l).2 rfl
theorem sameL_len {l m : List Fi} (h : ¬ l.length = m.length) : sameL l m = false := by
  rw [Bool.eq_false_iff]; intro e; exact h (by rw [(sameL_iff l m).1 e])
theorem sameL_at {l m : List Fi} {k : Nat} (h1 : k < l.length) (h2 : k < m.length) (h : eqFi l[k] m[k] = false) : sameL l m = false := by
  rw [Bool.eq_false_iff]; intro e
  have := (sameL_iff l m).1 e
  subst this
  rw [(eqFi_iff _ _).2 rfl] at h
  exact absurd h (by simp)
theorem sameL_all {l m : List Fi} (hl : l.length = m.length) (h : ∀ i (h1 : i < l.length) (h2 : i < m.length), eqFi l[i] m[i] = true) : sameL l m = true := by
  rw [sameL_iff]
  apply List.ext_getElem hl
  intro i h1 h2
  exact (eqFi_iff _ _).1 (h i h1 h2)

set_option maxRecDepth 100000 in
set_option maxHeartbeats 1000000 in
theorem sameFiles_any (a a' : Option Addr) (cap cap' : Nat) (l m : List Fi) (w : World) (hl : l.length ≤ 1000) (hm : m.length ≤ 1000) (hc : Cells w a l) (hc' : Cells w a' m) :
    Calls Tryd.prog 33 #[.slice a l.length cap, .slice a' m.length cap'] w fun e w' => e = .returned (.bool (sameL l m)) ∧ ∃ n, w' = w.drewN n := by
  have HC : Hid (Cells w a l) := hc
  have HC' : Hid (Cells w a' m) := hc'
  clear hc hc'
  by_cases hlen : l.length = m.length
  · have hne : ((l.length : Int) != (m.length : Int)) = false := by simp [hlen]
    have HL : Hid (l.length = m.length) := hlen
    clear hlen
    go_enter Tryd.func33, Tryd.ntmps33
    go_wp2_with fail
    go_loopw [5] (fun i wr => ∃ k n : Nat, k ≤ l.length ∧ i = .int .i64 k ∧ wr = w.drewN n ∧ ∀ i (h1 : i < l.length) (h2 : i < m.length), i < k → eqFi l[i] m[i] = true) (fun i _ => l.length - (intOf i).toNat)
    case atStart => exact ⟨0, 0, Nat.zero_le _, rfl, rfl, fun i h1 h2 h => absurd h (Nat.not_lt_zero _)⟩
    case round =>
      obtain ⟨k, n, hk, rfl, rfl, hall⟩ := hrel
      have Hall : Hid (∀ i (h1 : i < l.length) (h2 : i < m.length), i < k → eqFi l[i] m[i] = true) := hall
      clear hall
      by_cases hlt : k < l.length
      · have hlt2 : k < m.length := by have := HL.out; omega
        obtain ⟨b, off, rfl, c0, c1, c2⟩ := HC.out k hlt
        obtain ⟨b', off', rfl, d0, d1, d2⟩ := HC'.out k hlt2
        have hq := fun w => run_neq_file l[k] m[k] w
        cases he : eqFi l[k] m[k]
        · go_wp2
          go_quiet (fail)
          go_wp2
          go_ret
          exact ⟨ret_bool (sameL_at hlt hlt2 he).symm, n + nq, by simp⟩
        · go_wp2
          go_quiet (fail)
          go_wp2
          refine ⟨⟨k + 1, _, by omega, by go_num, rfl, fun i h1 h2 h => ?_⟩, by simp [intOf]; omega⟩
          rcases Nat.lt_or_ge i k with h3 | h3
          · exact Hall.out i h1 h2 h3
          · have e : i = k := by omega
            subst e
            exact he
      · go_wp2
        go_ret
        exact ⟨ret_bool (sameL_all HL.out (fun i h1 h2 => Hall.out i h1 h2 (by omega))).symm, n, rfl⟩
  · have hne : ((l.length : Int) != (m.length : Int)) = true := by rw [bne_iff_ne]; omega
    go_enter Tryd.func33, Tryd.ntmps33
    go_wp2
    go_ret
    exact ⟨ret_bool (sameL_len hlen).symm, 0, rfl⟩

end Go.Proofs.YtihnghnafpgdfabDoor
namespace Go.Proofs.YtihnghnafpgdfabDoor
open Go.RowKit
set_option linter.unusedVariables false
set_option linter.unusedSimpArgs false

def dropN (l : List Fi) (name : ByteArray) : Int := if hasF l name = true then 0 else 5
def dropL (l : List Fi) (name : ByteArray) : List Fi := if hasF l name = true then dropF l name else []

set_option maxRecDepth 100000 in
theorem tail_run (x : Addr) (n cap p : Nat) (h1 : p + 1 ≤ n) (hne : ¬ cap = p + 1) (w : World) :
    (Instr.slice 22 (.slice (some x) n cap) (some (.int .i64 ((p : Int) + 1))) none none).run Tryd.prog w = .ok (.slice (some (x.add ((p + 1) * 3))) (n - (p + 1)) (cap - (p + 1))) w := by
  have e : ((p : Int) + 1).toNat = p + 1 := by omega
  have hs : (sizeOf 53).run Tryd.prog w = .ok 3 w := by kernel_rfl
  rw [run_slice_l (P := Tryd.prog) w 22 (some x) n cap Tryd.underlying22 .i64 ((p : Int) + 1) (by omega) (by omega)]
  rw [show Tryd.prog.elem 22 = 53 by kernel_rfl, hs]
  simp [sliced, e, hne]

set_option maxRecDepth 100000 in
theorem tail_end (x : Addr) (n p : Nat) (h1 : p + 1 ≤ n) (h2 : n ≤ p + 1) (w : World) :
    (Instr.slice 22 (.slice (some x) n (p + 1)) (some (.int .i64 ((p : Int) + 1))) none none).run Tryd.prog w = .ok (.slice (some x) 0 0) w := by
  have e : ((p : Int) + 1).toNat = p + 1 := by omega
  have hs : (sizeOf 53).run Tryd.prog w = .ok 3 w := by kernel_rfl
  rw [run_slice_l (P := Tryd.prog) w 22 (some x) n (p + 1) Tryd.underlying22 .i64 ((p : Int) + 1) (by omega) (by omega)]
  rw [show Tryd.prog.elem 22 = 53 by kernel_rfl, hs]
  simp [sliced, e]
  omega

/-- The two pieces of a drop, in the world in which they are joined. -/
theorem drop_parts {w1 : World} {x : Addr} {cap p : Nat} {l : List Fi} (r : Part) (hc : Cells w1 (some x) l) (hy : Cells w1 r.a r.l) (hr : r.a = none → r.cap = 0) (hp : p ≤ l.length) :
    Parts ((w1.alloc (.cells #[.slice (some x) p cap, .slice r.a r.l.length r.cap] 22)).drew) w1.heap.size
      [⟨some x, cap, l.take p⟩, r] := by
  have hb1 : Below w1.heap.size w1 ((w1.alloc (.cells #[.slice (some x) p cap, .slice r.a r.l.length r.cap] 22)).drew) :=
    ((Below.refl _ _).alloc (Nat.le_refl _) _).drew
  refine parts2 ?_ ?_ ⟨(hc.take p).below hb1, (fun h => by cases h), ((hc.take p).below hb1).spot⟩ ⟨hy.below hb1, hr, (hy.below hb1).spot⟩
  · simp [go_sem, Part.v, Nat.min_eq_left hp]
  · simp [go_sem, Part.v]

end Go.Proofs.YtihnghnafpgdfabDoor
