/-
  DEEDS OF THE DOCUMENT: SameDeeds, four.
  A NUMBER's FOUR BYTES, AS THE DOCUMENT WRITES THEM: four.
  THE DOCUMENT's DEEDS OF A LOG: ClosedDeeds.
  append(append(nil, deeds...), deed): deeds, and one more.
-/
import Derived.Test.YtihnghnafpgdfacLogAdd
import Derived.Test.YtihnghnafpgdfacRowSame
import Derived.Test.YtihnghnafpgdfacLogOpen
import Derived.Laws.OwnMore
namespace Go.Proofs.Ytihnghnafpgdfac
open Go.RowKit Go.BigFrame
set_option linter.unusedVariables false
set_option linter.unusedSimpArgs false

/-- A row of slices of changes. -/
structure RowsOf (w : World) (a : Option Addr) (P : List PartC) : Prop where
  cell : ∀ i (h : i < P.length), ∃ b off, a = some ⟨b, off, none⟩ ∧ w.cell? ⟨b, off + i, none⟩ = some P[i].v
  part : ∀ i (h : i < P.length), CC w P[i].a P[i].l
  few : ∀ i (h : i < P.length), P[i].l.length ≤ 1000
theorem Deeds.rows {lo : Nat} {w : World} {a : Option Addr} {cap : Nat} {P : List PartC} (h : Deeds lo w a cap P) : RowsOf w a P :=
  ⟨fun i hi => by obtain ⟨b, off, e, h1, _⟩ := h.cell i hi; exact ⟨b, off, e, h1⟩, fun i hi => (h.parts _ (List.getElem_mem hi)).cc, fun i hi => h.few _ (List.getElem_mem hi)⟩
def sameDL : List PartC → List PartC → Bool
  | [], [] => true
  | p :: P, q :: Q => sameCL p.l q.l && sameDL P Q
  | [], _ :: _ => false
  | _ :: _, [] => false
theorem sameDL_iff : ∀ (P Q : List PartC), sameDL P Q = true ↔ P.map (·.l) = Q.map (·.l)
  | [], [] => by simp [sameDL]
  | p :: P, q :: Q => by simp [sameDL, sameCL_iff, sameDL_iff P Q]
  | [], _ :: _ => by simp [sameDL]
  | _ :: _, [] => by simp [sameDL]
theorem sameDL_false {P Q : List PartC} (h : ¬ P.map (·.l) = Q.map (·.l)) : sameDL P Q = false := by
  cases hs : sameDL P Q
  · rfl
  · exact absurd ((sameDL_iff P Q).1 hs) h
theorem sameDL_len {P Q : List PartC} (h : ¬ P.length = Q.length) : sameDL P Q = false :=
  sameDL_false fun e => h (by simpa using congrArg List.length e)
theorem sameDL_at {P Q : List PartC} {k : Nat} (h1 : k < P.length) (h2 : k < Q.length) (h : sameCL P[k].l Q[k].l = false) : sameDL P Q = false :=
  sameDL_false fun e => by
    have : (P.map (·.l))[k]? = (Q.map (·.l))[k]? := by rw [e]
    rw [List.getElem?_map, List.getElem?_map, List.getElem?_eq_getElem h1, List.getElem?_eq_getElem h2] at this
    simp at this
    rw [this, sameCL_self] at h
    cases h
theorem sameDL_all {P Q : List PartC} (hl : P.length = Q.length) (h : ∀ i (h1 : i < P.length) (h2 : i < Q.length), sameCL P[i].l Q[i].l = true) : sameDL P Q = true := by
  rw [sameDL_iff]
  apply List.ext_getElem (by simpa using hl)
  intro i h1 h2
  simp only [List.length_map] at h1 h2
  simp only [List.getElem_map]
  exact (sameCL_iff _ _).1 (h i h1 h2)

end Go.Proofs.Ytihnghnafpgdfac
namespace Go.Proofs.Ytihnghnafpgdfac
open Go.RowKit Go.BigFrame
set_option linter.unusedVariables false
set_option linter.unusedSimpArgs false

theorem four_cells (w : World) (n : Nat) (T : TypeId) : ∀ j (hj : j < (leB 4 n).length), (w.alloc (Obj.cells #[.int .u8 ((n : Int) % 256), .int .u8 ((n : Int) / 256 % 256), .int .u8 ((n : Int) / 65536 % 256), .int .u8 ((n : Int) / 16777216 % 256)] T)).cell? ((⟨w.heap.size, 0, none⟩ : Addr).add j) = some (.int .u8 ((leB 4 n)[j].toNat : Int)) := by
  intro j hj
  have e : ∀ k : Nat, (((UInt8.ofNat (k % 256)).toNat : Nat) : Int) = ((k % 256 : Nat) : Int) := fun k => by simp
  rw [leB_length] at hj
  match j, hj with
  | 0, _ => simp only [leB, List.getElem_cons_zero, e]; simp [Addr.add]
  | 1, _ => simp only [leB, List.getElem_cons_succ, List.getElem_cons_zero, e]; simp [Addr.add]
  | 2, _ =>
    simp only [leB, List.getElem_cons_succ, List.getElem_cons_zero, e]
    have : ((n / 256 / 256 % 256 : Nat) : Int) = (n : Int) / 65536 % 256 := by omega
    rw [this]; simp [Addr.add]
  | 3, _ =>
    simp only [leB, List.getElem_cons_succ, List.getElem_cons_zero, e]
    have : ((n / 256 / 256 / 256 % 256 : Nat) : Int) = (n : Int) / 16777216 % 256 := by omega
    rw [this]; simp [Addr.add]
end Go.Proofs.Ytihnghnafpgdfac
namespace Go.Proofs.Ytihnghnafpgdfac
open Go.RowKit Go.BigFrame
set_option linter.unusedVariables false
set_option linter.unusedSimpArgs false

def bytesOf (l : List ByteArray) : List (List UInt8) := l.map (·.data.toList)
/-- What holds at each sector's head. -/
structure ClMid (w wr : World) (l : List ByteArray) (first i u base : Nat) (vd vo : Value) (P : List PartC) (opn : List Ch) : Prop where
  ds : DS wr w.heap.size base vd vo P opn
  below : Below w.heap.size w wr
  run : runL rdC first 0 ⟨[], [], 0⟩ (bytesOf l) = runL rdC first i ⟨P.map (·.l), opn, u⟩ ((bytesOf l).drop i)
  few : opn.length ≤ i ∧ P.length ≤ i ∧ u ≤ i
theorem ClMid.go {w wr wx : World} {l : List ByteArray} {first i u base : Nat} {vd vo : Value} {P : List PartC} {opn : List Ch} (h : ClMid w wr l first i u base vd vo P opn) (hb : Below wr.heap.size wr wx) : ClMid w wx l first i u base vd vo P opn :=
  ⟨h.ds.below hb, h.below.trans (hb.mono h.below.size), h.run, h.few⟩
/-- What ClosedDeeds answers. -/
def ClosedEnd (w : World) (l : List ByteArray) (first : Nat) (e : Ending) (w' : World) : Prop :=
  ∃ vd vo P base opn, e = .returned (.tuple #[vd, .int .i64 ((closedL rdC first (bytesOf l)).2 : Nat)]) ∧ DS w' w.heap.size base vd vo P opn ∧ P.map (·.l) = (closedL rdC first (bytesOf l)).1 ∧ Below w.heap.size w w' ∧ P.length ≤ l.length
theorem ClMid.stop {w wr : World} {l : List ByteArray} {first i u base : Nat} {vd vo : Value} {P : List PartC} {opn : List Ch} (h : ClMid w wr l first i u base vd vo P opn) (hi : i ≤ l.length) (hs : runL rdC first i ⟨P.map (·.l), opn, u⟩ ((bytesOf l).drop i) = ⟨P.map (·.l), opn, u⟩) : ClosedEnd w l first (.returned (.tuple #[vd, .int .i64 u])) wr := by
  have e : closedL rdC first (bytesOf l) = (P.map (·.l), u) := by
    unfold closedL
    rw [h.run, hs]
  exact ⟨vd, vo, P, base, opn, by rw [e], h.ds, by rw [e], h.below, Nat.le_trans h.few.2.1 hi⟩
theorem ClMid.close {w wr w4 : World} {l : List ByteArray} {first i u base : Nat} {vd v : Value} {oa : Option Addr} {oc : Nat} {P : List PartC} {opn : List Ch} (h : ClMid w wr l first i u base vd (.slice oa opn.length oc) P opn)
    (hg : wr.grownBy w4 vd.ownBlock) (ho : w4.ownsRow w.heap.size 30 1 v (P.length + 1) (P.map PartC.v ++ [.slice oa opn.length oc]))
    (hrun : runL rdC first i ⟨P.map (·.l), opn, u⟩ ((bytesOf l).drop i) = runL rdC first (i + 1) ⟨P.map (·.l) ++ [opn], [], i + 1⟩ ((bytesOf l).drop (i + 1))) :
    ClMid w w4 l first (i + 1) (i + 1) w4.heap.size v (.slice none 0 0) (P ++ [⟨oa, oc, opn⟩]) [] := by
  refine ⟨h.ds.close hg ho, h.below.grown hg h.below.size (fun k hk => (h.ds.row.lt k hk).1), ?_, ?_⟩
  · rw [h.run, hrun, List.map_append]; rfl
  · have := h.few
    simp
    omega
theorem ClMid.more {w wr w4 : World} {l : List ByteArray} {first i u base : Nat} {vd vo v : Value} {P : List PartC} {opn : List Ch} {c : Ch} (h : ClMid w wr l first i u base vd vo P opn)
    (hg : wr.grownBy w4 vo.ownBlock) (ho : OwnsC w4 base v (opn ++ [c]))
    (hrun : runL rdC first i ⟨P.map (·.l), opn, u⟩ ((bytesOf l).drop i) = runL rdC first (i + 1) ⟨P.map (·.l), opn ++ [c], u⟩ ((bytesOf l).drop (i + 1))) :
    ClMid w w4 l first (i + 1) u base vd v P (opn ++ [c]) := by
  refine ⟨h.ds.more hg ho, h.below.grown hg h.below.size (fun k hk => Nat.le_trans h.ds.base.1 (h.ds.opn.lt k hk).1), by rw [h.run, hrun], ?_⟩
  have := h.few
  simp
  omega
theorem two_le (s : ByteArray) (h : s.size = 40) : ofLE ((s.data.toList.drop 5).take 2) = byteAt s 5 + 256 * byteAt s 6 := by
  have hl : s.data.toList.length = 40 := by rw [ba_len, h]
  unfold byteAt
  match hm : s.data.toList, hl with
  | [], hl => simp at hl
  | a0 :: a1 :: a2 :: a3 :: a4 :: a5 :: a6 :: r, hl => simp [ofLE]
theorem head_byte (s : ByteArray) (h : s.size = 40) : (s.data.toList.headD 0).toNat = byteAt s 0 := by
  have hl : s.data.toList.length = 40 := by rw [ba_len, h]
  unfold byteAt
  match hm : s.data.toList, hl with
  | a0 :: r, hl => simp

end Go.Proofs.Ytihnghnafpgdfac
namespace Go.Proofs.Ytihnghnafpgdfac
open Go.RowKit Go.BigFrame
set_option linter.unusedVariables false
set_option linter.unusedSimpArgs false

theorem partV_one (P : List PartC) : ∀ u ∈ P.map PartC.v, u.oneCell' = true := by
  intro u hu
  obtain ⟨q, _, rfl⟩ := List.mem_map.1 hu
  exact one_oneV q.a q.l.length q.cap _ (by simp [PartC.v])
theorem wp_copyD {lo : Nat} {o : Oper} {act : Act} {K : Act → World → Prop} {Q : Exit → Act → World → Prop} (s x : Operand)
    (ho : o.op = .call { callee := .builtin .append, args := #[s, x], argTypes := #[22, 22] })
    (W : World) (a : Option Addr) (cap : Nat) (P : List PartC) (hl : P.length ≤ 1000) (hd : Deeds lo W a cap P) (hs : act.eval s = .slice none 0 0) (hx : act.eval x = .slice a P.length cap)
    (h : ∀ v' w', w'.ownsRow W.heap.size 30 1 v' P.length (P.map PartC.v) → Below W.heap.size W w' → K (act.put o.dst v') w') : o.wp Try.prog act W K Q := by
  obtain ⟨i0, hi, hz0, hz1, hz2⟩ := info_parts Try.infoChanges
  have hown : W.ownsRow W.heap.size 30 1 (.slice none 0 0) 0 [] := World.ownsRow_nil _ _ _ _
  cases a with
  | none =>
    have e : P = [] := by
      cases P with
      | nil => rfl
      | cons g r => obtain ⟨_, _, e, _⟩ := hd.cell 0 (by simp); cases e
    subst e
    have e := hd.nil rfl
    subst e
    have hrun := run_append_owned_none (P := Try.prog) (w := W) W.heap.size 22 o.type 30 i0 1 (by kernel_rfl) hi _ _ _ hown
    unfold Oper.wp execOp
    simp only [List.length_nil] at hx
    simp only [ho, resolve, invoke, builtin, Sem.run_bind, Sem.run_pure, Result.andThen_ok, List.map_toArray, List.map_cons, List.map_nil, hs, hx, hrun]
    exact h _ _ hown (Below.refl _ _)
  | some p =>
    have hcells : ∀ q u, (P.map PartC.v)[q]? = some u → W.cell? (p.add q) = some u := by
      intro q u hu
      rw [List.getElem?_map] at hu
      have hq : q < P.length := by
        by_cases hq : q < P.length
        · exact hq
        · rw [List.getElem?_eq_none (by omega)] at hu; cases hu
      rw [List.getElem?_eq_getElem hq] at hu
      simp at hu
      subst hu
      obtain ⟨b, off, e, h1, _⟩ := hd.cell q hq
      rw [Option.some.inj e, addr_add]
      exact h1
    refine wp_append_new s x 22 ho W.heap.size 30 i0 _ 1 24 (by kernel_rfl) hi hz0 hz1 hz2 rfl (by decide) _ _ _ hs hown p P.length cap (P.map PartC.v) hx (by simp) hcells (partV_one P) (by unfold maxLen; simp; omega) (by simp; omega) (Nat.le_refl _) ?_
    intro v' w' hown' hgrow hnew
    refine h v' w' ?_ ((Below.refl _ _).grown hgrow (Nat.le_refl _) (fun q hq => (hown.lt q hq).1))
    simpa using hown'
theorem ownsRow_low {w : World} {B B' : Nat} {T : TypeId} {size n : Nat} {v : Value} {xs : List Value} (h : w.ownsRow B T size v n xs) (hB : B' ≤ B) : w.ownsRow B' T size v n xs := by
  refine ⟨h.1, ?_⟩
  rcases h.2 with h0 | ⟨g, cap, cur, e, hg, rest⟩
  · exact .inl h0
  · exact .inr ⟨g, cap, cur, e, by omega, rest⟩
theorem copied_row {w7 W' w9 : World} {v : Value} {n : Nat} {xs : List Value} (ho : w9.ownsRow W'.heap.size 30 1 v n xs) (hb : w7.heap.size ≤ W'.heap.size) : w9.ownsRow w7.heap.size 30 1 v n xs ∧ ∀ o, (w9.alloc o).ownsRow w7.heap.size 30 1 v n xs := by
  have h := ownsRow_low ho hb
  exact ⟨h, fun o => ownsRow_far h (fun k hk => ((Below.refl w9.heap.size w9).alloc (Nat.le_refl _) o).block k (h.lt k hk).2)⟩
theorem copied_more {w7 W9 w10 : World} {v : Value} {n : Nat} {xs : List Value} (hb : Below w7.heap.size w7 W9) (ho : W9.ownsRow w7.heap.size 30 1 v n xs) (hg : W9.grownBy w10 v.ownBlock) : Below w7.heap.size w7 w10 := hb.grown hg hb.size (fun k hk => (ho.lt k hk).1)
theorem below_cell_one {w7 w9 : World} {v : Value} {T : TypeId} (hb : Below (w7.drew.alloc (.cells #[v] T)).heap.size (w7.drew.alloc (.cells #[v] T)) w9) : ∀ j u, [v][j]? = some u → w9.cell? ((⟨w7.heap.size, 0, none⟩ : Addr).add j) = some u := fun j u hu => by
  have h := cell_one_new w7.drew v T j u hu
  have e : (⟨w7.drew.heap.size, 0, none⟩ : Addr).add j = ⟨w7.heap.size, 0 + j, none⟩ := addr_add _ _ _
  rw [e] at h
  rw [addr_add]
  rw [hb.cell (World.block_lt_of_cell? _ _ h)]
  exact h
/-- Deeds and one more, in a row of its own. -/
theorem Deeds.one {lo B : Nat} {w : World} {a : Option Addr} {cap : Nat} {P : List PartC} {q : PartC} (h : w.ownsRow B 30 1 (.slice a (P.length + 1) cap) (P.length + 1) (P.map PartC.v ++ [q.v])) (hp : ∀ r ∈ P, PartS lo w r) (hq : PartS lo w q) (hf : ∀ r ∈ P, r.l.length ≤ 1000) (hqf : q.l.length ≤ 1000) : Deeds lo w a cap (P ++ [q]) := by
  refine deeds_row (B := B) ?_ (fun r hr => ?_) (fun r hr => ?_)
  · rw [List.length_append, List.map_append]
    exact h
  · rcases List.mem_append.1 hr with hr | hr
    · exact hp r hr
    · simp at hr; subst hr; exact hq
  · rcases List.mem_append.1 hr with hr | hr
    · exact hf r hr
    · simp at hr; subst hr; exact hqf
end Go.Proofs.Ytihnghnafpgdfac
