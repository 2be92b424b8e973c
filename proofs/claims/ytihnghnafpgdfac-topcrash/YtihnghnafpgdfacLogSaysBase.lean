/-
  THE CLOSED FACT OF LOGS: what is added takes room.
  LogSays: how a log, its disk and its deeds stand from act to act.
-/
import Derived.Test.YtihnghnafpgdfacLogAdd
import Derived.Test.YtihnghnafpgdfacDeedsRef
import Derived.Test.YtihnghnafpgdfacOpenRows
namespace Go.Proofs.Ytihnghnafpgdfac
open Go.RowKit Go.BigFrame
set_option linter.unusedVariables false
set_option linter.unusedSimpArgs false

theorem noughts_blank (n : Nat) : noughts n = List.replicate n blank := rfl
theorem logOf_new (n start many first : Nat) (h1 : 1 ≤ first) (h2 : first ≤ 4000000) : logOf rdC (newD n).now start many first = ([], 0) := by
  unfold logOf regionL
  show closedL rdC first (((noughts n).drop start).take many) = _
  rw [noughts_blank, List.drop_replicate, List.take_replicate]
  unfold closedL
  cases min many (n - start) with
  | zero => rfl
  | succ k =>
    rw [List.replicate_succ, runL_blank rdC (by omega)]
theorem DS.nilD {w : World} {lo base : Nat} {vd vo : Value} {P : List PartC} {opn : List Ch} (h : DS w lo base vd vo P opn) (hP : P.map (·.l) = []) : ∃ a cap, vd = .slice a 0 cap := by
  have : P = [] := by simpa using hP
  subst this
  obtain ⟨va, vc, hv⟩ := row_shape h.row
  exact ⟨va, vc, hv⟩
def kx : Ch := ⟨⟨#[107]⟩, ⟨#[120]⟩, false⟩

end Go.Proofs.Ytihnghnafpgdfac
namespace Go.Proofs.Ytihnghnafpgdfac
open Go.RowKit Go.BigFrame
set_option linter.unusedVariables false
set_option linter.unusedSimpArgs false

/-- A disk that is up, its fuse out. -/
structure Free (d : Dk) (N k : Nat) : Prop where
  up : d.down = false
  left : d.left < 0
  wr : d.wr.length ≤ k
  len : d.now.length = N
theorem write_free {d : Dk} {N k i : Nat} {s : ByteArray} (h : Free d N k) (hi : i < N) (hs : s.size ≤ 40) : writeN d (i : Int) s = 0 ∧ Free (writeD d (i : Int) s) N (k + 1) := by
  have hgood : ¬ (¬ (0 ≤ (i : Int) ∧ (i : Int) < (d.now.length : Int)) ∨ 40 < s.size) := by rw [h.len]; omega
  rcases stepN_cases d h.up with ⟨h8, hl0, hst⟩ | ⟨h0, hl0, hnow, hkept, hwr, hbit, hdn, hleft⟩
  · have := h.left; omega
  · have e2 : writeD d i s = { stepD d with now := d.now.set i (padD s), wr := d.wr ++ [⟨i, d.bit, padD s⟩], bit := (d.bit + 1) % 64 } := by unfold writeD; rw [if_neg hgood, if_pos h0]; rfl
    refine ⟨by unfold writeN; rw [if_neg hgood, h0], ?_⟩
    rw [e2]
    refine ⟨hdn, ?_, by simp; exact h.wr, by simp; exact h.len⟩
    show (stepD d).left < 0
    rw [hleft, if_neg (by have := h.left; omega)]
    exact h.left
theorem free_new (n : Nat) : Free (newD n) n 0 := ⟨rfl, (by decide : (-1 : Int) < 0), by simp [newD], by simp [newD, noughts]⟩
theorem runL_len {C : Type} (rd : List UInt8 → Option C) (first M : Nat) : ∀ (l : List (List UInt8)) (i : Nat) (st : Pl C), i + l.length ≤ M → st.opn.length ≤ i → (∀ x ∈ st.deeds, x.length ≤ M) → ∀ x ∈ (runL rd first i st l).deeds, x.length ≤ M
  | [], i, st, _, _, h, x, hx => h x hx
  | s :: r, i, st, hM, ho, h, x, hx => by
    simp only [List.length_cons] at hM
    unfold runL at hx
    split at hx
    · rename_i st' hs
      refine runL_len rd first M r (i + 1) st' (by omega) ?_ ?_ x hx
      · rcases stepL_cases rd hs with e | ⟨c, e⟩
        · rw [e]; simp
        · rw [e]; simp; omega
      · rcases stepL_cases rd hs with e | ⟨c, e⟩
        · rw [e]
          intro y hy
          rcases List.mem_append.1 hy with hy | hy
          · exact h y hy
          · simp at hy; subst hy; omega
        · rw [e]; exact h
    · exact h x hx
theorem logOf_len {now : List (List UInt8)} {start many first : Nat} (h : start + many ≤ now.length) (hm : many ≤ 1000) : ∀ x ∈ (logOf rdC now start many first).1, x.length ≤ 1000 :=
  runL_len rdC first 1000 _ 0 ⟨[], [], 0⟩ (by rw [regionL_length h]; omega) (by simp) (by intro x hx; cases hx)
theorem parts_len {P : List PartC} {D : List (List Ch)} (h : P.map (·.l) = D) (hD : ∀ x ∈ D, x.length ≤ 1000) : ∀ q ∈ P, q.l.length ≤ 1000 := fun q hq => hD _ (by rw [← h]; exact List.mem_map.2 ⟨q, hq, rfl⟩)

/-- What holds from act to act. -/
structure LsMid (w wr : World) (N start many first B b u m : Nat) (p : Dp) (d : Dk) (ga : Option Addr) (gc : Nat) (P : List PartC) (wa : Option Addr) (wc : Nat) (Q : List PartC) : Prop where
  disk : DiskAt wr p d
  pB : p.B = B
  lo : w.heap.size ≤ p.lo
  log : LogAt wr b ⟨B, start, many, first, u⟩
  blo : w.heap.size ≤ b
  free : Free d N 40
  said : logOf rdC d.now start many first = (Q.map (·.l), u)
  got : Deeds w.heap.size wr ga gc P
  want : Deeds w.heap.size wr wa wc Q
  same : P.map (·.l) = Q.map (·.l)
  few : Q.length ≤ m
  below : Below w.heap.size w wr
theorem LsMid.go {w wr wx : World} {N start many first B b u m : Nat} {p : Dp} {d : Dk} {ga : Option Addr} {gc : Nat} {P : List PartC} {wa : Option Addr} {wc : Nat} {Q : List PartC} (h : LsMid w wr N start many first B b u m p d ga gc P wa wc Q) (hb : Below wr.heap.size wr wx) : LsMid w wx N start many first B b u m p d ga gc P wa wc Q :=
  ⟨h.disk.below hb, h.pB, h.lo, h.log.below hb, h.blo, h.free, h.said, h.got.calm (Calm.of_below hb), h.want.calm (Calm.of_below hb), h.same, h.few, h.below.trans (hb.mono h.below.size)⟩
theorem LsMid.more {w wr : World} {N start many first B b u m m' : Nat} {p : Dp} {d : Dk} {ga : Option Addr} {gc : Nat} {P : List PartC} {wa : Option Addr} {wc : Nat} {Q : List PartC} (h : LsMid w wr N start many first B b u m p d ga gc P wa wc Q) (hm : m ≤ m') : LsMid w wr N start many first B b u m' p d ga gc P wa wc Q :=
  ⟨h.disk, h.pB, h.lo, h.log, h.blo, h.free, h.said, h.got, h.want, h.same, Nat.le_trans h.few hm, h.below⟩
theorem LsMid.lenP {w wr : World} {N start many first B b u m : Nat} {p : Dp} {d : Dk} {ga : Option Addr} {gc : Nat} {P : List PartC} {wa : Option Addr} {wc : Nat} {Q : List PartC} (h : LsMid w wr N start many first B b u m p d ga gc P wa wc Q) : P.length = Q.length := by
  simpa using congrArg List.length h.same
theorem LsMid.ok {w wr : World} {N start many first B b u m : Nat} {p : Dp} {d : Dk} {ga : Option Addr} {gc : Nat} {P : List PartC} {wa : Option Addr} {wc : Nat} {Q : List PartC} (h : LsMid w wr N start many first B b u m p d ga gc P wa wc Q) (hin : start + many ≤ N) (hN : N ≤ 60) (hf : first ≤ 4000000) : LgOk ⟨B, start, many, first, u⟩ := by
  refine ⟨by simp only; omega, hf, ?_⟩
  have := logOf_le rdC (first := first) (show start + many ≤ d.now.length by rw [h.free.len]; exact hin)
  rw [h.said] at this
  exact this
theorem addAt_calm {lo : Nat} {w w' : World} {b : Nat} {g g' : Lg} {p : Dp} {d D : Dk} {u : Value} (h : AddAt w w' b g' p u D) (hd : DiskAt w p d) (hl : LogAt w b g) (h1 : lo ≤ p.lo) (h2 : lo ≤ b) : Calm lo w w' :=
  h.touch.calm (fun k hk => by
    rcases hk with hk | rfl
    · exact dOwn_safe hd h1 hk
    · exact log_safe hl h2)
/-- A deed that is not added: nothing has turned. -/
theorem LsMid.same' {w wr w3 : World} {N start many first B b u m : Nat} {p : Dp} {d : Dk} {ga : Option Addr} {gc : Nat} {P : List PartC} {wa : Option Addr} {wc : Nat} {Q : List PartC} {v : Value} (h : LsMid w wr N start many first B b u m p d ga gc P wa wc Q) (ha : AddAt wr w3 b ⟨B, start, many, first, u⟩ p v d) : LsMid w w3 N start many first B b u m { p with wv := v } d ga gc P wa wc Q := by
  have hc : Calm w.heap.size wr w3 := addAt_calm ha h.disk h.log h.lo h.blo
  exact ⟨ha.disk, h.pB, h.lo, ha.log, h.blo, h.free, h.said, h.got.calm hc, h.want.calm hc, h.same, h.few, h.below.trans (hc.below h.below.size)⟩
/-- A deed that is added. -/
theorem LsMid.added {w wr w3 : World} {N start many first B b u m : Nat} {p : Dp} {d : Dk} {ga : Option Addr} {gc : Nat} {P : List PartC} {wa : Option Addr} {wc : Nat} {Q : List PartC} {v : Value} {c : List Ch} (h : LsMid w wr N start many first B b u m p d ga gc P wa wc Q) (hin : start + many ≤ N) (hN : N ≤ 60) (hf1 : 1 ≤ first) (hf : first ≤ 4000000)
    (h14 : ¬ 14 < c.length) (hroom : ¬ many - u < c.length + 1) (hok : faultL c = 0) :
    (addD ⟨B, start, many, first, u⟩ d c).2 = 0 ∧ addG ⟨B, start, many, first, u⟩ d c = ⟨B, start, many, first, u + c.length + 1⟩ ∧
    (AddAt wr w3 b ⟨B, start, many, first, u + c.length + 1⟩ p v (addD ⟨B, start, many, first, u⟩ d c).1 → ∀ (va : Option Addr) (vc : Nat) (q : PartC), q.l = c → Deeds w.heap.size w3 va vc (Q ++ [q]) → LsMid w w3 N start many first B b (u + c.length + 1) (m + 1) { p with wv := v } (addD ⟨B, start, many, first, u⟩ d c).1 va vc (Q ++ [q]) va vc (Q ++ [q])) ∧
    (AddAt wr w3 b ⟨B, start, many, first, u + c.length + 1⟩ p v (addD ⟨B, start, many, first, u⟩ d c).1 → Calm w.heap.size wr w3) := by
  obtain ⟨a1, a2, a3, a4, a5, a6⟩ := addD_free (g := ⟨B, start, many, first, u⟩) (d := d) (c := c) (D := Q.map (·.l)) (h.ok hin hN hf) hf1 (by rw [h.free.len]; exact hin) h.free.up h.free.left h14 hroom hok h.said
  refine ⟨a1, by unfold addG; rw [if_pos a1], fun ha va vc q hq hD => ?_, fun ha => addAt_calm ha h.disk h.log h.lo h.blo⟩
  have hc : Calm w.heap.size wr w3 := addAt_calm ha h.disk h.log h.lo h.blo
  have hs : logOf rdC (addD ⟨B, start, many, first, u⟩ d c).1.now start many first = ((Q ++ [q]).map (·.l), u + c.length + 1) := by
    rw [List.map_append]
    simp only [List.map_cons, List.map_nil, hq]
    exact a6
  exact ⟨ha.disk, h.pB, h.lo, ha.log, h.blo, ⟨a2, by rw [a3]; exact h.free.left, by rw [a4]; simp, by rw [a5]; exact h.free.len⟩, hs, hD, hD, rfl, by simp; exact h.few, h.below.trans (hc.below h.below.size)⟩
theorem part_in {w wr : World} {q : PartC} (h : CC w q.a q.l) (hb : Below w.heap.size w wr) : PartS w.heap.size wr q := by
  refine ⟨h.below hb, fun x hx hne => ?_⟩
  cases hl : q.l with
  | nil => exact absurd hl hne
  | cons c r =>
    obtain ⟨b, off, e, h1, _⟩ := h 0 (by rw [hl]; simp)
    rw [hx] at e
    injection e with e
    subst e
    exact .inl (World.block_lt_of_cell? _ _ h1)
/-- A deed that is added, and the row of those that are wanted. -/
theorem LsMid.grow {w wr w7 w9 : World} {N start many first B b u m : Nat} {p : Dp} {d : Dk} {ga : Option Addr} {gc : Nat} {P : List PartC} {wa : Option Addr} {wc : Nat} {Q : List PartC} {v : Value} {q : PartC} {ya : Option Addr} {yc : Nat} (h : LsMid w wr N start many first B b u m p d ga gc P wa wc Q) (hin : start + many ≤ N) (hN : N ≤ 60) (hf1 : 1 ≤ first) (hf : first ≤ 4000000)
    (h14 : ¬ 14 < q.l.length) (hroom : ¬ many - u < q.l.length + 1) (hok : faultL q.l = 0) (hat : AddAt wr w7 b ⟨B, start, many, first, u + q.l.length + 1⟩ p v (addD ⟨B, start, many, first, u⟩ d q.l).1) (hb : Below w7.heap.size w7 w9) (hcc : CC w q.a q.l)
    (hrow : w9.ownsRow w7.heap.size 30 1 (.slice ya (Q.length + 1) yc) (Q.length + 1) (Q.map PartC.v ++ [q.v])) :
    LsMid w w9 N start many first B b (u + q.l.length + 1) (m + 1) { p with wv := v } (addD ⟨B, start, many, first, u⟩ d q.l).1 ya yc (Q ++ [q]) ya yc (Q ++ [q]) := by
  obtain ⟨a1, a2, a3, a4, a5, a6⟩ := addD_free (g := ⟨B, start, many, first, u⟩) (d := d) (c := q.l) (D := Q.map (·.l)) (h.ok hin hN hf) hf1 (by rw [h.free.len]; exact hin) h.free.up h.free.left h14 hroom hok h.said
  have hc : Calm w.heap.size wr w7 := addAt_calm hat h.disk h.log h.lo h.blo
  have hb7 : Below w.heap.size w w7 := h.below.trans (hc.below h.below.size)
  have hb9 : Below w.heap.size w w9 := hb7.trans (hb.mono hb7.size)
  have hD : Deeds w.heap.size w9 ya yc (Q ++ [q]) := Deeds.one hrow (fun r hr => CC.calm (CC.calm (h.want.parts r hr) hc) (Calm.of_below hb)) (part_in hcc hb9) h.want.few (by omega)
  have hs : logOf rdC (addD ⟨B, start, many, first, u⟩ d q.l).1.now start many first = ((Q ++ [q]).map (·.l), u + q.l.length + 1) := by
    rw [List.map_append]
    exact a6
  exact ⟨hat.disk.below hb, h.pB, h.lo, hat.log.below hb, h.blo, ⟨a2, by rw [a3]; exact h.free.left, by rw [a4]; simp, by rw [a5]; exact h.free.len⟩, hs, hD, hD, rfl, by simp; exact h.few, hb9⟩
theorem LsMid.adds {w wr : World} {N start many first B b u m : Nat} {p : Dp} {d : Dk} {ga : Option Addr} {gc : Nat} {P : List PartC} {wa : Option Addr} {wc : Nat} {Q : List PartC} {c : List Ch} (h : LsMid w wr N start many first B b u m p d ga gc P wa wc Q) (hin : start + many ≤ N) (hN : N ≤ 60) (hf1 : 1 ≤ first) (hf : first ≤ 4000000)
    (h14 : ¬ 14 < c.length) (hroom : ¬ many - u < c.length + 1) (hok : faultL c = 0) : (addD ⟨B, start, many, first, u⟩ d c).2 = 0 ∧ addG ⟨B, start, many, first, u⟩ d c = ⟨B, start, many, first, u + c.length + 1⟩ := by
  obtain ⟨a1, -⟩ := addD_free (g := ⟨B, start, many, first, u⟩) (d := d) (c := c) (D := Q.map (·.l)) (h.ok hin hN hf) hf1 (by rw [h.free.len]; exact hin) h.free.up h.free.left h14 hroom hok h.said
  exact ⟨a1, by unfold addG; rw [if_pos a1]⟩
theorem faultL_rng : ∀ l : List Ch, 0 ≤ faultL l ∧ faultL l ≤ 100
  | [] => by simp [faultL]
  | c :: l => by
    unfold faultL
    split
    · exact faultL_rng l
    · exact changeF_rng c
/-- A log is opened anew. -/
theorem LsMid.open {w wr w3 : World} {N start many first B b b' u m : Nat} {p : Dp} {d : Dk} {ga : Option Addr} {gc : Nat} {P P' : List PartC} {wa : Option Addr} {wc : Nat} {Q : List PartC} {va : Option Addr} {vc base : Nat} {vo : Value} {opn : List Ch} (h : LsMid w wr N start many first B b u m p d ga gc P wa wc Q) (hin : start + many ≤ N) (hN : N ≤ 60)
    (hb : wr.heap.size ≤ b') (hl : LogAt w3 b' ⟨p.B, start, many, first, (logOf rdC d.now start many first).2⟩) (hds : DS w3 wr.heap.size base (.slice va P'.length vc) vo P' opn) (hP : P'.map (·.l) = (logOf rdC d.now start many first).1) (hd : DiskAt w3 p d) (hbe : Below wr.heap.size wr w3) :
    LsMid w w3 N start many first B b' u m p d va vc P' wa wc Q := by
  have hlen := logOf_len (first := first) (show start + many ≤ d.now.length by rw [h.free.len]; exact hin) (by omega)
  refine ⟨hd, h.pB, h.lo, ?_, Nat.le_trans h.below.size hb, h.free, h.said, hds.deeds (parts_len hP hlen), h.want.calm (Calm.of_below hbe), ?_, h.few, h.below.trans (hbe.mono h.below.size)⟩
  · rw [h.said, h.pB] at hl; exact hl
  · rw [hP, h.said]
end Go.Proofs.Ytihnghnafpgdfac
