/-
  TopCrash: how a store stands till its disk falls, and behind the fall.
-/
import Derived.Test.YtihnghnafpgdfacStoreFall
import Derived.Test.YtihnghnafpgdfacStoreSaid
import Derived.Test.YtihnghnafpgdfacRowApplied
namespace Go.Proofs.Ytihnghnafpgdfac
open Go Go.RowKit Go.BigFrame
set_option linter.unusedVariables false
set_option linter.unusedSimpArgs false

/-- A store whose disk may fall. -/
structure SmA (w wr : World) (N b : Nat) (s : St) (g : Lg) (p : Dp) (d : Dk) : Prop where
  disk : DiskAt wr p d
  lo : w.heap.size ≤ p.lo
  own : StoreOwn wr w.heap.size b s g
  dB : s.dB = p.B
  gf : g = ⟨p.B, 26, N - 26, firstOf d s.side, g.used⟩
  kept : KeptL N d.now s.side g.used s.rows
  clean : Clean d
  below : Below w.heap.size w wr
theorem SmA.go {w wr wx : World} {N b : Nat} {s : St} {g : Lg} {p : Dp} {d : Dk} (h : SmA w wr N b s g p d) (hb : Below wr.heap.size wr wx) : SmA w wx N b s g p d :=
  ⟨h.disk.below hb, h.lo, h.own.below hb, h.dB, h.gf, h.kept, h.clean, h.below.trans (hb.mono h.below.size)⟩
theorem first_ok {N side : Nat} {d : Dk} (hl : d.now.length = N) (hs : side ≤ 1) (hN : 42 ≤ N) (hN2 : N ≤ 60) : 1 ≤ firstOf d side ∧ firstOf d side ≤ 4000000 := by
  unfold firstOf
  rw [hl]
  rcases (by omega : side = 0 ∨ side = 1) with e | e <;> rw [e] <;> simp <;> omega
theorem lg_ok {N side used B : Nat} {d : Dk} {g : Lg} (hg : g = ⟨B, 26, N - 26, firstOf d side, used⟩) (hl : d.now.length = N) (hs : side ≤ 1) (hu : used ≤ N - 26) (hN : 42 ≤ N) (hN2 : N ≤ 60) : LgOk g ∧ 1 ≤ g.first := by
  obtain ⟨h1, h2⟩ := first_ok (d := d) hl hs hN hN2
  rw [hg]
  exact ⟨⟨by simp only; omega, h2, hu⟩, h1⟩
/-- What a store's acts let be (of a store in memory, and its disk). -/
theorem own_let {wr w' : World} {lo b : Nat} {s : St} {g : Lg} {p : Dp} {d : Dk} (hd : DiskAt wr p d) (ho : StoreOwn wr lo b s g) (ht : Touch (fun k => (dOwn p k ∨ k = b) ∨ k = s.lb) wr w') : Let wr w' := by
  intro k C T fr hk hT
  refine ht.block _ (Array.getElem?_eq_some_iff.1 hk).1 (fun hx => ?_)
  rcases hx with (hx | hx) | hx
  · obtain ⟨C', T', fr', e, hT'⟩ := hd.kind hx
    rw [hk] at e
    simp at e
    rcases hT' with e' | e' | e'
    · exact hT.1 (by rw [e.2.1, e'])
    · exact hT.2.1 (by rw [e.2.1, e'])
    · exact hT.2.2.1 (by rw [e.2.1, e'])
  · rw [hx, ho.at'.blk] at hk
    simp at hk
    exact hT.2.2.2.2 hk.2.1.symm
  · have hl := ho.log
    unfold LogAt at hl
    rw [hx, hl] at hk
    simp at hk
    exact hT.2.2.2.1 hk.2.1.symm
theorem own_belows {w wr w' : World} {b : Nat} {s : St} {g : Lg} {p : Dp} {d : Dk} (hd : DiskAt wr p d) (hlo : w.heap.size ≤ p.lo) (ho : StoreOwn wr w.heap.size b s g) (hb : Below w.heap.size w wr) (ht : Touch (fun k => (dOwn p k ∨ k = b) ∨ k = s.lb) wr w') : Below w.heap.size w w' :=
  hb.trans (ht.below (fun k hk => by
    rcases hk with (hk | rfl) | rfl
    · rcases hk with rfl | rfl | rfl | hk
      · exact Nat.le_trans hlo hd.lo1
      · exact Nat.le_trans hlo hd.lo2
      · exact Nat.le_trans hlo hd.lo3
      · exact Nat.le_trans hlo (hd.wr.lt k hk).1
    · exact ho.low.1
    · exact ho.low.2) hb.size)
/-- A disk that fell, and what may stand there when it is up again. -/
structure Gone (w w' : World) (N B : Nat) (p : Dp) (d : Dk) (R1 R2 : List Ch) : Prop where
  disk : DiskAt w' p d
  pB : p.B = B
  lo : w.heap.size ≤ p.lo
  few : d.wr.length ≤ 100
  fate : ∀ keep, ∃ side used, KeptG N (keptBy keep d.wr d.kept) side used R1 ∨ KeptG N (keptBy keep d.wr d.kept) side used R2
  below : Below w.heap.size w w'
theorem sma_save {w wr : World} {N b : Nat} {s : St} {g : Lg} {p : Dp} {d : Dk} (hm : SmA w wr N b s g p d) (hN : 42 ≤ N) (hN2 : N ≤ 60) :
    Calls Try.prog 12 #[.pointer (some ⟨b, 0, none⟩)] wr fun e w' => Let wr w' ∧ ((e = .returned .nilIface ∧ ∃ s' g' p' d', p'.B = p.B ∧ SmA w w' N b s' g' p' d' ∧ s'.rows = s.rows) ∨
      (e = .returned (.iface 75 (.int .i64 8)) ∧ ∃ p' d', Gone w w' N p.B p' d' s.rows s.rows)) := by
  have hg := hm.gf
  have hlen := hm.kept.len
  have hgm : g.many = N - 26 := by rw [hg]
  obtain ⟨k1, k2⟩ := lg_ok hg hlen hm.kept.sd (hm.kept.usedLe hN) hN hN2
  obtain ⟨q1, q2, q3⟩ := hm.kept.rows
  have hcs := save_cases hm.kept hm.clean hm.disk.snow hN hN2 hgm
  refine (storeSave_any w.heap.size b p d s g wr hm.own hm.disk hm.dB k1 (by rw [hlen, hgm]) (by omega) hm.kept.sd q3 q2 (by rw [hm.clean.wr]; simp)).mono ?_
  rintro e w' ⟨rfl, u, hd, hn, ht, hor⟩
  have ht' : Touch (fun k => (dOwn p k ∨ k = b) ∨ k = s.lb) wr w' := ht.wide (fun k hk => .inl hk)
  refine ⟨own_let hm.disk hm.own ht', ?_⟩
  have hbel := own_belows hm.disk hm.lo hm.own hm.below ht'
  rcases hcs with ⟨a1, a2, a3⟩ | ⟨a1, a2, a3⟩
  · left
    rcases hor with ⟨h0, -⟩ | ⟨-, lb, hlb, ho⟩
    · exact absurd a1 h0
    rw [a1]
    refine ⟨rfl, _, _, { p with wv := u }, (saveD d s g).1, rfl, ⟨hd, hm.lo, ho, hm.dB, ?_, a3, a2, hbel⟩, rfl⟩
    show Lg.mk _ _ _ _ _ = _
    rw [hlen, firstOf_len (d := d) (d' := (saveD d s g).1) (by rw [a3.len, hlen])]
  · right
    rw [a1]
    refine ⟨congrArg Ending.returned (errV_pos (show ¬ (8 : Int) = 0 by decide)), { p with wv := u }, (saveD d s g).1, hd, rfl, hm.lo, a2, fun keep => ?_, hbel⟩
    obtain ⟨sd, us, h⟩ := a3.may keep
    exact ⟨sd, us, .inl h⟩
theorem sma_commit {w wr : World} {N b : Nat} {s : St} {g : Lg} {p : Dp} {d : Dk} (hm : SmA w wr N b s g p d) (hN : 42 ≤ N) (hN2 : N ≤ 60) (a : Option Addr) (cap : Nat) (c : List Ch) (hc : CC w a c) (hcn : a = none → cap = 0) (hcl : c.length ≤ 100) :
    Calls Try.prog 13 #[.pointer (some ⟨b, 0, none⟩), .slice a c.length cap] wr fun e w' => Let wr w' ∧
      ((e = .returned .nilIface ∧ ∃ s' g' p' d', p'.B = p.B ∧ SmA w w' N b s' g' p' d' ∧ s'.rows = appliedC s.rows c) ∨
       (∃ n : Int, e = .returned (.iface 75 (.int .i64 n)) ∧ ¬ n = 0 ∧ ¬ n = 8 ∧ 0 ≤ n ∧ n ≤ 100 ∧ ∃ s' g' p' d', p'.B = p.B ∧ SmA w w' N b s' g' p' d' ∧ s'.rows = s.rows) ∨
       (e = .returned (.iface 75 (.int .i64 8)) ∧ ∃ p' d', Gone w w' N p.B p' d' s.rows (appliedC s.rows c))) := by
  have hg := hm.gf
  have hlen := hm.kept.len
  obtain ⟨k1, k2⟩ := lg_ok hg hlen hm.kept.sd (hm.kept.usedLe hN) hN hN2
  obtain ⟨q1, q2, q3⟩ := hm.kept.rows
  have hgB : g.dB = p.B := by rw [hg]
  have hg2 : g = ⟨g.dB, 26, N - 26, firstOf d s.side, g.used⟩ := by rw [hgB]; exact hg
  have hcs := commit_cases (c := c) hm.kept hm.clean hm.disk.snow hN hN2 hg2
  refine (storeCommit_any w.heap.size b p d s g a cap c wr hm.own hm.disk hm.lo hm.dB hgB k1 (by rw [hg]) k2 (by rw [hlen, hg]) (by omega) hm.kept.sd q3 q1 q2 (by rw [hm.clean.wr]; simp) (deed_in hc hm.below) hcn hcl).mono ?_
  rintro e w' ⟨rfl, u, lb, ra, rc, hd, hn, ht, ho⟩
  refine ⟨own_let hm.disk hm.own ht, ?_⟩
  have hbel := own_belows hm.disk hm.lo hm.own hm.below ht
  rcases hcs with ⟨a1, a2, a3, a4, a5⟩ | ⟨a1, a2, a3, a4, a5⟩ | ⟨a1, a2, a3⟩
  · right; left
    generalize (commitC d s g c).e = n at *
    rw [a5] at hd ho
    exact ⟨n, congrArg Ending.returned (errV_pos a1), a1, a2, a3, a4, _, _, { p with wv := u }, d, rfl, ⟨hd, hm.lo, ho, rfl, hg, hm.kept, hm.clean, hbel⟩, rfl⟩
  · left
    rw [a1]
    refine ⟨rfl, _, _, { p with wv := u }, _, rfl, ⟨hd, hm.lo, ho, rfl, ?_, ?_, a2, hbel⟩, a3⟩
    · show (commitC d s g c).g = ⟨p.B, 26, N - 26, firstOf (commitC d s g c).d (commitC d s g c).side, (commitC d s g c).g.used⟩
      rw [← hgB]
      exact a5
    · show KeptL N _ (commitC d s g c).side (commitC d s g c).g.used (commitC d s g c).rows
      rw [a3]
      exact a4
  · right; right
    rw [a1]
    exact ⟨congrArg Ending.returned (errV_pos (show ¬ (8 : Int) = 0 by decide)), { p with wv := u }, _, hd, rfl, hm.lo, a2, a3.may, hbel⟩
/-- A store that goes on behind a fall. -/
structure SmG (w wr : World) (N b : Nat) (s : St) (g : Lg) (p : Dp) (d : Dk) : Prop where
  disk : DiskAt wr p d
  lo : w.heap.size ≤ p.lo
  own : StoreOwn wr w.heap.size b s g
  dB : s.dB = p.B
  gf : g = ⟨p.B, 26, N - 26, firstOf d s.side, g.used⟩
  kept : KeptG N d.now s.side g.used s.rows
  free : Free d N 0
  below : Below w.heap.size w wr
theorem SmG.go {w wr wx : World} {N b : Nat} {s : St} {g : Lg} {p : Dp} {d : Dk} (h : SmG w wr N b s g p d) (hb : Below wr.heap.size wr wx) : SmG w wx N b s g p d :=
  ⟨h.disk.below hb, h.lo, h.own.below hb, h.dB, h.gf, h.kept, h.free, h.below.trans (hb.mono h.below.size)⟩
theorem KeptG.rows {N side used : Nat} {L : List (List UInt8)} {rows : List Ch} (h : KeptG N L side used rows) : Rowed rows ∧ (∀ c ∈ rows, changeF c = 0) ∧ rows.length ≤ 12 := by
  obtain ⟨r0, D, h1, h2, h3⟩ := h.said
  obtain ⟨a, b, c⟩ := whOf_rows (laidX_some h1).2
  refine foldRows_rowed a b c (fun l hl x hx => ?_) h3
  have e : D = (logAtD (dk L) side).1 := by rw [h2]
  rw [e] at hl
  exact (logOf_ok rdC rdC_ok l hl).1 x hx
theorem KeptG.usedLe {N side used : Nat} {L : List (List UInt8)} {rows : List Ch} (h : KeptG N L side used rows) (hN : 42 ≤ N) : used ≤ N - 26 := by
  obtain ⟨r0, D, h1, h2, h3⟩ := h.said
  have := logOf_le rdC (now := L) (from' := 26) (many := L.length - 26) (first := firstOf (dk L) side) (by rw [h.len]; omega)
  have h2' : logOf rdC L 26 (L.length - 26) (firstOf (dk L) side) = (D, used) := h2
  rw [h2', h.len] at this
  exact this
theorem kg_save {N : Nat} {d : Dk} {s : St} {g : Lg} (hk : KeptG N d.now s.side g.used s.rows) (hf : Free d N 0) (hN : 42 ≤ N) (hN2 : N ≤ 60) (hm : g.many = N - 26) :
    (saveD d s g).2 = 0 ∧ Kept N (saveD d s g).1 (sideTo d s g) 0 s.rows := by
  obtain ⟨q1, q2, q3⟩ := hk.rows
  have hs := hk.sd
  have hlen := hf.len
  have hi : sideTo d s g ≤ 1 := by unfold sideTo; split <;> omega
  obtain ⟨a1, a2, a3, a4, a5⟩ := layT_free hf hN hi q1 q2 q3
  refine ⟨a1, a2, hi, ⟨s.rows, [], a3, ?_, rfl⟩, a4⟩
  obtain ⟨r0, D, h1, h2, h3⟩ := hk.said
  have h2 : logAtD d s.side = (D, g.used) := h2
  have hcong : logAtD (saveD d s g).1 (sideTo d s g) = logAtD d (sideTo d s g) := logAt_congr (by rw [show (saveD d s g).1.now.length = N from a2.len, hlen]) a5
  rw [hcong]
  have hu := hk.usedLe hN
  by_cases h0 : g.used = 0
  · have e : sideTo d s g = s.side := by unfold sideTo; rw [if_neg (by omega)]
    rw [e, h2, h0]
    have hz : (closedL rdC (firstOf d s.side) (regionL d.now 26 (d.now.length - 26))).2 = 0 := by
      have : (logAtD d s.side).2 = 0 := by rw [h2]; exact h0
      exact this
    have hD : D = [] := by
      have e2 : D = (logAtD d s.side).1 := by rw [h2]
      rw [e2]; exact closedL_zero rdC hz
    rw [hD]
  · have e : sideTo d s g = 1 - s.side := by unfold sideTo; rw [if_pos (by omega)]
    rw [e]
    have hp : 0 < (closedL rdC (firstOf d s.side) (regionL d.now 26 (d.now.length - 26))).2 := by
      have : (logAtD d s.side).2 = g.used := by rw [h2]
      unfold logAtD logOf at this
      omega
    obtain ⟨x, r, hx, hno⟩ := closedL_used rdC hp
    have h26 : d.now[26]? = some x := by
      have := regionL_at (now := d.now) (from' := 26) (many := d.now.length - 26) (j := 0)
      rw [hx, if_pos (by omega)] at this
      simpa using this.symm
    refine logAt_none (by omega) h26 (secOf_other hno ?_ ?_ ?_)
    all_goals
      unfold firstOf
      rw [hlen]
      rcases (by omega : s.side = 0 ∨ s.side = 1) with e | e <;> rw [e] <;> simp <;> omega
theorem kg_add {N : Nat} {d : Dk} {side used B : Nat} {rows : List Ch} (hk : KeptG N d.now side used rows) (hf : Free d N 0) (hN : 42 ≤ N) (hN2 : N ≤ 60) (hroom : ¬ N - 26 - used < 1) :
    (addD ⟨B, 26, N - 26, firstOf d side, used⟩ d []).2 = 0 ∧ Free (addD ⟨B, 26, N - 26, firstOf d side, used⟩ d []).1 N 0 ∧ KeptG N (addD ⟨B, 26, N - 26, firstOf d side, used⟩ d []).1.now side (used + 1) rows := by
  obtain ⟨r0, D, h1, h2, h3⟩ := hk.said
  have h2 : logAtD d side = (D, used) := h2
  have hs := hk.sd
  have hlen := hf.len
  have hu := hk.usedLe hN
  have h12 := hk.rows.2.2
  obtain ⟨hf1, hf2⟩ := first_ok (d := d) hlen hs hN hN2
  obtain ⟨a1, a2, a3, a4, a5, a6⟩ := addD_free (g := ⟨B, 26, N - 26, firstOf d side, used⟩) (d := d) (c := []) (D := D) ⟨by simp only; omega, hf2, hu⟩ hf1 (by simp only; omega) hf.up hf.left (by simp) (by simpa using hroom) rfl (by
    have := h2
    unfold logAtD at this
    rw [hlen] at this
    exact this)
  have low := addD_low (g := ⟨B, 26, N - 26, firstOf d side, used⟩) (c := []) hf (by simp only; omega) hu (by simp) (by simpa using hroom) rfl
  refine ⟨a1, ⟨a2, by rw [a3]; exact hf.left, by rw [a4]; simp, by rw [a5]; exact hlen⟩, by rw [a5]; exact hlen, hs, r0, D ++ [[]], ?_, ?_, foldRows_snoc h3 h12⟩
  · have e : ∀ i, i ≤ 1 → whOf (dk (addD ⟨B, 26, N - 26, firstOf d side, used⟩ d []).1.now) i = whOf (dk d.now) i := fun i hi => whOf_congr (d := dk d.now) hi low
    unfold laidX at h1 ⊢
    rw [e 1 (by omega), e 0 (by omega)]
    exact h1
  · show logAtD (addD ⟨B, 26, N - 26, firstOf d side, used⟩ d []).1 side = _
    unfold logAtD
    rw [firstOf_len a5, a5, hlen]
    exact a6
theorem kg_commit {N : Nat} {d : Dk} {s : St} {g : Lg} (hk : KeptG N d.now s.side g.used s.rows) (hf : Free d N 0) (hN : 42 ≤ N) (hN2 : N ≤ 60) (hg : g = ⟨g.dB, 26, N - 26, firstOf d s.side, g.used⟩) :
    (commitC d s g []).e = 0 ∧ Free (commitC d s g []).d N 0 ∧ KeptG N (commitC d s g []).d.now (commitC d s g []).side (commitC d s g []).g.used s.rows ∧ (commitC d s g []).rows = s.rows ∧
      (commitC d s g []).g = ⟨g.dB, 26, N - 26, firstOf (commitC d s g []).d (commitC d s g []).side, (commitC d s g []).g.used⟩ := by
  have hlen := hf.len
  have hu := hk.usedLe hN
  have hgm : g.many = N - 26 := by rw [hg]
  have h12 := hk.rows.2.2
  have hap : appliedC s.rows [] = s.rows := rfl
  unfold commitC
  rw [if_neg (by simp), if_neg (show ¬ ¬ faultL [] = 0 from fun x => x rfl), hap, if_neg (by simp; omega)]
  by_cases hroom : g.many - g.used < ([] : List Ch).length + 1
  · rw [if_pos hroom]
    obtain ⟨a1, a2⟩ := kg_save hk hf hN hN2 hgm
    rw [if_pos a1]
    have hlen2 := a2.free.len
    obtain ⟨b1, b2, b3⟩ := kg_add (B := g.dB) a2.l.g a2.free hN hN2 (by omega)
    have hsg : savedG d s g = ⟨g.dB, 26, N - 26, firstOf (saveD d s g).1 (sideTo d s g), 0⟩ := by
      unfold savedG
      rw [hlen, firstOf_len (d := d) (d' := (saveD d s g).1) (by rw [hlen2, hlen])]
    rw [hsg]
    unfold addC
    rw [if_pos b1]
    have e : firstOf (addD ⟨g.dB, 26, N - 26, firstOf (saveD d s g).1 (sideTo d s g), 0⟩ (saveD d s g).1 []).1 (sideTo d s g) = firstOf (saveD d s g).1 (sideTo d s g) := firstOf_len (by rw [b2.len, hlen2])
    have eg : addG ⟨g.dB, 26, N - 26, firstOf (saveD d s g).1 (sideTo d s g), 0⟩ (saveD d s g).1 [] = ⟨g.dB, 26, N - 26, firstOf (saveD d s g).1 (sideTo d s g), 0 + 1⟩ := by unfold addG; rw [if_pos b1]; rfl
    rw [eg]
    refine ⟨rfl, b2, b3, rfl, ?_⟩
    show Lg.mk _ _ _ _ _ = Lg.mk _ _ _ (firstOf (addD ⟨g.dB, 26, N - 26, firstOf (saveD d s g).1 (sideTo d s g), 0⟩ (saveD d s g).1 []).1 (sideTo d s g)) _
    rw [e]
  · rw [if_neg hroom]
    have key := kg_add (B := g.dB) hk hf hN hN2 (by rw [← hgm]; simpa using hroom)
    rw [← hg] at key
    obtain ⟨b1, b2, b3⟩ := key
    unfold addC
    rw [if_pos b1]
    have e : firstOf (addD g d []).1 s.side = g.first := by
      rw [firstOf_len (d := d) (by rw [b2.len, hlen])]
      rw [hg]
    have eg : addG g d [] = { g with used := g.used + 1 } := by unfold addG; rw [if_pos b1]; rfl
    rw [eg]
    refine ⟨rfl, b2, b3, rfl, ?_⟩
    show Lg.mk _ _ _ _ _ = Lg.mk _ _ _ (firstOf (addD g d []).1 s.side) _
    rw [e]
    have e1 : g.start = 26 := by rw [hg]
    rw [e1, hgm]
theorem smg_commit {w wr : World} {N b : Nat} {s : St} {g : Lg} {p : Dp} {d : Dk} (hm : SmG w wr N b s g p d) (hN : 42 ≤ N) (hN2 : N ≤ 60) :
    Calls Try.prog 13 #[.pointer (some ⟨b, 0, none⟩), .slice none 0 0] wr fun e w' => e = .returned .nilIface ∧ Let wr w' ∧ ∃ s' g' p' d', p'.B = p.B ∧ SmG w w' N b s' g' p' d' ∧ s'.rows = s.rows := by
  have hg := hm.gf
  have hlen := hm.free.len
  obtain ⟨k1, k2⟩ := lg_ok hg hlen hm.kept.sd (hm.kept.usedLe hN) hN hN2
  obtain ⟨q1, q2, q3⟩ := hm.kept.rows
  have hgB : g.dB = p.B := by rw [hg]
  have hg2 : g = ⟨g.dB, 26, N - 26, firstOf d s.side, g.used⟩ := by rw [hgB]; exact hg
  obtain ⟨a1, a2, a3, a4, a5⟩ := kg_commit hm.kept hm.free hN hN2 hg2
  refine (storeCommit_any w.heap.size b p d s g none 0 [] wr hm.own hm.disk hm.lo hm.dB hgB k1 (by rw [hg]) k2 (by rw [hlen, hg]) (by omega) hm.kept.sd q3 q1 q2 (by have := hm.free.wr; omega) ⟨fun i h => absurd h (Nat.not_lt_zero _), fun x hx => by cases hx⟩ (fun _ => rfl) (by simp)).mono ?_
  rintro e w' ⟨rfl, u, lb, ra, rc, hd, hn, ht, ho⟩
  have hbel := own_belows hm.disk hm.lo hm.own hm.below ht
  rw [a1]
  refine ⟨rfl, own_let hm.disk hm.own ht, _, _, { p with wv := u }, _, rfl, ⟨hd, hm.lo, ho, rfl, ?_, ?_, a2, hbel⟩, a4⟩
  · show (commitC d s g []).g = ⟨p.B, 26, N - 26, firstOf (commitC d s g []).d (commitC d s g []).side, (commitC d s g []).g.used⟩
    rw [← hgB]
    exact a5
  · show KeptG N _ (commitC d s g []).side (commitC d s g []).g.used (commitC d s g []).rows
    rw [a4]
    exact a3
theorem smg_save {w wr : World} {N b : Nat} {s : St} {g : Lg} {p : Dp} {d : Dk} (hm : SmG w wr N b s g p d) (hN : 42 ≤ N) (hN2 : N ≤ 60) :
    Calls Try.prog 12 #[.pointer (some ⟨b, 0, none⟩)] wr fun e w' => e = .returned .nilIface ∧ Let wr w' ∧ ∃ s' g' p' d', p'.B = p.B ∧ SmG w w' N b s' g' p' d' ∧ s'.rows = s.rows := by
  have hg := hm.gf
  have hlen := hm.free.len
  have hgm : g.many = N - 26 := by rw [hg]
  obtain ⟨k1, k2⟩ := lg_ok hg hlen hm.kept.sd (hm.kept.usedLe hN) hN hN2
  obtain ⟨q1, q2, q3⟩ := hm.kept.rows
  obtain ⟨a1, a2⟩ := kg_save hm.kept hm.free hN hN2 hgm
  refine (storeSave_any w.heap.size b p d s g wr hm.own hm.disk hm.dB k1 (by rw [hlen, hgm]) (by omega) hm.kept.sd q3 q2 (by have := hm.free.wr; omega)).mono ?_
  rintro e w' ⟨rfl, u, hd, hn, ht, hor⟩
  rcases hor with ⟨h0, -⟩ | ⟨-, lb, hlb, ho⟩
  · exact absurd a1 h0
  have ht' : Touch (fun k => (dOwn p k ∨ k = b) ∨ k = s.lb) wr w' := ht.wide (fun k hk => .inl hk)
  rw [a1]
  refine ⟨rfl, own_let hm.disk hm.own ht', _, _, { p with wv := u }, (saveD d s g).1, rfl, ⟨hd, hm.lo, ho, hm.dB, ?_, a2.l.g, a2.free, own_belows hm.disk hm.lo hm.own hm.below ht'⟩, rfl⟩
  show Lg.mk _ _ _ _ _ = _
  rw [hlen, firstOf_len (d := d) (d' := (saveD d s g).1) (by rw [a2.free.len, hlen])]
theorem kg_open {w W : World} (p : Dp) (d : Dk) (N side used : Nat) (rows : List Ch) (h : DiskAt W p d) (hk : KeptG N d.now side used rows) (hf : Free d N 0) (hN : 42 ≤ N) (hlo : w.heap.size ≤ p.lo) (hb : Below w.heap.size w W) :
    Calls Try.prog 16 #[.pointer (some ⟨p.B, 0, none⟩)] W fun e w' => Below W.heap.size W w' ∧ ∃ b s g, e = .returned (.tuple #[.pointer (some ⟨b, 0, none⟩), .nilIface]) ∧ SmG w w' N b s g p d ∧ s.rows = rows := by
  refine (storeOpen_any p d W h hf.up (by rw [hf.len]; exact hN)).mono ?_
  rintro e w' ⟨hb2, hor⟩
  have hx : openD d = some (side, rows, used) := hk.opens
  rcases hor with ⟨ho, -⟩ | ⟨b, side', rows', used', ra, rc, lb, ho, h1, h2, h3, h4, rfl, hs⟩
  · rw [hx] at ho
    cases ho
  · rw [hx] at ho
    cases ho
    rw [hf.len] at hs
    exact ⟨hb2, b, _, _, rfl, ⟨h.below hb2, hlo, hs.lower hb.size, rfl, rfl, hk, hf, hb.trans (hb2.mono hb.size)⟩, rfl⟩
/-- The disk is up again. -/
theorem gone_restart {w wr : World} {N B : Nat} {p : Dp} {d : Dk} {R1 R2 : List Ch} (h : Gone w wr N B p d R1 R2) (keep : Nat) (hk : keep < 18446744073709551616) :
    Calls Try.prog 15 #[.pointer (some ⟨B, 0, none⟩), .int .u64 keep] wr fun e w' => e = .returned (.tuple #[]) ∧ Let wr w' ∧ Below w.heap.size w w' ∧ ∃ p' d' side used rows, p'.B = B ∧ w.heap.size ≤ p'.lo ∧ DiskAt w' p' d' ∧ KeptG N d'.now side used rows ∧ Free d' N 0 ∧ (rows = R1 ∨ rows = R2) := by
  rw [← h.pB]
  refine (diskRestart_any p d keep wr h.disk hk (by have := h.few; omega)).mono ?_
  rintro e w' ⟨rfl, hd, hn⟩
  have ht := hn.touch
  obtain ⟨sd, us, hor⟩ := h.fate keep
  have hlet : Let wr w' := fun k C T fr e hT => ht.other h.disk e ⟨hT.1, hT.2.1, hT.2.2.1⟩
  have hbel : Below w.heap.size w w' := h.below.trans (ht.below (fun k hk => by
    rcases hk with rfl | rfl | rfl | hk
    · exact Nat.le_trans h.lo h.disk.lo1
    · exact Nat.le_trans h.lo h.disk.lo2
    · exact Nat.le_trans h.lo h.disk.lo3
    · exact Nat.le_trans h.lo (h.disk.wr.lt k hk).1) h.below.size)
  have fin : ∀ R, KeptG N (keptBy keep d.wr d.kept) sd us R → (R = R1 ∨ R = R2) → _ := fun R hg hR => (⟨rfl, hlet, hbel, { p with wv := .slice none 0 0 }, restartD d keep, sd, us, R, rfl, h.lo, hd, hg, ⟨rfl, (by decide : (-1 : Int) < 0), by simp [restartD], hg.len⟩, hR⟩ : Ending.returned (.tuple #[]) = Ending.returned (.tuple #[]) ∧ Let wr w' ∧ Below w.heap.size w w' ∧ ∃ p' d' side used rows, p'.B = p.B ∧ w.heap.size ≤ p'.lo ∧ DiskAt w' p' d' ∧ KeptG N d'.now side used rows ∧ Free d' N 0 ∧ (rows = R1 ∨ rows = R2))
  rcases hor with hg | hg
  · exact fin R1 hg (.inl rfl)
  · exact fin R2 hg (.inr rfl)
/-- A disk that did not fall is as one that did. -/
theorem SmA.gone {w wr : World} {N b : Nat} {s : St} {g : Lg} {p : Dp} {d : Dk} (h : SmA w wr N b s g p d) (R : List Ch) : Gone w wr N p.B p d s.rows R := by
  refine ⟨h.disk, rfl, h.lo, by rw [h.clean.wr]; simp, fun keep => ⟨s.side, g.used, .inl ?_⟩, h.below⟩
  have e : keptBy keep d.wr d.kept = d.now := by rw [h.clean.wr, h.clean.kept]; rfl
  rw [e]
  exact h.kept.g
theorem format_clean {N : Nat} (hN : 42 ≤ N) (hN2 : N ≤ 60) : Clean (formatD (newD N)).1 := by
  have hl : (newD N).now.length = N := (free_new N).len
  have e : formatD (newD N) = seqD (newD N) formL := by unfold formatD; rw [if_neg (by omega)]
  rw [e]
  have hz : (⟨#[]⟩ : ByteArray).size ≤ 40 := by decide
  have hh : (baL (headL 1 ⟨#[]⟩)).size ≤ 40 := by rw [baL_size, headL_length]; omega
  obtain ⟨a1, a2, a3⟩ := lay_free (a := 0) (free_new N) (by omega) hz
  obtain ⟨b1, b2, b3⟩ := lay_free (a := 1) a2 (by omega) hz
  obtain ⟨c1, c2, c3⟩ := lay_free (a := 26) b2 (by omega) hz
  obtain ⟨d1, d2, d3⟩ := lay_free (a := 1) c2 (by omega) hh
  have eq : seqD (newD N) formL = ((layD (layD (layD (layD (newD N) 0 [⟨#[]⟩]).1 1 [⟨#[]⟩]).1 26 [⟨#[]⟩]).1 1 [baL (headL 1 ⟨#[]⟩)]).1, 0) := by
    unfold formL
    simp only [seqD]
    rw [if_pos a1, if_pos b1, if_pos c1, if_pos d1]
  rw [eq]
  exact (layD_free _ 1 [baL (headL 1 ⟨#[]⟩)] c2.up c2.left (by rw [c2.len]; simp; omega) (by intro x hx; simp at hx; rw [hx]; exact hh)).2.2.2.2.2
/-- A new disk is formatted. -/
theorem formatC_new (p : Dp) (N : Nat) (w : World) (h : DiskAt w p (newD N)) (hN : 42 ≤ N) (hN2 : N ≤ 60) :
    Calls Try.prog 32 #[.pointer (some ⟨p.B, 0, none⟩)] w fun e w' => e = .returned .nilIface ∧ ∃ u d, DiskAt w' { p with wv := u } d ∧ Kept N d 1 0 [] ∧ Clean d ∧ Below p.lo w w' := by
  obtain ⟨a1, a2⟩ := kept_format hN hN2
  refine (storeFormat_any p (newD N) w h (by simp [newD])).mono ?_
  rintro e w' ⟨rfl, u, hd, ht, hn⟩
  rw [a1]
  exact ⟨rfl, u, _, hd, a2, format_clean hN hN2, ht.below (fun k hk => by
    rcases hk with rfl | rfl | rfl | hk
    · exact h.lo1
    · exact h.lo2
    · exact h.lo3
    · exact (h.wr.lt k hk).1) (Nat.le_trans h.lo1 (Nat.le_of_lt (h.lts (.inl rfl))))⟩
set_option maxRecDepth 100000 in
set_option maxHeartbeats 1000000 in
theorem storedC_any (N : Nat) (w : World) (hN : 42 ≤ N) (hN2 : N ≤ 60) :
    Calls Try.prog 8 #[.int .i64 N] w fun e w' => ∃ p d b s g, e = .returned (.tuple #[.pointer (some ⟨p.B, 0, none⟩), .pointer (some ⟨b, 0, none⟩), .bool true]) ∧ Sm w w' N b s g p d ∧ s.rows = [] ∧ g.used = 0 ∧ Clean d := by
  have KN : Hid _ := diskNew_good N w (by omega) hN2
  go_enter Try.func8, Try.ntmps8
  go_wp2_with fail
  refine Calls.mono KN.out ?_
  rintro e w1 ⟨B, gn, gk, rfl, hd, hb⟩
  obtain ⟨p, hp⟩ : ∃ p : Dp, p = ⟨w.heap.size, B, gn, gk, .slice none 0 0⟩ := ⟨_, rfl⟩
  have hB : p.B = B := by rw [hp]
  have HLO : Hid (p.lo = w.heap.size) := by show _ = _; rw [hp]
  rw [← hp] at hd
  have HB1 : Hid (Below w.heap.size w w1) := hb
  subst hB
  have KF : Hid _ := formatC_new p N w1 hd hN hN2
  clear hd hb hp KN
  go_wp2_with fail
  refine Calls.mono KF.out ?_
  rintro e w2 ⟨rfl, u, d, hd2, hk, hcl, hb2⟩
  have hb3 : Below w.heap.size w w2 := HB1.out.trans (by have := hb2; rw [HLO.out] at this; exact this)
  have KO : Hid _ := open_first (w := w) { p with wv := u } d N w2 hd2 hk hN (by show _ ≤ p.lo; rw [HLO.out]; exact Nat.le_refl _) hb3
  have HCL : Hid (Clean d) := hcl
  clear hd2 hk hb2 hb3 hcl KF HB1 HLO
  go_wp2_with fail
  refine Calls.mono KO.out ?_
  rintro e w3 ⟨b, s, g, rfl, hs, h1, h2⟩
  have HA : Hid (Sm w w3 N b s g { p with wv := u } d ∧ s.rows = [] ∧ g.used = 0 ∧ Clean d) := ⟨hs, h1, h2, HCL.out⟩
  clear hs h1 h2 KO
  go_wp2
  go_ret3
  exact ⟨{ p with wv := u }, d, b, s, g, rfl, HA.out⟩
set_option maxRecDepth 100000 in
set_option maxHeartbeats 1000000 in
theorem kept_any (w : World) : Calls Try.prog 7 #[] w fun e w' => e = .returned (.bool true) ∧ Below w.heap.size w w' := by
  go_enter Try.func7, Try.ntmps7
  go_wp2_with fail
  refine (stored_any 50 w (by omega) (by omega)).mono ?_
  rintro e w1 ⟨p, d, b, s, g, rfl, hs, h1, h2⟩
  obtain ⟨W, hW⟩ : ∃ W, W = w1.alloc (.cells #[.string kx.key, .string kx.val, .bool kx.gone] 66) := ⟨_, rfl⟩
  have hbe : Below w1.heap.size w1 W := by rw [hW]; exact (Below.refl _ _).alloc (Nat.le_refl _) _
  have hdeed : Deed w.heap.size W (some ⟨w1.heap.size, 0, none⟩) [kx] := by
    rw [hW]
    exact ⟨CC.one w1 kx _, fun x hx _ => .inr (by injection hx with hx; subst hx; exact ⟨_, _, heap_alloc_new w1 _⟩)⟩
  have kc := sm_commit (hs.go hbe) k0 (by omega) (by omega) (by rw [h1]; rfl) (by rw [h2]; rfl) rfl (some ⟨w1.heap.size, 0, none⟩) 1 [kx] hdeed (by intro h; cases h) (by simp)
  rw [commitF_k0, commitU_k0, errV_zero rfl, h1] at kc
  have KC : Hid _ := kc
  clear kc hdeed hbe hs h1 h2
  go_wp2_with fail
  have hW' : W = w1.alloc (.cells #[.string ⟨#[107]⟩, .string ⟨#[120]⟩, .bool false] 66) := hW
  rw [← hW']
  refine Calls.mono KC.out ?_
  rintro e w2 ⟨rfl, ⟨s', g', p', d', hpB, hs', hor⟩, -⟩
  rcases hor with ⟨h0, -⟩ | ⟨-, h1, h2⟩
  · exact absurd rfl h0
  have HS : Hid (Sm w w2 50 b s' g' p' d') := hs'
  have HR : Hid (s'.rows.length = 1) := by show _ = _; rw [h1]; exact applied_k0
  have HU : Hid (g'.used = 2) := h2
  have ko := open_kept p' d' 50 s'.side g'.used s'.rows w2 hs'.disk hs'.kept (by omega)
  rw [hpB] at ko
  have KO : Hid _ := ko
  clear ko hs' h1 h2 KC hW hW'
  go_wp2_with fail
  refine Calls.mono KO.out ?_
  rintro e w3 ⟨b', ra, rc, lb, rfl, hb3, ho⟩
  have HS3 : Hid (Sm w w3 50 b s' g' p' d') := HS.out.go hb3
  have KRO : Hid _ := storeRows_any b' _ w3 ho.at' (by show s'.rows.length ≤ 100; rw [HR.out]; omega)
  clear ho hb3 KO HS
  go_wp2_with fail
  refine Calls.mono KRO.out ?_
  rintro e w4 ⟨v, rfl, hov, hb4⟩
  have HS4 : Hid (Sm w w4 50 b s' g' p' d') := HS3.out.go hb4
  obtain ⟨va, vc, hv, -⟩ := OwnsC.files hov
  have hv' : v = .slice va 1 vc := by
    have h9 : v = .slice va s'.rows.length vc := hv
    rw [HR.out] at h9
    exact h9
  clear hv
  subst hv'
  have HB4 : Hid (Below w.heap.size w w4) := HS4.out.below
  clear hov hb4 KRO HS3 HS4
  go_wp2
  go_ret
  exact ⟨rfl, HB4.out⟩
end Go.Proofs.Ytihnghnafpgdfac
