/-
  STORES THAT ARE NONE: a disk that was never formatted, or is too small.
  StoreSays: how a store, its disk and the document's store stand from act to act.
  THE CLOSED FACT OF STORES: what is committed is there.
-/
import Derived.Test.YtihnghnafpgdfacStoreKeeps
import Derived.Test.YtihnghnafpgdfacStoreCommits
import Derived.Test.YtihnghnafpgdfacRowSame
namespace Go.Proofs.Ytihnghnafpgdfac
open Go Go.RowKit Go.BigFrame
set_option linter.unusedVariables false
set_option linter.unusedSimpArgs false

theorem openD_new {N : Nat} (hN : 2 ≤ N) : openD (newD N) = none := by
  have h1 : whOf (newD N) 1 = none := whOf_blank (newD_at (by omega))
  have h0 : whOf (newD N) 0 = none := whOf_blank (newD_at (by omega))
  have hx : laidX (whOf (newD N)) = none := by unfold laidX; rw [h1]; simp only; rw [h0]
  unfold openD
  rw [hx]
set_option maxRecDepth 100000 in
theorem laid_short (p : Dp) (d : Dk) (w : World) (h : DiskAt w p d) (hup : d.down = false) (h42 : d.now.length < 42) :
    Calls Try.prog 45 #[.pointer (some ⟨p.B, 0, none⟩)] w fun e w' => e = .returned (.tuple #[.int .i64 0, .slice none 0 0, .iface 75 (.int .i64 4)]) ∧ w' = w := by
  have kd := down_any p d w h
  rw [hup] at kd
  have KD : Hid _ := kd
  have KS : Hid _ := sectors_any p d w h
  have h42z : (d.now.length : Int) < 42 := by omega
  clear h kd
  go_enter Try.func45, Try.ntmps45
  go_wp2_with fail
  refine Calls.mono KD.out ?_
  rintro e w1 ⟨rfl, hw⟩
  rw [hw]
  clear hw w1 KD
  go_wp2_with fail
  refine Calls.mono KS.out ?_
  rintro e w1 ⟨rfl, hw⟩
  rw [hw]
  clear hw w1 KS
  go_wp2
  go_ret3
  exact ⟨rfl, rfl⟩
set_option maxRecDepth 100000 in
theorem open_short (p : Dp) (d : Dk) (w : World) (h : DiskAt w p d) (hup : d.down = false) (h42 : d.now.length < 42) :
    Calls Try.prog 16 #[.pointer (some ⟨p.B, 0, none⟩)] w fun e w' => e = .returned (.tuple #[.pointer none, .iface 75 (.int .i64 4)]) ∧ w' = w := by
  have KL : Hid _ := laid_short p d w h hup h42
  clear h
  go_enter Try.func16, Try.ntmps16
  go_wp2_with fail
  refine Calls.mono KL.out ?_
  rintro e w1 ⟨rfl, hw⟩
  rw [hw]
  clear hw w1 KL
  go_wp2
  go_ret2
  exact ⟨rfl, rfl⟩
/-- A disk that was never formatted has no store. -/
theorem open_fresh (p : Dp) (N : Nat) (w : World) (h : DiskAt w p (newD N)) (hN : 1 ≤ N) :
    Calls Try.prog 16 #[.pointer (some ⟨p.B, 0, none⟩)] w fun e w' => e = .returned (.tuple #[.pointer none, .iface 75 (.int .i64 4)]) ∧ Below w.heap.size w w' := by
  have hl : (newD N).now.length = N := (free_new N).len
  by_cases h42 : N < 42
  · refine (open_short p (newD N) w h rfl (by omega)).mono ?_
    rintro e w' ⟨rfl, rfl⟩
    exact ⟨rfl, Below.refl _ _⟩
  · refine (storeOpen_any p (newD N) w h rfl (by omega)).mono ?_
    rintro e w' ⟨hb, hor⟩
    rcases hor with ⟨-, rfl⟩ | ⟨b, side, rows, used, ra, rc, lb, ho, -⟩
    · exact ⟨rfl, hb⟩
    · rw [openD_new (by omega)] at ho
      cases ho
/-- A store that is kept is opened. -/
theorem open_kept (p : Dp) (d : Dk) (N side used : Nat) (rows : List Ch) (w : World) (h : DiskAt w p d) (hk : Kept N d side used rows) (hN : 42 ≤ N) :
    Calls Try.prog 16 #[.pointer (some ⟨p.B, 0, none⟩)] w fun e w' => ∃ b ra rc lb, e = .returned (.tuple #[.pointer (some ⟨b, 0, none⟩), .nilIface]) ∧ Below w.heap.size w w' ∧ StoreOwn w' w.heap.size b ⟨p.B, side, ra, rc, rows, lb⟩ ⟨p.B, 26, N - 26, firstOf d side, used⟩ := by
  refine (storeOpen_any p d w h hk.free.up (by rw [hk.free.len]; exact hN)).mono ?_
  rintro e w' ⟨hb, hor⟩
  rcases hor with ⟨ho, -⟩ | ⟨b, side', rows', used', ra, rc, lb, ho, h1, h2, h3, h4, rfl, hs⟩
  · rw [hk.opens] at ho
    cases ho
  · rw [hk.opens] at ho
    cases ho
    rw [hk.free.len] at hs
    exact ⟨b, ra, rc, lb, rfl, hb, hs⟩
end Go.Proofs.Ytihnghnafpgdfac
namespace Go.Proofs.Ytihnghnafpgdfac
open Go Go.RowKit Go.BigFrame
set_option linter.unusedVariables false
set_option linter.unusedSimpArgs false

/-- A kind of memory that a store has. -/
abbrev StoreT (T : TypeId) : Prop := T = 74 ∨ T = 89 ∨ T = 91 ∨ T = 105 ∨ T = 79 ∨ T = 66
theorem StoreOwn.far {w w' : World} {lo b : Nat} {s : St} {g : Lg} (h : StoreOwn w lo b s g) (hk : ∀ (k : Nat) (C : Array Value) (T : TypeId) (fr : Nat × Nat), w.heap[k]? = some (.cells C T fr) → StoreT T → w'.heap[k]? = w.heap[k]?) : StoreOwn w' lo b s g := by
  have ho : OwnsC w' lo (.slice s.ra s.rows.length s.rc) s.rows := ownsRow_far h.own (fun k e => by
    obtain ⟨C, f, e⟩ := Lib.ownsRow_kind h.own k e
    exact hk _ _ _ _ e (by simp [StoreT]))
  refine ⟨⟨(hk _ _ _ _ h.at'.blk (by simp [StoreT])).trans h.at'.blk, OwnsC.slice ho⟩, ho, ?_, h.low⟩
  have hl := h.log
  unfold LogAt at hl ⊢
  exact (hk _ _ _ _ hl (by simp [StoreT])).trans hl
theorem DiskAt.farT {w w' : World} {p : Dp} {d : Dk} (h : DiskAt w p d) (hk : ∀ (k : Nat) (C : Array Value) (T : TypeId) (fr : Nat × Nat), w.heap[k]? = some (.cells C T fr) → StoreT T → w'.heap[k]? = w.heap[k]?) : DiskAt w' p d :=
  h.far fun k hk' => by
    obtain ⟨C, T, fr, e, hT⟩ := h.kind (k := k) hk'
    refine hk _ _ _ _ e ?_
    rcases hT with rfl | rfl | rfl <;> simp [StoreT]
theorem StoreOwn.lower {w : World} {lo lo' b : Nat} {s : St} {g : Lg} (h : StoreOwn w lo b s g) (hl : lo' ≤ lo) : StoreOwn w lo' b s g :=
  ⟨h.at', OwnsC.base h.own hl, h.log, ⟨Nat.le_trans hl h.low.1, Nat.le_trans hl h.low.2⟩⟩

/-- A store in memory, and its disk. -/
structure Sm (w wr : World) (N b : Nat) (s : St) (g : Lg) (p : Dp) (d : Dk) : Prop where
  disk : DiskAt wr p d
  lo : w.heap.size ≤ p.lo
  own : StoreOwn wr w.heap.size b s g
  dB : s.dB = p.B
  gf : g = ⟨p.B, 26, N - 26, firstOf d s.side, g.used⟩
  kept : Kept N d s.side g.used s.rows
  below : Below w.heap.size w wr
theorem Sm.go {w wr wx : World} {N b : Nat} {s : St} {g : Lg} {p : Dp} {d : Dk} (h : Sm w wr N b s g p d) (hb : Below wr.heap.size wr wx) : Sm w wx N b s g p d :=
  ⟨h.disk.below hb, h.lo, h.own.below hb, h.dB, h.gf, h.kept, h.below.trans (hb.mono h.below.size)⟩
theorem Sm.ok {w wr : World} {N b : Nat} {s : St} {g : Lg} {p : Dp} {d : Dk} (h : Sm w wr N b s g p d) (hN : 42 ≤ N) (hN2 : N ≤ 60) : LgOk g ∧ 1 ≤ g.first := by
  have hg := h.gf
  have hu := h.kept.used hN
  have hs := h.kept.sd
  have hlen := h.kept.free.len
  have hfirst : 1 ≤ firstOf d s.side ∧ firstOf d s.side ≤ 4000000 := by
    unfold firstOf
    rw [hlen]
    rcases (by omega : s.side = 0 ∨ s.side = 1) with e | e <;> rw [e] <;> simp <;> omega
  have e1 : g.start = 26 := by rw [hg]
  have e2 : g.many = N - 26 := by rw [hg]
  have e3 : g.first = firstOf d s.side := by rw [hg]
  exact ⟨⟨by rw [e1, e2]; omega, by rw [e3]; exact hfirst.2, by rw [e2]; exact hu⟩, by rw [e3]; exact hfirst.1⟩
/-- What a store's acts let be. -/
theorem Sm.others {w wr w' : World} {N b : Nat} {s : St} {g : Lg} {p : Dp} {d : Dk} (h : Sm w wr N b s g p d) (ht : Touch (fun k => (dOwn p k ∨ k = b) ∨ k = s.lb) wr w') {k : Nat} {C : Array Value} {T : TypeId} {fr : Nat × Nat} (hk : wr.heap[k]? = some (.cells C T fr))
    (hT : T ≠ 74 ∧ T ≠ 89 ∧ T ≠ 91 ∧ T ≠ 105 ∧ T ≠ 79) : w'.heap[k]? = wr.heap[k]? := by
  refine ht.block _ (Array.getElem?_eq_some_iff.1 hk).1 (fun ho => ?_)
  rcases ho with (ho | ho) | ho
  · obtain ⟨C', T', fr', e, hT'⟩ := h.disk.kind ho
    rw [hk] at e
    simp at e
    rcases hT' with e' | e' | e'
    · exact hT.1 (by rw [e.2.1, e'])
    · exact hT.2.1 (by rw [e.2.1, e'])
    · exact hT.2.2.1 (by rw [e.2.1, e'])
  · rw [ho, h.own.at'.blk] at hk
    simp at hk
    exact hT.2.2.2.2 hk.2.1.symm
  · have hl := h.own.log
    unfold LogAt at hl
    rw [ho, hl] at hk
    simp at hk
    exact hT.2.2.2.1 hk.2.1.symm
theorem Sm.belows {w wr w' : World} {N b : Nat} {s : St} {g : Lg} {p : Dp} {d : Dk} (h : Sm w wr N b s g p d) (ht : Touch (fun k => (dOwn p k ∨ k = b) ∨ k = s.lb) wr w') : Below w.heap.size w w' :=
  h.below.trans (ht.below (fun k hk => by
    rcases hk with (hk | rfl) | rfl
    · rcases hk with rfl | rfl | rfl | hk
      · exact Nat.le_trans h.lo h.disk.lo1
      · exact Nat.le_trans h.lo h.disk.lo2
      · exact Nat.le_trans h.lo h.disk.lo3
      · exact Nat.le_trans h.lo (h.disk.wr.lt k hk).1
    · exact h.own.low.1
    · exact h.own.low.2) h.below.size)
/-- A deed that was handed in. -/
theorem deed_in {w wr : World} {a : Option Addr} {c : List Ch} (h : CC w a c) (hb : Below w.heap.size w wr) : Deed w.heap.size wr a c := by
  refine ⟨h.below hb, fun x hx hne => ?_⟩
  cases c with
  | nil => exact absurd rfl hne
  | cons y r =>
    obtain ⟨b, off, e, h1, _⟩ := h 0 (by simp)
    rw [hx] at e
    injection e with e
    subst e
    exact .inl (World.block_lt_of_cell? _ _ h1)
/-- The disk's place may be new; the store is where it was. -/
def Turned (w wr w' : World) (N b : Nat) (s : St) (g : Lg) (B : Nat) (F : Int) (rows : List Ch) (used : Nat) : Prop :=
  ∃ s' g' p' d', p'.B = B ∧ Sm w w' N b s' g' p' d' ∧ ((¬ F = 0 ∧ s'.rows = s.rows ∧ g'.used = g.used) ∨ (F = 0 ∧ s'.rows = rows ∧ g'.used = used))
/-- Memory that no store has is let be. -/
def Let (w w' : World) : Prop := ∀ (k : Nat) (C : Array Value) (T : TypeId) (fr : Nat × Nat), w.heap[k]? = some (.cells C T fr) → (T ≠ 74 ∧ T ≠ 89 ∧ T ≠ 91 ∧ T ≠ 105 ∧ T ≠ 79) → w'.heap[k]? = w.heap[k]?
theorem sm_commit {w wr : World} {N b : Nat} {s : St} {g : Lg} {p : Dp} {d : Dk} (hm : Sm w wr N b s g p d) (m : Ms) (hN : 42 ≤ N) (hN2 : N ≤ 60) (hr : m.rows = s.rows) (hu : m.used = g.used) (hmany : m.many = N - 26) (a : Option Addr) (cap : Nat) (c : List Ch) (hc : Deed w.heap.size wr a c) (hcn : a = none → cap = 0) (hcl : c.length ≤ 100) :
    Calls Try.prog 13 #[.pointer (some ⟨b, 0, none⟩), .slice a c.length cap] wr fun e w' => e = .returned (errV (commitF m c)) ∧ Turned w wr w' N b s g p.B (commitF m c) (appliedC s.rows c) (commitU m c) ∧ Let wr w' := by
  obtain ⟨k1, k2⟩ := hm.ok hN hN2
  have hg := hm.gf
  have hlen := hm.kept.free.len
  obtain ⟨q1, q2, q3⟩ := hm.kept.rows
  refine (storeCommit_any w.heap.size b p d s g a cap c wr hm.own hm.disk hm.lo hm.dB (by rw [hg]) k1 (by rw [hg]) k2 (by rw [hlen, hg]) (by omega) hm.kept.sd q3 q1 q2 (by have := hm.kept.free.wr; omega) hc hcn hcl).mono ?_
  rintro e w' ⟨rfl, u, lb, ra, rc, hd, hn, ht, ho⟩
  have hg2 : g = ⟨g.dB, 26, N - 26, firstOf d s.side, g.used⟩ := by
    have : g.dB = p.B := by rw [hg]
    rw [this]; exact hg
  obtain ⟨e1, sd, us, hk, h1, h2, h3⟩ := kept_commit hm.kept hN hN2 hg2 hr hu hmany
  have hgB : g.dB = p.B := by rw [hg]
  rw [e1]
  have h2u : (commitC d s g c).g.used = us := by rw [h2]
  refine ⟨rfl, ⟨⟨p.B, (commitC d s g c).side, ra, rc, (commitC d s g c).rows, lb⟩, (commitC d s g c).g, { p with wv := u }, (commitC d s g c).d, rfl, ⟨hd, hm.lo, ho, rfl, ?_, ?_, hm.belows ht⟩, ?_⟩, fun k C T fr e hT => hm.others ht e hT⟩
  · show (commitC d s g c).g = ⟨p.B, 26, N - 26, firstOf (commitC d s g c).d (commitC d s g c).side, (commitC d s g c).g.used⟩
    rw [h2u, h1, ← hgB]
    exact h2
  · show Kept N _ (commitC d s g c).side (commitC d s g c).g.used (commitC d s g c).rows
    rw [h2u, h1]
    exact hk
  · rcases h3 with ⟨x, y, z⟩ | ⟨x, y, z⟩
    · exact .inl ⟨x, z, by show (commitC d s g c).g.used = _; rw [h2u, y]⟩
    · exact .inr ⟨x, z, by show (commitC d s g c).g.used = _; rw [h2u, y]⟩
theorem commitF_rng (m : Ms) (c : List Ch) : 0 ≤ commitF m c ∧ commitF m c ≤ 100 := by
  unfold commitF
  split
  · omega
  · split
    · exact faultL_rng c
    · split <;> omega
/-- A new disk is formatted. -/
theorem format_new (p : Dp) (N : Nat) (w : World) (h : DiskAt w p (newD N)) (hN : 42 ≤ N) (hN2 : N ≤ 60) :
    Calls Try.prog 32 #[.pointer (some ⟨p.B, 0, none⟩)] w fun e w' => e = .returned .nilIface ∧ ∃ u d, DiskAt w' { p with wv := u } d ∧ Kept N d 1 0 [] ∧ Below p.lo w w' := by
  obtain ⟨a1, a2⟩ := kept_format hN hN2
  refine (storeFormat_any p (newD N) w h (by simp [newD])).mono ?_
  rintro e w' ⟨rfl, u, hd, ht, hn⟩
  rw [a1]
  exact ⟨rfl, u, _, hd, a2, ht.below (fun k hk => by
    rcases hk with rfl | rfl | rfl | hk
    · exact h.lo1
    · exact h.lo2
    · exact h.lo3
    · exact (h.wr.lt k hk).1) (Nat.le_trans h.lo1 (Nat.le_of_lt (h.lts (.inl rfl))))⟩
theorem format_short (p : Dp) (N : Nat) (w : World) (h : DiskAt w p (newD N)) (hN : N < 42) :
    Calls Try.prog 32 #[.pointer (some ⟨p.B, 0, none⟩)] w fun e w' => e = .returned (.iface 75 (.int .i64 7)) ∧ Below p.lo w w' := by
  have hl : (newD N).now.length = N := (free_new N).len
  have a1 : formatD (newD N) = (newD N, 7) := by unfold formatD; rw [if_pos (by omega)]
  refine (storeFormat_any p (newD N) w h (by simp [newD])).mono ?_
  rintro e w' ⟨rfl, u, hd, ht, hn⟩
  rw [a1]
  exact ⟨congrArg Ending.returned (errV_pos (show ¬ (7 : Int) = 0 by decide)), ht.below (fun k hk => by
    rcases hk with rfl | rfl | rfl | hk
    · exact h.lo1
    · exact h.lo2
    · exact h.lo3
    · exact (h.wr.lt k hk).1) (Nat.le_trans h.lo1 (Nat.le_of_lt (h.lts (.inl rfl))))⟩
theorem open_first {w : World} (p : Dp) (d : Dk) (N : Nat) (W : World) (h : DiskAt W p d) (hk : Kept N d 1 0 []) (hN : 42 ≤ N) (hlo : w.heap.size ≤ p.lo) (hb : Below w.heap.size w W) :
    Calls Try.prog 16 #[.pointer (some ⟨p.B, 0, none⟩)] W fun e w' => ∃ b s g, e = .returned (.tuple #[.pointer (some ⟨b, 0, none⟩), .nilIface]) ∧ Sm w w' N b s g p d ∧ s.rows = [] ∧ g.used = 0 := by
  refine (open_kept p d N 1 0 [] W h hk hN).mono ?_
  rintro e w' ⟨b, ra, rc, lb, rfl, hb2, ho⟩
  exact ⟨b, _, _, rfl, ⟨h.below hb2, hlo, ho.lower hb.size, rfl, rfl, hk, hb.trans (hb2.mono hb.size)⟩, rfl, rfl⟩
end Go.Proofs.Ytihnghnafpgdfac
namespace Go.Proofs.Ytihnghnafpgdfac
open Go.RowKit Go.BigFrame
set_option linter.unusedVariables false
set_option linter.unusedSimpArgs false

set_option maxRecDepth 100000 in
set_option maxHeartbeats 1000000 in
theorem stored_any (N : Nat) (w : World) (hN : 42 ≤ N) (hN2 : N ≤ 60) :
    Calls Try.prog 8 #[.int .i64 N] w fun e w' => ∃ p d b s g, e = .returned (.tuple #[.pointer (some ⟨p.B, 0, none⟩), .pointer (some ⟨b, 0, none⟩), .bool true]) ∧ Sm w w' N b s g p d ∧ s.rows = [] ∧ g.used = 0 := by
  have KN : Hid _ := diskNew_good N w (by omega) hN2
  go_enter Try.func8, Try.ntmps8
  go_wp2_with fail
  refine Calls.mono KN.out ?_
  rintro e w1 ⟨B, gn, gk, rfl, hd, hb⟩
  obtain ⟨p, hp⟩ : ∃ p : Dp, p = ⟨w.heap.size, B, gn, gk, .slice none 0 0⟩ := ⟨_, rfl⟩
  have hB : p.B = B := by rw [hp]
  have HLO : Hid (p.lo = w.heap.size) := by show _ = _; rw [hp]
  rw [← hp] at hd
  have HB1 : Hid (Below w.heap.size w w1) := hb
  subst hB
  have KF : Hid _ := format_new p N w1 hd hN hN2
  clear hd hb hp KN
  go_wp2_with fail
  refine Calls.mono KF.out ?_
  rintro e w2 ⟨rfl, u, d, hd2, hk, hb2⟩
  have hb3 : Below w.heap.size w w2 := HB1.out.trans (by have := hb2; rw [HLO.out] at this; exact this)
  have KO : Hid _ := open_first (w := w) { p with wv := u } d N w2 hd2 hk hN (by show _ ≤ p.lo; rw [HLO.out]; exact Nat.le_refl _) hb3
  clear hd2 hk hb2 hb3 KF HB1 HLO
  go_wp2_with fail
  refine Calls.mono KO.out ?_
  rintro e w3 ⟨b, s, g, rfl, hs, h1, h2⟩
  have HA : Hid (Sm w w3 N b s g { p with wv := u } d ∧ s.rows = [] ∧ g.used = 0) := ⟨hs, h1, h2⟩
  clear hs h1 h2 KO
  go_wp2
  go_ret3
  exact ⟨{ p with wv := u }, d, b, s, g, rfl, HA.out⟩
def k0 : Ms := ⟨none, 0, [], 0, 24⟩
theorem commitF_k0 : commitF k0 [kx] = 0 := by decide
theorem commitU_k0 : commitU k0 [kx] = 2 := by decide
theorem applied_k0 : (appliedC [] [kx]).length = 1 := by decide

end Go.Proofs.Ytihnghnafpgdfac
