/-
  StoreSays: how a store, its disk and the document's store stand from act to act.
-/
import Derived.Test.YtihnghnafpgdfabStoreEdge
import Derived.Test.YtihnghnafpgdfabStoreCommitWalk
import Derived.Test.YtihnghnafpgdfabRowSame
namespace Go.Proofs.Ytihnghnafpgdfab
open Go Go.RowKit Go.BigFrame
set_option linter.unusedVariables false
set_option linter.unusedSimpArgs false

/-- A kind of memory that a store has. -/
abbrev StoreT (T : TypeId) : Prop := T = 123 ∨ T = 127 ∨ T = 129 ∨ T = 143 ∨ T = 154 ∨ T = 73
theorem StoreOwn.far {w w' : World} {lo b : Nat} {s : St} {g : Lg} (h : StoreOwn w lo b s g) (hk : ∀ (k : Nat) (C : Array Value) (T : TypeId) (fr : Nat × Nat), w.heap[k]? = some (.cells C T fr) → StoreT T → w'.heap[k]? = w.heap[k]?) : StoreOwn w' lo b s g := by
  have ho : OwnsC w' lo (.slice s.ra s.rows.length s.rc) s.rows := ownsRow_far h.own (fun k e => by
    obtain ⟨C, f, e⟩ := Lib.ownsRow_kind h.own k e
    exact hk _ _ _ _ e (by simp [StoreT]))
  refine ⟨⟨(hk _ _ _ _ h.at'.blk (by simp [StoreT])).trans h.at'.blk, OwnsC.slice ho⟩, ho, ?_, h.low⟩
  have hl := h.log
  unfold LogAt at hl ⊢
  exact (hk _ _ _ _ hl (by simp [StoreT])).trans hl
theorem DiskAt.farT {w w' : World} {p : Dp} {d : Dk} (h : DiskAt w p d) (hk : ∀ (k : Nat) (C : Array Value) (T : TypeId) (fr : Nat × Nat), w.heap[k]? = some (.cells C T fr) → StoreT T → w'.heap[k]? = w.heap[k]?) : DiskAt w' p d :=
  h.far fun k hk' => by
    obtain ⟨C, T, fr, e, hT⟩ := h.kind (k := k) hk'
    refine hk _ _ _ _ e ?_
    rcases hT with rfl | rfl | rfl <;> simp [StoreT]
theorem StoreOwn.lower {w : World} {lo lo' b : Nat} {s : St} {g : Lg} (h : StoreOwn w lo b s g) (hl : lo' ≤ lo) : StoreOwn w lo' b s g :=
  ⟨h.at', OwnsC.base h.own hl, h.log, ⟨Nat.le_trans hl h.low.1, Nat.le_trans hl h.low.2⟩⟩

/-- A store in memory, and its disk. -/
structure Sm (w wr : World) (N b : Nat) (s : St) (g : Lg) (p : Dp) (d : Dk) : Prop where
  disk : DiskAt wr p d
  lo : w.heap.size ≤ p.lo
  own : StoreOwn wr w.heap.size b s g
  dB : s.dB = p.B
  gf : g = ⟨p.B, 26, N - 26, firstOf d s.side, g.used⟩
  kept : Kept N d s.side g.used s.rows
  below : Below w.heap.size w wr
theorem Sm.go {w wr wx : World} {N b : Nat} {s : St} {g : Lg} {p : Dp} {d : Dk} (h : Sm w wr N b s g p d) (hb : Below wr.heap.size wr wx) : Sm w wx N b s g p d :=
  ⟨h.disk.below hb, h.lo, h.own.below hb, h.dB, h.gf, h.kept, h.below.trans (hb.mono h.below.size)⟩
theorem Sm.ok {w wr : World} {N b : Nat} {s : St} {g : Lg} {p : Dp} {d : Dk} (h : Sm w wr N b s g p d) (hN : 42 ≤ N) (hN2 : N ≤ 60) : LgOk g ∧ 1 ≤ g.first := by
  have hg := h.gf
  have hu := h.kept.used hN
  have hs := h.kept.sd
  have hlen := h.kept.free.len
  have hfirst : 1 ≤ firstOf d s.side ∧ firstOf d s.side ≤ 4000000 := by
    unfold firstOf
    rw [hlen]
    rcases (by omega : s.side = 0 ∨ s.side = 1) with e | e <;> rw [e] <;> simp <;> omega
  have e1 : g.start = 26 := by rw [hg]
  have e2 : g.many = N - 26 := by rw [hg]
  have e3 : g.first = firstOf d s.side := by rw [hg]
  exact ⟨⟨by rw [e1, e2]; omega, by rw [e3]; exact hfirst.2, by rw [e2]; exact hu⟩, by rw [e3]; exact hfirst.1⟩
/-- A store and the document's. -/
structure SsMid (w wr : World) (N b : Nat) (s : St) (g : Lg) (p : Dp) (d : Dk) (mb : Nat) (m : Ms) : Prop where
  st : Sm w wr N b s g p d
  ref : MAt wr mb m
  low : w.heap.size ≤ mb
  rows : m.rows = s.rows
  used : m.used = g.used
  many : m.many = N - 26
theorem SsMid.go {w wr wx : World} {N b : Nat} {s : St} {g : Lg} {p : Dp} {d : Dk} {mb : Nat} {m : Ms} (h : SsMid w wr N b s g p d mb m) (hb : Below wr.heap.size wr wx) : SsMid w wx N b s g p d mb m :=
  ⟨h.st.go hb, h.ref.below hb, h.low, h.rows, h.used, h.many⟩
/-- What a store's acts let be. -/
theorem Sm.others {w wr w' : World} {N b : Nat} {s : St} {g : Lg} {p : Dp} {d : Dk} (h : Sm w wr N b s g p d) (ht : Touch (fun k => (dOwn p k ∨ k = b) ∨ k = s.lb) wr w') {k : Nat} {C : Array Value} {T : TypeId} {fr : Nat × Nat} (hk : wr.heap[k]? = some (.cells C T fr))
    (hT : T ≠ 123 ∧ T ≠ 127 ∧ T ≠ 129 ∧ T ≠ 143 ∧ T ≠ 154) : w'.heap[k]? = wr.heap[k]? := by
  refine ht.block _ (Array.getElem?_eq_some_iff.1 hk).1 (fun ho => ?_)
  rcases ho with (ho | ho) | ho
  · obtain ⟨C', T', fr', e, hT'⟩ := h.disk.kind ho
    rw [hk] at e
    simp at e
    rcases hT' with e' | e' | e'
    · exact hT.1 (by rw [e.2.1, e'])
    · exact hT.2.1 (by rw [e.2.1, e'])
    · exact hT.2.2.1 (by rw [e.2.1, e'])
  · rw [ho, h.own.at'.blk] at hk
    simp at hk
    exact hT.2.2.2.2 hk.2.1.symm
  · have hl := h.own.log
    unfold LogAt at hl
    rw [ho, hl] at hk
    simp at hk
    exact hT.2.2.2.1 hk.2.1.symm
theorem Sm.belows {w wr w' : World} {N b : Nat} {s : St} {g : Lg} {p : Dp} {d : Dk} (h : Sm w wr N b s g p d) (ht : Touch (fun k => (dOwn p k ∨ k = b) ∨ k = s.lb) wr w') : Below w.heap.size w w' :=
  h.below.trans (ht.below (fun k hk => by
    rcases hk with (hk | rfl) | rfl
    · rcases hk with rfl | rfl | rfl | hk
      · exact Nat.le_trans h.lo h.disk.lo1
      · exact Nat.le_trans h.lo h.disk.lo2
      · exact Nat.le_trans h.lo h.disk.lo3
      · exact Nat.le_trans h.lo (h.disk.wr.lt k hk).1
    · exact h.own.low.1
    · exact h.own.low.2) h.below.size)
/-- A deed that was handed in. -/
theorem deed_in {w wr : World} {a : Option Addr} {c : List Ch} (h : CC w a c) (hb : Below w.heap.size w wr) : Deed w.heap.size wr a c := by
  refine ⟨h.below hb, fun x hx hne => ?_⟩
  cases c with
  | nil => exact absurd rfl hne
  | cons y r =>
    obtain ⟨b, off, e, h1, _⟩ := h 0 (by simp)
    rw [hx] at e
    injection e with e
    subst e
    exact .inl (World.block_lt_of_cell? _ _ h1)
/-- The disk's place may be new; the store is where it was. -/
def Turned (w wr w' : World) (N b : Nat) (s : St) (g : Lg) (B : Nat) (F : Int) (rows : List Ch) (used : Nat) : Prop :=
  ∃ s' g' p' d', p'.B = B ∧ Sm w w' N b s' g' p' d' ∧ ((¬ F = 0 ∧ s'.rows = s.rows ∧ g'.used = g.used) ∨ (F = 0 ∧ s'.rows = rows ∧ g'.used = used))
/-- Memory that no store has is let be. -/
def Let (w w' : World) : Prop := ∀ (k : Nat) (C : Array Value) (T : TypeId) (fr : Nat × Nat), w.heap[k]? = some (.cells C T fr) → (T ≠ 123 ∧ T ≠ 127 ∧ T ≠ 129 ∧ T ≠ 143 ∧ T ≠ 154) → w'.heap[k]? = w.heap[k]?
theorem MAt.let' {w w' : World} {b : Nat} {m : Ms} (h : MAt w b m) (hl : Let w w') : MAt w' b m := h.far (hl _ _ _ _ h.blk (by decide)) (fun k C fr e => hl _ _ _ _ e (by decide))
theorem sm_commit {w wr : World} {N b : Nat} {s : St} {g : Lg} {p : Dp} {d : Dk} (hm : Sm w wr N b s g p d) (m : Ms) (hN : 42 ≤ N) (hN2 : N ≤ 60) (hr : m.rows = s.rows) (hu : m.used = g.used) (hmany : m.many = N - 26) (a : Option Addr) (cap : Nat) (c : List Ch) (hc : Deed w.heap.size wr a c) (hcn : a = none → cap = 0) (hcl : c.length ≤ 100) :
    Calls Try.prog 61 #[.pointer (some ⟨b, 0, none⟩), .slice a c.length cap] wr fun e w' => e = .returned (errV (commitF m c)) ∧ Turned w wr w' N b s g p.B (commitF m c) (appliedC s.rows c) (commitU m c) ∧ Let wr w' := by
  obtain ⟨k1, k2⟩ := hm.ok hN hN2
  have hg := hm.gf
  have hlen := hm.kept.free.len
  obtain ⟨q1, q2, q3⟩ := hm.kept.rows
  refine (storeCommit_any w.heap.size b p d s g a cap c wr hm.own hm.disk hm.lo hm.dB (by rw [hg]) k1 (by rw [hg]) k2 (by rw [hlen, hg]) (by omega) hm.kept.sd q3 q1 q2 (by have := hm.kept.free.wr; omega) hc hcn hcl).mono ?_
  rintro e w' ⟨rfl, u, lb, ra, rc, hd, hn, ht, ho⟩
  have hg2 : g = ⟨g.dB, 26, N - 26, firstOf d s.side, g.used⟩ := by
    have : g.dB = p.B := by rw [hg]
    rw [this]; exact hg
  obtain ⟨e1, sd, us, hk, h1, h2, h3⟩ := kept_commit hm.kept hN hN2 hg2 hr hu hmany
  have hgB : g.dB = p.B := by rw [hg]
  rw [e1]
  have h2u : (commitC d s g c).g.used = us := by rw [h2]
  refine ⟨rfl, ⟨⟨p.B, (commitC d s g c).side, ra, rc, (commitC d s g c).rows, lb⟩, (commitC d s g c).g, { p with wv := u }, (commitC d s g c).d, rfl, ⟨hd, hm.lo, ho, rfl, ?_, ?_, hm.belows ht⟩, ?_⟩, fun k C T fr e hT => hm.others ht e hT⟩
  · show (commitC d s g c).g = ⟨p.B, 26, N - 26, firstOf (commitC d s g c).d (commitC d s g c).side, (commitC d s g c).g.used⟩
    rw [h2u, h1, ← hgB]
    exact h2
  · show Kept N _ (commitC d s g c).side (commitC d s g c).g.used (commitC d s g c).rows
    rw [h2u, h1]
    exact hk
  · rcases h3 with ⟨x, y, z⟩ | ⟨x, y, z⟩
    · exact .inl ⟨x, z, by show (commitC d s g c).g.used = _; rw [h2u, y]⟩
    · exact .inr ⟨x, z, by show (commitC d s g c).g.used = _; rw [h2u, y]⟩
/-- The document's store is turned: nothing else is. -/
theorem Sm.ref {w wr w' : World} {N b : Nat} {s : St} {g : Lg} {p : Dp} {d : Dk} {mb : Nat} {m : Ms} (h : Sm w wr N b s g p d) (hm : MAt wr mb m) (hlow : w.heap.size ≤ mb) (ht : Touch (fun k => k = mb) wr w') : Sm w w' N b s g p d := by
  have far : ∀ (k : Nat) (C : Array Value) (T : TypeId) (fr : Nat × Nat), wr.heap[k]? = some (.cells C T fr) → StoreT T → w'.heap[k]? = wr.heap[k]? := fun k C T fr hk hT => by
    refine ht.block _ (Array.getElem?_eq_some_iff.1 hk).1 (fun e => ?_)
    rw [e, hm.blk] at hk
    simp at hk
    have e2 := hk.2.1
    rw [← e2] at hT
    revert hT
    decide
  exact ⟨h.disk.farT far, h.lo, h.own.far far, h.dB, h.gf, h.kept, h.below.trans (ht.below (fun k hk => by rw [hk]; exact hlow) h.below.size)⟩
theorem sm_refcommit {w wr : World} {N b : Nat} {s : St} {g : Lg} {B : Nat} {mb : Nat} {m : Ms} {a : Option Addr} {cap : Nat} {c : List Ch} {w0 : World} (h : Turned w w0 wr N b s g B (commitF m c) (appliedC s.rows c) (commitU m c)) (hm : MAt wr mb m) (hlow : w.heap.size ≤ mb) (hN : 42 ≤ N) (hN2 : N ≤ 60) (hr : m.rows = s.rows) (hu : m.used = g.used) (hmany : m.many = N - 26) (hr12 : s.rows.length ≤ 12) (huse : g.used ≤ N - 26) (hc : CC w a c) (hcl : c.length ≤ 100) :
    Calls Try.prog 62 #[.pointer (some ⟨mb, 0, none⟩), .slice a c.length cap] wr fun e w' => e = .returned (.int .i64 (commitF m c)) ∧ Touch (fun k => k = mb) wr w' ∧ ∃ s' g' p' d' m', p'.B = B ∧ SsMid w w' N b s' g' p' d' mb m' := by
  obtain ⟨s', g', p', d', hpB, hs, hor⟩ := h
  refine (refCommit_any mb m a cap c wr hm (hc.below hs.below) hcl (by rw [hr]; exact hr12) (by rw [hmany]; omega) (by rw [hu, hmany]; exact huse)).mono ?_
  rintro e w' ⟨rfl, ht, hx⟩
  have hs' := hs.ref hm hlow ht
  rcases hor with ⟨f, r1, r2⟩ | ⟨f, r1, r2⟩
  · rcases hx with ⟨-, hx⟩ | ⟨f', -⟩
    · exact ⟨rfl, ht, s', g', p', d', m, hpB, ⟨hs', hx, hlow, by rw [r1, hr], by rw [r2, hu], hmany⟩⟩
    · exact absurd f' f
  · rcases hx with ⟨f', -⟩ | ⟨-, ra, rc, hx⟩
    · exact absurd f f'
    · exact ⟨rfl, ht, s', g', p', d', _, hpB, ⟨hs', hx, hlow, by rw [r1, hr], r2.symm, hmany⟩⟩
theorem commitF_rng (m : Ms) (c : List Ch) : 0 ≤ commitF m c ∧ commitF m c ≤ 100 := by
  unfold commitF
  split
  · omega
  · split
    · exact faultL_rng c
    · split <;> omega
theorem SsMid.few {w wr : World} {N b : Nat} {s : St} {g : Lg} {p : Dp} {d : Dk} {mb : Nat} {m : Ms} (h : SsMid w wr N b s g p d mb m) (hN : 42 ≤ N) : s.rows.length ≤ 12 ∧ g.used ≤ N - 26 := ⟨h.st.kept.rows.2.2, h.st.kept.used hN⟩
theorem sm_save {w wr : World} {N b : Nat} {s : St} {g : Lg} {p : Dp} {d : Dk} {mb : Nat} {m : Ms} (h : SsMid w wr N b s g p d mb m) (hN : 42 ≤ N) (hN2 : N ≤ 60) :
    Calls Try.prog 63 #[.pointer (some ⟨b, 0, none⟩)] wr fun e w' => e = .returned .nilIface ∧ ∃ s' g' p' d', p'.B = p.B ∧ Sm w w' N b s' g' p' d' ∧ MAt w' mb m ∧ s'.rows = s.rows ∧ g'.used = 0 := by
  have hm := h.st
  obtain ⟨k1, k2⟩ := hm.ok hN hN2
  have hg := hm.gf
  have hlen := hm.kept.free.len
  have hgm : g.many = N - 26 := by rw [hg]
  obtain ⟨q1, q2, q3⟩ := hm.kept.rows
  obtain ⟨a1, a2⟩ := kept_save hm.kept hN hN2 hgm
  refine (storeSave_any w.heap.size b p d s g wr hm.own hm.disk hm.dB k1 (by rw [hlen, hgm]) (by omega) hm.kept.sd q3 q2 (by have := hm.kept.free.wr; omega)).mono ?_
  rintro e w' ⟨rfl, u, hd, hn, ht, hor⟩
  rcases hor with ⟨h0, -⟩ | ⟨-, lb, hlb, ho⟩
  · exact absurd a1 h0
  have ht' : Touch (fun k => (dOwn p k ∨ k = b) ∨ k = s.lb) wr w' := ht.wide (fun k hk => .inl hk)
  rw [a1]
  refine ⟨rfl, _, _, { p with wv := u }, (saveD d s g).1, rfl, ⟨hd, hm.lo, ho, hm.dB, ?_, a2, hm.belows ht'⟩, h.ref.far (hm.others ht' h.ref.blk (by decide)) (fun k C fr e => hm.others ht' e (by decide)), rfl, rfl⟩
  show Lg.mk _ _ _ _ _ = _
  rw [hlen, firstOf_len (d := d) (d' := (saveD d s g).1) (by rw [a2.free.len, hlen])]
theorem sm_open {w wr : World} {N b : Nat} {s : St} {g : Lg} {p : Dp} {d : Dk} {mb : Nat} {m : Ms} (h : SsMid w wr N b s g p d mb m) (hN : 42 ≤ N) (hN2 : N ≤ 60) :
    Calls Try.prog 59 #[.pointer (some ⟨p.B, 0, none⟩)] wr fun e w' => ∃ b' s' g', e = .returned (.tuple #[.pointer (some ⟨b', 0, none⟩), .nilIface]) ∧ SsMid w w' N b' s' g' p d mb m := by
  have hm := h.st
  refine (open_kept p d N s.side g.used s.rows wr hm.disk hm.kept hN).mono ?_
  rintro e w' ⟨b', ra, rc, lb, rfl, hb, ho⟩
  exact ⟨b', _, _, rfl, ⟨⟨hm.disk.below hb, hm.lo, ho.lower hm.below.size, rfl, rfl, hm.kept, hm.below.trans (hb.mono hm.below.size)⟩, h.ref.below hb, h.low, h.rows, h.used, h.many⟩⟩
theorem sm_room {w wr : World} {N b : Nat} {s : St} {g : Lg} {p : Dp} {d : Dk} {mb : Nat} {m : Ms} (h : SsMid w wr N b s g p d mb m) (hN : 42 ≤ N) (hN2 : N ≤ 60) :
    Calls Try.prog 64 #[.pointer (some ⟨b, 0, none⟩)] wr fun e w' => e = .returned (.int .i64 ((m.many : Int) - (m.used : Int))) ∧ SsMid w w' N b s g p d mb m := by
  obtain ⟨k1, k2⟩ := h.st.ok hN hN2
  have hgm : g.many = N - 26 := by rw [h.st.gf]
  have hu := h.st.kept.used hN
  refine (storeRoom_any b s g wr h.st.own.at' h.st.own.log k1).mono ?_
  rintro e w' ⟨rfl, hb⟩
  exact ⟨by rw [h.many, h.used, hgm]; congr 2; omega, h.go hb⟩
theorem sm_rows {w wr : World} {N b : Nat} {s : St} {g : Lg} {p : Dp} {d : Dk} {mb : Nat} {m : Ms} (h : SsMid w wr N b s g p d mb m) :
    Calls Try.prog 65 #[.pointer (some ⟨b, 0, none⟩)] wr fun e w' => ∃ va vc, e = .returned (.slice va m.rows.length vc) ∧ CC w' va m.rows ∧ SsMid w w' N b s g p d mb m := by
  refine (storeRows_any b s wr h.st.own.at' (by have := h.st.kept.rows.2.2; omega)).mono ?_
  rintro e w' ⟨v, rfl, ho, hb⟩
  obtain ⟨va, vc, hv, hcc, -⟩ := OwnsC.files ho
  subst hv
  rw [h.rows]
  exact ⟨va, vc, rfl, hcc, h.go hb⟩
/-- A new disk is formatted. -/
theorem format_new (p : Dp) (N : Nat) (w : World) (h : DiskAt w p (newD N)) (hN : 42 ≤ N) (hN2 : N ≤ 60) :
    Calls Try.prog 60 #[.pointer (some ⟨p.B, 0, none⟩)] w fun e w' => e = .returned .nilIface ∧ ∃ u d, DiskAt w' { p with wv := u } d ∧ Kept N d 1 0 [] ∧ Below p.lo w w' := by
  obtain ⟨a1, a2⟩ := kept_format hN hN2
  refine (storeFormat_any p (newD N) w h (by simp [newD])).mono ?_
  rintro e w' ⟨rfl, u, hd, ht, hn⟩
  rw [a1]
  exact ⟨rfl, u, _, hd, a2, ht.below (fun k hk => by
    rcases hk with rfl | rfl | rfl | hk
    · exact h.lo1
    · exact h.lo2
    · exact h.lo3
    · exact (h.wr.lt k hk).1) (Nat.le_trans h.lo1 (Nat.le_of_lt (h.lts (.inl rfl))))⟩
theorem format_short (p : Dp) (N : Nat) (w : World) (h : DiskAt w p (newD N)) (hN : N < 42) :
    Calls Try.prog 60 #[.pointer (some ⟨p.B, 0, none⟩)] w fun e w' => e = .returned (.iface 118 (.int .i64 7)) ∧ Below p.lo w w' := by
  have hl : (newD N).now.length = N := (free_new N).len
  have a1 : formatD (newD N) = (newD N, 7) := by unfold formatD; rw [if_pos (by omega)]
  refine (storeFormat_any p (newD N) w h (by simp [newD])).mono ?_
  rintro e w' ⟨rfl, u, hd, ht, hn⟩
  rw [a1]
  exact ⟨congrArg Ending.returned (errV_pos (show ¬ (7 : Int) = 0 by decide)), ht.below (fun k hk => by
    rcases hk with rfl | rfl | rfl | hk
    · exact h.lo1
    · exact h.lo2
    · exact h.lo3
    · exact (h.wr.lt k hk).1) (Nat.le_trans h.lo1 (Nat.le_of_lt (h.lts (.inl rfl))))⟩
theorem open_first {w : World} (p : Dp) (d : Dk) (N : Nat) (W : World) (h : DiskAt W p d) (hk : Kept N d 1 0 []) (hN : 42 ≤ N) (hlo : w.heap.size ≤ p.lo) (hb : Below w.heap.size w W) :
    Calls Try.prog 59 #[.pointer (some ⟨p.B, 0, none⟩)] W fun e w' => ∃ b s g, e = .returned (.tuple #[.pointer (some ⟨b, 0, none⟩), .nilIface]) ∧ Sm w w' N b s g p d ∧ s.rows = [] ∧ g.used = 0 := by
  refine (open_kept p d N 1 0 [] W h hk hN).mono ?_
  rintro e w' ⟨b, ra, rc, lb, rfl, hb2, ho⟩
  exact ⟨b, _, _, rfl, ⟨h.below hb2, hlo, ho.lower hb.size, rfl, rfl, hk, hb.trans (hb2.mono hb.size)⟩, rfl, rfl⟩
/-- An act's box is none of the stores'. -/
theorem let_act {w w' : World} {k : Nat} {C : Array Value} {fr : Nat × Nat} (h : Let w w') (hk : w.heap[k]? = some (.cells C 26 fr)) : w'.heap[k]? = some (.cells C 26 fr) := (h _ _ _ _ hk (by decide)).trans hk
theorem ref_act {w w' : World} {k mb : Nat} {m : Ms} {C : Array Value} {fr : Nat × Nat} (h : Touch (fun k => k = mb) w w') (hm : MAt w mb m) (hk : w.heap[k]? = some (.cells C 26 fr)) : w'.heap[k]? = some (.cells C 26 fr) :=
  (h.block k (Array.getElem?_eq_some_iff.1 hk).1 (fun e => by rw [e, hm.blk] at hk; simp at hk)).trans hk
theorem act_five {w : World} {k : Nat} {v0 v1 v2 v3 v4 v5 : Value} {fr : Nat × Nat} (hk : w.heap[k]? = some (.cells #[v0, v1, v2, v3, v4, v5] 26 fr)) : w.cell? ⟨k, 5, none⟩ = some v5 := by rw [cell_block hk]; rfl
/-- The document's log is empty. -/
theorem sm_put {w wr : World} {N b : Nat} {s : St} {g : Lg} {p : Dp} {d : Dk} {mb : Nat} {m : Ms} (h : Sm w wr N b s g p d) (hm : MAt wr mb m) (hlow : w.heap.size ≤ mb) (hr : m.rows = s.rows) (hu : g.used = 0) (hmany : m.many = N - 26) :
    SsMid w (wr.setCell ⟨mb, 1, none⟩ (.int .i64 0)) N b s g p d mb ⟨m.ra, m.rc, m.rows, 0, m.many⟩ := by
  have ht : Touch (fun k => k = mb) wr (wr.setCell ⟨mb, 1, none⟩ (.int .i64 0)) := touch_set (Touch.refl _ _) 1 _
  have far : ∀ (k : Nat) (C : Array Value) (fr : Nat × Nat), wr.heap[k]? = some (.cells C 73 fr) → (wr.setCell ⟨mb, 1, none⟩ (.int .i64 0)).heap[k]? = wr.heap[k]? := fun k C fr hk => Below.heap_setCell _ _ _ _ (fun e => by
    simp only at e
    rw [e, hm.blk] at hk
    simp at hk)
  refine ⟨h.ref hm hlow ht, ⟨heap_set hm.blk 1 _, ⟨fun i hi => ?_, hm.rows.nil⟩, fun x hx => ?_⟩, hlow, hr, hu.symm, hmany⟩
  · obtain ⟨g', off, e, c0, c1, c2⟩ := hm.rows.cells i hi
    obtain ⟨C, fr, hK⟩ := hm.kind _ e
    have hK' : (wr.setCell ⟨mb, 1, none⟩ (.int .i64 0)).heap[g']? = wr.heap[g']? := far _ _ _ hK
    exact ⟨g', off, e, by rw [World.cell?_of_block (w := wr) (a := ⟨g', _, none⟩) hK']; exact c0, by rw [World.cell?_of_block (w := wr) (a := ⟨g', _, none⟩) hK']; exact c1, by rw [World.cell?_of_block (w := wr) (a := ⟨g', _, none⟩) hK']; exact c2⟩
  · obtain ⟨C, fr, hK⟩ := hm.kind x hx
    exact ⟨C, fr, (far _ _ _ hK).trans hK⟩
end Go.Proofs.Ytihnghnafpgdfab
