/-
  A DEED IS COMMITTED: Commit.
-/
import Derived.Test.YtihnghnafpgdfabStoreSaveWalk
import Derived.Test.YtihnghnafpgdfabStoreOpenWalk
namespace Go.Proofs.Ytihnghnafpgdfab
open Go Go.RowKit Go.BigFrame
set_option linter.unusedVariables false
set_option linter.unusedSimpArgs false

/-- A deed that is handed over: its memory is none of the store's. -/
structure Deed (lo : Nat) (w : World) (a : Option Addr) (c : List Ch) : Prop where
  cc : CC w a c
  safe : ∀ x, a = some x → ¬ c = [] → x.block < lo ∨ ∃ C fr, w.heap[x.block]? = some (.cells C 73 fr)
theorem Deed.touch {lo : Nat} {w w' : World} {a : Option Addr} {c : List Ch} {S : Nat → Prop} (h : Deed lo w a c) (ht : Touch S w w') (hS : ∀ k, S k → lo ≤ k ∧ ∃ C T fr, w.heap[k]? = some (.cells C T fr) ∧ T ≠ 73) : Deed lo w' a c := by
  have key : ∀ x, a = some x → ¬ c = [] → x.block < w.heap.size → w'.heap[x.block]? = w.heap[x.block]? := fun x hx hne hlt => ht.block _ hlt (fun hs => by
    obtain ⟨h1, C, T, fr, e, hT⟩ := hS _ hs
    rcases h.safe x hx hne with h2 | ⟨C', fr', e'⟩
    · omega
    · rw [e] at e'
      simp at e'
      exact hT e'.2.1)
  refine ⟨fun i hi => ?_, fun x hx hne => ?_⟩
  · obtain ⟨b, off, rfl, c0, c1, c2⟩ := h.cc i hi
    have hne : ¬ c = [] := fun e => by subst e; exact absurd hi (Nat.not_lt_zero _)
    have hlt : b < w.heap.size := World.block_lt_of_cell? _ _ c0
    have hk : w'.heap[b]? = w.heap[b]? := key _ rfl hne hlt
    refine ⟨b, off, rfl, ?_, ?_, ?_⟩
    · rw [World.cell?_of_block (w := w) (a := ⟨b, _, none⟩) hk]; exact c0
    · rw [World.cell?_of_block (w := w) (a := ⟨b, _, none⟩) hk]; exact c1
    · rw [World.cell?_of_block (w := w) (a := ⟨b, _, none⟩) hk]; exact c2
  · rcases h.safe x hx hne with h2 | ⟨C, fr, e⟩
    · exact .inl h2
    · exact .inr ⟨C, fr, by rw [key x hx hne (Array.getElem?_eq_some_iff.1 e).1]; exact e⟩
theorem Deed.below {lo : Nat} {w w' : World} {a : Option Addr} {c : List Ch} (h : Deed lo w a c) (hb : Below w.heap.size w w') : Deed lo w' a c :=
  h.touch (S := fun _ => False) (Touch.of_below hb) (fun _ hf => hf.elim)

/-- What Commit leaves: the disk, the error, the side, the log, the rows. -/
structure Cm where
  d : Dk
  e : Int
  side : Nat
  g : Lg
  rows : List Ch
def Cm.stay (d : Dk) (e : Int) (s : St) (g : Lg) : Cm := ⟨d, e, s.side, g, s.rows⟩
def addC (d : Dk) (side : Nat) (g : Lg) (rows c : List Ch) : Cm :=
  if (addD g d c).2 = 0 then ⟨(addD g d c).1, 0, side, addG g d c, appliedC rows c⟩ else ⟨(addD g d c).1, (addD g d c).2, side, addG g d c, rows⟩
def savedG (d : Dk) (s : St) (g : Lg) : Lg := ⟨g.dB, 26, d.now.length - 26, firstOf d (sideTo d s g), 0⟩
def commitC (d : Dk) (s : St) (g : Lg) (c : List Ch) : Cm :=
  if 14 < c.length then .stay d 2 s g else if ¬ faultL c = 0 then .stay d (faultL c) s g
  else if 12 < (appliedC s.rows c).length ∨ d.now.length - 26 < c.length + 1 then .stay d 7 s g
  else if g.many - g.used < c.length + 1 then (if (saveD d s g).2 = 0 then addC (saveD d s g).1 (sideTo d s g) (savedG d s g) s.rows c else .stay (saveD d s g).1 (saveD d s g).2 s g)
  else addC d s.side g s.rows c
def CommitSays (w : World) (lo b : Nat) (p : Dp) (d : Dk) (s : St) (g : Lg) (c : List Ch) (e : Ending) (w' : World) : Prop :=
  e = .returned (errV (commitC d s g c).e) ∧ ∃ u lb ra rc, DiskAt w' { p with wv := u } (commitC d s g c).d ∧ NewTo p w u ∧ Touch (fun k => (dOwn p k ∨ k = b) ∨ k = s.lb) w w' ∧
    StoreOwn w' lo b ⟨p.B, (commitC d s g c).side, ra, rc, (commitC d s g c).rows, lb⟩ (commitC d s g c).g

/-- The log's Add, seen from the store. -/
theorem StoreOwn.added {w w' : World} {lo b : Nat} {s : St} {g g' : Lg} {p : Dp} {d D : Dk} {u : Value} (h : StoreOwn w lo b s g) (hd : DiskAt w p d) (ha : AddAt w w' s.lb g' p u D) : StoreOwn w' lo b s g' := by
  have far : ∀ {k : Nat} {C : Array Value} {T : TypeId} {fr : Nat × Nat}, w.heap[k]? = some (.cells C T fr) → T ≠ 123 ∧ T ≠ 127 ∧ T ≠ 129 ∧ T ≠ 143 → w'.heap[k]? = w.heap[k]? := fun {k C T fr} hk hT => by
    refine ha.touch.block k (Array.getElem?_eq_some_iff.1 hk).1 (fun ho => ?_)
    rcases ho with ho | ho
    · obtain ⟨C', T', fr', e, hT'⟩ := hd.kind ho
      rw [hk] at e
      simp at e
      rcases hT' with e' | e' | e'
      · exact hT.1 (by rw [e.2.1, e'])
      · exact hT.2.1 (by rw [e.2.1, e'])
      · exact hT.2.2.1 (by rw [e.2.1, e'])
    · have hl := h.log
      unfold LogAt at hl
      rw [ho, hl] at hk
      simp at hk
      exact hT.2.2.2 hk.2.1.symm
  have ho : OwnsC w' lo (.slice s.ra s.rows.length s.rc) s.rows := ownsRow_far h.own (fun k hk => by obtain ⟨c, f, e⟩ := Lib.ownsRow_kind h.own k hk; exact far e (by decide))
  exact ⟨⟨(far h.at'.blk (by decide)).trans h.at'.blk, OwnsC.slice ho⟩, ho, ha.log, h.low⟩
/-- The store has other rows. -/
theorem StoreOwn.rowed {w : World} {lo b : Nat} {s : St} {g : Lg} {p : Dp} {d : Dk} {a : Option Addr} {n c : Nat} {R : List Ch} (h : StoreOwn w lo b s g) (hd : DiskAt w p d) (hn : n = R.length) (ho : OwnsC w lo (.slice a n c) R) :
    DiskAt (w.setCell ⟨b, 2, none⟩ (.slice a n c)) p d ∧ StoreOwn (w.setCell ⟨b, 2, none⟩ (.slice a n c)) lo b { s with ra := a, rc := c, rows := R } g := by
  subst hn
  have h1 := heap_set h.at'.blk 2 (.slice a R.length c)
  have ho' : OwnsC (w.setCell ⟨b, 2, none⟩ (.slice a R.length c)) lo (.slice a R.length c) R := by
    refine ownsRow_far ho (fun k hk => ?_)
    obtain ⟨C, f, e⟩ := Lib.ownsRow_kind ho k hk
    exact Below.heap_setCell _ _ _ _ (fun e' => by
      simp only at e'
      rw [e', h.at'.blk] at e
      simp at e)
  have hlb : s.lb ≠ b := fun e => by
    have hl := h.log
    unfold LogAt at hl
    rw [e, h.at'.blk] at hl
    simp at hl
  refine ⟨disk_other _ hd h.at'.blk (by decide), ⟨⟨h1, OwnsC.slice ho'⟩, ho', ?_, h.low⟩⟩
  show _ = _
  rw [Below.heap_setCell _ _ _ _ hlb]
  exact h.log
end Go.Proofs.Ytihnghnafpgdfab
