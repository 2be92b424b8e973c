/-
  ALL ROWS ARE LAID AS A WHOLE, AND THE LOG IS EMPTY: Checkpoint.
-/
import Derived.Test.YtihnghnafpgdfabStoreLayWalk
import Derived.Test.YtihnghnafpgdfabStoreOpen
import Derived.Test.YtihnghnafpgdfabLater
namespace Go.Proofs.Ytihnghnafpgdfab
open Go Go.RowKit Go.BigFrame
set_option linter.unusedVariables false
set_option linter.unusedSimpArgs false

theorem OwnsC.slice {w : World} {lo : Nat} {a : Option Addr} {n c : Nat} {l : List Ch} (h : OwnsC w lo (.slice a n c) l) : SliceC w a c l := by
  obtain ⟨a', c', e, hcc, hnil, -⟩ := OwnsC.files h
  injection e with e1 e2 e3
  exact ⟨by rw [e1]; exact hcc, by rw [e1, e3]; exact hnil⟩
theorem StoreOwn.touch {w w' : World} {lo b : Nat} {s : St} {g : Lg} {p : Dp} {d : Dk} (h : StoreOwn w lo b s g) (hd : DiskAt w p d) (ht : Touch (dOwn p) w w') : StoreOwn w' lo b s g := by
  have ho : OwnsC w' lo (.slice s.ra s.rows.length s.rc) s.rows := ownsRow_far h.own (fun k hk => by obtain ⟨c, f, e⟩ := Lib.ownsRow_kind h.own k hk; exact ht.other hd e (by decide))
  exact ⟨⟨(ht.other hd h.at'.blk (by decide)).trans h.at'.blk, OwnsC.slice ho⟩, ho, h.log.touch hd ht, h.low⟩
theorem StoreOwn.below {w w' : World} {lo b : Nat} {s : St} {g : Lg} (h : StoreOwn w lo b s g) (hb : Below w.heap.size w w') : StoreOwn w' lo b s g :=
  ⟨h.at'.below hb, ownsRow_far h.own (fun k hk => hb.block k (h.own.lt k hk).2), h.log.below hb, h.low⟩
/-- Which side is laid. -/
def sideTo (d : Dk) (s : St) (g : Lg) : Nat := if g.many - g.used < d.now.length - 26 then 1 - s.side else s.side
def saveD (d : Dk) (s : St) (g : Lg) : Dk × Int := layT d (sideTo d s g) (baL (textL s.rows)) s.rows.length
/-- What Checkpoint leaves. -/
def SaveSays (w : World) (lo b : Nat) (p : Dp) (d : Dk) (s : St) (g : Lg) (e : Ending) (w' : World) : Prop :=
  e = .returned (errV (saveD d s g).2) ∧ ∃ u, DiskAt w' { p with wv := u } (saveD d s g).1 ∧ NewTo p w u ∧ Touch (fun k => dOwn p k ∨ k = b) w w' ∧
    ((¬ (saveD d s g).2 = 0 ∧ StoreOwn w' lo b s g) ∨ ((saveD d s g).2 = 0 ∧ ∃ lb, w.heap.size ≤ lb ∧ StoreOwn w' lo b { s with side := sideTo d s g, lb := lb } ⟨p.B, 26, d.now.length - 26, firstOf d (sideTo d s g), 0⟩))

theorem layT_len (d : Dk) (i k : Nat) (T : ByteArray) : (layT d i T k).1.now.length = d.now.length := by
  have h1 : ∀ (l : List ByteArray) (D : Dk) (a : Nat), (writesD D a l).1.now.length = D.now.length := by
    intro l
    induction l with
    | nil => intro D a; rfl
    | cons s r ih =>
      intro D a
      unfold writesD
      have hw : (writeD D a s).now.length = D.now.length := by
        unfold writeD
        have h := (stepD_rest D).1
        repeat' split
        all_goals simp [h]
      split
      · rw [ih, hw]
      · exact hw
  have h2 : ∀ (D : Dk) (a : Nat) (l : List ByteArray), (layD D a l).1.now.length = D.now.length := by
    intro D a l
    unfold layD
    split
    · have : (flushD (writesD D a l).1).now = (stepD (writesD D a l).1).now := by unfold flushD; split <;> rfl
      simp only [this, (stepD_rest _).1]
      exact h1 l D a
    · exact h1 l D a
  unfold layT
  split
  · simp only [seqD]
    repeat' split
    all_goals simp only [h2]
  · exact h2 _ _ _
end Go.Proofs.Ytihnghnafpgdfab
