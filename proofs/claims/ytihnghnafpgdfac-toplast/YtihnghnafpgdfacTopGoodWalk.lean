/-
  THE WALK OF TopGood: it returns true, and writes nothing that was there.
-/
import Derived.Test.YtihnghnafpgdfacTopBase
import Derived.Deep.RegionWith
namespace Go.Proofs.Ytihnghnafpgdfac
open Go.RowKit
set_option linter.unusedVariables false
set_option linter.unusedSimpArgs false

theorem quiltF_good {l : List Fi} {t : Int} (h : GoodQ l t) : quiltF l t = 0 := by
  unfold quiltF
  have h1 := h.low
  have h2 := h.high
  rw [if_neg (by simp [zero_of_good h.files]), if_neg (by omega)]

theorem good_sized {l : List Fi} (h : Good l) : Sized l := by
  intro f hf
  have := h.times hf
  have h6 := name_size this.1
  unfold maxLen
  exact ⟨by omega, by omega⟩

/-- A round's world, behind the act. -/
structure Acted (w : World) (B : Nat) (a' : Option Addr) (cap' : Nat) (lq : List Fi) (tq : Int) (a3 : Option Addr) (cap3 : Nat) (r : Res) (V : World) (X : Nat) : Prop where
  q : QBox V B (.slice a' lq.length cap') tq
  x : QBox V X (.slice a3 r.l.length cap3) r.t
  s : Slice V a3 cap3 r.l
  o : Slice V a' cap' lq
  b : Below w.heap.size w V
  ne : B ≠ X
theorem Acted.below {w : World} {B : Nat} {a' : Option Addr} {cap' : Nat} {lq : List Fi} {tq : Int} {a3 : Option Addr} {cap3 : Nat} {r : Res} {V W : World} {X : Nat} (h : Acted w B a' cap' lq tq a3 cap3 r V X) (hb : Below V.heap.size V W) : Acted w B a' cap' lq tq a3 cap3 r W X :=
  ⟨h.q.below hb h.q.lt, h.x.below hb h.x.lt, h.s.below hb, h.o.below hb, h.b.trans (hb.mono h.b.size), h.ne⟩

/-- The four kinds, and none. -/
theorem kinds (x : Ac) : (x.kind.toList == [119, 114, 105, 116, 101]) = true ∧ knownB x = true ∨ (x.kind.toList == [119, 114, 105, 116, 101]) = false ∧ ((x.kind.toList == [100, 114, 111, 112]) = true ∧ knownB x = true ∨ (x.kind.toList == [100, 114, 111, 112]) = false ∧
    ((x.kind.toList == [110, 97, 109, 101]) = true ∧ knownB x = true ∨ (x.kind.toList == [110, 97, 109, 101]) = false ∧ ((x.kind.toList == [115, 119, 97, 112]) = true ∧ knownB x = true ∨ (x.kind.toList == [115, 119, 97, 112]) = false))) := by
  have e : ∀ d : ByteArray, (x.kind.toList == d.toList) = true → x.kind = d := fun d h => toList_inj (by simpa using h)
  have e1 : (⟨#[119, 114, 105, 116, 101]⟩ : ByteArray).toList = [119, 114, 105, 116, 101] := by rw [ByteArray.toList_eq]
  have e2 : (⟨#[100, 114, 111, 112]⟩ : ByteArray).toList = [100, 114, 111, 112] := by rw [ByteArray.toList_eq]
  have e3 : (⟨#[110, 97, 109, 101]⟩ : ByteArray).toList = [110, 97, 109, 101] := by rw [ByteArray.toList_eq]
  have e4 : (⟨#[115, 119, 97, 112]⟩ : ByteArray).toList = [115, 119, 97, 112] := by rw [ByteArray.toList_eq]
  cases h1 : (x.kind.toList == [119, 114, 105, 116, 101])
  · right
    refine ⟨rfl, ?_⟩
    cases h2 : (x.kind.toList == [100, 114, 111, 112])
    · right
      refine ⟨rfl, ?_⟩
      cases h3 : (x.kind.toList == [110, 97, 109, 101])
      · right
        refine ⟨rfl, ?_⟩
        cases h4 : (x.kind.toList == [115, 119, 97, 112])
        · right; rfl
        · left; refine ⟨rfl, ?_⟩; simp [knownB, e _ (by rw [e4]; exact h4)]
      · left; refine ⟨rfl, ?_⟩; simp [knownB, e _ (by rw [e3]; exact h3)]
    · left; refine ⟨rfl, ?_⟩; simp [knownB, e _ (by rw [e2]; exact h2)]
  · left; refine ⟨rfl, ?_⟩; simp [knownB, e _ (by rw [e1]; exact h1)]

end Go.Proofs.Ytihnghnafpgdfac
