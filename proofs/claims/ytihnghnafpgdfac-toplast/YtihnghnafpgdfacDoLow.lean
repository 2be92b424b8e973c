/-
  AFTER FEW ACTS ALL NUMBERS ARE SMALL. No program is named here.
-/
import Derived.Test.YtihnghnafpgdfacDoGood
namespace Go.Proofs.Ytihnghnafpgdfac
open Go.RowKit
set_option linter.unusedVariables false
set_option linter.unusedSimpArgs false

/-- After n acts: the turn, and how often each file was written. -/
def Low (l : List Fi) (t : Int) (n : Nat) : Prop := t ≤ n + 1 ∧ ∀ f ∈ l, f.k ≤ n

theorem Low.more {l : List Fi} {t : Int} {n m : Nat} (h : Low l t n) (hm : n ≤ m) : Low l t m :=
  ⟨by have := h.1; omega, fun f hf => by have := h.2 f hf; omega⟩

theorem turn_low {t : Int} {l : List Fi} {n : Nat} (h : Low l (t + 1) n) (h0 : (turnR t l).n = 0) : Low (turnR t l).l (turnR t l).t n := by
  unfold turnR at h0 ⊢
  split at h0
  · exact absurd h0 (by simp)
  · rename_i h9
    rw [if_neg h9]
    exact h

theorem next_low {t : Int} {l : List Fi} {n : Nat} {e : Int} (h : e = 0 → Low l (t + 1) n) (h0 : (nextR t l e).n = 0) : Low (nextR t l e).l (nextR t l e).t n := by
  unfold nextR at h0 ⊢
  by_cases he : e = 0
  · rw [if_neg (by simp [he])] at h0 ⊢
    exact turn_low (h he) h0
  · rw [if_pos he] at h0
    exact absurd h0 he

theorem put_low {l : List Fi} {t : Int} {n : Nat} (hg : Good l) (h : Low l t n) (f : Fi) (hf : f.k ≤ n + 1) : putN l f = 0 → Low (putL l f) (t + 1) (n + 1) := by
  intro h0
  have e : putL l f = putF l f := by simp [putL, h0]
  rw [e]
  refine ⟨by have := h.1; omega, fun g hgm => ?_⟩
  rcases (mem_put hg f g).1 hgm with rfl | ⟨hm, _⟩
  · simpa using hf
  · have := h.2 g hm; omega

theorem mem_dropF {l : List Fi} {name : ByteArray} {x : Fi} (h : x ∈ dropF l name) : x ∈ l := by
  unfold dropF at h
  rcases List.mem_append.1 h with h | h
  · exact List.mem_of_mem_take h
  · exact List.mem_of_mem_drop h

theorem do_low {l : List Fi} {t : Int} {n : Nat} (hq : GoodQ l t) (h : Low l t n) (x : Ac) (h0 : (doR l t x).n = 0) : Low (doR l t x).l (doR l t x).t (n + 1) := by
  have hup : Low l (t + 1) (n + 1) := ⟨by have := h.1; omega, fun f hf => by have := h.2 f hf; omega⟩
  unfold doR at h0 ⊢
  split at h0
  · rename_i hk
    simp only [hk, if_true] at h0 ⊢
    unfold writeR at h0 ⊢
    refine next_low (fun he => put_low hq.files h _ ?_ he) h0
    show (getD' (getF l x.s)).k + 1 ≤ _
    cases hgf : getF l x.s with
    | none => simp only [getD']; omega
    | some f => have := h.2 f (getF_mem hgf).1; simp only [getD']; omega
  · rename_i hk
    rw [if_neg hk]
    split at h0
    · rename_i hk2
      rw [if_pos hk2]
      unfold dropR' at h0 ⊢
      refine next_low (fun he => ?_) h0
      cases hh : hasF l x.s
      · rw [dropN, hh] at he
        exact absurd he (by simp)
      · have e : dropL l x.s = dropF l x.s := by simp [dropL, hh]
        rw [e]
        exact ⟨hup.1, fun f hf => hup.2 f (mem_dropF hf)⟩
    · rename_i hk2
      rw [if_neg hk2]
      split at h0
      · rename_i hk3
        rw [if_pos hk3]
        unfold renameR at h0 ⊢
        cases hgf : getF l x.s with
        | none => rw [hgf] at h0; exact absurd h0 (by simp [failR])
        | some f =>
          rw [hgf] at h0
          simp only at h0 ⊢
          split at h0
          · rename_i hne; exact absurd h0 hne
          · rename_i hne
            rw [if_neg hne]
            split at h0
            · exact absurd h0 (by simp [failR])
            · rename_i hns
              rw [if_neg hns]
              refine next_low (fun he => put_low (good_drop hq.files x.s) ⟨h.1, fun g hgm => h.2 g (mem_dropF hgm)⟩ _ ?_ he) h0
              have := h.2 f (getF_mem hgf).1
              show f.k ≤ _
              omega
      · rename_i hk3
        rw [if_neg hk3]
        split at h0
        · rename_i hk4
          rw [if_pos hk4]
          unfold swapR at h0 ⊢
          cases ha : getF l x.s with
          | none => rw [ha] at h0; exact absurd h0 (by simp [failR])
          | some f =>
            cases hb : getF l x.t with
            | none => rw [ha, hb] at h0; exact absurd h0 (by simp [failR])
            | some g =>
              rw [ha, hb] at h0
              simp only at h0 ⊢
              split at h0
              · exact absurd h0 (by simp [failR])
              · rename_i hne
                rw [if_neg hne]
                split at h0
                · rename_i hab
                  rw [if_pos hab]
                  exact turn_low hup h0
                · rename_i hab
                  rw [if_neg hab]
                  refine turn_low ⟨hup.1, fun z hz => ?_⟩ h0
                  have hg1 := (swap_ok hq.files ha hb (by omega) (by omega) hab).2.1
                  have hfk := h.2 f (getF_mem ha).1
                  have hgk := h.2 g (getF_mem hb).1
                  rcases (mem_put hg1 _ z).1 hz with rfl | ⟨hz, _⟩
                  · show g.k + 1 ≤ _; omega
                  · rcases (mem_put hq.files _ z).1 hz with rfl | ⟨hz, _⟩
                    · show f.k + 1 ≤ _; omega
                    · exact hup.2 z hz
        · rename_i hk4
          rw [if_neg hk4]
          exact h.more (by omega)

theorem new_low : Low [] 1 0 := ⟨by decide, fun f hf => by cases hf⟩

end Go.Proofs.Ytihnghnafpgdfac
