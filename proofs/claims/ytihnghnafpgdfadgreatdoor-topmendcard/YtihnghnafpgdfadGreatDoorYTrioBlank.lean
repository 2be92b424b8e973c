/-
  A DISK THAT IS BLANK TELLS NOTHING. No walk.
-/
import Derived.Test.YtihnghnafpgdfadGreatDoorYTrioSpoil
namespace Go.Proofs.YtihnghnafpgdfadGreatDoor
open Go Go.RowKit Go.BigFrame
set_option linter.unusedVariables false
set_option linter.unusedSimpArgs false
abbrev blanks:List ByteArray:=List.replicate 50 ⟨#[]⟩
theorem spot_zero (i:Nat)(hi:i<50):spotI 0 i=i:=by
  unfold spotI
  have e:wrap64 (0+(i:Int))=(i:Int):=by
    unfold wrap64
    omega
  have e1:(i:Int) % 1024=(i:Int):=by omega
  rw [e,mask_1024,e1,Int.tmod_eq_emod_of_nonneg (by omega)]
  have e2:(i:Int) % 50=(i:Int):=by omega
  rw [e2];rfl
theorem blank_to {d:Dk} (hf:Free d 50 0):∀ i,i≤50→Free (spoilD d 0 blanks i) 50 i∧∀ j,j<i→(spoilD d 0 blanks i).now[j]?=some Go.Proofs.YtihnghnafpgdfadGreatDoor.blank:=by
  intro i
  induction i with
  | zero=>intro _;exact ⟨hf,fun j h=>absurd h (Nat.not_lt_zero _)⟩
  | succ i ih =>
    intro hi
    obtain ⟨h1,h2⟩:=ih (by omega)
    have hb:blanks.getD i ⟨#[]⟩=⟨#[]⟩:=by
      rw [List.getD_eq_getElem?_getD,List.getElem?_replicate]
      split <;> rfl
    have e:spoilD d 0 blanks (i+1)=writeD (spoilD d 0 blanks i) (i:Int) ⟨#[]⟩:=by
      show writeD _ _ (blanks.getD i ⟨#[]⟩)=_
      rw [hb,spot_zero i (by omega)]
    obtain ⟨w0,w1⟩:=write_free (i:=i) (s:=⟨#[]⟩) h1 (by omega) (by decide)
    rw [e]
    refine ⟨w1,fun j hj=>?_⟩
    have hw:(writeD (spoilD d 0 blanks i) (i:Int) ⟨#[]⟩).now=(spoilD d 0 blanks i).now.set i (padD ⟨#[]⟩):=by
      have hgood:¬ (¬ (0≤(i:Int)∧(i:Int)<((spoilD d 0 blanks i).now.length:Int))∨40<(⟨#[]⟩:ByteArray).size):=by
        rw [h1.len]
        have:(⟨#[]⟩:ByteArray).size=0:=rfl
        omega
      have hst:stepN (spoilD d 0 blanks i)=0:=by
        unfold stepN
        rw [if_neg]
        rintro (e | e)
        · rw [h1.up] at e;cases e
        · have:=h1.left;omega
      unfold writeD
      rw [if_neg hgood,if_pos hst]
      rfl
    have pb:padD ⟨#[]⟩=Go.Proofs.YtihnghnafpgdfadGreatDoor.blank:=by decide
    rw [hw,pb]
    by_cases ej:j=i
    · subst ej
      rw [List.getElem?_set_self (by rw [h1.len];omega)]
    · rw [List.getElem?_set_ne (by omega)]
      exact h2 j (by omega)
theorem blank_none {d:Dk}{R:List Ch}(h0:d.now[0]?=some Go.Proofs.YtihnghnafpgdfadGreatDoor.blank)(h1:d.now[1]?=some Go.Proofs.YtihnghnafpgdfadGreatDoor.blank):¬ Tells d R:=by
  rintro ⟨sd,us,h⟩
  unfold openD at h
  have e:laidX (whOf d)=none:=by
    unfold laidX
    rw [whOf_blank h1,whOf_blank h0]
  rw [e] at h
  cases h
theorem spoilt_blank {d d':Dk}{R:List Ch}(hf:Free d 50 0)(h:d'.now=(spoilD d 0 blanks blanks.length).now):¬ Tells d' R:=by
  have hl:blanks.length=50:=by simp
  obtain ⟨_,h2⟩:=blank_to hf 50 (Nat.le_refl _)
  rw [hl] at h
  exact blank_none (by rw [h];exact h2 0 (by omega)) (by rw [h];exact h2 1 (by omega))
end Go.Proofs.YtihnghnafpgdfadGreatDoor
