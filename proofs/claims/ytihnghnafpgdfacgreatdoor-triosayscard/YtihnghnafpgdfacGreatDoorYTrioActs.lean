/-
  WHAT IS DONE OVER A DISK THAT IS SPOILT: acts, Scrub.
-/
import Derived.Test.YtihnghnafpgdfacGreatDoorYTrioSpoil
namespace Go.Proofs.YtihnghnafpgdfacGreatDoor
open Go Go.RowKit Go.BigFrame
set_option linter.unusedVariables false
set_option linter.unusedSimpArgs false
theorem act_spoilt {lo:Nat}{w wr:World}{P P':Nat→Dp}{D':Nat→Dk}{tb:Nat}{so:Nat→Option Nat}{a:Option Addr}{cap:Nat}{l:List Fi}{t:Int}{k:Nat}(h:Spoilt lo w wr P P' D' tb so a cap l t k)(x:Ac)(hn:x.s.size≤maxLen)(hx:x.t.size≤maxLen) :
    Calls Tryz.prog 20 #[.pointer (some ⟨tb,0,none⟩),x.v] wr fun e w'=>e=.returned (errV (doR l t x).n)∧∃ P2 D2 so2 a2 cap2 l2 t2,Spoilt lo w w' P P2 D2 tb so2 a2 cap2 l2 t2 k∧((¬ (doR l t x).n=0∧l2=l∧t2=t)∨((doR l t x).n=0∧l2=(doR l t x).l∧t2=(doR l t x).t)):=by
  refine (act_any lo P' D' tb so a cap l t x wr h.life h.free hn hx).mono ?_
  rintro e w' ⟨h1,⟨h2,h3⟩,h4⟩
  refine ⟨h1,?_⟩
  rcases h4 with ⟨h4,h5⟩ | ⟨h4,h5,P2,D2,so2,a2,cap2,h6⟩
  · exact ⟨P',D',so,a,cap,l,t,⟨h5,h.same,h.free,h.sound,h.bel.trans h2,h.far.trans h3⟩,.inl ⟨h4,rfl,rfl⟩⟩
  · exact ⟨P2,D2,so2,a2,cap2,_,_,⟨h6.life,fun i hi=>(h6.same i hi).trans (h.same i hi),h6.free,fun i hi hik=>h6.sound i hi (h.sound i hi hik),h.bel.trans h2,h.far.trans h3⟩,.inr ⟨h4,rfl,rfl⟩⟩
theorem scrub_here {lo:Nat}{w:World}{P:Nat→Dp}{D:Nat→Dk}{tb:Nat}{so:Nat→Option Nat}{a:Option Addr}{cap:Nat}{l:List Fi}{t:Int}(h:Life lo 50 w P D tb so a cap l t)(hf:∀ i,i<3→Free (D i) 50 0){i j:Nat}(hi:i<3)(hj:j<3)(hij:i≠j)(h1:Tells (D i) (rowsL l t))(h2:Tells (D j) (rowsL l t)) :
    Calls Tryz.prog 16 #[.pointer (some ⟨tb,0,none⟩)] w fun e w'=>∃ (n:Nat) (P':Nat→Dp) (D':Nat→Dk) (S:Nat→Option Nat),e=.returned (.tuple #[.int .i64 n,.nilIface])∧Mended lo w w' P P' D D' tb S a cap l t n:=by
  refine (scrub_any lo 50 P D tb so a cap l t w h.three hf (by omega) (by omega) h.vars h.low h.tbl h.trio h.good).mono ?_
  intro e w' hs
  exact scrub_mended h.good h.low h.tbl hf hi hj hij h1 h2 hs
end Go.Proofs.YtihnghnafpgdfacGreatDoor
