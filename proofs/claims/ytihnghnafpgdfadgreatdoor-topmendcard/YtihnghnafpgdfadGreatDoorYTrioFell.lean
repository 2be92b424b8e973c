/-
  WHAT A FALL LEAVES OF A DISK THAT WAS BEING LAID ANEW. No walk.
-/
import Derived.Test.YtihnghnafpgdfadGreatDoorYTrioFall
namespace Go.Proofs.YtihnghnafpgdfadGreatDoor
open Go Go.RowKit Go.BigFrame
set_option linter.unusedVariables false
set_option linter.unusedSimpArgs false
theorem keptBy_length9 (keep:Nat):∀ (l:List Wr) (K:List (List UInt8)),(keptBy keep l K).length=K.length
  | [],K=>rfl
  | x :: l,K=>by rw [keptBy,keptBy_length9 keep l];split <;> simp
/-- A disk that may have fallen: it has as many sectors when it is up again. -/
structure Hurt (N:Nat)(d:Dk):Prop where
  wr:d.wr.length≤100
  len:∀ K,(keptBy K d.wr d.kept).length=N
theorem Hurt.free {N:Nat}{d:Dk}(h:Hurt N d)(K:Nat):Free (restartD d K) N 0:=⟨rfl,by show (-1:Int)<0;omega,Nat.le_refl _,h.len K⟩
theorem Clean.hurt {N:Nat}{d:Dk}(h:Clean d)(hl:d.now.length=N):Hurt N d:=⟨by rw [h.wr];simp,fun K=>by rw [keptBy_length9,h.kept,hl]⟩
theorem Fell.hurt {N a:Nat}{d:Dk}{now l:List (List UInt8)}(h:Fell d (Mixed now a l))(hl:now.length=N)(hw:d.wr.length≤100):Hurt N d:=⟨hw,fun K=>by rw [(h.may K).1];exact hl⟩
/-- A disk is formatted,or falls. -/
theorem format_cases {N:Nat}{d:Dk}(hc:Clean d)(hl:d.now.length=N)(hN:42≤N)(hN2:N≤60) :
    ((formatD d).2=0∧Clean (formatD d).1∧KeptL N (formatD d).1.now 1 0 [])∨((formatD d).2=8∧Hurt N (formatD d).1):=by
  have e:formatD d=seqD d formL:=by unfold formatD;rw [if_neg (by omega)]
  rw [e]
  clear e
  have hz:∀ x ∈ [(⟨#[]⟩:ByteArray)],x.size≤40:=by intro x hx;simp at hx;rw [hx];decide
  have hh:∀ x ∈ [baL (headL 1 ⟨#[]⟩)],x.size≤40:=by intro x hx;simp at hx;rw [hx,baL_size,headL_length];omega
  have pb:padD ⟨#[]⟩=Go.Proofs.YtihnghnafpgdfadGreatDoor.blank:=by decide
  unfold formL
  simp only [seqD]
  have w1:=layD_len2 d 0 [⟨#[]⟩]
  rw [hc.wr] at w1
  rcases layD_any d 0 [⟨#[]⟩] hc (by simp;omega) hz with ⟨a1,a2,a3,-⟩ | ⟨a1,-,a3⟩
  case inr =>
    right
    rw [if_neg (by rw [a1];decide)]
    exact ⟨a1,a3.hurt hl (by simp at w1;omega)⟩
  rw [if_pos a1]
  obtain ⟨x1,x2⟩:=laid_one (now:=d.now) (a:=0) (x:=Go.Proofs.YtihnghnafpgdfadGreatDoor.blank) (by omega)
  simp only [List.map_cons,List.map_nil,pb] at a3
  rw [← a3] at x1 x2
  generalize (layD d 0 [⟨#[]⟩]).1=d1 at *
  have l1:d1.now.length=N:=by rw [x1,hl]
  have w2:=layD_len2 d1 1 [⟨#[]⟩]
  rw [a2.wr] at w2
  rcases layD_any d1 1 [⟨#[]⟩] a2 (by simp;omega) hz with ⟨b1,b2,b3,-⟩ | ⟨b1,-,b3⟩
  case inr =>
    right
    rw [if_neg (by rw [b1];decide)]
    exact ⟨b1,b3.hurt l1 (by simp at w2;omega)⟩
  rw [if_pos b1]
  obtain ⟨y1,y2⟩:=laid_one (now:=d1.now) (a:=1) (x:=Go.Proofs.YtihnghnafpgdfadGreatDoor.blank) (by omega)
  simp only [List.map_cons,List.map_nil,pb] at b3
  rw [← b3] at y1 y2
  generalize (layD d1 1 [⟨#[]⟩]).1=d2 at *
  have l2:d2.now.length=N:=by rw [y1,l1]
  have w3:=layD_len2 d2 26 [⟨#[]⟩]
  rw [b2.wr] at w3
  rcases layD_any d2 26 [⟨#[]⟩] b2 (by simp;omega) hz with ⟨c1,c2,c3,-⟩ | ⟨c1,-,c3⟩
  case inr =>
    right
    rw [if_neg (by rw [c1];decide)]
    exact ⟨c1,c3.hurt l2 (by simp at w3;omega)⟩
  rw [if_pos c1]
  obtain ⟨z1,z2⟩:=laid_one (now:=d2.now) (a:=26) (x:=Go.Proofs.YtihnghnafpgdfadGreatDoor.blank) (by omega)
  simp only [List.map_cons,List.map_nil,pb] at c3
  rw [← c3] at z1 z2
  generalize (layD d2 26 [⟨#[]⟩]).1=d3 at *
  have l3:d3.now.length=N:=by rw [z1,l2]
  have w4:=layD_len2 d3 1 [baL (headL 1 ⟨#[]⟩)]
  rw [c2.wr] at w4
  rcases layD_any d3 1 [baL (headL 1 ⟨#[]⟩)] c2 (by simp;omega) hh with ⟨e1,e2,e3,-⟩ | ⟨e1,-,e3⟩
  case inr =>
    right
    rw [if_neg (by rw [e1];decide)]
    exact ⟨e1,e3.hurt l3 (by simp at w4;omega)⟩
  rw [if_pos e1]
  left
  obtain ⟨u1,u2⟩:=laid_one (now:=d3.now) (a:=1) (x:=padD (baL (headL 1 ⟨#[]⟩))) (by omega)
  simp only [List.map_cons,List.map_nil] at e3
  rw [← e3] at u1 u2
  generalize (layD d3 1 [baL (headL 1 ⟨#[]⟩)]).1=d4 at *
  have l4:d4.now.length=N:=by rw [u1,l3]
  refine ⟨rfl,e2,l4,by omega,⟨[],[],?_,?_,rfl⟩,fun e=>absurd e (by decide)⟩
  · refine whOf_laid (by omega) Rowed.nil (by intro c hc;cases hc) (by simp) ?_ (by intro j hj;simp at hj)
    show d4.now[1]?=_
    rw [u2,if_pos rfl,padD_baL]
    try rfl
  · refine logAt_none (by show 26<d4.now.length;omega) (s:=Go.Proofs.YtihnghnafpgdfadGreatDoor.blank) ?_ (secOf_blank ?_)
    · show d4.now[26]?=_
      rw [u2,if_neg (by omega),z2,if_pos rfl]
    · unfold firstOf;omega
theorem KeptL.hurt {N side used:Nat}{d:Dk}{R:List Ch}(h:KeptL N d.now side used R)(hc:Clean d):Hurt N d:=hc.hurt h.len
/-- What a commit on an empty store comes to: it goes well,is refused,or the disk falls. -/
theorem commit_hurt {N:Nat}{d:Dk}{s:St}{g:Lg}{c:List Ch}(hk:KeptL N d.now s.side g.used s.rows)(hc:Clean d)(hF:Forty d.now)(hN:42≤N)(hN2:N≤60)(hg:g=⟨g.dB,26,N - 26,firstOf d s.side,g.used⟩):Hurt N (commitC d s g c).d:=by
  rcases commit_cases (c:=c) hk hc hF hN hN2 hg with ⟨-,-,-,-,e⟩ | ⟨-,h1,-,h2,-⟩ | ⟨-,h1,h2⟩
  · rw [e];exact hc.hurt hk.len
  · exact h1.hurt h2.len
  · refine ⟨h1,fun K=>?_⟩
    obtain ⟨sd,us,h | h⟩:=h2.may K
    · exact h.len
    · exact h.len
/-- What is left of three disks of which one was laid anew,over a fall or not. -/
structure MendTo (lo N:Nat)(w w':World)(P P':Nat→Dp)(D D':Nat→Dk)(k:Nat):Prop where
  three:Three lo w' P' D'
  same:∀ i,i<3→(P' i).B=(P i).B
  other:∀ i,i<3→i≠k→D' i=D i∧P' i=P i
  hurt:Hurt N (D' k)
  vars:VarsLo lo w'
  bel:Below lo w w'
  far:LetT w w'
  new:∀ b,(P' k).wv.ownBlock=some b→(P k).wv.ownBlock=some b∨w.heap.size≤b
theorem MendTo.from {lo N:Nat}{w0 w w':World}{P P':Nat→Dp}{D D':Nat→Dk}{k:Nat}(h:MendTo lo N w w' P P' D D' k)(hb:Below w0.heap.size w0 w)(hlo:lo≤w0.heap.size):MendTo lo N w0 w' P P' D D' k :=
  ⟨h.three,h.same,h.other,h.hurt,h.vars,(hb.mono hlo).trans h.bel,(LetT.of_below hb).trans h.far,fun b hb'=>(h.new b hb').imp_right (Nat.le_trans hb.size)⟩
end Go.Proofs.YtihnghnafpgdfadGreatDoor
