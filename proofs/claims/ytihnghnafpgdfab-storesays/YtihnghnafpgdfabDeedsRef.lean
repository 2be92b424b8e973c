/-
  DEEDS OF THE DOCUMENT: SameDeeds, four.
  A NUMBER's FOUR BYTES, AS THE DOCUMENT WRITES THEM: four.
  THE DOCUMENT's DEEDS OF A LOG: ClosedDeeds.
  append(append(nil, deeds...), deed): deeds, and one more.
-/
import Derived.Test.YtihnghnafpgdfabLogAdd
import Derived.Test.YtihnghnafpgdfabRowSame
import Derived.Test.YtihnghnafpgdfabLogOpen
import Derived.Laws.OwnMore
namespace Go.Proofs.Ytihnghnafpgdfab
open Go.RowKit Go.BigFrame
set_option linter.unusedVariables false
set_option linter.unusedSimpArgs false

/-- A row of slices of changes. -/
structure RowsOf (w : World) (a : Option Addr) (P : List PartC) : Prop where
  cell : ∀ i (h : i < P.length), ∃ b off, a = some ⟨b, off, none⟩ ∧ w.cell? ⟨b, off + i, none⟩ = some P[i].v
  part : ∀ i (h : i < P.length), CC w P[i].a P[i].l
  few : ∀ i (h : i < P.length), P[i].l.length ≤ 1000
theorem Deeds.rows {lo : Nat} {w : World} {a : Option Addr} {cap : Nat} {P : List PartC} (h : Deeds lo w a cap P) : RowsOf w a P :=
  ⟨fun i hi => by obtain ⟨b, off, e, h1, _⟩ := h.cell i hi; exact ⟨b, off, e, h1⟩, fun i hi => (h.parts _ (List.getElem_mem hi)).cc, fun i hi => h.few _ (List.getElem_mem hi)⟩
def sameDL : List PartC → List PartC → Bool
  | [], [] => true
  | p :: P, q :: Q => sameCL p.l q.l && sameDL P Q
  | [], _ :: _ => false
  | _ :: _, [] => false
theorem sameDL_iff : ∀ (P Q : List PartC), sameDL P Q = true ↔ P.map (·.l) = Q.map (·.l)
  | [], [] => by simp [sameDL]
  | p :: P, q :: Q => by simp [sameDL, sameCL_iff, sameDL_iff P Q]
  | [], _ :: _ => by simp [sameDL]
  | _ :: _, [] => by simp [sameDL]
theorem sameDL_false {P Q : List PartC} (h : ¬ P.map (·.l) = Q.map (·.l)) : sameDL P Q = false := by
  cases hs : sameDL P Q
  · rfl
  · exact absurd ((sameDL_iff P Q).1 hs) h
theorem sameDL_len {P Q : List PartC} (h : ¬ P.length = Q.length) : sameDL P Q = false :=
  sameDL_false fun e => h (by simpa using congrArg List.length e)
theorem sameDL_at {P Q : List PartC} {k : Nat} (h1 : k < P.length) (h2 : k < Q.length) (h : sameCL P[k].l Q[k].l = false) : sameDL P Q = false :=
  sameDL_false fun e => by
    have : (P.map (·.l))[k]? = (Q.map (·.l))[k]? := by rw [e]
    rw [List.getElem?_map, List.getElem?_map, List.getElem?_eq_getElem h1, List.getElem?_eq_getElem h2] at this
    simp at this
    rw [this, sameCL_self] at h
    cases h
theorem sameDL_all {P Q : List PartC} (hl : P.length = Q.length) (h : ∀ i (h1 : i < P.length) (h2 : i < Q.length), sameCL P[i].l Q[i].l = true) : sameDL P Q = true := by
  rw [sameDL_iff]
  apply List.ext_getElem (by simpa using hl)
  intro i h1 h2
  simp only [List.length_map] at h1 h2
  simp only [List.getElem_map]
  exact (sameCL_iff _ _).1 (h i h1 h2)

set_option maxRecDepth 100000 in
set_option maxHeartbeats 1000000 in
theorem sameDeeds_any (a a' : Option Addr) (cap cap' : Nat) (P Q : List PartC) (w : World) (hl : P.length ≤ 1000) (hm : Q.length ≤ 1000) (hc : RowsOf w a P) (hc' : RowsOf w a' Q) :
    Calls Try.prog 54 #[.slice a P.length cap, .slice a' Q.length cap'] w fun e w' => e = .returned (.bool (sameDL P Q)) ∧ ∃ n, w' = w.drewN n := by
  have HC : Hid (RowsOf w a P) := hc
  have HC' : Hid (RowsOf w a' Q) := hc'
  clear hc hc'
  by_cases hlen : P.length = Q.length
  · have hne : ((P.length : Int) != (Q.length : Int)) = false := by simp [hlen]
    have HL : Hid (P.length = Q.length) := hlen
    clear hlen
    go_enter Try.func54, Try.ntmps54
    go_wp2_with fail
    go_loopw [5] (fun i wr => ∃ k n : Nat, k ≤ P.length ∧ i = .int .i64 k ∧ wr = w.drewN n ∧ Hid (∀ i (h1 : i < P.length) (h2 : i < Q.length), i < k → sameCL P[i].l Q[i].l = true)) (fun i _ => P.length - (intOf i).toNat)
    case atStart => exact ⟨0, 0, Nat.zero_le _, rfl, rfl, fun i h1 h2 h => absurd h (Nat.not_lt_zero _)⟩
    case round =>
      obtain ⟨k, n, hk, rfl, rfl, Hall⟩ := hrel
      by_cases hlt : k < P.length
      · have hlt2 : k < Q.length := by have := HL.out; omega
        obtain ⟨b, off, rfl, c0⟩ := HC.out.cell k hlt
        obtain ⟨b', off', rfl, d0⟩ := HC'.out.cell k hlt2
        have KS : Hid (∀ m, Calls Try.prog 48 #[P[k].v, Q[k].v] (w.drewN (n + m)) fun e w'' => e = .returned (.bool (sameCL P[k].l Q[k].l)) ∧ ∃ q, w'' = w.drewN (n + q)) := fun m => (sameChanges_any P[k].a Q[k].a P[k].cap Q[k].cap P[k].l Q[k].l (w.drewN (n + m)) (HC.out.few k hlt) (HC'.out.few k hlt2) ((HC.out.part k hlt).drewN _) ((HC'.out.part k hlt2).drewN _)).mono fun e w' ⟨he, q, hq⟩ => ⟨he, m + q, by rw [hq, World.drewN_drewN, Nat.add_assoc]⟩
        obtain ⟨x, hx⟩ : ∃ x, x = sameCL P[k].l Q[k].l := ⟨_, rfl⟩
        have HX : Hid (x = sameCL P[k].l Q[k].l) := hx
        rw [← hx] at KS
        clear hx
        cases x
        · have HF : Hid (sameDL P Q = false) := sameDL_at hlt hlt2 HX.out.symm
          go_wp2
          go_quiet ((go_at_call 48; exact KS.out _))
          go_wp2
          go_ret
          exact ⟨ret_bool HF.out.symm, n + nq, by simp⟩
        · go_wp2
          go_quiet ((go_at_call 48; exact KS.out _))
          go_wp2
          refine ⟨⟨k + 1, _, by omega, by go_num, rfl, fun i h1 h2 h => ?_⟩, by simp [intOf]; omega⟩
          rcases Nat.lt_or_ge i k with h3 | h3
          · exact Hall.out i h1 h2 h3
          · have e : i = k := by omega
            subst e
            exact HX.out.symm
      · go_wp2
        go_ret
        exact ⟨ret_bool (sameDL_all HL.out (fun i h1 h2 => Hall.out i h1 h2 (by omega))).symm, n, rfl⟩
  · have hne : ((P.length : Int) != (Q.length : Int)) = true := by rw [bne_iff_ne]; omega
    go_enter Try.func54, Try.ntmps54
    go_wp2
    go_ret
    exact ⟨ret_bool (sameDL_len hlen).symm, 0, rfl⟩
end Go.Proofs.Ytihnghnafpgdfab
namespace Go.Proofs.Ytihnghnafpgdfab
open Go.RowKit Go.BigFrame
set_option linter.unusedVariables false
set_option linter.unusedSimpArgs false

theorem four_cells (w : World) (n : Nat) (T : TypeId) : ∀ j (hj : j < (leB 4 n).length), (w.alloc (Obj.cells #[.int .u8 ((n : Int) % 256), .int .u8 ((n : Int) / 256 % 256), .int .u8 ((n : Int) / 65536 % 256), .int .u8 ((n : Int) / 16777216 % 256)] T)).cell? ((⟨w.heap.size, 0, none⟩ : Addr).add j) = some (.int .u8 ((leB 4 n)[j].toNat : Int)) := by
  intro j hj
  have e : ∀ k : Nat, (((UInt8.ofNat (k % 256)).toNat : Nat) : Int) = ((k % 256 : Nat) : Int) := fun k => by simp
  rw [leB_length] at hj
  match j, hj with
  | 0, _ => simp only [leB, List.getElem_cons_zero, e]; simp [Addr.add]
  | 1, _ => simp only [leB, List.getElem_cons_succ, List.getElem_cons_zero, e]; simp [Addr.add]
  | 2, _ =>
    simp only [leB, List.getElem_cons_succ, List.getElem_cons_zero, e]
    have : ((n / 256 / 256 % 256 : Nat) : Int) = (n : Int) / 65536 % 256 := by omega
    rw [this]; simp [Addr.add]
  | 3, _ =>
    simp only [leB, List.getElem_cons_succ, List.getElem_cons_zero, e]
    have : ((n / 256 / 256 / 256 % 256 : Nat) : Int) = (n : Int) / 16777216 % 256 := by omega
    rw [this]; simp [Addr.add]
set_option maxRecDepth 100000 in
set_option maxHeartbeats 1000000 in
theorem four_any (n : Nat) (w : World) (hn : n ≤ 1000000000) :
    Calls Try.prog 89 #[.int .i64 n] w fun e w' => e = .returned (.string (baL (leB 4 n))) ∧ Below w.heap.size w w' := by
  have hcv := run_convert_bytes_back (P := Try.prog) (w.alloc (Obj.cells #[.int .u8 ((n : Int) % 256), .int .u8 ((n : Int) / 256 % 256), .int .u8 ((n : Int) / 65536 % 256), .int .u8 ((n : Int) / 16777216 % 256)] 5)) 130 9 5 ⟨w.heap.size, 0, none⟩ 4 (leB 4 n) (by kernel_rfl) (by kernel_rfl) (by kernel_rfl) (four_cells w n 5)
  rw [leB_length] at hcv
  have HCV : Hid _ := hcv
  clear hcv
  go_enter Try.func89, Try.ntmps89
  go_wp2_with fail
  rw [HCV.out]
  go_wp2
  go_ret
  exact ⟨rfl, (Below.refl _ _).alloc (Nat.le_refl _) _⟩
end Go.Proofs.Ytihnghnafpgdfab
namespace Go.Proofs.Ytihnghnafpgdfab
open Go.RowKit Go.BigFrame
set_option linter.unusedVariables false
set_option linter.unusedSimpArgs false

def bytesOf (l : List ByteArray) : List (List UInt8) := l.map (·.data.toList)
/-- What holds at each sector's head. -/
structure ClMid (w wr : World) (l : List ByteArray) (first i u base : Nat) (vd vo : Value) (P : List PartC) (opn : List Ch) : Prop where
  ds : DS wr w.heap.size base vd vo P opn
  below : Below w.heap.size w wr
  run : runL rdC first 0 ⟨[], [], 0⟩ (bytesOf l) = runL rdC first i ⟨P.map (·.l), opn, u⟩ ((bytesOf l).drop i)
  few : opn.length ≤ i ∧ P.length ≤ i ∧ u ≤ i
theorem ClMid.go {w wr wx : World} {l : List ByteArray} {first i u base : Nat} {vd vo : Value} {P : List PartC} {opn : List Ch} (h : ClMid w wr l first i u base vd vo P opn) (hb : Below wr.heap.size wr wx) : ClMid w wx l first i u base vd vo P opn :=
  ⟨h.ds.below hb, h.below.trans (hb.mono h.below.size), h.run, h.few⟩
/-- What ClosedDeeds answers. -/
def ClosedEnd (w : World) (l : List ByteArray) (first : Nat) (e : Ending) (w' : World) : Prop :=
  ∃ vd vo P base opn, e = .returned (.tuple #[vd, .int .i64 ((closedL rdC first (bytesOf l)).2 : Nat)]) ∧ DS w' w.heap.size base vd vo P opn ∧ P.map (·.l) = (closedL rdC first (bytesOf l)).1 ∧ Below w.heap.size w w' ∧ P.length ≤ l.length
theorem ClMid.stop {w wr : World} {l : List ByteArray} {first i u base : Nat} {vd vo : Value} {P : List PartC} {opn : List Ch} (h : ClMid w wr l first i u base vd vo P opn) (hi : i ≤ l.length) (hs : runL rdC first i ⟨P.map (·.l), opn, u⟩ ((bytesOf l).drop i) = ⟨P.map (·.l), opn, u⟩) : ClosedEnd w l first (.returned (.tuple #[vd, .int .i64 u])) wr := by
  have e : closedL rdC first (bytesOf l) = (P.map (·.l), u) := by
    unfold closedL
    rw [h.run, hs]
  exact ⟨vd, vo, P, base, opn, by rw [e], h.ds, by rw [e], h.below, Nat.le_trans h.few.2.1 hi⟩
theorem ClMid.close {w wr w4 : World} {l : List ByteArray} {first i u base : Nat} {vd v : Value} {oa : Option Addr} {oc : Nat} {P : List PartC} {opn : List Ch} (h : ClMid w wr l first i u base vd (.slice oa opn.length oc) P opn)
    (hg : wr.grownBy w4 vd.ownBlock) (ho : w4.ownsRow w.heap.size 24 1 v (P.length + 1) (P.map PartC.v ++ [.slice oa opn.length oc]))
    (hrun : runL rdC first i ⟨P.map (·.l), opn, u⟩ ((bytesOf l).drop i) = runL rdC first (i + 1) ⟨P.map (·.l) ++ [opn], [], i + 1⟩ ((bytesOf l).drop (i + 1))) :
    ClMid w w4 l first (i + 1) (i + 1) w4.heap.size v (.slice none 0 0) (P ++ [⟨oa, oc, opn⟩]) [] := by
  refine ⟨h.ds.close hg ho, h.below.grown hg h.below.size (fun k hk => (h.ds.row.lt k hk).1), ?_, ?_⟩
  · rw [h.run, hrun, List.map_append]; rfl
  · have := h.few
    simp
    omega
theorem ClMid.more {w wr w4 : World} {l : List ByteArray} {first i u base : Nat} {vd vo v : Value} {P : List PartC} {opn : List Ch} {c : Ch} (h : ClMid w wr l first i u base vd vo P opn)
    (hg : wr.grownBy w4 vo.ownBlock) (ho : OwnsC w4 base v (opn ++ [c]))
    (hrun : runL rdC first i ⟨P.map (·.l), opn, u⟩ ((bytesOf l).drop i) = runL rdC first (i + 1) ⟨P.map (·.l), opn ++ [c], u⟩ ((bytesOf l).drop (i + 1))) :
    ClMid w w4 l first (i + 1) u base vd v P (opn ++ [c]) := by
  refine ⟨h.ds.more hg ho, h.below.grown hg h.below.size (fun k hk => Nat.le_trans h.ds.base.1 (h.ds.opn.lt k hk).1), by rw [h.run, hrun], ?_⟩
  have := h.few
  simp
  omega
theorem two_le (s : ByteArray) (h : s.size = 40) : ofLE ((s.data.toList.drop 5).take 2) = byteAt s 5 + 256 * byteAt s 6 := by
  have hl : s.data.toList.length = 40 := by rw [ba_len, h]
  unfold byteAt
  match hm : s.data.toList, hl with
  | [], hl => simp at hl
  | a0 :: a1 :: a2 :: a3 :: a4 :: a5 :: a6 :: r, hl => simp [ofLE]
theorem head_byte (s : ByteArray) (h : s.size = 40) : (s.data.toList.headD 0).toNat = byteAt s 0 := by
  have hl : s.data.toList.length = 40 := by rw [ba_len, h]
  unfold byteAt
  match hm : s.data.toList, hl with
  | a0 :: r, hl => simp

set_option maxRecDepth 100000 in
set_option maxHeartbeats 4000000 in
theorem closedDeeds_any (a : Option Addr) (cap : Nat) (l : List ByteArray) (first : Nat) (w : World) (hl : l.length ≤ 60) (hf : first ≤ 4000000) (hc : Strs w a l) (h40 : ∀ s ∈ l, s.size = 40) :
    Calls Try.prog 53 #[.slice a l.length cap, .int .i64 first] w (ClosedEnd w l first) := by
  have HC : Hid (Strs w a l) := hc
  have H40 : Hid (∀ s ∈ l, s.size = 40) := h40
  obtain ⟨i0, hif, hz0, hz1, hz2⟩ := info_parts Try.infoChanges
  obtain ⟨j0, hjf, jz0, jz1, jz2⟩ := info_parts Try.infoChange
  clear hc h40
  go_enter Try.func53, Try.ntmps53
  go_wp2_with fail
  go_loopg [9, 6, 7, 8] (l.length + 1) (fun kx vi vd vo vu wr => ∃ (i u base : Nat) (P : List PartC) (opn : List Ch), vi = .int .i64 i ∧ vu = .int .i64 u ∧ i ≤ l.length ∧ l.length - i ≤ kx ∧ Hid (ClMid w wr l first i u base vd vo P opn))
  case atStart => exact ⟨0, 0, w.heap.size, [], [], rfl, rfl, by omega, by omega, ⟨⟨World.ownsRow_nil _ _ _ _, (fun p hp => by cases hp), (fun p hp => by cases hp), World.ownsRow_nil _ _ _ _, Nat.le_refl _, Nat.le_refl _⟩, Below.refl _ _, rfl, by simp⟩⟩
  case round =>
    obtain ⟨i, u, base, P, opn, rfl, rfl, hi, hix, HR⟩ := hrel
    by_cases hlt : i < l.length
    · have hltz : (i : Int) < (l.length : Int) := by omega
      obtain ⟨sb, so, rfl, sc0⟩ := (HC.out.below HR.out.below) i hlt
      have hs40 : l[i].size = 40 := H40.out _ (List.getElem_mem hlt)
      have HDR : Hid ((bytesOf l).drop i = l[i].data.toList :: (bytesOf l).drop (i + 1)) := by
        show _ = _
        rw [List.drop_eq_getElem_cons (by simpa [bytesOf] using hlt)]
        simp [bytesOf]
      obtain ⟨s, hs⟩ : ∃ s, s = l[i] := ⟨_, rfl⟩
      rw [← hs] at HDR sc0 hs40
      clear hs
      have b0 := byteAt_eq (s := s) (i := 0) (by omega)
      have b5 := byteAt_eq (s := s) (i := 5) (by omega)
      have b6 := byteAt_eq (s := s) (i := 6) (by omega)
      have l0 := byteAt_lt s 0
      have l5 := byteAt_lt s 5
      have l6 := byteAt_lt s 6
      have HLE : Hid _ := two_le s hs40
      have HB0 : Hid _ := head_byte s hs40
      go_wp2_with fail
      go_quiet (fail)
      obtain ⟨n, hn⟩ : ∃ n, n = byteAt s 5 + 256 * byteAt s 6 := ⟨_, rfl⟩
      rw [← hn] at HLE
      rw [show (byteAt s 5 : Int) + 256 * (byteAt s 6 : Int) = (n : Int) by omega]
      have hn65 : n < 65536 := by omega
      clear hn b5 b6 l5 l6
      obtain ⟨W1, hW1⟩ : ∃ x, x = wr.drewN nq := ⟨_, rfl⟩
      have HR1 : Hid (ClMid w W1 l first i u base u6 u7 P opn) := by
        show ClMid _ _ _ _ _ _ _ _ _ _ _
        rw [hW1]
        exact HR.out.go (below_drewN (Below.refl _ _) nq)
      rw [← hW1]
      clear hW1 HR nq
      have some' := Later.ne W1
      have KF : Hid (∀ p : Later W1, Calls Try.prog 89 #[.int .i64 ((first : Int) + (i : Int))] p.W fun e w' => e = .returned (.string (baL (leB 4 (first + i)))) ∧ Below p.W.heap.size p.W w') := fun p => by
        have := four_any (first + i) p.W (by omega)
        rw [show ((first + i : Nat) : Int) = (first : Int) + (i : Int) by omega] at this
        exact this
      by_cases hnum : (s.extract 1 5) = baL (leB 4 (first + i))
      · have hd : ((s.extract 1 5).toList == (baL (leB 4 (first + i))).toList) = true := by rw [hnum]; simp
        have hnl : (s.data.toList.drop 1).take 4 = leB 4 (first + i) := by
          have := congrArg (fun x => x.data.toList) hnum
          simp only [extract_list] at this
          simpa [baL] using this
        by_cases h33 : n ≤ 33
        · have HSO : Hid (secOf (first + i) s.data.toList = some (s.data.toList.headD 0, (s.data.toList.drop 7).take n)) := by
            show _ = _
            unfold secOf
            rw [if_pos ⟨hnl, by rw [HLE.out]; exact h33⟩, HLE.out]
          have hgt : decide ((33 : Int) < (n : Int)) = false := decide_eq_false (by omega)
          have HT : Hid ((s.extract 7 (7 + n)) = baL ((s.data.toList.drop 7).take n)) := by
            show _ = _
            apply ByteArray.ext
            apply Array.toList_inj.1
            rw [extract_list]
            simp [baL, show 7 + n - 7 = n by omega]
          have htl : ((s.data.toList.drop 7).take n).length ≤ 33 := by rw [List.length_take]; omega
          clear hnl hnum
          generalize baL (leB 4 (first + i)) = Z at *
          go_wp2_with fail
          refine wp_region_later (by kernel_rfl) (by kernel_rfl) ?_
          repeat (go_big_quiet_step ((go_at_call 89; exact later_of _ (KF.out _))))
          refine wpQuiet_nil ?_
          rintro _ ⟨p, rfl⟩
          obtain ⟨W2, hW2⟩ : ∃ x, x = p.W := ⟨_, rfl⟩
          have HR2 : Hid (ClMid w W2 l first i u base u6 u7 P opn) := by
            show ClMid _ _ _ _ _ _ _ _ _ _ _
            rw [hW2]
            exact HR1.out.go p.h
          rw [← hW2]
          clear hW2 p HR1 KF some' hd hgt
          have some2 := Later.ne W2
          obtain ⟨oa, oc, hvo, -, -, -, -, -⟩ := OwnsC.files HR2.out.ds.opn
          subst hvo
          obtain ⟨k, hk⟩ : ∃ k, k = s.data.toList.headD 0 := ⟨_, rfl⟩
          obtain ⟨t, ht⟩ : ∃ t, t = (s.data.toList.drop 7).take n := ⟨_, rfl⟩
          rw [← hk, ← ht] at HSO
          rw [← ht] at HT htl
          rw [← hk] at HB0
          clear hk ht
          have hbk : (byteAt s 0 : Int) = (k.toNat : Int) := by rw [HB0.out]
          have HBK : Hid _ := hbk
          clear hbk
          have hsl : (s.extract 7 (7 + n)).size ≤ 33 := by rw [HT.out, baL_size]; exact htl
          by_cases k99 : k = 99
          · have hk0 : ((byteAt s 0 : Int) == 99) = true := by rw [HBK.out, k99]; rfl
            have hk1 : ((byteAt s 0 : Int) != 111) = true := by rw [HBK.out, k99]; rfl
            have KC : Hid (Calls Try.prog 89 #[.int .i64 opn.length] W2 fun e w' => e = .returned (.string (baL (leB 4 opn.length))) ∧ Below W2.heap.size W2 w') := four_any opn.length W2 (by have := HR2.out.few; omega)
            by_cases hto : t = leB 4 opn.length
            · have hd : ((s.extract 7 (7 + n)).toList == (baL (leB 4 opn.length)).toList) = true := by rw [HT.out, hto]; simp
              have HRUN : Hid (runL rdC first i ⟨P.map (·.l), opn, u⟩ ((bytesOf l).drop i) = runL rdC first (i + 1) ⟨P.map (·.l) ++ [opn], [], i + 1⟩ ((bytesOf l).drop (i + 1))) := by
                show _ = _
                rw [HDR.out]
                simp [runL, stepL, HSO.out, k99, hto]
              have hP : P.length ≤ 60 := by have := HR2.out.few; omega
              clear hto k99
              generalize baL (leB 4 opn.length) = Y at *
              go_wp2_with fail
              refine Calls.mono KC.out ?_
              rintro e W3 ⟨rfl, hb⟩
              have HRA : Hid (∀ o, ClMid w (W3.alloc o) l first i u base u6 (.slice oa opn.length oc) P opn) := fun o => HR2.out.go (hb.alloc hb.size o)
              clear hb HR2 KC some2
              have HLO : Hid (∀ o, w.heap.size ≤ (W3.alloc o).heap.size) := fun o => (HRA.out o).below.size
              go_wp2_with (at_builtin; refine wpList_append_own _ rfl _ _ 88 rfl w.heap.size 24 i0 _ 1 24 (by kernel_rfl) hif hz0 hz1 hz2 rfl (by decide) u6 P.length (P.map PartC.v) rfl (HRA.out _).ds.row ⟨W3.heap.size, 0, none⟩ 1 1 [.slice oa opn.length oc] rfl rfl (cell_one_new _ _ _) (one_oneV _ _ _) (by unfold maxLen; omega) (by omega) (HLO.out _) ?_; intro v' w4 hown4 hgrow4 hnil4; obtain ⟨xa, xc, rfl⟩ := row_shape hown4; have HA : Hid _ := (HRA.out _).close hgrow4 hown4 HRUN.out; clear hown4 hgrow4 hnil4)
              go_roundg (l.length - (i + 1))
              case measure => omega
              case rel => exact ⟨i + 1, i + 1, _, P ++ [⟨oa, oc, opn⟩], [], by go_num, by go_num, by omega, Nat.le_refl _, HA⟩
            · have hd : ((s.extract 7 (7 + n)).toList == (baL (leB 4 opn.length)).toList) = false := by
                rw [beq_eq_false_iff_ne, HT.out, ba_toList, ba_toList]
                exact fun h => hto h
              have HSTOP : Hid (∀ W, Below W2.heap.size W2 W → ClosedEnd w l first (.returned (.tuple #[u6, .int .i64 u])) W) := fun W hb => (HR2.out.go hb).stop hi (by
                rw [HDR.out]
                simp [runL, stepL, HSO.out, k99, hto])
              clear hto k99
              generalize baL (leB 4 opn.length) = Y at *
              go_wp2_with fail
              refine Calls.mono KC.out ?_
              rintro e W3 ⟨rfl, hb⟩
              have HB : Hid _ := hb
              clear hb
              go_wp2
              go_ret2
              exact HSTOP.out _ HB.out
          · have hk99 : ((byteAt s 0 : Int) == 99) = false := by
              rw [beq_eq_false_iff_ne, HBK.out]
              intro h
              exact k99 (UInt8.toNat_inj.1 (by have e : (99 : UInt8).toNat = 99 := rfl; omega))
            by_cases k111 : k = 111
            · have hk1 : ((byteAt s 0 : Int) != 111) = false := by rw [HBK.out, k111]; rfl
              have kp := fun W => changeOf_any (s.extract 7 (7 + n)) W (by omega)
              cases hrd : readC (s.extract 7 (7 + n)) with
              | none =>
                rw [hrd, partsN_none hrd] at kp
                have KP : Hid (∀ W, Calls _ _ _ W _) := kp
                have hrd2 : rdC t = none := by unfold rdC; rw [← HT.out]; exact hrd
                have HSTOP : Hid (∀ W, Below W2.heap.size W2 W → ClosedEnd w l first (.returned (.tuple #[u6, .int .i64 u])) W) := fun W hb => (HR2.out.go hb).stop hi (by
                  rw [HDR.out]
                  simp [runL, stepL, HSO.out, k111, hrd2])
                clear kp k99 k111 hrd hrd2
                go_wp2_with fail
                refine Calls.mono (KP.out _) ?_
                rintro e W3 ⟨rfl, hb⟩
                have HB : Hid _ := hb
                clear hb
                go_wp2
                go_ret2
                exact HSTOP.out _ (HB.out.alloc HB.out.size _)
              | some c =>
                rw [hrd, partsN_some hrd] at kp
                simp only [Option.getD_some] at kp
                have KP : Hid (∀ W, Calls _ _ _ W _) := kp
                have hrd2 : rdC t = some c := by unfold rdC; rw [← HT.out]; exact hrd
                have HRUN : Hid (runL rdC first i ⟨P.map (·.l), opn, u⟩ ((bytesOf l).drop i) = runL rdC first (i + 1) ⟨P.map (·.l), opn ++ [c], u⟩ ((bytesOf l).drop (i + 1))) := by
                  show _ = _
                  rw [HDR.out]
                  simp [runL, stepL, HSO.out, k111, hrd2]
                have hO : opn.length ≤ 60 := by have := HR2.out.few; omega
                clear kp k99 k111 hrd hrd2
                go_wp2_with fail
                refine Calls.mono (KP.out W2) ?_
                rintro en w3 ⟨rfl, hb⟩
                have HR3 : Hid _ := HR2.out.go hb
                have HRA : Hid (∀ o o', ClMid w ((w3.alloc o).alloc o') l first i u base u6 (.slice oa opn.length oc) P opn) := fun o o' => (HR3.out.go ((Below.refl _ _).alloc (Nat.le_refl _) o)).go ((Below.refl _ _).alloc (Nat.le_refl _) o')
                have HLO : Hid (∀ o o', base ≤ ((w3.alloc o).alloc o').heap.size) := fun o o' => (HRA.out o o').ds.base.2
                clear hb KP HR2
                go_wp2_with (at_builtin; refine wpList_append_own _ rfl _ _ 24 rfl base 73 j0 _ 3 40 (by kernel_rfl) hjf jz0 jz1 jz2 rfl (by decide) (.slice oa opn.length oc) opn.length (flatC opn) rfl (HRA.out _ _).ds.opn ⟨w3.heap.size + 1, 0, none⟩ 1 1 [.string c.key, .string c.val, .bool c.gone] rfl rfl (three_at _ _ _ _ (by simp)) (threeC_one _) (by unfold maxLen; omega) (by omega) (HLO.out _ _) ?_; intro v' w4 hown4 hgrow4 hnil4; obtain ⟨xa, xc, rfl⟩ := row_shape hown4; have HA : Hid _ := (HRA.out _ _).more hgrow4 (OwnsC.snoc hown4) HRUN.out; clear hown4 hgrow4 hnil4)
                go_roundg (l.length - (i + 1))
                case measure => omega
                case rel => exact ⟨i + 1, u, base, P, opn ++ [c], by go_num, rfl, by omega, Nat.le_refl _, HA⟩
            · have hk1 : ((byteAt s 0 : Int) != 111) = true := by
                rw [bne_iff_ne, HBK.out]
                intro h
                exact k111 (UInt8.toNat_inj.1 (by have e : (111 : UInt8).toNat = 111 := rfl; omega))
              have HSTOP : Hid (∀ W, Below W2.heap.size W2 W → ClosedEnd w l first (.returned (.tuple #[u6, .int .i64 u])) W) := fun W hb => (HR2.out.go hb).stop hi (by
                rw [HDR.out]
                simp [runL, stepL, HSO.out, k99, k111])
              clear k99 k111
              go_wp2
              go_ret2
              exact HSTOP.out _ (Below.refl _ _)
        · have HSTOP : Hid (∀ W, Below W1.heap.size W1 W → ClosedEnd w l first (.returned (.tuple #[u6, .int .i64 u])) W) := fun W hb => (HR1.out.go hb).stop hi (by
            rw [HDR.out]
            have : secOf (first + i) s.data.toList = none := by unfold secOf; rw [if_neg (by rw [HLE.out]; exact fun h => h33 h.2)]
            simp [runL, stepL, this])
          have hgt : decide ((33 : Int) < (n : Int)) = true := decide_eq_true (by omega)
          clear hnl hnum
          generalize baL (leB 4 (first + i)) = Z at *
          go_wp2_with fail
          refine wp_region_later (by kernel_rfl) (by kernel_rfl) ?_
          repeat (go_big_quiet_step ((go_at_call 89; exact later_of _ (KF.out _))))
          refine wpQuiet_nil ?_
          rintro _ ⟨p, rfl⟩
          go_wp2
          go_ret2
          exact HSTOP.out _ p.h
      · have hd : ((s.extract 1 5).toList == (baL (leB 4 (first + i))).toList) = false := by
          rw [beq_eq_false_iff_ne]
          exact fun h => hnum (toList_inj h)
        have HSTOP : Hid (∀ W, Below W1.heap.size W1 W → ClosedEnd w l first (.returned (.tuple #[u6, .int .i64 u])) W) := fun W hb => (HR1.out.go hb).stop hi (by
          rw [HDR.out]
          have : secOf (first + i) s.data.toList = none := by
            unfold secOf
            rw [if_neg (fun h => hnum (by
              apply ByteArray.ext
              apply Array.toList_inj.1
              rw [extract_list]
              simpa [baL] using h.1))]
          simp [runL, stepL, this])
        clear hnum
        generalize baL (leB 4 (first + i)) = Z at *
        go_wp2_with fail
        refine wp_region_later (by kernel_rfl) (by kernel_rfl) ?_
        repeat (go_big_quiet_step ((go_at_call 89; exact later_of _ (KF.out _))))
        refine wpQuiet_nil ?_
        rintro _ ⟨p, rfl⟩
        go_wp2
        go_ret2
        exact HSTOP.out _ p.h
    · have HSTOP : Hid (ClosedEnd w l first (.returned (.tuple #[u6, .int .i64 u])) wr) := HR.out.stop hi (by rw [List.drop_eq_nil_of_le (by simp [bytesOf]; omega)]; rfl)
      go_wp2
      go_ret2
      exact HSTOP.out
end Go.Proofs.Ytihnghnafpgdfab
namespace Go.Proofs.Ytihnghnafpgdfab
open Go.RowKit Go.BigFrame
set_option linter.unusedVariables false
set_option linter.unusedSimpArgs false

theorem partV_one (P : List PartC) : ∀ u ∈ P.map PartC.v, u.oneCell' = true := by
  intro u hu
  obtain ⟨q, _, rfl⟩ := List.mem_map.1 hu
  exact one_oneV q.a q.l.length q.cap _ (by simp [PartC.v])
theorem wp_copyD {lo : Nat} {o : Oper} {act : Act} {K : Act → World → Prop} {Q : Exit → Act → World → Prop} (s x : Operand)
    (ho : o.op = .call { callee := .builtin .append, args := #[s, x], argTypes := #[88, 88] })
    (W : World) (a : Option Addr) (cap : Nat) (P : List PartC) (hl : P.length ≤ 1000) (hd : Deeds lo W a cap P) (hs : act.eval s = .slice none 0 0) (hx : act.eval x = .slice a P.length cap)
    (h : ∀ v' w', w'.ownsRow W.heap.size 24 1 v' P.length (P.map PartC.v) → Below W.heap.size W w' → K (act.put o.dst v') w') : o.wp Try.prog act W K Q := by
  obtain ⟨i0, hi, hz0, hz1, hz2⟩ := info_parts Try.infoChanges
  have hown : W.ownsRow W.heap.size 24 1 (.slice none 0 0) 0 [] := World.ownsRow_nil _ _ _ _
  cases a with
  | none =>
    have e : P = [] := by
      cases P with
      | nil => rfl
      | cons g r => obtain ⟨_, _, e, _⟩ := hd.cell 0 (by simp); cases e
    subst e
    have e := hd.nil rfl
    subst e
    have hrun := run_append_owned_none (P := Try.prog) (w := W) W.heap.size 88 o.type 24 i0 1 (by kernel_rfl) hi _ _ _ hown
    unfold Oper.wp execOp
    simp only [List.length_nil] at hx
    simp only [ho, resolve, invoke, builtin, Sem.run_bind, Sem.run_pure, Result.andThen_ok, List.map_toArray, List.map_cons, List.map_nil, hs, hx, hrun]
    exact h _ _ hown (Below.refl _ _)
  | some p =>
    have hcells : ∀ q u, (P.map PartC.v)[q]? = some u → W.cell? (p.add q) = some u := by
      intro q u hu
      rw [List.getElem?_map] at hu
      have hq : q < P.length := by
        by_cases hq : q < P.length
        · exact hq
        · rw [List.getElem?_eq_none (by omega)] at hu; cases hu
      rw [List.getElem?_eq_getElem hq] at hu
      simp at hu
      subst hu
      obtain ⟨b, off, e, h1, _⟩ := hd.cell q hq
      rw [Option.some.inj e, addr_add]
      exact h1
    refine wp_append_new s x 88 ho W.heap.size 24 i0 _ 1 24 (by kernel_rfl) hi hz0 hz1 hz2 rfl (by decide) _ _ _ hs hown p P.length cap (P.map PartC.v) hx (by simp) hcells (partV_one P) (by unfold maxLen; simp; omega) (by simp; omega) (Nat.le_refl _) ?_
    intro v' w' hown' hgrow hnew
    refine h v' w' ?_ ((Below.refl _ _).grown hgrow (Nat.le_refl _) (fun q hq => (hown.lt q hq).1))
    simpa using hown'
theorem ownsRow_low {w : World} {B B' : Nat} {T : TypeId} {size n : Nat} {v : Value} {xs : List Value} (h : w.ownsRow B T size v n xs) (hB : B' ≤ B) : w.ownsRow B' T size v n xs := by
  refine ⟨h.1, ?_⟩
  rcases h.2 with h0 | ⟨g, cap, cur, e, hg, rest⟩
  · exact .inl h0
  · exact .inr ⟨g, cap, cur, e, by omega, rest⟩
theorem copied_row {w7 W' w9 : World} {v : Value} {n : Nat} {xs : List Value} (ho : w9.ownsRow W'.heap.size 24 1 v n xs) (hb : w7.heap.size ≤ W'.heap.size) : w9.ownsRow w7.heap.size 24 1 v n xs ∧ ∀ o, (w9.alloc o).ownsRow w7.heap.size 24 1 v n xs := by
  have h := ownsRow_low ho hb
  exact ⟨h, fun o => ownsRow_far h (fun k hk => ((Below.refl w9.heap.size w9).alloc (Nat.le_refl _) o).block k (h.lt k hk).2)⟩
theorem copied_more {w7 W9 w10 : World} {v : Value} {n : Nat} {xs : List Value} (hb : Below w7.heap.size w7 W9) (ho : W9.ownsRow w7.heap.size 24 1 v n xs) (hg : W9.grownBy w10 v.ownBlock) : Below w7.heap.size w7 w10 := hb.grown hg hb.size (fun k hk => (ho.lt k hk).1)
theorem below_cell_one {w7 w9 : World} {v : Value} {T : TypeId} (hb : Below (w7.drew.alloc (.cells #[v] T)).heap.size (w7.drew.alloc (.cells #[v] T)) w9) : ∀ j u, [v][j]? = some u → w9.cell? ((⟨w7.heap.size, 0, none⟩ : Addr).add j) = some u := fun j u hu => by
  have h := cell_one_new w7.drew v T j u hu
  have e : (⟨w7.drew.heap.size, 0, none⟩ : Addr).add j = ⟨w7.heap.size, 0 + j, none⟩ := addr_add _ _ _
  rw [e] at h
  rw [addr_add]
  rw [hb.cell (World.block_lt_of_cell? _ _ h)]
  exact h
/-- Deeds and one more, in a row of its own. -/
theorem Deeds.one {lo B : Nat} {w : World} {a : Option Addr} {cap : Nat} {P : List PartC} {q : PartC} (h : w.ownsRow B 24 1 (.slice a (P.length + 1) cap) (P.length + 1) (P.map PartC.v ++ [q.v])) (hp : ∀ r ∈ P, PartS lo w r) (hq : PartS lo w q) (hf : ∀ r ∈ P, r.l.length ≤ 1000) (hqf : q.l.length ≤ 1000) : Deeds lo w a cap (P ++ [q]) := by
  refine deeds_row (B := B) ?_ (fun r hr => ?_) (fun r hr => ?_)
  · rw [List.length_append, List.map_append]
    exact h
  · rcases List.mem_append.1 hr with hr | hr
    · exact hp r hr
    · simp at hr; subst hr; exact hq
  · rcases List.mem_append.1 hr with hr | hr
    · exact hf r hr
    · simp at hr; subst hr; exact hqf
end Go.Proofs.Ytihnghnafpgdfab
