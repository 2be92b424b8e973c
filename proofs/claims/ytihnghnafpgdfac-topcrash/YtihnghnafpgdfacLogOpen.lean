/-
  A LOG IN MEMORY; its small functions: number, count, written, sector, Room, Next, New.
  A LOG: sector, Room, Next, New.
  DEEDS IN MEMORY: a row of slices of changes; what a log gathers as it is read.
  A LOG IS READ: deeds.
  A LOG IS OPENED.
-/
import Derived.Test.YtihnghnafpgdfacNumbers
import Derived.Test.YtihnghnafpgdfacLater
import Derived.Test.YtihnghnafpgdfacRowParse
import Derived.Test.YtihnghnafpgdfacLogFall
namespace Go.Proofs.Ytihnghnafpgdfac
open Go.RowKit Go.BigFrame
set_option linter.unusedVariables false
set_option linter.unusedSimpArgs false

structure Lg where
  dB : Nat
  start : Nat
  many : Nat
  first : Nat
  used : Nat
def LogAt (w : World) (b : Nat) (g : Lg) : Prop := w.heap[b]? = some (.cells #[.pointer (some ⟨g.dB, 0, none⟩), .int .i64 g.start, .int .i64 g.many, .int .i64 g.first, .int .i64 g.used] 105 (0, 0))
structure LgOk (g : Lg) : Prop where
  start : g.start + g.many ≤ 60
  first : g.first ≤ 4000000
  used : g.used ≤ g.many
theorem LogAt.cells {w : World} {b : Nat} {g : Lg} (h : LogAt w b g) : w.cell? ⟨b, 0, none⟩ = some (.pointer (some ⟨g.dB, 0, none⟩)) ∧ w.cell? ⟨b, 1, none⟩ = some (.int .i64 g.start) ∧ w.cell? ⟨b, 2, none⟩ = some (.int .i64 g.many) ∧ w.cell? ⟨b, 3, none⟩ = some (.int .i64 g.first) ∧ w.cell? ⟨b, 4, none⟩ = some (.int .i64 g.used) :=
  ⟨by rw [cell_block h]; rfl, by rw [cell_block h]; rfl, by rw [cell_block h]; rfl, by rw [cell_block h]; rfl, by rw [cell_block h]; rfl⟩
theorem LogAt.lt {w : World} {b : Nat} {g : Lg} (h : LogAt w b g) : b < w.heap.size := (Array.getElem?_eq_some_iff.1 h).1
theorem LogAt.below {w w' : World} {b : Nat} {g : Lg} (h : LogAt w b g) (hb : Below w.heap.size w w') : LogAt w' b g := by
  have hl := h.lt
  unfold LogAt at h ⊢; rw [hb.block b hl]; exact h

set_option maxRecDepth 100000 in
theorem logNumber_any (b : Nat) (g : Lg) (i : Nat) (w : World) (h : LogAt w b g) (hf : g.first ≤ 4000000) (hi : i ≤ 1000) :
    Calls Try.prog 108 #[.pointer (some ⟨b, 0, none⟩), .int .i64 i] w fun e w' => e = .returned (.string (baL (leB 4 (g.first + i)))) ∧ Below w.heap.size w w' := by
  obtain ⟨c0, c1, c2, c3, c4⟩ := h.cells
  have kn := numBytes_any (g.first + i) 4 w (by omega) (by omega)
  rw [show ((g.first + i : Nat) : Int) = (g.first : Int) + (i : Int) by omega] at kn
  have KN : Hid _ := kn
  clear kn h
  go_enter Try.func108, Try.ntmps108
  go_wp2_with fail
  refine Calls.mono KN.out ?_
  rintro e w1 ⟨rfl, hb⟩
  have HB : Hid _ := hb
  clear hb
  go_wp2
  go_ret
  exact ⟨rfl, HB.out⟩

set_option maxRecDepth 100000 in
theorem logCount_any (n : Nat) (w : World) (hn : n ≤ 1000000) :
    Calls Try.prog 93 #[.int .i64 n] w fun e w' => e = .returned (.string (baL (leB 4 n))) ∧ Below w.heap.size w w' := by
  have KN : Hid _ := numBytes_any n 4 w (by omega) (by omega)
  go_enter Try.func93, Try.ntmps93
  go_wp2_with fail
  refine Calls.mono KN.out ?_
  rintro e w1 ⟨rfl, hb⟩
  have HB : Hid _ := hb
  clear hb
  go_wp2
  go_ret
  exact ⟨rfl, HB.out⟩

theorem ba_len (s : ByteArray) : s.data.toList.length = s.size := by rw [Array.length_toList]; rfl
theorem extract_list (s : ByteArray) (a b : Nat) : (s.extract a b).data.toList = (s.data.toList.drop a).take (b - a) := by
  rw [ByteArray.data_extract, Array.toList_extract, List.extract_eq_take_drop]
/-- What 'written' answers. -/
def writtenL (num : Nat) (s : List UInt8) : ByteArray × ByteArray := match secOf num s with
  | some (k, t) => (⟨#[k]⟩, baL t)
  | none => (⟨#[]⟩, ⟨#[]⟩)
theorem ba_toList (s : ByteArray) : s.toList = s.data.toList := ByteArray.toList_eq s

set_option maxRecDepth 100000 in
set_option maxHeartbeats 1000000 in
theorem logWritten_any (b : Nat) (g : Lg) (i : Nat) (s : ByteArray) (w : World) (h : LogAt w b g) (hf : g.first ≤ 4000000) (hi : i ≤ 1000) (hs : s.size = 40) :
    Calls Try.prog 97 #[.pointer (some ⟨b, 0, none⟩), .int .i64 i, .string s] w fun e w' => e = .returned (.tuple #[.string (writtenL (g.first + i) s.data.toList).1, .string (writtenL (g.first + i) s.data.toList).2]) ∧ Below w.heap.size w w' := by
  have HL : Hid (LogAt w b g) := h
  clear h
  have hz : (s.extract 5 7).size = 2 := by simp [ByteArray.size_extract]; omega
  have ko := fun W => numOf_any (s.extract 5 7) W hz
  rw [extract_list] at ko
  have hlt := ofLE_lt ((s.data.toList.drop 5).take (7 - 5))
  have hl2 : ((s.data.toList.drop 5).take (7 - 5)).length = 2 := by rw [List.length_take, List.length_drop, ba_len, hs]; rfl
  rw [hl2] at hlt
  obtain ⟨n, hn⟩ : ∃ n, n = ofLE ((s.data.toList.drop 5).take (7 - 5)) := ⟨_, rfl⟩
  rw [← hn] at ko hlt
  have HN : Hid _ := hn
  have KO : Hid (∀ W, Calls _ _ _ W _) := ko
  clear ko hn hl2 hz
  have some' := Later.ne w
  have KN : Hid (∀ p : Later w, Calls Try.prog 108 #[.pointer (some ⟨b, 0, none⟩), .int .i64 i] p.W fun e w' => e = .returned (.string (baL (leB 4 (g.first + i)))) ∧ Below p.W.heap.size p.W w') := fun p => logNumber_any b g i p.W (HL.out.below p.h) hf hi
  by_cases hnum : (s.extract 1 5) = baL (leB 4 (g.first + i))
  · have hd : ((s.extract 1 5).toList != (baL (leB 4 (g.first + i))).toList) = false := by rw [hnum]; simp
    have hnl : (s.data.toList.drop 1).take 4 = leB 4 (g.first + i) := by
      have := congrArg (fun x => x.data.toList) hnum
      simp only [extract_list] at this
      simpa [baL] using this
    by_cases h33 : n ≤ 33
    · have HW : Hid (writtenL (g.first + i) s.data.toList = (s.extract 0 1, s.extract 7 (7 + n))) := by
        show _ = _
        unfold writtenL secOf
        have hn2 : ofLE ((s.data.toList.drop 5).take 2) = n := HN.out.symm
        rw [if_pos ⟨hnl, by rw [hn2]; exact h33⟩, hn2]
        simp only [Prod.mk.injEq]
        refine ⟨?_, ?_⟩
        · apply ByteArray.ext
          apply Array.toList_inj.1
          rw [extract_list]
          have hs2 : s.data.toList.length = 40 := by rw [ba_len, hs]
          match hm : s.data.toList, hs2 with
          | c :: r, _ => simp
        · apply ByteArray.ext
          apply Array.toList_inj.1
          rw [extract_list]
          simp [baL, show 7 + n - 7 = n by omega]
      have hgt : decide ((33 : Int) < (n : Int)) = false := decide_eq_false (by omega)
      clear hnl
      generalize baL (leB 4 (g.first + i)) = Z at *
      go_enter Try.func97, Try.ntmps97
      go_wp2_with fail
      refine Calls.mono (KO.out _) ?_
      rintro e w1 ⟨rfl, hw⟩
      rw [hw]
      clear hw w1
      go_wp2_with fail
      refine wp_region_later (by kernel_rfl) (by kernel_rfl) ?_
      repeat (go_big_quiet_step ((go_at_call 108; exact later_of _ (KN.out _))))
      refine wpQuiet_nil ?_
      rintro _ ⟨p, rfl⟩
      go_wp2_with fail
      obtain ⟨W2, hW2⟩ : ∃ u, u = p.W := ⟨_, rfl⟩
      have H2 : Hid (Below w.heap.size w W2) := by rw [hW2]; exact p.h
      rw [← hW2]
      clear hW2 p
      have some2 := Later.ne W2
      refine wp_region_later (by kernel_rfl) (by kernel_rfl) ?_
      repeat (go_big_quiet_step (fail))
      refine wpQuiet_nil ?_
      rintro _ ⟨p, rfl⟩
      go_wp2
      go_ret2
      rw [HW.out]
      exact ⟨rfl, H2.out.trans (p.h.mono H2.out.size)⟩
    · have HW : Hid (writtenL (g.first + i) s.data.toList = (⟨#[]⟩, ⟨#[]⟩)) := by
        show _ = _
        unfold writtenL secOf
        have hn2 : ofLE ((s.data.toList.drop 5).take 2) = n := HN.out.symm
        rw [if_neg (by rw [hn2]; exact fun h => h33 h.2)]
      have hgt : decide ((33 : Int) < (n : Int)) = true := decide_eq_true (by omega)
      clear hnl
      generalize baL (leB 4 (g.first + i)) = Z at *
      go_enter Try.func97, Try.ntmps97
      go_wp2_with fail
      refine Calls.mono (KO.out _) ?_
      rintro e w1 ⟨rfl, hw⟩
      rw [hw]
      clear hw w1
      go_wp2_with fail
      refine wp_region_later (by kernel_rfl) (by kernel_rfl) ?_
      repeat (go_big_quiet_step ((go_at_call 108; exact later_of _ (KN.out _))))
      refine wpQuiet_nil ?_
      rintro _ ⟨p, rfl⟩
      go_wp2
      go_ret2
      rw [HW.out]
      exact ⟨rfl, p.h⟩
  · have hd : ((s.extract 1 5).toList == (baL (leB 4 (g.first + i))).toList) = false := by
      rw [beq_eq_false_iff_ne]
      exact fun h => hnum (toList_inj h)
    have HW : Hid (writtenL (g.first + i) s.data.toList = (⟨#[]⟩, ⟨#[]⟩)) := by
      show _ = _
      unfold writtenL secOf
      rw [if_neg (fun h => hnum (by
        apply ByteArray.ext
        apply Array.toList_inj.1
        rw [extract_list]
        simpa [baL] using h.1))]
    have HNN : Hid _ := hnum
    clear hnum
    generalize baL (leB 4 (g.first + i)) = Z at *
    go_enter Try.func97, Try.ntmps97
    go_wp2_with fail
    refine Calls.mono (KO.out _) ?_
    rintro e w1 ⟨rfl, hw⟩
    rw [hw]
    clear hw w1
    go_wp2_with fail
    refine wp_region_later (by kernel_rfl) (by kernel_rfl) ?_
    repeat (go_big_quiet_step ((go_at_call 108; exact later_of _ (KN.out _))))
    refine wpQuiet_nil ?_
    rintro _ ⟨p, rfl⟩
    go_wp2
    go_ret2
    rw [HW.out]
    exact ⟨rfl, p.h⟩
end Go.Proofs.Ytihnghnafpgdfac
namespace Go.Proofs.Ytihnghnafpgdfac
open Go.RowKit Go.BigFrame
set_option linter.unusedVariables false
set_option linter.unusedSimpArgs false

set_option maxRecDepth 100000 in
theorem logRoom_any (b : Nat) (g : Lg) (w : World) (h : LogAt w b g) (hg : LgOk g) :
    Calls Try.prog 34 #[.pointer (some ⟨b, 0, none⟩)] w fun e w' => e = .returned (.int .i64 ((g.many - g.used : Nat) : Int)) ∧ ∃ n, w' = w.drewN n := by
  obtain ⟨c0, c1, c2, c3, c4⟩ := h.cells
  have h1 := hg.start
  have h2 := hg.used
  have HE : Hid (((g.many - g.used : Nat) : Int) = (g.many : Int) - (g.used : Int)) := by show _ = _; omega
  clear h hg
  go_enter Try.func34, Try.ntmps34
  go_wp2_with fail
  go_quiet (fail)
  go_wp2
  go_ret
  rw [HE.out]
  exact ⟨rfl, _, rfl⟩

set_option maxRecDepth 100000 in
theorem logNew_any (dB start many first : Nat) (w : World) :
    Calls Try.prog 39 #[.pointer (some ⟨dB, 0, none⟩), .int .i64 start, .int .i64 many, .int .i64 first] w fun e w' => e = .returned (.pointer (some ⟨w.heap.size, 0, none⟩)) ∧ LogAt w' w.heap.size ⟨dB, start, many, first, 0⟩ ∧ Below w.heap.size w w' := by
  go_enter Try.func39, Try.ntmps39
  go_wp2
  go_ret
  exact ⟨rfl, heap_alloc_new w _, (Below.refl _ _).alloc (Nat.le_refl _) _⟩

theorem baL_append (a b : List UInt8) : baL a ++ baL b = baL (a ++ b) := by
  apply ByteArray.ext
  simp [baL, ByteArray.data_append]
set_option maxRecDepth 100000 in
set_option maxHeartbeats 1000000 in
theorem logSector_any (b : Nat) (g : Lg) (i : Nat) (k : UInt8) (data : List UInt8) (w : World) (h : LogAt w b g) (hf : g.first ≤ 4000000) (hi : i ≤ 1000) (hd : data.length ≤ 100) :
    Calls Try.prog 92 #[.pointer (some ⟨b, 0, none⟩), .int .i64 i, .string ⟨#[k]⟩, .string (baL data)] w fun e w' => e = .returned (.string (baL (secL k (g.first + i) data))) ∧ Below w.heap.size w w' := by
  have HL : Hid (LogAt w b g) := h
  have hz1 : (⟨#[k]⟩ : ByteArray).size = 1 := rfl
  have hz2 : (baL (leB 4 (g.first + i))).size = 4 := by rw [baL_size, leB_length]
  have hz3 : (baL data).size = data.length := baL_size data
  have hz4 : (baL (leB 2 data.length)).size = 2 := by rw [baL_size, leB_length]
  have HJ : Hid ((⟨#[k]⟩ : ByteArray) ++ baL (leB 4 (g.first + i)) ++ baL (leB 2 data.length) ++ baL data = baL (secL k (g.first + i) data)) := by
    show _ = _
    rw [show (⟨#[k]⟩ : ByteArray) = baL [k] from rfl, baL_append, baL_append, baL_append]
    congr 1
  have KN : Hid _ := logNumber_any b g i w h hf hi
  have KB : Hid (∀ W, Calls Try.prog 78 #[.int .u64 data.length, .int .i64 2] W fun e w' => e = .returned (.string (baL (leB 2 data.length))) ∧ Below W.heap.size W w') := fun W => numBytes_any data.length 2 W (by omega) (by omega)
  clear h
  generalize baL (leB 4 (g.first + i)) = Z at *
  generalize baL (leB 2 data.length) = Y at *
  generalize baL (secL k (g.first + i) data) = R at *
  generalize hX : baL data = X at *
  generalize hK1 : (⟨#[k]⟩ : ByteArray) = K1 at *
  go_enter Try.func92, Try.ntmps92
  go_wp2_with fail
  refine Calls.mono KN.out ?_
  rintro e w1 ⟨rfl, hb⟩
  have HB1 : Hid (Below w.heap.size w w1) := hb
  clear hb KN
  go_wp2_with fail
  refine Calls.mono (KB.out w1) ?_
  rintro e w2 ⟨rfl, hb⟩
  have HB2 : Hid (Below w.heap.size w w2) := HB1.out.trans (hb.mono HB1.out.size)
  clear hb KB HB1
  have hz5 : (K1 ++ Z).size = 5 := by rw [ByteArray.size_append, hz1, hz2]
  have hz6 : (K1 ++ Z ++ Y).size = 7 := by rw [ByteArray.size_append, hz5, hz4]
  go_wp2
  go_ret
  rw [HJ.out]
  exact ⟨rfl, HB2.out⟩
end Go.Proofs.Ytihnghnafpgdfac
namespace Go.Proofs.Ytihnghnafpgdfac
open Go.RowKit Go.BigFrame
set_option linter.unusedVariables false
set_option linter.unusedSimpArgs false

/-- Nothing but these blocks, and what is new, has turned. -/
structure Touch (S : Nat → Prop) (w w' : World) : Prop where
  os : w'.os = w.os
  tape : w'.tape = w.tape
  output : w'.output = w.output
  size : w.heap.size ≤ w'.heap.size
  block : ∀ k, k < w.heap.size → ¬ S k → w'.heap[k]? = w.heap[k]?
theorem Touch.refl (S : Nat → Prop) (w : World) : Touch S w w := ⟨rfl, rfl, rfl, Nat.le_refl _, fun _ _ _ => rfl⟩
theorem Touch.trans {S : Nat → Prop} {a b c : World} (h : Touch S a b) (k : Touch S b c) : Touch S a c :=
  ⟨k.os.trans h.os, k.tape.trans h.tape, k.output.trans h.output, Nat.le_trans h.size k.size, fun i hi hn => (k.block i (Nat.lt_of_lt_of_le hi h.size) hn).trans (h.block i hi hn)⟩
theorem Touch.of_below {S : Nat → Prop} {w w' : World} (h : Below w.heap.size w w') : Touch S w w' := ⟨h.os, h.tape, h.output, h.size, fun k hk _ => h.block k hk⟩
theorem Touch.below {S : Nat → Prop} {w w' : World} {C : Nat} (h : Touch S w w') (hS : ∀ k, S k → C ≤ k) (hC : C ≤ w.heap.size) : Below C w w' :=
  ⟨h.os, h.tape, h.output, h.size, fun k hk => h.block k (by omega) (fun e => by have := hS k e; omega)⟩

theorem Try.infoChanges : (Try.prog.info? 30).map (fun i => (i.zero, i.size, i.bytes)) = some (some (.slice none 0 0), 1, 24) := by kernel_rfl

/-- Deeds in memory of one's own, and the one that is open. -/
structure DS (w : World) (lo base : Nat) (vd vo : Value) (P : List PartC) (opn : List Ch) : Prop where
  row : w.ownsRow lo 30 1 vd P.length (P.map PartC.v)
  parts : ∀ p ∈ P, w.ownsRow lo 66 3 p.v p.l.length (flatC p.l)
  low : ∀ p ∈ P, ∀ g, p.v.ownBlock = some g → g < base
  opn : OwnsC w base vo opn
  base : lo ≤ base ∧ base ≤ w.heap.size
theorem DS.far {w w' : World} {lo base : Nat} {vd vo : Value} {P : List PartC} {opn : List Ch} (h : DS w lo base vd vo P opn) (hs : w.heap.size ≤ w'.heap.size) (hk : ∀ k C T fr, lo ≤ k → w.heap[k]? = some (.cells C T fr) → (T = 30 ∨ T = 66) → w'.heap[k]? = w.heap[k]?) : DS w' lo base vd vo P opn := by
  refine ⟨ownsRow_far h.row (fun g hg => ?_), fun p hp => ownsRow_far (h.parts p hp) (fun g hg => ?_), h.low, ownsRow_far h.opn (fun g hg => ?_), h.base.1, Nat.le_trans h.base.2 hs⟩
  · obtain ⟨c, f, e⟩ := Lib.ownsRow_kind h.row g hg
    exact hk g c _ f (h.row.lt g hg).1 e (.inl rfl)
  · obtain ⟨c, f, e⟩ := Lib.ownsRow_kind (h.parts p hp) g hg
    exact hk g c _ f ((h.parts p hp).lt g hg).1 e (.inr rfl)
  · obtain ⟨c, f, e⟩ := Lib.ownsRow_kind h.opn g hg
    exact hk g c _ f (Nat.le_trans h.base.1 (h.opn.lt g hg).1) e (.inr rfl)
theorem DS.below {w w' : World} {lo base : Nat} {vd vo : Value} {P : List PartC} {opn : List Ch} (h : DS w lo base vd vo P opn) (hb : Below w.heap.size w w') : DS w' lo base vd vo P opn :=
  h.far hb.size (fun k C T fr _ hk _ => hb.block k (Array.getElem?_eq_some_iff.1 hk).1)
/-- A change more in the one that is open. -/
theorem DS.more {w w' : World} {lo base : Nat} {vd vo v : Value} {P : List PartC} {opn : List Ch} {c : Ch} (h : DS w lo base vd vo P opn) (hg : w.grownBy w' vo.ownBlock) (ho : OwnsC w' base v (opn ++ [c])) : DS w' lo base vd v P (opn ++ [c]) := by
  have hk : ∀ k, k < w.heap.size → vo.ownBlock ≠ some k → w'.heap[k]? = w.heap[k]? := fun k hk hne => hg.block k hk (fun e => hne e.symm)
  refine ⟨ownsRow_far h.row (fun g hg' => hk g (h.row.lt g hg').2 (fun e => ?_)), fun p hp => ownsRow_far (h.parts p hp) (fun g hg' => hk g ((h.parts p hp).lt g hg').2 (fun e => ?_)), h.low, ho, h.base.1, Nat.le_trans h.base.2 hg.size⟩
  · obtain ⟨c1, f1, e1⟩ := Lib.ownsRow_kind h.row g hg'
    obtain ⟨c2, f2, e2⟩ := Lib.ownsRow_kind h.opn g e
    rw [e1] at e2; simp at e2
  · have := h.low p hp g hg'
    have := (h.opn.lt g e).1
    omega
/-- The open one is closed. -/
theorem DS.close {w w' : World} {lo base : Nat} {vd v : Value} {oa : Option Addr} {oc : Nat} {P : List PartC} {opn : List Ch} (h : DS w lo base vd (.slice oa opn.length oc) P opn) (hg : w.grownBy w' vd.ownBlock)
    (ho : w'.ownsRow lo 30 1 v (P.length + 1) (P.map PartC.v ++ [.slice oa opn.length oc])) : DS w' lo w'.heap.size v (.slice none 0 0) (P ++ [⟨oa, oc, opn⟩]) [] := by
  have hk : ∀ k, k < w.heap.size → vd.ownBlock ≠ some k → w'.heap[k]? = w.heap[k]? := fun k hk hne => hg.block k hk (fun e => hne e.symm)
  have hne : ∀ (v' : Value) (n : Nat) (xs : List Value) (B : Nat), w.ownsRow B 66 3 v' n xs → ∀ g, v'.ownBlock = some g → vd.ownBlock ≠ some g := fun v' n xs B hv g hg' e => by
    obtain ⟨c1, f1, e1⟩ := Lib.ownsRow_kind h.row g e
    obtain ⟨c2, f2, e2⟩ := Lib.ownsRow_kind hv g hg'
    rw [e1] at e2; simp at e2
  have hop : w'.ownsRow base 66 3 (.slice oa opn.length oc) opn.length (flatC opn) := ownsRow_far h.opn (fun g hg' => hk g (h.opn.lt g hg').2 (hne _ _ _ _ h.opn g hg'))
  refine ⟨?_, ?_, ?_, World.ownsRow_nil _ _ _ _, Nat.le_trans h.base.1 (Nat.le_trans h.base.2 hg.size), Nat.le_refl _⟩
  · rw [List.map_append, List.length_append]
    exact ho
  · intro p hp
    rcases List.mem_append.1 hp with h1 | h1
    · exact ownsRow_far (h.parts p h1) (fun g hg' => hk g ((h.parts p h1).lt g hg').2 (hne _ _ _ _ (h.parts p h1) g hg'))
    · simp at h1
      subst h1
      exact OwnsC.base hop h.base.1
  · intro p hp g hg'
    rcases List.mem_append.1 hp with h1 | h1
    · have := h.low p h1 g hg'
      have := h.base.2
      have := hg.size
      omega
    · simp at h1
      subst h1
      have := (hop.lt g hg').2
      exact this
/-- How a log's bytes are read. -/
def rdC (t : List UInt8) : Option Ch := readC (baL t)
end Go.Proofs.Ytihnghnafpgdfac
namespace Go.Proofs.Ytihnghnafpgdfac
open Go.RowKit Go.BigFrame
set_option linter.unusedVariables false
set_option linter.unusedSimpArgs false

/-- What holds at each sector's head. -/
structure LogMid (w wr : World) (b : Nat) (g : Lg) (p : Dp) (d : Dk) (R : List (List UInt8)) (i u base : Nat) (vd vo : Value) (P : List PartC) (opn : List Ch) : Prop where
  ds : DS wr w.heap.size base vd vo P opn
  log : LogAt wr b { g with used := u }
  disk : DiskAt wr p d
  touch : Touch (fun k => k = b) w wr
  run : runL rdC g.first 0 ⟨[], [], 0⟩ R = runL rdC g.first i ⟨P.map (·.l), opn, u⟩ (R.drop i)
  few : opn.length ≤ i ∧ P.length ≤ i ∧ u ≤ i
theorem LogMid.below {w wr wx : World} {b : Nat} {g : Lg} {p : Dp} {d : Dk} {R : List (List UInt8)} {i u base : Nat} {vd vo : Value} {P : List PartC} {opn : List Ch} (h : LogMid w wr b g p d R i u base vd vo P opn) (hb : Below wr.heap.size wr wx) : LogMid w wx b g p d R i u base vd vo P opn :=
  ⟨h.ds.below hb, h.log.below hb, h.disk.far fun k hk => hb.block k (by
    rcases hk with rfl | rfl | rfl | hk
    · exact (Array.getElem?_eq_some_iff.1 h.disk.blk).1
    · exact (Array.getElem?_eq_some_iff.1 h.disk.now).1
    · exact (Array.getElem?_eq_some_iff.1 h.disk.kept).1
    · exact (h.disk.wr.lt k hk).2), h.touch.trans (Touch.of_below hb), h.run, h.few⟩
theorem secOf_len {num : Nat} {s : List UInt8} {k : UInt8} {t : List UInt8} (h : secOf num s = some (k, t)) : t.length ≤ 33 := by
  unfold secOf at h
  split at h
  · rename_i h1
    simp only [Option.some.injEq, Prod.mk.injEq] at h
    rw [← h.2, List.length_take]
    omega
  · cases h
theorem LogAt.neRow {w : World} {b : Nat} {g : Lg} (h : LogAt w b g) {B n size : Nat} {T : TypeId} {v : Value} {xs : List Value} (hv : w.ownsRow B T size v n xs) (hT : T ≠ 105) : v.ownBlock ≠ some b := fun e => by
  obtain ⟨c, f, e1⟩ := Lib.ownsRow_kind hv b e
  rw [h] at e1
  simp at e1
  exact hT e1.2.1.symm
theorem LogAt.neDisk {w : World} {b : Nat} {g : Lg} {p : Dp} {d : Dk} (h : LogAt w b g) (hd : DiskAt w p d) : b ≠ p.B ∧ b ≠ p.gn ∧ b ≠ p.gk ∧ p.wv.ownBlock ≠ some b := by
  refine ⟨fun e => ?_, fun e => ?_, fun e => ?_, h.neRow hd.wr (by decide)⟩
  · subst e; unfold LogAt at h; rw [hd.blk] at h; simp at h
  · subst e; unfold LogAt at h; rw [hd.now] at h; simp at h
  · subst e; unfold LogAt at h; rw [hd.kept] at h; simp at h
/-- A deed is closed. -/
theorem LogMid.close {w wr w4 : World} {b : Nat} {g : Lg} {p : Dp} {d : Dk} {R : List (List UInt8)} {i u base : Nat} {vd v : Value} {oa : Option Addr} {oc : Nat} {P : List PartC} {opn : List Ch} (h : LogMid w wr b g p d R i u base vd (.slice oa opn.length oc) P opn)
    (hg : wr.grownBy w4 vd.ownBlock) (ho : w4.ownsRow w.heap.size 30 1 v (P.length + 1) (P.map PartC.v ++ [.slice oa opn.length oc]))
    (hrun : runL rdC g.first i ⟨P.map (·.l), opn, u⟩ (R.drop i) = runL rdC g.first (i + 1) ⟨P.map (·.l) ++ [opn], [], i + 1⟩ (R.drop (i + 1))) :
    LogMid w (w4.setCell ⟨b, 4, none⟩ (.int .i64 ((i : Int) + 1))) b g p d R (i + 1) (i + 1) (w4.setCell ⟨b, 4, none⟩ (.int .i64 ((i : Int) + 1))).heap.size v (.slice none 0 0) (P ++ [⟨oa, oc, opn⟩]) [] ∧ w4.cell? ⟨b, 4, none⟩ = some (.int .i64 u) ∧ w4.frozen? ⟨b, 4, none⟩ = false := by
  have hnb := h.log.neRow h.ds.row (by decide)
  have hb4 : w4.heap[b]? = wr.heap[b]? := hg.block b h.log.lt (fun e => hnb e.symm)
  have hs : ∀ k, k ≠ b → (w4.setCell ⟨b, 4, none⟩ (.int .i64 ((i : Int) + 1))).heap[k]? = w4.heap[k]? := fun k hk => Below.heap_setCell w4 ⟨b, 4, none⟩ _ k hk
  obtain ⟨n1, n2, n3, n4⟩ := h.log.neDisk h.disk
  have hdk : ∀ k, (k = p.B ∨ k = p.gn ∨ k = p.gk ∨ p.wv.ownBlock = some k) → w4.heap[k]? = wr.heap[k]? ∧ k ≠ b := fun k hk => by
    have hlt : k < wr.heap.size := by
      rcases hk with rfl | rfl | rfl | hk
      · exact (Array.getElem?_eq_some_iff.1 h.disk.blk).1
      · exact (Array.getElem?_eq_some_iff.1 h.disk.now).1
      · exact (Array.getElem?_eq_some_iff.1 h.disk.kept).1
      · exact (h.disk.wr.lt k hk).2
    refine ⟨hg.block k hlt (fun e => ?_), ?_⟩
    · obtain ⟨c, f, e1⟩ := Lib.ownsRow_kind h.ds.row k e.symm
      rcases hk with rfl | rfl | rfl | hk
      · rw [h.disk.blk] at e1; simp at e1
      · rw [h.disk.now] at e1; simp at e1
      · rw [h.disk.kept] at e1; simp at e1
      · obtain ⟨c2, f2, e2⟩ := Lib.ownsRow_kind h.disk.wr k hk; rw [e1] at e2; simp at e2
    · rcases hk with rfl | rfl | rfl | hk
      · exact Ne.symm n1
      · exact Ne.symm n2
      · exact Ne.symm n3
      · intro e; subst e; exact n4 hk
  have hcl := h.ds.close hg ho
  have hL4 : LogAt w4 b { g with used := u } := by unfold LogAt; rw [hb4]; exact h.log
  refine ⟨⟨?_, ?_, h.disk.far (fun k hk => by rw [hs k (hdk k hk).2, (hdk k hk).1]), ?_, ?_, ?_⟩, ?_, ?_⟩
  · have hsz : (w4.setCell ⟨b, 4, none⟩ (.int .i64 ((i : Int) + 1))).heap.size = w4.heap.size := by simp
    rw [hsz]
    refine hcl.far (Nat.le_of_eq hsz.symm) (fun k C T fr _ hk hT => hs k (fun e => ?_))
    subst e
    unfold LogAt at hL4
    rw [hL4] at hk
    simp at hk
    rcases hT with e | e <;> (rw [e] at hk; simp at hk)
  · have := heap_set hL4 4 (.int .i64 ((i : Int) + 1))
    exact this
  · refine ⟨hg.os.trans h.touch.os, hg.tape.trans h.touch.tape, hg.output.trans h.touch.output, by have := hg.size; have := h.touch.size; simp; omega, fun k hk hn => ?_⟩
    rw [hs k hn, hg.block k (Nat.lt_of_lt_of_le hk h.touch.size) (fun e => by have := (h.ds.row.lt k e.symm).1; omega), h.touch.block k hk hn]
  · rw [h.run, hrun, List.map_append]
    rfl
  · have := h.few; simp; omega
  · rw [World.cell?_of_block (w := wr) (a := ⟨b, 4, none⟩) hb4]; exact h.log.cells.2.2.2.2
  · rw [World.frozen?_of_block (w := wr) (a := ⟨b, 4, none⟩) hb4]; exact frozen_block h.log 4
/-- A change more is read. -/
theorem LogMid.more {w wr w4 : World} {b : Nat} {g : Lg} {p : Dp} {d : Dk} {R : List (List UInt8)} {i u base : Nat} {vd vo v : Value} {P : List PartC} {opn : List Ch} {c : Ch} (h : LogMid w wr b g p d R i u base vd vo P opn)
    (hg : wr.grownBy w4 vo.ownBlock) (ho : OwnsC w4 base v (opn ++ [c])) (hrun : runL rdC g.first i ⟨P.map (·.l), opn, u⟩ (R.drop i) = runL rdC g.first (i + 1) ⟨P.map (·.l), opn ++ [c], u⟩ (R.drop (i + 1))) :
    LogMid w w4 b g p d R (i + 1) u base vd v P (opn ++ [c]) := by
  have hnb := h.log.neRow h.ds.opn (by decide)
  have hb4 : w4.heap[b]? = wr.heap[b]? := hg.block b h.log.lt (fun e => hnb e.symm)
  have hdk : ∀ k, (k = p.B ∨ k = p.gn ∨ k = p.gk ∨ p.wv.ownBlock = some k) → w4.heap[k]? = wr.heap[k]? := fun k hk => by
    have hlt : k < wr.heap.size := by
      rcases hk with rfl | rfl | rfl | hk
      · exact (Array.getElem?_eq_some_iff.1 h.disk.blk).1
      · exact (Array.getElem?_eq_some_iff.1 h.disk.now).1
      · exact (Array.getElem?_eq_some_iff.1 h.disk.kept).1
      · exact (h.disk.wr.lt k hk).2
    refine hg.block k hlt (fun e => ?_)
    obtain ⟨c, f, e1⟩ := Lib.ownsRow_kind h.ds.opn k e.symm
    rcases hk with rfl | rfl | rfl | hk
    · rw [h.disk.blk] at e1; simp at e1
    · rw [h.disk.now] at e1; simp at e1
    · rw [h.disk.kept] at e1; simp at e1
    · obtain ⟨c2, f2, e2⟩ := Lib.ownsRow_kind h.disk.wr k hk; rw [e1] at e2; simp at e2
  refine ⟨h.ds.more hg ho, by unfold LogAt; rw [hb4]; exact h.log, h.disk.far hdk, ?_, by rw [h.run, hrun], by have := h.few; simp; omega⟩
  refine ⟨hg.os.trans h.touch.os, hg.tape.trans h.touch.tape, hg.output.trans h.touch.output, Nat.le_trans h.touch.size hg.size, fun k hk hn => ?_⟩
  rw [hg.block k (Nat.lt_of_lt_of_le hk h.touch.size) (fun e => by have h1 := (h.ds.opn.lt k e.symm).1; have h2 := h.ds.base.1; omega), h.touch.block k hk hn]
theorem three_at (w : World) (c : Ch) (t : TypeId) (n : Nat) (hn : w.heap.size = n) : ∀ j u, [Value.string c.key, .string c.val, .bool c.gone][j]? = some u → (w.alloc (.cells #[.string c.key, .string c.val, .bool c.gone] t)).cell? ((⟨n, 0, none⟩ : Addr).add j) = some u := by
  subst hn
  intro j u hj
  match j, hj with
  | 0, hj => simp at hj; subst hj; simp [Addr.add]
  | 1, hj => simp at hj; subst hj; simp [Addr.add]
  | 2, hj => simp at hj; subst hj; simp [Addr.add]
  | j + 3, hj => simp at hj
theorem one_oneV (a : Option Addr) (n c : Nat) : ∀ u ∈ [Value.slice a n c], u.oneCell' = true := by
  intro u hu
  simp at hu
  subst hu; rfl
def DeedsEnd (w : World) (b : Nat) (g : Lg) (p : Dp) (d : Dk) (e : Ending) (w' : World) : Prop :=
  ∃ vd vo P base opn, e = .returned (.tuple #[vd, .nilIface]) ∧ DS w' w.heap.size base vd vo P opn ∧ P.map (·.l) = (logOf rdC d.now g.start g.many g.first).1 ∧ LogAt w' b { g with used := (logOf rdC d.now g.start g.many g.first).2 } ∧ DiskAt w' p d ∧ Touch (fun k => k = b) w w' ∧ P.length ≤ g.many
theorem LogMid.stop {w wr : World} {b : Nat} {g : Lg} {p : Dp} {d : Dk} {i u base : Nat} {vd vo : Value} {P : List PartC} {opn : List Ch} (h : LogMid w wr b g p d (regionL d.now g.start g.many) i u base vd vo P opn) (hi : i ≤ g.many) (hr : runL rdC g.first i ⟨P.map (·.l), opn, u⟩ ((regionL d.now g.start g.many).drop i) = ⟨P.map (·.l), opn, u⟩) : DeedsEnd w b g p d (.returned (.tuple #[vd, .nilIface])) wr := by
  have hrun := h.run
  rw [hr] at hrun
  refine ⟨vd, vo, P, base, opn, rfl, h.ds, ?_, ?_, h.disk, h.touch, by have := h.few; omega⟩
  · simp only [logOf, closedL, hrun]
  · simp only [logOf, closedL, hrun]
    exact h.log

set_option maxRecDepth 100000 in
set_option maxHeartbeats 4000000 in
theorem logDeeds_any (b : Nat) (g : Lg) (p : Dp) (d : Dk) (w : World) (hl : LogAt w b g) (hg : LgOk g) (hu : g.used = 0) (hd : DiskAt w p d) (hB : g.dB = p.B) (hup : d.down = false) (hin : g.start + g.many ≤ d.now.length) :
    Calls Try.prog 74 #[.pointer (some ⟨b, 0, none⟩)] w (DeedsEnd w b g p d) := by
  have HL : Hid (LogAt w b g) := hl
  have HG : Hid (LgOk g) := hg
  have HD : Hid (DiskAt w p d) := hd
  have HBB : Hid (g.dB = p.B) := hB
  have HIN : Hid (g.start + g.many ≤ d.now.length) := hin
  have h60 := hg.start
  obtain ⟨c0, c1, c2, c3, c4⟩ := hl.cells
  have HM : Hid (LogMid w w b g p d (regionL d.now g.start g.many) 0 0 w.heap.size (.slice none 0 0) (.slice none 0 0) [] []) :=
    ⟨⟨World.ownsRow_nil _ _ _ _, fun p hp => by simp at hp, fun p hp => by simp at hp, World.ownsRow_nil _ _ _ _, Nat.le_refl _, Nat.le_refl _⟩, by rw [← hu]; exact hl, hd, Touch.refl _ _, rfl, by simp⟩
  clear hl hg hd hB hin hu
  go_enter Try.func74, Try.ntmps74
  go_wp2_with fail
  go_loopg [4, 5, 17] (g.many + 1) (fun kx vd vo vi wr => ∃ (i u base : Nat) (P : List PartC) (opn : List Ch), vi = .int .i64 i ∧ i ≤ g.many ∧ g.many - i ≤ kx ∧ Hid (LogMid w wr b g p d (regionL d.now g.start g.many) i u base vd vo P opn))
  case atStart => exact ⟨0, 0, w.heap.size, [], [], rfl, by omega, by omega, HM⟩
  case round =>
    obtain ⟨i, u, base, P, opn, rfl, hi, hix, HR⟩ := hrel
    clear HM c0 c1 c2 c3 c4
    by_cases hlt : i < g.many
    · have hltz : (i : Int) < (g.many : Int) := by omega
      obtain ⟨c0, c1, c2, c3, c4⟩ := HR.out.log.cells
      simp only at c0 c1 c2 c3 c4
      have hin : g.start + i < d.now.length := by have := HIN.out; omega
      obtain ⟨sec, hsec⟩ : ∃ s, s = d.now[g.start + i] := ⟨_, rfl⟩
      have h40 : sec.length = 40 := by rw [hsec]; exact HD.out.snow _ (List.getElem_mem hin)
      have HRD : Hid (readD d ((g.start : Int) + (i : Int)) = (sec, 0)) := by
        show _ = _
        unfold readD
        rw [if_neg (by rw [hup]; decide), if_pos (by omega), show ((g.start : Int) + (i : Int)).toNat = g.start + i by omega, hsec]
        simp [hin]
      have HDR : Hid ((regionL d.now g.start g.many).drop i = sec :: (regionL d.now g.start g.many).drop (i + 1)) := by
        show _ = _
        have hlen := regionL_length HIN.out
        rw [List.drop_eq_getElem_cons (by omega)]
        congr 1
        have := regionL_at (now := d.now) (from' := g.start) (many := g.many) (j := i)
        rw [if_pos hlt, List.getElem?_eq_getElem (by omega), List.getElem?_eq_getElem hin] at this
        rw [hsec]
        exact Option.some.inj this
      have some' := Later.ne wr
      have p0 := Later.cell c0
      have p1 := Later.cell c1
      rw [HBB.out] at p0
      have KR : Hid (∀ pl : Later wr, Calls Try.prog 94 #[.pointer (some ⟨p.B, 0, none⟩), .int .i64 ((g.start : Int) + (i : Int))] pl.W fun e w' => e = .returned (.tuple #[.string (baL sec), .nilIface]) ∧ w' = pl.W) := fun pl => by
        have h := diskRead_any p d ((g.start : Int) + (i : Int)) pl.W (HR.out.below pl.h).disk
        rw [HRD.out, errV_zero rfl] at h
        exact h
      clear hsec c0 c1 c2 c3 c4
      obtain ⟨S, hS⟩ : ∃ S, S = baL sec := ⟨_, rfl⟩
      rw [← hS] at KR
      have HS : Hid _ := hS
      have hs40 : S.size = 40 := by rw [hS, baL_size, h40]
      clear hS
      go_wp2_with fail
      refine wp_region_later (by kernel_rfl) (by kernel_rfl) ?_
      repeat (go_big_quiet_step ((go_at_call 94; exact later_same _ (KR.out _))))
      refine wpQuiet_nil ?_
      rintro _ ⟨pl, rfl⟩
      have HR1 : Hid _ := HR.out.below pl.h
      obtain ⟨W1, hW1⟩ : ∃ u, u = pl.W := ⟨_, rfl⟩
      rw [← hW1] at HR1
      rw [← hW1]
      clear hW1 pl p0 p1 some' KR HR
      have hSd : S.data.toList = sec := by rw [HS.out]; rfl
      have kw := logWritten_any b { g with used := u } i S W1 HR1.out.log HG.out.first (by omega) hs40
      rw [hSd] at kw
      obtain ⟨oa, oc, hvo, -, -, -, -, -⟩ := OwnsC.files HR1.out.ds.opn
      obtain ⟨i0, hif, hz0, hz1, hz2⟩ := info_parts Try.infoChanges
      obtain ⟨j0, hjf, jz0, jz1, jz2⟩ := info_parts Try.infoChange
      subst hvo
      clear hSd HS
      cases hso : secOf (g.first + i) sec with
      | none =>
        have e0 : writtenL (g.first + i) sec = (⟨#[]⟩, ⟨#[]⟩) := by unfold writtenL; rw [hso]
        simp only [e0] at kw
        have HEND : Hid _ := HR1.out.stop (by omega) (by rw [HDR.out]; simp [runL, stepL, hso])
        have HSTOP : Hid (∀ W, Below W1.heap.size W1 W → DeedsEnd w b g p d (.returned (.tuple #[u4, .nilIface])) W) := fun W hb => (HR1.out.below hb).stop (by omega) (by rw [HDR.out]; simp [runL, stepL, hso])
        have KW : Hid _ := kw
        clear kw e0 hso
        go_wp2_with fail
        refine Calls.mono KW.out ?_
        rintro en w2 ⟨rfl, hb⟩
        have HB2 : Hid _ := hb
        clear hb KW
        go_wp2
        go_ret2
        exact HSTOP.out _ HB2.out
      | some kt =>
        obtain ⟨k, t⟩ := kt
        have e0 : writtenL (g.first + i) sec = (⟨#[k]⟩, baL t) := by unfold writtenL; rw [hso]
        simp only [e0] at kw
        have ht33 := secOf_len hso
        have hK : (⟨#[k]⟩ : ByteArray).toList = [k] := by rw [ba_toList]
        have hTz : (baL t).size ≤ 33 := by rw [baL_size]; exact ht33
        have hT : baL t = baL t := rfl
        generalize hK1 : (⟨#[k]⟩ : ByteArray) = K1 at *
        generalize hT1 : baL t = T at kw hTz
        have HT1 : Hid (baL t = T) := hT1
        have KW : Hid _ := kw
        clear kw e0 hT hT1 hK1
        by_cases k99 : k = 99
        · have q1 : (K1.toList == [99]) = true := by rw [hK, k99]; rfl
          have q2 : (K1.toList == [111]) = false := by rw [hK, k99]; rfl
          clear hK
          by_cases ht : t = leB 4 opn.length
          · have KC : Hid (∀ W, Calls Try.prog 93 #[.int .i64 opn.length] W fun e w' => e = .returned (.string T) ∧ Below W.heap.size W w') := fun W => by
              rw [← HT1.out, ht]
              exact logCount_any opn.length W (by have := HR1.out.few; omega)
            have HRUN : Hid (runL rdC g.first i ⟨P.map (·.l), opn, u⟩ ((regionL d.now g.start g.many).drop i) = runL rdC g.first (i + 1) ⟨P.map (·.l) ++ [opn], [], i + 1⟩ ((regionL d.now g.start g.many).drop (i + 1))) := by
              show _ = _
              rw [HDR.out]
              simp [runL, stepL, hso, k99, ht]
            clear hso k99 ht
            go_wp2_with fail
            refine Calls.mono KW.out ?_
            rintro en w2 ⟨rfl, hb⟩
            have HB2 : Hid (Below W1.heap.size W1 w2) := hb
            clear hb KW
            go_wp2_with fail
            refine Calls.mono (KC.out w2) ?_
            rintro en w3 ⟨rfl, hb⟩
            have HR3 : Hid _ := HR1.out.below (HB2.out.trans (hb.mono HB2.out.size))
            have hP : P.length ≤ 60 := by have := HR1.out.few; omega
            have HRA : Hid (∀ o, LogMid w (w3.alloc o) b g p d (regionL d.now g.start g.many) i u base u4 (.slice oa opn.length oc) P opn) := fun o => HR3.out.below ((Below.refl _ _).alloc (Nat.le_refl _) o)
            have hlo : ∀ o, w.heap.size ≤ (w3.alloc o).heap.size := fun o => (HRA.out o).touch.size
            have HLO : Hid _ := hlo
            clear hb KC HB2 hlo
            go_wp2_with (at_builtin; refine wpList_append_own _ rfl _ _ 22 rfl w.heap.size 30 i0 _ 1 24 (by kernel_rfl) hif hz0 hz1 hz2 rfl (by decide) u4 P.length (P.map PartC.v) rfl (HRA.out _).ds.row ⟨w3.heap.size, 0, none⟩ 1 1 [.slice oa opn.length oc] rfl rfl (cell_one_new _ _ _) (one_oneV _ _ _) (by unfold maxLen; omega) (by omega) (HLO.out _) ?_; intro v' w4 hown4 hgrow4 hnil4; obtain ⟨xa, xc, rfl⟩ := row_shape hown4; obtain ⟨hA, hc1, hc2⟩ := (HRA.out _).close hgrow4 hown4 HRUN.out; have HA : Hid _ := hA; clear hA hown4 hgrow4 hnil4)
            go_roundg (g.many - (i + 1))
            case measure => omega
            case rel => exact ⟨i + 1, i + 1, _, P ++ [⟨oa, oc, opn⟩], [], by go_num, by omega, Nat.le_refl _, HA⟩
          · have KC : Hid (∀ W, Calls Try.prog 93 #[.int .i64 opn.length] W fun e w' => e = .returned (.string (baL (leB 4 opn.length))) ∧ Below W.heap.size W w') := fun W => logCount_any opn.length W (by have := HR1.out.few; omega)
            have qz : (T.toList == (baL (leB 4 opn.length)).toList) = false := by
              rw [beq_eq_false_iff_ne, ← HT1.out, ba_toList, ba_toList]
              exact fun h => ht h
            have HSTOP : Hid (∀ W, Below W1.heap.size W1 W → DeedsEnd w b g p d (.returned (.tuple #[u4, .nilIface])) W) := fun W hb => (HR1.out.below hb).stop (by omega) (by rw [HDR.out]; simp [runL, stepL, hso, k99, ht])
            generalize baL (leB 4 opn.length) = Z at *
            clear hso k99 ht
            go_wp2_with fail
            refine Calls.mono KW.out ?_
            rintro en w2 ⟨rfl, hb⟩
            have HB2 : Hid (Below W1.heap.size W1 w2) := hb
            clear hb KW
            go_wp2_with fail
            refine Calls.mono (KC.out w2) ?_
            rintro en w3 ⟨rfl, hb⟩
            have HB3 : Hid (Below W1.heap.size W1 w3) := HB2.out.trans (hb.mono HB2.out.size)
            clear hb KC
            go_wp2
            go_ret2
            exact HSTOP.out _ HB3.out
        · have q1 : (K1.toList == [99]) = false := by rw [hK, beq_eq_false_iff_ne]; intro h; injection h with h; exact k99 h
          by_cases k111 : k = 111
          · have q2 : (K1.toList == [111]) = true := by rw [hK, k111]; rfl
            clear hK
            have kp := fun W => rowParse_any T W (by omega)
            cases hrd : readC T with
            | none =>
              rw [hrd, partsN_none hrd, errV_pos (by decide)] at kp
              have KP : Hid (∀ W, Calls _ _ _ W _) := kp
              have hrd2 : rdC t = none := by unfold rdC; rw [HT1.out]; exact hrd
              have HSTOP : Hid (∀ W, Below W1.heap.size W1 W → DeedsEnd w b g p d (.returned (.tuple #[u4, .nilIface])) W) := fun W hb => (HR1.out.below hb).stop (by omega) (by rw [HDR.out]; simp [runL, stepL, hso, k111, hrd2])
              clear kp hso k99 k111 hrd hrd2
              go_wp2_with fail
              refine Calls.mono KW.out ?_
              rintro en w2 ⟨rfl, hb⟩
              have HB2 : Hid (Below W1.heap.size W1 w2) := hb
              clear hb KW
              go_wp2_with fail
              refine Calls.mono (KP.out w2) ?_
              rintro en w3 ⟨rfl, hb⟩
              have HB3 : Hid (Below W1.heap.size W1 w3) := HB2.out.trans (hb.mono HB2.out.size)
              clear hb KP
              go_wp2
              go_ret2
              exact HSTOP.out _ (HB3.out.alloc HB3.out.size _)
            | some c =>
              rw [hrd, partsN_some hrd, errV_zero rfl] at kp
              simp only [Option.getD_some] at kp
              have KP : Hid (∀ W, Calls _ _ _ W _) := kp
              have hrd2 : rdC t = some c := by unfold rdC; rw [HT1.out]; exact hrd
              have HRUN : Hid (runL rdC g.first i ⟨P.map (·.l), opn, u⟩ ((regionL d.now g.start g.many).drop i) = runL rdC g.first (i + 1) ⟨P.map (·.l), opn ++ [c], u⟩ ((regionL d.now g.start g.many).drop (i + 1))) := by
                show _ = _
                rw [HDR.out]
                simp [runL, stepL, hso, k111, hrd2]
              clear kp hso k99 k111 hrd hrd2
              go_wp2_with fail
              refine Calls.mono KW.out ?_
              rintro en w2 ⟨rfl, hb⟩
              have HB2 : Hid (Below W1.heap.size W1 w2) := hb
              clear hb KW
              go_wp2_with fail
              refine Calls.mono (KP.out w2) ?_
              rintro en w3 ⟨rfl, hb⟩
              have HR3 : Hid _ := HR1.out.below (HB2.out.trans (hb.mono HB2.out.size))
              have hO : opn.length ≤ 60 := by have := HR1.out.few; omega
              have HRA : Hid (∀ o o', LogMid w ((w3.alloc o).alloc o') b g p d (regionL d.now g.start g.many) i u base u4 (.slice oa opn.length oc) P opn) := fun o o' => (HR3.out.below ((Below.refl _ _).alloc (Nat.le_refl _) o)).below ((Below.refl _ _).alloc (Nat.le_refl _) o')
              have HLO : Hid (∀ o o', base ≤ ((w3.alloc o).alloc o').heap.size) := fun o o' => (HRA.out o o').ds.base.2
              clear hb KP HB2
              go_wp2_with (at_builtin; refine wpList_append_own _ rfl _ _ 30 rfl base 66 j0 _ 3 40 (by kernel_rfl) hjf jz0 jz1 jz2 rfl (by decide) (.slice oa opn.length oc) opn.length (flatC opn) rfl (HRA.out _ _).ds.opn ⟨w3.heap.size + 1, 0, none⟩ 1 1 [.string c.key, .string c.val, .bool c.gone] rfl rfl (three_at _ _ _ _ (by simp)) (threeC_one _) (by unfold maxLen; omega) (by omega) (HLO.out _ _) ?_; intro v' w4 hown4 hgrow4 hnil4; obtain ⟨xa, xc, rfl⟩ := row_shape hown4; have HA : Hid _ := (HRA.out _ _).more hgrow4 (OwnsC.snoc hown4) HRUN.out; clear hown4 hgrow4 hnil4)
              go_roundg (g.many - (i + 1))
              case measure => omega
              case rel => exact ⟨i + 1, u, base, P, opn ++ [c], by go_num, by omega, Nat.le_refl _, HA⟩
          · have q2 : (K1.toList == [111]) = false := by rw [hK, beq_eq_false_iff_ne]; intro h; injection h with h; exact k111 h
            clear hK
            have HSTOP : Hid (∀ W, Below W1.heap.size W1 W → DeedsEnd w b g p d (.returned (.tuple #[u4, .nilIface])) W) := fun W hb => (HR1.out.below hb).stop (by omega) (by rw [HDR.out]; simp [runL, stepL, hso, k99, k111])
            clear hso k99 k111
            go_wp2_with fail
            refine Calls.mono KW.out ?_
            rintro en w2 ⟨rfl, hb⟩
            have HB2 : Hid (Below W1.heap.size W1 w2) := hb
            clear hb KW
            go_wp2
            go_ret2
            exact HSTOP.out _ HB2.out
    · have e : i = g.many := by omega
      have HSTOP : Hid (DeedsEnd w b g p d (.returned (.tuple #[u4, .nilIface])) wr) := HR.out.stop hi (by rw [List.drop_eq_nil_of_le (by rw [regionL_length HIN.out]; omega)]; rfl)
      go_wp2
      go_ret2
      exact HSTOP.out
end Go.Proofs.Ytihnghnafpgdfac
namespace Go.Proofs.Ytihnghnafpgdfac
open Go.RowKit Go.BigFrame
set_option linter.unusedVariables false
set_option linter.unusedSimpArgs false

/-- What Open answers. -/
def OpenEnd (w : World) (p : Dp) (d : Dk) (start many first : Nat) (e : Ending) (w' : World) : Prop :=
  ∃ b vd vo P base opn, e = .returned (.tuple #[.pointer (some ⟨b, 0, none⟩), vd, .nilIface]) ∧ w.heap.size ≤ b ∧ LogAt w' b ⟨p.B, start, many, first, (logOf rdC d.now start many first).2⟩ ∧ DS w' w.heap.size base vd vo P opn ∧ P.map (·.l) = (logOf rdC d.now start many first).1 ∧ DiskAt w' p d ∧ Below w.heap.size w w' ∧ P.length ≤ many
theorem DS.base0 {w : World} {lo lo' base : Nat} {vd vo : Value} {P : List PartC} {opn : List Ch} (h : DS w lo base vd vo P opn) (hl : lo' ≤ lo) : DS w lo' base vd vo P opn := by
  have hb : ∀ {B B' : Nat} {T : TypeId} {size n : Nat} {v : Value} {xs : List Value}, w.ownsRow B T size v n xs → B' ≤ B → w.ownsRow B' T size v n xs := fun h hB => by
    refine ⟨h.1, ?_⟩
    rcases h.2 with h0 | ⟨g, cap, cur, e, hg, rest⟩
    · exact .inl h0
    · exact .inr ⟨g, cap, cur, e, by omega, rest⟩
  exact ⟨hb h.row hl, fun p hp => hb (h.parts p hp) hl, h.low, h.opn, Nat.le_trans hl h.base.1, h.base.2⟩

set_option maxRecDepth 100000 in
set_option maxHeartbeats 1000000 in
theorem logOpen_good (p : Dp) (d : Dk) (start many first : Nat) (w : World) (hd : DiskAt w p d) (hup : d.down = false) (hm : 1 ≤ many) (hf : 1 ≤ first) (hf2 : first ≤ 4000000) (hin : start + many ≤ d.now.length) :
    Calls Try.prog 46 #[.pointer (some ⟨p.B, 0, none⟩), .int .i64 start, .int .i64 many, .int .i64 first] w (OpenEnd w p d start many first) := by
  have h60 := hd.few
  have HD : Hid (DiskAt w p d) := hd
  have KS : Hid _ := sectors_any p d w hd
  have h1 : ¬ ((start : Int) < 0) := by omega
  have h2 : ¬ ((many : Int) < 1) := by omega
  have h3 : ¬ ((first : Int) < 1) := by omega
  have h4 : ¬ ((d.now.length : Int) - (start : Int) < (many : Int)) := by omega
  clear hd
  go_enter Try.func46, Try.ntmps46
  go_wp2_with fail
  refine Calls.mono KS.out ?_
  rintro e w1 ⟨rfl, hw⟩
  rw [hw]
  clear hw w1 KS
  go_wp2_with fail
  refine (logNew_any p.B start many first w).mono ?_
  rintro e w2 ⟨rfl, hl, hb⟩
  have HL2 : Hid _ := hl
  have HB2 : Hid _ := hb
  have HD2 : Hid (DiskAt w2 p d) := HD.out.far fun k hk => hb.block k (by
    rcases hk with rfl | rfl | rfl | hk
    · exact (Array.getElem?_eq_some_iff.1 HD.out.blk).1
    · exact (Array.getElem?_eq_some_iff.1 HD.out.now).1
    · exact (Array.getElem?_eq_some_iff.1 HD.out.kept).1
    · exact (HD.out.wr.lt k hk).2)
  clear hl hb
  go_wp2_with fail
  refine (logDeeds_any w.heap.size ⟨p.B, start, many, first, 0⟩ p d w2 HL2.out ⟨by simp only; omega, hf2, Nat.zero_le _⟩ rfl HD2.out rfl hup hin).mono ?_
  rintro e w3 ⟨vd, vo, P, base, opn, rfl, hds, hP, hlog, hdk, hto, hfew⟩
  have HE : Hid (OpenEnd w p d start many first (.returned (.tuple #[.pointer (some ⟨w.heap.size, 0, none⟩), vd, .nilIface])) w3) :=
    ⟨w.heap.size, vd, vo, P, base, opn, rfl, Nat.le_refl _, hlog, hds.base0 HB2.out.size, hP, hdk, HB2.out.trans (hto.below (fun k hk => by rw [hk]; exact Nat.le_refl _) HB2.out.size), hfew⟩
  clear hds hP hlog hdk hto hfew
  go_wp2
  go_ret3
  exact HE.out

set_option maxRecDepth 100000 in
theorem logOpen_bad (p : Dp) (d : Dk) (start many first : Int) (w : World) (hd : DiskAt w p d) (hr : -9223372036854775808 ≤ start ∧ start ≤ 9223372036854775807) (hbad : start < 0 ∨ many < 1 ∨ first < 1 ∨ (d.now.length : Int) - start < many) :
    Calls Try.prog 46 #[.pointer (some ⟨p.B, 0, none⟩), .int .i64 start, .int .i64 many, .int .i64 first] w fun e w' => e = .returned (.tuple #[.pointer none, .slice none 0 0, errV 1]) ∧ w' = w := by
  have h60 := hd.few
  rw [errV_pos (by decide)]
  have KS : Hid _ := sectors_any p d w hd
  clear hd
  by_cases h1 : start < 0
  · go_enter Try.func46, Try.ntmps46
    go_wp2
    go_ret3
    exact ⟨rfl, rfl⟩
  · by_cases h2 : many < 1
    · go_enter Try.func46, Try.ntmps46
      go_wp2
      go_ret3
      exact ⟨rfl, rfl⟩
    · by_cases h3 : first < 1
      · go_enter Try.func46, Try.ntmps46
        go_wp2
        go_ret3
        exact ⟨rfl, rfl⟩
      · have h4 : (d.now.length : Int) - start < many := by omega
        clear hbad
        go_enter Try.func46, Try.ntmps46
        go_wp2_with fail
        refine Calls.mono KS.out ?_
        rintro e w1 ⟨rfl, hw⟩
        rw [hw]
        clear hw w1 KS
        go_wp2
        go_ret3
        exact ⟨rfl, rfl⟩
end Go.Proofs.Ytihnghnafpgdfac
