/-
  THE WALKS OF row.Parse, AND OF THE DOCUMENT's ANSWER TO IT.
-/
import Derived.Test.YtihnghnafpgdfabRowWalks
namespace Go.Proofs.Ytihnghnafpgdfab
open Go.RowKit
set_option linter.unusedVariables false
set_option linter.unusedSimpArgs false

/-- What G2 says of bytes: a change, if they are one's. -/
def byteAt (s : ByteArray) (i : Nat) : Nat := (s.data.toList.getD i 0).toNat
theorem byteAt_eq {s : ByteArray} {i : Nat} (h : i < s.size) : s[i].toNat = byteAt s i := by
  unfold byteAt
  have h' : i < s.data.size := h
  rw [List.getD_eq_getElem?_getD, List.getElem?_eq_getElem (by simpa using h')]
  simp [ByteArray.getElem_eq_getElem_data]
theorem byteAt_lt (s : ByteArray) (i : Nat) : byteAt s i < 256 := UInt8.toNat_lt _
def partC (s : ByteArray) : Ch := ⟨s.extract 2 (2 + byteAt s 1), s.extract (2 + byteAt s 1) s.size, ((byteAt s 0 : Int) == 1)⟩
def BadC (s : ByteArray) : Prop := s.size < 2 ∨ 1 < byteAt s 0 ∨ s.size < 2 + byteAt s 1
instance (s : ByteArray) : Decidable (BadC s) := by unfold BadC; infer_instance
def readC (s : ByteArray) : Option Ch := if BadC s then none else if changeF (partC s) = 0 then some (partC s) else none
def zeroC : Ch := ⟨⟨#[]⟩, ⟨#[]⟩, false⟩
def partsN (s : ByteArray) : Int := if (readC s).isSome = true then 0 else 4
theorem readC_bad {s : ByteArray} (h : BadC s) : readC s = none := by unfold readC; rw [if_pos h]
theorem readC_ill {s : ByteArray} (h : ¬ BadC s) (h2 : ¬ changeF (partC s) = 0) : readC s = none := by unfold readC; rw [if_neg h, if_neg h2]
theorem readC_good {s : ByteArray} (h : ¬ BadC s) (h2 : changeF (partC s) = 0) : readC s = some (partC s) := by unfold readC; rw [if_neg h, if_pos h2]
theorem partsN_none {s : ByteArray} (h : readC s = none) : partsN s = 4 := by unfold partsN; rw [h]; rfl
theorem partsN_some {s : ByteArray} {c : Ch} (h : readC s = some c) : partsN s = 0 := by unfold partsN; rw [h]; rfl

set_option maxRecDepth 100000 in
set_option maxHeartbeats 1000000 in
theorem rowParse_any (s : ByteArray) (w : World) (hs : s.size ≤ 1000) :
    Calls Try.prog 43 #[.string s] w fun e w' => e = .returned (.tuple #[((readC s).getD zeroC).v, errV (partsN s)]) ∧ Below w.heap.size w w' := by
  by_cases h2 : s.size < 2
  · have HN := readC_bad (.inl h2 : BadC s)
    rw [partsN_none HN, HN]
    clear HN
    go_enter Try.func43, Try.ntmps43
    go_wp2
    try simp only [Exit.inBlock, Exit.then]
    refine bodyPost_ret (v := .tuple #[zeroC.v, errV 4]) (by simp [results, Try.results43, go_sem, zeroC, errV]) rfl ⟨rfl, ?_⟩
    exact (Below.refl _ _).alloc (Nat.le_refl _) _
  · have b0 := byteAt_eq (s := s) (i := 0) (by omega)
    have b1 := byteAt_eq (s := s) (i := 1) (by omega)
    have l0 := byteAt_lt s 0
    have l1 := byteAt_lt s 1
    have w1' : wrap64 (byteAt s 1 : Int) = (byteAt s 1 : Int) := by unfold wrap64; omega
    have w2' : wrap64 (2 + (byteAt s 1 : Int)) = 2 + (byteAt s 1 : Int) := by unfold wrap64; omega
    by_cases h3 : 1 < byteAt s 0
    · have HN := readC_bad (.inr (.inl h3) : BadC s)
      rw [partsN_none HN, HN]
      clear HN
      go_enter Try.func43, Try.ntmps43
      go_wp2
      try simp only [Exit.inBlock, Exit.then]
      refine bodyPost_ret (v := .tuple #[zeroC.v, errV 4]) (by simp [results, Try.results43, go_sem, zeroC, errV]) rfl ⟨rfl, ?_⟩
      exact (Below.refl _ _).alloc (Nat.le_refl _) _
    · by_cases h4 : s.size < 2 + byteAt s 1
      · have HN := readC_bad (.inr (.inr h4) : BadC s)
        rw [partsN_none HN, HN]
        clear HN
        have h4' : (s.size : Int) - 2 < (byteAt s 1 : Int) := by omega
        go_enter Try.func43, Try.ntmps43
        go_wp2
        try simp only [Exit.inBlock, Exit.then]
        refine bodyPost_ret (v := .tuple #[zeroC.v, errV 4]) (by simp [results, Try.results43, go_sem, zeroC, errV]) rfl ⟨rfl, ?_⟩
        exact (Below.refl _ _).alloc (Nat.le_refl _) _
      · have h4' : ¬ (s.size : Int) - 2 < (byteAt s 1 : Int) := by omega
        have HNB : Hid (¬ BadC s) := by rintro (h | h | h) <;> omega
        go_enter Try.func43, Try.ntmps43
        have hb1 : (2 : Int) ≤ 2 + (byteAt s 1 : Int) := by omega
        have hb2 : 2 + (byteAt s 1 : Int) ≤ (s.size : Int) := by omega
        have hb3 : (2 + (byteAt s 1 : Int)).toNat = 2 + byteAt s 1 := by omega
        have mixed : Try.prog.follows Departure.mixedOrders = true := by kernel_rfl
        go_wp2_with fail
        go_big_region_o
        have hcon := rowCheck_any (partC s) ((w.alloc (Obj.cells #[Value.string ⟨#[]⟩, Value.string ⟨#[]⟩, Value.bool false] 73)).alloc (Obj.cells #[Value.string (partC s).key, Value.string (partC s).val, Value.bool (partC s).gone] 73)).drew
        have HCON : Hid _ := hcon
        clear hcon
        by_cases hf : changeF (partC s) = 0
        · have HR : Hid (readC s = some (partC s)) := readC_good HNB.out hf
          have HF : Hid (changeF (partC s) = 0) := hf
          clear hf
          go_wp2_with fail
          refine Calls.mono HCON.out ?_
          rintro _ wa ⟨rfl, hb⟩
          rw [HF.out]
          rw [errV_zero rfl]
          have hsz := hb.size
          obtain ⟨cc, cf⟩ := bcell' hb
          have c0 := cc (w.heap.size + 1) 0 (by simp)
          have c1 := cc (w.heap.size + 1) 1 (by simp)
          have c2 := cc (w.heap.size + 1) 2 (by simp)
          have z0 := cc w.heap.size 0 (by simp; omega)
          have z1 := cc w.heap.size 1 (by simp; omega)
          have z2 := cc w.heap.size 2 (by simp; omega)
          have f0 := cf w.heap.size 0 (by simp; omega)
          have f1 := cf w.heap.size 1 (by simp; omega)
          have f2 := cf w.heap.size 2 (by simp; omega)
          simp at c0 c1 c2 z0 z1 z2 f0 f1 f2
          simp only [World.size_drew, World.size_alloc] at hsz
          have hlt : w.heap.size < wa.heap.size := by omega
          have HB : Hid (Below w.heap.size w wa) := ((((Below.refl _ _).alloc (Nat.le_refl _) _).alloc (by simp) _).drew).trans (hb.mono (by simp; omega))
          clear hb cc cf HCON
          go_wp2
          try simp only [Exit.inBlock, Exit.then]
          refine bodyPost_ret (v := .tuple #[(partC s).v, .nilIface]) (by simp [results, Try.results43, go_sem, z0, z1, z2, f0, f1, f2, hlt]) rfl ⟨?_, ?_⟩
          · rw [HR.out, partsN_some HR.out]
            rfl
          · exact ((HB.out.setCell (Nat.le_refl _) _).setCell (Nat.le_refl _) _).setCell (Nat.le_refl _) _
        · have HR : Hid (readC s = none) := readC_ill HNB.out hf
          have HE : Hid (errV (changeF (partC s)) = .iface 118 (.int .i64 (changeF (partC s)))) := errV_pos hf
          clear hf
          go_wp2_with fail
          refine Calls.mono HCON.out ?_
          rintro _ wa ⟨rfl, hb⟩
          rw [HE.out]
          have hsz := hb.size
          obtain ⟨cc, cf⟩ := bcell' hb
          have c0 := cc (w.heap.size + 1) 0 (by simp)
          have c1 := cc (w.heap.size + 1) 1 (by simp)
          have c2 := cc (w.heap.size + 1) 2 (by simp)
          have z0 := cc w.heap.size 0 (by simp; omega)
          have z1 := cc w.heap.size 1 (by simp; omega)
          have z2 := cc w.heap.size 2 (by simp; omega)
          have f0 := cf w.heap.size 0 (by simp; omega)
          have f1 := cf w.heap.size 1 (by simp; omega)
          have f2 := cf w.heap.size 2 (by simp; omega)
          simp at c0 c1 c2 z0 z1 z2 f0 f1 f2
          simp only [World.size_drew, World.size_alloc] at hsz
          have hlt : w.heap.size < wa.heap.size := by omega
          have HB : Hid (Below w.heap.size w wa) := ((((Below.refl _ _).alloc (Nat.le_refl _) _).alloc (by simp) _).drew).trans (hb.mono (by simp; omega))
          clear hb cc cf HCON
          go_wp2
          try simp only [Exit.inBlock, Exit.then]
          refine bodyPost_ret (v := .tuple #[zeroC.v, errV 4]) (by simp [results, Try.results43, go_sem, z0, z1, z2, f0, f1, f2, hlt, zeroC, errV]) rfl ⟨?_, ?_⟩
          · rw [HR.out, partsN_none HR.out]
            rfl
          · first | exact ((HB.out.setCell (Nat.le_refl _) _).setCell (Nat.le_refl _) _).setCell (Nat.le_refl _) _ | exact HB.out

set_option maxRecDepth 100000 in
set_option maxHeartbeats 1000000 in
theorem changeOf_any (s : ByteArray) (w : World) (hs : s.size ≤ 1000) :
    Calls Try.prog 44 #[.string s] w fun e w' => e = .returned (.tuple #[((readC s).getD zeroC).v, .int .i64 (partsN s)]) ∧ Below w.heap.size w w' := by
  by_cases h2 : s.size < 2
  · have HN := readC_bad (.inl h2 : BadC s)
    rw [partsN_none HN, HN]
    clear HN
    go_enter Try.func44, Try.ntmps44
    go_wp2
    try simp only [Exit.inBlock, Exit.then]
    refine bodyPost_ret (v := .tuple #[zeroC.v, .int .i64 4]) (by simp [results, Try.results44, go_sem, zeroC, errV]) rfl ⟨rfl, ?_⟩
    exact (Below.refl _ _).alloc (Nat.le_refl _) _
  · have b0 := byteAt_eq (s := s) (i := 0) (by omega)
    have b1 := byteAt_eq (s := s) (i := 1) (by omega)
    have l0 := byteAt_lt s 0
    have l1 := byteAt_lt s 1
    have w1' : wrap64 (byteAt s 1 : Int) = (byteAt s 1 : Int) := by unfold wrap64; omega
    have w2' : wrap64 (2 + (byteAt s 1 : Int)) = 2 + (byteAt s 1 : Int) := by unfold wrap64; omega
    by_cases h3 : 1 < byteAt s 0
    · have HN := readC_bad (.inr (.inl h3) : BadC s)
      rw [partsN_none HN, HN]
      clear HN
      go_enter Try.func44, Try.ntmps44
      go_wp2
      try simp only [Exit.inBlock, Exit.then]
      refine bodyPost_ret (v := .tuple #[zeroC.v, .int .i64 4]) (by simp [results, Try.results44, go_sem, zeroC, errV]) rfl ⟨rfl, ?_⟩
      exact (Below.refl _ _).alloc (Nat.le_refl _) _
    · by_cases h4 : s.size < 2 + byteAt s 1
      · have HN := readC_bad (.inr (.inr h4) : BadC s)
        rw [partsN_none HN, HN]
        clear HN
        have h4' : (s.size : Int) < 2 + (byteAt s 1 : Int) := by omega
        go_enter Try.func44, Try.ntmps44
        go_wp2
        try simp only [Exit.inBlock, Exit.then]
        refine bodyPost_ret (v := .tuple #[zeroC.v, .int .i64 4]) (by simp [results, Try.results44, go_sem, zeroC, errV]) rfl ⟨rfl, ?_⟩
        exact (Below.refl _ _).alloc (Nat.le_refl _) _
      · have h4' : ¬ (s.size : Int) < 2 + (byteAt s 1 : Int) := by omega
        have HNB : Hid (¬ BadC s) := by rintro (h | h | h) <;> omega
        go_enter Try.func44, Try.ntmps44
        have hb1 : (2 : Int) ≤ 2 + (byteAt s 1 : Int) := by omega
        have hb2 : 2 + (byteAt s 1 : Int) ≤ (s.size : Int) := by omega
        have hb3 : (2 + (byteAt s 1 : Int)).toNat = 2 + byteAt s 1 := by omega
        have mixed : Try.prog.follows Departure.mixedOrders = true := by kernel_rfl
        go_wp2_with fail
        go_big_region_o
        have hcon := changeFault_any (partC s) ((w.alloc (Obj.cells #[Value.string ⟨#[]⟩, Value.string ⟨#[]⟩, Value.bool false] 73)).alloc (Obj.cells #[Value.string (partC s).key, Value.string (partC s).val, Value.bool (partC s).gone] 73)).drew
        have HCON : Hid _ := hcon
        clear hcon
        by_cases hf : changeF (partC s) = 0
        · have HR : Hid (readC s = some (partC s)) := readC_good HNB.out hf
          have HF : Hid (changeF (partC s) = 0) := hf
          clear hf
          go_wp2_with fail
          refine Calls.mono HCON.out ?_
          rintro _ wa ⟨rfl, hb⟩
          rw [HF.out]
          have hsz := hb.size
          obtain ⟨cc, cf⟩ := bcell' hb
          have c0 := cc (w.heap.size + 1) 0 (by simp)
          have c1 := cc (w.heap.size + 1) 1 (by simp)
          have c2 := cc (w.heap.size + 1) 2 (by simp)
          have z0 := cc w.heap.size 0 (by simp; omega)
          have z1 := cc w.heap.size 1 (by simp; omega)
          have z2 := cc w.heap.size 2 (by simp; omega)
          have f0 := cf w.heap.size 0 (by simp; omega)
          have f1 := cf w.heap.size 1 (by simp; omega)
          have f2 := cf w.heap.size 2 (by simp; omega)
          simp at c0 c1 c2 z0 z1 z2 f0 f1 f2
          simp only [World.size_drew, World.size_alloc] at hsz
          have hlt : w.heap.size < wa.heap.size := by omega
          have HB : Hid (Below w.heap.size w wa) := ((((Below.refl _ _).alloc (Nat.le_refl _) _).alloc (by simp) _).drew).trans (hb.mono (by simp; omega))
          clear hb cc cf HCON
          go_wp2
          try simp only [Exit.inBlock, Exit.then]
          refine bodyPost_ret (v := .tuple #[(partC s).v, .int .i64 0]) (by simp [results, Try.results44, go_sem, z0, z1, z2, f0, f1, f2, hlt]) rfl ⟨?_, ?_⟩
          · rw [HR.out, partsN_some HR.out]
            rfl
          · exact ((HB.out.setCell (Nat.le_refl _) _).setCell (Nat.le_refl _) _).setCell (Nat.le_refl _) _
        · have HR : Hid (readC s = none) := readC_ill HNB.out hf
          have hpos : (0 : Int) < changeF (partC s) := by have := (changeF_rng (partC s)).1; omega
          clear hf
          go_wp2_with fail
          refine Calls.mono HCON.out ?_
          rintro _ wa ⟨rfl, hb⟩
          have hsz := hb.size
          obtain ⟨cc, cf⟩ := bcell' hb
          have c0 := cc (w.heap.size + 1) 0 (by simp)
          have c1 := cc (w.heap.size + 1) 1 (by simp)
          have c2 := cc (w.heap.size + 1) 2 (by simp)
          have z0 := cc w.heap.size 0 (by simp; omega)
          have z1 := cc w.heap.size 1 (by simp; omega)
          have z2 := cc w.heap.size 2 (by simp; omega)
          have f0 := cf w.heap.size 0 (by simp; omega)
          have f1 := cf w.heap.size 1 (by simp; omega)
          have f2 := cf w.heap.size 2 (by simp; omega)
          simp at c0 c1 c2 z0 z1 z2 f0 f1 f2
          simp only [World.size_drew, World.size_alloc] at hsz
          have hlt : w.heap.size < wa.heap.size := by omega
          have HB : Hid (Below w.heap.size w wa) := ((((Below.refl _ _).alloc (Nat.le_refl _) _).alloc (by simp) _).drew).trans (hb.mono (by simp; omega))
          clear hb cc cf HCON
          go_wp2
          try simp only [Exit.inBlock, Exit.then]
          refine bodyPost_ret (v := .tuple #[zeroC.v, .int .i64 4]) (by simp [results, Try.results44, go_sem, z0, z1, z2, f0, f1, f2, hlt, zeroC, errV]) rfl ⟨?_, ?_⟩
          · rw [HR.out, partsN_none HR.out]
            rfl
          · first | exact ((HB.out.setCell (Nat.le_refl _) _).setCell (Nat.le_refl _) _).setCell (Nat.le_refl _) _ | exact HB.out
end Go.Proofs.Ytihnghnafpgdfab
