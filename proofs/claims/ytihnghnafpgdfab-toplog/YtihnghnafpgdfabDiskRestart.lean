/-
  THE WALK OF Restart.
-/
import Derived.Test.YtihnghnafpgdfabDiskWrite
namespace Go.Proofs.Ytihnghnafpgdfab
open Go.RowKit
set_option linter.unusedVariables false
set_option linter.unusedSimpArgs false

/-- Is that bit of keep set? -/
def bitSet (keep : Nat) (b : Nat) : Bool := (keep / 2 ^ b) % 2 == 1
/-- F3: what is kept of these, in order. -/
def keptBy (keep : Nat) : List Wr → List (List UInt8) → List (List UInt8)
  | [], k => k
  | x :: l, k => keptBy keep l (if bitSet keep x.bit = true then k.set x.spot x.data else k)
def restartD (d : Dk) (keep : Nat) : Dk := ⟨keptBy keep d.wr d.kept, keptBy keep d.wr d.kept, [], 0, -1, false⟩

theorem wpList_store_row {w : World} {ops : Array Oper} {rest : List Oper} {o : Oper} {a : Act} {Q : Exit → Act → World → Prop} (hgd : o.guard = none) (x y : Operand) (ho : o.op = .store 129 x y) (L : List Value) (hL : L.length = 42) (h1 : ∀ v ∈ L, v.oneCell' = true)
    (hx : a.eval x = .pointer (some ⟨w.heap.size, 0, none⟩)) (hy : a.eval y = .agg L.toArray)
    (h : wpList Try.prog ops Q rest (a.put o.dst undef) (w.alloc (.cells L.toArray 129))) : wpList Try.prog ops Q (o :: rest) a (w.alloc (.cells (zeroW 0 0) 129)) := by
  have e42 : L.toArray.size = 42 := by simp [hL]
  have ht : (w.alloc (.cells (zeroW 0 0) 129)).there w.heap.size 0 L.toArray.size := e42.symm ▸ there_new w _ _ 42 (zeroW_size 0 0)
  refine wpList_store_mid hgd 129 x y ho w.heap.size 0 L.toArray hx hy ht (by rw [List.size_toArray, hL]; exact Try.sizeWrite) (all_oneCell_toArray h1) ?_
  rw [List.toList_toArray, setCells_whole w _ _ _ (by rw [zeroW_size, hL])]
  exact h
theorem wrV_one (x : Wr) : ∀ v ∈ wrV x, v.oneCell' = true := by
  intro v hv
  simp only [wrV, List.mem_cons] at hv
  rcases hv with rfl | rfl | hv
  · rfl
  · rfl
  · simp only [bytesV, List.mem_map] at hv
    obtain ⟨c, _, rfl⟩ := hv
    rfl
theorem flatW_length : ∀ {l : List Wr}, (∀ x ∈ l, x.data.length = 40) → (flatW l).length = l.length * 42
  | [], _ => rfl
  | x :: l, h => by
    have := flatW_length (l := l) (fun y hy => h y (List.mem_cons_of_mem _ hy))
    have h2 := h x (by simp)
    simp only [flatW, wrV, List.length_append, List.length_cons, bytesV_length]
    omega
theorem flatW_at : ∀ {l : List Wr}, (∀ x ∈ l, x.data.length = 40) → ∀ (i : Nat) (hi : i < l.length) (j : Nat) (v : Value), (wrV l[i])[j]? = some v → (flatW l)[i * 42 + j]? = some v
  | x :: l, h, 0, hi, j, v, hv => by
    simp only [flatW, Nat.zero_mul, Nat.zero_add]
    simp only [List.getElem_cons_zero] at hv
    rw [List.getElem?_append_left ((List.getElem?_eq_some_iff.1 hv).1)]
    exact hv
  | x :: l, h, i + 1, hi, j, v, hv => by
    have h2 := h x (by simp)
    have hw : (wrV x).length = 42 := by simp [wrV, bytesV_length, h2]
    have := flatW_at (l := l) (fun y hy => h y (List.mem_cons_of_mem _ hy)) i (by simpa using hi) j v (by simpa using hv)
    simp only [flatW]
    rw [List.getElem?_append_right (by rw [hw]; omega), hw, ← this]
    congr 1
    omega

theorem DiskAt.layKept {w : World} {p : Dp} {d : Dk} (h : DiskAt w p d) {i : Nat} (hi : i < d.now.length) {x : List UInt8} (hx : x.length = 40) : DiskAt (w.setCells p.gk (i * 40) (bytesV x)) p { d with kept := d.kept.set i x } ∧ Near p w (w.setCells p.gk (i * 40) (bytesV x)) := by
  have hk : ∀ k, k ≠ p.gk → (w.setCells p.gk (i * 40) (bytesV x)).heap[k]? = w.heap[k]? := fun k hk => heap_setCells_far p.gk _ _ w k hk
  have hr := setCells_rest p.gk (bytesV x) (i * 40) w
  have hi' : i < d.kept.length := by rw [h.lens]; exact hi
  have hlen : (flatS (d.kept.take i)).length = i * 40 := by
    rw [flatS_length (fun s hs => h.skept s (List.mem_of_mem_take hs)), List.length_take, Nat.min_eq_left (by omega)]
  refine ⟨⟨?_, ?_, ?_, h.snow, ?_, by simpa using h.lens, h.few, ?_, h.swr, h.bits, h.low, h.ne1, h.ne2, h.ne3, h.ne4, h.ne5, h.ne6, h.lo1, h.lo2, h.lo3⟩, ⟨hr.1, hr.2.1, hr.2.2, by rw [size_setCells]; exact Nat.le_refl _, fun k _ _ _ h3 _ => hk k h3⟩⟩
  · rw [hk _ h.ne2]
    exact h.blk
  · rw [hk _ h.ne3]; exact h.now
  · have hn := h.kept
    rw [flatS_split hi'] at hn
    have := heap_setCells p.gk _ _ (bytesV x) (flatS (d.kept.take i)) (bytesV d.kept[i]) (flatS (d.kept.drop (i + 1))) w (by rw [bytesV_length, bytesV_length, hx, h.skept _ (List.getElem_mem hi')]) hn
    rw [hlen] at this
    rw [this, flatS_set hi']
  · intro y hy
    rcases List.mem_or_eq_of_mem_set hy with h1 | h1
    · exact h.skept y h1
    · rw [h1]; exact hx
  · exact ownsRow_far h.wr (fun g hg => hk g (fun e => h.ne6 (by rw [hg, e])))
theorem DiskAt.more {w W : World} {p : Dp} {d : Dk} (h : DiskAt w p d) (hfar : ∀ k, k < w.heap.size → W.heap[k]? = w.heap[k]?) : DiskAt W p d :=
  ⟨by rw [hfar _ (Array.getElem?_eq_some_iff.1 h.blk).1]; exact h.blk, by rw [hfar _ (Array.getElem?_eq_some_iff.1 h.now).1]; exact h.now, by rw [hfar _ (Array.getElem?_eq_some_iff.1 h.kept).1]; exact h.kept, h.snow, h.skept, h.lens, h.few, ownsRow_far h.wr (fun g hg => hfar g (h.wr.lt g hg).2), h.swr, h.bits, h.low, h.ne1, h.ne2, h.ne3, h.ne4, h.ne5, h.ne6, h.lo1, h.lo2, h.lo3⟩
theorem near_alloc (p : Dp) (w : World) (o : Obj) : Near p w (w.alloc o) := ⟨rfl, rfl, rfl, by simp, fun k hk _ _ _ _ => Below.heap_alloc w o k hk⟩
theorem keptBy_step {keep : Nat} {l : List Wr} {k : Nat} (hlt : k < l.length) (K : List (List UInt8)) : keptBy keep (l.drop k) K = keptBy keep (l.drop (k + 1)) (if bitSet keep l[k].bit = true then K.set l[k].spot l[k].data else K) := by
  rw [List.drop_eq_getElem_cons hlt]; rfl

theorem bit_val {keep b : Nat} (hk : keep < 18446744073709551616) : (bits BinOp.and IntKind.u64 ((keep : Int) / 2 ^ b) 1 == 1) = bitSet keep b := by
  have h0 : (0 : Int) ≤ (keep : Int) / 2 ^ b := Int.ediv_nonneg (by omega) (Int.le_of_lt (Int.pow_pos (by decide)))
  have e : (keep : Int) / 2 ^ b = ((keep / 2 ^ b : Nat) : Int) := by push_cast; rfl
  have h1 : keep / 2 ^ b ≤ keep := Nat.div_le_self _ _
  rw [and_one_u64 _ h0 (by rw [e]; omega), e]
  unfold bitSet
  rw [Bool.eq_iff_iff, beq_iff_eq, beq_iff_eq]
  omega

set_option maxRecDepth 100000 in
set_option maxHeartbeats 1000000 in
theorem diskRestart_any (p : Dp) (d : Dk) (keep : Nat) (w : World) (h : DiskAt w p d) (hk : keep < 18446744073709551616) (hl : d.wr.length ≤ 1000000) :
    Calls Try.prog 36 #[.pointer (some ⟨p.B, 0, none⟩), .int .u64 keep] w fun e w' => e = .returned (.tuple #[]) ∧ DiskAt w' { p with wv := .slice none 0 0 } (restartD d keep) ∧ Near p w w' := by
  have HD : Hid (DiskAt w p d) := h
  obtain ⟨va, vc, hv⟩ : ∃ a c, p.wv = .slice a d.wr.length c := by
    rcases h.wr.2 with ⟨e, h0⟩ | ⟨g, cap, cur, e, _⟩
    · exact ⟨none, 0, by rw [e, h0]⟩
    · exact ⟨_, _, e⟩
  obtain ⟨c0, c1, c2, c3, c4, c5⟩ := h.cells
  rw [hv] at c2
  have HL : Hid (d.wr.length ≤ 1000000) := hl
  clear h hl
  go_enter Try.func36, Try.ntmps36
  go_wp2_with fail
  go_loopw [11] (fun i wr => ∃ (k : Nat) (K : List (List UInt8)), k ≤ d.wr.length ∧ i = .int .i64 k ∧ DiskAt wr p { d with kept := K } ∧ keptBy keep (d.wr.drop k) K = keptBy keep d.wr d.kept ∧ Near p w wr) (fun i _ => d.wr.length - (intOf i).toNat)
  case atStart => exact ⟨0, d.kept, Nat.zero_le _, rfl, HD.out, rfl, Near.refl _ _⟩
  case round =>
    obtain ⟨k, K, hkk, rfl, hdk, hfold, hb⟩ := hrel
    have HDK : Hid (DiskAt wr p { d with kept := K }) := hdk
    have HB : Hid (Near p w wr) := hb
    have HF : Hid (keptBy keep (d.wr.drop k) K = keptBy keep d.wr d.kept) := hfold
    clear hdk hfold hb c0 c1 c2 c3 c4 c5
    obtain ⟨c0, c1, c2, c3, c4, c5⟩ := HDK.out.cells
    by_cases hlt : k < d.wr.length
    · have hsw := HDK.out.swr d.wr[k] (List.getElem_mem hlt)
      have hall : ∀ x ∈ d.wr, x.data.length = 40 := fun x hx => (HDK.out.swr x hx).1
      have hown := HDK.out.wr
      obtain ⟨g, rfl⟩ : ∃ g, va = some ⟨g, 0, none⟩ := by
        rcases hown.2 with ⟨_, h0⟩ | ⟨g, cap, cur, e, _⟩
        · have h0' : d.wr.length = 0 := h0
          omega
        · rw [hv] at e; cases e; exact ⟨g, rfl⟩
      rw [hv] at hown c2
      have hrg : wr.rangeAt g (k * 42) (wrV d.wr[k]) := by
        intro j v hj
        have hjl : j < 42 := by
          have := (List.getElem?_eq_some_iff.1 hj).1
          simp [wrV, bytesV_length, hsw.1] at this
          omega
        rw [hown.cellAt (k * 42 + j) (by show k * 42 + j < d.wr.length * 42; omega)]
        exact flatW_at hall k hlt j v hj
      have hw42 : (wrV d.wr[k]).length = 42 := by simp [wrV, bytesV_length, hsw.1]
      obtain ⟨fs, hfs⟩ : ∃ fs, Try.prog.underlying 129 = some (.struct fs) := ⟨_, Try.underlying129⟩
      have HW1 := wrV_one d.wr[k]
      have hbig : d.wr.length ≤ 1000000 := HL.out
      generalize hx : d.wr[k] = x at *
      have hw1 : ∀ h, (wrV x)[1]'h = .int .i64 x.bit := fun _ => rfl
      have hw0 : ∀ h, (wrV x)[0]'h = .int .i64 x.spot := fun _ => rfl
      have hbit := hsw.2.2
      go_wp2_with (first
        | refine wpList_load_mid rfl 129 _ rfl g (k * 42) rfl (wrV x) (.struct fs) hrg hfs rfl (by rw [hw42]; exact Try.sizeWrite) ?_
        | refine wpList_alloc_write rfl rfl ?_
        | refine wpList_store_row rfl _ _ rfl (wrV x) hw42 HW1 rfl rfl ?_)
      · rename_i hyes
        have hbs : bitSet keep x.bit = true := by rw [← bit_val hk]; exact hyes
        clear hyes
        have hX : p.B < wr.heap.size ∧ p.gn < wr.heap.size ∧ p.gk < wr.heap.size := ⟨(Array.getElem?_eq_some_iff.1 HDK.out.blk).1, (Array.getElem?_eq_some_iff.1 HDK.out.now).1, (Array.getElem?_eq_some_iff.1 HDK.out.kept).1⟩
        obtain ⟨W2, hW2⟩ : ∃ W2, W2 = wr.alloc (.cells (wrV x).toArray 129) := ⟨_, rfl⟩
        have HBL : W2.heap[wr.heap.size]? = some (.cells (wrV x).toArray 129 (0, 0)) := by
          rw [hW2]
          show (wr.heap.push _)[wr.heap.size]? = _
          simp
        have hd2 : DiskAt W2 p { d with kept := K } := HDK.out.more (fun j hj => by rw [hW2]; exact Below.heap_alloc wr _ j hj)
        have hb2 : Near p w W2 := by
          rw [hW2]
          exact HB.out.trans (near_alloc p wr _)
        have HD2 : Hid (DiskAt W2 p { d with kept := K }) := hd2
        have HB2 : Hid (Near p w W2) := hb2
        rw [← hW2]
        clear hW2 hb2 hd2 c0 c1 c2 c3 c4 c5 hw1 hw0 hrg HDK hown
        have h40 := hsw.1
        have hil : x.spot < d.now.length := hsw.2.1
        obtain ⟨c0, c1, c2, c3, c4, c5⟩ := HD2.out.cells
        have hun : Try.prog.underlying 127 = some (.array 40 5) := by kernel_rfl
        have hlb : (bytesV x.data).length = 40 := by rw [bytesV_length, h40]
        have hin : (Try.prog.info? 127).map (·.size) = some (bytesV x.data).length := by rw [hlb]; exact Try.sizeSector
        have h1b : ∀ v ∈ bytesV x.data, v.oneCell' = true := by
          intro v hv
          simp only [bytesV, List.mem_map] at hv
          obtain ⟨c, _, rfl⟩ := hv
          rfl
        have hrg : W2.rangeAt wr.heap.size 2 (bytesV x.data) := by
          intro j v hv
          rw [cell_block HBL]
          rw [List.getElem?_toArray, wrV, show 2 + j = j + 1 + 1 by omega, List.getElem?_cons_succ, List.getElem?_cons_succ]
          exact hv
        have hx0 : W2.cell? ⟨wr.heap.size, 0, none⟩ = some (.int .i64 x.spot) := by
          rw [cell_block HBL, List.getElem?_toArray, wrV]
          rfl
        have hth : W2.there p.gk (x.spot * 40) 40 := by
          intro j hj
          rw [cell_block HD2.out.kept, frozen_block HD2.out.kept]
          have h5 := flatS_length HD2.out.skept
          have h6 : K.length = d.now.length := HD2.out.lens
          have h7 : (flatS K).length = K.length * 40 := h5
          simp
          omega
        have hne1 : p.B ≠ p.gk := HD2.out.ne2
        have hneX : wr.heap.size ≠ p.gk := by omega
        have h60 : d.now.length ≤ 60 := HD2.out.few
        have c1' : W2.cell? ⟨p.B, 1, none⟩ = some (.slice (some ⟨p.gk, 0, none⟩) d.now.length d.now.length) := c1
        have k0 : (fun W : World => W.cell? ⟨p.B, 1, none⟩ = some (.slice (some ⟨p.gk, 0, none⟩) d.now.length d.now.length) ∧ W.cell? ⟨wr.heap.size, 0, none⟩ = some (.int .i64 x.spot) ∧ W.rangeAt wr.heap.size 2 (bytesV x.data) ∧ W.there p.gk (x.spot * 40) 40) W2.drew := ⟨c1', hx0, hrg, hth⟩
        have k1 : (fun W : World => W.cell? ⟨p.B, 1, none⟩ = some (.slice (some ⟨p.gk, 0, none⟩) d.now.length d.now.length) ∧ W.cell? ⟨wr.heap.size, 0, none⟩ = some (.int .i64 x.spot) ∧ W.rangeAt wr.heap.size 2 (bytesV x.data) ∧ W.there p.gk (x.spot * 40) 40) (W2.drew.setCells p.gk (x.spot * 40) (bytesV x.data)) := ⟨by rw [World.cell?_setCells_out _ _ _ _ _ (fun e _ => absurd e hne1)]; exact c1', by rw [World.cell?_setCells_out _ _ _ _ _ (fun e _ => absurd e hneX)]; exact hx0, World.rangeAt_setCells_apart (w := W2.drew) hrg _ _ _ (.inl hneX), World.there_setCells (w := W2.drew) hth _ _ _⟩
        have K0 : Hid _ := k0
        have K1 : Hid _ := k1
        clear k0 k1 c0 c1 c2 c3 c4 c5
        go_region_held3 (fun W : World => W.cell? ⟨p.B, 1, none⟩ = some (.slice (some ⟨p.gk, 0, none⟩) d.now.length d.now.length) ∧ W.cell? ⟨wr.heap.size, 0, none⟩ = some (.int .i64 x.spot) ∧ W.rangeAt wr.heap.size 2 (bytesV x.data) ∧ W.there p.gk (x.spot * 40) 40) (first | exact K0.out | exact K1.out) (fail)
        have hlay := (HD2.out.heap (w' := W2.drew) rfl).layKept hil h40
        go_wp2_with fail
        refine ⟨⟨k + 1, K.set x.spot x.data, hlt, rfl, hlay.1, ?_, HB2.out.trans ((Near.drew p W2).trans hlay.2)⟩, ?_⟩
        · have hst := keptBy_step (keep := keep) hlt K
          rw [hx, hbs] at hst
          rw [← HF.out, hst]
          rfl
        · simp [intOf]; omega
      · rename_i hno
        have hbs : bitSet keep x.bit = false := by rw [← bit_val hk]; exact hno
        have hW := HDK.out.more (W := wr.alloc (.cells (wrV x).toArray 129)) (fun j hj => Below.heap_alloc wr _ j hj)
        refine ⟨⟨k + 1, K, hlt, rfl, hW, ?_, HB.out.trans (near_alloc p wr _)⟩, ?_⟩
        · have hst := keptBy_step (keep := keep) hlt K
          rw [hx, hbs] at hst
          rw [← HF.out, hst]
          rfl
        · simp [intOf]; omega
    · have hkl : k = d.wr.length := by omega
      have hK : K = keptBy keep d.wr d.kept := by
        rw [← HF.out, hkl, List.drop_length]
        rfl
      have HD1 : Hid (DiskAt wr p { d with kept := keptBy keep d.wr d.kept }) := by rw [← hK]; exact HDK.out
      have HLN : Hid ((keptBy keep d.wr d.kept).length = d.now.length) := HD1.out.lens
      clear hK HDK HF c0 c1 c2 c3 c4 c5
      obtain ⟨c0, c1, c2, c3, c4, c5⟩ := HD1.out.cells
      have hcp : ∀ (W : World) (ty : TypeId), W.heap = wr.heap → (Builtin.copy_ #[120, 120] ty #[.slice (some ⟨p.gn, 0, none⟩) d.now.length d.now.length, .slice (some ⟨p.gk, 0, none⟩) d.now.length d.now.length]).run Try.prog W = .ok (goInt d.now.length) (W.setRow p.gn (flatS (keptBy keep d.wr d.kept)).toArray) := fun W ty hW =>
        run_copy_sectors W p.gn p.gk d.now.length _ (keptBy keep d.wr d.kept) HD1.out.skept HLN.out (by rw [hW]; exact HD1.out.now) (by rw [List.size_toArray]; exact flatS_length HD1.out.snow) (by rw [hW]; exact HD1.out.kept) ty
      have hdr : ∀ W : World, W.drew.heap = W.heap := fun _ => rfl
      go_wp2_with fail
      go_region_with (fail)
      all_goals
        have hk := (HD1.out.heap (w' := wr.drew) rfl).backAll
        have HK : Hid _ := hk
        clear hk hcp hdr c0 c1 c2 c3 c4 c5
        go_wp2_with fail
        refine (settled_any p _ _ HK.out.1).mono ?_
        rintro e w2 ⟨rfl, hd2, hn2⟩
        have HD2 : Hid (DiskAt w2 _ _) := hd2
        have HB2 : Hid (Near p w w2) := HB.out.trans ((Near.drew p wr).trans (HK.out.2.trans hn2))
        clear hd2 hn2
        obtain ⟨c0, c1, c2, c3, c4, c5⟩ := HD2.out.cells
        have f4 := HD2.out.fr 4
        have f5 := HD2.out.fr 5
        have h4 := HD2.out.put (i := 4) (v := .int .i64 (-1)) (d' := ⟨keptBy keep d.wr d.kept, keptBy keep d.wr d.kept, [], 0, -1, d.down⟩) ⟨rfl, rfl, rfl⟩ rfl (Nat.zero_lt_succ _) (show -9223372036854775808 ≤ (-1 : Int) ∧ (-1 : Int) ≤ 9223372036854775807 from by decide)
        have h5 := h4.1.put (i := 5) (v := .bool false) (d' := restartD d keep) ⟨rfl, rfl, rfl⟩ rfl (Nat.zero_lt_succ _) (show -9223372036854775808 ≤ (-1 : Int) ∧ (-1 : Int) ≤ 9223372036854775807 from by decide)
        have HP : Hid (_ ∧ _) := ⟨h5.1, HB2.out.trans ((h4.2.trans h5.2).same (fun k e => by simp [Value.ownBlock] at e))⟩
        clear h4 h5
        go_wp2_with fail
        refine bodyPost_end (results_none rfl _ _ _) rfl ?_
        exact ⟨rfl, HP.out.1, HP.out.2⟩

end Go.Proofs.Ytihnghnafpgdfab
