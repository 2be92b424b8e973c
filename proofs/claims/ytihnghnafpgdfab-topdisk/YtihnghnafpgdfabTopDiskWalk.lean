/-
  THE WALK OF TopDisk: it returns true, and writes nothing that was there.
-/
import Derived.Test.YtihnghnafpgdfabDiskRestart
import Derived.Test.YtihnghnafpgdfabDiskNew
import Derived.Test.YtihnghnafpgdfabActsBase
namespace Go.Proofs.Ytihnghnafpgdfab
open Go.RowKit
set_option linter.unusedVariables false
set_option linter.unusedSimpArgs false

theorem keptBy_append (keep : Nat) (x : Wr) : ∀ (l : List Wr) (K : List (List UInt8)), keptBy keep (l ++ [x]) K = if bitSet keep x.bit = true then (keptBy keep l K).set x.spot x.data else keptBy keep l K
  | [], _ => rfl
  | _ :: l, _ => keptBy_append keep x l _
/-- A disk of four sectors that stands, and never falls. -/
structure Upright (d : Dk) : Prop where
  four : d.now.length = 4
  left : d.left = -1
  up : d.down = false
theorem Upright.step {d : Dk} (h : Upright d) : stepN d = 0 ∧ stepD d = d := by
  unfold stepN stepD
  simp [h.left, h.up]
theorem Upright.new : Upright (newD 4) := ⟨by simp [newD, noughts], rfl, rfl⟩
theorem Upright.flush {d : Dk} (h : Upright d) : flushD d = { d with kept := d.now, wr := [], bit := 0 } ∧ ∀ p, flushP p d = { p with wv := .slice none 0 0 } := by
  unfold flushD flushP
  simp [h.step]
theorem Upright.write {d : Dk} (h : Upright d) (k : Int) (s : ByteArray) : Upright (writeD d k s) ∧ (writeD d k s).wr.length ≤ d.wr.length + 1 := by
  unfold writeD
  split
  · exact ⟨h, Nat.le_succ _⟩
  · rw [if_pos h.step.1, h.step.2]
    exact ⟨⟨by simp [h.four], h.left, h.up⟩, by simp⟩

def wantV (t : List (List UInt8)) : Array Value := (t.map fun s => Value.string ⟨s.toArray⟩).toArray
/-- Four texts in a box of their own. -/
structure WantAt (w : World) (X : Nat) (t : List (List UInt8)) : Prop where
  blk : w.heap[X]? = some (.cells (wantV t) 105 (0, 0))
  four : t.length = 4
theorem WantAt.apart {w : World} {X : Nat} {t : List (List UInt8)} {p : Dp} {d : Dk} (hx : WantAt w X t) (h : DiskAt w p d) : X ≠ p.B ∧ X ≠ p.gn ∧ X ≠ p.gk ∧ p.wv.ownBlock ≠ some X := by
  have hb := hx.blk
  refine ⟨fun e => ?_, fun e => ?_, fun e => ?_, fun e => ?_⟩
  · rw [e, h.blk] at hb
    simp at hb
  · rw [e, h.now] at hb
    simp at hb
  · rw [e, h.kept] at hb
    simp at hb
  · rcases h.wr.2 with ⟨h0, _⟩ | ⟨g, cap, cur, e0, hg, hh, rest⟩
    · rw [h0] at e; simp [Value.ownBlock] at e
    · rw [e0] at e
      simp only [Value.ownBlock, Option.some.injEq] at e
      rw [← e, hh] at hb
      simp at hb
theorem WantAt.near {w w' : World} {X : Nat} {t : List (List UInt8)} {p : Dp} {d : Dk} (hx : WantAt w X t) (h : DiskAt w p d) (hn : Near p w w') : WantAt w' X t := by
  obtain ⟨a1, a2, a3, a4⟩ := hx.apart h
  exact ⟨by rw [hn.block X (Array.getElem?_eq_some_iff.1 hx.blk).1 a1 a2 a3 a4]; exact hx.blk, hx.four⟩
theorem WantAt.put {w : World} {X : Nat} {t : List (List UInt8)} {p : Dp} {d : Dk} (hx : WantAt w X t) (h : DiskAt w p d) (i : Nat) (s : List UInt8) : WantAt (w.setCell ⟨X, i, none⟩ (.string ⟨s.toArray⟩)) X (t.set i s) ∧ DiskAt (w.setCell ⟨X, i, none⟩ (.string ⟨s.toArray⟩)) p d := by
  obtain ⟨a1, a2, a3, a4⟩ := hx.apart h
  have hk : ∀ k, k ≠ X → (w.setCell ⟨X, i, none⟩ (.string ⟨s.toArray⟩)).heap[k]? = w.heap[k]? := fun k hk => Below.heap_setCell w ⟨X, i, none⟩ _ k hk
  refine ⟨⟨?_, by simp [hx.four]⟩, ⟨by rw [hk _ (Ne.symm a1)]; exact h.blk, by rw [hk _ (Ne.symm a2)]; exact h.now, by rw [hk _ (Ne.symm a3)]; exact h.kept, h.snow, h.skept, h.lens, h.few, ownsRow_far h.wr (fun g hg => hk g (fun e => a4 (by rw [hg, e]))), h.swr, h.bits, h.low, h.ne1, h.ne2, h.ne3, h.ne4, h.ne5, h.ne6, h.lo1, h.lo2, h.lo3⟩⟩
  rw [heap_set hx.blk]
  simp [wantV, List.map_set]
theorem WantAt.cells {w : World} {X : Nat} {t : List (List UInt8)} (hx : WantAt w X t) {i : Nat} (hi : i < 4) : w.cell? ⟨X, i, none⟩ = some (.string ⟨(t.getD i []).toArray⟩) ∧ w.frozen? ⟨X, i, none⟩ = false := by
  refine ⟨?_, frozen_block hx.blk i⟩
  have h4 := hx.four
  rw [cell_block hx.blk]
  simp [wantV, h4, hi, List.getD]
theorem read_good {d : Dk} (h : d.down = false) {i : Nat} (hi : i < d.now.length) : readD d (i : Int) = (d.now.getD i [], 0) := by
  simp [readD, h, hi]

theorem Upright.ways {d : Dk} (h : Upright d) (k : Int) (s : ByteArray) : (writeN d k s = 1 ∧ writeD d k s = d) ∨ (∃ i : Nat, k = i ∧ i < 4 ∧ s.size ≤ 40 ∧ writeN d k s = 0 ∧ writeD d k s = { d with now := d.now.set i (padD s), wr := d.wr ++ [⟨i, d.bit, padD s⟩], bit := (d.bit + 1) % 64 }) := by
  have h4 := h.four
  unfold writeN writeD
  by_cases hb : ¬ (0 ≤ k ∧ k < (d.now.length : Int)) ∨ 40 < s.size
  · rw [if_pos hb, if_pos hb]
    exact .inl ⟨rfl, rfl⟩
  · rw [if_neg hb, if_neg hb, if_pos h.step.1, h.step.2]
    exact .inr ⟨k.toNat, by omega, by omega, by omega, h.step.1, rfl⟩
theorem read_set {d : Dk} (h : Upright d) {i : Nat} (hi : i < 4) (x : List UInt8) (l : List Wr) (b : Nat) (K : List (List UInt8)) : readD { d with now := d.now.set i x, kept := K, wr := l, bit := b } (i : Int) = (x, 0) := by
  refine (read_good (d := { d with now := d.now.set i x, kept := K, wr := l, bit := b }) h.up (by simp [h.four, hi])).trans ?_
  simp [List.getD, h.four, hi]
/-- What stands between the two: the disk with its open writes, and what is wanted of it. -/
structure Wanted (w : World) (p : Dp) (X : Nat) (keep n : Nat) (d : Dk) : Prop where
  disk : DiskAt w p d
  up : Upright d
  bit : d.bit = d.wr.length
  n : d.wr.length = n
  want : WantAt w X (keptBy keep d.wr d.kept)
theorem Wanted.next {w w' : World} {p p' : Dp} {X keep n i : Nat} {d : Dk} {s : ByteArray} (h : Wanted w p X keep n d) (hn : n < 60) (hi : i < 4) (hs : s.size ≤ 40)
    (hd : DiskAt w' p' { d with now := d.now.set i (padD s), wr := d.wr ++ [⟨i, d.bit, padD s⟩], bit := (d.bit + 1) % 64 }) (hx : WantAt w' X (keptBy keep d.wr d.kept)) :
    (bitSet keep n = false → Wanted w' p' X keep (n + 1) { d with now := d.now.set i (padD s), wr := d.wr ++ [⟨i, d.bit, padD s⟩], bit := (d.bit + 1) % 64 }) ∧
    (bitSet keep n = true → Wanted (w'.setCell ⟨X, i, none⟩ (.string ⟨(padD s).toArray⟩)) p' X keep (n + 1) { d with now := d.now.set i (padD s), wr := d.wr ++ [⟨i, d.bit, padD s⟩], bit := (d.bit + 1) % 64 }) := by
  have hb : d.bit = n := h.bit.trans h.n
  have h1 := h.n
  refine ⟨fun hf => ⟨hd, ⟨by simp [h.up.four], h.up.left, h.up.up⟩, by simp; omega, by simp; omega, ?_⟩, fun hf => ?_⟩
  · show WantAt w' X (keptBy keep (d.wr ++ [⟨i, d.bit, padD s⟩]) d.kept)
    rw [keptBy_append]
    show WantAt w' X (if bitSet keep d.bit = true then _ else _)
    rw [hb, hf]
    exact hx
  · have hp := hx.put hd i (padD s)
    refine ⟨hp.2, ⟨by simp [h.up.four], h.up.left, h.up.up⟩, by simp; omega, by simp; omega, ?_⟩
    show WantAt _ X (keptBy keep (d.wr ++ [⟨i, d.bit, padD s⟩]) d.kept)
    rw [keptBy_append]
    show WantAt _ X (if bitSet keep d.bit = true then _ else _)
    rw [hb, hf]
    exact hp.1

set_option maxRecDepth 100000 in
set_option maxHeartbeats 8000000 in
theorem topDisk_any (a : Option Addr) (cap : Nat) (l : List Ac) (a' : Option Addr) (cap' : Nat) (l' : List Ac) (keep : Nat) (w : World) (hm : l.length ≤ maxLen) (hs : ActCells w a l) (hm' : l'.length ≤ maxLen) (hs' : ActCells w a' l') (hk : keep < 18446744073709551616) :
    Calls Try.prog 10 #[.slice a l.length cap, .slice a' l'.length cap', .int .u64 keep] w fun e w' => e = .returned (.bool true) ∧ Below w.heap.size w w' := by
  have HC : Hid (ActCells w a l) := hs
  have HC' : Hid (ActCells w a' l') := hs'
  have hl1 := hm
  have hl2 := hm'
  unfold maxLen at hl1 hl2
  clear hs hs'
  go_enter Try.func10, Try.ntmps10
  go_wp2_with fail
  refine (diskNew_good 4 _ (by decide) (by decide)).mono ?_
  rintro e w1 ⟨B, gn, gk, rfl, hd1, hb1⟩
  have HB1 : Hid (Below w.heap.size w w1) := hb1
  have HD1 : Hid (DiskAt w1 ⟨w.heap.size, B, gn, gk, .slice none 0 0⟩ (newD 4)) := hd1
  clear hb1 hd1
  go_wp2_with fail
  refine (diskFlush_any _ _ _ HD1.out).mono ?_
  rintro e w2 ⟨rfl, hd2, hn2⟩
  rw [errV_zero Upright.new.step.1]
  rw [Upright.new.flush.1, Upright.new.flush.2] at hd2
  have HB2 : Hid (Below w.heap.size w w2) := HB1.out.trans (hn2.low HD1.out)
  have HU2 : Hid (Upright { newD 4 with kept := (newD 4).now, wr := [], bit := 0 }) := ⟨Upright.new.four, rfl, rfl⟩
  have HD2 : Hid (DiskAt w2 ⟨w.heap.size, B, gn, gk, .slice none 0 0⟩ { newD 4 with kept := (newD 4).now, wr := [], bit := 0 }) := hd2
  have HZ2 : Hid (({ newD 4 with kept := (newD 4).now, wr := [], bit := 0 } : Dk).wr.length = 0) := rfl
  clear hd2 hn2 HB1 HD1
  generalize ({ newD 4 with kept := (newD 4).now, wr := [], bit := 0 } : Dk) = d2 at *
  have h4 := HU2.out.four
  go_wp2_with fail
  refine (sectors_any _ _ _ HD2.out).mono ?_
  rintro e w' ⟨rfl, hw⟩
  rw [hw, h4]
  clear hw w'
  go_wp2_with fail
  refine (lightActs_any a cap l 40 _ hm (by decide) (HC.out.below HB2.out)).mono ?_
  rintro e w' ⟨⟨lb, rfl, hlb⟩, hw⟩
  rw [hw]
  clear hw w'
  cases lb with
  | false =>
    clear hlb
    go_wp2
    go_ret
    exact ⟨rfl, HB2.out⟩
  | true =>
    have HLA : Hid (LightA l 40) := hlb rfl
    clear hlb
    go_wp2_with fail
    refine (lightActs_any a' cap' l' 60 _ hm' (by decide) (HC'.out.below HB2.out)).mono ?_
    rintro e w' ⟨⟨lb, rfl, hlb⟩, hw⟩
    rw [hw]
    clear hw w'
    cases lb with
    | false =>
      clear hlb
      go_wp2
      go_ret
      exact ⟨rfl, HB2.out⟩
    | true =>
      have HLB : Hid (LightA l' 60) := hlb rfl
      clear hlb
      go_wp2_with fail
      go_loopw [9] (fun i wr => ∃ (k : Nat) (v : Value) (d : Dk), k ≤ l.length ∧ i = .int .i64 k ∧ DiskAt wr ⟨w.heap.size, B, gn, gk, v⟩ d ∧ Upright d ∧ d.wr.length ≤ k ∧ Below w.heap.size w wr) (fun i _ => l.length - (intOf i).toNat)
      case atStart => exact ⟨0, _, _, Nat.zero_le _, rfl, HD2.out, HU2.out, Nat.le_of_eq HZ2.out, HB2.out⟩
      case round =>
        obtain ⟨k, v, d, hkk, rfl, hd, hu, hle, hb⟩ := hrel
        have HD : Hid (DiskAt wr ⟨w.heap.size, B, gn, gk, v⟩ d) := hd
        have HU : Hid (Upright d) := hu
        have HB : Hid (Below w.heap.size w wr) := hb
        have h40 := HLA.out.1
        clear hd hu hb HD2 HU2 HZ2 HB2 h4
        by_cases hlt : k < l.length
        · obtain ⟨b, off, rfl, ⟨c0, c1, c2, c3, c4, c5⟩, ok⟩ := HC.out.below HB.out k hlt
          have HS : Hid (l[k].s.size ≤ maxLen) := ok.s
          clear ok c0 c2 c4 c5
          go_wp2_with fail
          go_region_with (go_at_call 29
                          refine (diskWrite_any ⟨w.heap.size, B, gn, gk, v⟩ d l[k].n l[k].s _ (by exact HD.out.heap rfl) HS.out (by omega)).mono ?_
                          rintro e w3 ⟨rfl, v3, hd3, hn3⟩
                          have HD3 : Hid (DiskAt w3 ⟨w.heap.size, B, gn, gk, v3⟩ (writeD d l[k].n l[k].s)) := hd3
                          have HB3 : Hid (Below w.heap.size w w3) := HB.out.trans ((Near.low (p := ⟨w.heap.size, B, gn, gk, v⟩) ((Near.drew _ wr).trans hn3) HD.out))
                          clear hd3 hn3)
          all_goals
            go_wp2_with fail
            have hw := HU.out.write l[k].n l[k].s
            exact ⟨⟨k + 1, v3, _, by omega, by go_num, HD3.out, hw.1, by omega, HB3.out⟩, by simp [intOf]; omega⟩
        · have hst := HU.out.step
          go_wp2_with fail
          refine (diskFlush_any _ _ _ HD.out).mono ?_
          rintro e w4 ⟨rfl, hd4, hn4⟩
          rw [errV_zero hst.1]
          rw [HU.out.flush.1, HU.out.flush.2] at hd4
          have HB4 : Hid (Below w.heap.size w w4) := HB.out.trans (hn4.low HD.out)
          have HD4 : Hid (DiskAt w4 ⟨w.heap.size, B, gn, gk, .slice none 0 0⟩ ⟨d.now, d.now, [], 0, -1, false⟩) := by
            have e1 := HU.out.left
            have e2 := HU.out.up
            rw [← e1, ← e2]
            exact hd4
          have HN4 : Hid (d.now.length = 4) := HU.out.four
          clear hd4 hn4 hst HU HD HB hle
          generalize d.now = S at *
          clear hkk hlt
          go_wp2_with fail
          have hx4 : WantAt (w4.alloc (.cells #[.string ⟨#[]⟩, .string ⟨#[]⟩, .string ⟨#[]⟩, .string ⟨#[]⟩] 105)) w4.heap.size [[], [], [], []] := ⟨by
            show (w4.heap.push _)[w4.heap.size]? = _
            simp [wantV], rfl⟩
          have hd5 := HD4.out.more (W := w4.alloc (.cells #[.string ⟨#[]⟩, .string ⟨#[]⟩, .string ⟨#[]⟩, .string ⟨#[]⟩] 105)) (fun j hj => Below.heap_alloc w4 _ j hj)
          have hb5 := HB4.out.alloc HB4.out.size (.cells #[.string ⟨#[]⟩, .string ⟨#[]⟩, .string ⟨#[]⟩, .string ⟨#[]⟩] 105)
          have HX4 : Hid (WantAt _ w4.heap.size _) := hx4
          have HD5 : Hid (DiskAt (w4.alloc _) _ _) := hd5
          have HB5 : Hid (Below w.heap.size w (w4.alloc _)) := hb5
          have hlX : w.heap.size ≤ w4.heap.size := HB4.out.size
          clear hx4 hd5 hb5 HD4 HB4
          go_loopw [11] (fun i wr => ∃ (k : Nat) (t : List (List UInt8)), k ≤ 4 ∧ i = .int .i64 k ∧ DiskAt wr ⟨w.heap.size, B, gn, gk, .slice none 0 0⟩ ⟨S, S, [], 0, -1, false⟩ ∧ WantAt wr w4.heap.size t ∧ (∀ j, j < k → t.getD j [] = S.getD j []) ∧ Below w.heap.size w wr) (fun i _ => 4 - (intOf i).toNat)
          case atStart => exact ⟨0, _, Nat.zero_le _, rfl, HD5.out, HX4.out, (fun j h => absurd h (Nat.not_lt_zero _)), HB5.out⟩
          case round =>
            obtain ⟨k, t, hkk, rfl, hd, hx, heq, hb⟩ := hrel
            have HD : Hid (DiskAt wr ⟨w.heap.size, B, gn, gk, .slice none 0 0⟩ ⟨S, S, [], 0, -1, false⟩) := hd
            have HX : Hid (WantAt wr w4.heap.size t) := hx
            have HE : Hid (∀ j, j < k → t.getD j [] = S.getD j []) := heq
            have HB : Hid (Below w.heap.size w wr) := hb
            clear hd hx heq hb HX4 HD5 HB5
            by_cases hlt : k < 4
            · obtain ⟨x0, xf⟩ := HX.out.cells hlt
              have HRD : Hid (readD ⟨S, S, [], 0, -1, false⟩ (k : Int) = (S.getD k [], 0)) := read_good rfl (by rw [show (⟨S, S, [], 0, -1, false⟩ : Dk).now.length = 4 from HN4.out]; exact hlt)
              go_wp2_with (go_at_call 31; refine (diskRead_any _ _ (k : Int) _ HD.out).mono ?_; rintro e w' ⟨rfl, hw⟩; rw [hw, HRD.out, errV_zero rfl]; clear hw w')
              have hp := HX.out.put HD.out k (S.getD k [])
              refine ⟨⟨k + 1, t.set k (S.getD k []), hlt, by go_num, hp.2, hp.1, ?_, HB.out.setCell hlX _⟩, by simp [intOf]; omega⟩
              intro j hj
              have h4 := HX.out.four
              by_cases hjk : j = k
              · subst hjk
                simp [List.getD, h4, hlt]
              · have := HE.out j (by omega)
                simpa [List.getD, Ne.symm hjk] using this
            · have HK4 : Hid (k = 4) := by show k = 4; omega
              have HT : Hid (t = S) := by
                show t = S
                have h4 := HX.out.four
                have h4' := HN4.out
                refine List.ext_getElem (by omega) (fun j h1 h2 => ?_)
                have := HE.out j (by rw [HK4.out]; omega)
                simpa [List.getD, h1, h2] using this
              clear HE
              go_wp2_with fail
              have hw0 : Wanted wr ⟨w.heap.size, B, gn, gk, .slice none 0 0⟩ w4.heap.size keep 0 ⟨S, S, [], 0, -1, false⟩ := ⟨HD.out, ⟨HN4.out, rfl, rfl⟩, rfl, rfl, by rw [HT.out] at HX; exact HX.out⟩
              have HW0 : Hid (Wanted wr ⟨w.heap.size, B, gn, gk, .slice none 0 0⟩ w4.heap.size keep 0 ⟨S, S, [], 0, -1, false⟩) := hw0
              have HB0 : Hid (Below w.heap.size w wr) := HB.out
              clear hw0 HD HX HT HN4 HB
              go_loopw [14, 15] (fun m i wr => ∃ (k n : Nat) (v : Value) (d : Dk), k ≤ l'.length ∧ i = .int .i64 k ∧ m = .int .i64 n ∧ n ≤ k ∧ Wanted wr ⟨w.heap.size, B, gn, gk, v⟩ w4.heap.size keep n d ∧ Below w.heap.size w wr) (fun _ i _ => l'.length - (intOf i).toNat)
              case atStart => exact ⟨0, 0, _, _, Nat.zero_le _, rfl, rfl, Nat.le_refl _, HW0.out, HB0.out⟩
              case round =>
                obtain ⟨k, n, v, d, hkk, rfl, rfl, hnk, hwd, hb⟩ := hrel
                have HW : Hid (Wanted wr ⟨w.heap.size, B, gn, gk, v⟩ w4.heap.size keep n d) := hwd
                have HB : Hid (Below w.heap.size w wr) := hb
                have h60 := HLB.out.1
                clear hwd hb HW0 HB0
                by_cases hlt : k < l'.length
                · obtain ⟨b, off, rfl, ⟨c0, c1, c2, c3, c4, c5⟩, ok⟩ := HC'.out.below HB.out k hlt
                  have HS : Hid (l'[k].s.size ≤ maxLen) := ok.s
                  have HCC : Hid (ActCells w (some ⟨b, off, none⟩) l') := HC'.out
                  clear ok c0 c2 c4 c5
                  rcases HW.out.up.ways l'[k].n l'[k].s with ⟨e1, e2⟩ | ⟨i, ei, hi, hs40, e1, e2⟩
                  · have HE1 : Hid (writeN d l'[k].n l'[k].s = 1) := e1
                    have HE2 : Hid (writeD d l'[k].n l'[k].s = d) := e2
                    clear e1 e2
                    go_wp2_with fail
                    go_region_with (go_at_call 29
                                    refine (diskWrite_any ⟨w.heap.size, B, gn, gk, v⟩ d l'[k].n l'[k].s _ (by exact HW.out.disk.heap rfl) HS.out (by have := HW.out.n; omega)).mono ?_
                                    rintro e w5 ⟨rfl, v5, hd5, hn5⟩
                                    rw [HE1.out, errV_pos (by decide)]
                                    rw [HE2.out] at hd5
                                    have hnn : Near ⟨w.heap.size, B, gn, gk, v⟩ wr w5 := (Near.drew _ wr).trans hn5
                                    have HB5 : Hid (Below w.heap.size w w5) := HB.out.trans (hnn.low HW.out.disk)
                                    have HW5 : Hid (Wanted w5 ⟨w.heap.size, B, gn, gk, v5⟩ w4.heap.size keep n d) := ⟨hd5, HW.out.up, HW.out.bit, HW.out.n, HW.out.want.near HW.out.disk hnn⟩
                                    clear hd5 hn5 hnn)
                    all_goals
                      go_wp2_with fail
                      exact ⟨⟨k + 1, n, v5, d, hlt, by go_num, rfl, by omega, HW5.out, HB5.out⟩, by simp [intOf]; omega⟩
                  · rw [ei] at c3 e1 e2
                    have HEI : Hid (l'[k].n = (i : Int)) := ei
                    have HE1 : Hid (writeN d (i : Int) l'[k].s = 0) := e1
                    have HE2 : Hid (writeD d (i : Int) l'[k].s = { d with now := d.now.set i (padD l'[k].s), wr := d.wr ++ [⟨i, d.bit, padD l'[k].s⟩], bit := (d.bit + 1) % 64 }) := e2
                    clear e1 e2 ei
                    go_wp2_with fail
                    go_region_with (go_at_call 29
                                    refine (diskWrite_any ⟨w.heap.size, B, gn, gk, v⟩ d (i : Int) l'[k].s _ (by exact HW.out.disk.heap rfl) HS.out (by have := HW.out.n; omega)).mono ?_
                                    rintro e w5 ⟨rfl, v5, hd5, hn5⟩
                                    rw [HE1.out, errV_zero rfl]
                                    rw [HE2.out] at hd5
                                    have hnn : Near ⟨w.heap.size, B, gn, gk, v⟩ wr w5 := (Near.drew _ wr).trans hn5
                                    have HB5 : Hid (Below w.heap.size w w5) := HB.out.trans (hnn.low HW.out.disk)
                                    have HD5 : Hid (DiskAt w5 ⟨w.heap.size, B, gn, gk, v5⟩ { d with now := d.now.set i (padD l'[k].s), wr := d.wr ++ [⟨i, d.bit, padD l'[k].s⟩], bit := (d.bit + 1) % 64 }) := hd5
                                    have HX5 : Hid (WantAt w5 w4.heap.size (keptBy keep d.wr d.kept)) := HW.out.want.near HW.out.disk hnn
                                    clear hd5 hn5 hnn)
                    all_goals
                      clear c1 c3
                      obtain ⟨b', off', eb, ⟨_, _, _, c3, _, _⟩, _⟩ := HCC.out.below HB5.out k hlt
                      cases eb
                      rw [HEI.out] at c3
                      obtain ⟨x0, xf⟩ := HX5.out.cells hi
                      have HNX : Hid _ := HW.out.next (by omega) hi hs40 HD5.out HX5.out
                      have HRD : Hid (readD { d with now := d.now.set i (padD l'[k].s), wr := d.wr ++ [⟨i, d.bit, padD l'[k].s⟩], bit := (d.bit + 1) % 64 } (i : Int) = (padD l'[k].s, 0)) := by
                        show _ = _
                        exact read_set HW.out.up hi _ _ _ _
                      have hn60 : n < 64 := by omega
                      go_wp2_with (go_at_call 31; refine (diskRead_any _ _ (i : Int) _ HD5.out).mono ?_; rintro e w' ⟨rfl, hw⟩; rw [hw, HRD.out, errV_zero rfl]; clear hw w')
                    all_goals
                      refine ⟨?_, by simp [intOf]; omega⟩
                      first
                        | exact ⟨k + 1, n + 1, v5, _, hlt, by go_num, by go_num, by omega, HNX.out.1 (by rw [← bit_val hk]; assumption), HB5.out⟩
                        | exact ⟨k + 1, n + 1, v5, _, hlt, by go_num, by go_num, by omega, HNX.out.2 (by rw [← bit_val hk]; assumption), HB5.out.setCell hlX _⟩
                · go_wp2_with fail
                  refine (diskRestart_any _ _ keep _ HW.out.disk hk (by have := HW.out.n; omega)).mono ?_
                  rintro e w6 ⟨rfl, hd6, hn6⟩
                  have HB6 : Hid (Below w.heap.size w w6) := HB.out.trans (hn6.low HW.out.disk)
                  have HX6 : Hid (WantAt w6 w4.heap.size (keptBy keep d.wr d.kept)) := HW.out.want.near HW.out.disk hn6
                  have HD6 : Hid (DiskAt w6 ⟨w.heap.size, B, gn, gk, .slice none 0 0⟩ (restartD d keep)) := hd6
                  have HRD : Hid (∀ i : Nat, i < 4 → readD (restartD d keep) (i : Int) = ((keptBy keep d.wr d.kept).getD i [], 0)) := fun i hi => read_good rfl (by show i < (keptBy keep d.wr d.kept).length; rw [HX6.out.four]; exact hi)
                  clear hd6 hn6 HW HB
                  generalize keptBy keep d.wr d.kept = T at *
                  generalize restartD d keep = D at *
                  go_wp2_with fail
                  go_loop [18] (fun i => ∃ k : Nat, k ≤ 4 ∧ i = .int .i64 k) (fun i => 4 - (intOf i).toNat)
                  case atStart => exact ⟨0, Nat.zero_le _, rfl⟩
                  case round =>
                    obtain ⟨j, hj, rfl⟩ := hrel
                    by_cases hjt : j < 4
                    · obtain ⟨x0, xf⟩ := HX6.out.cells hjt
                      have HR : Hid (readD D (j : Int) = (T.getD j [], 0)) := HRD.out j hjt
                      generalize T.getD j [] = z at *
                      go_wp2_with (go_at_call 31; refine (diskRead_any _ _ (j : Int) _ HD6.out).mono ?_; rintro e w' ⟨rfl, hw⟩; rw [hw, HR.out, errV_zero rfl]; clear hw w')
                      all_goals exact ⟨⟨j + 1, hjt, by go_num⟩, by simp [intOf]; omega⟩
                    · go_wp2
                      go_ret
                      exact ⟨rfl, HB6.out⟩

end Go.Proofs.Ytihnghnafpgdfab
