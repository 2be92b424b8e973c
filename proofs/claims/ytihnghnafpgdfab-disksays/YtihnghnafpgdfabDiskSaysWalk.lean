/-
  THE WALK OF DiskSays: it returns true, and writes nothing that was there.
-/
import Derived.Test.YtihnghnafpgdfabDiskAgree
import Derived.Test.YtihnghnafpgdfabActsBase
import Derived.Test.YtihnghnafpgdfabOpenRows
import Derived.Test.YtihnghnafpgdfabLater
import Derived.Deep.RegionHeld3
import Derived.Deep.DeepCutAuto
import Derived.Deep.CutBlock
import Derived.OpenShut
namespace Go.Proofs.Ytihnghnafpgdfab
open Go.RowKit Go.BigFrame
set_option linter.unusedVariables false
set_option linter.unusedSimpArgs false

theorem Below.diskAt {w w' : World} {p : Dp} {d : Dk} (h : DiskAt w p d) (hb : Below w.heap.size w w') : DiskAt w' p d :=
  h.far fun k hk => hb.block k (by
    rcases hk with rfl | rfl | rfl | hk
    · exact (Array.getElem?_eq_some_iff.1 h.blk).1
    · exact (Array.getElem?_eq_some_iff.1 h.now).1
    · exact (Array.getElem?_eq_some_iff.1 h.kept).1
    · exact (h.wr.lt k hk).2)
theorem Below.rAt {w w' : World} {q : Rp} {e : Dk} (h : RAt w q e) (hb : Below w.heap.size w w') : RAt w' q e := h.far fun k hk => hb.block k (h.own_lt hk).2
/-- Both disks, where they stand. -/
structure Two (w0 W : World) (p : Dp) (q : Rp) (d e : Dk) (n k : Nat) : Prop where
  da : DiskAt W p d
  ra : RAt W q e
  ag : Agree d e n k
  bl : Below w0.heap.size w0 W
  lo1 : w0.heap.size ≤ p.lo
  lo2 : w0.heap.size ≤ q.lo
theorem Two.below {w0 W W' : World} {p : Dp} {q : Rp} {d e : Dk} {n k : Nat} (h : Two w0 W p q d e n k) (hb : Below W.heap.size W W') : Two w0 W' p q d e n k :=
  ⟨Below.diskAt h.da hb, Below.rAt h.ra hb, h.ag, h.bl.trans (hb.mono h.bl.size), h.lo1, h.lo2⟩
/-- An act's box. -/
def ActBox (W : World) (b : Nat) (x : Ac) : Prop := W.heap[b]? = some (.cells #[.string x.kind, .string x.s, .string x.t, .int .i64 x.n, .int .u64 x.k, .slice x.ca x.cl.length x.cc] 26 (0, 0))
theorem ActBox.cells {W : World} {b : Nat} {x : Ac} (h : ActBox W b x) : W.cell? ⟨b, 0, none⟩ = some (.string x.kind) ∧ W.cell? ⟨b, 1, none⟩ = some (.string x.s) ∧ W.cell? ⟨b, 3, none⟩ = some (.int .i64 x.n) ∧ W.cell? ⟨b, 4, none⟩ = some (.int .u64 x.k) :=
  ⟨by rw [cell_block h]; rfl, by rw [cell_block h]; rfl, by rw [cell_block h]; rfl, by rw [cell_block h]; rfl⟩
theorem ActBox.below {W W' : World} {b : Nat} {x : Ac} (h : ActBox W b x) (hb : Below W.heap.size W W') : ActBox W' b x := by
  unfold ActBox
  rw [hb.block b (Array.getElem?_eq_some_iff.1 h).1]; exact h
theorem ActBox.near {W W' : World} {b : Nat} {x : Ac} {p : Dp} {d : Dk} (h : ActBox W b x) (hd : DiskAt W p d) (hn : Near p W W') : ActBox W' b x := by
  unfold ActBox at h ⊢
  rw [hn.block b (Array.getElem?_eq_some_iff.1 h).1 (fun e => by subst e; rw [hd.blk] at h; simp at h) (fun e => by subst e; rw [hd.now] at h; simp at h) (fun e => by subst e; rw [hd.kept] at h; simp at h) (fun e => by obtain ⟨c, f, e'⟩ := Lib.ownsRow_kind hd.wr b e; rw [h] at e'; simp at e')]
  exact h
theorem ActBox.rnear {W W' : World} {b : Nat} {x : Ac} {q : Rp} {e : Dk} (h : ActBox W b x) (hr : RAt W q e) (hn : RNear q W W') : ActBox W' b x := by
  unfold ActBox at h ⊢
  rw [hn.block b (Array.getElem?_eq_some_iff.1 h).1 (fun ho => by
    obtain ⟨C, T, fr, hb, hT⟩ := hr.kind ho
    rw [h] at hb; simp at hb
    rcases hT with rfl | rfl | rfl <;> simp at hb)]
  exact h
theorem readD_rng (d : Dk) (k : Int) : 0 ≤ (readD d k).2 ∧ (readD d k).2 ≤ 100 := by
  unfold readD; split
  · simp
  · split <;> simp
theorem writeN_rng (d : Dk) (k : Int) (s : ByteArray) : 0 ≤ writeN d k s ∧ writeN d k s ≤ 100 := by
  unfold writeN stepN; split
  · omega
  · split <;> omega
theorem ptr_eq {a b : Nat} (h : a = b) : Value.pointer (some ⟨a, 0, none⟩) = Value.pointer (some ⟨b, 0, none⟩) := by rw [h]
theorem Near.drewW {p : Dp} (w : World) : Near p w w.drew := ⟨rfl, rfl, rfl, Nat.le_refl _, fun _ _ _ _ _ _ => rfl⟩

set_option maxRecDepth 100000 in
theorem refNew_bad (n : Int) (w : World) (h : n < 1 ∨ 60 < n) :
    Calls Try.prog 26 #[.int .i64 n] w fun e w' => e = .returned (.tuple #[.pointer none, .int .i64 1]) ∧ w' = w := by
  by_cases h1 : n < 1
  · go_enter Try.func26, Try.ntmps26
    go_wp2
    go_ret2
    exact ⟨rfl, rfl⟩
  · have h2 : 60 < n := by omega
    clear h
    go_enter Try.func26, Try.ntmps26
    go_wp2
    go_ret2
    exact ⟨rfl, rfl⟩

set_option maxRecDepth 100000 in
set_option maxHeartbeats 4000000 in
theorem diskSays_any (n : Int) (a : Option Addr) (cap : Nat) (l : List Ac) (w : World) (hl : l.length ≤ maxLen) (hc : ActCells w a l) (hnum : ∀ i (h : i < l.length), ActNum l[i]) :
    Calls Try.prog 6 #[.int .i64 n, .slice a l.length cap] w fun e w' => e = .returned (.bool true) ∧ Below w.heap.size w w' := by
  have HC : Hid (ActCells w a l) := hc
  have HL : Hid _ := hl
  have HNUM : Hid (∀ i (h : i < l.length), ActNum l[i]) := hnum
  clear hc hl hnum
  go_enter Try.func6, Try.ntmps6
  go_wp2_with fail
  refine (spins_any w).mono ?_
  rintro e w1 ⟨rfl, hb⟩
  have HB1 : Hid (Below w.heap.size w w1) := hb
  clear hb
  go_wp2_with fail
  refine (lightActs_any a cap l 80 _ HL.out (by decide) (HC.out.below HB1.out)).mono ?_
  rintro e w2 ⟨⟨lb, rfl, hlb⟩, hw⟩
  rw [hw]
  clear hw w2
  cases lb
  · clear hlb
    go_wp2
    go_ret
    exact ⟨rfl, HB1.out⟩
  have HLA : Hid (LightA l 80) := hlb rfl
  clear hlb
  by_cases hbad : n < 1 ∨ 60 < n
  · go_wp2_with fail
    refine (diskNew_bad n w1 hbad).mono ?_
    rintro e w2 ⟨rfl, hw⟩
    rw [hw]
    clear hw w2
    go_wp2_with fail
    refine (refNew_bad n w1 hbad).mono ?_
    rintro e w2 ⟨rfl, hw⟩
    rw [hw]
    clear hw w2
    have ks := same_yes 1 w1 (by decide) (by decide)
    rw [errV_pos (by decide)] at ks
    go_wp2_with fail
    refine Calls.mono ks ?_
    rintro e w2 ⟨rfl, hw⟩
    rw [hw]
    clear hw w2 ks
    go_wp2
    go_ret
    exact ⟨rfl, HB1.out⟩
  obtain ⟨N, rfl⟩ : ∃ N : Nat, n = N := ⟨n.toNat, by omega⟩
  have hN1 : 1 ≤ N := by omega
  have hN60 : N ≤ 60 := by omega
  clear hbad
  go_wp2_with fail
  refine (diskNew_good N w1 hN1 hN60).mono ?_
  rintro e w2 ⟨B, gn, gk, rfl, hd, hb⟩
  have HD2 : Hid _ := hd
  have HB2 : Hid (Below w.heap.size w w2) := HB1.out.trans (hb.mono HB1.out.size)
  have hlo1 : w.heap.size ≤ w1.heap.size := HB1.out.size
  clear hd hb HB1
  go_wp2_with fail
  refine (refNew_any N w2 hN1 hN60).mono ?_
  rintro e w3 ⟨⟨lo0, B2, kv0, nv0, tv0⟩, rfl, hq0, hr, hb⟩
  simp only at hq0
  have HT3 : Hid (Two w w3 ⟨w1.heap.size, B, gn, gk, .slice none 0 0⟩ ⟨lo0, B2, kv0, nv0, tv0⟩ (newD N) (newD N) N 0) := ⟨Below.diskAt HD2.out hb, hr, newD_agree N, HB2.out.trans (hb.mono HB2.out.size), hlo1, by show w.heap.size ≤ lo0; rw [hq0]; exact HB2.out.size⟩
  have hlenN : (newD N).now.length = N := by simp [newD, noughts]
  have ks := sectors_any _ (newD N) w3 HT3.out.da
  rw [hlenN] at ks
  have KS : Hid _ := ks
  clear ks hb hr hq0 HD2 HB2 hlo1 hlenN
  go_wp2_with fail
  refine Calls.mono KS.out ?_
  rintro e w4 ⟨rfl, hw⟩
  rw [hw]
  clear hw w4 KS
  have hl80 : l.length ≤ 80 := HLA.out.1
  go_wp2_with fail
  go_loopg [10] (l.length + 1) (fun kx vi wr => ∃ (k : Nat) (p : Dp) (q : Rp) (d e : Dk), vi = .int .i64 k ∧ k ≤ l.length ∧ l.length - k ≤ kx ∧ Hid (p.B = B) ∧ Hid (q.B = B2) ∧ Hid (Two w wr p q d e N k))
  case atStart => exact ⟨0, ⟨w1.heap.size, B, gn, gk, .slice none 0 0⟩, ⟨lo0, B2, kv0, nv0, tv0⟩, newD N, newD N, rfl, by omega, by omega, (show B = B from rfl), (show B2 = B2 from rfl), HT3⟩
  case round =>
    obtain ⟨k, p, q, d, e, rfl, hk, hkx, HP, HQ, HT⟩ := hrel
    clear HT3
    by_cases hlt : k < l.length
    · have hltz : (k : Int) < (l.length : Int) := by omega
      obtain ⟨b, off, rfl, ⟨c0, c1, c2, c3, c4, c5⟩, ok⟩ := HC.out.below HT.out.bl k hlt
      have HS : Hid (l[k].s.size ≤ maxLen) := ok.s
      have HNU : Hid (ActNum l[k]) := HNUM.out k hlt
      clear ok
      generalize l[k] = x at *
      go_upto_block 2 with fail
      obtain ⟨W, hW⟩ : ∃ u, u = wr.alloc (.cells #[.string x.kind, .string x.s, .string x.t, .int .i64 x.n, .int .u64 x.k, .slice x.ca x.cl.length x.cc] 26) := ⟨_, rfl⟩
      have HTW : Hid (Two w W p q d e N k) := by rw [hW]; exact HT.out.below ((Below.refl _ _).alloc (Nat.le_refl _) _)
      have HAB : Hid (ActBox W wr.heap.size x) := by rw [hW]; exact heap_alloc_new wr _
      rw [← hW]
      clear hW c0 c1 c2 c3 c4 c5 HT
      obtain ⟨a0, a1, a3, a4⟩ := HAB.out.cells
      go_cut [12] (fun okv wx => okv = .bool true ∧ ∃ p' q' d' e', Hid (p'.B = B) ∧ Hid (q'.B = B2) ∧ Hid (Two w wx p' q' d' e' N (k + 1)))
      case first =>
        have hdf : d.wr.length < 120 := by have := HTW.out.ag.few; omega
        have hef : e.wr.length < 1000 := by have := HTW.out.ag.few; rw [HTW.out.ag.wr]; omega
        have hne : 0 < e.now.length := by have := HTW.out.ag.many; rw [HTW.out.ag.now]; omega
        have hpB := HP.out
        have hqB := HQ.out
        cases k1 : (x.kind.toList == [119, 114, 105, 116, 101])
        · cases k2 : (x.kind.toList == [114, 101, 97, 100])
          · cases k3 : (x.kind.toList == [102, 108, 117, 115, 104])
            · cases k4 : (x.kind.toList == [97, 114, 109])
              · obtain ⟨kk, hkk⟩ : ∃ kk : Nat, x.k = kk := ⟨x.k.toNat, by have := bounds_u64 HNU.out.k; omega⟩
                have hkl : kk < 18446744073709551616 := by have := bounds_u64 HNU.out.k; omega
                rw [hkk] at a4
                have kf := diskRestart_any p d kk W HTW.out.da hkl (by omega)
                rw [ptr_eq hpB] at kf
                have KF : Hid _ := kf
                clear kf
                go_wp2_with fail
                refine Calls.mono KF.out ?_
                rintro en w5 ⟨rfl, hd5, hn5⟩
                have HD5 : Hid _ := hd5
                have HR5 : Hid (RAt w5 q e) := HTW.out.ra.over HTW.out.da hn5
                have HB5 : Hid (Below w.heap.size w w5) := HTW.out.bl.trans ((hn5.low HTW.out.da).mono HTW.out.lo1)
                have HA5 : Hid (ActBox w5 wr.heap.size x) := HAB.out.near HTW.out.da hn5
                have kg := refRestart_any q e kk w5 HR5.out hkl hne (by rw [HTW.out.ag.wr]; exact HTW.out.ag.bits)
                rw [ptr_eq hqB] at kg
                have KG : Hid _ := kg
                clear kg hd5 hn5 KF a0 a1 a3 a4
                obtain ⟨a0, a1, a3, a4⟩ := HA5.out.cells
                rw [hkk] at a4
                go_wp2_with fail
                refine Calls.mono KG.out ?_
                rintro en w6 ⟨rfl, q', hq1, hq2, hr6, hb6, hdk⟩
                have HT6 : Hid (Two w w6 { p with wv := .slice none 0 0 } q' (restartD d kk) (restartD e kk) N (k + 1)) := ⟨hdk HD5.out, hr6, HTW.out.ag.restart kk HTW.out.da.lens, HB5.out.trans (hb6.mono HTW.out.lo2), HTW.out.lo1, by rw [hq1]; exact HTW.out.lo2⟩
                have HQ6 : Hid (q'.B = B2) := hq2.trans hqB
                clear hr6 hb6 hdk hq1 hq2 KG HR5 HD5 HB5
                go_wp2_with fail
                go_meet
                exact ⟨rfl, { p with wv := .slice none 0 0 }, q', _, _, HP, HQ6, HT6⟩
              · have hnb : -9223372036854775808 ≤ x.n ∧ x.n ≤ 9223372036854775807 := bounds_i64 HNU.out.n
                have kf := arm_any p d x.n W hnb HTW.out.da
                rw [ptr_eq hpB] at kf
                have KF : Hid _ := kf
                clear kf
                go_wp2_with fail
                refine Calls.mono KF.out ?_
                rintro en w5 ⟨rfl, hd5, hn5⟩
                have HD5 : Hid _ := hd5
                have HR5 : Hid (RAt w5 q e) := HTW.out.ra.over HTW.out.da hn5
                have HB5 : Hid (Below w.heap.size w w5) := HTW.out.bl.trans ((hn5.low HTW.out.da).mono HTW.out.lo1)
                have HA5 : Hid (ActBox w5 wr.heap.size x) := HAB.out.near HTW.out.da hn5
                have hput := HR5.out.put (i := 3) (v := .int .i64 (max x.n (-1))) (e' := { e with left := max x.n (-1) }) ⟨rfl, rfl, rfl⟩ rfl (by simp; omega)
                have HTA : Hid (Two w (w5.setCell ⟨B2, 3, none⟩ (.int .i64 (max x.n (-1)))) p q { d with left := x.n } { e with left := max x.n (-1) } N (k + 1)) := by
                  rw [← hqB]
                  exact ⟨HD5.out.over HR5.out hput.2, hput.1, HTW.out.ag.arm x.n, HB5.out.trans ((hput.2.low HR5.out).mono HTW.out.lo2), HTW.out.lo1, HTW.out.lo2⟩
                obtain ⟨r0, r1, r2, r3, r4⟩ := HR5.out.cells
                have rf3 := HR5.out.fr 3
                rw [hqB] at r3 rf3
                clear hd5 hn5 KF a0 a1 a3 a4 hput r0 r1 r2 r4
                obtain ⟨a0, a1, a3, a4⟩ := HA5.out.cells
                go_wp2_with fail
                all_goals go_meet
                · have e1 : max x.n (-1) = -1 := by omega
                  have h9 := HTA.out
                  rw [e1] at h9
                  exact ⟨rfl, p, q, _, _, HP, HQ, h9⟩
                · have e1 : max x.n (-1) = x.n := by omega
                  have h9 := HTA.out
                  rw [e1] at h9
                  exact ⟨rfl, p, q, _, _, HP, HQ, h9⟩
            · have kf := diskFlush_any p d W HTW.out.da
              rw [ptr_eq hpB] at kf
              have KF : Hid _ := kf
              clear kf
              go_wp2_with fail
              refine Calls.mono KF.out ?_
              rintro en w5 ⟨rfl, hd5, hn5⟩
              have HD5 : Hid _ := hd5
              have HR5 : Hid (RAt w5 q e) := HTW.out.ra.over HTW.out.da hn5
              have HB5 : Hid (Below w.heap.size w w5) := HTW.out.bl.trans ((hn5.low HTW.out.da).mono HTW.out.lo1)
              have kg := refFlush_any q e w5 HR5.out hne
              rw [ptr_eq hqB, HTW.out.ag.stepN] at kg
              have KG : Hid _ := kg
              clear kg hd5 hn5 KF
              go_wp2_with fail
              refine Calls.mono KG.out ?_
              rintro en w6 ⟨rfl, q', hq1, hq2, hr6, hb6, hdk⟩
              have HT6 : Hid (Two w w6 (flushP p d) q' (flushD d) (flushE e) N (k + 1)) := ⟨hdk HD5.out, hr6, HTW.out.ag.flush, HB5.out.trans (hb6.mono HTW.out.lo2), by unfold flushP; split <;> exact HTW.out.lo1, by rw [hq1]; exact HTW.out.lo2⟩
              have HP6 : Hid ((flushP p d).B = B) := by unfold flushP; split <;> exact HP.out
              have HQ6 : Hid (q'.B = B2) := hq2.trans hqB
              have ky := same_yes (stepN d) w6 (by unfold stepN; split <;> omega) (by unfold stepN; split <;> omega)
              have KY : Hid _ := ky
              clear hr6 hb6 hdk hq1 hq2 ky KG HR5 HD5 HB5
              go_wp2_with fail
              refine Calls.mono KY.out ?_
              rintro en w7 ⟨rfl, hw⟩
              rw [hw]
              clear hw w7 KY
              go_wp2_with fail
              go_meet
              exact ⟨rfl, _, q', _, _, HP6, HQ6, HT6⟩
          · obtain ⟨S, hS⟩ : ∃ S : ByteArray, S = ⟨(readD d x.n).1.toArray⟩ := ⟨_, rfl⟩
            have hrg := readD_rng d x.n
            have kf := diskRead_any p d x.n W HTW.out.da
            have kg := refRead_any q e x.n W HTW.out.ra
            rw [HTW.out.ag.read, ptr_eq hqB] at kg
            rw [ptr_eq hpB, ← hS] at kf
            rw [show baL (readD d x.n).1 = S from hS.symm] at kg
            generalize (readD d x.n).2 = m at *
            have ky := same_yes m W hrg.1 hrg.2
            have KF : Hid _ := kf
            have KG : Hid _ := kg
            have KY : Hid _ := ky
            clear kf kg ky hS
            go_wp2_with fail
            refine Calls.mono KF.out ?_
            rintro en w5 ⟨rfl, hw⟩
            rw [hw]
            clear hw w5
            go_wp2_with fail
            refine Calls.mono KG.out ?_
            rintro en w5 ⟨rfl, hw⟩
            rw [hw]
            clear hw w5
            go_wp2_with fail
            refine Calls.mono KY.out ?_
            rintro en w5 ⟨rfl, hw⟩
            rw [hw]
            clear hw w5
            go_wp2_with fail
            go_meet
            exact ⟨rfl, p, q, d, e, HP, HQ, ⟨HTW.out.da, HTW.out.ra, HTW.out.ag.more, HTW.out.bl, HTW.out.lo1, HTW.out.lo2⟩⟩
        · have hrg := writeN_rng d x.n x.s
          have hse : writeN e x.n x.s = writeN d x.n x.s := HTW.out.ag.writeN x.n x.s
          have KF : Hid (Calls Try.prog 29 #[.pointer (some ⟨B, 0, none⟩), .int .i64 x.n, .string x.s] W.drew fun en w' => en = .returned (errV (writeN d x.n x.s)) ∧ ∃ v, DiskAt w' { p with wv := v } (writeD d x.n x.s) ∧ Near p W w') := by
            have h := diskWrite_any p d x.n x.s W.drew (Below.diskAt HTW.out.da ((Below.refl _ _).drew)) HS.out hdf
            rw [ptr_eq hpB] at h
            exact h.mono fun en w' ⟨h1, v, h2, h3⟩ => ⟨h1, v, h2, ⟨h3.os, h3.tape, h3.output, h3.size, h3.block⟩⟩
          have KG : Hid (∀ w5, RAt w5 q e → Calls Try.prog 30 #[.pointer (some ⟨B2, 0, none⟩), .int .i64 x.n, .string x.s] w5 fun en w' => en = .returned (.int .i64 (writeN d x.n x.s)) ∧ ∃ v, RAt w' { q with tv := v } (writeE e x.n x.s) ∧ RNear q w5 w') := fun w5 h => by
            have h := refWrite_any q e x.n x.s w5 h HS.out hef
            rw [ptr_eq hqB, hse] at h
            exact h
          have KY : Hid (∀ W', Calls Try.prog 27 #[errV (writeN d x.n x.s), .int .i64 (writeN d x.n x.s)] W' fun e w' => e = .returned (.bool true) ∧ w' = W') := fun W' => same_yes _ W' hrg.1 hrg.2
          have HAG : Hid _ := HTW.out.ag.write x.n x.s
          have keepH : Hid (∀ W', ActBox W' wr.heap.size x → W'.cell? ⟨wr.heap.size, 3, none⟩ = some (.int .i64 x.n) ∧ W'.cell? ⟨wr.heap.size, 1, none⟩ = some (.string x.s)) := fun W' h => ⟨h.cells.2.2.1, h.cells.2.1⟩
          have HAD : Hid (ActBox W.drew wr.heap.size x) := HAB.out
          generalize writeN d x.n x.s = m at *
          generalize writeD d x.n x.s = d' at *
          generalize writeE e x.n x.s = e' at *
          clear hse
          go_wp2_with fail
          go_region_held3 (fun W' => W'.cell? ⟨wr.heap.size, 3, none⟩ = some (.int .i64 x.n) ∧ W'.cell? ⟨wr.heap.size, 1, none⟩ = some (.string x.s))
            (first | exact keepH.out _ HAD.out | exact keepH.out _ HA5.out | exact keepH.out _ HA6.out)
            (first
              | (go_at_call 29
                 refine Calls.mono KF.out ?_
                 rintro en w5 ⟨rfl, v, hd5, hn5⟩
                 have HD5 : Hid (DiskAt w5 _ d') := hd5
                 have HR5 : Hid (RAt w5 q e) := HTW.out.ra.over HTW.out.da hn5
                 have HA5 : Hid (ActBox w5 wr.heap.size x) := HAB.out.near HTW.out.da hn5
                 have HB5 : Hid (Below w.heap.size w w5) := HTW.out.bl.trans ((hn5.low HTW.out.da).mono HTW.out.lo1)
                 clear hd5 hn5)
              | (go_at_call 30
                 refine Calls.mono (KG.out w5 HR5.out) ?_
                 rintro en w6 ⟨rfl, u, hr6, hn6⟩
                 have HA6 : Hid (ActBox w6 wr.heap.size x) := HA5.out.rnear HR5.out hn6
                 have HT6 : Hid (Two w w6 { p with wv := v } { q with tv := u } d' e' N (k + 1)) := ⟨HD5.out.over HR5.out hn6, hr6, HAG.out, HB5.out.trans ((hn6.low HR5.out).mono HTW.out.lo2), HTW.out.lo1, HTW.out.lo2⟩
                 clear hr6 hn6)
              | (go_at_call 27
                 refine Calls.mono (KY.out _) ?_
                 rintro en w7 ⟨rfl, hw⟩
                 rw [hw]
                 clear hw w7))
          all_goals (try go_wp2_with fail)
          all_goals go_meet
          all_goals exact ⟨rfl, { p with wv := v }, { q with tv := u }, d', e', HP, HQ, HT6⟩
      case rest =>
        obtain ⟨rfl, p', q', d', e', HP', HQ', HT'⟩ := hcut
        have some' := Later.ne wc
        have c4 := HT'.out.ra.cells.2.2.2.2
        rw [HQ'.out, HT'.out.ag.down] at c4
        have r4 := Later.cell c4
        have KD : Hid (∀ pl : Later wc, Calls Try.prog 38 #[.pointer (some ⟨B, 0, none⟩)] pl.W fun e w' => e = .returned (.bool d'.down) ∧ w' = pl.W) := fun pl => by
          have h := down_any p' d' pl.W (Below.diskAt HT'.out.da pl.h)
          rw [ptr_eq HP'.out] at h
          exact h
        have hbb : (d'.down != d'.down) = false := by cases d'.down <;> rfl
        clear c4
        go_wp2_with fail
        refine wp_region_later (by kernel_rfl) (by kernel_rfl) ?_
        repeat (go_big_quiet_step ((go_at_call 38; exact later_same _ (KD.out _))))
        refine wpQuiet_nil ?_
        rintro _ ⟨pl, rfl⟩
        go_wp2
        go_roundg (l.length - (k + 1))
        case measure => omega
        case rel => exact ⟨k + 1, p', q', d', e', by go_num, by omega, Nat.le_refl _, HP', HQ', HT'.out.below pl.h⟩
    · obtain ⟨W, hW⟩ : ∃ u, u = wr := ⟨_, rfl⟩
      rw [← hW] at HT
      rw [← hW]
      clear hW
      have hpB := HP.out
      have hqB := HQ.out
      go_wp2_with fail
      go_loopg [17] (N + 3) (fun kx vi wi => ∃ i : Nat, vi = .int .i64 ((i : Int) - 1) ∧ wi = W ∧ i ≤ N + 2 ∧ N + 2 - i ≤ kx)
      case atStart => exact ⟨0, rfl, rfl, by omega, by omega⟩
      case round =>
        obtain ⟨i, rfl, rfl, hi, hix⟩ := hrel
        by_cases hle : (i : Int) - 1 ≤ (N : Int)
        · obtain ⟨S, hS⟩ : ∃ S : ByteArray, S = ⟨(readD d ((i : Int) - 1)).1.toArray⟩ := ⟨_, rfl⟩
          have hrg := readD_rng d ((i : Int) - 1)
          have kf := diskRead_any p d ((i : Int) - 1) wr HT.out.da
          have kg := refRead_any q e ((i : Int) - 1) wr HT.out.ra
          rw [HT.out.ag.read, ptr_eq hqB] at kg
          rw [ptr_eq hpB, ← hS] at kf
          rw [show baL (readD d ((i : Int) - 1)).1 = S from hS.symm] at kg
          generalize (readD d ((i : Int) - 1)).2 = m at *
          have ky := same_yes m wr hrg.1 hrg.2
          have KF : Hid _ := kf
          have KG : Hid _ := kg
          have KY : Hid _ := ky
          clear kf kg ky hS
          go_wp2_with fail
          refine Calls.mono KF.out ?_
          rintro en w5 ⟨rfl, hw⟩
          rw [hw]
          clear hw w5
          go_wp2_with fail
          refine Calls.mono KG.out ?_
          rintro en w5 ⟨rfl, hw⟩
          rw [hw]
          clear hw w5
          go_wp2_with fail
          refine Calls.mono KY.out ?_
          rintro en w5 ⟨rfl, hw⟩
          rw [hw]
          clear hw w5
          go_wp2
          go_roundg (N + 2 - (i + 1))
          case measure => omega
          case rel => exact ⟨i + 1, by go_num, rfl, by omega, Nat.le_refl _⟩
        · go_wp2
          go_ret
          exact ⟨rfl, HT.out.bl⟩
end Go.Proofs.Ytihnghnafpgdfab
