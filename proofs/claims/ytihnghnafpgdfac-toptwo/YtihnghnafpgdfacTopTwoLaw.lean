/-
  THE WALK OF TopTwo ITSELF.
-/
import Derived.Test.YtihnghnafpgdfacTopTwoWalk
namespace Go.Proofs.Ytihnghnafpgdfac
open Go.RowKit
set_option linter.unusedVariables false
set_option linter.unusedSimpArgs false

theorem two_closed : votedC (mix3 co3 noCo 1 0) (mix3 co3 noCo 1 1) (mix3 co3 noCo 1 2) = some co3 := by kernel_rfl
theorem coBox_alloc {w : World} {b : Nat} {x : Co} (h : CoBox w b x) (o : Obj) : CoBox (w.alloc o) b x := h.below ((Below.refl _ _).alloc (Nat.le_refl _) o)

theorem mask_1023 (n : Int) : bits .and .i64 n 1023 = n % 1024 := by
  have h127 : (BitVec.ofInt 64 1023).toNat = 2 ^ 10 - 1 := by decide
  have key : (BitVec.ofInt 64 n &&& BitVec.ofInt 64 1023).toNat = (n % ((2 ^ 64 : Nat) : Int)).toNat % 2 ^ 10 := by
    rw [BitVec.toNat_and, BitVec.toNat_ofInt, h127, Nat.and_two_pow_sub_one_eq_mod]
  show IntKind.i64.wrap ((BitVec.ofInt 64 n &&& BitVec.ofInt 64 1023).toNat : Nat) = n % 1024
  rw [key, IntKind.wrap_i64]
  omega
theorem place_three (n : Int) : ∃ k : Nat, k < 3 ∧ (bits .and .i64 n 1023).tmod 3 = (k : Int) := by
  rw [mask_1023]
  have h0 : 0 ≤ n % 1024 := by omega
  have h1 : (n % 1024).tmod 3 = (n % 1024) % 3 := Int.tmod_eq_emod_of_nonneg h0
  exact ⟨((n % 1024) % 3).toNat, by omega, by rw [h1]; omega⟩
theorem cell_other2 {W : World} {B b : Nat} (u v : Value) (h : b ≠ B) (o : Nat) : ((W.setCell ⟨B, 0, none⟩ u).setCell ⟨B, 1, none⟩ v).cell? ⟨b, o, none⟩ = W.cell? ⟨b, o, none⟩ :=
  World.cell?_of_block (a := ⟨b, o, none⟩) (by rw [Below.heap_setCell _ _ _ _ (by exact h), Below.heap_setCell _ _ _ _ (by exact h)])
theorem CoBox.other2 {W : World} {B b : Nat} {x : Co} (h : CoBox W b x) (hb : b ≠ B) (u v : Value) : CoBox ((W.setCell ⟨B, 0, none⟩ u).setCell ⟨B, 1, none⟩ v) b x :=
  ⟨by rw [cell_other2 u v hb]; exact h.c0, by rw [cell_other2 u v hb]; exact h.c1, by rw [cell_other2 u v hb]; exact h.c2⟩
theorem NineBox.other2 {W : World} {B b : Nat} {x y z : Co} (h : NineBox W b x y z) (hb : b ≠ B) (u v : Value) : NineBox ((W.setCell ⟨B, 0, none⟩ u).setCell ⟨B, 1, none⟩ v) b x y z :=
  ⟨by rw [cell_other2 u v hb]; exact h.x0, by rw [cell_other2 u v hb]; exact h.x1, by rw [cell_other2 u v hb]; exact h.x2, by rw [cell_other2 u v hb]; exact h.y0, by rw [cell_other2 u v hb]; exact h.y1, by rw [cell_other2 u v hb]; exact h.y2, by rw [cell_other2 u v hb]; exact h.z0, by rw [cell_other2 u v hb]; exact h.z1, by rw [cell_other2 u v hb]; exact h.z2⟩
theorem nums_one (w : World) (k : Int) (T : TypeId) : Nums (w.alloc (.cells #[.int .i64 k] T)) (some ⟨w.heap.size, 0, none⟩) [k] := by
  intro i hi
  have e : i = 0 := by simp at hi; omega
  subst e
  exact ⟨w.heap.size, 0, rfl, by simp⟩
theorem Nums.alloc {w : World} {a : Option Addr} {l : List Int} (h : Nums w a l) (o : Obj) : Nums (w.alloc o) a l := h.below ((Below.refl _ _).alloc (Nat.le_refl _) o)
theorem mix_ok {w : World} {x y : Co} (hx : CoOk w x) (hy : CoOk w y) (k i : Nat) : CoOk w (mix3 x y k i) := by unfold mix3; split <;> assumption

theorem Cells.stored {W : World} {B : Nat} {v : Value} {t : Int} {a1 : Option Addr} {l : List Fi} (hs : Cells W a1 l) (h : QBox W B v t) (hv : ∀ s, v ≠ .string s) (u y : Value) : Cells ((W.setCell ⟨B, 0, none⟩ u).setCell ⟨B, 1, none⟩ y) a1 l := by
  intro i hi
  obtain ⟨b, off, e, k0, k1, k2⟩ := hs i hi
  have hb : b ≠ B := by
    intro e
    subst e
    have h3 : off + i * 3 = 0 ∨ off + i * 3 = 1 ∨ 2 ≤ off + i * 3 := by omega
    rcases h3 with h3 | h3 | h3
    · rw [h3, h.c0] at k0; injection k0 with k0; exact hv _ k0
    · rw [h3, h.c1] at k0; cases k0
    · rw [h.only _ h3] at k0; cases k0
  exact ⟨b, off, e, by rw [cell_other2 u y hb]; exact k0, by rw [cell_other2 u y hb]; exact k1, by rw [cell_other2 u y hb]; exact k2⟩
theorem Slice.stored {W : World} {B cap : Nat} {v : Value} {t : Int} {a1 : Option Addr} {l : List Fi} (hs : Slice W a1 cap l) (h : QBox W B v t) (hv : ∀ s, v ≠ .string s) (u y : Value) : Slice ((W.setCell ⟨B, 0, none⟩ u).setCell ⟨B, 1, none⟩ y) a1 cap l :=
  ⟨hs.cells.stored h hv u y, hs.room, hs.most, hs.nil⟩
theorem mixed_true (x y : Co) (hx : x.is = true) (k : Nat) (n : Int) (hk : k < 3) (hn : n = k) (w : World) :
    Calls Try.prog 30 #[.agg #[.bool true, .slice x.a x.l.length x.cap, .int .i64 x.t], y.v, .int .i64 n] w fun e w' => e = .returned (threeV (mix3 x y k 0) (mix3 x y k 1) (mix3 x y k 2)) ∧ Below w.heap.size w w' := by
  subst hn
  have h := mixed_any x y k hk w
  rw [show x.v = .agg #[.bool true, .slice x.a x.l.length x.cap, .int .i64 x.t] by rw [Co.v, hx]] at h
  exact h

set_option maxRecDepth 100000 in
set_option maxHeartbeats 4000000 in
theorem topTwo_any (x y : Co) (at' : Int) (w : World) (hx : CoIn w x) (hy : CoIn w y) (hat : (Lit.int .i64 at').wf = true) :
    Calls Try.prog 5 #[x.v, y.v, .int .i64 at'] w fun e w' => e = .returned (.bool true) ∧ Below w.heap.size w w' := by
  have HX : Hid (CoIn w x) := hx
  have HY : Hid (CoIn w y) := hy
  have HAT : Hid _ := hat
  clear hx hy hat
  go_enter Try.func5, Try.ntmps5
  go_wp2_with fail
  refine (mixed_any co3 noCo 1 (by omega) _).mono ?_
  rintro e w1 ⟨rfl, hb⟩
  have HB1 : Hid (Below w.heap.size w w1) := by
    refine Below.trans ?_ (hb.mono ?_)
    · repeat (first | exact Below.refl _ _ | refine Below.setCell ?_ (by simp; try omega) _ | refine Below.alloc ?_ (by simp; try omega) _)
    · simp; omega
  have HX1 : Hid (CoBox w1 w.heap.size x) := (coBox_alloc (coBox_alloc (coBox_new w x _ _ rfl) _) _).below hb
  have HY1 : Hid (CoBox w1 (w.heap.size + 1) y) := (coBox_alloc (coBox_new _ y _ _ (by simp)) _).below hb
  clear hb
  go_wp2_with fail
  refine (voteOf_any (mix3 co3 noCo 1 0) (mix3 co3 noCo 1 1) (mix3 co3 noCo 1 2) _ (ok_none _ _ _) (ok_none _ _ _) (ok_none _ _ _)).mono ?_
  rintro e w2 ⟨he, hb⟩
  rw [two_closed] at he
  obtain ⟨a0, c0, rfl, -⟩ := he
  have HB2 : Hid (Below w.heap.size w w2) := HB1.out.trans (hb.mono HB1.out.size)
  have HX2 : Hid (CoBox w2 w.heap.size x) := HX1.out.below hb
  have HY2 : Hid (CoBox w2 (w.heap.size + 1) y) := HY1.out.below hb
  clear hb HB1 HX1 HY1
  obtain ⟨x0, x1, x2⟩ := HX2.out
  obtain ⟨y0, y1, y2⟩ := HY2.out
  have hlx := HX2.out.lt
  have hly := HY2.out.lt
  go_wp2_with fail
  refine (lightQuilt_any x.a x.cap x.l x.t _ HX.out.long HX.out.sized ((HX.out.below HB2.out).slice.cells.alloc _)).mono ?_
  rintro e w3 ⟨rfl, hb⟩
  have HB3 : Hid (Below w.heap.size w w3) := Below.on _ HB2.out HB2.out.size hb
  have HX3 : Hid (CoBox w3 w.heap.size x) := (coBox_alloc HX2.out _).below hb
  have HY3 : Hid (CoBox w3 (w.heap.size + 1) y) := (coBox_alloc HY2.out _).below hb
  have HQ3 : Hid (QBox w3 w2.heap.size (.slice a0 co3.l.length c0) 3) := (QBox.new w2 _ _ _).below hb (by simp)
  have hd3 : w.heap.size + 1 < w2.heap.size := hly
  clear hb HB2 HX2 HY2 x0 x1 x2 y0 y1 y2 hlx hly
  cases hlX : lightF x.l
  · go_wp2
    go_ret
    exact ⟨rfl, HB3.out⟩
  have KX : Hid (CoOk w x) := HX.out.ok hlX
  clear hlX HX
  obtain ⟨y0, y1, y2⟩ := HY3.out
  go_wp2_with fail
  refine (lightQuilt_any y.a y.cap y.l y.t _ HY.out.long HY.out.sized (HY.out.below HB3.out).slice.cells).mono ?_
  rintro e w4 ⟨rfl, hb⟩
  have HB4 : Hid (Below w.heap.size w w4) := HB3.out.trans (hb.mono HB3.out.size)
  have HX4 : Hid (CoBox w4 w.heap.size x) := HX3.out.below hb
  have HY4 : Hid (CoBox w4 (w.heap.size + 1) y) := HY3.out.below hb
  have HQ4 : Hid (QBox w4 w2.heap.size (.slice a0 co3.l.length c0) 3) := HQ3.out.below hb HQ3.out.lt
  clear hb HB3 HX3 HY3 HQ3 y0 y1 y2
  cases hlY : lightF y.l
  · go_wp2
    go_ret
    exact ⟨rfl, HB4.out⟩
  have KY : Hid (CoOk w y) := HY.out.ok hlY
  clear hlY HY
  obtain ⟨x0, x1, x2⟩ := HX4.out
  obtain ⟨y0, y1, y2⟩ := HY4.out
  have hlx := HX4.out.lt
  have hly := HY4.out.lt
  rcases Bool.eq_false_or_eq_true x.is with hi | hi
  · rw [hi] at x0
    have HI : Hid (x.is = true) := hi
    clear hi
    obtain ⟨k, hk, hkp⟩ := place_three at'
    have HKP : Hid _ := hkp
    clear hkp
    go_wp2_with fail
    refine (mixed_true x y HI.out k _ hk HKP.out w4).mono ?_
    rintro e w5 ⟨rfl, hb⟩
    have HB5 : Hid (Below w.heap.size w w5) := HB4.out.trans (hb.mono HB4.out.size)
    have HX5 : Hid (CoBox w5 w.heap.size x) := HX4.out.below hb
    have HY5 : Hid (CoBox w5 (w.heap.size + 1) y) := HY4.out.below hb
    have HQ5 : Hid (QBox w5 w2.heap.size (.slice a0 co3.l.length c0) 3) := HQ4.out.below hb HQ4.out.lt
    obtain ⟨c, hv, hcl, hct⟩ := mix_voted (y := y) hk HI.out
    have HV : Hid _ := hv
    have HCL : Hid (c.l = x.l) := hcl
    have HCT : Hid (c.t = x.t) := hct
    have HWR : Hid (∀ a cap, wrongL (mix3 x y k 0) (mix3 x y k 1) (mix3 x y k 2) (rightC a cap x.l x.t) = if sameCo x y = true then [] else [(bits .and .i64 at' 1023).tmod 3]) := fun a cap => by rw [HKP.out]; exact mix_wrong hk HI.out a cap
    have KM : Hid (∀ i, CoOk w (mix3 x y k i)) := fun i => mix_ok KX.out KY.out k i
    clear hb hv hcl hct HB4 HX4 HY4 HQ4 x0 x1 x2 y0 y1 y2 hlx hly
    have KM0 : Hid _ := KM.out 0
    have KM1 : Hid _ := KM.out 1
    have KM2 : Hid _ := KM.out 2
    clear KM
    generalize mix3 x y k 0 = m0 at *
    generalize mix3 x y k 1 = m1 at *
    generalize mix3 x y k 2 = m2 at *
    go_wp2_with fail
    obtain ⟨W6, hW6⟩ : ∃ u, u = w5.alloc (Obj.cells #[Value.bool m0.is, Value.slice m0.a m0.l.length m0.cap, Value.int IntKind.i64 m0.t, Value.bool m1.is, Value.slice m1.a m1.l.length m1.cap, Value.int IntKind.i64 m1.t, Value.bool m2.is, Value.slice m2.a m2.l.length m2.cap, Value.int IntKind.i64 m2.t] 49) := ⟨_, rfl⟩
    have HB6 : Hid (Below w.heap.size w W6) := by rw [hW6]; exact HB5.out.alloc HB5.out.size _
    have HX6 : Hid (CoBox W6 w.heap.size x) := by rw [hW6]; exact coBox_alloc HX5.out _
    have HY6 : Hid (CoBox W6 (w.heap.size + 1) y) := by rw [hW6]; exact coBox_alloc HY5.out _
    have HQ6 : Hid (QBox W6 w2.heap.size (.slice a0 co3.l.length c0) 3) := by rw [hW6]; exact HQ5.out.alloc _
    have HN6 : Hid (NineBox W6 w5.heap.size m0 m1 m2) := by rw [hW6]; exact NineBox.new w5 m0 m1 m2 _
    have hd6 : w2.heap.size < w5.heap.size := HQ5.out.lt
    have he6 : w5.heap.size < W6.heap.size := by rw [hW6]; simp
    rw [← hW6]
    clear hW6 HB5 HX5 HY5 HQ5
    have kp := voteOf_any m0 m1 m2 W6 (KM0.out.below HB6.out) (KM1.out.below HB6.out) (KM2.out.below HB6.out)
    refine kp.mono ?_
    clear kp
    rintro e w7 ⟨he, hb⟩
    rw [HV.out] at he
    obtain ⟨a1, cc1, he, hs1⟩ := he
    rw [HCL.out, HCT.out] at he
    rw [HCL.out] at hs1
    subst he
    have HB7 : Hid (Below w.heap.size w w7) := HB6.out.trans (hb.mono HB6.out.size)
    have HX7 : Hid (CoBox w7 w.heap.size x) := HX6.out.below hb
    have HY7 : Hid (CoBox w7 (w.heap.size + 1) y) := HY6.out.below hb
    have HQ7 : Hid (QBox w7 w2.heap.size (.slice a0 co3.l.length c0) 3) := HQ6.out.below hb HQ6.out.lt
    have HN7 : Hid (NineBox w7 w5.heap.size m0 m1 m2) := HN6.out.below hb he6
    have HS7 : Hid (Slice w7 a1 cc1 x.l) := hs1
    have hs7 : w5.heap.size < w7.heap.size := by have := hb.size; omega
    clear hb hs1 HB6 HX6 HY6 HQ6 HN6 he6 HV HCL HCT c
    obtain ⟨q0, q1, f0, f1, ql, -⟩ := HQ7.out
    go_upto_region 10 with fail
    obtain ⟨W8, hW8⟩ : ∃ u, u = ((w7.setCell ⟨w2.heap.size, 0, none⟩ (.slice a1 x.l.length cc1)).setCell ⟨w2.heap.size, 1, none⟩ (.int .i64 x.t)) := ⟨_, rfl⟩
    have HB8 : Hid (Below w.heap.size w W8) := by rw [hW8]; exact (HB7.out.setCell (by simp; omega) _).setCell (by simp; omega) _
    have HX8 : Hid (CoBox W8 w.heap.size x) := by rw [hW8]; exact HX7.out.other2 (by omega) _ _
    have HY8 : Hid (CoBox W8 (w.heap.size + 1) y) := by rw [hW8]; exact HY7.out.other2 (by omega) _ _
    have HQ8 : Hid (QBox W8 w2.heap.size (.slice a1 x.l.length cc1) x.t) := by rw [hW8]; exact HQ7.out.stored
    have HN8 : Hid (NineBox W8 w5.heap.size m0 m1 m2) := by rw [hW8]; exact HN7.out.other2 (by omega) _ _
    have HS8 : Hid (Slice W8 a1 cc1 x.l) := by rw [hW8]; exact HS7.out.stored HQ7.out (fun s h => by cases h) _ _
    have hs8 : w5.heap.size < W8.heap.size := by rw [hW8]; simp; omega
    rw [← hW8]
    clear hW8 HB7 HX7 HY7 HQ7 HN7 HS7 hs7 q0 q1 f0 f1 ql
    obtain ⟨q0, q1, f0, f1, ql, -⟩ := HQ8.out
    obtain ⟨x0, x1, x2⟩ := HX8.out
    have fx := KX.out.few
    have hsq : (sameL x.l x.l && (x.t == x.t)) = true := by rw [sameL_self]; simp
    go_wp2_with fail
    refine (sameQuilt_any a1 x.a cc1 x.cap x.l x.l x.t x.t _ (by omega) (by omega) HS8.out.cells (KX.out.below HB8.out).slice.cells).mono ?_
    rintro e w9 ⟨rfl, hb⟩
    rw [hsq]
    clear hsq
    have HB9 : Hid (Below w.heap.size w w9) := HB8.out.trans (hb.mono HB8.out.size)
    have HX9 : Hid (CoBox w9 w.heap.size x) := HX8.out.below hb
    have HY9 : Hid (CoBox w9 (w.heap.size + 1) y) := HY8.out.below hb
    have HQ9 : Hid (QBox w9 w2.heap.size (.slice a1 x.l.length cc1) x.t) := HQ8.out.below hb HQ8.out.lt
    have HN9 : Hid (NineBox w9 w5.heap.size m0 m1 m2) := HN8.out.below hb hs8
    have HS9 : Hid (Slice w9 a1 cc1 x.l) := HS8.out.below hb
    clear hb HB8 HX8 HY8 HQ8 HN8 HS8 hs8 q0 q1 f0 f1 ql x0 x1 x2
    obtain ⟨q0, q1, f0, f1, ql, -⟩ := HQ9.out
    obtain ⟨nx0, nx1, nx2, ny0, ny1, ny2, nz0, nz1, nz2⟩ := HN9.out
    go_wp2_with fail
    refine (wrong_any m0 m1 m2 a1 cc1 x.l x.t _ (KM0.out.below HB9.out) (KM1.out.below HB9.out) (KM2.out.below HB9.out) ⟨HS9.out, fx⟩).mono ?_
    rintro e w10 ⟨v, rfl, ho, hb⟩
    rw [HWR.out a1 cc1] at ho
    obtain ⟨a2, cc2, rfl, hn2⟩ := OwnsN.nums ho
    have HB10 : Hid (Below w.heap.size w w10) := HB9.out.trans (hb.mono HB9.out.size)
    have HX10 : Hid (CoBox w10 w.heap.size x) := HX9.out.below hb
    have HY10 : Hid (CoBox w10 (w.heap.size + 1) y) := HY9.out.below hb
    clear hb ho HB9 HX9 HY9 HQ9 HN9 HS9 HWR q0 q1 f0 f1 ql nx0 nx1 nx2 ny0 ny1 ny2 nz0 nz1 nz2 KM0 KM1 KM2
    obtain ⟨x0, x1, x2⟩ := HX10.out
    obtain ⟨y0, y1, y2⟩ := HY10.out
    have kvs := voteSame_any x y w10 (KX.out.below HB10.out) (KY.out.below HB10.out)
    cases hs : sameCo x y
    · rw [hs] at hn2 kvs
      simp only [Bool.false_eq_true, if_false] at hn2 ⊢
      have HN10 : Hid _ := hn2
      have HVS : Hid _ := kvs
      clear hn2 kvs hs
      go_wp2_with fail
      refine Calls.mono HVS.out ?_
      rintro e w11 ⟨rfl, hb⟩
      have HB11 : Hid (Below w.heap.size w w11) := HB10.out.trans (hb.mono HB10.out.size)
      have HN11 : Hid (Nums w11 a2 [(bits .and .i64 at' 1023).tmod 3]) := Nums.below HN10.out hb
      clear hb HB10 HX10 HY10 HN10 x0 x1 x2 y0 y1 y2 HVS
      generalize (bits .and .i64 at' 1023).tmod 3 = kk at *
      go_wp2_with fail
      refine (sameNumbers_self a2 (some ⟨w11.heap.size, 0, none⟩) cc2 1 [kk] _ (by simp) (HN11.out.alloc _) (nums_one _ _ _)).mono ?_
      rintro e w12 ⟨rfl, n, rfl⟩
      go_wp2
      go_ret
      exact ⟨rfl, below_drewN (HB11.out.alloc HB11.out.size _) _⟩
    · rw [hs] at hn2 kvs
      simp only [if_true] at hn2 ⊢
      have HVS : Hid _ := kvs
      clear hn2 kvs hs
      go_wp2_with fail
      refine Calls.mono HVS.out ?_
      rintro e w11 ⟨rfl, hb⟩
      have HB11 : Hid (Below w.heap.size w w11) := HB10.out.trans (hb.mono HB10.out.size)
      clear hb HB10 HX10 HY10 x0 x1 x2 y0 y1 y2 HVS
      go_wp2
      go_ret
      exact ⟨rfl, HB11.out⟩
  · rw [hi] at x0
    clear hi
    go_wp2
    go_ret
    exact ⟨rfl, HB4.out⟩
end Go.Proofs.Ytihnghnafpgdfac
