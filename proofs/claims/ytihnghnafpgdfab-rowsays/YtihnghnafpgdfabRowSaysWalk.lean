/-
  THE WALK OF RowSays: it returns true, and writes nothing that was there.
-/
import Derived.Test.YtihnghnafpgdfabGoodRows
import Derived.Test.YtihnghnafpgdfabRowApplied
import Derived.Test.YtihnghnafpgdfabRowParse
import Derived.Test.YtihnghnafpgdfabRowApply
import Derived.Deep.RegionWith
namespace Go.Proofs.Ytihnghnafpgdfab
open Go.RowKit Go.BigFrame
set_option linter.unusedVariables false
set_option linter.unusedSimpArgs false

/-- A change in a box. -/
structure ChBox (w : World) (b : Nat) (c : Ch) : Prop where
  c0 : w.cell? ⟨b, 0, none⟩ = some (.string c.key)
  c1 : w.cell? ⟨b, 1, none⟩ = some (.string c.val)
  c2 : w.cell? ⟨b, 2, none⟩ = some (.bool c.gone)
theorem ChBox.new (w : World) (c : Ch) (t : TypeId) : ChBox (w.alloc (.cells #[.string c.key, .string c.val, .bool c.gone] t)) w.heap.size c := ⟨by simp, by simp, by simp⟩
theorem ChBox.below {w w' : World} {b : Nat} {c : Ch} (h : ChBox w b c) (hb : Below w.heap.size w w') : ChBox w' b c :=
  ⟨by rw [hb.cell (World.block_lt_of_cell? _ _ h.c0)]; exact h.c0, by rw [hb.cell (World.block_lt_of_cell? _ _ h.c1)]; exact h.c1, by rw [hb.cell (World.block_lt_of_cell? _ _ h.c2)]; exact h.c2⟩
theorem ChBox.alloc {w : World} {b : Nat} {c : Ch} (h : ChBox w b c) (o : Obj) : ChBox (w.alloc o) b c := h.below ((Below.refl _ _).alloc (Nat.le_refl _) o)
theorem ChBox.lt {w : World} {b : Nat} {c : Ch} (h : ChBox w b c) : b < w.heap.size := World.block_lt_of_cell? _ _ h.c0
theorem chCells_one (w : World) (c : Ch) (t : TypeId) (h1 : c.key.size ≤ maxLen) (h2 : c.val.size ≤ maxLen) : ChCells (w.alloc (.cells #[.string c.key, .string c.val, .bool c.gone] t)) (some ⟨w.heap.size, 0, none⟩) [c] := by
  intro i hi
  have e : i = 0 := by simpa using hi
  subst e
  exact ⟨w.heap.size, 0, rfl, by simp, by simp, by simp, h1, h2⟩
theorem ChCells.alloc {w : World} {a : Option Addr} {l : List Ch} (h : ChCells w a l) (o : Obj) : ChCells (w.alloc o) a l := h.below ((Below.refl _ _).alloc (Nat.le_refl _) o)
theorem below_on {B : Nat} {w W w' : World} (o : Obj) (h : Below B w W) (hw : B ≤ W.heap.size) (hb : Below (W.alloc o).heap.size (W.alloc o) w') : Below B w w' := (h.alloc hw o).trans (hb.mono (by simp; omega))
theorem applied_length : ∀ (l rows : List Ch), (appliedC rows l).length ≤ rows.length + l.length
  | [], rows => by simp [appliedC]
  | c :: l, rows => by
    have h1 := applied_length l (layC c c.gone rows)
    have h2 := layC_length c c.gone rows
    simp only [appliedC, List.foldl_cons, List.length_cons] at h1 ⊢
    omega
theorem partsN_rng (s : ByteArray) : 0 ≤ partsN s ∧ partsN s ≤ 100 := by unfold partsN; split <;> omega

set_option maxRecDepth 100000 in
set_option maxHeartbeats 4000000 in
theorem rowSays_any (a a' : Option Addr) (cap cap' : Nat) (l m : List Ch) (c : Ch) (s : ByteArray) (w : World) (hl : l.length ≤ maxLen) (hc : ChCells w a l) (hn : a = none → cap = 0) (hm : m.length ≤ maxLen) (hc' : ChCells w a' m) (hn' : a' = none → cap' = 0)
    (hk : c.key.size ≤ maxLen) (hv : c.val.size ≤ maxLen) (hs : s.size ≤ maxLen) :
    Calls Try.prog 7 #[.slice a l.length cap, .slice a' m.length cap', c.v, .string s] w fun e w' => e = .returned (.bool true) ∧ Below w.heap.size w w' := by
  have HC : Hid (ChCells w a l) := hc
  have HC' : Hid (ChCells w a' m) := hc'
  have HN : Hid (a = none → cap = 0) := hn
  have HN' : Hid (a' = none → cap' = 0) := hn'
  have HL : Hid _ := hl
  have HM : Hid _ := hm
  have HK : Hid _ := hk
  have HV : Hid _ := hv
  unfold maxLen at hs
  clear hc hc' hn hn' hl hm hk hv
  go_enter Try.func7, Try.ntmps7
  go_wp2_with fail
  refine (rows_any _).mono ?_
  rintro e w1 ⟨rfl, hb⟩
  have HB1 : Hid (Below w.heap.size w w1) := below_on _ (Below.refl _ _) (Nat.le_refl _) hb
  have HX1 : Hid (ChBox w1 w.heap.size c) := (ChBox.new w c _).below hb
  clear hb
  go_wp2_with fail
  refine (lightChanges_any a cap l 70 _ HL.out (HC.out.below HB1.out)).mono ?_
  rintro e w2 ⟨⟨lb, rfl, hlb⟩, hw⟩
  rw [hw]
  clear hw w2
  cases lb
  · clear hlb
    go_wp2
    go_ret
    exact ⟨rfl, HB1.out⟩
  have HLL : Hid (LightC l 70) := hlb rfl
  clear hlb
  go_wp2_with fail
  refine (lightChanges_any a' cap' m 20 _ HM.out (HC'.out.below HB1.out)).mono ?_
  rintro e w2 ⟨⟨lb, rfl, hlb⟩, hw⟩
  rw [hw]
  clear hw w2
  cases lb
  · clear hlb
    go_wp2
    go_ret
    exact ⟨rfl, HB1.out⟩
  have HLM : Hid (LightC m 20) := hlb rfl
  clear hlb
  obtain ⟨x0, x1, x2⟩ := HX1.out
  go_wp2_with fail
  refine (lightChanges_any (some ⟨w1.heap.size, 0, none⟩) 1 [c] 1 _ (by unfold maxLen; simp) (chCells_one _ _ _ HK.out HV.out)).mono ?_
  rintro e w2 ⟨⟨lb, rfl, hlb⟩, hw⟩
  rw [hw]
  clear hw w2 x0 x1 x2
  obtain ⟨W2, hW2⟩ : ∃ u, u = w1.alloc (.cells #[.string c.key, .string c.val, .bool c.gone] 73) := ⟨_, rfl⟩
  have HB2 : Hid (Below w.heap.size w W2) := by rw [hW2]; exact HB1.out.alloc HB1.out.size _
  have HX2 : Hid (ChBox W2 w.heap.size c) := by rw [hW2]; exact HX1.out.alloc _
  rw [← hW2]
  clear hW2 HB1 HX1
  cases lb
  · clear hlb
    go_wp2
    go_ret
    exact ⟨rfl, HB2.out⟩
  have HLC : Hid (c.key.size ≤ 20 ∧ c.val.size ≤ 40) := (hlb rfl).2 c (by simp)
  clear hlb
  by_cases h200 : 200 < s.size
  · go_wp2
    go_ret
    exact ⟨rfl, HB2.out⟩
  obtain ⟨x0, x1, x2⟩ := HX2.out
  have kb1 := fun W => rowBytes_any c W
  have kb2 := fun W => changeBytes_any c W
  generalize (if changeF c = 0 then (⟨(bytesC c).toArray⟩ : ByteArray) else ⟨#[]⟩) = B at kb1 kb2
  have KB1 : Hid (∀ W, Calls _ _ _ W _) := kb1
  have KB2 : Hid (∀ W, Calls _ _ _ W _) := kb2
  clear kb1 kb2
  go_wp2_with fail
  refine Calls.mono (KB1.out W2) ?_
  rintro e w3 ⟨rfl, hb⟩
  have HB3 : Hid (Below w.heap.size w w3) := HB2.out.trans (hb.mono HB2.out.size)
  have HX3 : Hid (ChBox w3 w.heap.size c) := HX2.out.below hb
  clear hb x0 x1 x2 HB2 HX2
  obtain ⟨x0, x1, x2⟩ := HX3.out
  go_wp2_with fail
  refine Calls.mono (KB2.out w3) ?_
  rintro e w4 ⟨rfl, hb⟩
  have HB4 : Hid (Below w.heap.size w w4) := HB3.out.trans (hb.mono HB3.out.size)
  have HX4 : Hid (ChBox w4 w.heap.size c) := HX3.out.below hb
  clear hb x0 x1 x2 HB3 HX3
  clear KB1 KB2
  go_wp2_with fail
  refine (rowParse_any s w4 (by omega)).mono ?_
  rintro e w5 ⟨rfl, hb⟩
  have HB5 : Hid (Below w.heap.size w w5) := HB4.out.trans (hb.mono HB4.out.size)
  have HX5 : Hid (ChBox w5 w.heap.size c) := HX4.out.below hb
  clear hb HB4 HX4
  have kco := fun W => changeOf_any s W (by omega)
  have hpr := partsN_rng s
  generalize (readC s).getD zeroC = r at *
  generalize partsN s = pn at *
  have KCO : Hid (∀ W, Calls _ _ _ W _) := kco
  clear kco
  go_wp2_with fail
  refine Calls.mono (KCO.out _) ?_
  rintro e w6 ⟨rfl, hb⟩
  have HB6 : Hid (Below w.heap.size w w6) := below_on _ HB5.out HB5.out.size hb
  have HX6 : Hid (ChBox w6 w.heap.size c) := (HX5.out.alloc _).below hb
  have HR6 : Hid (ChBox w6 w5.heap.size r) := (ChBox.new w5 r _).below hb
  clear hb HB5 HX5 KCO
  go_upto_region 8 with fail
  obtain ⟨W7, hW7⟩ : ∃ u, u = w6.alloc (.cells #[.string r.key, .string r.val, .bool r.gone] 73) := ⟨_, rfl⟩
  have HB7 : Hid (Below w.heap.size w W7) := by rw [hW7]; exact HB6.out.alloc HB6.out.size _
  have HX7 : Hid (ChBox W7 w.heap.size c) := by rw [hW7]; exact HX6.out.alloc _
  have HR7 : Hid (ChBox W7 w5.heap.size r) := by rw [hW7]; exact HR6.out.alloc _
  have HS7 : Hid (ChBox W7 w6.heap.size r) := by rw [hW7]; exact ChBox.new w6 r _
  rw [← hW7]
  clear hW7 HB6 HX6 HR6
  have some' := Later.ne W7
  have p0 := Later.cell HX7.out.c0
  have p1 := Later.cell HX7.out.c1
  have p2 := Later.cell HX7.out.c2
  have q0 := Later.cell HR7.out.c0
  have q1 := Later.cell HR7.out.c1
  have q2 := Later.cell HR7.out.c2
  have r0 := Later.cell HS7.out.c0
  have r1 := Later.cell HS7.out.c1
  have r2 := Later.cell HS7.out.c2
  have hcr := changeF_rng c
  have K1 : Hid (∀ p : Later W7, Calls Try.prog 45 #[.agg #[.string c.key, .string c.val, .bool c.gone]] p.W fun e w' => e = .returned (errV (changeF c)) ∧ Below p.W.heap.size p.W w') := fun p => rowCheck_any c p.W
  have K2 : Hid (∀ p : Later W7, Calls Try.prog 46 #[.agg #[.string c.key, .string c.val, .bool c.gone]] p.W fun e w' => e = .returned (.int .i64 (changeF c)) ∧ Below p.W.heap.size p.W w') := fun p => changeFault_any c p.W
  generalize changeF c = cf at *
  have K3 : Hid (∀ p : Later W7, Calls Try.prog 27 #[errV cf, .int .i64 cf] p.W fun e w' => e = .returned (.bool true) ∧ w' = p.W) := fun p => same_yes cf p.W hcr.1 hcr.2
  have K4 : Hid (∀ p : Later W7, Calls Try.prog 27 #[errV pn, .int .i64 pn] p.W fun e w' => e = .returned (.bool true) ∧ w' = p.W) := fun p => same_yes pn p.W hpr.1 hpr.2
  have hnq := fun w => run_neq_change r r w
  have hself : eqCh r r = true := (eqCh_iff r r).2 rfl
  rw [hself] at hnq
  refine wp_region_later (by kernel_rfl) (by kernel_rfl) ?_
  repeat (go_big_quiet_step (first | (go_at_call 45; exact later_of _ (K1.out _)) | (go_at_call 46; exact later_of _ (K2.out _)) | (go_at_call_of 27 (errV cf); exact later_same _ (K3.out _)) | (go_at_call_of 27 (errV pn); exact later_same _ (K4.out _))))
  refine wpQuiet_nil ?_
  rintro _ ⟨p, rfl⟩
  obtain ⟨W8, hW8⟩ : ∃ u, u = p.W := ⟨_, rfl⟩
  have HB8 : Hid (Below w.heap.size w W8) := by rw [hW8]; exact HB7.out.trans (p.h.mono HB7.out.size)
  rw [← hW8]
  clear hW8 p p0 p1 p2 q0 q1 q2 r0 r1 r2 K1 K2 K3 K4 hnq hself some' HX7 HR7 HS7 HB7
  have hml : m.length ≤ 20 := by have := HLM.out.1; omega
  have hll : l.length ≤ 70 := by have := HLL.out.1; omega
  go_wp2_with fail
  go_loopg [18] (m.length + 1) (fun kx vi wr => ∃ k : Nat, vi = .int .i64 k ∧ k ≤ m.length ∧ m.length - k ≤ kx ∧ Hid (Below w.heap.size w wr))
  case atStart => exact ⟨0, rfl, Nat.zero_le _, by omega, HB8⟩
  case round =>
    obtain ⟨k, rfl, hk, hkx, HBk⟩ := hrel
    by_cases hlt : k < m.length
    · have bk : (k : Int) < (m.length : Int) := by omega
      obtain ⟨b, off, rfl, c0, c1, c2⟩ := (HC'.out.below HBk.out).cc k hlt
      go_wp2_with fail
      refine (changeFault_any m[k] _).mono ?_
      rintro e w9 ⟨rfl, hb⟩
      have HB9 : Hid (Below w.heap.size w w9) := HBk.out.trans (hb.mono HBk.out.size)
      clear hb
      generalize changeF m[k] = fv at *
      by_cases hf : 0 < fv
      · go_wp2
        go_ret
        exact ⟨rfl, HB9.out⟩
      · go_wp2
        go_roundg (m.length - (k + 1))
        case measure => omega
        case rel => exact ⟨k + 1, by go_num, by omega, Nat.le_refl _, HB9⟩
    · go_wp2_with fail
      refine (goodRows_any a cap l _ (by omega) (HC.out.below HBk.out).cc).mono ?_
      rintro e w9 ⟨⟨gb, rfl, hgb⟩, hb⟩
      have HB9 : Hid (Below w.heap.size w w9) := HBk.out.trans (hb.mono HBk.out.size)
      clear hb
      cases gb
      · clear hgb
        go_wp2
        go_ret
        exact ⟨rfl, HB9.out⟩
      have HGR : Hid (GoodR l) := hgb rfl
      clear hgb
      go_wp2_with fail
      refine (rowApply_any a a' cap cap' l m _ (by omega) (by omega) ⟨(HC.out.below HB9.out).cc, HN.out⟩ ⟨(HC'.out.below HB9.out).cc, HN'.out⟩).mono ?_
      rintro e w10 ⟨v1, S, rfl, hS, ho1, hb⟩
      rw [keepLast_applied HGR.out.1 hS] at ho1
      obtain ⟨a1, c1, rfl, hcc1, -, -, -⟩ := OwnsC.files ho1
      have HB10 : Hid (Below w.heap.size w w10) := HB9.out.trans (hb.mono HB9.out.size)
      have HC10 : Hid (CC w10 a1 (appliedC l m)) := hcc1
      clear hb ho1 hcc1 hS
      go_wp2_with fail
      refine (applied_any a a' cap cap' l m _ (by omega) (by omega) ⟨(HC.out.below HB10.out).cc, HN.out⟩ (HC'.out.below HB10.out).cc).mono ?_
      rintro e w11 ⟨v2, rfl, ho2, hb⟩
      obtain ⟨a2, c2, rfl, hcc2, -, -, -⟩ := OwnsC.files ho2
      have HB11 : Hid (Below w.heap.size w w11) := HB10.out.trans (hb.mono HB10.out.size)
      have HC11 : Hid (CC w11 a1 (appliedC l m)) := CC.below HC10.out hb
      have HD11 : Hid (CC w11 a2 (appliedC l m)) := hcc2
      have hal : (appliedC l m).length ≤ 1000 := by have := applied_length m l; omega
      clear hb ho2 hcc2
      generalize appliedC l m = R at *
      go_wp2_with fail
      refine (sameChanges_any a1 a2 c1 c2 R R _ hal hal HC11.out HD11.out).mono ?_
      rintro e w12 ⟨rfl, n, rfl⟩
      rw [sameCL_self]
      go_wp2
      go_ret
      exact ⟨rfl, below_drewN HB11.out n⟩
end Go.Proofs.Ytihnghnafpgdfab
