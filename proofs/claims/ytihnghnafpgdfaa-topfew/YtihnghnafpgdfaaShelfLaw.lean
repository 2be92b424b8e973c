/-
  THE WALK OF ShelfSays: it returns true, and writes nothing that was there.
-/
import Derived.Test.YtihnghnafpgdfaaShelfAll
namespace Go.Proofs.Ytihnghnafpgdfaa
open Go.RowKit
set_option linter.unusedVariables false
set_option linter.unusedSimpArgs false

def getD' : Option Fi → Fi
  | some f => f
  | none => ⟨⟨#[]⟩, ⟨#[]⟩, 0⟩
theorem getV_eq (o : Option Fi) : getV o = .tuple #[.agg #[.string (getD' o).n, .string (getD' o).t, .int .i64 (getD' o).k], .bool o.isSome] := by cases o <;> rfl

theorem putL_len (l : List Fi) (f : Fi) : (putL l f).length ≤ l.length + 1 := by
  unfold putL
  split
  · unfold putF
    simp only [List.length_append, List.length_take, List.length_cons, List.length_drop]
    split <;> omega
  · simp
theorem dropL_len (l : List Fi) (name : ByteArray) : (dropL l name).length ≤ l.length := by
  unfold dropL
  split
  · unfold dropF
    simp only [List.length_append, List.length_take, List.length_drop]
    omega
  · simp

theorem same_nil (w : World) : Calls Try.prog 15 #[.nilIface, .int .i64 0] w fun e w' => e = .returned (.bool true) ∧ w' = w := same_yes 0 w (by decide) (by decide)

theorem fa_good : (fa).fault = 0 := by decide

set_option maxRecDepth 100000 in
set_option maxHeartbeats 1000000 in
theorem shelves_any (w : World) : Calls Try.prog 19 #[] w fun e w' => e = .returned (.bool true) ∧ Below w.heap.size w w' := by
  go_enter Try.func19, Try.ntmps19
  go_wp2_with fail
  refine (put_any none 0 [] fa _ ⟨by decide, by decide⟩ good_nil ⟨Cells.nil _ _, by simp, Nat.zero_le _, fun _ => rfl⟩).mono ?_
  rintro e w1 ⟨v, rfl, hown, hb⟩
  have e1 : putN [] fa = 0 := by simp [putN, fa_good]
  have e2 : putL [] fa = [fa] := by simp [putL, e1, putF, posF]
  rw [e1]
  rw [e2] at hown
  obtain ⟨a, cap, rfl, hs⟩ := hown.slice
  have HS : Hid (Slice w1 a cap [fa]) := hs
  have HB1 : Hid (Below w.heap.size w w1) := hb
  have he : errV 0 = .nilIface := rfl
  rw [he]
  clear e1 e2 hown hs hb he
  go_wp2_with fail
  refine (get_any a cap [fa] ⟨#[97]⟩ _ (good_one fa_good) HS.out.cells).mono ?_
  rintro e w2 ⟨rfl, hb⟩
  have eg : getV (getF [fa] ⟨#[97]⟩) = .tuple #[.agg #[.string ⟨#[97]⟩, .string ⟨#[120]⟩, .int .i64 1], .bool true] := by
    have : getF [fa] ⟨#[97]⟩ = some fa := getF_some (k := 0) (by simp) (fun i hi h => absurd h (Nat.not_lt_zero _)) (beqB_true rfl)
    rw [this]; rfl
  rw [eg]
  have HB2 : Hid (Below w.heap.size w w2) := HB1.out.trans (hb.mono HB1.out.size)
  clear eg hb
  go_wp2_with (go_at_call 15; refine (same_nil _).mono ?_; rintro e w' ⟨rfl, rfl⟩)
  go_ret
  exact ⟨rfl, HB2.out.alloc HB2.out.size _⟩

set_option maxRecDepth 100000 in
set_option maxHeartbeats 2000000 in
theorem shelfSays_light (a : Option Addr) (cap : Nat) (l : List Fi) (f : Fi) (name : ByteArray) (w : World) (hl : l.length ≤ maxLen) (hz : Sized l) (hzf : f.n.size ≤ maxLen ∧ f.t.size ≤ maxLen) (hn : name.size ≤ maxLen) (hs : Slice w a cap l)
    (hlight : ¬ (lightF l = true ∧ lightB f = true ∧ name.size ≤ 20)) :
    Calls Try.prog 4 #[.slice a l.length cap, fileV f.n f.t f.k, .string name] w fun e w' => e = .returned (.bool true) ∧ Below w.heap.size w w' := by
  unfold maxLen at hn
  go_enter Try.func4, Try.ntmps4
  go_wp2_with fail
  refine (shelves_any _).mono ?_
  rintro e w1 ⟨rfl, hb⟩
  obtain ⟨hcc, hff⟩ := bcell' hb
  have hz1 : w.heap.size < w1.heap.size := by have := hb.size; simp at this; omega
  have hs1 := (hs.below ((Below.refl _ _).alloc (Nat.le_refl _) _)).below hb
  have HS : Hid (Slice w1 a cap l) := hs1
  have HB1 : Hid (Below w.heap.size w w1) := ((Below.refl _ _).alloc (Nat.le_refl _) _).trans (hb.mono (by simp))
  clear hb hs hs1
  have hone : lightF [f] = lightB f := by simp [lightF]
  have hzo : Sized [f] := by intro g hg; simp at hg; subst hg; exact hzf
  cases h1 : lightF l
  · go_wp2_with (go_at_call 20; refine (light_any a cap l _ hl hz HS.out.cells).mono ?_; rintro e w' ⟨rfl, rfl⟩; rw [h1])
    go_ret
    exact ⟨rfl, HB1.out⟩
  · cases h2 : lightB f
    · go_wp2_with fail
      refine (light_any a cap l _ hl hz HS.out.cells).mono ?_
      rintro e w' ⟨rfl, rfl⟩
      rw [h1]
      go_wp2_with fail
      refine (light_any _ 1 [f] _ (by simp [maxLen]) hzo (Cells.one _ f _)).mono ?_
      rintro e w' ⟨rfl, rfl⟩
      rw [hone, h2]
      go_wp2
      go_ret
      exact ⟨rfl, HB1.out.alloc HB1.out.size _⟩
    · have h3 : 20 < name.size := by
        rcases Nat.lt_or_ge 20 name.size with h | h
        · exact h
        · exact absurd ⟨h1, h2, h⟩ hlight
      clear hlight
      go_wp2_with fail
      refine (light_any a cap l _ hl hz HS.out.cells).mono ?_
      rintro e w' ⟨rfl, rfl⟩
      rw [h1]
      go_wp2_with fail
      refine (light_any _ 1 [f] _ (by simp [maxLen]) hzo (Cells.one _ f _)).mono ?_
      rintro e w' ⟨rfl, rfl⟩
      rw [hone, h2]
      go_wp2
      go_ret
      exact ⟨rfl, HB1.out.alloc HB1.out.size _⟩

set_option maxRecDepth 100000 in
set_option maxHeartbeats 4000000 in
theorem shelfSays_heavy (a : Option Addr) (cap : Nat) (l : List Fi) (f : Fi) (name : ByteArray) (w : World) (hl : l.length ≤ maxLen) (hz : Sized l) (hzf : f.n.size ≤ maxLen ∧ f.t.size ≤ maxLen) (hn : name.size ≤ maxLen) (hs : Slice w a cap l)
    (h1 : lightF l = true) (h2 : lightB f = true) (h3 : name.size ≤ 20) :
    Calls Try.prog 4 #[.slice a l.length cap, fileV f.n f.t f.k, .string name] w fun e w' => e = .returned (.bool true) ∧ Below w.heap.size w w' := by
  have hl12 := (lightF_spec h1).1
  go_enter Try.func4, Try.ntmps4
  go_wp2_with fail
  refine (shelves_any _).mono ?_
  rintro e w1 ⟨rfl, hb⟩
  have x0 : w1.cell? ⟨w.heap.size, 0, none⟩ = some (.string f.n) := by rw [hb.cell (p := ⟨w.heap.size, 0, none⟩) (by simp)]; simp [go_sem]
  have x1 : w1.cell? ⟨w.heap.size, 1, none⟩ = some (.string f.t) := by rw [hb.cell (p := ⟨w.heap.size, 1, none⟩) (by simp)]; simp [go_sem]
  have x2 : w1.cell? ⟨w.heap.size, 2, none⟩ = some (.int .i64 f.k) := by rw [hb.cell (p := ⟨w.heap.size, 2, none⟩) (by simp)]; simp [go_sem]
  have hz1 : w.heap.size < w1.heap.size := by have := hb.size; simp at this; omega
  have hs1 := (hs.below ((Below.refl _ _).alloc (Nat.le_refl _) _)).below hb
  have HS : Hid (Slice w1 a cap l) := hs1
  have HB1 : Hid (Below w.heap.size w w1) := ((Below.refl _ _).alloc (Nat.le_refl _) _).trans (hb.mono (by simp))
  clear hb hs hs1
  have hone : lightF [f] = lightB f := by simp [lightF]
  have hzo : Sized [f] := by intro g hg; simp at hg; subst hg; exact hzf
  go_wp2_with fail
  refine (light_any a cap l _ hl hz HS.out.cells).mono ?_
  rintro e w' ⟨rfl, hw⟩
  rw [hw, h1]
  clear hw w'
  go_wp2_with fail
  refine (light_any _ 1 [f] _ (by simp [maxLen]) hzo (Cells.one _ f _)).mono ?_
  rintro e w' ⟨rfl, rfl⟩
  rw [hone, h2]
  clear hone hzo
  -- shelf.Check, FilesFault, same
  go_wp2_with fail
  refine (shelfCheck_any a cap l _ hl hz (by exact HS.out.cells.alloc _)).mono ?_
  rintro e w2 ⟨rfl, hb⟩
  have HB2 : Hid (Below w1.heap.size w1 w2) := ((Below.refl _ _).alloc (Nat.le_refl _) _).trans (hb.mono (by simp))
  have hz2 := HB2.out.size
  clear hb
  go_wp2_with fail
  refine (filesFault_any a cap l _ hl hz (HS.out.cells.below HB2.out)).mono ?_
  rintro e w3 ⟨rfl, hb⟩
  have HB3 : Hid (Below w1.heap.size w1 w3) := HB2.out.trans (hb.mono HB2.out.size)
  have hz3 := HB3.out.size
  clear hb HB2 hz2
  go_wp2_with fail
  refine (same_yes _ _ (filesF_range l).1 (filesF_range l).2).mono ?_
  rintro e w' ⟨rfl, hw⟩
  rw [hw]
  clear hw w'
  go_wp2_with fail
  refine (filesFault_any a cap l _ hl hz (HS.out.cells.below HB3.out)).mono ?_
  rintro e w4 ⟨rfl, hb⟩
  have HB4 : Hid (Below w1.heap.size w1 w4) := HB3.out.trans (hb.mono HB3.out.size)
  have hz4 := HB4.out.size
  clear hb HB3 hz3
  by_cases hg0 : filesF l = 0
  · have HG : Hid (Good l) := good_of_zero hg0
    have HG0 : Hid (filesF l = 0) := hg0
    rw [hg0]
    clear hg0
    -- shelf.Get, GetFile
    go_wp2_with fail
    refine (get_any a cap l name _ HG.out (HS.out.cells.below HB4.out)).mono ?_
    rintro e w5 ⟨rfl, hb⟩
    rw [getV_eq]
    generalize hgd : getD' (getF l name) = g
    generalize hgb : (getF l name).isSome = gb
    have HGD : Hid (getD' (getF l name) = g) := hgd
    have HGB : Hid ((getF l name).isSome = gb) := hgb
    have HB5 : Hid (Below w1.heap.size w1 w5) := HB4.out.trans (hb.mono HB4.out.size)
    have hz5 := HB5.out.size
    clear hb HB4 hz4 hgd hgb
    go_wp2_with fail
    refine (getFile_any a cap l name _ hl (by exact (HS.out.cells.below HB5.out).alloc _)).mono ?_
    rintro e w6 ⟨rfl, hb⟩
    rw [getV_eq, HGD.out, HGB.out]
    have HB6 : Hid (Below w1.heap.size w1 w6) := (HB5.out.alloc HB5.out.size _).trans (hb.mono (by simp; have := HB5.out.size; omega))
    have hz6 : w5.heap.size + 1 ≤ w6.heap.size := by have := hb.size; simpa using this
    have HG6 : Hid (w6.cell? ⟨w5.heap.size, 0, none⟩ = some (.string g.n) ∧ w6.cell? ⟨w5.heap.size, 1, none⟩ = some (.string g.t) ∧ w6.cell? ⟨w5.heap.size, 2, none⟩ = some (.int .i64 g.k)) := by
      refine ⟨?_, ?_, ?_⟩
      · rw [hb.cell (p := ⟨w5.heap.size, 0, none⟩) (by simp)]; simp [go_sem]
      · rw [hb.cell (p := ⟨w5.heap.size, 1, none⟩) (by simp)]; simp [go_sem]
      · rw [hb.cell (p := ⟨w5.heap.size, 2, none⟩) (by simp)]; simp [go_sem]
    have y0 : w6.cell? ⟨w.heap.size, 0, none⟩ = some (.string f.n) := by rw [HB6.out.cell (p := ⟨w.heap.size, 0, none⟩) hz1]; exact x0
    have y1 : w6.cell? ⟨w.heap.size, 1, none⟩ = some (.string f.t) := by rw [HB6.out.cell (p := ⟨w.heap.size, 1, none⟩) hz1]; exact x1
    have y2 : w6.cell? ⟨w.heap.size, 2, none⟩ = some (.int .i64 f.k) := by rw [HB6.out.cell (p := ⟨w.heap.size, 2, none⟩) hz1]; exact x2
    have hzw : w.heap.size < w6.heap.size := by have := HB6.out.size; omega
    have HS6 : Hid (Slice w6 a cap l) := HS.out.below HB6.out
    have HBW6 : Hid (Below w.heap.size w w6) := HB1.out.trans (HB6.out.mono HB1.out.size)
    clear hb x0 x1 x2 HB5 HB6 HS HB1 hz1
    -- shelf.Put, PutFile
    go_wp2_with fail
    refine (put_any a cap l f _ hzf HG.out (by exact HS6.out.below ((Below.refl _ _).alloc (Nat.le_refl _) _))).mono ?_
    rintro e w7 ⟨v1, rfl, hown, hb⟩
    obtain ⟨a1, cap1, rfl, hs1⟩ := hown.slice
    generalize hW6 : w6.alloc (.cells #[.string g.n, .string g.t, .int .i64 g.k] 23) = W6 at hb
    have HW6 : Hid (w6.alloc (.cells #[.string g.n, .string g.t, .int .i64 g.k] 23) = W6) := hW6
    have HB7 : Hid (Below W6.heap.size W6 w7) := hb
    have HSP : Hid (Slice w7 a1 cap1 (putL l f)) := hs1
    have u0 : w7.cell? ⟨w.heap.size, 0, none⟩ = some (.string f.n) := by rw [hb.cell (p := ⟨w.heap.size, 0, none⟩) (by rw [← hW6]; simp; omega), ← hW6]; simp [go_sem, hzw, y0]
    have u1 : w7.cell? ⟨w.heap.size, 1, none⟩ = some (.string f.t) := by rw [hb.cell (p := ⟨w.heap.size, 1, none⟩) (by rw [← hW6]; simp; omega), ← hW6]; simp [go_sem, hzw, y1]
    have u2 : w7.cell? ⟨w.heap.size, 2, none⟩ = some (.int .i64 f.k) := by rw [hb.cell (p := ⟨w.heap.size, 2, none⟩) (by rw [← hW6]; simp; omega), ← hW6]; simp [go_sem, hzw, y2]
    have HS7 : Hid (Slice w7 a cap l) := by rw [← hW6] at hb; exact (HS6.out.below ((Below.refl _ _).alloc (Nat.le_refl _) _)).below hb
    clear hb hown hs1 hW6 y0 y1 y2
    go_wp2_with fail
    refine (putFile_any a cap l f _ hzf HG.out HS7.out).mono ?_
    rintro e w8 ⟨v2, rfl, hown, hb⟩
    obtain ⟨a2, cap2, rfl, hs2⟩ := hown.slice
    have HSQ : Hid (Slice w8 a2 cap2 (putL l f)) := hs2
    have HSP8 : Hid (Slice w8 a1 cap1 (putL l f)) := HSP.out.below hb
    have HS8 : Hid (Slice w8 a cap l) := HS7.out.below hb
    have HB8 : Hid (Below W6.heap.size W6 w8) := HB7.out.trans (hb.mono HB7.out.size)
    clear hb hown hs2 HS7 HSP u0 u1 u2 HB7
    go_wp2_with fail
    refine (drop_any a cap l name _ HG.out HS8.out).mono ?_
    rintro e w9 ⟨v3, rfl, hown, hb⟩
    obtain ⟨a3, cap3, rfl, hs3⟩ := hown.slice
    have HSX : Hid (Slice w9 a3 cap3 (dropL l name)) := hs3
    have HSP9 : Hid (Slice w9 a1 cap1 (putL l f)) := HSP8.out.below hb
    have HSQ9 : Hid (Slice w9 a2 cap2 (putL l f)) := HSQ.out.below hb
    have HS9 : Hid (Slice w9 a cap l) := HS8.out.below hb
    have HB9 : Hid (Below W6.heap.size W6 w9) := HB8.out.trans (hb.mono HB8.out.size)
    clear hb hown hs3 HS8 HSP8 HSQ HB8
    go_wp2_with fail
    refine (dropFile_all a cap l name _ HG.out HS9.out).mono ?_
    rintro e w10 ⟨v4, rfl, hown, hb⟩
    obtain ⟨a4, cap4, rfl, hs4⟩ := hown.slice
    have HSY : Hid (Slice w10 a4 cap4 (dropL l name)) := hs4
    have HSX10 : Hid (Slice w10 a3 cap3 (dropL l name)) := HSX.out.below hb
    have HSP10 : Hid (Slice w10 a1 cap1 (putL l f)) := HSP9.out.below hb
    have HSQ10 : Hid (Slice w10 a2 cap2 (putL l f)) := HSQ9.out.below hb
    have HB10 : Hid (Below W6.heap.size W6 w10) := HB9.out.trans (hb.mono HB9.out.size)
    clear hb hown hs4 HS9 HSP9 HSQ9 HSX HB9
    have q0 : w10.cell? ⟨w6.heap.size, 0, none⟩ = some (.string g.n) := by rw [HB10.out.cell (p := ⟨w6.heap.size, 0, none⟩) (by rw [← HW6.out]; simp), ← HW6.out]; simp [go_sem]
    have q1 : w10.cell? ⟨w6.heap.size, 1, none⟩ = some (.string g.t) := by rw [HB10.out.cell (p := ⟨w6.heap.size, 1, none⟩) (by rw [← HW6.out]; simp), ← HW6.out]; simp [go_sem]
    have q2 : w10.cell? ⟨w6.heap.size, 2, none⟩ = some (.int .i64 g.k) := by rw [HB10.out.cell (p := ⟨w6.heap.size, 2, none⟩) (by rw [← HW6.out]; simp), ← HW6.out]; simp [go_sem]
    obtain ⟨g0, g1, g2⟩ := HG6.out
    have hz56 : w5.heap.size < w6.heap.size := by omega
    have r0 : w10.cell? ⟨w5.heap.size, 0, none⟩ = some (.string g.n) := by rw [HB10.out.cell (p := ⟨w5.heap.size, 0, none⟩) (by rw [← HW6.out]; simp; omega), ← HW6.out]; simp [go_sem, hz56, g0]
    have r1 : w10.cell? ⟨w5.heap.size, 1, none⟩ = some (.string g.t) := by rw [HB10.out.cell (p := ⟨w5.heap.size, 1, none⟩) (by rw [← HW6.out]; simp; omega), ← HW6.out]; simp [go_sem, hz56, g1]
    have r2 : w10.cell? ⟨w5.heap.size, 2, none⟩ = some (.int .i64 g.k) := by rw [HB10.out.cell (p := ⟨w5.heap.size, 2, none⟩) (by rw [← HW6.out]; simp; omega), ← HW6.out]; simp [go_sem, hz56, g2]
    have hq := fun w => run_eql_file g g w
    rw [(eqFi_iff g g).2 rfl] at hq
    have HBF : Hid (Below w.heap.size w w10) := by
      have h := HB10.out
      rw [← HW6.out] at h
      exact (HBW6.out.alloc HBW6.out.size _).trans (h.mono (by simp; have := HBW6.out.size; omega))
    clear g0 g1 g2 HG6
    have hpl : (putL l f).length ≤ 1000 := by have := putL_len l f; omega
    have hdl : (dropL l name).length ≤ 1000 := by have := dropL_len l name; omega
    have HPN := putN_range l f
    have HDN := dropN_range l name
    go_wp2_with fail
    refine (sameFiles_any a1 a2 cap1 cap2 (putL l f) (putL l f) _ hpl hpl HSP10.out.cells HSQ10.out.cells).mono ?_
    rintro e w11 ⟨rfl, n1, hw⟩
    rw [hw, sameL_self]
    clear hw w11
    go_wp2_with fail
    refine (same_yes _ _ HPN.1 HPN.2).mono ?_
    rintro e w11 ⟨rfl, hw⟩
    rw [hw]
    clear hw w11
    go_wp2_with fail
    refine (sameFiles_any a3 a4 cap3 cap4 (dropL l name) (dropL l name) _ hdl hdl (HSX10.out.cells.drewN n1) (HSY.out.cells.drewN n1)).mono ?_
    rintro e w11 ⟨rfl, n2, hw⟩
    rw [hw, sameL_self]
    clear hw w11
    go_wp2_with fail
    refine (same_yes _ _ HDN.1 HDN.2).mono ?_
    rintro e w11 ⟨rfl, hw⟩
    rw [hw]
    clear hw w11
    go_wp2
    go_ret
    refine ⟨rfl, ?_⟩
    repeat (first | exact HBF.out | refine below_drewN ?_ _)
  · have hpos : 0 < filesF l := by have := (filesF_range l).1; omega
    go_wp2
    go_ret
    exact ⟨rfl, HB1.out.trans (HB4.out.mono HB1.out.size)⟩

theorem shelfSays_any (a : Option Addr) (cap : Nat) (l : List Fi) (f : Fi) (name : ByteArray) (w : World) (hz : Sized l) (hs : Slice w a cap l) (hzf : f.n.size ≤ maxLen ∧ f.t.size ≤ maxLen) (hn : name.size ≤ maxLen) :
    Calls Try.prog 4 #[.slice a l.length cap, .agg #[.string f.n, .string f.t, .int .i64 f.k], .string name] w fun e w' => e = .returned (.bool true) ∧ Below w.heap.size w w' := by
  have hl : l.length ≤ maxLen := Nat.le_trans hs.room hs.most
  by_cases h : lightF l = true ∧ lightB f = true ∧ name.size ≤ 20
  · exact shelfSays_heavy a cap l f name w hl hz hzf hn hs h.1 h.2.1 h.2.2
  · exact shelfSays_light a cap l f name w hl hz hzf hn hs h

end Go.Proofs.Ytihnghnafpgdfaa
