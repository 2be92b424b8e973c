/-
  WHAT A ROW SAYS TO A QUILT: image.add.
-/
import Derived.Test.YtihnghnafpgdfabDoorImageQuiltM
import Derived.Test.YtihnghnafpgdfabDoorNums
namespace Go.Proofs.YtihnghnafpgdfabDoor
open Go Go.RowKit Go.BigFrame
set_option linter.unusedVariables false
set_option linter.unusedSimpArgs false

def fileAt (c : Ch) (n : Int) : Fi := ⟨⟨(Lib.trimPrefix c.key.data.toList [102]).toArray⟩, c.val.extract 4 c.val.size, n⟩
/-- What a row says to a quilt. -/
def addP (c : Ch) (fs : List Fi) (t : Int) : Option (List Fi × Int) :=
  if c.val.size < 4 then none else match Lib.atoi (c.val.data.toList.take 4) with
  | none => none
  | some n => if c.key.toList = [116, 117, 114, 110] then some (fs, n) else if Lib.hasPrefix c.key.data.toList [102] = true then some (fs ++ [fileAt c n], t) else none
def AddEnd (w : World) (B : Nat) (c : Ch) (fs : List Fi) (t : Int) (e : Ending) (w' : World) : Prop :=
  (∃ fs' t', addP c fs t = some (fs', t') ∧ e = .returned (.bool true) ∧ QM w' B fs' t' ∧ Below B w w') ∨ (addP c fs t = none ∧ e = .returned (.bool false) ∧ Below B w w')
theorem take4 (s : ByteArray) (h : 4 ≤ s.size) : (s.extract 0 4).data.toList = s.data.toList.take 4 := by
  rw [ba_extract]
  simp

set_option maxRecDepth 100000 in
set_option maxHeartbeats 4000000 in
theorem add_any (B : Nat) (c : Ch) (fs : List Fi) (t : Int) (w : World) (hk : c.key.size ≤ 100) (hv : c.val.size ≤ 100) (hf : fs.length ≤ 100) (hm : QM w B fs t) (hvar : Vars w) :
    Calls Tryd.prog 31 #[.pointer (some ⟨B, 0, none⟩), c.v] w (AddEnd w B c fs t) := by
  obtain ⟨i0, hi, hz0, hz1, hz2⟩ := info_parts Tryd.infoFile
  have HM : Hid (QM w B fs t) := hm
  have HV : Hid (Vars w) := hvar
  have hBl : B < w.heap.size := by obtain ⟨_, _, h, _⟩ := hm; exact h.lt
  clear hm hvar
  by_cases h4 : c.val.size < 4
  · have HN : Hid (addP c fs t = none) := if_pos h4
    have hd : ((c.val.size : Int) < 4) := by omega
    go_enter Tryd.func31, Tryd.ntmps31
    go_wp2_with fail
    go_ret
    exact .inr ⟨HN.out, rfl, (Below.refl _ _).alloc (Nat.le_of_lt hBl) _⟩
  have hd : ¬ ((c.val.size : Int) < 4) := by omega
  have hd4 : (4 : Int) ≤ (c.val.size : Int) := by omega
  obtain ⟨W1, hW⟩ : ∃ x, x = w.alloc (.cells #[.string c.key, .string c.val, .bool c.gone] 41) := ⟨_, rfl⟩
  have HB1 : Hid (Below w.heap.size w W1) := by rw [hW]; exact (Below.refl _ _).alloc (Nat.le_refl _) _
  have HE1 : Hid (W1.cell? ⟨w.heap.size, 0, none⟩ = some (.string c.key) ∧ W1.cell? ⟨w.heap.size, 1, none⟩ = some (.string c.val) ∧ w.heap.size < W1.heap.size) := by rw [hW]; exact ⟨by simp, by simp, by simp⟩
  have HV1 : Hid (Vars W1) := HV.out.below HB1.out
  have hsz : (c.val.extract 0 4).size ≤ 18 := by simp [ByteArray.size_extract]; omega
  have ht4 := take4 c.val (by omega)
  cases ha : Lib.atoi (c.val.data.toList.take 4) with
  | none =>
    have HN : Hid (addP c fs t = none) := by
      show _ = _
      unfold addP
      rw [if_neg h4, ha]
    obtain ⟨tp, p, hvar⟩ := HV1.out.2
    have KA : Hid _ := Tryd.strconv_Atoi_err_var (c.val.extract 0 4) hsz (by rw [ht4]; exact ha) tp p W1 hvar
    clear ht4 ha h4 hvar
    go_enter Tryd.func31, Tryd.ntmps31
    go_wp2_with fail
    rw [← hW]
    clear hW
    refine Calls.mono KA.out ?_
    rintro e w2 ⟨N, rfl, _, _, hb⟩
    have HB2 : Hid (Below w.heap.size w w2) := HB1.out.trans (hb.mono HB1.out.size)
    clear hb
    go_wp2
    go_ret
    exact .inr ⟨HN.out, rfl, HB2.out.mono (Nat.le_of_lt hBl)⟩
  | some n =>
    have KA : Hid _ := Tryd.strconv_Atoi (c.val.extract 0 4) n hsz (by rw [ht4]; exact ha) W1
    have HA : Hid (∀ x, addP c fs t = x ↔ (if c.key.toList = [116, 117, 114, 110] then some (fs, n) else if Lib.hasPrefix c.key.data.toList [102] = true then some (fs ++ [fileAt c n], t) else none) = x) := fun x => by
      unfold addP
      rw [if_neg h4, ha]
    clear ht4 ha h4
    go_enter Tryd.func31, Tryd.ntmps31
    go_wp2_with fail
    rw [← hW]
    clear hW
    refine Calls.mono KA.out ?_
    rintro e w2 ⟨rfl, tb, hw2⟩
    have HB2 : Hid (Below w.heap.size w w2) := by rw [hw2]; exact HB1.out.trans ((Lib.bytesWorld_below _ _ _).mono HB1.out.size)
    have HE2 : Hid (w2.cell? ⟨w.heap.size, 0, none⟩ = some (.string c.key) ∧ w2.cell? ⟨w.heap.size, 1, none⟩ = some (.string c.val) ∧ w.heap.size < w2.heap.size) := by
      have hb : Below W1.heap.size W1 w2 := by rw [hw2]; exact Lib.bytesWorld_below _ _ _
      obtain ⟨e0, e1, el⟩ := HE1.out
      exact ⟨by rw [hb.cell el]; exact e0, by rw [hb.cell el]; exact e1, Nat.lt_of_lt_of_le el hb.size⟩
    clear hw2 KA
    obtain ⟨e0, e1, el⟩ := HE2.out
    obtain ⟨va, vc, hqb, how⟩ := HM.out.far HB2.out
    have HQB : Hid (QBox w2 B (.slice va fs.length vc) t) := hqb
    have HOW0 : Hid (Owns w2 (B + 1) (.slice va fs.length vc) fs) := how
    have HB2' : Hid (Below B w w2) := HB2.out.mono (Nat.le_of_lt hBl)
    obtain ⟨x0, x1, xf0, xf1, xl, _⟩ := hqb
    clear how
    by_cases hkt : c.key.toList = [116, 117, 114, 110]
    · have HN : Hid (addP c fs t = some (fs, n)) := (HA.out _).2 (by rw [if_pos hkt])
      go_wp2_with fail
      go_ret
      exact .inl ⟨fs, n, HN.out, rfl, ⟨va, vc, HQB.out.turn, ownsRow_setCell_below HOW0.out (Nat.lt_succ_self _) _⟩, HB2'.out.setCell (p := ⟨B, 1, none⟩) (Nat.le_refl _) _⟩
    · have hkb : (c.key.toList == [116, 117, 114, 110]) = false := beq_eq_false_iff_ne.2 hkt
      have KP : Hid (∀ W, Calls Tryd.prog 42 #[.string c.key, .string ⟨#[102]⟩] W fun e w' => e = .returned (.tuple #[.string ⟨(Lib.trimPrefix c.key.data.toList [102]).toArray⟩, .bool (Lib.hasPrefix c.key.data.toList [102])]) ∧ w' = W) := fun W => Tryd.strings_CutPrefix c.key ⟨#[102]⟩ W
      have hsz2 : (⟨(Lib.trimPrefix c.key.data.toList [102]).toArray⟩ : ByteArray).size ≤ 100 := by
        have h1 := Lib.trimPrefix_le c.key.data.toList [102]
        have h3 : c.key.data.toList.length = c.key.size := (ba_size _).symm
        rw [ba_size]
        simp only [List.toList_toArray]
        omega
      have HFO : Hid (fileAt c n = ⟨⟨(Lib.trimPrefix c.key.data.toList [102]).toArray⟩, c.val.extract 4 c.val.size, n⟩) := rfl
      have HN : Hid (∀ b, Lib.hasPrefix c.key.data.toList [102] = b → addP c fs t = if b = true then some (fs ++ [fileAt c n], t) else none) := fun b hb => (HA.out _).2 (by rw [if_neg hkt, hb])
      have hBw : B ≤ w.heap.size := Nat.le_of_lt hBl
      have HB2s : Hid (w.heap.size ≤ w2.heap.size) := HB2.out.size
      clear HA
      generalize (⟨(Lib.trimPrefix c.key.data.toList [102]).toArray⟩ : ByteArray) = Y at *
      generalize hP : Lib.hasPrefix c.key.data.toList [102] = P at *
      have HNP : Hid (addP c fs t = if P = true then some (fs ++ [fileAt c n], t) else none) := HN.out P rfl
      clear hP HN
      go_wp2_with fail
      refine Calls.mono (KP.out _) ?_
      rintro e w3 ⟨rfl, hw3⟩
      rw [hw3]
      clear hw3 w3 KP
      have HOW : Hid (∀ W, Below w2.heap.size w2 W → Owns W (B + 1) (.slice va fs.length vc) fs) := fun W h => rowI_far HOW0.out h
      have HEND : Hid (∀ W W9 v9, Below w2.heap.size w2 W → W.grownBy W9 (Value.slice va fs.length vc).ownBlock → W9.ownsRow (B + 1) 53 3 v9 (fs.length + 1) (flat fs ++ [.string Y, .string (c.val.extract 4 c.val.size), .int .i64 n]) →
          QBox W9 B (.slice va fs.length vc) t ∧ QM (W9.setCell ⟨B, 0, none⟩ v9) B (fs ++ [fileAt c n]) t ∧ Below B w (W9.setCell ⟨B, 0, none⟩ v9)) := fun W W9 v9 hb hg ho => by
        have hlt9 : ∀ k, (Value.slice va fs.length vc).ownBlock = some k → B + 1 ≤ k := fun k hk => (HOW0.out.lt k hk).1
        have q9 := (HQB.out.below hb HQB.out.lt).grown hg hlt9
        have b9 := (HB2'.out.trans (hb.mono (Nat.le_of_lt HQB.out.lt))).grown hg (Nat.le_trans (Nat.le_of_lt HQB.out.lt) hb.size) (fun k hk => by have := hlt9 k hk; omega)
        have o9 : Owns W9 (B + 1) v9 (fs ++ [fileAt c n]) := by rw [HFO.out]; exact Owns.snoc (f := ⟨Y, c.val.extract 4 c.val.size, n⟩) ho
        obtain ⟨xa, xc, hx⟩ := rowI_shape o9
        refine ⟨q9, ⟨xa, xc, by rw [← hx]; exact q9.files, by rw [← hx]; exact ownsRow_setCell_below o9 (Nat.lt_succ_self _) _⟩, b9.setCell (p := ⟨B, 0, none⟩) (Nat.le_refl _) _⟩
      have hlo5 : B + 1 ≤ w2.heap.size := xl
      have hbX : Hid (∀ o, Below w2.heap.size w2 (w2.drew.alloc o)) := fun o => ((Below.refl _ _).drew).alloc (Nat.le_refl _) o
      have hloa : Hid (∀ o, B + 1 ≤ (w2.drew.alloc o).heap.size) := fun o => Nat.le_trans hlo5 (hbX.out o).size
      have h63 : fs.length + 1 ≤ maxLen := by unfold maxLen; omega
      have hby : (fs.length + 1) * 40 ≤ 140737488355328 := by omega
      clear HOW0
      go_wp2_with fail
      go_region_law
        (first
          | (rw [if_pos (by rfl)]
             refine wp_append_new _ _ 22 rfl (B + 1) 53 i0 _ 3 40 Tryd.underlying22 hi hz0 hz1 hz2 rfl (by decide) (.slice va fs.length vc) fs.length (flat fs) rfl (HOW.out _ (hbX.out _)) ⟨w2.heap.size, 0, none⟩ 1 1 [.string Y, .string (c.val.extract 4 c.val.size), .int .i64 n] rfl rfl (cell_three_new _ _ _ _ _) (three_one ⟨Y, c.val.extract 4 c.val.size, n⟩) h63 hby (hloa.out _) ?_
             intro v9 W9 hown9 hgrow9 hnew9
             obtain ⟨xa, xc, rfl⟩ := rowI_shape hown9
             obtain ⟨hy, hA⟩ := HEND.out _ _ _ (hbX.out _) hgrow9 hown9
             have HAA : Hid _ := hA
             obtain ⟨y0, y1, yf0, yf1, yl, _⟩ := hy
             clear hown9 hgrow9 hnew9 hA))
      all_goals
        cases P
        · go_wp2
          go_ret
          exact .inr ⟨HNP.out, rfl, HAA.out.2⟩
        · go_wp2
          go_ret
          exact .inl ⟨_, _, HNP.out, rfl, HAA.out.1, HAA.out.2⟩
end Go.Proofs.YtihnghnafpgdfabDoor
